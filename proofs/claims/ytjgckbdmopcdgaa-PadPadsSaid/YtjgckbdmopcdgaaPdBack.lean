/- Padded texts: the walk of PadBack. -/
import Derived.Test.YtjgckbdmopcdgaaPdLaws
namespace Go.Proofs.Ytjgckbdmopcdgaa.Pd
open Go.RowKit Cm
set_option linter.unusedVariables false
set_option linter.unusedSimpArgs false

/-- A text, padded, and the class of its length: both, or neither. -/
theorem pd_two_ways (s : ByteArray) : (∃ p, pdS s = (p, 0) ∧ clS (s.size : Int) = (p.size, 0) ∧ s.size ≤ 1022 ∧ upS p = (s, 0) ∧ p.size ≤ 1024) ∨ (pdS s = (⟨#[]⟩, 3) ∧ clS (s.size : Int) = (0, 3)) := by
  by_cases hn : 1022 < s.size
  · exact .inr ⟨pdS_long s hn, clS_long _ (by omega)⟩
  · have h := pdS_good s hn
    obtain ⟨h1, h2⟩ := pd_size s _ h
    refine .inl ⟨_, h, h2, h1, up_pad s _ h, ?_⟩
    obtain ⟨r1, r2⟩ := clN_room s.size (by omega)
    rw [ByteArray.size_append, ByteArray.size_append, zsB_size]
    have z : (hd2 s.size).size = 2 := rfl
    rw [z]; omega
theorem up_two_ways (b : ByteArray) : (∃ s, upS b = (s, 0) ∧ pdS s = (b, 0) ∧ s.size ≤ b.size) ∨ upS b = (⟨#[]⟩, 1) := by
  obtain ⟨s, e, h⟩ : ∃ s e, upS b = (s, e) := ⟨_, _, rfl⟩
  rcases up_err b s e h with rfl | rfl
  · obtain ⟨h1, h2⟩ := up_ok b s h
    exact .inl ⟨s, h, h1, h2⟩
  · right
    rw [h]
    by_cases h1 : b.size < 2
    · rw [upS_short b h1] at h; exact h.symm
    · by_cases h2 : b.size < 2 + (bt b 0 * 256 + bt b 1)
      · rw [upS_cut b h1 h2] at h; exact h.symm
      · by_cases h3 : pdS (b.extract 2 (2 + (bt b 0 * 256 + bt b 1))) = (b, 0)
        · rw [upS_good b h1 h2 h3] at h; simp at h
        · rw [upS_bad b h1 h2 h3] at h; exact h.symm

set_option maxRecDepth 100000 in
set_option maxHeartbeats 1000000 in
theorem back_111 (a b p q s : ByteArray) (w : World) (ha : a.size ≤ 5000) (hb5 : b.size ≤ 5000)
    (HP : Hid (pdS a = (p, 0))) (HX : Hid (clS (a.size : Int) = (p.size, 0))) (HUP : Hid (upS p = (a, 0))) (hps : p.size ≤ 1024) (HQ : Hid (pdS b = (q, 0))) (HY : Hid (clS (b.size : Int) = (q.size, 0))) (HU : Hid (upS b = (s, 0))) (HZ : Hid (pdS s = (b, 0))) (hzs : s.size ≤ b.size) :
    Calls Try.prog 5 #[.string a, .string b] w fun e w' => e = .returned (.bool true) ∧ Below w.heap.size w w' := by
  have hB := Below.refl w.heap.size w
  have hl' : ¬ (5000 : Int) < (a.size : Int) := by omega
  have hm' : ¬ (5000 : Int) < (b.size : Int) := by omega
  by_cases hpq : (p.size : Int) = (q.size : Int)
  all_goals
    go_enter Try.func5, Try.ntmps5
    go_wp2_with (first
      | (go_at_call 7; ((with_reducible refine (pad_ret a _ _ HP.out _ (by omega)).mono ?_); rintro e w2 ⟨rfl, hb⟩); replace hB := hB.trans (hb.mono hB.size); clear hb)
      | (go_at_call 7; ((with_reducible refine (pad_ret b _ _ HQ.out _ (by omega)).mono ?_); rintro e w3 ⟨rfl, hb⟩); replace hB := hB.trans (hb.mono hB.size); clear hb)
      | (go_at_call 9; ((with_reducible refine (class_ret a.size _ _ HX.out _ (by omega) (by omega)).mono ?_); rintro e w4 ⟨rfl, rfl⟩))
      | (go_at_call 9; ((with_reducible refine (class_ret b.size _ _ HY.out _ (by omega) (by omega)).mono ?_); rintro e w4 ⟨rfl, rfl⟩))
      | (go_at_call 12; ((with_reducible refine (unpad_ret p _ _ HUP.out _ (by omega)).mono ?_); rintro e w5 ⟨rfl, hb⟩); replace hB := hB.trans (hb.mono hB.size); clear hb)
      | (go_at_call 12; ((with_reducible refine (unpad_ret b _ _ HU.out _ (by omega)).mono ?_); rintro e w6 ⟨rfl, hb⟩); replace hB := hB.trans (hb.mono hB.size); clear hb)
      | (go_at_call 7; ((with_reducible refine (pad_ret s _ _ HZ.out _ (by omega)).mono ?_); rintro e w4 ⟨rfl, hb⟩); replace hB := hB.trans (hb.mono hB.size); clear hb)
      | (go_at_call 6; refine (awake_any _).mono ?_; rintro e w7 ⟨rfl, hb⟩; replace hB := hB.trans (hb.mono hB.size); clear hb))
    go_ret
    exact ⟨rfl, hB⟩

set_option maxRecDepth 100000 in
set_option maxHeartbeats 1000000 in
theorem back_110 (a b p q : ByteArray) (w : World) (ha : a.size ≤ 5000) (hb5 : b.size ≤ 5000)
    (HP : Hid (pdS a = (p, 0))) (HX : Hid (clS (a.size : Int) = (p.size, 0))) (HUP : Hid (upS p = (a, 0))) (hps : p.size ≤ 1024) (HQ : Hid (pdS b = (q, 0))) (HY : Hid (clS (b.size : Int) = (q.size, 0))) (HU : Hid (upS b = (⟨#[]⟩, 1))) :
    Calls Try.prog 5 #[.string a, .string b] w fun e w' => e = .returned (.bool true) ∧ Below w.heap.size w w' := by
  have hB := Below.refl w.heap.size w
  have hl' : ¬ (5000 : Int) < (a.size : Int) := by omega
  have hm' : ¬ (5000 : Int) < (b.size : Int) := by omega
  by_cases hpq : (p.size : Int) = (q.size : Int)
  all_goals
    go_enter Try.func5, Try.ntmps5
    go_wp2_with (first
      | (go_at_call 7; ((with_reducible refine (pad_ret a _ _ HP.out _ (by omega)).mono ?_); rintro e w2 ⟨rfl, hb⟩); replace hB := hB.trans (hb.mono hB.size); clear hb)
      | (go_at_call 7; ((with_reducible refine (pad_ret b _ _ HQ.out _ (by omega)).mono ?_); rintro e w3 ⟨rfl, hb⟩); replace hB := hB.trans (hb.mono hB.size); clear hb)
      | (go_at_call 9; ((with_reducible refine (class_ret a.size _ _ HX.out _ (by omega) (by omega)).mono ?_); rintro e w4 ⟨rfl, rfl⟩))
      | (go_at_call 9; ((with_reducible refine (class_ret b.size _ _ HY.out _ (by omega) (by omega)).mono ?_); rintro e w4 ⟨rfl, rfl⟩))
      | (go_at_call 12; ((with_reducible refine (unpad_ret p _ _ HUP.out _ (by omega)).mono ?_); rintro e w5 ⟨rfl, hb⟩); replace hB := hB.trans (hb.mono hB.size); clear hb)
      | (go_at_call 12; ((with_reducible refine (unpad_ret b _ _ HU.out _ (by omega)).mono ?_); rintro e w6 ⟨rfl, hb⟩); replace hB := hB.trans (hb.mono hB.size); clear hb)
      | (go_at_call 6; refine (awake_any _).mono ?_; rintro e w7 ⟨rfl, hb⟩; replace hB := hB.trans (hb.mono hB.size); clear hb))
    go_ret
    exact ⟨rfl, hB⟩

set_option maxRecDepth 100000 in
set_option maxHeartbeats 1000000 in
theorem back_101 (a b p s : ByteArray) (w : World) (ha : a.size ≤ 5000) (hb5 : b.size ≤ 5000)
    (HP : Hid (pdS a = (p, 0))) (HX : Hid (clS (a.size : Int) = (p.size, 0))) (HUP : Hid (upS p = (a, 0))) (hps : p.size ≤ 1024) (HQ : Hid (pdS b = (⟨#[]⟩, 3))) (HY : Hid (clS (b.size : Int) = (0, 3))) (HU : Hid (upS b = (s, 0))) (HZ : Hid (pdS s = (b, 0))) (hzs : s.size ≤ b.size) :
    Calls Try.prog 5 #[.string a, .string b] w fun e w' => e = .returned (.bool true) ∧ Below w.heap.size w w' := by
  have hB := Below.refl w.heap.size w
  have hl' : ¬ (5000 : Int) < (a.size : Int) := by omega
  have hm' : ¬ (5000 : Int) < (b.size : Int) := by omega
  go_enter Try.func5, Try.ntmps5
  go_wp2_with (first
    | (go_at_call 7; ((with_reducible refine (pad_ret a _ _ HP.out _ (by omega)).mono ?_); rintro e w2 ⟨rfl, hb⟩); replace hB := hB.trans (hb.mono hB.size); clear hb)
    | (go_at_call 7; ((with_reducible refine (pad_ret b _ _ HQ.out _ (by omega)).mono ?_); rintro e w3 ⟨rfl, hb⟩); replace hB := hB.trans (hb.mono hB.size); clear hb)
    | (go_at_call 9; ((with_reducible refine (class_ret a.size _ _ HX.out _ (by omega) (by omega)).mono ?_); rintro e w4 ⟨rfl, rfl⟩))
    | (go_at_call 9; ((with_reducible refine (class_ret b.size _ _ HY.out _ (by omega) (by omega)).mono ?_); rintro e w4 ⟨rfl, rfl⟩))
    | (go_at_call 12; ((with_reducible refine (unpad_ret p _ _ HUP.out _ (by omega)).mono ?_); rintro e w5 ⟨rfl, hb⟩); replace hB := hB.trans (hb.mono hB.size); clear hb)
    | (go_at_call 12; ((with_reducible refine (unpad_ret b _ _ HU.out _ (by omega)).mono ?_); rintro e w6 ⟨rfl, hb⟩); replace hB := hB.trans (hb.mono hB.size); clear hb)
    | (go_at_call 7; ((with_reducible refine (pad_ret s _ _ HZ.out _ (by omega)).mono ?_); rintro e w4 ⟨rfl, hb⟩); replace hB := hB.trans (hb.mono hB.size); clear hb)
    | (go_at_call 6; refine (awake_any _).mono ?_; rintro e w7 ⟨rfl, hb⟩; replace hB := hB.trans (hb.mono hB.size); clear hb))
  go_ret
  exact ⟨rfl, hB⟩

set_option maxRecDepth 100000 in
set_option maxHeartbeats 1000000 in
theorem back_100 (a b p : ByteArray) (w : World) (ha : a.size ≤ 5000) (hb5 : b.size ≤ 5000)
    (HP : Hid (pdS a = (p, 0))) (HX : Hid (clS (a.size : Int) = (p.size, 0))) (HUP : Hid (upS p = (a, 0))) (hps : p.size ≤ 1024) (HQ : Hid (pdS b = (⟨#[]⟩, 3))) (HY : Hid (clS (b.size : Int) = (0, 3))) (HU : Hid (upS b = (⟨#[]⟩, 1))) :
    Calls Try.prog 5 #[.string a, .string b] w fun e w' => e = .returned (.bool true) ∧ Below w.heap.size w w' := by
  have hB := Below.refl w.heap.size w
  have hl' : ¬ (5000 : Int) < (a.size : Int) := by omega
  have hm' : ¬ (5000 : Int) < (b.size : Int) := by omega
  go_enter Try.func5, Try.ntmps5
  go_wp2_with (first
    | (go_at_call 7; ((with_reducible refine (pad_ret a _ _ HP.out _ (by omega)).mono ?_); rintro e w2 ⟨rfl, hb⟩); replace hB := hB.trans (hb.mono hB.size); clear hb)
    | (go_at_call 7; ((with_reducible refine (pad_ret b _ _ HQ.out _ (by omega)).mono ?_); rintro e w3 ⟨rfl, hb⟩); replace hB := hB.trans (hb.mono hB.size); clear hb)
    | (go_at_call 9; ((with_reducible refine (class_ret a.size _ _ HX.out _ (by omega) (by omega)).mono ?_); rintro e w4 ⟨rfl, rfl⟩))
    | (go_at_call 9; ((with_reducible refine (class_ret b.size _ _ HY.out _ (by omega) (by omega)).mono ?_); rintro e w4 ⟨rfl, rfl⟩))
    | (go_at_call 12; ((with_reducible refine (unpad_ret p _ _ HUP.out _ (by omega)).mono ?_); rintro e w5 ⟨rfl, hb⟩); replace hB := hB.trans (hb.mono hB.size); clear hb)
    | (go_at_call 12; ((with_reducible refine (unpad_ret b _ _ HU.out _ (by omega)).mono ?_); rintro e w6 ⟨rfl, hb⟩); replace hB := hB.trans (hb.mono hB.size); clear hb)
    | (go_at_call 6; refine (awake_any _).mono ?_; rintro e w7 ⟨rfl, hb⟩; replace hB := hB.trans (hb.mono hB.size); clear hb))
  go_ret
  exact ⟨rfl, hB⟩

set_option maxRecDepth 100000 in
set_option maxHeartbeats 1000000 in
theorem back_011 (a b q s : ByteArray) (w : World) (ha : a.size ≤ 5000) (hb5 : b.size ≤ 5000)
    (HP : Hid (pdS a = (⟨#[]⟩, 3))) (HX : Hid (clS (a.size : Int) = (0, 3))) (HQ : Hid (pdS b = (q, 0))) (HY : Hid (clS (b.size : Int) = (q.size, 0))) (HU : Hid (upS b = (s, 0))) (HZ : Hid (pdS s = (b, 0))) (hzs : s.size ≤ b.size) :
    Calls Try.prog 5 #[.string a, .string b] w fun e w' => e = .returned (.bool true) ∧ Below w.heap.size w w' := by
  have hB := Below.refl w.heap.size w
  have hl' : ¬ (5000 : Int) < (a.size : Int) := by omega
  have hm' : ¬ (5000 : Int) < (b.size : Int) := by omega
  go_enter Try.func5, Try.ntmps5
  go_wp2_with (first
    | (go_at_call 7; ((with_reducible refine (pad_ret a _ _ HP.out _ (by omega)).mono ?_); rintro e w2 ⟨rfl, hb⟩); replace hB := hB.trans (hb.mono hB.size); clear hb)
    | (go_at_call 7; ((with_reducible refine (pad_ret b _ _ HQ.out _ (by omega)).mono ?_); rintro e w3 ⟨rfl, hb⟩); replace hB := hB.trans (hb.mono hB.size); clear hb)
    | (go_at_call 9; ((with_reducible refine (class_ret a.size _ _ HX.out _ (by omega) (by omega)).mono ?_); rintro e w4 ⟨rfl, rfl⟩))
    | (go_at_call 9; ((with_reducible refine (class_ret b.size _ _ HY.out _ (by omega) (by omega)).mono ?_); rintro e w4 ⟨rfl, rfl⟩))
    | (go_at_call 12; ((with_reducible refine (unpad_ret b _ _ HU.out _ (by omega)).mono ?_); rintro e w6 ⟨rfl, hb⟩); replace hB := hB.trans (hb.mono hB.size); clear hb)
    | (go_at_call 7; ((with_reducible refine (pad_ret s _ _ HZ.out _ (by omega)).mono ?_); rintro e w4 ⟨rfl, hb⟩); replace hB := hB.trans (hb.mono hB.size); clear hb)
    | (go_at_call 6; refine (awake_any _).mono ?_; rintro e w7 ⟨rfl, hb⟩; replace hB := hB.trans (hb.mono hB.size); clear hb))
  go_ret
  exact ⟨rfl, hB⟩

set_option maxRecDepth 100000 in
set_option maxHeartbeats 1000000 in
theorem back_010 (a b q : ByteArray) (w : World) (ha : a.size ≤ 5000) (hb5 : b.size ≤ 5000)
    (HP : Hid (pdS a = (⟨#[]⟩, 3))) (HX : Hid (clS (a.size : Int) = (0, 3))) (HQ : Hid (pdS b = (q, 0))) (HY : Hid (clS (b.size : Int) = (q.size, 0))) (HU : Hid (upS b = (⟨#[]⟩, 1))) :
    Calls Try.prog 5 #[.string a, .string b] w fun e w' => e = .returned (.bool true) ∧ Below w.heap.size w w' := by
  have hB := Below.refl w.heap.size w
  have hl' : ¬ (5000 : Int) < (a.size : Int) := by omega
  have hm' : ¬ (5000 : Int) < (b.size : Int) := by omega
  go_enter Try.func5, Try.ntmps5
  go_wp2_with (first
    | (go_at_call 7; ((with_reducible refine (pad_ret a _ _ HP.out _ (by omega)).mono ?_); rintro e w2 ⟨rfl, hb⟩); replace hB := hB.trans (hb.mono hB.size); clear hb)
    | (go_at_call 7; ((with_reducible refine (pad_ret b _ _ HQ.out _ (by omega)).mono ?_); rintro e w3 ⟨rfl, hb⟩); replace hB := hB.trans (hb.mono hB.size); clear hb)
    | (go_at_call 9; ((with_reducible refine (class_ret a.size _ _ HX.out _ (by omega) (by omega)).mono ?_); rintro e w4 ⟨rfl, rfl⟩))
    | (go_at_call 9; ((with_reducible refine (class_ret b.size _ _ HY.out _ (by omega) (by omega)).mono ?_); rintro e w4 ⟨rfl, rfl⟩))
    | (go_at_call 12; ((with_reducible refine (unpad_ret b _ _ HU.out _ (by omega)).mono ?_); rintro e w6 ⟨rfl, hb⟩); replace hB := hB.trans (hb.mono hB.size); clear hb)
    | (go_at_call 6; refine (awake_any _).mono ?_; rintro e w7 ⟨rfl, hb⟩; replace hB := hB.trans (hb.mono hB.size); clear hb))
  go_ret
  exact ⟨rfl, hB⟩

set_option maxRecDepth 100000 in
set_option maxHeartbeats 1000000 in
theorem back_001 (a b s : ByteArray) (w : World) (ha : a.size ≤ 5000) (hb5 : b.size ≤ 5000)
    (HP : Hid (pdS a = (⟨#[]⟩, 3))) (HX : Hid (clS (a.size : Int) = (0, 3))) (HQ : Hid (pdS b = (⟨#[]⟩, 3))) (HY : Hid (clS (b.size : Int) = (0, 3))) (HU : Hid (upS b = (s, 0))) (HZ : Hid (pdS s = (b, 0))) (hzs : s.size ≤ b.size) :
    Calls Try.prog 5 #[.string a, .string b] w fun e w' => e = .returned (.bool true) ∧ Below w.heap.size w w' := by
  have hB := Below.refl w.heap.size w
  have hl' : ¬ (5000 : Int) < (a.size : Int) := by omega
  have hm' : ¬ (5000 : Int) < (b.size : Int) := by omega
  go_enter Try.func5, Try.ntmps5
  go_wp2_with (first
    | (go_at_call 7; ((with_reducible refine (pad_ret a _ _ HP.out _ (by omega)).mono ?_); rintro e w2 ⟨rfl, hb⟩); replace hB := hB.trans (hb.mono hB.size); clear hb)
    | (go_at_call 7; ((with_reducible refine (pad_ret b _ _ HQ.out _ (by omega)).mono ?_); rintro e w3 ⟨rfl, hb⟩); replace hB := hB.trans (hb.mono hB.size); clear hb)
    | (go_at_call 9; ((with_reducible refine (class_ret a.size _ _ HX.out _ (by omega) (by omega)).mono ?_); rintro e w4 ⟨rfl, rfl⟩))
    | (go_at_call 9; ((with_reducible refine (class_ret b.size _ _ HY.out _ (by omega) (by omega)).mono ?_); rintro e w4 ⟨rfl, rfl⟩))
    | (go_at_call 12; ((with_reducible refine (unpad_ret b _ _ HU.out _ (by omega)).mono ?_); rintro e w6 ⟨rfl, hb⟩); replace hB := hB.trans (hb.mono hB.size); clear hb)
    | (go_at_call 7; ((with_reducible refine (pad_ret s _ _ HZ.out _ (by omega)).mono ?_); rintro e w4 ⟨rfl, hb⟩); replace hB := hB.trans (hb.mono hB.size); clear hb)
    | (go_at_call 6; refine (awake_any _).mono ?_; rintro e w7 ⟨rfl, hb⟩; replace hB := hB.trans (hb.mono hB.size); clear hb))
  go_ret
  exact ⟨rfl, hB⟩

set_option maxRecDepth 100000 in
set_option maxHeartbeats 1000000 in
theorem back_000 (a b : ByteArray) (w : World) (ha : a.size ≤ 5000) (hb5 : b.size ≤ 5000)
    (HP : Hid (pdS a = (⟨#[]⟩, 3))) (HX : Hid (clS (a.size : Int) = (0, 3))) (HQ : Hid (pdS b = (⟨#[]⟩, 3))) (HY : Hid (clS (b.size : Int) = (0, 3))) (HU : Hid (upS b = (⟨#[]⟩, 1))) :
    Calls Try.prog 5 #[.string a, .string b] w fun e w' => e = .returned (.bool true) ∧ Below w.heap.size w w' := by
  have hB := Below.refl w.heap.size w
  have hl' : ¬ (5000 : Int) < (a.size : Int) := by omega
  have hm' : ¬ (5000 : Int) < (b.size : Int) := by omega
  go_enter Try.func5, Try.ntmps5
  go_wp2_with (first
    | (go_at_call 7; ((with_reducible refine (pad_ret a _ _ HP.out _ (by omega)).mono ?_); rintro e w2 ⟨rfl, hb⟩); replace hB := hB.trans (hb.mono hB.size); clear hb)
    | (go_at_call 7; ((with_reducible refine (pad_ret b _ _ HQ.out _ (by omega)).mono ?_); rintro e w3 ⟨rfl, hb⟩); replace hB := hB.trans (hb.mono hB.size); clear hb)
    | (go_at_call 9; ((with_reducible refine (class_ret a.size _ _ HX.out _ (by omega) (by omega)).mono ?_); rintro e w4 ⟨rfl, rfl⟩))
    | (go_at_call 9; ((with_reducible refine (class_ret b.size _ _ HY.out _ (by omega) (by omega)).mono ?_); rintro e w4 ⟨rfl, rfl⟩))
    | (go_at_call 12; ((with_reducible refine (unpad_ret b _ _ HU.out _ (by omega)).mono ?_); rintro e w6 ⟨rfl, hb⟩); replace hB := hB.trans (hb.mono hB.size); clear hb)
    | (go_at_call 6; refine (awake_any _).mono ?_; rintro e w7 ⟨rfl, hb⟩; replace hB := hB.trans (hb.mono hB.size); clear hb))
  go_ret
  exact ⟨rfl, hB⟩
set_option maxRecDepth 100000 in
set_option maxHeartbeats 1000000 in
theorem back_walk (a b : ByteArray) (w : World) (hs : a.size ≤ 140737488355327) (hr : b.size ≤ 140737488355327) :
    Calls Try.prog 5 #[.string a, .string b] w fun e w' => e = .returned (.bool true) ∧ Below w.heap.size w w' := by
  have hB := Below.refl w.heap.size w
  by_cases hl : 5000 < a.size
  · have hl' : (5000 : Int) < (a.size : Int) := by omega
    go_enter Try.func5, Try.ntmps5
    go_wp2_with (go_at_call 6; refine (awake_any _).mono ?_; rintro e w4 ⟨rfl, hb⟩; replace hB := hB.trans (hb.mono hB.size); clear hb)
    go_ret
    exact ⟨rfl, hB⟩
  · have hl' : ¬ (5000 : Int) < (a.size : Int) := by omega
    by_cases hm : 5000 < b.size
    · have hm' : (5000 : Int) < (b.size : Int) := by omega
      go_enter Try.func5, Try.ntmps5
      go_wp2_with (go_at_call 6; refine (awake_any _).mono ?_; rintro e w4 ⟨rfl, hb⟩; replace hB := hB.trans (hb.mono hB.size); clear hb)
      go_ret
      exact ⟨rfl, hB⟩
    · have hm' : ¬ (5000 : Int) < (b.size : Int) := by omega
      have ha5 : a.size ≤ 5000 := by omega
      have hb5 : b.size ≤ 5000 := by omega
      rcases pd_two_ways a with ⟨p, hp, hx, hpa, hup, hps⟩ | ⟨hp, hx⟩ <;> rcases pd_two_ways b with ⟨q, hq, hy, hqa, _, hqs⟩ | ⟨hq, hy⟩ <;> rcases up_two_ways b with ⟨s, hu, hz, hzs⟩ | hu
      · exact back_111 a b p q s w ha5 hb5 hp hx hup hps hq hy hu hz hzs
      · exact back_110 a b p q w ha5 hb5 hp hx hup hps hq hy hu
      · exact back_101 a b p s w ha5 hb5 hp hx hup hps hq hy hu hz hzs
      · exact back_100 a b p w ha5 hb5 hp hx hup hps hq hy hu
      · exact back_011 a b q s w ha5 hb5 hp hx hq hy hu hz hzs
      · exact back_010 a b q w ha5 hb5 hp hx hq hy hu
      · exact back_001 a b s w ha5 hb5 hp hx hq hy hu hz hzs
      · exact back_000 a b w ha5 hb5 hp hx hq hy hu
end Go.Proofs.Ytjgckbdmopcdgaa.Pd
