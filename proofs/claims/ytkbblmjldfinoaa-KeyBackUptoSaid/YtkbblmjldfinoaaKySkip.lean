/- Keys: the contracts of key.Skip and of the reference's Put and Skip; the law KeyPuts' walk. -/
import Derived.Test.YtkbblmjldfinoaaKyBase
namespace Go.Proofs.Ytkbblmjldfinoaa.Vm
open Go.RowKit
set_option linter.unusedVariables false
set_option linter.unusedSimpArgs false

theorem kput_ret (t v : Int) (x : ByteArray) (e : Nat) (h : kpS t v = (x, e)) (w : World) (h1 : -9223372036854775808 ≤ t) (h2 : t ≤ 9223372036854775807) (h3 : -9223372036854775808 ≤ v) (h4 : v ≤ 9223372036854775807) :
    Calls Try.prog 7 #[.int .i64 t, .int .i64 v] w fun y w' => y = .returned (.tuple #[.string x, .int .i64 e]) ∧ Below w.heap.size w w' :=
  (kput_any t v w h1 h2 h3 h4).mono fun _ _ ⟨h1, h2⟩ => ⟨by rw [h1, h]; rfl, h2⟩
theorem ktake_ret (s : ByteArray) (t v k e : Nat) (h : ktS s = (t, v, k, e)) (w : World) (hs : s.size ≤ maxLen) :
    Calls Try.prog 9 #[.string s] w fun y w' => y = .returned (.tuple #[.int .i64 t, .int .i64 v, .int .i64 k, .int .i64 e]) ∧ w = w' :=
  (ktake_any s w hs).mono fun _ _ ⟨h1, h2⟩ => ⟨by rw [h1, h]; rfl, h2⟩
theorem rktake_ret (s : ByteArray) (t v k e : Nat) (h : ktS s = (t, v, k, e)) (w : World) (hs : s.size ≤ maxLen) :
    Calls Try.prog 10 #[.string s] w fun y w' => y = .returned (.tuple #[.int .i64 t, .int .i64 v, .int .i64 k, .int .i64 e]) ∧ w = w' :=
  (rktake_any s w hs).mono fun _ _ ⟨h1, h2⟩ => ⟨by rw [h1, h]; rfl, h2⟩

set_option maxRecDepth 100000 in
set_option maxHeartbeats 1000000 in
theorem rkput_any (t v : Int) (w : World) (h1 : -9223372036854775808 ≤ t) (h2 : t ≤ 9223372036854775807) (h3 : -9223372036854775808 ≤ v) (h4 : v ≤ 9223372036854775807) :
    Calls Try.prog 8 #[.int .i64 t, .int .i64 v] w fun e w' => e = kpV (kpS t v) ∧ Below w.heap.size w w' := by
  have hb0 := Below.refl w.heap.size w
  by_cases ht : t < 1 ∨ 255 < t
  · rw [kpS_tag t v ht]
    by_cases ht1 : t < 1
    · go_enter Try.func8, Try.ntmps8
      go_wp2
      go_ret2
      exact ⟨rfl, hb0⟩
    · have ht2 : 255 < t := by omega
      go_enter Try.func8, Try.ntmps8
      go_wp2
      go_ret2
      exact ⟨rfl, hb0⟩
  · have ht1 : ¬ t < 1 := by omega
    have ht2 : ¬ 255 < t := by omega
    by_cases hv : v ≠ 0 ∧ v ≠ 1
    · rw [kpS_kind t v ht hv]
      have hv0 : (v != 0) = true := by simpa using hv.1
      have hv1 : (v != 1) = true := by simpa using hv.2
      go_enter Try.func8, Try.ntmps8
      go_wp2
      go_ret2
      exact ⟨rfl, hb0⟩
    · rw [kpS_good t v ht hv]
      have hv0 : 0 ≤ v := by omega
      have hv1 : v ≤ 1 := by omega
      obtain ⟨N, hN⟩ : ∃ N : Nat, (2 * t + v).toNat = N := ⟨_, rfl⟩
      have HN := Lib.hid hN
      rw [hN]; clear hN
      by_cases hz : v = 0
      · subst hz
        go_enter Try.func8, Try.ntmps8
        go_wp2_with (go_at_call 23; rw [show 2 * t = (N : Int) by (have := HN.out; omega)]; refine (rput_any _ _ (by have := HN.out; omega)).mono ?_; rintro e w' ⟨rfl, hb⟩)
        go_ret2
        exact ⟨rfl, hb⟩
      · obtain rfl : v = 1 := by omega
        go_enter Try.func8, Try.ntmps8
        go_wp2_with (go_at_call 23; rw [show 2 * t + 1 = (N : Int) by (have := HN.out; omega)]; refine (rput_any _ _ (by have := HN.out; omega)).mono ?_; rintro e w' ⟨rfl, hb⟩)
        go_ret2
        exact ⟨rfl, hb⟩
theorem rkput_ret (t v : Int) (x : ByteArray) (e : Nat) (h : kpS t v = (x, e)) (w : World) (h1 : -9223372036854775808 ≤ t) (h2 : t ≤ 9223372036854775807) (h3 : -9223372036854775808 ≤ v) (h4 : v ≤ 9223372036854775807) :
    Calls Try.prog 8 #[.int .i64 t, .int .i64 v] w fun y w' => y = .returned (.tuple #[.string x, .int .i64 e]) ∧ Below w.heap.size w w' :=
  (rkput_any t v w h1 h2 h3 h4).mono fun _ _ ⟨h1, h2⟩ => ⟨by rw [h1, h]; rfl, h2⟩

theorem kp_one : kpS 1 1 = (⟨#[3]⟩, 0) := by
  rw [kpS_good 1 1 (by decide) (by decide), show (2 * 1 + 1 : Int).toNat = 3 from rfl, putL_lt (by omega)]; rfl
set_option maxRecDepth 100000 in
theorem awake_any (w : World) :
    Calls Try.prog 11 #[] w fun e w' => e = .returned (.bool true) ∧ Below w.heap.size w w' := by
  go_enter Try.func11, Try.ntmps11
  go_wp2_with (go_at_call 7; refine (kput_ret _ _ _ _ kp_one _ (by omega) (by omega) (by omega) (by omega)).mono ?_; rintro e w' ⟨rfl, hb⟩)
  go_ret
  exact ⟨rfl, hb⟩

set_option maxRecDepth 100000 in
set_option maxHeartbeats 1000000 in
theorem kputs_walk (t v : Int) (s : ByteArray) (w : World) (hs : s.size ≤ maxLen) (h1 : -9223372036854775808 ≤ t) (h2 : t ≤ 9223372036854775807) (h3 : -9223372036854775808 ≤ v) (h4 : v ≤ 9223372036854775807) :
    Calls Try.prog 3 #[.int .i64 t, .int .i64 v, .string s] w fun e w' => e = .returned (.bool true) ∧ Below w.heap.size w w' := by
  obtain ⟨x, e, hp⟩ : ∃ x e, kpS t v = (x, e) := ⟨_, _, rfl⟩
  obtain ⟨t', v', k, f, hk⟩ : ∃ t' v' k f, ktS s = (t', v', k, f) := ⟨_, _, _, _, rfl⟩
  have HP := Lib.hid hp
  have HK := Lib.hid hk
  clear hp hk
  have hB := Below.refl w.heap.size w
  go_enter Try.func3, Try.ntmps3
  go_wp2_with (first | (go_at_call 7; refine (kput_ret t v _ _ HP.out _ h1 h2 h3 h4).mono ?_; rintro e w' ⟨rfl, hb2⟩; replace hB := hB.trans (hb2.mono hB.size); clear hb2) | (go_at_call 8; refine (rkput_ret t v _ _ HP.out _ h1 h2 h3 h4).mono ?_; rintro e w' ⟨rfl, hb2⟩; replace hB := hB.trans (hb2.mono hB.size); clear hb2) | (go_at_call 9; refine (ktake_ret s _ _ _ _ HK.out _ hs).mono ?_; rintro e w' ⟨rfl, rfl⟩) | (go_at_call 10; refine (rktake_ret s _ _ _ _ HK.out _ hs).mono ?_; rintro e w' ⟨rfl, rfl⟩) | (go_at_call 11; refine (awake_any _).mono ?_; rintro e w' ⟨rfl, hb2⟩; replace hB := hB.trans (hb2.mono hB.size); clear hb2))
  go_ret
  exact ⟨rfl, hB⟩

theorem fits_maxint (s : ByteArray) (hs : s.size ≤ 281474976710656) (n k e : Nat) (h : tkS s = (n, k, e)) :
    (e ≠ 0 ∧ txS s 9223372036854775807 = (ByteArray.empty, 0, e) ∧ skS s 1 = (0, e) ∧ e ≠ 3) ∨
    (e = 0 ∧ ((txS s 9223372036854775807 = (ByteArray.empty, 0, 3) ∧ skS s 1 = (0, 2)) ∨ (txS s 9223372036854775807 = (ByteArray.empty, 0, 2) ∧ skS s 1 = (0, 2)) ∨ ∃ x, txS s 9223372036854775807 = (x, k + n, 0) ∧ skS s 1 = (k + n, 0))) := by
  by_cases he : e = 0
  · subst he
    obtain ⟨g1, g2, g3, g4⟩ := tkS_good s n k h
    right
    refine ⟨rfl, ?_⟩
    by_cases hm : max 9223372036854775807 0 < (n : Int)
    · left
      exact ⟨txS_bad s _ 0 0 3 (nmS_long s _ n k h hm) (by decide), skS_short s n k h (by omega)⟩
    · right
      have hg := nmS_good s _ n k h hm
      by_cases hz : s.size < k + n
      · left; exact ⟨txS_short s _ n k hg hz, skS_short s n k h hz⟩
      · right; exact ⟨_, txS_good s _ n k hg hz, skS_good s n k h hz⟩
  · left
    obtain ⟨g1, g2, g3⟩ := tkS_bad s n k e h he
    exact ⟨he, txS_bad s _ 0 0 e (nmS_bad s _ n k e h he) he, skS_bad s n k e h he, by omega⟩

set_option maxRecDepth 100000 in
set_option maxHeartbeats 1000000 in
theorem skip_any (s : ByteArray) (v : Int) (w : World) (hs : s.size ≤ 281474976710656) (h3 : -9223372036854775808 ≤ v) (h4 : v ≤ 9223372036854775807) :
    Calls Try.prog 12 #[.string s, .int .i64 v] w fun e w' => e = skV (skS s v) ∧ Below w.heap.size w w' := by
  have hs2 : s.size ≤ maxLen := by unfold maxLen; omega
  have hb0 := Below.refl w.heap.size w
  obtain ⟨n, k, e, h⟩ : ∃ n k e, tkS s = (n, k, e) := ⟨_, _, _, rfl⟩
  have H := Lib.hid h
  by_cases hv : v = 0
  · subst hv
    rw [skS_num s n k e h]
    clear h
    go_enter Try.func12, Try.ntmps12
    go_wp2_with (go_at_call 24; refine (take_ret s _ _ _ H.out _ hs2).mono ?_; rintro e w' ⟨rfl, rfl⟩)
    go_ret2
    exact ⟨rfl, hb0⟩
  · by_cases hv1 : v = 1
    · subst hv1
      rcases fits_maxint s hs n k e h with ⟨he, ht, hk, h3⟩ | ⟨he, ⟨ht, hk⟩ | ⟨ht, hk⟩ | ⟨x, ht, hk⟩⟩
      · rw [hk]
        have HT := Lib.hid ht
        clear ht hk h
        have he3 : ((e : Int) == 3) = false := by simpa using (by omega : ¬ (e : Int) = 3)
        go_enter Try.func12, Try.ntmps12
        go_wp2_with (go_at_call 20; refine (tx_ret s _ _ _ _ HT.out _ hs2 (.inl hs) (by omega) (by omega)).mono ?_; rintro e w' ⟨rfl, hb⟩)
        go_ret2
        exact ⟨rfl, hb⟩
      · rw [hk]
        have HT := Lib.hid ht
        clear ht hk h
        go_enter Try.func12, Try.ntmps12
        go_wp2_with (go_at_call 20; refine (tx_ret s _ _ _ _ HT.out _ hs2 (.inl hs) (by omega) (by omega)).mono ?_; rintro e w' ⟨rfl, hb⟩)
        go_ret2
        exact ⟨rfl, hb⟩
      · rw [hk]
        have HT := Lib.hid ht
        clear ht hk h
        go_enter Try.func12, Try.ntmps12
        go_wp2_with (go_at_call 20; refine (tx_ret s _ _ _ _ HT.out _ hs2 (.inl hs) (by omega) (by omega)).mono ?_; rintro e w' ⟨rfl, hb⟩)
        go_ret2
        exact ⟨rfl, hb⟩
      · rw [hk]
        have HT := Lib.hid ht
        clear ht hk h
        go_enter Try.func12, Try.ntmps12
        go_wp2_with (go_at_call 20; refine (tx_ret s _ _ _ _ HT.out _ hs2 (.inl hs) (by omega) (by omega)).mono ?_; rintro e w' ⟨rfl, hb⟩)
        go_ret2
        exact ⟨rfl, hb⟩
    · rw [skS_kind s v hv hv1]
      clear h
      go_enter Try.func12, Try.ntmps12
      go_wp2
      go_ret2
      exact ⟨rfl, hb0⟩
theorem skip_ret (s : ByteArray) (v : Int) (k e : Nat) (h : skS s v = (k, e)) (w : World) (hs : s.size ≤ 281474976710656) (h3 : -9223372036854775808 ≤ v) (h4 : v ≤ 9223372036854775807) :
    Calls Try.prog 12 #[.string s, .int .i64 v] w fun y w' => y = .returned (.tuple #[.int .i64 k, .int .i64 e]) ∧ Below w.heap.size w w' :=
  (skip_any s v w hs h3 h4).mono fun _ _ ⟨h1, h2⟩ => ⟨by rw [h1, h]; rfl, h2⟩

set_option maxRecDepth 100000 in
set_option maxHeartbeats 1000000 in
theorem rskip_any (s : ByteArray) (v : Int) (w : World) (hs : s.size ≤ 281474976710656) (h3 : -9223372036854775808 ≤ v) (h4 : v ≤ 9223372036854775807) :
    Calls Try.prog 13 #[.string s, .int .i64 v] w fun e w' => e = skV (skS s v) ∧ w = w' := by
  have hs2 : s.size ≤ maxLen := by unfold maxLen; omega
  obtain ⟨n, k, e, h⟩ : ∃ n k e, tkS s = (n, k, e) := ⟨_, _, _, rfl⟩
  have H := Lib.hid h
  by_cases hv : v = 0
  · subst hv
    rw [skS_num s n k e h]
    clear h
    go_enter Try.func13, Try.ntmps13
    go_wp2_with (go_at_call 25; refine (rtake_ret s _ _ _ H.out _ hs2).mono ?_; rintro e w' ⟨rfl, rfl⟩)
    go_ret2
    exact ⟨rfl, rfl⟩
  · by_cases hv1 : v = 1
    · subst hv1
      by_cases he : e = 0
      · subst he
        obtain ⟨g1, g2, g3, g4⟩ := tkS_good s n k h
        by_cases hz : s.size < k + n
        · rw [skS_short s n k h hz]
          clear h
          have hz2 : (s.size : Int) - (k : Int) < (n : Int) := by omega
          go_enter Try.func13, Try.ntmps13
          go_wp2_with (go_at_call 25; refine (rtake_ret s _ _ _ H.out _ hs2).mono ?_; rintro e w' ⟨rfl, rfl⟩)
          go_ret2
          exact ⟨rfl, rfl⟩
        · rw [skS_good s n k h hz]
          clear h
          have hz2 : ¬ (s.size : Int) - (k : Int) < (n : Int) := by omega
          go_enter Try.func13, Try.ntmps13
          go_wp2_with (go_at_call 25; refine (rtake_ret s _ _ _ H.out _ hs2).mono ?_; rintro e w' ⟨rfl, rfl⟩)
          go_ret2
          exact ⟨by unfold skV; simp only [Int.natCast_add]; rfl, rfl⟩
      · rw [skS_bad s n k e h he]
        obtain ⟨g1, g2, g3⟩ := tkS_bad s n k e h he
        subst g1 g2
        clear h
        go_enter Try.func13, Try.ntmps13
        go_wp2_with (go_at_call 25; refine (rtake_ret s _ _ _ H.out _ hs2).mono ?_; rintro e w' ⟨rfl, rfl⟩)
        go_ret2
        exact ⟨rfl, rfl⟩
    · rw [skS_kind s v hv hv1]
      clear h
      go_enter Try.func13, Try.ntmps13
      go_wp2
      go_ret2
      exact ⟨rfl, rfl⟩
theorem rskip_ret (s : ByteArray) (v : Int) (k e : Nat) (h : skS s v = (k, e)) (w : World) (hs : s.size ≤ 281474976710656) (h3 : -9223372036854775808 ≤ v) (h4 : v ≤ 9223372036854775807) :
    Calls Try.prog 13 #[.string s, .int .i64 v] w fun y w' => y = .returned (.tuple #[.int .i64 k, .int .i64 e]) ∧ w = w' :=
  (rskip_any s v w hs h3 h4).mono fun _ _ ⟨h1, h2⟩ => ⟨by rw [h1, h]; rfl, h2⟩
end Go.Proofs.Ytkbblmjldfinoaa.Vm
