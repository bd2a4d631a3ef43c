/- Padded texts: what is padded is unpadded; the walks of PadPads, PadUnpads, PadBack. -/
import Derived.Test.YtjgckbdmopcdgaaPdTake
namespace Go.Proofs.Ytjgckbdmopcdgaa.Pd
open Go.RowKit Cm
set_option linter.unusedVariables false
set_option linter.unusedSimpArgs false

theorem hd2_bytes (n : Nat) (h : n ≤ 1022) : bt (hd2 n) 0 * 256 + bt (hd2 n) 1 = n := by
  have e0 : bt (hd2 n) 0 = (UInt8.ofNat (n / 256)).toNat := rfl
  have e1 : bt (hd2 n) 1 = (UInt8.ofNat (n % 256)).toNat := rfl
  rw [e0, e1, u8n _ (by omega), u8n _ (by omega)]
  omega
/-- What is padded is unpadded. -/
theorem up_pad (s p : ByteArray) (h : pdS s = (p, 0)) : upS p = (s, 0) := by
  by_cases hn : 1022 < s.size
  · rw [pdS_long s hn] at h
    simp at h
  · have hh := pdS_good s hn
    have hp : p = hd2 s.size ++ s ++ zsB (clN s.size - 2 - s.size) := by
      rw [h] at hh; exact congrArg Prod.fst hh
    have z : (hd2 s.size).size = 2 := rfl
    have hz : p.size = 2 + s.size + (clN s.size - 2 - s.size) := by rw [hp, ByteArray.size_append, ByteArray.size_append, zsB_size, z]
    have hb : bt p 0 * 256 + bt p 1 = s.size := by
      rw [hp, bt_app _ _ _ (by rw [ByteArray.size_append, z]; omega), bt_app _ _ _ (by rw [z]; omega), bt_app _ _ _ (by rw [ByteArray.size_append, z]; omega), bt_app _ _ _ (by rw [z]; omega)]
      exact hd2_bytes _ (by omega)
    have hx : p.extract 2 (2 + (bt p 0 * 256 + bt p 1)) = s := by
      rw [hb]
      have := ext_mid (hd2 s.size) s (zsB (clN s.size - 2 - s.size))
      rw [z] at this
      rw [hp, app_assoc, this]
    have := upS_good p (by omega) (by rw [hb]; omega) (by rw [hx]; exact h)
    rw [this, hx]
theorem up_ok (b s : ByteArray) (h : upS b = (s, 0)) : pdS s = (b, 0) ∧ s.size ≤ b.size := by
  by_cases h1 : b.size < 2
  · rw [upS_short b h1] at h; simp at h
  · by_cases h2 : b.size < 2 + (bt b 0 * 256 + bt b 1)
    · rw [upS_cut b h1 h2] at h; simp at h
    · by_cases h3 : pdS (b.extract 2 (2 + (bt b 0 * 256 + bt b 1))) = (b, 0)
      · rw [upS_good b h1 h2 h3] at h
        have e : b.extract 2 (2 + (bt b 0 * 256 + bt b 1)) = s := congrArg Prod.fst h
        rw [e] at h3
        refine ⟨h3, ?_⟩
        rw [← e, ByteArray.size_extract]; omega
      · rw [upS_bad b h1 h2 h3] at h; simp at h
theorem up_err (b s : ByteArray) (e : Nat) (h : upS b = (s, e)) : e = 0 ∨ e = 1 := by
  by_cases h1 : b.size < 2
  · rw [upS_short b h1] at h; simp at h; omega
  · by_cases h2 : b.size < 2 + (bt b 0 * 256 + bt b 1)
    · rw [upS_cut b h1 h2] at h; simp at h; omega
    · by_cases h3 : pdS (b.extract 2 (2 + (bt b 0 * 256 + bt b 1))) = (b, 0)
      · rw [upS_good b h1 h2 h3] at h; simp at h; omega
      · rw [upS_bad b h1 h2 h3] at h; simp at h; omega
theorem pd_size (s p : ByteArray) (h : pdS s = (p, 0)) : s.size ≤ 1022 ∧ clS (s.size : Int) = (p.size, 0) := by
  by_cases hn : 1022 < s.size
  · rw [pdS_long s hn] at h
    simp at h
  · have hh := pdS_good s hn
    have hp : p = hd2 s.size ++ s ++ zsB (clN s.size - 2 - s.size) := by
      rw [h] at hh; exact congrArg Prod.fst hh
    have z : (hd2 s.size).size = 2 := rfl
    have hz : p.size = 2 + s.size + (clN s.size - 2 - s.size) := by rw [hp, ByteArray.size_append, ByteArray.size_append, zsB_size, z]
    obtain ⟨r1, r2⟩ := clN_room s.size (by omega)
    refine ⟨by omega, ?_⟩
    rw [clS_good _ (by omega) (by omega), Int.toNat_natCast, hz]
    congr 1; omega

theorem pd_two : ∃ x, pdS ⟨#[1, 2]⟩ = (x, 0) ∧ x.size = 32 ∧ x.extract 0 5 = ⟨#[0, 2, 1, 2, 0]⟩ := by
  have z : (⟨#[1, 2]⟩ : ByteArray).size = 2 := rfl
  refine ⟨_, pdS_good ⟨#[1, 2]⟩ (by rw [z]; decide), ?_, ?_⟩
  · rw [ByteArray.size_append, ByteArray.size_append, zsB_size]; rfl
  · apply bytes_eq
    rw [ext_list, app_list, app_list, zsB_list]
    rfl

set_option maxRecDepth 100000 in
theorem awake_any (w : World) :
    Calls Try.prog 6 #[] w fun e w' => e = .returned (.bool true) ∧ Below w.heap.size w w' := by
  obtain ⟨x, hx, hz, he⟩ := pd_two
  have HX := Lib.hid hx
  clear hx
  have h5 : (x.extract 0 5).toList = [0, 2, 1, 2, 0] := by rw [ByteArray.toList_eq, he]
  go_enter Try.func6, Try.ntmps6
  go_wp2_with (go_at_call 7; refine (pad_ret _ _ _ HX.out _ (by decide)).mono ?_; rintro e w' ⟨rfl, hb⟩)
  go_ret
  exact ⟨rfl, hb⟩

theorem cl_three (n : Int) : (n < 0 ∧ clS n = (0, 1) ∧ rcN n = 0) ∨ (¬ n < 0 ∧ 1022 < n ∧ clS n = (0, 3) ∧ rcN n = 0) ∨ (¬ n < 0 ∧ ¬ 1022 < n ∧ clS n = (rcN n, 0)) := by
  by_cases h : n < 0
  · exact .inl ⟨h, clS_neg n h, rcN_neg n h⟩
  · by_cases h2 : 1022 < n
    · exact .inr (.inl ⟨h, h2, clS_long n h2, by have := rclass_no n (by omega); omega⟩)
    · exact .inr (.inr ⟨h, h2, by rw [clS_good n (by omega) (by omega), rcN_good n (by omega)]⟩)

set_option maxRecDepth 100000 in
set_option maxHeartbeats 1000000 in
theorem pads_walk (s : ByteArray) (n : Int) (w : World) (hs : s.size ≤ 140737488355327) (h1 : -9223372036854775808 ≤ n) (h2 : n ≤ 9223372036854775807) :
    Calls Try.prog 3 #[.string s, .int .i64 n] w fun e w' => e = .returned (.bool true) ∧ Below w.heap.size w w' := by
  have hB := Below.refl w.heap.size w
  by_cases hl : 5000 < s.size
  · have hl' : (5000 : Int) < (s.size : Int) := by omega
    go_enter Try.func3, Try.ntmps3
    go_wp2_with (go_at_call 6; refine (awake_any _).mono ?_; rintro e w4 ⟨rfl, hb⟩; replace hB := hB.trans (hb.mono hB.size); clear hb)
    go_ret
    exact ⟨rfl, hB⟩
  · have hl' : ¬ (5000 : Int) < (s.size : Int) := by omega
    obtain ⟨x, e, hp⟩ : ∃ x e, pdS s = (x, e) := ⟨_, _, rfl⟩
    obtain ⟨c, hr⟩ : ∃ c, rcN n = c := ⟨_, rfl⟩
    have hc := cl_three n
    rw [hr] at hc
    have HP := Lib.hid hp
    have HR := Lib.hid hr
    clear hp hr
    rcases hc with ⟨h3, hc, rfl⟩ | ⟨h3, h4, hc, rfl⟩ | ⟨h3, h4, hc⟩
    all_goals
      have HC := Lib.hid hc
      clear hc
      go_enter Try.func3, Try.ntmps3
      go_wp2_with (first
        | (go_at_call 7; refine (pad_ret s _ _ HP.out _ (by omega)).mono ?_; rintro e w2 ⟨rfl, hb⟩; replace hB := hB.trans (hb.mono hB.size); clear hb)
        | (go_at_call 8; refine (rpad_ret s _ _ HP.out _ (by omega)).mono ?_; rintro e w3 ⟨rfl, hb⟩; replace hB := hB.trans (hb.mono hB.size); clear hb)
        | (go_at_call 9; refine (class_ret n _ _ HC.out _ h1 h2).mono ?_; rintro e w4 ⟨rfl, rfl⟩)
        | (go_at_call 10; refine (rclass_ret n _ HR.out _ h1 h2).mono ?_; rintro e w5 ⟨rfl, hb⟩; replace hB := hB.trans (hb.mono hB.size); clear hb)
        | (go_at_call 11; refine (most_any _).mono ?_; rintro e w6 ⟨rfl, rfl⟩)
        | (go_at_call 6; refine (awake_any _).mono ?_; rintro e w7 ⟨rfl, hb⟩; replace hB := hB.trans (hb.mono hB.size); clear hb))
      go_ret
      exact ⟨rfl, hB⟩

set_option maxRecDepth 100000 in
set_option maxHeartbeats 1000000 in
theorem unpads_walk (b : ByteArray) (w : World) (hs : b.size ≤ 140737488355327) :
    Calls Try.prog 4 #[.string b] w fun e w' => e = .returned (.bool true) ∧ Below w.heap.size w w' := by
  have hB := Below.refl w.heap.size w
  by_cases hl : 5000 < b.size
  · have hl' : (5000 : Int) < (b.size : Int) := by omega
    go_enter Try.func4, Try.ntmps4
    go_wp2_with (go_at_call 6; refine (awake_any _).mono ?_; rintro e w4 ⟨rfl, hb⟩; replace hB := hB.trans (hb.mono hB.size); clear hb)
    go_ret
    exact ⟨rfl, hB⟩
  · have hl' : ¬ (5000 : Int) < (b.size : Int) := by omega
    obtain ⟨x, e, hp⟩ : ∃ x e, upS b = (x, e) := ⟨_, _, rfl⟩
    have HP := Lib.hid hp
    clear hp
    go_enter Try.func4, Try.ntmps4
    go_wp2_with (first
      | (go_at_call 12; refine (unpad_ret b _ _ HP.out _ (by omega)).mono ?_; rintro e w2 ⟨rfl, hb⟩; replace hB := hB.trans (hb.mono hB.size); clear hb)
      | (go_at_call 13; refine (runpad_ret b _ _ HP.out _ (by omega)).mono ?_; rintro e w3 ⟨rfl, hb⟩; replace hB := hB.trans (hb.mono hB.size); clear hb)
      | (go_at_call 6; refine (awake_any _).mono ?_; rintro e w7 ⟨rfl, hb⟩; replace hB := hB.trans (hb.mono hB.size); clear hb))
    go_ret
    exact ⟨rfl, hB⟩
end Go.Proofs.Ytjgckbdmopcdgaa.Pd
