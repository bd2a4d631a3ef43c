/- The walk of the fourth law of numbers as bytes: it returns true, and nothing that was there turns. -/
import Derived.Test.YtpelpoeebnhccaaVmLaws
import Derived.Deep.QuietTactic
import Derived.BigQuiet
import Derived.Deep.RegionHeld3
namespace Go.Proofs.Ytpelpoeebnhccaa.Vm
open Go.RowKit
set_option linter.unusedVariables false

set_option maxRecDepth 100000 in
set_option maxHeartbeats 1000000 in
theorem one_gt (s : ByteArray) (n m : Nat) (w : World) (hs : s.size ≤ maxLen) (hn : n ≤ 18446744073709551615) (hm : m ≤ 18446744073709551615) (hnm : m < n) :
    Calls Try.prog 6 #[.string s, .int .u64 n, .int .u64 m] w fun e w' => e = .returned (.bool true) ∧ Below w.heap.size w w' := by
  have hlo := tkS_lo s
  obtain ⟨x, k, e, h⟩ : ∃ n k e, tkS s = (n, k, e) := ⟨_, _, _, rfl⟩
  rw [h] at hlo
  have H := Lib.hid h
  clear h
  have g1 : (m : Int) < (n : Int) := by omega
  have g2 : ((n : Int) == (m : Int)) = false := by simp; omega
  have g3 : (putL n == putL m) = false := by
    have : putL n ≠ putL m := fun h => by have := putL_inj n m (by omega) (by omega) h; omega
    simpa using this
  by_cases he : e = 0
  · subst he
    have h1 := tk_one0 _ _ _ H.out
    obtain ⟨h1a, h1b, h1c, h1d, h1e⟩ := h1
    have hks : k ≤ s.size := by simpa using h1c
    have hstr : (putL x == (s.extract 0 k).toList) = true := by
      have e0 : s.extract 0 k = ⟨(putL x).toArray⟩ := by
        apply ByteArray.ext
        apply Array.toList_inj.1
        rw [h1d]; simp
      rw [e0]; simp
    clear h1c h1d
    have d1 : decide ((k : Int) < 1) = false := decide_eq_false (by omega)
    have d2 : decide ((10 : Int) < (k : Int)) = false := decide_eq_false (by omega)
    have d3 : decide (s.size < k) = false := decide_eq_false (by omega)
    go_enter Try.func6, Try.ntmps6
    go_wp2_with (go_at_call 16; refine (take_ret s _ _ _ H.out _ hs).mono ?_; rintro e w' ⟨rfl, rfl⟩)
    go_region_held3 (fun w' => Below w.heap.size w w') (first | exact (Below.refl _ _).drew | exact hb3) (first | (go_at_call 8; refine (put_any _ _ (by omega)).mono ?_; rintro e w' ⟨rfl, hb2⟩; have hb3 : Below w.heap.size w w' := (Below.refl w.heap.size w).drew.trans hb2))
    have HB := Lib.hid hb3
    clear hb3 hb2
    go_wp2_with (first | (go_at_call 16; refine (take_ret s _ _ _ H.out _ hs).mono ?_; rintro e w' ⟨rfl, rfl⟩) | (go_at_call 9; refine (len_any _ _ (by omega)).mono ?_; rintro e w' ⟨rfl, rfl⟩) | (go_at_call 8; refine (put_any _ _ (by omega)).mono ?_; rintro e w' ⟨rfl, hb2⟩; replace HB := Lib.hid (HB.out.trans (hb2.mono HB.out.size)); clear hb2) | (go_at_call 15; refine (awake_any _).mono ?_; rintro e w' ⟨rfl, hb2⟩; replace HB := Lib.hid (HB.out.trans (hb2.mono HB.out.size)); clear hb2))
    go_ret
    exact ⟨rfl, HB.out⟩
  · have he0 : ((e : Int) == 0) = false := by simpa using he
    go_enter Try.func6, Try.ntmps6
    go_wp2_with (go_at_call 16; refine (take_ret s _ _ _ H.out _ hs).mono ?_; rintro e w' ⟨rfl, rfl⟩)
    go_quiet (fail)
    have HB := Lib.hid (below_drewN (Below.refl w.heap.size w) nq)
    go_wp2_with (first | (go_at_call 16; refine (take_ret s _ _ _ H.out _ hs).mono ?_; rintro e w' ⟨rfl, rfl⟩) | (go_at_call 9; refine (len_any _ _ (by omega)).mono ?_; rintro e w' ⟨rfl, rfl⟩) | (go_at_call 8; refine (put_any _ _ (by omega)).mono ?_; rintro e w' ⟨rfl, hb2⟩; replace HB := Lib.hid (HB.out.trans (hb2.mono HB.out.size)); clear hb2) | (go_at_call 15; refine (awake_any _).mono ?_; rintro e w' ⟨rfl, hb2⟩; replace HB := Lib.hid (HB.out.trans (hb2.mono HB.out.size)); clear hb2))
    go_ret
    exact ⟨rfl, HB.out⟩

set_option maxRecDepth 100000 in
set_option maxHeartbeats 1000000 in
theorem one_lt (s : ByteArray) (n m : Nat) (w : World) (hs : s.size ≤ maxLen) (hn : n ≤ 18446744073709551615) (hm : m ≤ 18446744073709551615) (hnm : n < m) :
    Calls Try.prog 6 #[.string s, .int .u64 n, .int .u64 m] w fun e w' => e = .returned (.bool true) ∧ Below w.heap.size w w' := by
  have hlo := tkS_lo s
  obtain ⟨x, k, e, h⟩ : ∃ n k e, tkS s = (n, k, e) := ⟨_, _, _, rfl⟩
  rw [h] at hlo
  have H := Lib.hid h
  clear h
  have g1 : ¬ (m : Int) < (n : Int) := by omega
  have g2 : ((n : Int) == (m : Int)) = false := by simp; omega
  have g3 : (putL n == putL m) = false := by
    have : putL n ≠ putL m := fun h => by have := putL_inj n m (by omega) (by omega) h; omega
    simpa using this
  have g4 := putL_len_mono m n (by omega)
  have g5 : ((putL n).length : Int) ≤ ((putL m).length : Int) := by omega
  by_cases he : e = 0
  · subst he
    have h1 := tk_one0 _ _ _ H.out
    obtain ⟨h1a, h1b, h1c, h1d, h1e⟩ := h1
    have hks : k ≤ s.size := by simpa using h1c
    have hstr : (putL x == (s.extract 0 k).toList) = true := by
      have e0 : s.extract 0 k = ⟨(putL x).toArray⟩ := by
        apply ByteArray.ext
        apply Array.toList_inj.1
        rw [h1d]; simp
      rw [e0]; simp
    clear h1c h1d
    have d1 : decide ((k : Int) < 1) = false := decide_eq_false (by omega)
    have d2 : decide ((10 : Int) < (k : Int)) = false := decide_eq_false (by omega)
    have d3 : decide (s.size < k) = false := decide_eq_false (by omega)
    go_enter Try.func6, Try.ntmps6
    go_wp2_with (go_at_call 16; refine (take_ret s _ _ _ H.out _ hs).mono ?_; rintro e w' ⟨rfl, rfl⟩)
    go_region_held3 (fun w' => Below w.heap.size w w') (first | exact (Below.refl _ _).drew | exact hb3) (first | (go_at_call 8; refine (put_any _ _ (by omega)).mono ?_; rintro e w' ⟨rfl, hb2⟩; have hb3 : Below w.heap.size w w' := (Below.refl w.heap.size w).drew.trans hb2))
    have HB := Lib.hid hb3
    clear hb3 hb2
    go_wp2_with (first | (go_at_call 16; refine (take_ret s _ _ _ H.out _ hs).mono ?_; rintro e w' ⟨rfl, rfl⟩) | (go_at_call 9; refine (len_any _ _ (by omega)).mono ?_; rintro e w' ⟨rfl, rfl⟩) | (go_at_call 8; refine (put_any _ _ (by omega)).mono ?_; rintro e w' ⟨rfl, hb2⟩; replace HB := Lib.hid (HB.out.trans (hb2.mono HB.out.size)); clear hb2) | (go_at_call 15; refine (awake_any _).mono ?_; rintro e w' ⟨rfl, hb2⟩; replace HB := Lib.hid (HB.out.trans (hb2.mono HB.out.size)); clear hb2))
    go_ret
    exact ⟨rfl, HB.out⟩
  · have he0 : ((e : Int) == 0) = false := by simpa using he
    go_enter Try.func6, Try.ntmps6
    go_wp2_with (go_at_call 16; refine (take_ret s _ _ _ H.out _ hs).mono ?_; rintro e w' ⟨rfl, rfl⟩)
    go_quiet (fail)
    have HB := Lib.hid (below_drewN (Below.refl w.heap.size w) nq)
    go_wp2_with (first | (go_at_call 16; refine (take_ret s _ _ _ H.out _ hs).mono ?_; rintro e w' ⟨rfl, rfl⟩) | (go_at_call 9; refine (len_any _ _ (by omega)).mono ?_; rintro e w' ⟨rfl, rfl⟩) | (go_at_call 8; refine (put_any _ _ (by omega)).mono ?_; rintro e w' ⟨rfl, hb2⟩; replace HB := Lib.hid (HB.out.trans (hb2.mono HB.out.size)); clear hb2) | (go_at_call 15; refine (awake_any _).mono ?_; rintro e w' ⟨rfl, hb2⟩; replace HB := Lib.hid (HB.out.trans (hb2.mono HB.out.size)); clear hb2))
    go_ret
    exact ⟨rfl, HB.out⟩

set_option maxRecDepth 100000 in
set_option maxHeartbeats 1000000 in
theorem one_eq (s : ByteArray) (n : Nat) (w : World) (hs : s.size ≤ maxLen) (hn : n ≤ 18446744073709551615) :
    Calls Try.prog 6 #[.string s, .int .u64 n, .int .u64 n] w fun e w' => e = .returned (.bool true) ∧ Below w.heap.size w w' := by
  have hlo := tkS_lo s
  obtain ⟨x, k, e, h⟩ : ∃ n k e, tkS s = (n, k, e) := ⟨_, _, _, rfl⟩
  rw [h] at hlo
  have H := Lib.hid h
  clear h
  have g1 : ¬ (n : Int) < (n : Int) := by omega
  by_cases he : e = 0
  · subst he
    have h1 := tk_one0 _ _ _ H.out
    obtain ⟨h1a, h1b, h1c, h1d, h1e⟩ := h1
    have hks : k ≤ s.size := by simpa using h1c
    have hstr : (putL x == (s.extract 0 k).toList) = true := by
      have e0 : s.extract 0 k = ⟨(putL x).toArray⟩ := by
        apply ByteArray.ext
        apply Array.toList_inj.1
        rw [h1d]; simp
      rw [e0]; simp
    clear h1c h1d
    have d1 : decide ((k : Int) < 1) = false := decide_eq_false (by omega)
    have d2 : decide ((10 : Int) < (k : Int)) = false := decide_eq_false (by omega)
    have d3 : decide (s.size < k) = false := decide_eq_false (by omega)
    go_enter Try.func6, Try.ntmps6
    go_wp2_with (go_at_call 16; refine (take_ret s _ _ _ H.out _ hs).mono ?_; rintro e w' ⟨rfl, rfl⟩)
    go_region_held3 (fun w' => Below w.heap.size w w') (first | exact (Below.refl _ _).drew | exact hb3) (first | (go_at_call 8; refine (put_any _ _ (by omega)).mono ?_; rintro e w' ⟨rfl, hb2⟩; have hb3 : Below w.heap.size w w' := (Below.refl w.heap.size w).drew.trans hb2))
    have HB := Lib.hid hb3
    clear hb3 hb2
    go_wp2_with (first | (go_at_call 16; refine (take_ret s _ _ _ H.out _ hs).mono ?_; rintro e w' ⟨rfl, rfl⟩) | (go_at_call 9; refine (len_any _ _ (by omega)).mono ?_; rintro e w' ⟨rfl, rfl⟩) | (go_at_call 8; refine (put_any _ _ (by omega)).mono ?_; rintro e w' ⟨rfl, hb2⟩; replace HB := Lib.hid (HB.out.trans (hb2.mono HB.out.size)); clear hb2) | (go_at_call 15; refine (awake_any _).mono ?_; rintro e w' ⟨rfl, hb2⟩; replace HB := Lib.hid (HB.out.trans (hb2.mono HB.out.size)); clear hb2))
    go_ret
    exact ⟨rfl, HB.out⟩
  · have he0 : ((e : Int) == 0) = false := by simpa using he
    go_enter Try.func6, Try.ntmps6
    go_wp2_with (go_at_call 16; refine (take_ret s _ _ _ H.out _ hs).mono ?_; rintro e w' ⟨rfl, rfl⟩)
    go_quiet (fail)
    have HB := Lib.hid (below_drewN (Below.refl w.heap.size w) nq)
    go_wp2_with (first | (go_at_call 16; refine (take_ret s _ _ _ H.out _ hs).mono ?_; rintro e w' ⟨rfl, rfl⟩) | (go_at_call 9; refine (len_any _ _ (by omega)).mono ?_; rintro e w' ⟨rfl, rfl⟩) | (go_at_call 8; refine (put_any _ _ (by omega)).mono ?_; rintro e w' ⟨rfl, hb2⟩; replace HB := Lib.hid (HB.out.trans (hb2.mono HB.out.size)); clear hb2) | (go_at_call 15; refine (awake_any _).mono ?_; rintro e w' ⟨rfl, hb2⟩; replace HB := Lib.hid (HB.out.trans (hb2.mono HB.out.size)); clear hb2))
    go_ret
    exact ⟨rfl, HB.out⟩

theorem one_walk (s : ByteArray) (n m : Nat) (w : World) (hs : s.size ≤ maxLen) (hn : n ≤ 18446744073709551615) (hm : m ≤ 18446744073709551615) :
    Calls Try.prog 6 #[.string s, .int .u64 n, .int .u64 m] w fun e w' => e = .returned (.bool true) ∧ Below w.heap.size w w' := by
  rcases Nat.lt_trichotomy n m with h | h | h
  · exact one_lt s n m w hs hn hm h
  · subst h; exact one_eq s n w hs hn
  · exact one_gt s n m w hs hn hm h
end Go.Proofs.Ytpelpoeebnhccaa.Vm
