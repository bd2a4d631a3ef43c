/- The walks of the four laws of numbers as bytes: each returns true, and nothing that was there turns. -/
import Derived.Test.YtpelpoeebnhccaaVmRefPut
import Derived.Test.YtpelpoeebnhccaaVmTakeInt
namespace Go.Proofs.Ytpelpoeebnhccaa.Vm
open Go.RowKit
set_option linter.unusedVariables false

set_option maxRecDepth 100000 in
theorem puts_walk (n : Nat) (m : Int) (w : World) (hn : n ≤ 18446744073709551615) (h1 : -9223372036854775808 ≤ m) (h2 : m ≤ 9223372036854775807) :
    Calls Try.prog 3 #[.int .u64 n, .int .i64 m] w fun e w' => e = .returned (.bool true) ∧ Below w.heap.size w w' := by
  have lo := turn_lo m
  have hi := turn_hi m h1 h2
  obtain ⟨t, ht⟩ := Int.eq_ofNat_of_zero_le lo
  have HT := Lib.hid ht
  have hl := putL_len10 n (by omega)
  have hb := Below.refl w.heap.size w
  go_enter Try.func3, Try.ntmps3
  go_wp2_with (first | (go_at_call 7; refine (rput_any _ _ (by omega)).mono ?_; rintro e w' ⟨rfl, hb2⟩; replace hb := hb.trans (hb2.mono hb.size); clear hb2) | (go_at_call 8; refine (put_any _ _ (by omega)).mono ?_; rintro e w' ⟨rfl, hb2⟩; replace hb := hb.trans (hb2.mono hb.size); clear hb2) | (go_at_call 9; refine (len_any _ _ (by omega)).mono ?_; rintro e w' ⟨rfl, rfl⟩) | (go_at_call 10; refine (turn_any _ _ (by omega) (by omega)).mono ?_; rintro e w' ⟨rfl, rfl⟩) | (go_at_call 11; refine (rturn_any _ _ (by omega) (by omega)).mono ?_; rintro e w' ⟨rfl, rfl⟩) | (go_at_call 12; refine (back_any _ _ (by omega) (by omega)).mono ?_; rintro e w' ⟨rfl, rfl⟩) | (go_at_call 13; refine (rback_any _ _ (by omega) (by omega)).mono ?_; rintro e w' ⟨rfl, rfl⟩) | (go_at_call 14; refine (putint_any _ _ (by omega) (by omega)).mono ?_; rintro e w' ⟨rfl, hb2⟩; replace hb := hb.trans (hb2.mono hb.size); clear hb2) | (go_at_call 15; refine (awake_any _).mono ?_; rintro e w' ⟨rfl, hb2⟩; replace hb := hb.trans (hb2.mono hb.size); clear hb2))
  go_ret
  exact ⟨rfl, hb⟩

set_option maxRecDepth 100000 in
theorem takes_walk (s : ByteArray) (w : World) (hs : s.size ≤ maxLen) :
    Calls Try.prog 4 #[.string s] w fun e w' => e = .returned (.bool true) ∧ Below w.heap.size w w' := by
  have hlo := tkS_lo s
  obtain ⟨n, k, e, h⟩ : ∃ n k e, tkS s = (n, k, e) := ⟨_, _, _, rfl⟩
  rw [h] at hlo
  have H := Lib.hid h
  clear h
  go_enter Try.func4, Try.ntmps4
  by_cases he : e = 0
  · subst he
    go_wp2_with (first | (go_at_call 16; refine (take_ret s _ _ _ H.out _ hs).mono ?_; rintro e w' ⟨rfl, rfl⟩) | (go_at_call 17; refine (rtake_ret s _ _ _ H.out _ hs).mono ?_; rintro e w' ⟨rfl, rfl⟩) | (go_at_call 18; refine (takeint_ret s _ _ _ H.out _ hs).mono ?_; rintro e w' ⟨rfl, rfl⟩) | (go_at_call 13; refine (rback_any _ _ (by omega) (by omega)).mono ?_; rintro e w' ⟨rfl, rfl⟩) | (go_at_call 15; refine (awake_any _).mono ?_; rintro e w' ⟨rfl, hb⟩))
    go_ret
    exact ⟨rfl, hb⟩
  · obtain ⟨rfl, rfl⟩ : n = 0 ∧ k = 0 := by
      have h1 := H.out
      unfold tkS at h1
      rcases tk_err s.data.toList 0 0 with ⟨x, j, h2⟩ | h2 | h2 <;> rw [h2] at h1 <;> simp only [Prod.mk.injEq] at h1 <;> omega
    have hb0 : back 0 = 0 := by decide
    have he0 : ((e : Int) == 0) = false := by simpa using he
    go_wp2_with (first | (go_at_call 16; refine (take_ret s _ _ _ H.out _ hs).mono ?_; rintro e w' ⟨rfl, rfl⟩) | (go_at_call 17; refine (rtake_ret s _ _ _ H.out _ hs).mono ?_; rintro e w' ⟨rfl, rfl⟩) | (go_at_call 18; refine (takeint_ret s _ _ _ H.out _ hs).mono ?_; rintro e w' ⟨rfl, rfl⟩) | (go_at_call 13; refine (rback_any _ _ (by omega) (by omega)).mono ?_; rintro e w' ⟨rfl, rfl⟩) | (go_at_call 15; refine (awake_any _).mono ?_; rintro e w' ⟨rfl, hb⟩))
    go_ret
    exact ⟨rfl, hb⟩

theorem cat_toList (n : Nat) (b : ByteArray) : ((⟨(putL n).toArray⟩ : ByteArray) ++ b).data.toList = putL n ++ b.data.toList := by rw [ByteArray.data_append, Array.toList_append]
theorem cat_size (n : Nat) (b : ByteArray) : ((⟨(putL n).toArray⟩ : ByteArray) ++ b).size = (putL n).length + b.size := by rw [ByteArray.size_append]; rfl

theorem tkS_cat (n : Nat) (b : ByteArray) (h : n < 18446744073709551616) : tkS ((⟨(putL n).toArray⟩ : ByteArray) ++ b) = (n, (putL n).length, 0) := by
  unfold tkS; rw [cat_toList]; exact tk_put0 n _ h

theorem take_put (n : Nat) (b : ByteArray) (w : World) (hn : n ≤ 18446744073709551615) (hs : b.size ≤ 140737488355328) :
    Calls Try.prog 16 #[.string ((⟨(putL n).toArray⟩ : ByteArray) ++ b)] w fun x w' => x = .returned (.tuple #[.int .u64 n, .int .i64 (putL n).length, .int .i64 0]) ∧ w = w' := by
  have hl := putL_len10 n (by omega)
  exact take_ret _ n _ 0 (tkS_cat n b (by omega)) w (by rw [cat_size]; unfold maxLen; omega)
theorem takeint_put (m : Int) (b : ByteArray) (w : World) (h1 : -9223372036854775808 ≤ m) (h2 : m ≤ 9223372036854775807) (hs : b.size ≤ 140737488355328) :
    Calls Try.prog 18 #[.string ((⟨(putL (turn m).toNat).toArray⟩ : ByteArray) ++ b)] w fun x w' => x = .returned (.tuple #[.int .i64 m, .int .i64 (putL (turn m).toNat).length, .int .i64 0]) ∧ w = w' := by
  have lo := turn_lo m
  have hi := turn_hi m h1 h2
  have hl := putL_len10 (turn m).toNat (by omega)
  have h := takeint_ret _ (turn m).toNat _ 0 (tkS_cat (turn m).toNat b (by omega)) w (by rw [cat_size]; unfold maxLen; omega)
  have e : ((turn m).toNat : Int) = turn m := by omega
  rw [e, back_turn] at h
  exact h

theorem take_beg (n k : Nat) (w : World) (hn : n ≤ 18446744073709551615) (hk : k < (putL n).length) :
    Calls Try.prog 16 #[.string ((⟨(putL n).toArray⟩ : ByteArray).extract 0 k)] w fun x w' => x = .returned (.tuple #[.int .u64 0, .int .i64 0, .int .i64 2]) ∧ w = w' := by
  have hl := putL_len10 n (by omega)
  have e : ((⟨(putL n).toArray⟩ : ByteArray).extract 0 k).data.toList = (putL n).take k := by simp
  exact take_ret _ 0 0 2 (by unfold tkS; rw [e]; exact tk_short0 n k (by omega) hk) w (by
    have : ((⟨(putL n).toArray⟩ : ByteArray).extract 0 k).size = ((putL n).take k).length := by rw [← e]; exact Array.length_toList.symm
    rw [this, List.length_take]; unfold maxLen; omega)

set_option maxRecDepth 100000 in
theorem back_walk (n : Nat) (m : Int) (b : ByteArray) (w : World) (hn : n ≤ 18446744073709551615) (h1 : -9223372036854775808 ≤ m) (h2 : m ≤ 9223372036854775807) (hs : b.size ≤ 140737488355328) :
    Calls Try.prog 5 #[.int .u64 n, .int .i64 m, .string b] w fun e w' => e = .returned (.bool true) ∧ Below w.heap.size w w' := by
  have lo := turn_lo m
  have hi := turn_hi m h1 h2
  have hbt := back_turn m
  have htb := turn_back (n : Int) (by omega)
  have lo2 := back_lo (n : Int) (by omega) (by omega)
  have hi2 := back_hi (n : Int) (by omega) (by omega)
  have hl := putL_len10 n (by omega)
  have hlt := putL_len10 (turn m).toNat (by omega)
  have hb := Below.refl w.heap.size w
  go_enter Try.func5, Try.ntmps5
  go_wp2_with (first | (go_at_call 8; refine (put_any _ _ (by omega)).mono ?_; rintro e w' ⟨rfl, hb2⟩; replace hb := hb.trans (hb2.mono hb.size); clear hb2) | (go_at_call 14; refine (putint_any _ _ (by omega) (by omega)).mono ?_; rintro e w' ⟨rfl, hb2⟩; replace hb := hb.trans (hb2.mono hb.size); clear hb2) | (go_at_call 18; refine (takeint_put _ _ _ (by omega) (by omega) (by omega)).mono ?_; rintro e w' ⟨rfl, rfl⟩) | (go_at_call 16; refine (take_put _ _ _ (by omega) (by omega)).mono ?_; rintro e w' ⟨rfl, rfl⟩) | (go_at_call 10; refine (turn_any _ _ (by omega) (by omega)).mono ?_; rintro e w' ⟨rfl, rfl⟩) | (go_at_call 12; refine (back_any _ _ (by omega) (by omega)).mono ?_; rintro e w' ⟨rfl, rfl⟩) | (go_at_call 15; refine (awake_any _).mono ?_; rintro e w' ⟨rfl, hb2⟩; replace hb := hb.trans (hb2.mono hb.size); clear hb2))
  obtain ⟨wo, rfl⟩ : ∃ wo : World, wo = w' := ⟨_, rfl⟩
  go_loop [14] (fun i => ∃ k : Nat, k ≤ (putL n).length ∧ i = .int .i64 k) (fun i => (putL n).length - (intOf i).toNat)
  case atStart => exact ⟨0, by omega, rfl⟩
  case round =>
    obtain ⟨k, hk, rfl⟩ := hrel
    by_cases hkl : k < (putL n).length
    · have hki : (k : Int) < ((putL n).length : Int) := by omega
      go_wp2_with (go_at_call 16; refine (take_beg _ k _ (by omega) hkl).mono ?_; rintro e w' ⟨rfl, rfl⟩)
      go_round
      case rel => exact ⟨k + 1, by omega, by go_num⟩
      case measure => simp [intOf]; omega
    · have hki : ¬ (k : Int) < ((putL n).length : Int) := by omega
      go_wp2_with (first | (go_at_call 10; refine (turn_any _ _ (by omega) (by omega)).mono ?_; rintro e w' ⟨rfl, rfl⟩) | (go_at_call 12; refine (back_any _ _ (by omega) (by omega)).mono ?_; rintro e w' ⟨rfl, rfl⟩) | (go_at_call 15; refine (awake_any _).mono ?_; rintro e w' ⟨rfl, hb2⟩; replace hb := hb.trans (hb2.mono hb.size); clear hb2))
      go_ret
      exact ⟨rfl, hb⟩
end Go.Proofs.Ytpelpoeebnhccaa.Vm
