/- The contracts of the small functions of varint and of its reference over the program: Turn, Back, Byte, ends, Len. -/
import Derived.Test.YtpelpoeebnhccaaChecked
import Derived.Test.YtpelpoeebnhccaaVmMath
import Derived.Test.YtpelpoeebnhccaaShelf
import Derived.WalkKit
import Derived.WalkLawsBesides
import Derived.WalkSpells
import Derived.WalkSmall
import Derived.Laws.BytesArg
import Derived.Laws.BitsAllLaws
import Derived.Laws.DeepNot64
import Derived.Lib.Hide
namespace Go.Proofs.Ytpelpoeebnhccaa.Vm
open Go.RowKit
set_option linter.unusedVariables false

theorem ret_int {k : IntKind} {a b : Int} (h : a = b) : Ending.returned (.int k a) = .returned (.int k b) := by rw [h]

theorem ret_bool {a b : Bool} (h : a = b) : Ending.returned (.bool a) = .returned (.bool b) := by rw [h]

theorem xor_ones (a : Nat) (h : a < 18446744073709551616) : a ^^^ 18446744073709551615 = 18446744073709551615 - a := by
  have h1 : (BitVec.ofNat 64 a ^^^ BitVec.allOnes 64).toNat = (~~~ BitVec.ofNat 64 a).toNat := by rw [BitVec.xor_allOnes]
  rw [BitVec.toNat_xor, BitVec.toNat_not, BitVec.toNat_ofNat, BitVec.toNat_allOnes, Nat.mod_eq_of_lt (by omega)] at h1
  simpa using h1

theorem turn_bits (m : Int) (h1 : -9223372036854775808 ≤ m) (h2 : m ≤ 9223372036854775807) :
    bits BinOp.xor IntKind.u64 (IntKind.u64.wrap (IntKind.u64.wrap m * 2)) (IntKind.u64.wrap (m / 9223372036854775808)) = turn m := by
  rw [IntKind.wrap_u64, IntKind.wrap_u64, IntKind.wrap_u64, u64_xor _ _ (by omega) (by omega) (by omega) (by omega)]
  unfold turn
  split
  · have e1 : m / 9223372036854775808 % 18446744073709551616 = 0 := by omega
    rw [e1]
    have e2 : (m % 18446744073709551616 * 2 % 18446744073709551616) = 2 * m := by omega
    rw [e2]; simp; omega
  · have e1 : (m / 9223372036854775808 % 18446744073709551616).toNat = 18446744073709551615 := by omega
    rw [e1, xor_ones _ (by omega)]
    omega

theorem xor_zero_i64 (a : Nat) (ha : a < 9223372036854775808) : bits .xor .i64 (a : Int) 0 = (a : Int) := by
  show IntKind.i64.wrap ((BitVec.ofInt 64 (a : Int) ^^^ BitVec.ofInt 64 0).toNat : Int) = _
  have h1 : BitVec.ofInt 64 0 = 0#64 := by decide
  rw [h1, BitVec.xor_zero, ofInt_u64 a (by omega)]
  exact IntWalk.i64_in _ (by omega)
theorem xor_neg_i64 (a : Nat) (ha : a < 9223372036854775808) : bits .xor .i64 (a : Int) (-1) = -1 - (a : Int) := by
  rw [← i64_not a ha]
  show IntKind.i64.wrap ((BitVec.ofInt 64 (a : Int) ^^^ BitVec.ofInt 64 (-1)).toNat : Int) = IntKind.i64.wrap ((BitVec.ofInt 64 (-1) ^^^ BitVec.ofInt 64 (a : Int)).toNat : Int)
  rw [BitVec.xor_comm]

theorem back_bits (n : Int) (h1 : 0 ≤ n) (h2 : n ≤ 18446744073709551615) :
    bits BinOp.xor IntKind.i64 (n / 2) (wrap64 (-wrap64 (bits BinOp.and IntKind.u64 n 1))) = back n := by
  rw [and_one_u64 n h1 h2, IntWalk.wrap64_in (n % 2) (by omega), IntWalk.wrap64_in _ (by omega)]
  obtain ⟨q, hq⟩ := Int.eq_ofNat_of_zero_le (show 0 ≤ n / 2 by omega)
  rw [hq]
  unfold back
  split
  · rename_i h; rw [h]
    rw [show (-0 : Int) = 0 by rfl, xor_zero_i64 q (by omega)]; omega
  · rename_i h
    have : n % 2 = 1 := by omega
    rw [this, xor_neg_i64 q (by omega)]; omega

theorem turn_any (m : Int) (w : World) (h1 : -9223372036854775808 ≤ m) (h2 : m ≤ 9223372036854775807) :
    Calls Try.prog 10 #[.int .i64 m] w fun e w' => e = .returned (.int .u64 (turn m)) ∧ w = w' := by
  go_enter Try.func10, Try.ntmps10
  go_wp2
  go_ret
  exact ⟨ret_int (turn_bits m h1 h2), rfl⟩
theorem back_any (n : Int) (w : World) (h1 : 0 ≤ n) (h2 : n ≤ 18446744073709551615) :
    Calls Try.prog 12 #[.int .u64 n] w fun e w' => e = .returned (.int .i64 (back n)) ∧ w = w' := by
  go_enter Try.func12, Try.ntmps12
  go_wp2
  go_ret
  exact ⟨ret_int (back_bits n h1 h2), rfl⟩
theorem rturn_any (m : Int) (w : World) (h1 : -9223372036854775808 ≤ m) (h2 : m ≤ 9223372036854775807) :
    Calls Try.prog 11 #[.int .i64 m] w fun e w' => e = .returned (.int .u64 (turn m)) ∧ w = w' := by
  go_enter Try.func11, Try.ntmps11
  go_wp2
  · go_ret
    have h : 0 ≤ m := by assumption
    exact ⟨ret_int (by unfold turn; rw [if_pos h]), rfl⟩
  · go_ret
    have h : m < 0 := by assumption
    exact ⟨ret_int (by unfold turn; rw [if_neg (by omega)]; omega), rfl⟩
theorem rback_any (n : Int) (w : World) (h1 : 0 ≤ n) (h2 : n ≤ 18446744073709551615) :
    Calls Try.prog 13 #[.int .u64 n] w fun e w' => e = .returned (.int .i64 (back n)) ∧ w = w' := by
  go_enter Try.func13, Try.ntmps13
  go_wp2
  · go_ret
    have h : (n % 2 == 0) = true := by assumption
    exact ⟨ret_int (by unfold back; rw [if_pos (by simpa using h)]), rfl⟩
  · go_ret
    have h : (n % 2 == 0) = false := by assumption
    exact ⟨ret_int (by unfold back; rw [if_neg (by simpa using h)]), rfl⟩

theorem byte_conv (n : Int) (w : World) : (convert 41 9 (.slice (some ⟨w.heap.size, 0, none⟩) 1 1)).run Try.prog (w.alloc (.cells #[.int .u8 n] 5)) = .ok (.string ⟨#[UInt8.ofNat n.toNat]⟩) (w.alloc (.cells #[.int .u8 n] 5)) := by
  have h := run_convert_bytes_arg (P := Try.prog) (w.alloc (.cells #[.int .u8 n] 5)) 41 5 Try.underlying41 Try.underlying5 w.heap.size 0 1 1 [n] rfl (fun i hi => by
    obtain rfl : i = 0 := by omega
    rw [Nat.add_zero, World.cell?_alloc_at _ _ _ _ rfl]; rfl) 9 Try.underlying9
  rw [h]; rfl
theorem byte_any (n : Int) (w : World) (h1 : 0 ≤ n) (h2 : n ≤ 255) :
    Calls Try.prog 19 #[.int .i64 n] w fun e w' => e = .returned (.string ⟨#[UInt8.ofNat n.toNat]⟩) ∧ Below w.heap.size w w' := by
  have hcv := byte_conv n w
  go_enter Try.func19, Try.ntmps19
  go_wp2
  go_ret
  exact ⟨rfl, (Below.refl _ _).alloc (Nat.le_refl _) _⟩

/-- Whether a byte may be the last at a place. -/
def endsB (c i : Int) : Bool := decide (i = 0 ∨ (c ≠ 0 ∧ (i < 9 ∨ c = 1)))
theorem ends_any (c i : Int) (w : World) :
    Calls Try.prog 21 #[.int .u8 c, .int .i64 i] w fun e w' => e = .returned (.bool (endsB c i)) ∧ w = w' := by
  go_enter Try.func21, Try.ntmps21
  go_wp2
  · have h : (i == 0) = true := by assumption
    go_ret
    exact ⟨ret_bool (by rw [endsB, decide_eq_true (Or.inl (by simpa using h))]), rfl⟩
  · have h : (i == 0) = false := by assumption
    have h0 : c = 0 := by assumption
    have e3 : i ≠ 0 := by simpa using h
    go_ret
    exact ⟨ret_bool (by rw [endsB, decide_eq_false (by omega)]), rfl⟩
  · have h : (i == 0) = false := by assumption
    have h0 : ¬ c = 0 := by assumption
    have h9 : 9 ≤ i := by assumption
    have e3 : i ≠ 0 := by simpa using h
    go_ret
    refine ⟨ret_bool ?_, rfl⟩
    have e1 : (c != 0) = true := by simpa using h0
    have e2 : decide (i < 9) = false := decide_eq_false (by omega)
    rw [e1, e2, Bool.true_and, Bool.false_or]
    by_cases hc : c = 1
    · rw [endsB, decide_eq_true (by omega)]; simp [hc]
    · rw [endsB, decide_eq_false (by omega)]; simp [hc]
  · have h0 : ¬ c = 0 := by assumption
    have h9 : i < 9 := by assumption
    go_ret
    refine ⟨ret_bool ?_, rfl⟩
    have e1 : (c != 0) = true := by simpa using h0
    rw [e1, endsB, decide_eq_true (by omega)]

theorem bitLen_pos (m : Nat) (h0 : m ≠ 0) (h : m < 18446744073709551616) : 1 ≤ Lib.bitLen m := by
  rw [Lib.bitLen_half m h0 h]; omega
theorem bitLen_odd (m : Nat) (h0 : m ≠ 0) (h : m < 18446744073709551616) : Lib.bitLen (m ||| 1) = Lib.bitLen m := by
  have hb : m ||| 1 < 2 ^ 64 := Nat.or_lt_two_pow (by omega) (by decide)
  have hp : m ||| 1 ≠ 0 := by
    intro e
    have : 1 ≤ m ||| 1 := Nat.right_le_or
    omega
  rw [Lib.bitLen_half (m ||| 1) hp hb, Lib.bitLen_half m h0 h]
  congr 2
  have : (m ||| 1) / 2 = m / 2 ||| 1 / 2 := Nat.or_div_two
  rw [this]; simp
theorem len_put : ∀ (n : Nat), n < 18446744073709551616 → (Lib.bitLen (n ||| 1) + 6) / 7 = (putL n).length := by
  intro n
  induction n using Nat.strongRecOn with
  | ind n ih =>
    intro h
    have hb : n ||| 1 < 2 ^ 64 := Nat.or_lt_two_pow (by omega) (by decide)
    have hle : n ≤ n ||| 1 := Nat.left_le_or
    have hp : n ||| 1 ≠ 0 := by
      intro e
      have : 1 ≤ n ||| 1 := Nat.right_le_or
      omega
    by_cases hn : n < 128
    · rw [putL_lt hn]
      have h7 : n ||| 1 < 2 ^ 7 := Nat.or_lt_two_pow (by omega) (by decide)
      have h1 := Lib.bitLen_le (n ||| 1) 7 (by decide) h7
      have h2 := bitLen_pos (n ||| 1) hp hb
      simp; omega
    · rw [putL_ge (by omega)]
      have hs := Lib.bitLen_shift 7 (n ||| 1) (by omega) hb
      have hd : (n ||| 1) / 2 ^ 7 = n / 128 := by
        rw [Nat.or_div_two_pow]; simp
      have hi := ih (n / 128) (by omega) (by omega)
      rw [bitLen_odd (n / 128) (by omega) (by omega)] at hi
      rw [hs, hd, List.length_cons, ← hi]
      omega

theorem len_any (n : Nat) (w : World) (h2 : n ≤ 18446744073709551615) :
    Calls Try.prog 9 #[.int .u64 n] w fun e w' => e = .returned (.int .i64 (putL n).length) ∧ w = w' := by
  go_enter Try.func9, Try.ntmps9
  go_wp2_with (go_at_call 20; refine (Try.bits_Len64 _ _ ?_ ?_).mono ?_; rotate_left 2; rintro e w' ⟨rfl, rfl⟩)
  all_goals have hor : bits BinOp.or IntKind.u64 (n : Int) 1 = ((n ||| 1 : Nat) : Int) := u64_or_nat n 1 (by omega) (by decide)
  all_goals have hb : n ||| 1 < 2 ^ 64 := Nat.or_lt_two_pow (by omega) (by decide)
  · go_ret
    refine ⟨ret_int ?_, rfl⟩
    have h1 := Lib.bitLen_le (n ||| 1) 64 (by decide) hb
    have e : ((n ||| 1 : Nat) : Int).toNat = n ||| 1 := rfl
    rw [hor, e, IntWalk.wrap64_in ((Lib.bitLen (n ||| 1) : Int) + 7) (by omega), IntWalk.wrap64_in ((Lib.bitLen (n ||| 1) : Int) + 7 - 1) (by omega), Int.tdiv_eq_ediv_of_nonneg (by omega), IntWalk.wrap64_in _ (by omega), ← len_put n (by omega)]
    omega
  · rw [hor]; omega
  · rw [hor]; omega
end Go.Proofs.Ytpelpoeebnhccaa.Vm
