/- The contracts of the small functions of varint and of its reference over the program: Turn, Back, Byte, ends, Len. -/
import Derived.Test.YtldjefnijkefcaaChecked
import Derived.Test.YtldjefnijkefcaaVmMath
import Derived.WalkKit
import Derived.WalkLawsBesides
import Derived.WalkSpells
import Derived.WalkSmall
import Derived.Laws.BytesArg
import Derived.Laws.BitsAllLaws
import Derived.Laws.DeepNot64
import Derived.Lib.Hide
import Derived.Lib.Walk
namespace Go.Proofs.Ytldjefnijkefcaa.Vm
open Go.RowKit
set_option linter.unusedVariables false

theorem ret_int {k : IntKind} {a b : Int} (h : a = b) : Ending.returned (.int k a) = .returned (.int k b) := by rw [h]

theorem ret_bool {a b : Bool} (h : a = b) : Ending.returned (.bool a) = .returned (.bool b) := by rw [h]

theorem xor_ones (a : Nat) (h : a < 18446744073709551616) : a ^^^ 18446744073709551615 = 18446744073709551615 - a := by
  have h1 : (BitVec.ofNat 64 a ^^^ BitVec.allOnes 64).toNat = (~~~ BitVec.ofNat 64 a).toNat := by rw [BitVec.xor_allOnes]
  rw [BitVec.toNat_xor, BitVec.toNat_not, BitVec.toNat_ofNat, BitVec.toNat_allOnes, Nat.mod_eq_of_lt (by omega)] at h1
  simpa using h1

theorem turn_bits (m : Int) (h1 : -9223372036854775808 ≤ m) (h2 : m ≤ 9223372036854775807) :
    bits BinOp.xor IntKind.u64 (IntKind.u64.wrap (IntKind.u64.wrap m * 2)) (IntKind.u64.wrap (m / 9223372036854775808)) = turn m := by
  rw [IntKind.wrap_u64, IntKind.wrap_u64, IntKind.wrap_u64, u64_xor _ _ (by omega) (by omega) (by omega) (by omega)]
  unfold turn
  split
  · have e1 : m / 9223372036854775808 % 18446744073709551616 = 0 := by omega
    rw [e1]
    have e2 : (m % 18446744073709551616 * 2 % 18446744073709551616) = 2 * m := by omega
    rw [e2]; simp; omega
  · have e1 : (m / 9223372036854775808 % 18446744073709551616).toNat = 18446744073709551615 := by omega
    rw [e1, xor_ones _ (by omega)]
    omega

theorem xor_zero_i64 (a : Nat) (ha : a < 9223372036854775808) : bits .xor .i64 (a : Int) 0 = (a : Int) := by
  show IntKind.i64.wrap ((BitVec.ofInt 64 (a : Int) ^^^ BitVec.ofInt 64 0).toNat : Int) = _
  have h1 : BitVec.ofInt 64 0 = 0#64 := by decide
  rw [h1, BitVec.xor_zero, ofInt_u64 a (by omega)]
  exact IntWalk.i64_in _ (by omega)
theorem xor_neg_i64 (a : Nat) (ha : a < 9223372036854775808) : bits .xor .i64 (a : Int) (-1) = -1 - (a : Int) := by
  rw [← i64_not a ha]
  show IntKind.i64.wrap ((BitVec.ofInt 64 (a : Int) ^^^ BitVec.ofInt 64 (-1)).toNat : Int) = IntKind.i64.wrap ((BitVec.ofInt 64 (-1) ^^^ BitVec.ofInt 64 (a : Int)).toNat : Int)
  rw [BitVec.xor_comm]

theorem back_bits (n : Int) (h1 : 0 ≤ n) (h2 : n ≤ 18446744073709551615) :
    bits BinOp.xor IntKind.i64 (n / 2) (wrap64 (-wrap64 (bits BinOp.and IntKind.u64 n 1))) = back n := by
  rw [and_one_u64 n h1 h2, IntWalk.wrap64_in (n % 2) (by omega), IntWalk.wrap64_in _ (by omega)]
  obtain ⟨q, hq⟩ := Int.eq_ofNat_of_zero_le (show 0 ≤ n / 2 by omega)
  rw [hq]
  unfold back
  split
  · rename_i h; rw [h]
    rw [show (-0 : Int) = 0 by rfl, xor_zero_i64 q (by omega)]; omega
  · rename_i h
    have : n % 2 = 1 := by omega
    rw [this, xor_neg_i64 q (by omega)]; omega

theorem byte_conv (n : Int) (w : World) : (convert 71 9 (.slice (some ⟨w.heap.size, 0, none⟩) 1 1)).run Try.prog (w.alloc (.cells #[.int .u8 n] 5)) = .ok (.string ⟨#[UInt8.ofNat n.toNat]⟩) (w.alloc (.cells #[.int .u8 n] 5)) := by
  have h := run_convert_bytes_arg (P := Try.prog) (w.alloc (.cells #[.int .u8 n] 5)) 71 5 Try.underlying71 Try.underlying5 w.heap.size 0 1 1 [n] rfl (fun i hi => by
    obtain rfl : i = 0 := by omega
    rw [Nat.add_zero, World.cell?_alloc_at _ _ _ _ rfl]; rfl) 9 Try.underlying9
  rw [h]; rfl
theorem byte_any (n : Int) (w : World) (h1 : 0 ≤ n) (h2 : n ≤ 255) :
    Calls Try.prog 27 #[.int .i64 n] w fun e w' => e = .returned (.string ⟨#[UInt8.ofNat n.toNat]⟩) ∧ Below w.heap.size w w' := by
  have hcv := byte_conv n w
  go_enter Try.func27, Try.ntmps27
  go_wp2
  go_ret
  exact ⟨rfl, (Below.refl _ _).alloc (Nat.le_refl _) _⟩

/-- Whether a byte may be the last at a place. -/
def endsB (c i : Int) : Bool := decide (i = 0 ∨ (c ≠ 0 ∧ (i < 9 ∨ c = 1)))
theorem ends_any (c i : Int) (w : World) :
    Calls Try.prog 32 #[.int .u8 c, .int .i64 i] w fun e w' => e = .returned (.bool (endsB c i)) ∧ w = w' := by
  go_enter Try.func32, Try.ntmps32
  go_wp2
  · have h : (i == 0) = true := by assumption
    go_ret
    exact ⟨ret_bool (by rw [endsB, decide_eq_true (Or.inl (by simpa using h))]), rfl⟩
  · have h : (i == 0) = false := by assumption
    have h0 : c = 0 := by assumption
    have e3 : i ≠ 0 := by simpa using h
    go_ret
    exact ⟨ret_bool (by rw [endsB, decide_eq_false (by omega)]), rfl⟩
  · have h : (i == 0) = false := by assumption
    have h0 : ¬ c = 0 := by assumption
    have h9 : 9 ≤ i := by assumption
    have e3 : i ≠ 0 := by simpa using h
    go_ret
    refine ⟨ret_bool ?_, rfl⟩
    have e1 : (c != 0) = true := by simpa using h0
    have e2 : decide (i < 9) = false := decide_eq_false (by omega)
    rw [e1, e2, Bool.true_and, Bool.false_or]
    by_cases hc : c = 1
    · rw [endsB, decide_eq_true (by omega)]; simp [hc]
    · rw [endsB, decide_eq_false (by omega)]; simp [hc]
  · have h0 : ¬ c = 0 := by assumption
    have h9 : i < 9 := by assumption
    go_ret
    refine ⟨ret_bool ?_, rfl⟩
    have e1 : (c != 0) = true := by simpa using h0
    rw [e1, endsB, decide_eq_true (by omega)]

end Go.Proofs.Ytldjefnijkefcaa.Vm
