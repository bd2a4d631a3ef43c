/- Hellos: what is asked of the program, as hypotheses of the laws' walks; the law's example. -/
import Derived.Test.YtldjefnijkefcaaMcApi
import Derived.Test.YtldjefnijkefcaaHeMath
namespace Go.Proofs.Ytldjefnijkefcaa.He
open Go.RowKit Cm Dc
set_option linter.unusedVariables false
set_option linter.unusedSimpArgs false

abbrev I64 (n : Int) : Prop := -9223372036854775808 ≤ n ∧ n ≤ 9223372036854775807
/-- What Put answers. -/
def hpT (o e : Int) (t : Nat) : ByteArray := if o < 0 ∨ e < 0 then ByteArray.empty else hpS o.toNat e.toNat t
def hpE (o e : Int) : Int := if o < 0 ∨ e < 0 then 1 else 0
/-- What Take answers: owner, epoch, tag, error. -/
def htV (b : ByteArray) : Nat × Nat × Nat × Nat := match htS b with
  | some (o, e, t) => (o, e, t, 0)
  | none => (0, 0, 0, 1)
abbrev agH (o e : Int) (t : Nat) : Value := .agg #[.int .i64 o, .int .i64 e, .int .u64 (t : Int)]
/-- Whom a body proves. -/
def vfB (E T : Nat → Nat) (b : ByteArray) : Option Nat := match htS b with
  | some (o, e, t) => if o ≤ 8 ∧ t ≠ 0 ∧ E o = e ∧ T o = t then some o else none
  | none => none
structure Api (Mt : Nat → (Nat → Nat) → (Nat → Nat) → World → Prop) : Prop where
  put : ∀ (o e : Int) (t : Nat) w, I64 o → I64 e → t < 18446744073709551616 → Calls Try.prog 6 #[agH o e t] w fun x w' => x = .returned (.tuple #[.string (hpT o e t), .int .i64 (hpE o e)]) ∧ Below w.heap.size w w'
  take : ∀ (b : ByteArray) (o e t x : Nat) w, b.size ≤ 140737488355327 → htV b = (o, e, t, x) → Calls Try.prog 8 #[.string b] w fun y w' => y = .returned (.tuple #[agH o e t, .int .i64 (x : Int)]) ∧ Below w.heap.size w w'
  verify : ∀ B E T (b : ByteArray) (o : Nat) w, Mt B E T w → b.size ≤ 140737488355327 → vfB E T b = some o → Calls Try.prog 15 #[.pointer (some ⟨B, 0, none⟩), .string b] w fun y w' => y = .returned (.tuple #[.int .i64 (o : Int), .int .i64 0]) ∧ Only B w w' ∧ Mt B E T w'
  verify0 : ∀ B E T (b : ByteArray) w, Mt B E T w → b.size ≤ 140737488355327 → vfB E T b = none → Calls Try.prog 15 #[.pointer (some ⟨B, 0, none⟩), .string b] w fun y w' => y = .returned (.tuple #[.int .i64 0, .int .i64 16]) ∧ Only B w w' ∧ Mt B E T w'
  verifyN : ∀ (b : ByteArray) w, b.size ≤ 140737488355327 → Calls Try.prog 15 #[.pointer none, .string b] w fun y w' => y = .returned (.tuple #[.int .i64 0, .int .i64 16]) ∧ Below w.heap.size w w'
theorem hpT_neg {o e : Int} (t : Nat) (h : o < 0 ∨ e < 0) : hpT o e t = ByteArray.empty := by unfold hpT; rw [if_pos h]
theorem hpE_neg {o e : Int} (h : o < 0 ∨ e < 0) : hpE o e = 1 := by unfold hpE; rw [if_pos h]
theorem hpT_pos (o e t : Nat) : hpT (o : Int) (e : Int) t = hpS o e t := by unfold hpT; rw [if_neg (by omega), Int.toNat_natCast, Int.toNat_natCast]
theorem hpE_pos (o e : Nat) : hpE (o : Int) (e : Int) = 0 := by unfold hpE; rw [if_neg (by omega)]
theorem htV_some {b : ByteArray} {o e t : Nat} (h : htS b = some (o, e, t)) : htV b = (o, e, t, 0) := by unfold htV; rw [h]
theorem htV_none {b : ByteArray} (h : htS b = none) : htV b = (0, 0, 0, 1) := by unfold htV; rw [h]
theorem htV_ok {b : ByteArray} {o e t : Nat} (h : htV b = (o, e, t, 0)) : htS b = some (o, e, t) := by
  unfold htV at h
  split at h
  · rename_i o' e' t' h2
    simp only [Prod.mk.injEq, and_true] at h
    obtain ⟨rfl, rfl, rfl⟩ := h
    exact h2
  · simp at h
theorem hp_room (o e t : Nat) (h1 : o < 18446744073709551616) (h2 : e < 18446744073709551616) (h3 : t < 18446744073709551616) : (hpS o e t).size ≤ 30 := by
  rw [hp_size]
  have := Vm.putL_len10 o h1
  have := Vm.putL_len10 e h2
  have := Vm.putL_len10 t h3
  omega
theorem hp115 : hpT 1 1 5 = ⟨#[1, 1, 5]⟩ := by
  show hpS 1 1 5 = ⟨#[1, 1, 5]⟩
  unfold hpS puS
  rw [Vm.putL_lt (n := 1) (by omega), Vm.putL_lt (n := 5) (by omega)]
  rfl
section
variable {Mt : Nat → (Nat → Nat) → (Nat → Nat) → World → Prop}
set_option maxRecDepth 100000 in
theorem awake_any (hA : Api Mt) (w : World) : Calls Try.prog 10 #[] w fun e w' => e = .returned (.bool true) ∧ Below w.heap.size w w' := by
  have HA := Lib.hid hA
  have H1 := Lib.hid hp115
  clear hA
  go_enter Try.func10, Try.ntmps10
  go_wp2_with (go_at_call 6; refine (HA.out.put 1 1 5 _ (by omega) (by omega) (by omega)).mono ?_; rw [H1.out, show hpE 1 1 = 0 from rfl]; rintro e w1 ⟨rfl, hb1⟩)
  go_ret
  exact ⟨rfl, hb1⟩
end
end Go.Proofs.Ytldjefnijkefcaa.He
