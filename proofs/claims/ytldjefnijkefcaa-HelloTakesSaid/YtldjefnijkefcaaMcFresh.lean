/- Tags that were issued: the walk of the law MacFresh. -/
import Derived.Test.YtldjefnijkefcaaMcApi
import Derived.BigQuiet
namespace Go.Proofs.Ytldjefnijkefcaa.Mc
open Go.RowKit Cm Dc
set_option linter.unusedVariables false
set_option linter.unusedSimpArgs false

theorem kn_yes {E T : Nat → Nat} {p t : Nat} {e : Int} (hp : p ≤ 8) (ht : t ≠ 0) (h1 : (E p : Int) = e) (h2 : T p = t) : decide (0 ≤ (p : Int) ∧ (p : Int) ≤ 8 ∧ (t : Int) ≠ 0 ∧ (E (p : Int).toNat : Int) = e ∧ (T (p : Int).toNat : Int) = (t : Int)) = true := by
  refine decide_eq_true ⟨by omega, by omega, by omega, ?_, ?_⟩
  · rw [Int.toNat_natCast, h1]
  · rw [Int.toNat_natCast, h2]
theorem kn_no {E T : Nat → Nat} {p t : Nat} {e : Int} (h : ¬ ((E p : Int) = e ∧ T p = t ∧ t ≠ 0)) : decide (0 ≤ (p : Int) ∧ (p : Int) ≤ 8 ∧ (t : Int) ≠ 0 ∧ (E (p : Int).toNat : Int) = e ∧ (T (p : Int).toNat : Int) = (t : Int)) = false := by
  refine decide_eq_false fun ⟨_, _, h3, h4, h5⟩ => h ?_
  rw [Int.toNat_natCast] at h4 h5
  omega
section
variable {Dd : Nat → List Nat → World → Prop} {Mt : Nat → (Nat → Nat) → (Nat → Nat) → World → Prop}
end
end Go.Proofs.Ytldjefnijkefcaa.Mc
