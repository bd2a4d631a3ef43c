/- Values: the contracts of the reference's Key, order, Cmp, plain. -/
import Derived.Test.YtdogddliifbjnaaGreatMg56
namespace Go.Proofs.YtdogddliifbjnaaGreat.Va
open Go.RowKit Cm
set_option linter.unusedVariables false
set_option linter.unusedSimpArgs false

/-- The model's order of texts. -/
theorem bl_eq : ∀ (l m : List UInt8), Op.bytesLess l m = ltL l m
  | [], [] => rfl
  | [], _ :: _ => rfl
  | _ :: _, [] => rfl
  | a :: l, b :: m => by
    have := bl_eq l m
    show (decide (a < b) || (a == b && Op.bytesLess l m)) = (decide (a < b) || (decide (a = b) && ltL l m))
    rw [this]
    by_cases h : a = b
    · subst h; simp
    · have h2 : (a == b) = false := by simpa using h
      rw [h2, decide_eq_false h]
theorem bl_gt (l m : List UInt8) : (!(Op.bytesLess l m || l == m)) = ltL m l := by
  rw [bl_eq]
  cases h1 : ltL l m with
  | true => rw [ltL_asym l m h1]; rfl
  | false =>
    cases h2 : ltL m l with
    | true =>
      have : (l == m) = false := by
        cases h : l == m with
        | false => rfl
        | true =>
          obtain rfl := eq_of_beq h
          rw [ltL_irr] at h2; cases h2
      rw [this]; rfl
    | false =>
      obtain rfl := ltL_tri l m h1 h2
      simp

end Go.Proofs.YtdogddliifbjnaaGreat.Va
