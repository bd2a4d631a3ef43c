/- The law CheckFinite with what the form says of a list of declarations. -/
import Derived.Test.YthcpepifikpmeaaCkFiniteWalk
namespace Go.Proofs.Ythcpepifikpmeaa.Ck
open Go.RowKit Cm _root_.Go.Proofs.Ythcpepifikpmeaa.Nm
set_option linter.unusedVariables false
set_option linter.unusedSimpArgs false
theorem finite_end {H : Type} {enc : TypeId × Value → H} {W : World} {base : Nat} {v : Value} {d : DataW H} {ps : List MemPlace}
    (hval : Value.okWide Try.prog W .any base 22 v) (h : DataW.Trod enc Try.prog W 0 (fun _ => true) true 22 v d ps) (hsz : ∀ n ∈ d.weights Try.prog 22, n ≤ reachBytes) :
    Calls Try.prog 3 #[v] W fun e w' => e = .returned (.bool true) ∧ Below W.heap.size W w' := by
  obtain ⟨o, len, cap, D, F, M, rfl, hx⟩ := decls_all hval h hsz
  exact finite_walk o len cap D F M W hx
end Go.Proofs.Ythcpepifikpmeaa.Ck
