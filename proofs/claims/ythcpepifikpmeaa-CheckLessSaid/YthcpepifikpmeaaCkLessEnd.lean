/- The law CheckLess with what the form says of a list of declarations. -/
import Derived.Test.YthcpepifikpmeaaCkLessWalk
namespace Go.Proofs.Ythcpepifikpmeaa.Ck
open Go.RowKit Cm _root_.Go.Proofs.Ythcpepifikpmeaa.Nm
set_option linter.unusedVariables false
set_option linter.unusedSimpArgs false
theorem less_end {H : Type} {enc : TypeId × Value → H} {W : World} {base : Nat} {v : Value} {d : DataW H} {ps : List MemPlace}
    (hval : Value.okWide Try.prog W .any base 22 v) (h : DataW.Trod enc Try.prog W 0 (fun _ => true) true 22 v d ps) (hsz : ∀ n ∈ d.weights Try.prog 22, n ≤ reachBytes) :
    Calls Try.prog 4 #[v] W fun e w' => e = .returned (.bool true) ∧ Below W.heap.size W w' := by
  obtain ⟨o, len, cap, D, F, M, rfl, hx⟩ := decls_all hval h hsz
  have hc : len ≤ cap ∧ cap ≤ maxLen := by
    obtain ⟨fuel, hf⟩ := h
    have hf' : DataW.trod enc Try.prog W 0 (fun _ => true) true fuel 22 [.slice o len cap] = some (d, ps) := by simpa [Value.cells] using hf
    rcases Go.Deep.open_slice Try.underlying22 hf' with ⟨h0, _⟩ | ⟨a, len', cap', m, k, Dd, Pl, h0, _, hlc, hcm, _⟩
    · have e0 : o = none ∧ len = 0 ∧ cap = 0 := by simpa using h0
      obtain ⟨_, rfl, rfl⟩ := e0
      exact ⟨Nat.le_refl _, by unfold maxLen; omega⟩
    · have e0 : o = some a ∧ len = len' ∧ cap = cap' := by simpa using h0
      obtain ⟨_, rfl, rfl⟩ := e0
      exact ⟨hlc, hcm⟩
  exact less_walk o len cap D F M W hx hc.1 hc.2
end Go.Proofs.Ythcpepifikpmeaa.Ck
