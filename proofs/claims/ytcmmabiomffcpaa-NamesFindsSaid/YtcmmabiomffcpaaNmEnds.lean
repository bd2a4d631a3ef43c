/- Names: the laws NamesFinds and NamesOwn with what the form says of a list of declarations. -/
import Derived.Test.YtcmmabiomffcpaaNmOpen
import Derived.Test.YtcmmabiomffcpaaNmOwn
namespace Go.Proofs.Ytcmmabiomffcpaa.Nm
open Go.RowKit Cm
set_option linter.unusedVariables false
set_option linter.unusedSimpArgs false
theorem finds_end {H : Type} {enc : TypeId × Value → H} {W : World} {base : Nat} {v : Value} {d : DataW H} {ps : List MemPlace} (s : ByteArray) (hs : s.size ≤ 140737488355327)
    (hval : Value.okWide Try.prog W .any base 22 v) (h : DataW.Trod enc Try.prog W 0 (fun _ => true) true 22 v d ps) (hsz : ∀ n ∈ d.weights Try.prog 22, n ≤ reachBytes) :
    Calls Try.prog 3 #[v, .string s] W fun e w' => e = .returned (.bool true) ∧ Below W.heap.size W w' := by
  obtain ⟨o, len, cap, D, rfl, hx, _⟩ := decls_open hval h hsz
  exact finds_walk o len cap D s W hx hs
theorem own_end {H : Type} {enc : TypeId × Value → H} {W : World} {base : Nat} {v : Value} {d : DataW H} {ps : List MemPlace}
    (hval : Value.okWide Try.prog W .any base 22 v) (h : DataW.Trod enc Try.prog W 0 (fun _ => true) true 22 v d ps) (hsz : ∀ n ∈ d.weights Try.prog 22, n ≤ reachBytes) :
    Calls Try.prog 5 #[v] W fun e w' => e = .returned (.bool true) ∧ Below W.heap.size W w' := by
  obtain ⟨o, len, cap, D, rfl, hx, _⟩ := decls_open hval h hsz
  exact own_walk o len cap D W hx
end Go.Proofs.Ytcmmabiomffcpaa.Nm
