/- Names: the law NamesParts with what the form says of a list of declarations. -/
import Derived.Test.YtcmmabiomffcpaaNmOpen
import Derived.Test.YtcmmabiomffcpaaNmParts
namespace Go.Proofs.Ytcmmabiomffcpaa.Nm
open Go.RowKit Cm
set_option linter.unusedVariables false
set_option linter.unusedSimpArgs false
instance : Inhabited Fl := ⟨⟨fun _ => 0, fun _ => ⟨#[]⟩, fun _ => 0, fun _ => ⟨#[]⟩, fun _ => none, fun _ => 0, fun _ => 0⟩⟩
instance : Inhabited Ml := ⟨⟨fun _ => 0, fun _ => ⟨#[]⟩, fun _ => ⟨#[]⟩, fun _ => ⟨#[]⟩, fun _ => false⟩⟩
theorem parts_end {H : Type} {enc : TypeId × Value → H} {W : World} {base : Nat} {v : Value} {d : DataW H} {ps : List MemPlace} (tag : Int) (s m : ByteArray)
    (hval : Value.okWide Try.prog W .any base 22 v) (h : DataW.Trod enc Try.prog W 0 (fun _ => true) true 22 v d ps) (hsz : ∀ n ∈ d.weights Try.prog 22, n ≤ reachBytes) :
    Calls Try.prog 4 #[v, .agg #[.int .i64 tag, .string s, .string m]] W fun e w' => e = .returned (.bool true) ∧ Below W.heap.size W w' := by
  obtain ⟨o, len, cap, D, rfl, hx, hp⟩ := decls_open hval h hsz
  obtain ⟨F, hF⟩ := Go.Deep.choose_lt (α := Fl) (n := len) (p := fun i F => Fx (D.fo i) (D.fl i) F W) (fun i hi => (hp i hi).1)
  obtain ⟨M, hM⟩ := Go.Deep.choose_lt (α := Ml) (n := len) (p := fun i M => Mx (D.mo i) (D.ml i) M W) (fun i hi => (hp i hi).2)
  exact parts_walk o len cap D F M tag s m W hx hF hM
end Go.Proofs.Ytcmmabiomffcpaa.Nm
