/- Values: the four laws with what the form says of a value that came in. -/
import Derived.Test.YthgaipdhgckmdaaDoorVaSameWalk
import Derived.Test.YthgaipdhgckmdaaDoorVaApartWalk
import Derived.WideShapes
namespace Go.Proofs.YthgaipdhgckmdaaDoor.Va
open Go.RowKit Cm
set_option linter.unusedVariables false
set_option linter.unusedSimpArgs false

set_option maxRecDepth 100000 in
theorem value_arg {H : Type} {enc : TypeId × Value → H} {W : World} {base : Nat} {v : Value} {d : DataW H} {ps : List MemPlace}
    (hval : Value.okWide Tryd.prog W .any base 25 v) (h : DataW.Trod enc Tryd.prog W 0 (fun _ => true) true 25 v d ps) (hsz : ∀ n ∈ d.weights Tryd.prog 25, n ≤ reachBytes) :
    ∃ x : Va, v = .agg #[.int .i64 x.k, .int .i64 x.n, .string x.s, .slice x.tb x.ts.length x.tc, .slice x.io x.is.length x.ic] ∧ VaIn W x := by
  obtain ⟨cs, rfl, hcs⟩ := Go.WideShapes.okWide_struct Tryd.underlying25 hval
  obtain ⟨fuel, hf⟩ := h
  have hf' : DataW.trod enc Tryd.prog W 0 (fun _ => true) true fuel 25 cs.toList = some (d, ps) := by simpa [Value.cells] using hf
  obtain ⟨x, hx, hin⟩ := value_open (SizeOf.sizeOf d + 1) (Nat.lt_succ_self _) hf' hsz
  refine ⟨x, ?_, hin⟩
  rw [show cs = x.at5.toArray from by rw [← hx]]
  rfl
set_option maxRecDepth 100000 in
theorem well_end {H : Type} {enc : TypeId × Value → H} {W : World} (hP : Pw W) {base : Nat} {v : Value} {d : DataW H} {ps : List MemPlace}
    (hval : Value.okWide Tryd.prog W .any base 25 v) (h : DataW.Trod enc Tryd.prog W 0 (fun _ => true) true 25 v d ps) (hsz : ∀ n ∈ d.weights Tryd.prog 25, n ≤ reachBytes) :
    Calls Tryd.prog 3 #[v] W fun e w' => e = .returned (.bool true) ∧ Below W.heap.size W w' := by
  obtain ⟨x, rfl, hx⟩ := value_arg hval h hsz
  exact well_walk x W hx hP
set_option maxRecDepth 100000 in
theorem texts_end {H : Type} {enc : TypeId × Value → H} {W : World} (hP : Pw W) {base : Nat} {v : Value} {d : DataW H} {ps : List MemPlace}
    (hval : Value.okWide Tryd.prog W .any base 25 v) (h : DataW.Trod enc Tryd.prog W 0 (fun _ => true) true 25 v d ps) (hsz : ∀ n ∈ d.weights Tryd.prog 25, n ≤ reachBytes) :
    Calls Tryd.prog 4 #[v] W fun e w' => e = .returned (.bool true) ∧ Below W.heap.size W w' := by
  obtain ⟨x, rfl, hx⟩ := value_arg hval h hsz
  exact texts_walk x W hx hP
set_option maxRecDepth 100000 in
theorem same_end {H : Type} {enc : TypeId × Value → H} {W : World} (hP : Pw W) {base : Nat} {u v : Value} {c d : DataW H} {qs ps : List MemPlace}
    (hu : Value.okWide Tryd.prog W .any base 25 u) (g : DataW.Trod enc Tryd.prog W 0 (fun _ => true) true 25 u c qs) (hsu : ∀ n ∈ c.weights Tryd.prog 25, n ≤ reachBytes)
    (hval : Value.okWide Tryd.prog W .any base 25 v) (h : DataW.Trod enc Tryd.prog W 0 (fun _ => true) true 25 v d ps) (hsz : ∀ n ∈ d.weights Tryd.prog 25, n ≤ reachBytes) :
    Calls Tryd.prog 5 #[u, v] W fun e w' => e = .returned (.bool true) ∧ Below W.heap.size W w' := by
  obtain ⟨x, rfl, hx⟩ := value_arg hu g hsu
  obtain ⟨y, rfl, hy⟩ := value_arg hval h hsz
  exact same_walk x y W hx hy hP
set_option maxRecDepth 100000 in
theorem apart_end {H : Type} {enc : TypeId × Value → H} {W : World} (hP : Pw W) {base : Nat} {u v : Value} {c d : DataW H} {qs ps : List MemPlace}
    (hu : Value.okWide Tryd.prog W .any base 25 u) (g : DataW.Trod enc Tryd.prog W 0 (fun _ => true) true 25 u c qs) (hsu : ∀ n ∈ c.weights Tryd.prog 25, n ≤ reachBytes)
    (hval : Value.okWide Tryd.prog W .any base 25 v) (h : DataW.Trod enc Tryd.prog W 0 (fun _ => true) true 25 v d ps) (hsz : ∀ n ∈ d.weights Tryd.prog 25, n ≤ reachBytes) :
    Calls Tryd.prog 6 #[u, v] W fun e w' => e = .returned (.bool true) ∧ Below W.heap.size W w' := by
  obtain ⟨x, rfl, hx⟩ := value_arg hu g hsu
  obtain ⟨y, rfl, hy⟩ := value_arg hval h hsz
  exact apart_walk x y W hx hy hP
end Go.Proofs.YthgaipdhgckmdaaDoor.Va
