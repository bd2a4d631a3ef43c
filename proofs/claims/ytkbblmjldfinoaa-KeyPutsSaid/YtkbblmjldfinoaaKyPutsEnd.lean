/- The law KeyPuts with the bounds as the form has them. -/
import Derived.Test.YtkbblmjldfinoaaKySkip
import Derived.OpenShut
namespace Go.Proofs.Ytkbblmjldfinoaa.Vm
open Go.RowKit
theorem kputs_end (t v : Int) (s : ByteArray) (ht : (Lit.int .i64 t).wf = true) (hv : (Lit.int .i64 v).wf = true) (hs : s.size ≤ 140737488355327) (w : World) :
    Calls Try.prog 3 #[.int .i64 t, .int .i64 v, .string s] w fun e w' => e = .returned (.bool true) ∧ Below w.heap.size w w' :=
  kputs_walk t v s w (by unfold maxLen; omega) (bounds_i64 ht).1 (bounds_i64 ht).2 (bounds_i64 hv).1 (bounds_i64 hv).2
end Go.Proofs.Ytkbblmjldfinoaa.Vm
