/- The walks of the laws of layer 2, as the frames ask for them. -/
import Derived.Test.YtjjilnbladgjbaaSpBack
import Derived.OpenShut
namespace Go.Proofs.Ytjjilnbladgjbaa.Vm
open Go.RowKit
theorem takes_int (s b : ByteArray) (m : Int) (hs : s.size ≤ 140737488355327) (hb : b.size ≤ 140737488355327) (hm : (Lit.int .i64 m).wf = true) (w : World) :
    Calls Try.prog 3 #[.string s, .string b, .int .i64 m] w fun e w' => e = .returned (.bool true) ∧ Below w.heap.size w w' :=
  takes_walk s b m w (by omega) (by omega) (bounds_i64 hm).1 (bounds_i64 hm).2
theorem none_int (m : Int) (hm : (Lit.int .i64 m).wf = true) (w : World) :
    Calls Try.prog 6 #[.int .i64 m] w fun e w' => e = .returned (.bool true) ∧ Below w.heap.size w w' :=
  none_walk m w (bounds_i64 hm).1 (bounds_i64 hm).2
end Go.Proofs.Ytjjilnbladgjbaa.Vm
