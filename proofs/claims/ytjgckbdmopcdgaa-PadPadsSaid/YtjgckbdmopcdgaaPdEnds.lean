/- The law PadPads with the bounds as the form has them. -/
import Derived.Test.YtjgckbdmopcdgaaPdBack
import Derived.OpenShut
namespace Go.Proofs.Ytjgckbdmopcdgaa.Pd
open Go.RowKit
theorem pads_end (s : ByteArray) (n : Int) (hs : s.size ≤ 140737488355327) (hn : (Lit.int .i64 n).wf = true) (w : World) :
    Calls Try.prog 3 #[.string s, .int .i64 n] w fun e w' => e = .returned (.bool true) ∧ Below w.heap.size w w' :=
  pads_walk s n w hs (bounds_i64 hn).1 (bounds_i64 hn).2
end Go.Proofs.Ytjgckbdmopcdgaa.Pd
