/- The laws FramePuts and FrameBack with the bounds as the form has them. -/
import Derived.Test.YtgihiejbaimljaaFrBack
import Derived.OpenShut
namespace Go.Proofs.Ytgihiejbaimljaa.Fr
open Go.RowKit
theorem puts_end (k f : Int) (b : ByteArray) (n : Int) (hk : (Lit.int .i64 k).wf = true) (hf : (Lit.int .i64 f).wf = true) (hs : b.size ≤ 140737488355327) (hn : (Lit.int .i64 n).wf = true) (w : World) :
    Calls Try.prog 3 #[.agg #[.int .i64 k, .int .i64 f, .string b], .int .i64 n] w fun e w' => e = .returned (.bool true) ∧ Below w.heap.size w w' :=
  puts_walk k f b n w (bounds_i64 hk).1 (bounds_i64 hk).2 (bounds_i64 hf).1 (bounds_i64 hf).2 hs (bounds_i64 hn).1 (bounds_i64 hn).2
theorem back_end (k f : Int) (b r : ByteArray) (cut : Int) (hk : (Lit.int .i64 k).wf = true) (hf : (Lit.int .i64 f).wf = true) (hs : b.size ≤ 140737488355327) (hr : r.size ≤ 140737488355327) (hc : (Lit.int .i64 cut).wf = true) (w : World) :
    Calls Try.prog 5 #[.agg #[.int .i64 k, .int .i64 f, .string b], .string r, .int .i64 cut] w fun e w' => e = .returned (.bool true) ∧ Below w.heap.size w w' :=
  back_walk k f b r cut w (bounds_i64 hk).1 (bounds_i64 hk).2 (bounds_i64 hf).1 (bounds_i64 hf).2 hs hr (bounds_i64 hc).1 (bounds_i64 hc).2
end Go.Proofs.Ytgihiejbaimljaa.Fr
