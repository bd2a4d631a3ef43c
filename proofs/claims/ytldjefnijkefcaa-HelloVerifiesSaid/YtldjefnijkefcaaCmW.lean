/- The library's means of walking that later texts use: imports alone, for every package. -/
import Derived.Test.YtldjefnijkefcaaCmO
import Derived.BigQuiet
import Derived.Deep.Cut
import Derived.Deep.CutRange
import Derived.Deep.LoopGhost
import Derived.Deep.OwnRows
import Derived.Deep.QuietTactic
import Derived.Deep.RegionHeld3
import Derived.Deep.RegionLaw
import Derived.Deep.RegionWith
import Derived.Handy
import Derived.StillTailTactics
namespace Go.Proofs.Ytldjefnijkefcaa.Cm
theorem walks : True := trivial
end Go.Proofs.Ytldjefnijkefcaa.Cm
