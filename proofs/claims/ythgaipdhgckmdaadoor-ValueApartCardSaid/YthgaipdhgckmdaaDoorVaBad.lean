/- Values: which texts are right (chapter 3's), and the reference's Well with them. -/
import Derived.Test.YthgaipdhgckmdaaDoorVaWell
import Derived.Test.YthgaipdhgckmdaaDoorVaTextW
import Derived.Test.YthgaipdhgckmdaaDoorUtWalk
namespace Go.Proofs.YthgaipdhgckmdaaDoor.Va
open Go.RowKit Cm
set_option linter.unusedVariables false
set_option linter.unusedSimpArgs false

theorem bd_any (s : ByteArray) (w : World) (h : s.size ≤ 2000) : Calls Tryd.prog 43 #[.string s] w fun e w' => e = .returned (.int .i64 (Ut.wkS s).2) ∧ Below w.heap.size w w' :=
  (Ut.rbad_any s w (by omega)).mono fun e w' ⟨h1, h2⟩ => ⟨h1, by subst h2; exact Below.refl _ _⟩
def rightB : ByteArray → Bool := fun s => decide ((Ut.wkS s).2 < 0)
theorem rwell_of (v : Va) (w : World) (hv : VaIn w v) (hnc : Nc v) :
    Calls Tryd.prog 10 #[.agg #[.int .i64 v.k, .int .i64 v.n, .string v.s, .slice v.tb v.ts.length v.tc, .slice v.io v.is.length v.ic]] w fun e w' => e = .returned (.bool (weV rightB v)) ∧ Below w.heap.size w w' :=
  rwell_any (fun s => (Ut.wkS s).2) bd_any _ v w (Nat.lt_succ_self _) hv hnc
end Go.Proofs.YthgaipdhgckmdaaDoor.Va
