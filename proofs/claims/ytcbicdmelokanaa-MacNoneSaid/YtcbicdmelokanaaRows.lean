/-
  No cell of these rows narrows 'for every input' (looked for: loops, veiled, ifaces, maps, wideKeys, modest, calm, conditions, laid).
  DERIVED. THE GIVEN ROWS OF THIS SEAT. 3 by the template 'for every input the law returns true; each argument reads behind the call as it read before'; 0 by the template 'total and deterministic' (their statements: YtcbicdmelokanaaTotals.lean).
  GIVEN WITH THE SEED: the statements are not yours to turn. If you find one false, say at which input.
  Laid BY PROGRAM, IN A SANDBOX (cutbox-rows.mjs): the forced cells as the released guide's own fill.sh prints them over the translation 185a8a4a086d010e… (all of the seat's roots in one cut). By AI agents, Wed Nov 11 2026. No macro, syntax, notation, axiom, sorry.
-/
import Derived.Test.YtcbicdmelokanaaChecked
import GoSem.Claim
import GoSem.ClaimJoined
import GoSem.ClaimMapViews
import Derived.JoinedTies
import Derived.KernelRfl
namespace Go.Proofs.Ytcbicdmelokanaa
/- THE CELL 'sum', in the pinned program and in every row, IS THE sha256 OF THE DUMP (.gsa) THAT YtcbicdmelokanaaProg.lean LOADS. Nothing in Lean hashes anything: it is a label: what it is worth is what the hold of that sum in a sandbox is worth. -/
noncomputable def Try.pinned : Pinned := { name := "ytcbicdmelokanaa", sum := "185a8a4a086d010e3bcef21b00ecb825dde1492244b37565a45c01152ca9b442", checked := Try.checked }
namespace Rows
def none {H : Type} : Left H := { results := [], args := [] }

/-- 'concourselaw21.MacSteps': WHATEVER THE INPUT: true; the input reads as it did. -/
def macStepsSpec : ChangeSpec := { name := "macSteps", fn := fun _ => fun
  | [d] => { results := [.lit (.bool true)], args := [d] }
  | _ => none }
def macStepsRow : OpenClaim := { program := "ytcbicdmelokanaa", sum := "185a8a4a086d010e3bcef21b00ecb825dde1492244b37565a45c01152ca9b442", func := "concourse/concourselaw21.MacSteps", spec := "macSteps", apart := false }
def MacStepsSaid : Prop := macStepsRow.holds Try.pinned (OpenSpec.ofChange macStepsSpec)

/-- ITS FALSE NEIGHBOUR: 'it returns false'. Refute it at one input. -/
def macStepsWrong : ChangeSpec := { name := "macSteps", fn := fun _ => fun
  | [d] => { results := [.lit (.bool false)], args := [d] }
  | _ => none }
def MacStepsWrongFalsely : Prop := macStepsRow.holds Try.pinned (OpenSpec.ofChange macStepsWrong)

/-- 'concourselaw21.MacFresh': WHATEVER THE INPUT: true; the input reads as it did. -/
def macFreshSpec : ChangeSpec := { name := "macFresh", fn := fun _ => fun
  | [d1, d2, d3] => { results := [.lit (.bool true)], args := [d1, d2, d3] }
  | _ => none }
def macFreshRow : OpenClaim := { program := "ytcbicdmelokanaa", sum := "185a8a4a086d010e3bcef21b00ecb825dde1492244b37565a45c01152ca9b442", func := "concourse/concourselaw21.MacFresh", spec := "macFresh", apart := false }
def MacFreshSaid : Prop := macFreshRow.holds Try.pinned (OpenSpec.ofChange macFreshSpec)

/-- ITS FALSE NEIGHBOUR: 'it returns false'. Refute it at one input. -/
def macFreshWrong : ChangeSpec := { name := "macFresh", fn := fun _ => fun
  | [d1, d2, d3] => { results := [.lit (.bool false)], args := [d1, d2, d3] }
  | _ => none }
def MacFreshWrongFalsely : Prop := macFreshRow.holds Try.pinned (OpenSpec.ofChange macFreshWrong)

/-- 'concourselaw21.MacNone': WHATEVER THE INPUT: true; the input reads as it did. -/
def macNoneSpec : ChangeSpec := { name := "macNone", fn := fun _ => fun
  | [d1, d2, d3] => { results := [.lit (.bool true)], args := [d1, d2, d3] }
  | _ => none }
def macNoneRow : OpenClaim := { program := "ytcbicdmelokanaa", sum := "185a8a4a086d010e3bcef21b00ecb825dde1492244b37565a45c01152ca9b442", func := "concourse/concourselaw21.MacNone", spec := "macNone", apart := false }
def MacNoneSaid : Prop := macNoneRow.holds Try.pinned (OpenSpec.ofChange macNoneSpec)

/-- ITS FALSE NEIGHBOUR: 'it returns false'. Refute it at one input. -/
def macNoneWrong : ChangeSpec := { name := "macNone", fn := fun _ => fun
  | [d1, d2, d3] => { results := [.lit (.bool false)], args := [d1, d2, d3] }
  | _ => none }
def MacNoneWrongFalsely : Prop := macNoneRow.holds Try.pinned (OpenSpec.ofChange macNoneWrong)

/- THE SECOND FORM. 'bulk': how many values and letters a reading holds, each counted each time it is reached (what is shared counts as often as it is met; a slice's spare places count too). A statement '..UptoSaid' is the law's where the arguments, and the package variables that the reading takes, are together of bulk at most 1048576: NARROWER than '..Said'. Prove '..Said' where nothing that the law and all that it calls make is longer than what came in: it says more and counts as full. Else prove '..UptoSaid'. A law counts once. -/
mutual
def uptoBulk {H : Type} : DataW H → Nat
  | .lit (.string bytes) => bytes.length + 1
  | .lit _ => 1
  | .nil => 1
  | .ptr d => uptoBulk d + 1
  | .slice elems spare => uptoBulkAll elems + uptoBulkAll spare + 1
  | .agg parts => uptoBulkAll parts + 1
  | .iface _ d => uptoBulk d + 1
  | .map entries => uptoBulkEntries entries + 1
  | .held _ => 1
def uptoBulkAll {H : Type} : List (DataW H) → Nat
  | [] => 0
  | d :: r => uptoBulk d + uptoBulkAll r
def uptoBulkEntries {H : Type} : List (Lit × DataW H) → Nat
  | [] => 0
  | x :: r => uptoBulkEntry x + uptoBulkEntries r
def uptoBulkEntry {H : Type} : Lit × DataW H → Nat
  | (.string bytes, d) => bytes.length + uptoBulk d + 1
  | (_, d) => uptoBulk d + 1
 end
def uptoSmall : (H : Type) → List (DataW H) → Bool := fun _ ds => decide (uptoBulkAll ds ≤ 1048576)
def OpenSpec.upto (s : _root_.Go.ChangeSpec) : _root_.Go.OpenSpec := { _root_.Go.OpenSpec.ofChange s with cond := some uptoSmall }

/-- 'concourselaw21.MacSteps', WHERE WHAT IT READS IS OF BULK AT MOST 1048576: true; the input reads as it did. -/
def macStepsUptoRow : OpenClaim := { program := "ytcbicdmelokanaa", sum := "185a8a4a086d010e3bcef21b00ecb825dde1492244b37565a45c01152ca9b442", func := "concourse/concourselaw21.MacSteps", spec := "macSteps", apart := false, narrowed := true }
def MacStepsUptoSaid : Prop := macStepsUptoRow.holds Try.pinned (OpenSpec.upto macStepsSpec)

/-- 'concourselaw21.MacFresh', WHERE WHAT IT READS IS OF BULK AT MOST 1048576: true; the input reads as it did. -/
def macFreshUptoRow : OpenClaim := { program := "ytcbicdmelokanaa", sum := "185a8a4a086d010e3bcef21b00ecb825dde1492244b37565a45c01152ca9b442", func := "concourse/concourselaw21.MacFresh", spec := "macFresh", apart := false, narrowed := true }
def MacFreshUptoSaid : Prop := macFreshUptoRow.holds Try.pinned (OpenSpec.upto macFreshSpec)

/-- 'concourselaw21.MacNone', WHERE WHAT IT READS IS OF BULK AT MOST 1048576: true; the input reads as it did. -/
def macNoneUptoRow : OpenClaim := { program := "ytcbicdmelokanaa", sum := "185a8a4a086d010e3bcef21b00ecb825dde1492244b37565a45c01152ca9b442", func := "concourse/concourselaw21.MacNone", spec := "macNone", apart := false, narrowed := true }
def MacNoneUptoSaid : Prop := macNoneUptoRow.holds Try.pinned (OpenSpec.upto macNoneSpec)

end Rows
end Go.Proofs.Ytcbicdmelokanaa
