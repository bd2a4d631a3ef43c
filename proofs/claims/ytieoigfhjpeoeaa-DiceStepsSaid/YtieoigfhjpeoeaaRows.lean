/-
  No cell of these rows narrows 'for every input' (looked for: loops, veiled, ifaces, maps, wideKeys, modest, calm, conditions, laid).
  DERIVED. THE GIVEN ROWS OF THIS SEAT. 3 by the template 'for every input the law returns true; each argument reads behind the call as it read before'; 0 by the template 'total and deterministic' (their statements: YtieoigfhjpeoeaaTotals.lean).
  GIVEN WITH THE SEED: the statements are not yours to turn. If you find one false, say at which input.
  Laid BY PROGRAM, IN A SANDBOX (cutbox-rows.mjs): the forced cells as the released guide's own fill.sh prints them over the translation 988959c12bf5c0e9… (all of the seat's roots in one cut). By AI agents, Wed Nov 11 2026. No macro, syntax, notation, axiom, sorry.
-/
import Derived.Test.YtieoigfhjpeoeaaChecked
import GoSem.Claim
import GoSem.ClaimJoined
import GoSem.ClaimMapViews
import Derived.JoinedTies
import Derived.KernelRfl
namespace Go.Proofs.Ytieoigfhjpeoeaa
/- THE CELL 'sum', in the pinned program and in every row, IS THE sha256 OF THE DUMP (.gsa) THAT YtieoigfhjpeoeaaProg.lean LOADS. Nothing in Lean hashes anything: it is a label: what it is worth is what the hold of that sum in a sandbox is worth. -/
noncomputable def Try.pinned : Pinned := { name := "ytieoigfhjpeoeaa", sum := "988959c12bf5c0e97bebf8d5d9d9d3aefcdfa9eda965c11d20923beddbc24f48", checked := Try.checked }
namespace Rows
def none {H : Type} : Left H := { results := [], args := [] }

/-- 'concourselaw20.DiceSteps': WHATEVER THE INPUT: true; the input reads as it did. -/
def diceStepsSpec : ChangeSpec := { name := "diceSteps", fn := fun _ => fun
  | [d] => { results := [.lit (.bool true)], args := [d] }
  | _ => none }
def diceStepsRow : OpenClaim := { program := "ytieoigfhjpeoeaa", sum := "988959c12bf5c0e97bebf8d5d9d9d3aefcdfa9eda965c11d20923beddbc24f48", func := "concourse/concourselaw20.DiceSteps", spec := "diceSteps", apart := false }
def DiceStepsSaid : Prop := diceStepsRow.holds Try.pinned (OpenSpec.ofChange diceStepsSpec)

/-- ITS FALSE NEIGHBOUR: 'it returns false'. Refute it at one input. -/
def diceStepsWrong : ChangeSpec := { name := "diceSteps", fn := fun _ => fun
  | [d] => { results := [.lit (.bool false)], args := [d] }
  | _ => none }
def DiceStepsWrongFalsely : Prop := diceStepsRow.holds Try.pinned (OpenSpec.ofChange diceStepsWrong)

/-- 'concourselaw20.DiceMixes': WHATEVER THE INPUT: true; the input reads as it did. -/
def diceMixesSpec : ChangeSpec := { name := "diceMixes", fn := fun _ => fun
  | [d1, d2] => { results := [.lit (.bool true)], args := [d1, d2] }
  | _ => none }
def diceMixesRow : OpenClaim := { program := "ytieoigfhjpeoeaa", sum := "988959c12bf5c0e97bebf8d5d9d9d3aefcdfa9eda965c11d20923beddbc24f48", func := "concourse/concourselaw20.DiceMixes", spec := "diceMixes", apart := false }
def DiceMixesSaid : Prop := diceMixesRow.holds Try.pinned (OpenSpec.ofChange diceMixesSpec)

/-- ITS FALSE NEIGHBOUR: 'it returns false'. Refute it at one input. -/
def diceMixesWrong : ChangeSpec := { name := "diceMixes", fn := fun _ => fun
  | [d1, d2] => { results := [.lit (.bool false)], args := [d1, d2] }
  | _ => none }
def DiceMixesWrongFalsely : Prop := diceMixesRow.holds Try.pinned (OpenSpec.ofChange diceMixesWrong)

/-- 'concourselaw20.DiceOrder': WHATEVER THE INPUT: true; the input reads as it did. -/
def diceOrderSpec : ChangeSpec := { name := "diceOrder", fn := fun _ => fun
  | [d] => { results := [.lit (.bool true)], args := [d] }
  | _ => none }
def diceOrderRow : OpenClaim := { program := "ytieoigfhjpeoeaa", sum := "988959c12bf5c0e97bebf8d5d9d9d3aefcdfa9eda965c11d20923beddbc24f48", func := "concourse/concourselaw20.DiceOrder", spec := "diceOrder", apart := false }
def DiceOrderSaid : Prop := diceOrderRow.holds Try.pinned (OpenSpec.ofChange diceOrderSpec)

/-- ITS FALSE NEIGHBOUR: 'it returns false'. Refute it at one input. -/
def diceOrderWrong : ChangeSpec := { name := "diceOrder", fn := fun _ => fun
  | [d] => { results := [.lit (.bool false)], args := [d] }
  | _ => none }
def DiceOrderWrongFalsely : Prop := diceOrderRow.holds Try.pinned (OpenSpec.ofChange diceOrderWrong)

/- THE SECOND FORM. 'bulk': how many values and letters a reading holds, each counted each time it is reached (what is shared counts as often as it is met; a slice's spare places count too). A statement '..UptoSaid' is the law's where the arguments, and the package variables that the reading takes, are together of bulk at most 1048576: NARROWER than '..Said'. Prove '..Said' where nothing that the law and all that it calls make is longer than what came in: it says more and counts as full. Else prove '..UptoSaid'. A law counts once. -/
mutual
def uptoBulk {H : Type} : DataW H → Nat
  | .lit (.string bytes) => bytes.length + 1
  | .lit _ => 1
  | .nil => 1
  | .ptr d => uptoBulk d + 1
  | .slice elems spare => uptoBulkAll elems + uptoBulkAll spare + 1
  | .agg parts => uptoBulkAll parts + 1
  | .iface _ d => uptoBulk d + 1
  | .map entries => uptoBulkEntries entries + 1
  | .held _ => 1
def uptoBulkAll {H : Type} : List (DataW H) → Nat
  | [] => 0
  | d :: r => uptoBulk d + uptoBulkAll r
def uptoBulkEntries {H : Type} : List (Lit × DataW H) → Nat
  | [] => 0
  | x :: r => uptoBulkEntry x + uptoBulkEntries r
def uptoBulkEntry {H : Type} : Lit × DataW H → Nat
  | (.string bytes, d) => bytes.length + uptoBulk d + 1
  | (_, d) => uptoBulk d + 1
 end
def uptoSmall : (H : Type) → List (DataW H) → Bool := fun _ ds => decide (uptoBulkAll ds ≤ 1048576)
def OpenSpec.upto (s : _root_.Go.ChangeSpec) : _root_.Go.OpenSpec := { _root_.Go.OpenSpec.ofChange s with cond := some uptoSmall }

/-- 'concourselaw20.DiceSteps', WHERE WHAT IT READS IS OF BULK AT MOST 1048576: true; the input reads as it did. -/
def diceStepsUptoRow : OpenClaim := { program := "ytieoigfhjpeoeaa", sum := "988959c12bf5c0e97bebf8d5d9d9d3aefcdfa9eda965c11d20923beddbc24f48", func := "concourse/concourselaw20.DiceSteps", spec := "diceSteps", apart := false, narrowed := true }
def DiceStepsUptoSaid : Prop := diceStepsUptoRow.holds Try.pinned (OpenSpec.upto diceStepsSpec)

/-- 'concourselaw20.DiceMixes', WHERE WHAT IT READS IS OF BULK AT MOST 1048576: true; the input reads as it did. -/
def diceMixesUptoRow : OpenClaim := { program := "ytieoigfhjpeoeaa", sum := "988959c12bf5c0e97bebf8d5d9d9d3aefcdfa9eda965c11d20923beddbc24f48", func := "concourse/concourselaw20.DiceMixes", spec := "diceMixes", apart := false, narrowed := true }
def DiceMixesUptoSaid : Prop := diceMixesUptoRow.holds Try.pinned (OpenSpec.upto diceMixesSpec)

/-- 'concourselaw20.DiceOrder', WHERE WHAT IT READS IS OF BULK AT MOST 1048576: true; the input reads as it did. -/
def diceOrderUptoRow : OpenClaim := { program := "ytieoigfhjpeoeaa", sum := "988959c12bf5c0e97bebf8d5d9d9d3aefcdfa9eda965c11d20923beddbc24f48", func := "concourse/concourselaw20.DiceOrder", spec := "diceOrder", apart := false, narrowed := true }
def DiceOrderUptoSaid : Prop := diceOrderUptoRow.holds Try.pinned (OpenSpec.upto diceOrderSpec)

end Rows
end Go.Proofs.Ytieoigfhjpeoeaa
