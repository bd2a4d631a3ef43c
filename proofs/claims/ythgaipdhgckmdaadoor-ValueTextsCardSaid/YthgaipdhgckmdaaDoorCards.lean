/-
  DERIVED. GIVEN WITH THE SEED: THE CARDS: each row of YthgaipdhgckmdaaDoorRows.lean that lists a variable, with what it lists TIED to the program's text (the seventh form; the later family's looks); each row that meets fmt, with fmt's text TOLD by the authors' own Lean function (tested against real Go, not proved from fmt's source: count such statements apart). THE CARD IS WHAT COUNTS. Prove the row's statement (the work); the ties are given (YthgaipdhgckmdaaDoorTie.lean); close each card by the builder's one call (the guide's Derived/Test/ToyasCard.lean, 'card_holds'). Laid BY PROGRAM, IN A SANDBOX (cutbox-door.mjs). By AI agents, Wed Nov 11 2026. No macro, syntax, notation, axiom, sorry.
-/
import Derived.Test.YthgaipdhgckmdaaDoorRows
import GoSem.ClaimSeven
namespace Go.Proofs.YthgaipdhgckmdaaDoor
namespace Rows

/-- THE TIED CARD OF 'concourselaw15.ValueWell'. -/
def valueWellCard : Claim7 := { stood := { row := valueWellRow, standIns := [], harness := (true, "50fcd693e026865f0b761d4b9ccc396b4e5ca68a37aa3a086bf94c19b77959d9"), looks := true }, kinds := [], alts := [], laidByText := true, laidKinds := [.data, .data, .data], laidTests := true, laidLooks := .later }
def ValueWellCardSaid : Prop := Claim7.holds Tryd.pinned (.plain (OpenSpec.ofChange valueWellSpec)) valueWellCard

/-- THE TIED CARD OF 'concourselaw15.ValueTexts'. -/
def valueTextsCard : Claim7 := { stood := { row := valueTextsRow, standIns := [], harness := (true, "50fcd693e026865f0b761d4b9ccc396b4e5ca68a37aa3a086bf94c19b77959d9"), looks := true }, kinds := [], alts := [], laidByText := true, laidKinds := [.data, .data, .data], laidTests := true, laidLooks := .later }
def ValueTextsCardSaid : Prop := Claim7.holds Tryd.pinned (.plain (OpenSpec.ofChange valueTextsSpec)) valueTextsCard

/-- THE TIED CARD OF 'concourselaw15.ValueSame'. -/
def valueSameCard : Claim7 := { stood := { row := valueSameRow, standIns := [], harness := (true, "50fcd693e026865f0b761d4b9ccc396b4e5ca68a37aa3a086bf94c19b77959d9"), looks := true }, kinds := [], alts := [], laidByText := true, laidKinds := [.data, .data, .data], laidTests := true, laidLooks := .later }
def ValueSameCardSaid : Prop := Claim7.holds Tryd.pinned (.plain (OpenSpec.ofChange valueSameSpec)) valueSameCard

/-- THE TIED CARD OF 'concourselaw15.ValueApart'. -/
def valueApartCard : Claim7 := { stood := { row := valueApartRow, standIns := [], harness := (true, "50fcd693e026865f0b761d4b9ccc396b4e5ca68a37aa3a086bf94c19b77959d9"), looks := true }, kinds := [], alts := [], laidByText := true, laidKinds := [.data, .data, .data], laidTests := true, laidLooks := .later }
def ValueApartCardSaid : Prop := Claim7.holds Tryd.pinned (.plain (OpenSpec.ofChange valueApartSpec)) valueApartCard

/-- THE SECOND FORM's CARD OF 'concourselaw15.ValueWell'. -/
def valueWellUptoCard : Claim7 := { stood := { row := valueWellUptoRow, standIns := [], harness := (true, "50fcd693e026865f0b761d4b9ccc396b4e5ca68a37aa3a086bf94c19b77959d9"), looks := true }, kinds := [], alts := [], laidByText := true, laidKinds := [.data, .data, .data], laidTests := true, laidLooks := .later }
def ValueWellUptoCardSaid : Prop := Claim7.holds Tryd.pinned (.plain (OpenSpec.upto valueWellSpec)) valueWellUptoCard

/-- THE SECOND FORM's CARD OF 'concourselaw15.ValueTexts'. -/
def valueTextsUptoCard : Claim7 := { stood := { row := valueTextsUptoRow, standIns := [], harness := (true, "50fcd693e026865f0b761d4b9ccc396b4e5ca68a37aa3a086bf94c19b77959d9"), looks := true }, kinds := [], alts := [], laidByText := true, laidKinds := [.data, .data, .data], laidTests := true, laidLooks := .later }
def ValueTextsUptoCardSaid : Prop := Claim7.holds Tryd.pinned (.plain (OpenSpec.upto valueTextsSpec)) valueTextsUptoCard

/-- THE SECOND FORM's CARD OF 'concourselaw15.ValueSame'. -/
def valueSameUptoCard : Claim7 := { stood := { row := valueSameUptoRow, standIns := [], harness := (true, "50fcd693e026865f0b761d4b9ccc396b4e5ca68a37aa3a086bf94c19b77959d9"), looks := true }, kinds := [], alts := [], laidByText := true, laidKinds := [.data, .data, .data], laidTests := true, laidLooks := .later }
def ValueSameUptoCardSaid : Prop := Claim7.holds Tryd.pinned (.plain (OpenSpec.upto valueSameSpec)) valueSameUptoCard

/-- THE SECOND FORM's CARD OF 'concourselaw15.ValueApart'. -/
def valueApartUptoCard : Claim7 := { stood := { row := valueApartUptoRow, standIns := [], harness := (true, "50fcd693e026865f0b761d4b9ccc396b4e5ca68a37aa3a086bf94c19b77959d9"), looks := true }, kinds := [], alts := [], laidByText := true, laidKinds := [.data, .data, .data], laidTests := true, laidLooks := .later }
def ValueApartUptoCardSaid : Prop := Claim7.holds Tryd.pinned (.plain (OpenSpec.upto valueApartSpec)) valueApartUptoCard
end Rows
end Go.Proofs.YthgaipdhgckmdaaDoor
