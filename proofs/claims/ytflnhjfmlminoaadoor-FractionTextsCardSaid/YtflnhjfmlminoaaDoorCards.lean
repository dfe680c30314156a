/-
  DERIVED. GIVEN WITH THE SEED: THE CARDS: each row of YtflnhjfmlminoaaDoorRows.lean that lists a variable, with what it lists TIED to the program's text (the seventh form; the later family's looks); each row that meets fmt, with fmt's text TOLD by the authors' own Lean function (tested against real Go, not proved from fmt's source: count such statements apart). THE CARD IS WHAT COUNTS. Prove the row's statement (the work); the ties are given (YtflnhjfmlminoaaDoorTie.lean); close each card by the builder's one call (the guide's Derived/Test/ToyasCard.lean, 'card_holds'). Laid BY PROGRAM, IN A SANDBOX (cutbox-door.mjs). By AI agents, Wed Nov 11 2026. No macro, syntax, notation, axiom, sorry.
-/
import Derived.Test.YtflnhjfmlminoaaDoorRows
import GoSem.ClaimSeven
namespace Go.Proofs.YtflnhjfmlminoaaDoor
namespace Rows

/-- THE TIED CARD OF 'gazetteerlaw05.FractionMatchesReference'. -/
def fractionMatchesReferenceCard : Claim7 := { stood := { row := fractionMatchesReferenceRow, standIns := [], harness := (true, "b309cd3419928cfea0a48f93d472407f6d5f1ae5d99c20284baf168f7a5cfdb0"), looks := true }, kinds := [], alts := [], laidByText := true, laidKinds := [.data, .data, .data, .sentinel, .sentinel], laidTests := true, laidLooks := .later }
def FractionMatchesReferenceCardSaid : Prop := Claim7.holds Tryd.pinned (.plain (OpenSpec.ofChange fractionMatchesReferenceSpec)) fractionMatchesReferenceCard

/-- THE TIED CARD OF 'gazetteerlaw05.FractionField'. -/
def fractionFieldCard : Claim7 := { stood := { row := fractionFieldRow, standIns := [], harness := (true, "b309cd3419928cfea0a48f93d472407f6d5f1ae5d99c20284baf168f7a5cfdb0"), looks := true }, kinds := [], alts := [], laidByText := true, laidKinds := [.data, .data, .data, .sentinel, .sentinel], laidTests := true, laidLooks := .later }
def FractionFieldCardSaid : Prop := Claim7.holds Tryd.pinned (.plain (OpenSpec.ofChange fractionFieldSpec)) fractionFieldCard

/-- THE TIED CARD OF 'gazetteerlaw05.FractionOrder'. -/
def fractionOrderCard : Claim7 := { stood := { row := fractionOrderRow, standIns := [], harness := (true, "b309cd3419928cfea0a48f93d472407f6d5f1ae5d99c20284baf168f7a5cfdb0"), looks := true }, kinds := [], alts := [], laidByText := true, laidKinds := [.data, .data, .data, .sentinel, .sentinel], laidTests := true, laidLooks := .later }
def FractionOrderCardSaid : Prop := Claim7.holds Tryd.pinned (.plain (OpenSpec.ofChange fractionOrderSpec)) fractionOrderCard

/-- THE TIED CARD OF 'gazetteerlaw05.FractionFloors'. -/
def fractionFloorsCard : Claim7 := { stood := { row := fractionFloorsRow, standIns := [], harness := (true, "b309cd3419928cfea0a48f93d472407f6d5f1ae5d99c20284baf168f7a5cfdb0"), looks := true }, kinds := [], alts := [], laidByText := true, laidKinds := [.data, .data, .data, .sentinel, .sentinel], laidTests := true, laidLooks := .later }
def FractionFloorsCardSaid : Prop := Claim7.holds Tryd.pinned (.plain (OpenSpec.ofChange fractionFloorsSpec)) fractionFloorsCard

/-- THE TIED CARD OF 'gazetteerlaw05.FractionTexts'. -/
def fractionTextsCard : Claim7 := { stood := { row := fractionTextsRow, standIns := [], harness := (true, "b309cd3419928cfea0a48f93d472407f6d5f1ae5d99c20284baf168f7a5cfdb0"), looks := true }, kinds := [], alts := [], laidByText := true, laidKinds := [.data, .data, .data, .sentinel, .sentinel], laidTests := true, laidLooks := .later }
def FractionTextsCardSaid : Prop := Claim7.holds Tryd.pinned (.plain (OpenSpec.ofChange fractionTextsSpec)) fractionTextsCard

/-- THE TIED CARD OF 'gazetteerlaw05.FractionResults'. -/
def fractionResultsCard : Claim7 := { stood := { row := fractionResultsRow, standIns := [], harness := (true, "b309cd3419928cfea0a48f93d472407f6d5f1ae5d99c20284baf168f7a5cfdb0"), looks := true }, kinds := [], alts := [], laidByText := true, laidKinds := [.data, .data, .data, .sentinel, .sentinel], laidTests := true, laidLooks := .later }
def FractionResultsCardSaid : Prop := Claim7.holds Tryd.pinned (.plain (OpenSpec.ofChange fractionResultsSpec)) fractionResultsCard

/-- THE SECOND FORM's CARD OF 'gazetteerlaw05.FractionMatchesReference'. -/
def fractionMatchesReferenceUptoCard : Claim7 := { stood := { row := fractionMatchesReferenceUptoRow, standIns := [], harness := (true, "b309cd3419928cfea0a48f93d472407f6d5f1ae5d99c20284baf168f7a5cfdb0"), looks := true }, kinds := [], alts := [], laidByText := true, laidKinds := [.data, .data, .data, .sentinel, .sentinel], laidTests := true, laidLooks := .later }
def FractionMatchesReferenceUptoCardSaid : Prop := Claim7.holds Tryd.pinned (.plain (OpenSpec.upto fractionMatchesReferenceSpec)) fractionMatchesReferenceUptoCard

/-- THE SECOND FORM's CARD OF 'gazetteerlaw05.FractionField'. -/
def fractionFieldUptoCard : Claim7 := { stood := { row := fractionFieldUptoRow, standIns := [], harness := (true, "b309cd3419928cfea0a48f93d472407f6d5f1ae5d99c20284baf168f7a5cfdb0"), looks := true }, kinds := [], alts := [], laidByText := true, laidKinds := [.data, .data, .data, .sentinel, .sentinel], laidTests := true, laidLooks := .later }
def FractionFieldUptoCardSaid : Prop := Claim7.holds Tryd.pinned (.plain (OpenSpec.upto fractionFieldSpec)) fractionFieldUptoCard

/-- THE SECOND FORM's CARD OF 'gazetteerlaw05.FractionOrder'. -/
def fractionOrderUptoCard : Claim7 := { stood := { row := fractionOrderUptoRow, standIns := [], harness := (true, "b309cd3419928cfea0a48f93d472407f6d5f1ae5d99c20284baf168f7a5cfdb0"), looks := true }, kinds := [], alts := [], laidByText := true, laidKinds := [.data, .data, .data, .sentinel, .sentinel], laidTests := true, laidLooks := .later }
def FractionOrderUptoCardSaid : Prop := Claim7.holds Tryd.pinned (.plain (OpenSpec.upto fractionOrderSpec)) fractionOrderUptoCard

/-- THE SECOND FORM's CARD OF 'gazetteerlaw05.FractionFloors'. -/
def fractionFloorsUptoCard : Claim7 := { stood := { row := fractionFloorsUptoRow, standIns := [], harness := (true, "b309cd3419928cfea0a48f93d472407f6d5f1ae5d99c20284baf168f7a5cfdb0"), looks := true }, kinds := [], alts := [], laidByText := true, laidKinds := [.data, .data, .data, .sentinel, .sentinel], laidTests := true, laidLooks := .later }
def FractionFloorsUptoCardSaid : Prop := Claim7.holds Tryd.pinned (.plain (OpenSpec.upto fractionFloorsSpec)) fractionFloorsUptoCard

/-- THE SECOND FORM's CARD OF 'gazetteerlaw05.FractionTexts'. -/
def fractionTextsUptoCard : Claim7 := { stood := { row := fractionTextsUptoRow, standIns := [], harness := (true, "b309cd3419928cfea0a48f93d472407f6d5f1ae5d99c20284baf168f7a5cfdb0"), looks := true }, kinds := [], alts := [], laidByText := true, laidKinds := [.data, .data, .data, .sentinel, .sentinel], laidTests := true, laidLooks := .later }
def FractionTextsUptoCardSaid : Prop := Claim7.holds Tryd.pinned (.plain (OpenSpec.upto fractionTextsSpec)) fractionTextsUptoCard

/-- THE SECOND FORM's CARD OF 'gazetteerlaw05.FractionResults'. -/
def fractionResultsUptoCard : Claim7 := { stood := { row := fractionResultsUptoRow, standIns := [], harness := (true, "b309cd3419928cfea0a48f93d472407f6d5f1ae5d99c20284baf168f7a5cfdb0"), looks := true }, kinds := [], alts := [], laidByText := true, laidKinds := [.data, .data, .data, .sentinel, .sentinel], laidTests := true, laidLooks := .later }
def FractionResultsUptoCardSaid : Prop := Claim7.holds Tryd.pinned (.plain (OpenSpec.upto fractionResultsSpec)) fractionResultsUptoCard
end Rows
end Go.Proofs.YtflnhjfmlminoaaDoor
