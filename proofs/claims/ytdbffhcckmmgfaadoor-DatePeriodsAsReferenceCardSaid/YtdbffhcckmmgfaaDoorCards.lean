/-
  DERIVED. GIVEN WITH THE SEED: THE CARDS: each row of YtdbffhcckmmgfaaDoorRows.lean that lists a variable, with what it lists TIED to the program's text (the seventh form; the later family's looks); each row that meets fmt, with fmt's text TOLD by the authors' own Lean function (tested against real Go, not proved from fmt's source: count such statements apart). THE CARD IS WHAT COUNTS. Prove the row's statement (the work); the ties are given (YtdbffhcckmmgfaaDoorTie.lean); close each card by the builder's one call (the guide's Derived/Test/ToyasCard.lean, 'card_holds'). Laid BY PROGRAM, IN A SANDBOX (cutbox-door.mjs). By AI agents, Wed Nov 11 2026. No macro, syntax, notation, axiom, sorry.
-/
import Derived.Test.YtdbffhcckmmgfaaDoorRows
import GoSem.ClaimSeven
namespace Go.Proofs.YtdbffhcckmmgfaaDoor
namespace Rows

/-- THE TIED CARD OF 'gazetteerlaw06.DateMatchesReference'. -/
def dateMatchesReferenceCard : Claim7 := { stood := { row := dateMatchesReferenceRow, standIns := [], harness := (true, "3bf595615efffa9394c4de079931e004a6bbc022c888373f52a0b6bcae250689"), looks := true }, kinds := [], alts := [], laidByText := true, laidKinds := [.data, .data, .data, .sentinel, .sentinel, .data], laidTests := true, laidLooks := .later }
def DateMatchesReferenceCardSaid : Prop := Claim7.holds Tryd.pinned (.plain (OpenSpec.ofChange dateMatchesReferenceSpec)) dateMatchesReferenceCard

/-- THE TIED CARD OF 'gazetteerlaw06.DatePeriodsAsReference'. -/
def datePeriodsAsReferenceCard : Claim7 := { stood := { row := datePeriodsAsReferenceRow, standIns := [], harness := (true, "3bf595615efffa9394c4de079931e004a6bbc022c888373f52a0b6bcae250689"), looks := true }, kinds := [], alts := [], laidByText := true, laidKinds := [.data, .data, .data, .data], laidTests := true, laidLooks := .later }
def DatePeriodsAsReferenceCardSaid : Prop := Claim7.holds Tryd.pinned (.plain (OpenSpec.ofChange datePeriodsAsReferenceSpec)) datePeriodsAsReferenceCard

/-- THE TIED CARD OF 'gazetteerlaw06.DateFollows'. -/
def dateFollowsCard : Claim7 := { stood := { row := dateFollowsRow, standIns := [], harness := (true, "3bf595615efffa9394c4de079931e004a6bbc022c888373f52a0b6bcae250689"), looks := true }, kinds := [], alts := [], laidByText := true, laidKinds := [.data, .data, .data, .data], laidTests := true, laidLooks := .later }
def DateFollowsCardSaid : Prop := Claim7.holds Tryd.pinned (.plain (OpenSpec.ofChange dateFollowsSpec)) dateFollowsCard

/-- THE TIED CARD OF 'gazetteerlaw06.DateBack'. -/
def dateBackCard : Claim7 := { stood := { row := dateBackRow, standIns := [], harness := (true, "3bf595615efffa9394c4de079931e004a6bbc022c888373f52a0b6bcae250689"), looks := true }, kinds := [], alts := [], laidByText := true, laidKinds := [.data, .data, .data, .data], laidTests := true, laidLooks := .later }
def DateBackCardSaid : Prop := Claim7.holds Tryd.pinned (.plain (OpenSpec.ofChange dateBackSpec)) dateBackCard

/-- THE TIED CARD OF 'gazetteerlaw06.DateWeeks'. -/
def dateWeeksCard : Claim7 := { stood := { row := dateWeeksRow, standIns := [], harness := (true, "3bf595615efffa9394c4de079931e004a6bbc022c888373f52a0b6bcae250689"), looks := true }, kinds := [], alts := [], laidByText := true, laidKinds := [.data, .data, .data, .data], laidTests := true, laidLooks := .later }
def DateWeeksCardSaid : Prop := Claim7.holds Tryd.pinned (.plain (OpenSpec.ofChange dateWeeksSpec)) dateWeeksCard

/-- THE TIED CARD OF 'gazetteerlaw06.DateMonths'. -/
def dateMonthsCard : Claim7 := { stood := { row := dateMonthsRow, standIns := [], harness := (true, "3bf595615efffa9394c4de079931e004a6bbc022c888373f52a0b6bcae250689"), looks := true }, kinds := [], alts := [], laidByText := true, laidKinds := [.data, .data, .data, .data], laidTests := true, laidLooks := .later }
def DateMonthsCardSaid : Prop := Claim7.holds Tryd.pinned (.plain (OpenSpec.ofChange dateMonthsSpec)) dateMonthsCard

/-- THE TIED CARD OF 'gazetteerlaw06.DateTexts'. -/
def dateTextsCard : Claim7 := { stood := { row := dateTextsRow, standIns := [], harness := (true, "3bf595615efffa9394c4de079931e004a6bbc022c888373f52a0b6bcae250689"), looks := true }, kinds := [], alts := [], laidByText := true, laidKinds := [.data, .data, .data, .sentinel, .sentinel, .data], laidTests := true, laidLooks := .later }
def DateTextsCardSaid : Prop := Claim7.holds Tryd.pinned (.plain (OpenSpec.ofChange dateTextsSpec)) dateTextsCard

/-- THE TIED CARD OF 'gazetteerlaw06.DateCommon'. -/
def dateCommonCard : Claim7 := { stood := { row := dateCommonRow, standIns := [], harness := (true, "3bf595615efffa9394c4de079931e004a6bbc022c888373f52a0b6bcae250689"), looks := true }, kinds := [], alts := [], laidByText := true, laidKinds := [.data, .data, .data, .data], laidTests := true, laidLooks := .later }
def DateCommonCardSaid : Prop := Claim7.holds Tryd.pinned (.plain (OpenSpec.ofChange dateCommonSpec)) dateCommonCard

/-- THE TIED CARD OF 'gazetteerlaw06.DateUnion'. -/
def dateUnionCard : Claim7 := { stood := { row := dateUnionRow, standIns := [], harness := (true, "3bf595615efffa9394c4de079931e004a6bbc022c888373f52a0b6bcae250689"), looks := true }, kinds := [], alts := [], laidByText := true, laidKinds := [.data, .data, .data, .data], laidTests := true, laidLooks := .later }
def DateUnionCardSaid : Prop := Claim7.holds Tryd.pinned (.plain (OpenSpec.ofChange dateUnionSpec)) dateUnionCard

/-- THE SECOND FORM's CARD OF 'gazetteerlaw06.DateMatchesReference'. -/
def dateMatchesReferenceUptoCard : Claim7 := { stood := { row := dateMatchesReferenceUptoRow, standIns := [], harness := (true, "3bf595615efffa9394c4de079931e004a6bbc022c888373f52a0b6bcae250689"), looks := true }, kinds := [], alts := [], laidByText := true, laidKinds := [.data, .data, .data, .sentinel, .sentinel, .data], laidTests := true, laidLooks := .later }
def DateMatchesReferenceUptoCardSaid : Prop := Claim7.holds Tryd.pinned (.plain (OpenSpec.upto dateMatchesReferenceSpec)) dateMatchesReferenceUptoCard

/-- THE SECOND FORM's CARD OF 'gazetteerlaw06.DatePeriodsAsReference'. -/
def datePeriodsAsReferenceUptoCard : Claim7 := { stood := { row := datePeriodsAsReferenceUptoRow, standIns := [], harness := (true, "3bf595615efffa9394c4de079931e004a6bbc022c888373f52a0b6bcae250689"), looks := true }, kinds := [], alts := [], laidByText := true, laidKinds := [.data, .data, .data, .data], laidTests := true, laidLooks := .later }
def DatePeriodsAsReferenceUptoCardSaid : Prop := Claim7.holds Tryd.pinned (.plain (OpenSpec.upto datePeriodsAsReferenceSpec)) datePeriodsAsReferenceUptoCard

/-- THE SECOND FORM's CARD OF 'gazetteerlaw06.DateFollows'. -/
def dateFollowsUptoCard : Claim7 := { stood := { row := dateFollowsUptoRow, standIns := [], harness := (true, "3bf595615efffa9394c4de079931e004a6bbc022c888373f52a0b6bcae250689"), looks := true }, kinds := [], alts := [], laidByText := true, laidKinds := [.data, .data, .data, .data], laidTests := true, laidLooks := .later }
def DateFollowsUptoCardSaid : Prop := Claim7.holds Tryd.pinned (.plain (OpenSpec.upto dateFollowsSpec)) dateFollowsUptoCard

/-- THE SECOND FORM's CARD OF 'gazetteerlaw06.DateBack'. -/
def dateBackUptoCard : Claim7 := { stood := { row := dateBackUptoRow, standIns := [], harness := (true, "3bf595615efffa9394c4de079931e004a6bbc022c888373f52a0b6bcae250689"), looks := true }, kinds := [], alts := [], laidByText := true, laidKinds := [.data, .data, .data, .data], laidTests := true, laidLooks := .later }
def DateBackUptoCardSaid : Prop := Claim7.holds Tryd.pinned (.plain (OpenSpec.upto dateBackSpec)) dateBackUptoCard

/-- THE SECOND FORM's CARD OF 'gazetteerlaw06.DateWeeks'. -/
def dateWeeksUptoCard : Claim7 := { stood := { row := dateWeeksUptoRow, standIns := [], harness := (true, "3bf595615efffa9394c4de079931e004a6bbc022c888373f52a0b6bcae250689"), looks := true }, kinds := [], alts := [], laidByText := true, laidKinds := [.data, .data, .data, .data], laidTests := true, laidLooks := .later }
def DateWeeksUptoCardSaid : Prop := Claim7.holds Tryd.pinned (.plain (OpenSpec.upto dateWeeksSpec)) dateWeeksUptoCard

/-- THE SECOND FORM's CARD OF 'gazetteerlaw06.DateMonths'. -/
def dateMonthsUptoCard : Claim7 := { stood := { row := dateMonthsUptoRow, standIns := [], harness := (true, "3bf595615efffa9394c4de079931e004a6bbc022c888373f52a0b6bcae250689"), looks := true }, kinds := [], alts := [], laidByText := true, laidKinds := [.data, .data, .data, .data], laidTests := true, laidLooks := .later }
def DateMonthsUptoCardSaid : Prop := Claim7.holds Tryd.pinned (.plain (OpenSpec.upto dateMonthsSpec)) dateMonthsUptoCard

/-- THE SECOND FORM's CARD OF 'gazetteerlaw06.DateTexts'. -/
def dateTextsUptoCard : Claim7 := { stood := { row := dateTextsUptoRow, standIns := [], harness := (true, "3bf595615efffa9394c4de079931e004a6bbc022c888373f52a0b6bcae250689"), looks := true }, kinds := [], alts := [], laidByText := true, laidKinds := [.data, .data, .data, .sentinel, .sentinel, .data], laidTests := true, laidLooks := .later }
def DateTextsUptoCardSaid : Prop := Claim7.holds Tryd.pinned (.plain (OpenSpec.upto dateTextsSpec)) dateTextsUptoCard

/-- THE SECOND FORM's CARD OF 'gazetteerlaw06.DateCommon'. -/
def dateCommonUptoCard : Claim7 := { stood := { row := dateCommonUptoRow, standIns := [], harness := (true, "3bf595615efffa9394c4de079931e004a6bbc022c888373f52a0b6bcae250689"), looks := true }, kinds := [], alts := [], laidByText := true, laidKinds := [.data, .data, .data, .data], laidTests := true, laidLooks := .later }
def DateCommonUptoCardSaid : Prop := Claim7.holds Tryd.pinned (.plain (OpenSpec.upto dateCommonSpec)) dateCommonUptoCard

/-- THE SECOND FORM's CARD OF 'gazetteerlaw06.DateUnion'. -/
def dateUnionUptoCard : Claim7 := { stood := { row := dateUnionUptoRow, standIns := [], harness := (true, "3bf595615efffa9394c4de079931e004a6bbc022c888373f52a0b6bcae250689"), looks := true }, kinds := [], alts := [], laidByText := true, laidKinds := [.data, .data, .data, .data], laidTests := true, laidLooks := .later }
def DateUnionUptoCardSaid : Prop := Claim7.holds Tryd.pinned (.plain (OpenSpec.upto dateUnionSpec)) dateUnionUptoCard
end Rows
end Go.Proofs.YtdbffhcckmmgfaaDoor
