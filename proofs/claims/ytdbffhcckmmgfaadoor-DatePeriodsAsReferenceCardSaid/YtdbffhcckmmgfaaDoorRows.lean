/-
  NARROWER THAN 'FOR EVERY INPUT', by the rows' own cells (each row's printed sentence says how): DateMatchesReference: laid · DatePeriodsAsReference: laid · DateFollows: laid · DateBack: laid · DateWeeks: laid · DateMonths: laid · DateTexts: laid · DateCommon: laid · DateUnion: laid.
  DERIVED. THE GIVEN ROWS OF THIS SEAT. 9 by the template 'for every input the law returns true; each argument reads behind the call as it read before'; 0 by the template 'total and deterministic' (their statements: YtdbffhcckmmgfaaDoorTotals.lean).
  GIVEN WITH THE SEED: the statements are not yours to turn. If you find one false, say at which input.
  Laid BY PROGRAM, IN A SANDBOX (cutbox-rows.mjs): the forced cells as the released guide's own fill.sh prints them over the translation 9c2e7c4d81fa283f… (all of the seat's roots in one cut). By AI agents, Wed Nov 11 2026. No macro, syntax, notation, axiom, sorry.
-/
import Derived.Test.YtdbffhcckmmgfaaDoorChecked
import GoSem.Claim
import GoSem.ClaimJoined
import GoSem.ClaimMapViews
import Derived.JoinedTies
import Derived.KernelRfl
namespace Go.Proofs.YtdbffhcckmmgfaaDoor
/- THE CELL 'sum', in the pinned program and in every row, IS THE sha256 OF THE DUMP (.gsa) THAT YtdbffhcckmmgfaaDoorProg.lean LOADS. Nothing in Lean hashes anything: it is a label: what it is worth is what the hold of that sum in a sandbox is worth. -/
noncomputable def Tryd.pinned : Pinned := { name := "ytdbffhcckmmgfaadoor", sum := "9c2e7c4d81fa283fec53327789a46c13fa63e9111c2211747edca1117f168875", checked := Tryd.checked }
namespace Rows
def none {H : Type} : Left H := { results := [], args := [] }

/- WHAT THE LISTED PACKAGE-LEVEL VARIABLES READ AS WHEN THE CALL BEGINS. Each datum BY PROGRAM (the guide's laid-datum.mjs) off the statement by which the dump's own 'gosem.cut.vars' lays the variable. In a bare row this is a premise. The card (YtdbffhcckmmgfaaDoorCards.lean) ties it to the program's text. -/
def laid_math_bits_deBruijn32tab {H : Type} : DataW H := .agg [.lit (.int .u8 0), .lit (.int .u8 1), .lit (.int .u8 28), .lit (.int .u8 2), .lit (.int .u8 29), .lit (.int .u8 14), .lit (.int .u8 24), .lit (.int .u8 3), .lit (.int .u8 30), .lit (.int .u8 22), .lit (.int .u8 20), .lit (.int .u8 15), .lit (.int .u8 25), .lit (.int .u8 17), .lit (.int .u8 4), .lit (.int .u8 8), .lit (.int .u8 31), .lit (.int .u8 27), .lit (.int .u8 13), .lit (.int .u8 23), .lit (.int .u8 21), .lit (.int .u8 19), .lit (.int .u8 16), .lit (.int .u8 7), .lit (.int .u8 26), .lit (.int .u8 12), .lit (.int .u8 18), .lit (.int .u8 6), .lit (.int .u8 11), .lit (.int .u8 5), .lit (.int .u8 10), .lit (.int .u8 9)]
def laid_math_bits_deBruijn64tab {H : Type} : DataW H := .agg [.lit (.int .u8 0), .lit (.int .u8 1), .lit (.int .u8 56), .lit (.int .u8 2), .lit (.int .u8 57), .lit (.int .u8 49), .lit (.int .u8 28), .lit (.int .u8 3), .lit (.int .u8 61), .lit (.int .u8 58), .lit (.int .u8 42), .lit (.int .u8 50), .lit (.int .u8 38), .lit (.int .u8 29), .lit (.int .u8 17), .lit (.int .u8 4), .lit (.int .u8 62), .lit (.int .u8 47), .lit (.int .u8 59), .lit (.int .u8 36), .lit (.int .u8 45), .lit (.int .u8 43), .lit (.int .u8 51), .lit (.int .u8 22), .lit (.int .u8 53), .lit (.int .u8 39), .lit (.int .u8 33), .lit (.int .u8 30), .lit (.int .u8 24), .lit (.int .u8 18), .lit (.int .u8 12), .lit (.int .u8 5), .lit (.int .u8 63), .lit (.int .u8 55), .lit (.int .u8 48), .lit (.int .u8 27), .lit (.int .u8 60), .lit (.int .u8 41), .lit (.int .u8 37), .lit (.int .u8 16), .lit (.int .u8 46), .lit (.int .u8 35), .lit (.int .u8 44), .lit (.int .u8 21), .lit (.int .u8 52), .lit (.int .u8 32), .lit (.int .u8 23), .lit (.int .u8 11), .lit (.int .u8 54), .lit (.int .u8 26), .lit (.int .u8 40), .lit (.int .u8 15), .lit (.int .u8 34), .lit (.int .u8 20), .lit (.int .u8 31), .lit (.int .u8 10), .lit (.int .u8 25), .lit (.int .u8 14), .lit (.int .u8 19), .lit (.int .u8 9), .lit (.int .u8 13), .lit (.int .u8 8), .lit (.int .u8 7), .lit (.int .u8 6)]
def laid_internal_strconv_uint64pow10 {H : Type} : DataW H := .agg [.lit (.int .u64 1), .lit (.int .u64 10), .lit (.int .u64 100), .lit (.int .u64 1000), .lit (.int .u64 10000), .lit (.int .u64 100000), .lit (.int .u64 1000000), .lit (.int .u64 10000000), .lit (.int .u64 100000000), .lit (.int .u64 1000000000), .lit (.int .u64 10000000000), .lit (.int .u64 100000000000), .lit (.int .u64 1000000000000), .lit (.int .u64 10000000000000), .lit (.int .u64 100000000000000), .lit (.int .u64 1000000000000000), .lit (.int .u64 10000000000000000), .lit (.int .u64 100000000000000000), .lit (.int .u64 1000000000000000000), .lit (.int .u64 10000000000000000000)]
def laid_strconv_ErrRange {H : Type} : DataW H := .iface "*errors.errorString" (.ptr (.agg [.lit (.string [118, 97, 108, 117, 101, 32, 111, 117, 116, 32, 111, 102, 32, 114, 97, 110, 103, 101])]))
def laid_strconv_ErrSyntax {H : Type} : DataW H := .iface "*errors.errorString" (.ptr (.agg [.lit (.string [105, 110, 118, 97, 108, 105, 100, 32, 115, 121, 110, 116, 97, 120])]))
def laid_gazetteer_date_lengths {H : Type} : DataW H := .agg [.lit (.int .i64 31), .lit (.int .i64 28), .lit (.int .i64 31), .lit (.int .i64 30), .lit (.int .i64 31), .lit (.int .i64 30), .lit (.int .i64 31), .lit (.int .i64 31), .lit (.int .i64 30), .lit (.int .i64 31), .lit (.int .i64 30), .lit (.int .i64 31)]

/-- 'gazetteerlaw06.DateMatchesReference': WHATEVER THE INPUT: true; the input reads as it did. -/
def dateMatchesReferenceSpec : ChangeSpec := { name := "dateMatchesReference", fn := fun _ => fun
  | [d1, d2, d3, d4, d5, d6] => { results := [.lit (.bool true)], args := [d1, d2, d3, d4, d5, d6] }
  | _ => none }
def dateMatchesReferenceRow : OpenClaim := { program := "ytdbffhcckmmgfaadoor", sum := "9c2e7c4d81fa283fec53327789a46c13fa63e9111c2211747edca1117f168875", func := "gazetteer/gazetteerlaw06.DateMatchesReference", spec := "dateMatchesReference", unfollowed := true, recurses := true, named := ["gazetteer/date.lengths", "internal/strconv.uint64pow10", "math/bits.deBruijn32tab", "math/bits.deBruijn64tab", "strconv.ErrSyntax", "strconv.ErrRange"], apart := false, laid := [("math/bits.deBruijn32tab", laid_math_bits_deBruijn32tab), ("math/bits.deBruijn64tab", laid_math_bits_deBruijn64tab), ("internal/strconv.uint64pow10", laid_internal_strconv_uint64pow10), ("strconv.ErrRange", laid_strconv_ErrRange), ("strconv.ErrSyntax", laid_strconv_ErrSyntax), ("gazetteer/date.lengths", laid_gazetteer_date_lengths)] }
def DateMatchesReferenceSaid : Prop := dateMatchesReferenceRow.holds Tryd.pinned (OpenSpec.ofChange dateMatchesReferenceSpec)

/-- ITS FALSE NEIGHBOUR: 'it returns false'. Refute it at one input. -/
def dateMatchesReferenceWrong : ChangeSpec := { name := "dateMatchesReference", fn := fun _ => fun
  | [d1, d2, d3, d4, d5, d6] => { results := [.lit (.bool false)], args := [d1, d2, d3, d4, d5, d6] }
  | _ => none }
def DateMatchesReferenceWrongFalsely : Prop := dateMatchesReferenceRow.holds Tryd.pinned (OpenSpec.ofChange dateMatchesReferenceWrong)

/-- 'gazetteerlaw06.DatePeriodsAsReference': WHATEVER THE INPUT: true; the input reads as it did. -/
def datePeriodsAsReferenceSpec : ChangeSpec := { name := "datePeriodsAsReference", fn := fun _ => fun
  | [d1, d2, d3, d4] => { results := [.lit (.bool true)], args := [d1, d2, d3, d4] }
  | _ => none }
def datePeriodsAsReferenceRow : OpenClaim := { program := "ytdbffhcckmmgfaadoor", sum := "9c2e7c4d81fa283fec53327789a46c13fa63e9111c2211747edca1117f168875", func := "gazetteer/gazetteerlaw06.DatePeriodsAsReference", spec := "datePeriodsAsReference", unfollowed := true, recurses := true, named := ["gazetteer/date.lengths", "internal/strconv.uint64pow10", "math/bits.deBruijn32tab", "math/bits.deBruijn64tab"], apart := false, laid := [("math/bits.deBruijn32tab", laid_math_bits_deBruijn32tab), ("math/bits.deBruijn64tab", laid_math_bits_deBruijn64tab), ("internal/strconv.uint64pow10", laid_internal_strconv_uint64pow10), ("gazetteer/date.lengths", laid_gazetteer_date_lengths)] }
def DatePeriodsAsReferenceSaid : Prop := datePeriodsAsReferenceRow.holds Tryd.pinned (OpenSpec.ofChange datePeriodsAsReferenceSpec)

/-- ITS FALSE NEIGHBOUR: 'it returns false'. Refute it at one input. -/
def datePeriodsAsReferenceWrong : ChangeSpec := { name := "datePeriodsAsReference", fn := fun _ => fun
  | [d1, d2, d3, d4] => { results := [.lit (.bool false)], args := [d1, d2, d3, d4] }
  | _ => none }
def DatePeriodsAsReferenceWrongFalsely : Prop := datePeriodsAsReferenceRow.holds Tryd.pinned (OpenSpec.ofChange datePeriodsAsReferenceWrong)

/-- 'gazetteerlaw06.DateFollows': WHATEVER THE INPUT: true; the input reads as it did. -/
def dateFollowsSpec : ChangeSpec := { name := "dateFollows", fn := fun _ => fun
  | [d] => { results := [.lit (.bool true)], args := [d] }
  | _ => none }
def dateFollowsRow : OpenClaim := { program := "ytdbffhcckmmgfaadoor", sum := "9c2e7c4d81fa283fec53327789a46c13fa63e9111c2211747edca1117f168875", func := "gazetteer/gazetteerlaw06.DateFollows", spec := "dateFollows", unfollowed := true, recurses := true, named := ["gazetteer/date.lengths", "internal/strconv.uint64pow10", "math/bits.deBruijn32tab", "math/bits.deBruijn64tab"], apart := false, laid := [("math/bits.deBruijn32tab", laid_math_bits_deBruijn32tab), ("math/bits.deBruijn64tab", laid_math_bits_deBruijn64tab), ("internal/strconv.uint64pow10", laid_internal_strconv_uint64pow10), ("gazetteer/date.lengths", laid_gazetteer_date_lengths)] }
def DateFollowsSaid : Prop := dateFollowsRow.holds Tryd.pinned (OpenSpec.ofChange dateFollowsSpec)

/-- ITS FALSE NEIGHBOUR: 'it returns false'. Refute it at one input. -/
def dateFollowsWrong : ChangeSpec := { name := "dateFollows", fn := fun _ => fun
  | [d] => { results := [.lit (.bool false)], args := [d] }
  | _ => none }
def DateFollowsWrongFalsely : Prop := dateFollowsRow.holds Tryd.pinned (OpenSpec.ofChange dateFollowsWrong)

/-- 'gazetteerlaw06.DateBack': WHATEVER THE INPUT: true; the input reads as it did. -/
def dateBackSpec : ChangeSpec := { name := "dateBack", fn := fun _ => fun
  | [d1, d2, d3, d4] => { results := [.lit (.bool true)], args := [d1, d2, d3, d4] }
  | _ => none }
def dateBackRow : OpenClaim := { program := "ytdbffhcckmmgfaadoor", sum := "9c2e7c4d81fa283fec53327789a46c13fa63e9111c2211747edca1117f168875", func := "gazetteer/gazetteerlaw06.DateBack", spec := "dateBack", unfollowed := true, recurses := true, named := ["gazetteer/date.lengths", "internal/strconv.uint64pow10", "math/bits.deBruijn32tab", "math/bits.deBruijn64tab"], apart := false, laid := [("math/bits.deBruijn32tab", laid_math_bits_deBruijn32tab), ("math/bits.deBruijn64tab", laid_math_bits_deBruijn64tab), ("internal/strconv.uint64pow10", laid_internal_strconv_uint64pow10), ("gazetteer/date.lengths", laid_gazetteer_date_lengths)] }
def DateBackSaid : Prop := dateBackRow.holds Tryd.pinned (OpenSpec.ofChange dateBackSpec)

/-- ITS FALSE NEIGHBOUR: 'it returns false'. Refute it at one input. -/
def dateBackWrong : ChangeSpec := { name := "dateBack", fn := fun _ => fun
  | [d1, d2, d3, d4] => { results := [.lit (.bool false)], args := [d1, d2, d3, d4] }
  | _ => none }
def DateBackWrongFalsely : Prop := dateBackRow.holds Tryd.pinned (OpenSpec.ofChange dateBackWrong)

/-- 'gazetteerlaw06.DateWeeks': WHATEVER THE INPUT: true; the input reads as it did. -/
def dateWeeksSpec : ChangeSpec := { name := "dateWeeks", fn := fun _ => fun
  | [d1, d2] => { results := [.lit (.bool true)], args := [d1, d2] }
  | _ => none }
def dateWeeksRow : OpenClaim := { program := "ytdbffhcckmmgfaadoor", sum := "9c2e7c4d81fa283fec53327789a46c13fa63e9111c2211747edca1117f168875", func := "gazetteer/gazetteerlaw06.DateWeeks", spec := "dateWeeks", unfollowed := true, recurses := true, named := ["gazetteer/date.lengths", "internal/strconv.uint64pow10", "math/bits.deBruijn32tab", "math/bits.deBruijn64tab"], apart := false, laid := [("math/bits.deBruijn32tab", laid_math_bits_deBruijn32tab), ("math/bits.deBruijn64tab", laid_math_bits_deBruijn64tab), ("internal/strconv.uint64pow10", laid_internal_strconv_uint64pow10), ("gazetteer/date.lengths", laid_gazetteer_date_lengths)] }
def DateWeeksSaid : Prop := dateWeeksRow.holds Tryd.pinned (OpenSpec.ofChange dateWeeksSpec)

/-- ITS FALSE NEIGHBOUR: 'it returns false'. Refute it at one input. -/
def dateWeeksWrong : ChangeSpec := { name := "dateWeeks", fn := fun _ => fun
  | [d1, d2] => { results := [.lit (.bool false)], args := [d1, d2] }
  | _ => none }
def DateWeeksWrongFalsely : Prop := dateWeeksRow.holds Tryd.pinned (OpenSpec.ofChange dateWeeksWrong)

/-- 'gazetteerlaw06.DateMonths': WHATEVER THE INPUT: true; the input reads as it did. -/
def dateMonthsSpec : ChangeSpec := { name := "dateMonths", fn := fun _ => fun
  | [d1, d2, d3] => { results := [.lit (.bool true)], args := [d1, d2, d3] }
  | _ => none }
def dateMonthsRow : OpenClaim := { program := "ytdbffhcckmmgfaadoor", sum := "9c2e7c4d81fa283fec53327789a46c13fa63e9111c2211747edca1117f168875", func := "gazetteer/gazetteerlaw06.DateMonths", spec := "dateMonths", unfollowed := true, recurses := true, named := ["gazetteer/date.lengths", "internal/strconv.uint64pow10", "math/bits.deBruijn32tab", "math/bits.deBruijn64tab"], apart := false, laid := [("math/bits.deBruijn32tab", laid_math_bits_deBruijn32tab), ("math/bits.deBruijn64tab", laid_math_bits_deBruijn64tab), ("internal/strconv.uint64pow10", laid_internal_strconv_uint64pow10), ("gazetteer/date.lengths", laid_gazetteer_date_lengths)] }
def DateMonthsSaid : Prop := dateMonthsRow.holds Tryd.pinned (OpenSpec.ofChange dateMonthsSpec)

/-- ITS FALSE NEIGHBOUR: 'it returns false'. Refute it at one input. -/
def dateMonthsWrong : ChangeSpec := { name := "dateMonths", fn := fun _ => fun
  | [d1, d2, d3] => { results := [.lit (.bool false)], args := [d1, d2, d3] }
  | _ => none }
def DateMonthsWrongFalsely : Prop := dateMonthsRow.holds Tryd.pinned (OpenSpec.ofChange dateMonthsWrong)

/-- 'gazetteerlaw06.DateTexts': WHATEVER THE INPUT: true; the input reads as it did. -/
def dateTextsSpec : ChangeSpec := { name := "dateTexts", fn := fun _ => fun
  | [d1, d2, d3] => { results := [.lit (.bool true)], args := [d1, d2, d3] }
  | _ => none }
def dateTextsRow : OpenClaim := { program := "ytdbffhcckmmgfaadoor", sum := "9c2e7c4d81fa283fec53327789a46c13fa63e9111c2211747edca1117f168875", func := "gazetteer/gazetteerlaw06.DateTexts", spec := "dateTexts", unfollowed := true, recurses := true, named := ["gazetteer/date.lengths", "internal/strconv.uint64pow10", "math/bits.deBruijn32tab", "math/bits.deBruijn64tab", "strconv.ErrSyntax", "strconv.ErrRange"], apart := false, laid := [("math/bits.deBruijn32tab", laid_math_bits_deBruijn32tab), ("math/bits.deBruijn64tab", laid_math_bits_deBruijn64tab), ("internal/strconv.uint64pow10", laid_internal_strconv_uint64pow10), ("strconv.ErrRange", laid_strconv_ErrRange), ("strconv.ErrSyntax", laid_strconv_ErrSyntax), ("gazetteer/date.lengths", laid_gazetteer_date_lengths)] }
def DateTextsSaid : Prop := dateTextsRow.holds Tryd.pinned (OpenSpec.ofChange dateTextsSpec)

/-- ITS FALSE NEIGHBOUR: 'it returns false'. Refute it at one input. -/
def dateTextsWrong : ChangeSpec := { name := "dateTexts", fn := fun _ => fun
  | [d1, d2, d3] => { results := [.lit (.bool false)], args := [d1, d2, d3] }
  | _ => none }
def DateTextsWrongFalsely : Prop := dateTextsRow.holds Tryd.pinned (OpenSpec.ofChange dateTextsWrong)

/-- 'gazetteerlaw06.DateCommon': WHATEVER THE INPUT: true; the input reads as it did. -/
def dateCommonSpec : ChangeSpec := { name := "dateCommon", fn := fun _ => fun
  | [d1, d2, d3] => { results := [.lit (.bool true)], args := [d1, d2, d3] }
  | _ => none }
def dateCommonRow : OpenClaim := { program := "ytdbffhcckmmgfaadoor", sum := "9c2e7c4d81fa283fec53327789a46c13fa63e9111c2211747edca1117f168875", func := "gazetteer/gazetteerlaw06.DateCommon", spec := "dateCommon", unfollowed := true, recurses := true, named := ["gazetteer/date.lengths", "internal/strconv.uint64pow10", "math/bits.deBruijn32tab", "math/bits.deBruijn64tab"], apart := false, laid := [("math/bits.deBruijn32tab", laid_math_bits_deBruijn32tab), ("math/bits.deBruijn64tab", laid_math_bits_deBruijn64tab), ("internal/strconv.uint64pow10", laid_internal_strconv_uint64pow10), ("gazetteer/date.lengths", laid_gazetteer_date_lengths)] }
def DateCommonSaid : Prop := dateCommonRow.holds Tryd.pinned (OpenSpec.ofChange dateCommonSpec)

/-- ITS FALSE NEIGHBOUR: 'it returns false'. Refute it at one input. -/
def dateCommonWrong : ChangeSpec := { name := "dateCommon", fn := fun _ => fun
  | [d1, d2, d3] => { results := [.lit (.bool false)], args := [d1, d2, d3] }
  | _ => none }
def DateCommonWrongFalsely : Prop := dateCommonRow.holds Tryd.pinned (OpenSpec.ofChange dateCommonWrong)

/-- 'gazetteerlaw06.DateUnion': WHATEVER THE INPUT: true; the input reads as it did. -/
def dateUnionSpec : ChangeSpec := { name := "dateUnion", fn := fun _ => fun
  | [d1, d2] => { results := [.lit (.bool true)], args := [d1, d2] }
  | _ => none }
def dateUnionRow : OpenClaim := { program := "ytdbffhcckmmgfaadoor", sum := "9c2e7c4d81fa283fec53327789a46c13fa63e9111c2211747edca1117f168875", func := "gazetteer/gazetteerlaw06.DateUnion", spec := "dateUnion", unfollowed := true, recurses := true, named := ["gazetteer/date.lengths", "internal/strconv.uint64pow10", "math/bits.deBruijn32tab", "math/bits.deBruijn64tab"], apart := false, laid := [("math/bits.deBruijn32tab", laid_math_bits_deBruijn32tab), ("math/bits.deBruijn64tab", laid_math_bits_deBruijn64tab), ("internal/strconv.uint64pow10", laid_internal_strconv_uint64pow10), ("gazetteer/date.lengths", laid_gazetteer_date_lengths)] }
def DateUnionSaid : Prop := dateUnionRow.holds Tryd.pinned (OpenSpec.ofChange dateUnionSpec)

/-- ITS FALSE NEIGHBOUR: 'it returns false'. Refute it at one input. -/
def dateUnionWrong : ChangeSpec := { name := "dateUnion", fn := fun _ => fun
  | [d1, d2] => { results := [.lit (.bool false)], args := [d1, d2] }
  | _ => none }
def DateUnionWrongFalsely : Prop := dateUnionRow.holds Tryd.pinned (OpenSpec.ofChange dateUnionWrong)

/- THE SECOND FORM. 'bulk': how many values and letters a reading holds, each counted each time it is reached (what is shared counts as often as it is met; a slice's spare places count too). A statement '..UptoSaid' is the law's where the arguments, and the package variables that the reading takes, are together of bulk at most 1048576: NARROWER than '..Said'. Prove '..Said' where nothing that the law and all that it calls make is longer than what came in: it says more and counts as full. Else prove '..UptoSaid'. A law counts once. -/
mutual
def uptoBulk {H : Type} : DataW H → Nat
  | .lit (.string bytes) => bytes.length + 1
  | .lit _ => 1
  | .nil => 1
  | .ptr d => uptoBulk d + 1
  | .slice elems spare => uptoBulkAll elems + uptoBulkAll spare + 1
  | .agg parts => uptoBulkAll parts + 1
  | .iface _ d => uptoBulk d + 1
  | .map entries => uptoBulkEntries entries + 1
  | .held _ => 1
def uptoBulkAll {H : Type} : List (DataW H) → Nat
  | [] => 0
  | d :: r => uptoBulk d + uptoBulkAll r
def uptoBulkEntries {H : Type} : List (Lit × DataW H) → Nat
  | [] => 0
  | x :: r => uptoBulkEntry x + uptoBulkEntries r
def uptoBulkEntry {H : Type} : Lit × DataW H → Nat
  | (.string bytes, d) => bytes.length + uptoBulk d + 1
  | (_, d) => uptoBulk d + 1
 end
def uptoSmall : (H : Type) → List (DataW H) → Bool := fun _ ds => decide (uptoBulkAll ds ≤ 1048576)
def OpenSpec.upto (s : _root_.Go.ChangeSpec) : _root_.Go.OpenSpec := { _root_.Go.OpenSpec.ofChange s with cond := some uptoSmall }

/-- 'gazetteerlaw06.DateMatchesReference', WHERE WHAT IT READS IS OF BULK AT MOST 1048576: true; the input reads as it did. -/
def dateMatchesReferenceUptoRow : OpenClaim := { program := "ytdbffhcckmmgfaadoor", sum := "9c2e7c4d81fa283fec53327789a46c13fa63e9111c2211747edca1117f168875", func := "gazetteer/gazetteerlaw06.DateMatchesReference", spec := "dateMatchesReference", unfollowed := true, recurses := true, named := ["gazetteer/date.lengths", "internal/strconv.uint64pow10", "math/bits.deBruijn32tab", "math/bits.deBruijn64tab", "strconv.ErrSyntax", "strconv.ErrRange"], apart := false, laid := [("math/bits.deBruijn32tab", laid_math_bits_deBruijn32tab), ("math/bits.deBruijn64tab", laid_math_bits_deBruijn64tab), ("internal/strconv.uint64pow10", laid_internal_strconv_uint64pow10), ("strconv.ErrRange", laid_strconv_ErrRange), ("strconv.ErrSyntax", laid_strconv_ErrSyntax), ("gazetteer/date.lengths", laid_gazetteer_date_lengths)], narrowed := true }
def DateMatchesReferenceUptoSaid : Prop := dateMatchesReferenceUptoRow.holds Tryd.pinned (OpenSpec.upto dateMatchesReferenceSpec)

/-- 'gazetteerlaw06.DatePeriodsAsReference', WHERE WHAT IT READS IS OF BULK AT MOST 1048576: true; the input reads as it did. -/
def datePeriodsAsReferenceUptoRow : OpenClaim := { program := "ytdbffhcckmmgfaadoor", sum := "9c2e7c4d81fa283fec53327789a46c13fa63e9111c2211747edca1117f168875", func := "gazetteer/gazetteerlaw06.DatePeriodsAsReference", spec := "datePeriodsAsReference", unfollowed := true, recurses := true, named := ["gazetteer/date.lengths", "internal/strconv.uint64pow10", "math/bits.deBruijn32tab", "math/bits.deBruijn64tab"], apart := false, laid := [("math/bits.deBruijn32tab", laid_math_bits_deBruijn32tab), ("math/bits.deBruijn64tab", laid_math_bits_deBruijn64tab), ("internal/strconv.uint64pow10", laid_internal_strconv_uint64pow10), ("gazetteer/date.lengths", laid_gazetteer_date_lengths)], narrowed := true }
def DatePeriodsAsReferenceUptoSaid : Prop := datePeriodsAsReferenceUptoRow.holds Tryd.pinned (OpenSpec.upto datePeriodsAsReferenceSpec)

/-- 'gazetteerlaw06.DateFollows', WHERE WHAT IT READS IS OF BULK AT MOST 1048576: true; the input reads as it did. -/
def dateFollowsUptoRow : OpenClaim := { program := "ytdbffhcckmmgfaadoor", sum := "9c2e7c4d81fa283fec53327789a46c13fa63e9111c2211747edca1117f168875", func := "gazetteer/gazetteerlaw06.DateFollows", spec := "dateFollows", unfollowed := true, recurses := true, named := ["gazetteer/date.lengths", "internal/strconv.uint64pow10", "math/bits.deBruijn32tab", "math/bits.deBruijn64tab"], apart := false, laid := [("math/bits.deBruijn32tab", laid_math_bits_deBruijn32tab), ("math/bits.deBruijn64tab", laid_math_bits_deBruijn64tab), ("internal/strconv.uint64pow10", laid_internal_strconv_uint64pow10), ("gazetteer/date.lengths", laid_gazetteer_date_lengths)], narrowed := true }
def DateFollowsUptoSaid : Prop := dateFollowsUptoRow.holds Tryd.pinned (OpenSpec.upto dateFollowsSpec)

/-- 'gazetteerlaw06.DateBack', WHERE WHAT IT READS IS OF BULK AT MOST 1048576: true; the input reads as it did. -/
def dateBackUptoRow : OpenClaim := { program := "ytdbffhcckmmgfaadoor", sum := "9c2e7c4d81fa283fec53327789a46c13fa63e9111c2211747edca1117f168875", func := "gazetteer/gazetteerlaw06.DateBack", spec := "dateBack", unfollowed := true, recurses := true, named := ["gazetteer/date.lengths", "internal/strconv.uint64pow10", "math/bits.deBruijn32tab", "math/bits.deBruijn64tab"], apart := false, laid := [("math/bits.deBruijn32tab", laid_math_bits_deBruijn32tab), ("math/bits.deBruijn64tab", laid_math_bits_deBruijn64tab), ("internal/strconv.uint64pow10", laid_internal_strconv_uint64pow10), ("gazetteer/date.lengths", laid_gazetteer_date_lengths)], narrowed := true }
def DateBackUptoSaid : Prop := dateBackUptoRow.holds Tryd.pinned (OpenSpec.upto dateBackSpec)

/-- 'gazetteerlaw06.DateWeeks', WHERE WHAT IT READS IS OF BULK AT MOST 1048576: true; the input reads as it did. -/
def dateWeeksUptoRow : OpenClaim := { program := "ytdbffhcckmmgfaadoor", sum := "9c2e7c4d81fa283fec53327789a46c13fa63e9111c2211747edca1117f168875", func := "gazetteer/gazetteerlaw06.DateWeeks", spec := "dateWeeks", unfollowed := true, recurses := true, named := ["gazetteer/date.lengths", "internal/strconv.uint64pow10", "math/bits.deBruijn32tab", "math/bits.deBruijn64tab"], apart := false, laid := [("math/bits.deBruijn32tab", laid_math_bits_deBruijn32tab), ("math/bits.deBruijn64tab", laid_math_bits_deBruijn64tab), ("internal/strconv.uint64pow10", laid_internal_strconv_uint64pow10), ("gazetteer/date.lengths", laid_gazetteer_date_lengths)], narrowed := true }
def DateWeeksUptoSaid : Prop := dateWeeksUptoRow.holds Tryd.pinned (OpenSpec.upto dateWeeksSpec)

/-- 'gazetteerlaw06.DateMonths', WHERE WHAT IT READS IS OF BULK AT MOST 1048576: true; the input reads as it did. -/
def dateMonthsUptoRow : OpenClaim := { program := "ytdbffhcckmmgfaadoor", sum := "9c2e7c4d81fa283fec53327789a46c13fa63e9111c2211747edca1117f168875", func := "gazetteer/gazetteerlaw06.DateMonths", spec := "dateMonths", unfollowed := true, recurses := true, named := ["gazetteer/date.lengths", "internal/strconv.uint64pow10", "math/bits.deBruijn32tab", "math/bits.deBruijn64tab"], apart := false, laid := [("math/bits.deBruijn32tab", laid_math_bits_deBruijn32tab), ("math/bits.deBruijn64tab", laid_math_bits_deBruijn64tab), ("internal/strconv.uint64pow10", laid_internal_strconv_uint64pow10), ("gazetteer/date.lengths", laid_gazetteer_date_lengths)], narrowed := true }
def DateMonthsUptoSaid : Prop := dateMonthsUptoRow.holds Tryd.pinned (OpenSpec.upto dateMonthsSpec)

/-- 'gazetteerlaw06.DateTexts', WHERE WHAT IT READS IS OF BULK AT MOST 1048576: true; the input reads as it did. -/
def dateTextsUptoRow : OpenClaim := { program := "ytdbffhcckmmgfaadoor", sum := "9c2e7c4d81fa283fec53327789a46c13fa63e9111c2211747edca1117f168875", func := "gazetteer/gazetteerlaw06.DateTexts", spec := "dateTexts", unfollowed := true, recurses := true, named := ["gazetteer/date.lengths", "internal/strconv.uint64pow10", "math/bits.deBruijn32tab", "math/bits.deBruijn64tab", "strconv.ErrSyntax", "strconv.ErrRange"], apart := false, laid := [("math/bits.deBruijn32tab", laid_math_bits_deBruijn32tab), ("math/bits.deBruijn64tab", laid_math_bits_deBruijn64tab), ("internal/strconv.uint64pow10", laid_internal_strconv_uint64pow10), ("strconv.ErrRange", laid_strconv_ErrRange), ("strconv.ErrSyntax", laid_strconv_ErrSyntax), ("gazetteer/date.lengths", laid_gazetteer_date_lengths)], narrowed := true }
def DateTextsUptoSaid : Prop := dateTextsUptoRow.holds Tryd.pinned (OpenSpec.upto dateTextsSpec)

/-- 'gazetteerlaw06.DateCommon', WHERE WHAT IT READS IS OF BULK AT MOST 1048576: true; the input reads as it did. -/
def dateCommonUptoRow : OpenClaim := { program := "ytdbffhcckmmgfaadoor", sum := "9c2e7c4d81fa283fec53327789a46c13fa63e9111c2211747edca1117f168875", func := "gazetteer/gazetteerlaw06.DateCommon", spec := "dateCommon", unfollowed := true, recurses := true, named := ["gazetteer/date.lengths", "internal/strconv.uint64pow10", "math/bits.deBruijn32tab", "math/bits.deBruijn64tab"], apart := false, laid := [("math/bits.deBruijn32tab", laid_math_bits_deBruijn32tab), ("math/bits.deBruijn64tab", laid_math_bits_deBruijn64tab), ("internal/strconv.uint64pow10", laid_internal_strconv_uint64pow10), ("gazetteer/date.lengths", laid_gazetteer_date_lengths)], narrowed := true }
def DateCommonUptoSaid : Prop := dateCommonUptoRow.holds Tryd.pinned (OpenSpec.upto dateCommonSpec)

/-- 'gazetteerlaw06.DateUnion', WHERE WHAT IT READS IS OF BULK AT MOST 1048576: true; the input reads as it did. -/
def dateUnionUptoRow : OpenClaim := { program := "ytdbffhcckmmgfaadoor", sum := "9c2e7c4d81fa283fec53327789a46c13fa63e9111c2211747edca1117f168875", func := "gazetteer/gazetteerlaw06.DateUnion", spec := "dateUnion", unfollowed := true, recurses := true, named := ["gazetteer/date.lengths", "internal/strconv.uint64pow10", "math/bits.deBruijn32tab", "math/bits.deBruijn64tab"], apart := false, laid := [("math/bits.deBruijn32tab", laid_math_bits_deBruijn32tab), ("math/bits.deBruijn64tab", laid_math_bits_deBruijn64tab), ("internal/strconv.uint64pow10", laid_internal_strconv_uint64pow10), ("gazetteer/date.lengths", laid_gazetteer_date_lengths)], narrowed := true }
def DateUnionUptoSaid : Prop := dateUnionUptoRow.holds Tryd.pinned (OpenSpec.upto dateUnionSpec)

end Rows
end Go.Proofs.YtdbffhcckmmgfaaDoor
