/- The joined text of a list: plain. -/
import Derived.Test.YteapfoadfjjicaaDoorDigMath
import Derived.Lib.Strings
import Derived.Shelf.Strconv.Itoa3
namespace Go.Proofs.YteapfoadfjjicaaDoor.Dig
set_option linter.unusedVariables false
set_option linter.unusedSimpArgs false

abbrev bl (s : ByteArray) : List UInt8 := s.data.toList

/-- one element: its number of bytes, a colon, its bytes -/
def encS (s : ByteArray) : List UInt8 := Lib.itoa s.size ++ 58 :: bl s
/-- the joined text -/
def joinB : List ByteArray → List UInt8
  | [] => []
  | s :: r => encS s ++ joinB r

theorem joinB_append (a b : List ByteArray) : joinB (a ++ b) = joinB a ++ joinB b := by
  induction a with
  | nil => rfl
  | cons s r ih => simp [joinB, ih]

theorem joinB_take_succ (l : List ByteArray) (k : Nat) (h : k < l.length) : joinB (l.take (k + 1)) = joinB (l.take k) ++ encS l[k] := by
  rw [List.take_succ_eq_append_getElem h, joinB_append]
  simp [joinB]

theorem joinB_take_le (l : List ByteArray) (k : Nat) : (joinB (l.take k)).length ≤ (joinB l).length := by
  have h := congrArg List.length (joinB_append (l.take k) (l.drop k))
  rw [List.take_append_drop, List.length_append] at h
  omega

end Go.Proofs.YteapfoadfjjicaaDoor.Dig
