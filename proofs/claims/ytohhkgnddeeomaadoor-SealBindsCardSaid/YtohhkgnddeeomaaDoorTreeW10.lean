/- Walks over package tree: Extends. -/
import Derived.Test.YtohhkgnddeeomaaDoorTreeW9
namespace Go.Proofs.YtohhkgnddeeomaaDoor.Dig
set_option linter.unusedVariables false
set_option linter.unusedSimpArgs false
open Go.RowKit

/-- what Extends answers for m = 0, and for a greater one -/
def extZ (old root : ByteArray) (n : Nat) (p : List ByteArray) : Bool := decide (p.length = 0) && (decide (old = emptyB) && (decide (0 < n) || decide (root = old)))
def extP (old : ByteArray) (m : Nat) (root : ByteArray) (n : Nat) (p : List ByteArray) : Bool := decide (p.length = span n m true) && (decide ((boB n m true old p).1 = old) && decide ((boB n m true old p).2 = root))
def extN (old : ByteArray) (m : Nat) (root : ByteArray) (n : Nat) (p : List ByteArray) : Bool := digB old && (digB root && (p.all digB && (if m = 0 then extZ old root n p else extP old m root n p)))
def extB (old : ByteArray) (m : Int) (root : ByteArray) (n : Int) (p : List ByteArray) : Bool := decide (0 ≤ m ∧ m ≤ n ∧ n ≤ 1000000) && extN old m.toNat root n.toNat p

end Go.Proofs.YtohhkgnddeeomaaDoor.Dig
