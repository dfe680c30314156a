/- Walks over layer 3's laws: SealSecrets. -/
import Derived.Test.YtkgkejphifkpkaaDoorSlmL2
import Derived.Test.YtkgkejphifkpkaaDoorSlmT4
namespace Go.Proofs.YtkgkejphifkpkaaDoor.Dig
set_option linter.unusedVariables false
set_option linter.unusedSimpArgs false
open Go.RowKit

end Go.Proofs.YtkgkejphifkpkaaDoor.Dig

/- Walks over layer 3's laws: SealBinds. -/
namespace Go.Proofs.YtkgkejphifkpkaaDoor.Dig
set_option linter.unusedVariables false
set_option linter.unusedSimpArgs false
open Go.RowKit

theorem sum_ne {a b : ByteArray} (h : ¬ sumT a = sumT b) : dsum (bl a) ≠ dsum (bl b) := fun he => h (by unfold sumT; rw [he])

end Go.Proofs.YtkgkejphifkpkaaDoor.Dig

/- Walks over layer 3's laws: SealSound. -/
namespace Go.Proofs.YtkgkejphifkpkaaDoor.Dig
set_option linter.unusedVariables false
set_option linter.unusedSimpArgs false
open Go.RowKit

theorem same_iff (i j : Int) (a b p q : List ByteArray) : sameS i j a b p q = true ↔ i = j ∧ a = b ∧ p = q := by
  unfold sameS
  rw [Bool.and_eq_true, Bool.and_eq_true, sameB_iff, sameB_iff, decide_eq_true_iff]

end Go.Proofs.YtkgkejphifkpkaaDoor.Dig
