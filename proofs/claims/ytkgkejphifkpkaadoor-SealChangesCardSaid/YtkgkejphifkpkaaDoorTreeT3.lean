/- Walks over package gazetteerref02: PathTexts, LinkTexts. -/
import Derived.Test.YtkgkejphifkpkaaDoorTreeT2
namespace Go.Proofs.YtkgkejphifkpkaaDoor.Dig
set_option linter.unusedVariables false
set_option linter.unusedSimpArgs false
open Go.RowKit

end Go.Proofs.YtkgkejphifkpkaaDoor.Dig
