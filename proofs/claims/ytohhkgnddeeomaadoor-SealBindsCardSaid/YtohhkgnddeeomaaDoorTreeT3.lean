/- Walks over package gazetteerref02: PathTexts, LinkTexts. -/
import Derived.Test.YtohhkgnddeeomaaDoorTreeT2
namespace Go.Proofs.YtohhkgnddeeomaaDoor.Dig
set_option linter.unusedVariables false
set_option linter.unusedSimpArgs false
open Go.RowKit

end Go.Proofs.YtohhkgnddeeomaaDoor.Dig
