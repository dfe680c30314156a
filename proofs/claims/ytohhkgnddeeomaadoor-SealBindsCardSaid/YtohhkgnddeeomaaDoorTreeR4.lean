/- Walks over package gazetteerref02: Extends. -/
import Derived.Test.YtohhkgnddeeomaaDoorTreeR3
namespace Go.Proofs.YtohhkgnddeeomaaDoor.Dig
set_option linter.unusedVariables false
set_option linter.unusedSimpArgs false
open Go.RowKit

end Go.Proofs.YtohhkgnddeeomaaDoor.Dig
