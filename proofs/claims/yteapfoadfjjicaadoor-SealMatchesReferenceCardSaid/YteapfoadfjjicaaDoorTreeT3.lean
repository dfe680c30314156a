/- Walks over package gazetteerref02: PathTexts, LinkTexts. -/
import Derived.Test.YteapfoadfjjicaaDoorTreeT2
namespace Go.Proofs.YteapfoadfjjicaaDoor.Dig
set_option linter.unusedVariables false
set_option linter.unusedSimpArgs false
open Go.RowKit

end Go.Proofs.YteapfoadfjjicaaDoor.Dig
