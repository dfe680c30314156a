/- Walks over package fraction: validity, quotients, floors. -/
import Derived.Test.YtohkmkkcblbemaaFrcW6
namespace Go.Proofs.Ytohkmkkcblbemaa.Fr
set_option linter.unusedVariables false
set_option linter.unusedSimpArgs false
open Go.RowKit

end Go.Proofs.Ytohkmkkcblbemaa.Fr
