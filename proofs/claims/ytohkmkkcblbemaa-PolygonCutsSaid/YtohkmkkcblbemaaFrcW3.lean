/- Walks over package fraction: the quotient of a number of 128 bits (math/bits.Div64). -/
import Derived.Test.YtohkmkkcblbemaaFrcW2
import Derived.Test.YtohkmkkcblbemaaFrcDiv
import Derived.Deep.CutBlock
import Derived.Deep.CutRange
import Derived.Deep.DeepCutAuto
namespace Go.Proofs.Ytohkmkkcblbemaa.Fr
set_option linter.unusedVariables false
set_option linter.unusedSimpArgs false
open Go.RowKit

theorem wrap_mod (a b c q : Int) (h : a * 4294967296 + b = q * c + (a * 4294967296 + b) % c) (h0 : 0 ≤ (a * 4294967296 + b) % c) (h1 : (a * 4294967296 + b) % c < 18446744073709551616) :
    IntKind.u64.wrap (IntKind.u64.wrap (IntKind.u64.wrap (a * 4294967296) + b) - IntKind.u64.wrap (q * c)) = (a * 4294967296 + b) % c := by
  rw [IntKind.wrap_u64, IntKind.wrap_u64, IntKind.wrap_u64, IntKind.wrap_u64]
  generalize (a * 4294967296 + b) % c = m at *
  generalize q * c = x at *
  omega

end Go.Proofs.Ytohkmkkcblbemaa.Fr
