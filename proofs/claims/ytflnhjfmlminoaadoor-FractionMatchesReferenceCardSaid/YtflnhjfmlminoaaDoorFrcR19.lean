/- Layer 5's reference: Add, of whatever fractions. -/
import Derived.Test.YtflnhjfmlminoaaDoorFrcR18
namespace Go.Proofs.YtflnhjfmlminoaaDoor.Fr
set_option linter.unusedVariables false
open Go.RowKit
theorem radd_any (n d m e : Int) (w : World) :
    Calls Tryd.prog 13 #[.agg #[.int .i64 n, .int .i64 d], .agg #[.int .i64 m, .int .i64 e]] w fun r w' => r = .returned (.tuple #[.agg #[.int .i64 (addN n d m e), .int .i64 (addD n d m e)], .int .i64 (addE n d m e)]) ∧ Below w.heap.size w w' := by
  by_cases hf : valP n d
  · by_cases hg : valP m e
    · by_cases hb : decide (n < 0) = decide (m < 0)
      · exact radd_same n d m e _ _ hf hg rfl rfl hb w
      · by_cases hPQ : n.natAbs * e.natAbs < m.natAbs * d.natAbs
        · exact radd_less n d m e _ _ hf hg rfl rfl hb hPQ w
        · exact radd_more n d m e _ _ hf hg rfl rfl hb hPQ w
    · unfold addN addD addE
      rw [if_neg (fun k => hg k.2), if_neg (fun k => hg k.2), if_neg (fun k => hg k.2)]
      exact radd_no2 n d m e hf hg w
  · unfold addN addD addE
    rw [if_neg (fun k => hf k.1), if_neg (fun k => hf k.1), if_neg (fun k => hf k.1)]
    exact radd_no1 n d m e hf trivial w
end Go.Proofs.YtflnhjfmlminoaaDoor.Fr
