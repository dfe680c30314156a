/- Walks over package fraction: Mul, Add. -/
import Derived.Test.YtbkeennjoepmmaaFrcW9
namespace Go.Proofs.Ytbkeennjoepmmaa.Fr
set_option linter.unusedVariables false
set_option linter.unusedSimpArgs false
open Go.RowKit

theorem gcd_den (n e : Int) (h1 : 1 ≤ e) (h2 : e ≤ 4611686018427387904) :
    0 < Nat.gcd n.natAbs e.natAbs ∧ ((Nat.gcd n.natAbs e.natAbs : Nat) : Int) ≤ 4611686018427387904 ∧ ((Nat.gcd n.natAbs e.natAbs : Nat) : Int) ∣ n ∧ ((Nat.gcd n.natAbs e.natAbs : Nat) : Int) ∣ e := by
  have hle : Nat.gcd n.natAbs e.natAbs ≤ e.natAbs := Nat.gcd_le_right _ (by omega)
  exact ⟨Nat.gcd_pos_of_pos_right _ (by omega), by omega, Int.ofNat_dvd_left.2 (Nat.gcd_dvd_left ..), Int.ofNat_dvd_left.2 (Nat.gcd_dvd_right ..)⟩

end Go.Proofs.Ytbkeennjoepmmaa.Fr
