/- Plain mathematics of layer 7's laws. -/
import Derived.Test.YtbkeennjoepmmaaGeoQuo
namespace Go.Proofs.Ytbkeennjoepmmaa.Ge
set_option linter.unusedVariables false
set_option linter.unusedSimpArgs false

theorem on_mod (x y : Int) : onP (x % 32768) (y % 32768) := by
  unfold onP
  omega
theorem sgn_neg (n : Int) : sgnI (-n) = -sgnI n := by
  have h1 := sgn_cases n
  have h2 := sgn_cases (-n)
  omega
theorem turn_on {ax ay bx bz cx cy : Int} (ha : onP ax ay) (hb : onP bx bz) (hc : onP cx cy) : turnV ax ay bx bz cx cy = sgnI (areaN ax ay bx bz cx cy) := if_pos ⟨ha, hb, hc⟩
theorem area_rot (ax ay bx bz cx cy : Int) : areaN bx bz cx cy ax ay = areaN ax ay bx bz cx cy := by unfold areaN; grind
theorem area_swap (ax ay bx bz cx cy : Int) : areaN bx bz ax ay cx cy = -areaN ax ay bx bz cx cy := by unfold areaN; grind
theorem area_swap2 (ax ay bx bz cx cy : Int) : areaN ax ay cx cy bx bz = -areaN ax ay bx bz cx cy := by unfold areaN; grind
theorem area_aab (ax ay bx bz : Int) : areaN ax ay ax ay bx bz = 0 := by unfold areaN; grind
theorem area_abb (ax ay bx bz : Int) : areaN ax ay bx bz bx bz = 0 := by unfold areaN; grind
theorem turn_facts {ax ay bx bz cx cy : Int} (ha : onP ax ay) (hb : onP bx bz) (hc : onP cx cy) :
    turnV bx bz cx cy ax ay = turnV ax ay bx bz cx cy ∧ turnV cx cy ax ay bx bz = turnV ax ay bx bz cx cy ∧ turnV bx bz ax ay cx cy = -turnV ax ay bx bz cx cy ∧ turnV ax ay cx cy bx bz = -turnV ax ay bx bz cx cy ∧
    turnV cx cy bx bz ax ay = -turnV ax ay bx bz cx cy ∧ turnV ax ay ax ay bx bz = 0 ∧ turnV ax ay bx bz bx bz = 0 ∧ -1 ≤ turnV ax ay bx bz cx cy ∧ turnV ax ay bx bz cx cy ≤ 1 := by
  rw [turn_on ha hb hc, turn_on hb hc ha, turn_on hc ha hb, turn_on hb ha hc, turn_on ha hc hb, turn_on hc hb ha, turn_on ha ha hb, turn_on ha hb hb,
    area_rot ax ay, area_rot bx bz cx cy ax ay, area_rot ax ay, area_swap ax ay bx bz, area_swap2 ax ay bx bz, area_aab, area_abb, area_swap2 cx cy ax ay bx bz, area_rot bx bz cx cy ax ay, area_rot ax ay, sgn_neg]
  have h := sgn_bd (areaN ax ay bx bz cx cy)
  have h0 : sgnI 0 = 0 := rfl
  exact ⟨rfl, rfl, rfl, rfl, rfl, h0, h0, h.1, h.2⟩
end Go.Proofs.Ytbkeennjoepmmaa.Ge
