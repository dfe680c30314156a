/- Lowest terms of a quotient of two numbers that are not negative, and the feet of points. -/
import Derived.Test.YtcpcmlonbpccnaaBdA1
import Derived.Test.YtcpcmlonbpccnaaBdA2
namespace Go.Proofs.Ytcpcmlonbpccnaa.Ge
set_option linter.unusedVariables false
set_option linter.unusedSimpArgs false
open Go.Proofs.Ytcpcmlonbpccnaa.Fr (valP ofN ofD ofE ofQ fitP rN rD rE r_fit rat)

/-- the greatest common divisor -/
def gI (a b : Int) : Int := ((Nat.gcd a.natAbs b.natAbs : Nat) : Int)
def qN (a b : Int) : Int := a / gI a b
def qD (a b : Int) : Int := b / gI a b
theorem gI_pos {a b : Int} (hb : 1 ≤ b) : 1 ≤ gI a b := by
  have : 0 < Nat.gcd a.natAbs b.natAbs := Nat.gcd_pos_of_pos_right _ (by omega)
  unfold gI
  omega
theorem gI_l (a b : Int) : gI a b ∣ a := Int.ofNat_dvd_left.2 (Nat.gcd_dvd_left ..)
theorem gI_r (a b : Int) : gI a b ∣ b := Int.ofNat_dvd_left.2 (Nat.gcd_dvd_right ..)
theorem qN_mul (a b : Int) : gI a b * qN a b = a := Int.mul_ediv_cancel' (gI_l a b)
theorem qD_mul (a b : Int) : gI a b * qD a b = b := Int.mul_ediv_cancel' (gI_r a b)
theorem q_bd {a b : Int} (ha : 0 ≤ a) (hb : 1 ≤ b) : 0 ≤ qN a b ∧ qN a b ≤ a ∧ 1 ≤ qD a b ∧ qD a b ≤ b := by
  have hg := gI_pos (a := a) hb
  have h1 := qN_mul a b
  have h2 := qD_mul a b
  have h3 : 0 ≤ qN a b := Int.ediv_nonneg ha (by omega)
  have h4 : 0 ≤ qD a b := Int.ediv_nonneg (by omega) (by omega)
  have h5 : qD a b ≠ 0 := by
    intro h
    rw [h, Int.mul_zero] at h2
    omega
  have h6 : 0 ≤ (gI a b - 1) * qN a b := Int.mul_nonneg (by omega) h3
  have h7 : 0 ≤ (gI a b - 1) * qD a b := Int.mul_nonneg (by omega) h4
  rw [Int.sub_mul, Int.one_mul] at h6 h7
  omega
theorem q_cross (a b : Int) : qN a b * b = qD a b * a := by
  have h1 := qN_mul a b
  have h2 := qD_mul a b
  generalize gI a b = g at *
  generalize qN a b = n at *
  generalize qD a b = d at *
  subst h1
  rw [← h2]
  grind
theorem ofQ_terms {a b : Int} (hb : 1 ≤ b) : (ofQ a b).num = qN a b ∧ ((ofQ a b).den : Int) = qD a b := by
  have e : Int.gcd b a = Nat.gcd a.natAbs b.natAbs := by rw [Int.gcd_comm]; rfl
  unfold ofQ
  rw [Rat.num_divInt, Rat.den_divInt, if_neg (by omega), e, Int.sign_eq_one_of_pos (by omega), Int.one_mul]
  refine ⟨rfl, ?_⟩
  unfold qD gI
  rw [Int.natCast_ediv]
  congr 1
  omega
theorem q_gcd {a b : Int} (hb : 1 ≤ b) : Nat.gcd (qN a b).natAbs (qD a b).natAbs = 1 := by
  obtain ⟨h1, h2⟩ := ofQ_terms (a := a) hb
  have h := (ofQ a b).reduced
  rw [← h1, ← h2]
  simpa [Nat.Coprime] using h
theorem q_val {a b : Int} (ha : 0 ≤ a) (hb : 1 ≤ b) (ha2 : a ≤ 4611686018427387904) (hb2 : b ≤ 4611686018427387904) : valP (qN a b) (qD a b) := by
  obtain ⟨h1, h2, h3, h4⟩ := q_bd ha hb
  exact ⟨by omega, by omega, h3, by omega, q_gcd hb⟩
theorem of_quo {a b : Int} (ha : 0 ≤ a) (hb : 1 ≤ b) (ha2 : a ≤ 4611686018427387904) (hb2 : b ≤ 4611686018427387904) : ofN a b = qN a b ∧ ofD a b = qD a b ∧ ofE a b = 0 := by
  obtain ⟨h1, h2⟩ := ofQ_terms (a := a) hb
  obtain ⟨b1, b2, b3, b4⟩ := q_bd ha hb
  have hf : fitP (ofQ a b) := by
    unfold fitP
    rw [h1, h2]
    omega
  obtain ⟨x, y, z⟩ := r_fit hf
  unfold ofN ofD ofE
  rw [if_neg (by omega), if_neg (by omega), if_neg (by omega), x, y, z, h1, h2]
  exact ⟨rfl, rfl, rfl⟩
theorem q_one (a : Int) : qN a 1 = a ∧ qD a 1 = 1 := by
  have e : gI a 1 = 1 := by unfold gI; simp
  unfold qN qD
  rw [e]
  exact ⟨Int.ediv_one a, by decide⟩

/-! The foot of p in the segment of a and b: the part's terms, and those of the square of the distance -/
def ftN (px py ax ay bx bz : Int) : Int :=
  if alongN ax ay bx bz px py ≤ 0 then 0 else if distN ax ay bx bz ≤ alongN ax ay bx bz px py then 1 else qN (alongN ax ay bx bz px py) (distN ax ay bx bz)
def ftD (px py ax ay bx bz : Int) : Int :=
  if alongN ax ay bx bz px py ≤ 0 then 1 else if distN ax ay bx bz ≤ alongN ax ay bx bz px py then 1 else qD (alongN ax ay bx bz px py) (distN ax ay bx bz)
def ftM (px py ax ay bx bz : Int) : Int :=
  if alongN ax ay bx bz px py ≤ 0 then distN px py ax ay else if distN ax ay bx bz ≤ alongN ax ay bx bz px py then distN px py bx bz else qN (areaN ax ay bx bz px py * areaN ax ay bx bz px py) (distN ax ay bx bz)
def ftE (px py ax ay bx bz : Int) : Int :=
  if alongN ax ay bx bz px py ≤ 0 then 1 else if distN ax ay bx bz ≤ alongN ax ay bx bz px py then 1 else qD (areaN ax ay bx bz px py * areaN ax ay bx bz px py) (distN ax ay bx bz)
end Go.Proofs.Ytcpcmlonbpccnaa.Ge

/- Plain mathematics of layer 7's laws. -/
namespace Go.Proofs.Ytcpcmlonbpccnaa.Ge
set_option linter.unusedVariables false
set_option linter.unusedSimpArgs false

theorem on_mod (x y : Int) : onP (x % 32768) (y % 32768) := by
  unfold onP
  omega
theorem sgn_neg (n : Int) : sgnI (-n) = -sgnI n := by
  have h1 := sgn_cases n
  have h2 := sgn_cases (-n)
  omega
theorem turn_on {ax ay bx bz cx cy : Int} (ha : onP ax ay) (hb : onP bx bz) (hc : onP cx cy) : turnV ax ay bx bz cx cy = sgnI (areaN ax ay bx bz cx cy) := if_pos ⟨ha, hb, hc⟩
theorem area_rot (ax ay bx bz cx cy : Int) : areaN bx bz cx cy ax ay = areaN ax ay bx bz cx cy := by unfold areaN; grind
theorem area_swap (ax ay bx bz cx cy : Int) : areaN bx bz ax ay cx cy = -areaN ax ay bx bz cx cy := by unfold areaN; grind
theorem area_swap2 (ax ay bx bz cx cy : Int) : areaN ax ay cx cy bx bz = -areaN ax ay bx bz cx cy := by unfold areaN; grind
theorem area_aab (ax ay bx bz : Int) : areaN ax ay ax ay bx bz = 0 := by unfold areaN; grind
theorem area_abb (ax ay bx bz : Int) : areaN ax ay bx bz bx bz = 0 := by unfold areaN; grind
theorem turn_facts {ax ay bx bz cx cy : Int} (ha : onP ax ay) (hb : onP bx bz) (hc : onP cx cy) :
    turnV bx bz cx cy ax ay = turnV ax ay bx bz cx cy ∧ turnV cx cy ax ay bx bz = turnV ax ay bx bz cx cy ∧ turnV bx bz ax ay cx cy = -turnV ax ay bx bz cx cy ∧ turnV ax ay cx cy bx bz = -turnV ax ay bx bz cx cy ∧
    turnV cx cy bx bz ax ay = -turnV ax ay bx bz cx cy ∧ turnV ax ay ax ay bx bz = 0 ∧ turnV ax ay bx bz bx bz = 0 ∧ -1 ≤ turnV ax ay bx bz cx cy ∧ turnV ax ay bx bz cx cy ≤ 1 := by
  rw [turn_on ha hb hc, turn_on hb hc ha, turn_on hc ha hb, turn_on hb ha hc, turn_on ha hc hb, turn_on hc hb ha, turn_on ha ha hb, turn_on ha hb hb,
    area_rot ax ay, area_rot bx bz cx cy ax ay, area_rot ax ay, area_swap ax ay bx bz, area_swap2 ax ay bx bz, area_aab, area_abb, area_swap2 cx cy ax ay bx bz, area_rot bx bz cx cy ax ay, area_rot ax ay, sgn_neg]
  have h := sgn_bd (areaN ax ay bx bz cx cy)
  have h0 : sgnI 0 = 0 := rfl
  exact ⟨rfl, rfl, rfl, rfl, rfl, h0, h0, h.1, h.2⟩

/-! Distances and places -/
theorem dist_symm (ax ay bx bz : Int) : distN bx bz ax ay = distN ax ay bx bz := by unfold distN alongN; grind
theorem lagrange (ax ay bx bz px py : Int) : alongN ax ay bx bz px py * alongN ax ay bx bz px py + areaN ax ay bx bz px py * areaN ax ay bx bz px py = distN ax ay bx bz * distN ax ay px py := by
  unfold alongN areaN distN alongN; grind
theorem dist_cos (ax ay bx bz px py : Int) : distN px py bx bz = distN ax ay px py - 2 * alongN ax ay bx bz px py + distN ax ay bx bz := by unfold distN alongN; grind
theorem dist_self (ax ay : Int) : distN ax ay ax ay = 0 := by unfold distN alongN; grind
theorem dist_on {ax ay bx bz : Int} (ha : onP ax ay) (hb : onP bx bz) : distV ax ay bx bz = distN ax ay bx bz := if_pos ⟨ha, hb⟩
theorem has_iff (ax ay bx bz px py : Int) : hasP ax ay bx bz px py ↔ areaN ax ay bx bz px py = 0 ∧ distN ax ay px py + distN px py bx bz ≤ distN ax ay bx bz := by
  have hl := lagrange ax ay bx bz px py
  have hc := dist_cos ax ay bx bz px py
  have hv := dist_nonneg ax ay px py
  have hs := dist_nonneg ax ay bx bz
  unfold hasP
  by_cases h : ax = bx ∧ ay = bz
  · obtain ⟨rfl, rfl⟩ := h
    rw [if_pos ⟨rfl, rfl⟩, dist_self, area_aab]
    constructor
    · rintro ⟨rfl, rfl⟩
      rw [dist_self]
      omega
    · rintro ⟨-, k⟩
      have h2 := dist_nonneg px py ax ay
      obtain ⟨e1, e2⟩ := dist_zero (show distN ax ay px py = 0 by omega)
      exact ⟨e1.symm, e2.symm⟩
  · rw [if_neg h]
    have hs0 : distN ax ay bx bz ≠ 0 := fun k => h (dist_zero k)
    rw [hc]
    generalize areaN ax ay bx bz px py = A at *
    generalize alongN ax ay bx bz px py = d at *
    generalize distN ax ay px py = V at *
    generalize distN ax ay bx bz = S at *
    constructor
    · rintro ⟨rfl, h1, h2⟩
      refine ⟨rfl, ?_⟩
      rw [Int.mul_zero, Int.add_zero] at hl
      have h3 : d * d ≤ S * d := Int.mul_le_mul_of_nonneg_right h2 h1
      have h4 : ¬ d + 1 ≤ V := fun k => by
        have := Int.mul_le_mul_of_nonneg_left k hs
        rw [Int.mul_add, Int.mul_one] at this
        omega
      omega
    · rintro ⟨rfl, h1⟩
      refine ⟨rfl, by omega, ?_⟩
      rw [Int.mul_zero, Int.add_zero] at hl
      have h2 : V ≤ d := by omega
      have h3 := Int.mul_le_mul_of_nonneg_left h2 hs
      refine Decidable.byContradiction fun k => ?_
      have h4 : (S + 1) * d ≤ d * d := Int.mul_le_mul_of_nonneg_right (by omega) (by omega)
      rw [Int.add_mul, Int.one_mul] at h4
      omega
theorem has_symm (ax ay bx bz px py : Int) : hasB bx bz ax ay px py = hasB ax ay bx bz px py := by
  rw [Bool.eq_iff_iff]
  unfold hasB
  rw [decide_eq_true_iff, decide_eq_true_iff, has_iff, has_iff, area_swap ax ay bx bz, dist_symm ax ay bx bz, dist_symm px py bx bz, dist_symm ax ay px py]
  omega
theorem has_area {ax ay bx bz px py : Int} (h : hasB ax ay bx bz px py = true) : areaN ax ay bx bz px py = 0 := by
  unfold hasB at h
  rw [decide_eq_true_iff, has_iff] at h
  exact h.1
theorem bet_on {px py ax ay bx bz : Int} (hp : onP px py) (ha : onP ax ay) (hb : onP bx bz) : betB px py ax ay bx bz = hasB ax ay bx bz px py := by
  rw [Bool.eq_iff_iff]
  unfold betB hasB
  rw [decide_eq_true_iff, decide_eq_true_iff]
  exact ⟨fun k => k.2.2.2, fun k => ⟨hp, ha, hb, k⟩⟩
theorem has_first (ax ay bx bz : Int) : hasB ax ay bx bz ax ay = true := by
  unfold hasB
  rw [decide_eq_true_iff, has_iff, dist_self]
  exact ⟨by unfold areaN; grind, by omega⟩
theorem has_last (ax ay bx bz : Int) : hasB ax ay bx bz bx bz = true := by
  rw [← has_symm]; exact has_first ..

/-! GeomDistances -/
theorem distances {ax ay bx bz cx cy n x y : Int} (hn : n = distN ax ay bx bz) (hx : x = distN ax ay cx cy) (hy : y = distN cx cy bx bz) :
    ((n - x - y) * (n - x - y) + 3) / 4 ≤ x * y := by
  have hl := lagrange cx cy ax ay bx bz
  have hc := dist_cos cx cy ax ay bx bz
  have h2 := sq_nonneg (areaN cx cy ax ay bx bz)
  rw [dist_symm ax ay bx bz, dist_symm ax ay cx cy] at *
  rw [← hn, ← hx, ← hy] at hc
  rw [← hx, ← hy] at hl
  generalize alongN cx cy ax ay bx bz = d at *
  generalize areaN cx cy ax ay bx bz * areaN cx cy ax ay bx bz = A at *
  have e : n - x - y = -2 * d := by omega
  rw [e]
  have e2 : -2 * d * (-2 * d) = 4 * (d * d) := by grind
  rw [e2]
  omega

/-! A point in the box of a segment, on its straight line -/
theorem between_num {S d u v : Int} (hS : 0 < S) (h0 : 0 ≤ d) (h1 : d ≤ S) (h : S * v = u * d) : (0 ≤ u ∧ 0 ≤ v ∧ v ≤ u) ∨ (u ≤ 0 ∧ u ≤ v ∧ v ≤ 0) := by
  have pos : ∀ {x y : Int}, S * x ≤ S * y → x ≤ y := fun {x y} h => Int.le_of_mul_le_mul_left h hS
  rcases Int.le_total 0 u with hu | hu
  · left
    refine ⟨hu, pos ?_, pos ?_⟩
    · rw [h, Int.mul_zero]; exact Int.mul_nonneg hu h0
    · rw [h, Int.mul_comm S u]; exact Int.mul_le_mul_of_nonneg_left h1 hu
  · right
    refine ⟨hu, pos ?_, pos ?_⟩
    · rw [h, Int.mul_comm S u]; exact Int.mul_le_mul_of_nonpos_left hu h1
    · rw [h, Int.mul_zero]; exact Int.mul_nonpos_of_nonpos_of_nonneg hu h0
theorem box_num {a b p : Int} (h : min a b ≤ p ∧ p ≤ max a b) : 0 ≤ (b - a) * (p - a) ∧ (b - a) * (p - a) ≤ (b - a) * (b - a) := by
  rcases Int.le_total a b with k | k
  · exact ⟨Int.mul_nonneg (by omega) (by omega), Int.mul_le_mul_of_nonneg_left (by omega) (by omega)⟩
  · exact ⟨Int.mul_nonneg_of_nonpos_of_nonpos (by omega) (by omega), Int.mul_le_mul_of_nonpos_left (by omega) (by omega)⟩
theorem box_has {ax ay bx bz px py : Int} (hA : areaN ax ay bx bz px py = 0) :
    hasP ax ay bx bz px py ↔ min ax bx ≤ px ∧ px ≤ max ax bx ∧ min ay bz ≤ py ∧ py ≤ max ay bz := by
  unfold hasP
  by_cases h : ax = bx ∧ ay = bz
  · obtain ⟨rfl, rfl⟩ := h
    rw [if_pos ⟨rfl, rfl⟩]
    omega
  · rw [if_neg h]
    have hs := dist_nonneg ax ay bx bz
    have hs0 : distN ax ay bx bz ≠ 0 := fun k => h (dist_zero k)
    constructor
    · rintro ⟨-, h0, h1⟩
      have e1 : distN ax ay bx bz * (px - ax) = (bx - ax) * alongN ax ay bx bz px py := by
        have : distN ax ay bx bz * (px - ax) - (bx - ax) * alongN ax ay bx bz px py = -(bz - ay) * areaN ax ay bx bz px py := by unfold distN alongN areaN; grind
        rw [hA, Int.mul_zero] at this
        omega
      have e2 : distN ax ay bx bz * (py - ay) = (bz - ay) * alongN ax ay bx bz px py := by
        have : distN ax ay bx bz * (py - ay) - (bz - ay) * alongN ax ay bx bz px py = (bx - ax) * areaN ax ay bx bz px py := by unfold distN alongN areaN; grind
        rw [hA, Int.mul_zero] at this
        omega
      have r1 := between_num (by omega) h0 h1 e1
      have r2 := between_num (by omega) h0 h1 e2
      omega
    · rintro ⟨c1, c2, c3, c4⟩
      obtain ⟨m1, m2⟩ := box_num ⟨c1, c2⟩
      obtain ⟨m3, m4⟩ := box_num ⟨c3, c4⟩
      refine ⟨hA, ?_, ?_⟩
      · unfold alongN; omega
      · unfold distN alongN; omega
theorem box_eq {px py ax ay bx bz : Int} (hp : onP px py) (ha : onP ax ay) (hb : onP bx bz) :
    betB px py ax ay bx bz = (decide (areaN ax ay bx bz px py = 0) && (decide (min ax bx ≤ px) && (decide (px ≤ max ax bx) && (decide (min ay bz ≤ py) && decide (py ≤ max ay bz))))) := by
  rw [bet_on hp ha hb, Bool.eq_iff_iff]
  simp only [Bool.and_eq_true, decide_eq_true_iff]
  unfold hasB
  rw [decide_eq_true_iff]
  constructor
  · intro h
    have hA : areaN ax ay bx bz px py = 0 := ((has_iff ..).1 h).1
    exact ⟨hA, (box_has hA).1 h⟩
  · rintro ⟨hA, h⟩
    exact (box_has hA).2 h

/-! GeomBetween -/
theorem between_eq {ax ay bx bz cx cy : Int} (ha : onP ax ay) (hb : onP bx bz) (hc : onP cx cy) :
    betB ax ay bx bz cx cy = (turnV bx bz cx cy ax ay == 0 && decide (distV bx bz ax ay + distV ax ay cx cy ≤ distV bx bz cx cy)) := by
  rw [bet_on ha hb hc, turn_on hb hc ha, dist_on hb ha, dist_on ha hc, dist_on hb hc, Bool.eq_iff_iff]
  unfold hasB
  rw [decide_eq_true_iff, has_iff, Bool.and_eq_true, beq_iff_eq, decide_eq_true_iff]
  have := sgn_cases (areaN bx bz cx cy ax ay)
  omega
theorem between_swap {ax ay bx bz cx cy : Int} (ha : onP ax ay) (hb : onP bx bz) (hc : onP cx cy) : betB ax ay cx cy bx bz = betB ax ay bx bz cx cy := by
  rw [bet_on ha hb hc, bet_on ha hc hb, has_symm]
theorem between_ends {bx bz cx cy : Int} (hb : onP bx bz) (hc : onP cx cy) : betB bx bz bx bz cx cy = true ∧ betB cx cy bx bz cx cy = true := by
  rw [bet_on hb hb hc, bet_on hc hb hc]
  exact ⟨has_first .., has_last ..⟩

/-! GeomCrossings -/
theorem neg_prod (a b : Int) : -a * -b = a * b := by grind
theorem apart_swap (ax ay bx bz cx cy dx dy : Int) : apartB bx bz ax ay cx cy dx dy = apartB ax ay bx bz cx cy dx dy := by
  unfold apartB
  rw [Int.mul_comm]
theorem apart_swap2 (ax ay bx bz cx cy dx dy : Int) : apartB ax ay bx bz dx dy cx cy = apartB ax ay bx bz cx cy dx dy := by
  unfold apartB
  rw [area_swap cx cy dx dy, area_swap cx cy dx dy, sgn_neg, sgn_neg, neg_prod]
theorem prod_zero {a b : Int} (h : a = 0 ∨ b = 0) : ¬ sgnI a * sgnI b < 0 := by
  rcases h with rfl | rfl
  · rw [show sgnI 0 = 0 from rfl, Int.zero_mul]; omega
  · rw [show sgnI 0 = 0 from rfl, Int.mul_zero]; omega
def crossD (A1 A2 H1 H2 H3 H4 : Bool) : Int := if A1 = true ∧ A2 = true then 2 else if H1 = true ∨ H2 = true ∨ H3 = true ∨ H4 = true then 1 else 0
theorem cross_on {ax ay bx bz cx cy dx dy : Int} (ha : onP ax ay) (hb : onP bx bz) (hc : onP cx cy) (hd : onP dx dy) :
    crossV ax ay bx bz cx cy dx dy = crossD (apartB ax ay bx bz cx cy dx dy) (apartB cx cy dx dy ax ay bx bz) (hasB ax ay bx bz cx cy) (hasB ax ay bx bz dx dy) (hasB cx cy dx dy ax ay) (hasB cx cy dx dy bx bz) := by
  unfold crossV crossD
  exact if_pos ⟨ha, hb, hc, hd⟩
theorem crossD_c (A1 A2 H1 H2 H3 H4 : Bool) : crossD A2 A1 H3 H4 H1 H2 = crossD A1 A2 H1 H2 H3 H4 := by revert A1 A2 H1 H2 H3 H4; decide
theorem crossD_b (A1 A2 H1 H2 H3 H4 : Bool) : crossD A1 A2 H1 H2 H4 H3 = crossD A1 A2 H1 H2 H3 H4 := by revert A1 A2 H1 H2 H3 H4; decide
theorem cross_c {ax ay bx bz cx cy dx dy : Int} (ha : onP ax ay) (hb : onP bx bz) (hc : onP cx cy) (hd : onP dx dy) :
    crossV cx cy dx dy ax ay bx bz = crossV ax ay bx bz cx cy dx dy := by
  rw [cross_on ha hb hc hd, cross_on hc hd ha hb, crossD_c]
theorem cross_b {ax ay bx bz cx cy dx dy : Int} (ha : onP ax ay) (hb : onP bx bz) (hc : onP cx cy) (hd : onP dx dy) :
    crossV bx bz ax ay cx cy dx dy = crossV ax ay bx bz cx cy dx dy := by
  rw [cross_on ha hb hc hd, cross_on hb ha hc hd, apart_swap ax ay bx bz, apart_swap2 cx cy dx dy ax ay, has_symm ax ay bx bz, has_symm ax ay bx bz, crossD_b]
theorem cross_d {ax ay bx bz cx cy dx dy : Int} (ha : onP ax ay) (hb : onP bx bz) (hc : onP cx cy) (hd : onP dx dy) :
    crossV ax ay bx bz dx dy cx cy = crossV ax ay bx bz cx cy dx dy := by
  rw [← cross_c ha hb hd hc, cross_b hc hd ha hb, cross_c ha hb hc hd]
/-- what GeomCrossings asks of Cross -/
theorem cross_want {ax ay bx bz cx cy dx dy : Int} (ha : onP ax ay) (hb : onP bx bz) (hc : onP cx cy) (hd : onP dx dy) :
    crossV ax ay bx bz cx cy dx dy =
      if (betB ax ay cx cy dx dy || betB bx bz cx cy dx dy || betB cx cy ax ay bx bz || betB dx dy ax ay bx bz) = true then 1
      else if (decide (turnV ax ay bx bz cx cy * turnV ax ay bx bz dx dy < 0) && decide (turnV cx cy dx dy ax ay * turnV cx cy dx dy bx bz < 0)) = true then 2 else 0 := by
  rw [bet_on ha hc hd, bet_on hb hc hd, bet_on hc ha hb, bet_on hd ha hb, turn_on ha hb hc, turn_on ha hb hd, turn_on hc hd ha, turn_on hc hd hb]
  have k1 : hasB ax ay bx bz cx cy = true → apartB cx cy dx dy ax ay bx bz = false := fun k => decide_eq_false (prod_zero (.inl (has_area k)))
  have k2 : hasB ax ay bx bz dx dy = true → apartB cx cy dx dy ax ay bx bz = false := fun k => decide_eq_false (prod_zero (.inr (has_area k)))
  have k3 : hasB cx cy dx dy ax ay = true → apartB ax ay bx bz cx cy dx dy = false := fun k => decide_eq_false (prod_zero (.inl (has_area k)))
  have k4 : hasB cx cy dx dy bx bz = true → apartB ax ay bx bz cx cy dx dy = false := fun k => decide_eq_false (prod_zero (.inr (has_area k)))
  have e1 : decide (sgnI (areaN ax ay bx bz cx cy) * sgnI (areaN ax ay bx bz dx dy) < 0) = apartB cx cy dx dy ax ay bx bz := rfl
  have e2 : decide (sgnI (areaN cx cy dx dy ax ay) * sgnI (areaN cx cy dx dy bx bz) < 0) = apartB ax ay bx bz cx cy dx dy := rfl
  rw [e1, e2]
  clear e1 e2
  rw [cross_on ha hb hc hd]
  unfold crossD
  revert k1 k2 k3 k4
  generalize apartB ax ay bx bz cx cy dx dy = A1
  generalize apartB cx cy dx dy ax ay bx bz = A2
  generalize hasB ax ay bx bz cx cy = H1
  generalize hasB ax ay bx bz dx dy = H2
  generalize hasB cx cy dx dy ax ay = H3
  generalize hasB cx cy dx dy bx bz = H4
  cases A1 <;> cases A2 <;> cases H1 <;> cases H2 <;> cases H3 <;> cases H4 <;> simp
end Go.Proofs.Ytcpcmlonbpccnaa.Ge

/- Plain mathematics of layer 7's laws: feet, and points that divide a segment. -/
namespace Go.Proofs.Ytcpcmlonbpccnaa.Ge
set_option linter.unusedVariables false
set_option linter.unusedSimpArgs false
open Go.Proofs.Ytcpcmlonbpccnaa.Fr (valP cmpV cmpE)

theorem val_one {n : Int} (h0 : 0 ≤ n) (h1 : n ≤ 4611686018427387904) : valP n 1 := ⟨by omega, h1, by omega, by omega, by simp⟩
theorem sq_area {ax ay bx bz px py : Int} (ha : onP ax ay) (hb : onP bx bz) (hp : onP px py) : 0 ≤ areaN ax ay bx bz px py * areaN ax ay bx bz px py ∧ areaN ax ay bx bz px py * areaN ax ay bx bz px py ≤ 4611686018427387904 := by
  have h := area_bd ha hb hp
  have h1 := mul_bd (m := 2147352578) (k := 2147352578) h.1 h.2 h.1 h.2 (by decide) (by decide)
  exact ⟨sq_nonneg _, by omega⟩
theorem ft_val {px py ax ay bx bz : Int} (hp : onP px py) (ha : onP ax ay) (hb : onP bx bz) :
    valP (ftN px py ax ay bx bz) (ftD px py ax ay bx bz) ∧ valP (ftM px py ax ay bx bz) (ftE px py ax ay bx bz) := by
  have h1 := dist_bd hp ha
  have h2 := dist_bd hp hb
  have h3 := along_bd ha hb hp
  have h4 := dist_bd ha hb
  have h5 := sq_area ha hb hp
  unfold ftN ftD ftM ftE
  by_cases l1 : alongN ax ay bx bz px py ≤ 0
  · simp only [if_pos l1]
    exact ⟨val_one (by omega) (by omega), val_one (by omega) (by omega)⟩
  · simp only [if_neg l1]
    by_cases l2 : distN ax ay bx bz ≤ alongN ax ay bx bz px py
    · simp only [if_pos l2]
      exact ⟨val_one (by omega) (by omega), val_one (by omega) (by omega)⟩
    · simp only [if_neg l2]
      exact ⟨q_val (by omega) (by omega) (by omega) (by omega), q_val h5.1 (by omega) h5.2 (by omega)⟩
theorem le_of_scaled {S x y : Int} (hS : 0 < S) (h : S * x ≤ S * y) : x ≤ y := Int.le_of_mul_le_mul_left h hS
/-- no place of the segment is nearer than the foot -/
theorem ft_least {px py ax ay bx bz xx xy : Int} (hx : hasP ax ay bx bz xx xy) : ftM px py ax ay bx bz ≤ distN px py xx xy * ftE px py ax ay bx bz := by
  have hS := dist_nonneg ax ay bx bz
  by_cases hab : ax = bx ∧ ay = bz
  · obtain ⟨rfl, rfl⟩ := hab
    unfold hasP at hx
    rw [if_pos ⟨rfl, rfl⟩] at hx
    obtain ⟨rfl, rfl⟩ := hx
    have e : alongN xx xy xx xy px py ≤ 0 := by
      have : alongN xx xy xx xy px py = 0 := by unfold alongN; grind
      omega
    unfold ftM ftE
    rw [if_pos e, if_pos e, Int.mul_one]
    exact Int.le_refl _
  · have hS0 : distN ax ay bx bz ≠ 0 := fun k => hab (dist_zero k)
    have hA := ((has_iff ..).1 hx).1
    unfold hasP at hx
    rw [if_neg hab] at hx
    obtain ⟨-, h0, h1⟩ := hx
    have e1 : distN ax ay bx bz * (xx - ax) = (bx - ax) * alongN ax ay bx bz xx xy := by
      have : distN ax ay bx bz * (xx - ax) - (bx - ax) * alongN ax ay bx bz xx xy = -(bz - ay) * areaN ax ay bx bz xx xy := by unfold distN alongN areaN; grind
      rw [hA, Int.mul_zero] at this
      omega
    have e2 : distN ax ay bx bz * (xy - ay) = (bz - ay) * alongN ax ay bx bz xx xy := by
      have : distN ax ay bx bz * (xy - ay) - (bz - ay) * alongN ax ay bx bz xx xy = (bx - ax) * areaN ax ay bx bz xx xy := by unfold distN alongN areaN; grind
      rw [hA, Int.mul_zero] at this
      omega
    have hSp : 0 < distN ax ay bx bz := by omega
    unfold ftM ftE
    by_cases l1 : alongN ax ay bx bz px py ≤ 0
    · rw [if_pos l1, if_pos l1, Int.mul_one]
      have k1 : distN px py xx xy = distN px py ax ay - 2 * alongN ax ay xx xy px py + distN ax ay xx xy := by unfold distN alongN; grind
      have k2 : distN ax ay bx bz * alongN ax ay xx xy px py = alongN ax ay bx bz xx xy * alongN ax ay bx bz px py := by
        have : alongN ax ay xx xy px py = (xx - ax) * (px - ax) + (xy - ay) * (py - ay) := rfl
        rw [this, Int.mul_add, ← Int.mul_assoc, ← Int.mul_assoc, e1, e2]
        generalize alongN ax ay bx bz xx xy = d
        unfold alongN
        grind
      have k3 : alongN ax ay bx bz xx xy * alongN ax ay bx bz px py ≤ 0 := Int.mul_nonpos_of_nonneg_of_nonpos h0 l1
      have k4 : alongN ax ay xx xy px py ≤ 0 := le_of_scaled hSp (by rw [k2, Int.mul_zero]; exact k3)
      have k5 := dist_nonneg ax ay xx xy
      omega
    · rw [if_neg l1, if_neg l1]
      by_cases l2 : distN ax ay bx bz ≤ alongN ax ay bx bz px py
      · rw [if_pos l2, if_pos l2, Int.mul_one]
        have k1 : distN px py xx xy = distN px py bx bz - 2 * alongN bx bz xx xy px py + distN bx bz xx xy := by unfold distN alongN; grind
        have k2 : distN ax ay bx bz * alongN bx bz xx xy px py = (alongN ax ay bx bz xx xy - distN ax ay bx bz) * (alongN ax ay bx bz px py - distN ax ay bx bz) := by
          have a1 : distN ax ay bx bz * (xx - bx) = (bx - ax) * (alongN ax ay bx bz xx xy - distN ax ay bx bz) := by
            have : distN ax ay bx bz * (xx - bx) = distN ax ay bx bz * (xx - ax) - (bx - ax) * distN ax ay bx bz := by grind
            rw [this, e1]; grind
          have a2 : distN ax ay bx bz * (xy - bz) = (bz - ay) * (alongN ax ay bx bz xx xy - distN ax ay bx bz) := by
            have : distN ax ay bx bz * (xy - bz) = distN ax ay bx bz * (xy - ay) - (bz - ay) * distN ax ay bx bz := by grind
            rw [this, e2]; grind
          have a3 : alongN bx bz xx xy px py = (xx - bx) * (px - bx) + (xy - bz) * (py - bz) := rfl
          have a4 : alongN ax ay bx bz px py - distN ax ay bx bz = (bx - ax) * (px - bx) + (bz - ay) * (py - bz) := by unfold distN alongN; grind
          rw [a3, a4, Int.mul_add, ← Int.mul_assoc, ← Int.mul_assoc, a1, a2]
          generalize alongN ax ay bx bz xx xy - distN ax ay bx bz = d
          grind
        have k3 : (alongN ax ay bx bz xx xy - distN ax ay bx bz) * (alongN ax ay bx bz px py - distN ax ay bx bz) ≤ 0 := Int.mul_nonpos_of_nonpos_of_nonneg (by omega) (by omega)
        have k4 : alongN bx bz xx xy px py ≤ 0 := le_of_scaled hSp (by rw [k2, Int.mul_zero]; exact k3)
        have k5 := dist_nonneg bx bz xx xy
        omega
      · rw [if_neg l2, if_neg l2]
        have q := q_cross (areaN ax ay bx bz px py * areaN ax ay bx bz px py) (distN ax ay bx bz)
        have qd := (q_bd (a := areaN ax ay bx bz px py * areaN ax ay bx bz px py) (sq_nonneg _) (show 1 ≤ distN ax ay bx bz by omega)).2.2.1
        have k1 : areaN ax ay bx bz px py = (bx - ax) * (py - xy) - (bz - ay) * (px - xx) := by
          have : areaN ax ay bx bz px py = (bx - ax) * (py - xy) - (bz - ay) * (px - xx) + areaN ax ay bx bz xx xy := by unfold areaN; grind
          rw [hA, Int.add_zero] at this
          exact this
        have k2 : areaN ax ay bx bz px py * areaN ax ay bx bz px py + ((bx - ax) * (px - xx) + (bz - ay) * (py - xy)) * ((bx - ax) * (px - xx) + (bz - ay) * (py - xy)) = distN ax ay bx bz * distN px py xx xy := by
          rw [k1]; unfold distN alongN; grind
        have k3 := sq_nonneg ((bx - ax) * (px - xx) + (bz - ay) * (py - xy))
        generalize areaN ax ay bx bz px py * areaN ax ay bx bz px py = A at *
        generalize distN ax ay bx bz = S at *
        generalize qN A S = M at *
        generalize qD A S = E at *
        generalize distN px py xx xy = X at *
        refine le_of_scaled hSp ?_
        have k4 : E * A ≤ E * (S * X) := Int.mul_le_mul_of_nonneg_left (by omega) (by omega)
        have k5 : S * M = E * A := by rw [← q, Int.mul_comm]
        have k6 : S * (X * E) = E * (S * X) := by grind
        omega
theorem cmp_le {n d m e : Int} (h : valP n d) (k : valP m e) (hle : n * e ≤ m * d) : cmpE n d m e = 0 ∧ cmpV n d m e ≤ 0 := by
  unfold cmpE cmpV
  rw [if_pos ⟨h, k⟩, if_pos ⟨h, k⟩]
  refine ⟨rfl, ?_⟩
  split
  · omega
  · split <;> omega

/-! Points that divide a segment into equal parts -/
theorem step_num {b c G k : Int} (hG : 0 < G) (h0 : 0 ≤ k) (hk : k ≤ G) (hd : G ∣ c - b) :
    (c - b).tdiv G * G = c - b ∧ min b c ≤ b + (c - b).tdiv G * k ∧ b + (c - b).tdiv G * k ≤ max b c := by
  obtain ⟨u, hu⟩ := hd
  have e : (c - b).tdiv G = u := by rw [hu]; exact Int.mul_tdiv_cancel_left _ (by omega)
  rw [e]
  have e2 : u * G = c - b := by rw [hu, Int.mul_comm]
  refine ⟨e2, ?_⟩
  rcases Int.le_total 0 u with h | h
  · have h1 : 0 ≤ u * k := Int.mul_nonneg h h0
    have h2 : u * k ≤ u * G := Int.mul_le_mul_of_nonneg_left hk h
    omega
  · have h1 : u * k ≤ 0 := Int.mul_nonpos_of_nonpos_of_nonneg h h0
    have h2 : u * G ≤ u * k := Int.mul_le_mul_of_nonpos_left h hk
    omega
theorem step_has {bx bz cx cy G k : Int} (hG : 0 < G) (h0 : 0 ≤ k) (hk : k ≤ G) (hx : G ∣ cx - bx) (hy : G ∣ cy - bz) :
    hasP bx bz cx cy (bx + (cx - bx).tdiv G * k) (bz + (cy - bz).tdiv G * k) := by
  obtain ⟨a1, a2, a3⟩ := step_num hG h0 hk hx
  obtain ⟨b1, b2, b3⟩ := step_num hG h0 hk hy
  have hA : areaN bx bz cx cy (bx + (cx - bx).tdiv G * k) (bz + (cy - bz).tdiv G * k) = 0 := by
    unfold areaN
    generalize (cx - bx).tdiv G = u at *
    generalize (cy - bz).tdiv G = v at *
    rw [← a1, ← b1]
    grind
  exact (box_has hA).2 ⟨a2, a3, b2, b3⟩
end Go.Proofs.Ytcpcmlonbpccnaa.Ge
