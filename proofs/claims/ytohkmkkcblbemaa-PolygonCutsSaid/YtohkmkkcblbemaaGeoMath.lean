/- Points, turns, distances and segments, on whole numbers. -/
import Derived.WalkKit
namespace Go.Proofs.Ytohkmkkcblbemaa.Ge
set_option linter.unusedVariables false
set_option linter.unusedSimpArgs false

/-- is a point on the grid? -/
def onP (x y : Int) : Prop := (0 ≤ x ∧ x ≤ 32767) ∧ 0 ≤ y ∧ y ≤ 32767
instance (x y : Int) : Decidable (onP x y) := inferInstanceAs (Decidable (_ ∧ _))
/-- the turn of a, b, c as a number -/
def areaN (ax ay bx bz cx cy : Int) : Int := (bx - ax) * (cy - ay) - (bz - ay) * (cx - ax)
/-- how far ahead of a in the direction to b the point c is -/
def alongN (ax ay bx bz cx cy : Int) : Int := (bx - ax) * (cx - ax) + (bz - ay) * (cy - ay)
def distN (ax ay bx bz : Int) : Int := alongN ax ay bx bz bx bz
def sgnI (n : Int) : Int := if n < 0 then -1 else if 0 < n then 1 else 0
/-- what Turn and Dist return -/
def turnV (ax ay bx bz cx cy : Int) : Int := if onP ax ay ∧ onP bx bz ∧ onP cx cy then sgnI (areaN ax ay bx bz cx cy) else 0
def distV (ax ay bx bz : Int) : Int := if onP ax ay ∧ onP bx bz then distN ax ay bx bz else 0
/-- is p on the segment of a and b? -/
def hasP (ax ay bx bz px py : Int) : Prop :=
  if ax = bx ∧ ay = bz then px = ax ∧ py = ay else areaN ax ay bx bz px py = 0 ∧ 0 ≤ alongN ax ay bx bz px py ∧ alongN ax ay bx bz px py ≤ distN ax ay bx bz
instance (ax ay bx bz px py : Int) : Decidable (hasP ax ay bx bz px py) := by unfold hasP; infer_instance
def hasB (ax ay bx bz px py : Int) : Bool := decide (hasP ax ay bx bz px py)
/-- what Between returns -/
def betB (px py ax ay bx bz : Int) : Bool := decide (onP px py ∧ onP ax ay ∧ onP bx bz ∧ hasP ax ay bx bz px py)
/-- are both ends of the segment a b on different sides of the segment c d? -/
def apartB (ax ay bx bz cx cy dx dy : Int) : Bool := decide (sgnI (areaN cx cy dx dy ax ay) * sgnI (areaN cx cy dx dy bx bz) < 0)
/-- what Cross returns -/
def crossV (ax ay bx bz cx cy dx dy : Int) : Int :=
  if onP ax ay ∧ onP bx bz ∧ onP cx cy ∧ onP dx dy then
    if apartB ax ay bx bz cx cy dx dy = true ∧ apartB cx cy dx dy ax ay bx bz = true then 2
    else if hasB ax ay bx bz cx cy = true ∨ hasB ax ay bx bz dx dy = true ∨ hasB cx cy dx dy ax ay = true ∨ hasB cx cy dx dy bx bz = true then 1 else 0
  else 0

/-- a product of two numbers within bounds -/
theorem mul_bd {a b m k : Int} (h1 : -m ≤ a) (h2 : a ≤ m) (h3 : -k ≤ b) (h4 : b ≤ k) (hm : 0 ≤ m) (hk : 0 ≤ k) : -(m * k) ≤ a * b ∧ a * b ≤ m * k := by
  have h : (a * b).natAbs ≤ m.natAbs * k.natAbs := by
    rw [Int.natAbs_mul]
    exact Nat.mul_le_mul (by omega) (by omega)
  have e : ((m.natAbs * k.natAbs : Nat) : Int) = m * k := by
    rw [Int.natCast_mul, Int.natAbs_of_nonneg hm, Int.natAbs_of_nonneg hk]
  omega
theorem d_bd {a b : Int} (ha0 : 0 ≤ a) (ha : a ≤ 32767) (hb0 : 0 ≤ b) (hb : b ≤ 32767) : -32767 ≤ b - a ∧ b - a ≤ 32767 := by omega
theorem p_bd {a b : Int} (h1 : -32767 ≤ a ∧ a ≤ 32767) (h2 : -32767 ≤ b ∧ b ≤ 32767) : -1073676289 ≤ a * b ∧ a * b ≤ 1073676289 :=
  mul_bd (m := 32767) (k := 32767) h1.1 h1.2 h2.1 h2.2 (by decide) (by decide)
theorem area_bd {ax ay bx bz cx cy : Int} (ha : onP ax ay) (hb : onP bx bz) (hc : onP cx cy) : -2147352578 ≤ areaN ax ay bx bz cx cy ∧ areaN ax ay bx bz cx cy ≤ 2147352578 := by
  obtain ⟨⟨a1, a2⟩, a3, a4⟩ := ha
  obtain ⟨⟨b1, b2⟩, b3, b4⟩ := hb
  obtain ⟨⟨c1, c2⟩, c3, c4⟩ := hc
  have h1 := p_bd (d_bd a1 a2 b1 b2) (d_bd a3 a4 c3 c4)
  have h2 := p_bd (d_bd a3 a4 b3 b4) (d_bd a1 a2 c1 c2)
  unfold areaN
  omega
theorem along_bd {ax ay bx bz cx cy : Int} (ha : onP ax ay) (hb : onP bx bz) (hc : onP cx cy) : -2147352578 ≤ alongN ax ay bx bz cx cy ∧ alongN ax ay bx bz cx cy ≤ 2147352578 := by
  obtain ⟨⟨a1, a2⟩, a3, a4⟩ := ha
  obtain ⟨⟨b1, b2⟩, b3, b4⟩ := hb
  obtain ⟨⟨c1, c2⟩, c3, c4⟩ := hc
  have h1 := p_bd (d_bd a1 a2 b1 b2) (d_bd a1 a2 c1 c2)
  have h2 := p_bd (d_bd a3 a4 b3 b4) (d_bd a3 a4 c3 c4)
  unfold alongN
  omega
theorem sq_nonneg (a : Int) : 0 ≤ a * a := by
  rcases Int.le_total 0 a with h | h
  · exact Int.mul_nonneg h h
  · exact Int.mul_nonneg_of_nonpos_of_nonpos h h
theorem dist_nonneg (ax ay bx bz : Int) : 0 ≤ distN ax ay bx bz := by
  have h1 := sq_nonneg (bx - ax)
  have h2 := sq_nonneg (bz - ay)
  unfold distN alongN
  omega
theorem dist_bd {ax ay bx bz : Int} (ha : onP ax ay) (hb : onP bx bz) : 0 ≤ distN ax ay bx bz ∧ distN ax ay bx bz ≤ 2147352578 :=
  ⟨dist_nonneg .., (along_bd ha hb hb).2⟩
theorem sq_zero {a : Int} (h : a * a = 0) : a = 0 := by
  rcases Int.mul_eq_zero.1 h with h | h <;> exact h
theorem dist_zero {ax ay bx bz : Int} (h : distN ax ay bx bz = 0) : ax = bx ∧ ay = bz := by
  have h1 := sq_nonneg (bx - ax)
  have h2 := sq_nonneg (bz - ay)
  unfold distN alongN at h
  have h3 := sq_zero (show (bx - ax) * (bx - ax) = 0 by omega)
  have h4 := sq_zero (show (bz - ay) * (bz - ay) = 0 by omega)
  omega
theorem sgn_cases (n : Int) : sgnI n = -1 ∧ n < 0 ∨ sgnI n = 0 ∧ n = 0 ∨ sgnI n = 1 ∧ 0 < n := by
  unfold sgnI
  split
  · omega
  · split <;> omega
theorem sgn_bd (n : Int) : -1 ≤ sgnI n ∧ sgnI n ≤ 1 := by
  have := sgn_cases n
  omega
end Go.Proofs.Ytohkmkkcblbemaa.Ge
