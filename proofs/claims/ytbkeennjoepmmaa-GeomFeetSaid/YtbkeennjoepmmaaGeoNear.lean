/- Plain mathematics of layer 7's laws: feet, and points that divide a segment. -/
import Derived.Test.YtbkeennjoepmmaaGeoLaw
import Derived.Test.YtbkeennjoepmmaaFrcMath2
namespace Go.Proofs.Ytbkeennjoepmmaa.Ge
set_option linter.unusedVariables false
set_option linter.unusedSimpArgs false
open Go.Proofs.Ytbkeennjoepmmaa.Fr (valP cmpV cmpE)

theorem val_one {n : Int} (h0 : 0 ≤ n) (h1 : n ≤ 4611686018427387904) : valP n 1 := ⟨by omega, h1, by omega, by omega, by simp⟩
theorem sq_area {ax ay bx bz px py : Int} (ha : onP ax ay) (hb : onP bx bz) (hp : onP px py) : 0 ≤ areaN ax ay bx bz px py * areaN ax ay bx bz px py ∧ areaN ax ay bx bz px py * areaN ax ay bx bz px py ≤ 4611686018427387904 := by
  have h := area_bd ha hb hp
  have h1 := mul_bd (m := 2147352578) (k := 2147352578) h.1 h.2 h.1 h.2 (by decide) (by decide)
  exact ⟨sq_nonneg _, by omega⟩
theorem ft_val {px py ax ay bx bz : Int} (hp : onP px py) (ha : onP ax ay) (hb : onP bx bz) :
    valP (ftN px py ax ay bx bz) (ftD px py ax ay bx bz) ∧ valP (ftM px py ax ay bx bz) (ftE px py ax ay bx bz) := by
  have h1 := dist_bd hp ha
  have h2 := dist_bd hp hb
  have h3 := along_bd ha hb hp
  have h4 := dist_bd ha hb
  have h5 := sq_area ha hb hp
  unfold ftN ftD ftM ftE
  by_cases l1 : alongN ax ay bx bz px py ≤ 0
  · simp only [if_pos l1]
    exact ⟨val_one (by omega) (by omega), val_one (by omega) (by omega)⟩
  · simp only [if_neg l1]
    by_cases l2 : distN ax ay bx bz ≤ alongN ax ay bx bz px py
    · simp only [if_pos l2]
      exact ⟨val_one (by omega) (by omega), val_one (by omega) (by omega)⟩
    · simp only [if_neg l2]
      exact ⟨q_val (by omega) (by omega) (by omega) (by omega), q_val h5.1 (by omega) h5.2 (by omega)⟩
theorem le_of_scaled {S x y : Int} (hS : 0 < S) (h : S * x ≤ S * y) : x ≤ y := Int.le_of_mul_le_mul_left h hS
/-- no place of the segment is nearer than the foot -/
theorem ft_least {px py ax ay bx bz xx xy : Int} (hx : hasP ax ay bx bz xx xy) : ftM px py ax ay bx bz ≤ distN px py xx xy * ftE px py ax ay bx bz := by
  have hS := dist_nonneg ax ay bx bz
  by_cases hab : ax = bx ∧ ay = bz
  · obtain ⟨rfl, rfl⟩ := hab
    unfold hasP at hx
    rw [if_pos ⟨rfl, rfl⟩] at hx
    obtain ⟨rfl, rfl⟩ := hx
    have e : alongN xx xy xx xy px py ≤ 0 := by
      have : alongN xx xy xx xy px py = 0 := by unfold alongN; grind
      omega
    unfold ftM ftE
    rw [if_pos e, if_pos e, Int.mul_one]
    exact Int.le_refl _
  · have hS0 : distN ax ay bx bz ≠ 0 := fun k => hab (dist_zero k)
    have hA := ((has_iff ..).1 hx).1
    unfold hasP at hx
    rw [if_neg hab] at hx
    obtain ⟨-, h0, h1⟩ := hx
    have e1 : distN ax ay bx bz * (xx - ax) = (bx - ax) * alongN ax ay bx bz xx xy := by
      have : distN ax ay bx bz * (xx - ax) - (bx - ax) * alongN ax ay bx bz xx xy = -(bz - ay) * areaN ax ay bx bz xx xy := by unfold distN alongN areaN; grind
      rw [hA, Int.mul_zero] at this
      omega
    have e2 : distN ax ay bx bz * (xy - ay) = (bz - ay) * alongN ax ay bx bz xx xy := by
      have : distN ax ay bx bz * (xy - ay) - (bz - ay) * alongN ax ay bx bz xx xy = (bx - ax) * areaN ax ay bx bz xx xy := by unfold distN alongN areaN; grind
      rw [hA, Int.mul_zero] at this
      omega
    have hSp : 0 < distN ax ay bx bz := by omega
    unfold ftM ftE
    by_cases l1 : alongN ax ay bx bz px py ≤ 0
    · rw [if_pos l1, if_pos l1, Int.mul_one]
      have k1 : distN px py xx xy = distN px py ax ay - 2 * alongN ax ay xx xy px py + distN ax ay xx xy := by unfold distN alongN; grind
      have k2 : distN ax ay bx bz * alongN ax ay xx xy px py = alongN ax ay bx bz xx xy * alongN ax ay bx bz px py := by
        have : alongN ax ay xx xy px py = (xx - ax) * (px - ax) + (xy - ay) * (py - ay) := rfl
        rw [this, Int.mul_add, ← Int.mul_assoc, ← Int.mul_assoc, e1, e2]
        generalize alongN ax ay bx bz xx xy = d
        unfold alongN
        grind
      have k3 : alongN ax ay bx bz xx xy * alongN ax ay bx bz px py ≤ 0 := Int.mul_nonpos_of_nonneg_of_nonpos h0 l1
      have k4 : alongN ax ay xx xy px py ≤ 0 := le_of_scaled hSp (by rw [k2, Int.mul_zero]; exact k3)
      have k5 := dist_nonneg ax ay xx xy
      omega
    · rw [if_neg l1, if_neg l1]
      by_cases l2 : distN ax ay bx bz ≤ alongN ax ay bx bz px py
      · rw [if_pos l2, if_pos l2, Int.mul_one]
        have k1 : distN px py xx xy = distN px py bx bz - 2 * alongN bx bz xx xy px py + distN bx bz xx xy := by unfold distN alongN; grind
        have k2 : distN ax ay bx bz * alongN bx bz xx xy px py = (alongN ax ay bx bz xx xy - distN ax ay bx bz) * (alongN ax ay bx bz px py - distN ax ay bx bz) := by
          have a1 : distN ax ay bx bz * (xx - bx) = (bx - ax) * (alongN ax ay bx bz xx xy - distN ax ay bx bz) := by
            have : distN ax ay bx bz * (xx - bx) = distN ax ay bx bz * (xx - ax) - (bx - ax) * distN ax ay bx bz := by grind
            rw [this, e1]; grind
          have a2 : distN ax ay bx bz * (xy - bz) = (bz - ay) * (alongN ax ay bx bz xx xy - distN ax ay bx bz) := by
            have : distN ax ay bx bz * (xy - bz) = distN ax ay bx bz * (xy - ay) - (bz - ay) * distN ax ay bx bz := by grind
            rw [this, e2]; grind
          have a3 : alongN bx bz xx xy px py = (xx - bx) * (px - bx) + (xy - bz) * (py - bz) := rfl
          have a4 : alongN ax ay bx bz px py - distN ax ay bx bz = (bx - ax) * (px - bx) + (bz - ay) * (py - bz) := by unfold distN alongN; grind
          rw [a3, a4, Int.mul_add, ← Int.mul_assoc, ← Int.mul_assoc, a1, a2]
          generalize alongN ax ay bx bz xx xy - distN ax ay bx bz = d
          grind
        have k3 : (alongN ax ay bx bz xx xy - distN ax ay bx bz) * (alongN ax ay bx bz px py - distN ax ay bx bz) ≤ 0 := Int.mul_nonpos_of_nonpos_of_nonneg (by omega) (by omega)
        have k4 : alongN bx bz xx xy px py ≤ 0 := le_of_scaled hSp (by rw [k2, Int.mul_zero]; exact k3)
        have k5 := dist_nonneg bx bz xx xy
        omega
      · rw [if_neg l2, if_neg l2]
        have q := q_cross (areaN ax ay bx bz px py * areaN ax ay bx bz px py) (distN ax ay bx bz)
        have qd := (q_bd (a := areaN ax ay bx bz px py * areaN ax ay bx bz px py) (sq_nonneg _) (show 1 ≤ distN ax ay bx bz by omega)).2.2.1
        have k1 : areaN ax ay bx bz px py = (bx - ax) * (py - xy) - (bz - ay) * (px - xx) := by
          have : areaN ax ay bx bz px py = (bx - ax) * (py - xy) - (bz - ay) * (px - xx) + areaN ax ay bx bz xx xy := by unfold areaN; grind
          rw [hA, Int.add_zero] at this
          exact this
        have k2 : areaN ax ay bx bz px py * areaN ax ay bx bz px py + ((bx - ax) * (px - xx) + (bz - ay) * (py - xy)) * ((bx - ax) * (px - xx) + (bz - ay) * (py - xy)) = distN ax ay bx bz * distN px py xx xy := by
          rw [k1]; unfold distN alongN; grind
        have k3 := sq_nonneg ((bx - ax) * (px - xx) + (bz - ay) * (py - xy))
        generalize areaN ax ay bx bz px py * areaN ax ay bx bz px py = A at *
        generalize distN ax ay bx bz = S at *
        generalize qN A S = M at *
        generalize qD A S = E at *
        generalize distN px py xx xy = X at *
        refine le_of_scaled hSp ?_
        have k4 : E * A ≤ E * (S * X) := Int.mul_le_mul_of_nonneg_left (by omega) (by omega)
        have k5 : S * M = E * A := by rw [← q, Int.mul_comm]
        have k6 : S * (X * E) = E * (S * X) := by grind
        omega
theorem cmp_le {n d m e : Int} (h : valP n d) (k : valP m e) (hle : n * e ≤ m * d) : cmpE n d m e = 0 ∧ cmpV n d m e ≤ 0 := by
  unfold cmpE cmpV
  rw [if_pos ⟨h, k⟩, if_pos ⟨h, k⟩]
  refine ⟨rfl, ?_⟩
  split
  · omega
  · split <;> omega

/-! Points that divide a segment into equal parts -/
theorem step_num {b c G k : Int} (hG : 0 < G) (h0 : 0 ≤ k) (hk : k ≤ G) (hd : G ∣ c - b) :
    (c - b).tdiv G * G = c - b ∧ min b c ≤ b + (c - b).tdiv G * k ∧ b + (c - b).tdiv G * k ≤ max b c := by
  obtain ⟨u, hu⟩ := hd
  have e : (c - b).tdiv G = u := by rw [hu]; exact Int.mul_tdiv_cancel_left _ (by omega)
  rw [e]
  have e2 : u * G = c - b := by rw [hu, Int.mul_comm]
  refine ⟨e2, ?_⟩
  rcases Int.le_total 0 u with h | h
  · have h1 : 0 ≤ u * k := Int.mul_nonneg h h0
    have h2 : u * k ≤ u * G := Int.mul_le_mul_of_nonneg_left hk h
    omega
  · have h1 : u * k ≤ 0 := Int.mul_nonpos_of_nonpos_of_nonneg h h0
    have h2 : u * G ≤ u * k := Int.mul_le_mul_of_nonpos_left h hk
    omega
theorem step_has {bx bz cx cy G k : Int} (hG : 0 < G) (h0 : 0 ≤ k) (hk : k ≤ G) (hx : G ∣ cx - bx) (hy : G ∣ cy - bz) :
    hasP bx bz cx cy (bx + (cx - bx).tdiv G * k) (bz + (cy - bz).tdiv G * k) := by
  obtain ⟨a1, a2, a3⟩ := step_num hG h0 hk hx
  obtain ⟨b1, b2, b3⟩ := step_num hG h0 hk hy
  have hA : areaN bx bz cx cy (bx + (cx - bx).tdiv G * k) (bz + (cy - bz).tdiv G * k) = 0 := by
    unfold areaN
    generalize (cx - bx).tdiv G = u at *
    generalize (cy - bz).tdiv G = v at *
    rw [← a1, ← b1]
    grind
  exact (box_has hA).2 ⟨a2, a3, b2, b3⟩
end Go.Proofs.Ytbkeennjoepmmaa.Ge
