/- Lowest terms of a quotient of two numbers that are not negative, and the feet of points. -/
import Derived.Test.YtohkmkkcblbemaaGeoMath
import Derived.Test.YtohkmkkcblbemaaFrcMath2
namespace Go.Proofs.Ytohkmkkcblbemaa.Ge
set_option linter.unusedVariables false
set_option linter.unusedSimpArgs false
open Go.Proofs.Ytohkmkkcblbemaa.Fr (valP ofN ofD ofE ofQ fitP rN rD rE r_fit rat)

/-- the greatest common divisor -/
def gI (a b : Int) : Int := ((Nat.gcd a.natAbs b.natAbs : Nat) : Int)
def qN (a b : Int) : Int := a / gI a b
def qD (a b : Int) : Int := b / gI a b
theorem gI_pos {a b : Int} (hb : 1 ≤ b) : 1 ≤ gI a b := by
  have : 0 < Nat.gcd a.natAbs b.natAbs := Nat.gcd_pos_of_pos_right _ (by omega)
  unfold gI
  omega
theorem gI_l (a b : Int) : gI a b ∣ a := Int.ofNat_dvd_left.2 (Nat.gcd_dvd_left ..)
theorem gI_r (a b : Int) : gI a b ∣ b := Int.ofNat_dvd_left.2 (Nat.gcd_dvd_right ..)
theorem qN_mul (a b : Int) : gI a b * qN a b = a := Int.mul_ediv_cancel' (gI_l a b)
theorem qD_mul (a b : Int) : gI a b * qD a b = b := Int.mul_ediv_cancel' (gI_r a b)
theorem q_bd {a b : Int} (ha : 0 ≤ a) (hb : 1 ≤ b) : 0 ≤ qN a b ∧ qN a b ≤ a ∧ 1 ≤ qD a b ∧ qD a b ≤ b := by
  have hg := gI_pos (a := a) hb
  have h1 := qN_mul a b
  have h2 := qD_mul a b
  have h3 : 0 ≤ qN a b := Int.ediv_nonneg ha (by omega)
  have h4 : 0 ≤ qD a b := Int.ediv_nonneg (by omega) (by omega)
  have h5 : qD a b ≠ 0 := by
    intro h
    rw [h, Int.mul_zero] at h2
    omega
  have h6 : 0 ≤ (gI a b - 1) * qN a b := Int.mul_nonneg (by omega) h3
  have h7 : 0 ≤ (gI a b - 1) * qD a b := Int.mul_nonneg (by omega) h4
  rw [Int.sub_mul, Int.one_mul] at h6 h7
  omega
theorem q_cross (a b : Int) : qN a b * b = qD a b * a := by
  have h1 := qN_mul a b
  have h2 := qD_mul a b
  generalize gI a b = g at *
  generalize qN a b = n at *
  generalize qD a b = d at *
  subst h1
  rw [← h2]
  grind
theorem ofQ_terms {a b : Int} (hb : 1 ≤ b) : (ofQ a b).num = qN a b ∧ ((ofQ a b).den : Int) = qD a b := by
  have e : Int.gcd b a = Nat.gcd a.natAbs b.natAbs := by rw [Int.gcd_comm]; rfl
  unfold ofQ
  rw [Rat.num_divInt, Rat.den_divInt, if_neg (by omega), e, Int.sign_eq_one_of_pos (by omega), Int.one_mul]
  refine ⟨rfl, ?_⟩
  unfold qD gI
  rw [Int.natCast_ediv]
  congr 1
  omega
theorem q_gcd {a b : Int} (hb : 1 ≤ b) : Nat.gcd (qN a b).natAbs (qD a b).natAbs = 1 := by
  obtain ⟨h1, h2⟩ := ofQ_terms (a := a) hb
  have h := (ofQ a b).reduced
  rw [← h1, ← h2]
  simpa [Nat.Coprime] using h
theorem q_val {a b : Int} (ha : 0 ≤ a) (hb : 1 ≤ b) (ha2 : a ≤ 4611686018427387904) (hb2 : b ≤ 4611686018427387904) : valP (qN a b) (qD a b) := by
  obtain ⟨h1, h2, h3, h4⟩ := q_bd ha hb
  exact ⟨by omega, by omega, h3, by omega, q_gcd hb⟩
theorem of_quo {a b : Int} (ha : 0 ≤ a) (hb : 1 ≤ b) (ha2 : a ≤ 4611686018427387904) (hb2 : b ≤ 4611686018427387904) : ofN a b = qN a b ∧ ofD a b = qD a b ∧ ofE a b = 0 := by
  obtain ⟨h1, h2⟩ := ofQ_terms (a := a) hb
  obtain ⟨b1, b2, b3, b4⟩ := q_bd ha hb
  have hf : fitP (ofQ a b) := by
    unfold fitP
    rw [h1, h2]
    omega
  obtain ⟨x, y, z⟩ := r_fit hf
  unfold ofN ofD ofE
  rw [if_neg (by omega), if_neg (by omega), if_neg (by omega), x, y, z, h1, h2]
  exact ⟨rfl, rfl, rfl⟩
theorem q_one (a : Int) : qN a 1 = a ∧ qD a 1 = 1 := by
  have e : gI a 1 = 1 := by unfold gI; simp
  unfold qN qD
  rw [e]
  exact ⟨Int.ediv_one a, by decide⟩

/-! The foot of p in the segment of a and b: the part's terms, and those of the square of the distance -/
def ftN (px py ax ay bx bz : Int) : Int :=
  if alongN ax ay bx bz px py ≤ 0 then 0 else if distN ax ay bx bz ≤ alongN ax ay bx bz px py then 1 else qN (alongN ax ay bx bz px py) (distN ax ay bx bz)
def ftD (px py ax ay bx bz : Int) : Int :=
  if alongN ax ay bx bz px py ≤ 0 then 1 else if distN ax ay bx bz ≤ alongN ax ay bx bz px py then 1 else qD (alongN ax ay bx bz px py) (distN ax ay bx bz)
def ftM (px py ax ay bx bz : Int) : Int :=
  if alongN ax ay bx bz px py ≤ 0 then distN px py ax ay else if distN ax ay bx bz ≤ alongN ax ay bx bz px py then distN px py bx bz else qN (areaN ax ay bx bz px py * areaN ax ay bx bz px py) (distN ax ay bx bz)
def ftE (px py ax ay bx bz : Int) : Int :=
  if alongN ax ay bx bz px py ≤ 0 then 1 else if distN ax ay bx bz ≤ alongN ax ay bx bz px py then 1 else qD (areaN ax ay bx bz px py * areaN ax ay bx bz px py) (distN ax ay bx bz)
end Go.Proofs.Ytohkmkkcblbemaa.Ge
