/- Plain mathematics of layer 5: what the program computes is the number in lowest terms. -/
import Derived.Test.YtohkmkkcblbemaaFrcMath
namespace Go.Proofs.Ytohkmkkcblbemaa.Fr

theorem den_nat {n d : Int} (h : valP n d) : (rat n d).den = d.natAbs := by
  have := rat_den h
  omega
theorem mul_int {n d m e : Int} (h : valP n d) (k : valP m e) :
    (mulQ n d m e).num = n / ((Nat.gcd n.natAbs e.natAbs : Nat) : Int) * (m / ((Nat.gcd m.natAbs d.natAbs : Nat) : Int)) ∧
    ((mulQ n d m e).den : Int) = e / ((Nat.gcd n.natAbs e.natAbs : Nat) : Int) * (d / ((Nat.gcd m.natAbs d.natAbs : Nat) : Int)) := by
  obtain ⟨a, b⟩ := mul_form (rat n d) (rat m e)
  rw [rat_num h, rat_num k, den_nat h, den_nat k] at a b
  refine ⟨a, ?_⟩
  unfold mulQ
  rw [b]
  have e1 : (d.natAbs : Int) = d := by have := h.2.2.1; omega
  have e2 : (e.natAbs : Int) = e := by have := k.2.2.1; omega
  rw [Int.natCast_mul, Int.natCast_ediv, Int.natCast_ediv, e1, e2, Int.mul_comm]

/-- the upper term of a sum, before it is divided -/
def sumS (n d m e : Int) : Int := n * (e / ((Nat.gcd d.natAbs e.natAbs : Nat) : Int)) + m * (d / ((Nat.gcd d.natAbs e.natAbs : Nat) : Int))
theorem gcd_rest (S : Int) (c : Nat) (_hc : 0 < c) : Nat.gcd (S % (c : Int)).natAbs c = Nat.gcd S.natAbs c := by
  have h := Int.gcd_add_mul_left_left (c : Int) (S % (c : Int)) (S / (c : Int))
  rw [Int.emod_add_mul_ediv] at h
  have e1 : Int.gcd S (c : Int) = Nat.gcd S.natAbs c := rfl
  have e2 : Int.gcd (S % (c : Int)) (c : Int) = Nat.gcd (S % (c : Int)).natAbs c := rfl
  rw [← e1, ← e2, h]
theorem add_int {n d m e : Int} (h : valP n d) (k : valP m e) :
    (addQ n d m e).num = sumS n d m e / ((Nat.gcd (sumS n d m e).natAbs (Nat.gcd d.natAbs e.natAbs) : Nat) : Int) ∧
    ((addQ n d m e).den : Int) = d / ((Nat.gcd d.natAbs e.natAbs : Nat) : Int) * (e / ((Nat.gcd (sumS n d m e).natAbs (Nat.gcd d.natAbs e.natAbs) : Nat) : Int)) := by
  obtain ⟨a, b⟩ := add_form (rat n d) (rat m e)
  rw [rat_num h, rat_num k, den_nat h, den_nat k] at a b
  have e1 : (d.natAbs : Int) = d := by have := h.2.2.1; omega
  have e2 : (e.natAbs : Int) = e := by have := k.2.2.1; omega
  have eS : n * ((e.natAbs / Nat.gcd d.natAbs e.natAbs : Nat) : Int) + m * ((d.natAbs / Nat.gcd d.natAbs e.natAbs : Nat) : Int) = sumS n d m e := by
    unfold sumS
    rw [Int.natCast_ediv, Int.natCast_ediv, e1, e2]
  rw [eS] at a b
  refine ⟨a, ?_⟩
  unfold addQ
  rw [b, Int.natCast_mul, Int.natCast_ediv, Int.natCast_ediv, e1, e2]

theorem of_int (a b x y s : Int) (g : Nat) (hb : b ≠ 0) (hg : Nat.gcd a.natAbs b.natAbs = g) (σ : Int) (hσ : σ = 1 ∨ σ = -1) (hx : x = σ * (a / (g : Int))) (hy : y = σ * (b / (g : Int)))
    (hs : s = if y < 0 then -1 else 1) : (ofQ a b).num = x * s ∧ ((ofQ a b).den : Int) = y * s := by
  have hgp : 0 < g := by rw [← hg]; exact Nat.gcd_pos_of_pos_right _ (by omega)
  have hga : (g : Int) ∣ a := by rw [← hg]; exact Int.ofNat_dvd_left.2 (Nat.gcd_dvd_left ..)
  have hgb : (g : Int) ∣ b := by rw [← hg]; exact Int.ofNat_dvd_left.2 (Nat.gcd_dvd_right ..)
  obtain ⟨A, rfl⟩ := hga
  obtain ⟨B, rfl⟩ := hgb
  have hg0 : (g : Int) ≠ 0 := by omega
  rw [Int.mul_ediv_cancel_left _ hg0] at hx hy
  have hgc : Int.gcd ((g : Int) * B) ((g : Int) * A) = g := by rw [Int.gcd_comm]; exact hg
  have hB0 : B ≠ 0 := by rintro rfl; simp at hb
  unfold ofQ
  rw [Rat.num_divInt, Rat.den_divInt, if_neg hb, hgc]
  have hsg : ((g : Int) * B).sign = B.sign := by
    rw [Int.sign_mul, Int.sign_eq_one_of_pos (by omega), Int.one_mul]
  have e1 : B.sign * ((g : Int) * A) / (g : Int) = B.sign * A := by
    rw [Int.mul_left_comm, Int.mul_ediv_cancel_left _ hg0]
  have e2 : ((((g : Int) * B).natAbs / g : Nat) : Int) = (B.natAbs : Int) := by
    rw [Int.natAbs_mul, Int.natAbs_natCast, Nat.mul_div_cancel_left _ hgp]
  rw [hsg, e1, e2]
  rcases Int.lt_or_gt_of_ne hB0 with hB | hB
  · rw [Int.sign_eq_neg_one_of_neg hB]
    rcases hσ with rfl | rfl
    · rw [if_pos (by omega)] at hs
      subst hx hy hs
      constructor <;> omega
    · rw [if_neg (by omega)] at hs
      subst hx hy hs
      constructor <;> omega
  · rw [Int.sign_eq_one_of_pos hB]
    rcases hσ with rfl | rfl
    · rw [if_neg (by omega)] at hs
      subst hx hy hs
      constructor <;> omega
    · rw [if_pos (by omega)] at hs
      subst hx hy hs
      constructor <;> omega
end Go.Proofs.Ytohkmkkcblbemaa.Fr
