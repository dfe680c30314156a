/- Layer 5's reference: its lowest terms are those of Lean's rational numbers; Valid. -/
import Derived.Test.YtflnhjfmlminoaaDoorFrcR10
import Derived.Test.YtflnhjfmlminoaaDoorFrcMath
namespace Go.Proofs.YtflnhjfmlminoaaDoor.Fr
set_option linter.unusedVariables false
set_option linter.unusedSimpArgs false
open Go.RowKit

def sgn (neg : Bool) (p : Nat) : Int := if neg then -(p : Int) else (p : Int)
theorem sgn_abs (neg : Bool) (p : Nat) : (sgn neg p).natAbs = p := by
  unfold sgn
  cases neg <;> simp
theorem low_num (neg : Bool) (p d : Nat) (hd : 0 < d) : (mkRat (sgn neg p) d).num = sgn neg (p / Nat.gcd p d) ∧ (mkRat (sgn neg p) d).den = d / Nat.gcd p d := by
  have hne : d ≠ 0 := by omega
  have hg : Nat.gcd d (sgn neg p).natAbs = Nat.gcd p d := by rw [sgn_abs, Nat.gcd_comm]
  have hdv : ((Nat.gcd p d : Nat) : Int) ∣ (p : Int) := Int.natCast_dvd_natCast.2 (Nat.gcd_dvd_left p d)
  constructor
  · rw [Rat.num_mkRat, if_neg hne, hg]
    unfold sgn
    cases neg
    · rfl
    · show -(p : Int) / ((Nat.gcd p d : Nat) : Int) = -((p / Nat.gcd p d : Nat) : Int)
      rw [Int.neg_ediv_of_dvd hdv]
      rfl
  · rw [Rat.den_mkRat, if_neg hne, hg]
theorem low_rat (neg : Bool) (p d : Nat) (hd : 0 < d) (q : Rat) (hq : q = mkRat (sgn neg p) d) : lowN neg p d = rN q ∧ lowD p d = rD q ∧ lowE p d = rE q := by
  obtain ⟨hn, hdn⟩ := low_num neg p d hd
  rw [← hq] at hn hdn
  have hiff : fitP q ↔ lowOk p d := by
    unfold fitP lowOk
    rw [hn, hdn]
    unfold sgn
    generalize p / Nat.gcd p d = P
    generalize d / Nat.gcd p d = D
    cases neg
    · simp only [Bool.false_eq_true, if_false]
      constructor
      · rintro ⟨a, b, c⟩
        omega
      · rintro ⟨a, b⟩
        omega
    · simp only [if_true]
      constructor
      · rintro ⟨a, b, c⟩
        omega
      · rintro ⟨a, b⟩
        omega
  unfold lowN lowD lowE rN rD rE
  by_cases h : lowOk p d
  · rw [if_pos h, if_pos h, if_pos h, if_pos (hiff.2 h), if_pos (hiff.2 h), if_pos (hiff.2 h), hn, hdn]
    exact ⟨rfl, rfl, rfl⟩
  · have h' : ¬ fitP q := fun k => h (hiff.1 k)
    rw [if_neg h, if_neg h, if_neg h, if_neg h', if_neg h', if_neg h']
    exact ⟨rfl, rfl, rfl⟩
theorem divInt_sgn (n d : Int) (hd : d ≠ 0) : Rat.divInt n d = mkRat (sgn (decide (n < 0) != decide (d < 0)) n.natAbs) d.natAbs := by
  rcases Int.lt_or_lt_of_ne hd with h | h
  · have e1 : decide (d < 0) = true := decide_eq_true h
    have e2 : Rat.divInt n d = Rat.divInt (-n) (-d) := (Rat.neg_divInt_neg n d).symm
    obtain ⟨k, hk⟩ : ∃ k : Nat, -d = (k : Int) := ⟨(-d).toNat, by omega⟩
    have e3 : d.natAbs = k := by omega
    rw [e2, hk, e3, e1, Rat.divInt_ofNat]
    congr 1
    unfold sgn
    by_cases hn : n < 0
    · rw [decide_eq_true hn]
      simp
      omega
    · rw [decide_eq_false hn]
      simp
      omega
  · have e1 : decide (d < 0) = false := decide_eq_false (by omega)
    obtain ⟨k, hk⟩ : ∃ k : Nat, d = (k : Int) := ⟨d.toNat, by omega⟩
    have e3 : d.natAbs = k := by omega
    rw [e1, e3]
    subst hk
    rw [Rat.divInt_ofNat]
    congr 1
    unfold sgn
    by_cases hn : n < 0
    · rw [decide_eq_true hn]
      simp
      omega
    · rw [decide_eq_false hn]
      simp
      omega
end Go.Proofs.YtflnhjfmlminoaaDoor.Fr
