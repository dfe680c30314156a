/- Plain: sums and products of fractions as the reference of layer 5 reckons them. -/
import Derived.Test.YtflnhjfmlminoaaDoorFrcR11
namespace Go.Proofs.YtflnhjfmlminoaaDoor.Fr

theorem sgn_of (x : Int) : x = sgn (decide (x < 0)) x.natAbs := by
  unfold sgn
  by_cases h : x < 0
  · rw [decide_eq_true h]
    simp
    omega
  · rw [decide_eq_false h]
    simp
    omega
theorem sgn_zero (b : Bool) : sgn b 0 = 0 := by cases b <;> rfl
theorem sgn_mul (x y : Int) (hy : 0 < y) : x * y = sgn (decide (x < 0)) (x.natAbs * y.natAbs) := by
  rw [← Int.natAbs_mul]
  have e := sgn_of (x * y)
  by_cases h : x < 0
  · have h2 : x * y < 0 := Int.mul_neg_of_neg_of_pos h hy
    rw [decide_eq_true h2] at e
    rw [decide_eq_true h]
    exact e
  · have h2 : ¬ x * y < 0 := by
      have := Int.mul_nonneg (Int.not_lt.1 h) (Int.le_of_lt hy)
      omega
    rw [decide_eq_false h2] at e
    rw [decide_eq_false h]
    exact e
/-- the three ways of the sum -/
theorem sgn_same (b : Bool) (p q : Nat) : sgn b p + sgn b q = sgn b (p + q) := by
  unfold sgn
  cases b <;> simp <;> omega
theorem sgn_less (b c : Bool) (p q : Nat) (hbc : b ≠ c) (h : p < q) : sgn b p + sgn c q = sgn c (q - p) := by
  unfold sgn
  cases b <;> cases c <;> simp at hbc ⊢ <;> omega
theorem sgn_more (b c : Bool) (p q : Nat) (hbc : b ≠ c) (h : ¬ p < q) : sgn b p + sgn c q = sgn b (p - q) := by
  unfold sgn
  cases b <;> cases c <;> simp at hbc ⊢ <;> omega
theorem sgn_prod (b c : Bool) (p q : Nat) : sgn b p * sgn c q = sgn (b != c) (p * q) := by
  unfold sgn
  cases b <;> cases c <;> simp [Int.mul_neg, Int.neg_mul]
theorem rat_abs {n d : Int} (h : valP n d) : (rat n d).num = n ∧ (rat n d).den = d.natAbs := by
  refine ⟨rat_num h, ?_⟩
  have := rat_den h
  omega
theorem add_sgn {n d m e : Int} (h : valP n d) (k : valP m e) : addQ n d m e = mkRat (sgn (decide (n < 0)) (n.natAbs * e.natAbs) + sgn (decide (m < 0)) (m.natAbs * d.natAbs)) (d.natAbs * e.natAbs) := by
  obtain ⟨a1, a2⟩ := rat_abs h
  obtain ⟨b1, b2⟩ := rat_abs k
  have he : (0 : Int) < e := by have := k.2.2.1; omega
  have hd : (0 : Int) < d := by have := h.2.2.1; omega
  unfold addQ
  rw [Rat.add_def', a1, a2, b1, b2, ← sgn_mul n e he, ← sgn_mul m d hd]
  congr 2
  · rw [show ((e.natAbs : Nat) : Int) = e by omega]
  · rw [show ((d.natAbs : Nat) : Int) = d by omega]
theorem mul_sgn {n d m e : Int} (h : valP n d) (k : valP m e) : mulQ n d m e = mkRat (sgn (decide (n < 0) != decide (m < 0)) (n.natAbs * m.natAbs)) (d.natAbs * e.natAbs) := by
  obtain ⟨a1, a2⟩ := rat_abs h
  obtain ⟨b1, b2⟩ := rat_abs k
  unfold mulQ
  rw [Rat.mul_def', a1, a2, b1, b2, ← sgn_prod, ← sgn_of, ← sgn_of]
/-- the order by signs and amounts -/
def ordS (b c : Bool) (P Q : Nat) : Int := if b != c then (if b then -1 else 1) else (if (if b then decide (Q < P) else decide (P < Q)) then -1 else if (if b then decide (P < Q) else decide (Q < P)) then 1 else 0)
theorem cmp_sgn {n d m e : Int} (h : valP n d) (k : valP m e) : cmpV n d m e = ordS (decide (n < 0)) (decide (m < 0)) (n.natAbs * e.natAbs) (m.natAbs * d.natAbs) := by
  have he : (0 : Int) < e := by have := k.2.2.1; omega
  have hd : (0 : Int) < d := by have := h.2.2.1; omega
  have e1 := sgn_mul n e he
  have e2 := sgn_mul m d hd
  have z1 : decide (n < 0) = true → 0 < n.natAbs * e.natAbs := fun t => Nat.mul_pos (by have := of_decide_eq_true t; omega) (by omega)
  have z2 : decide (m < 0) = true → 0 < m.natAbs * d.natAbs := fun t => Nat.mul_pos (by have := of_decide_eq_true t; omega) (by omega)
  unfold cmpV ordS
  rw [if_pos ⟨h, k⟩]
  generalize n * e = X at *
  generalize m * d = Y at *
  generalize n.natAbs * e.natAbs = P at *
  generalize m.natAbs * d.natAbs = Q at *
  generalize decide (n < 0) = b at *
  generalize decide (m < 0) = c at *
  subst e1
  subst e2
  unfold sgn
  cases b <;> cases c <;> simp at z1 z2 ⊢
  all_goals (repeat' split) <;> omega
end Go.Proofs.YtflnhjfmlminoaaDoor.Fr
