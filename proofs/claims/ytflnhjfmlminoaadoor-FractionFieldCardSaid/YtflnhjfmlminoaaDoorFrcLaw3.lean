/- Plain mathematics of layer 5's laws: the field. -/
import Derived.Test.YtflnhjfmlminoaaDoorFrcLaw
namespace Go.Proofs.YtflnhjfmlminoaaDoor.Fr

theorem add_of {n d m e n' d' m' e' : Int} (h : valP n d ∧ valP m e) (k : valP n' d' ∧ valP m' e') (hq : addQ n d m e = addQ n' d' m' e') :
    addN n d m e = addN n' d' m' e' ∧ addD n d m e = addD n' d' m' e' ∧ addE n d m e = addE n' d' m' e' := by
  unfold addN addD addE
  rw [if_pos h, if_pos h, if_pos h, if_pos k, if_pos k, if_pos k, hq]
  exact ⟨rfl, rfl, rfl⟩
theorem mul_of {n d m e n' d' m' e' : Int} (h : valP n d ∧ valP m e) (k : valP n' d' ∧ valP m' e') (hq : mulQ n d m e = mulQ n' d' m' e') :
    mulN n d m e = mulN n' d' m' e' ∧ mulD n d m e = mulD n' d' m' e' ∧ mulE n d m e = mulE n' d' m' e' := by
  unfold mulN mulD mulE
  rw [if_pos h, if_pos h, if_pos h, if_pos k, if_pos k, if_pos k, hq]
  exact ⟨rfl, rfl, rfl⟩
theorem addmul_of {n d m e n' d' m' e' : Int} (h : valP n d ∧ valP m e) (k : valP n' d' ∧ valP m' e') (hq : addQ n d m e = mulQ n' d' m' e') :
    addN n d m e = mulN n' d' m' e' ∧ addD n d m e = mulD n' d' m' e' ∧ addE n d m e = mulE n' d' m' e' := by
  unfold addN addD addE mulN mulD mulE
  rw [if_pos h, if_pos h, if_pos h, if_pos k, if_pos k, if_pos k, hq]
  exact ⟨rfl, rfl, rfl⟩
theorem add_swap {n d m e : Int} (h : valP n d) (k : valP m e) : addN m e n d = addN n d m e ∧ addD m e n d = addD n d m e ∧ addE m e n d = addE n d m e :=
  add_of ⟨k, h⟩ ⟨h, k⟩ (Rat.add_comm _ _)
theorem mul_swap {n d m e : Int} (h : valP n d) (k : valP m e) : mulN m e n d = mulN n d m e ∧ mulD m e n d = mulD n d m e ∧ mulE m e n d = mulE n d m e :=
  mul_of ⟨k, h⟩ ⟨h, k⟩ (Rat.mul_comm _ _)
theorem val_neg {n d : Int} (h : valP n d) : valP (-n) d :=
  ⟨by have := h.2.1; omega, by have := h.1; omega, h.2.2.1, h.2.2.2.1, by rw [Int.natAbs_neg]; exact h.2.2.2.2⟩
theorem rat_neg (n d : Int) : rat (-n) d = -rat n d := by
  unfold rat
  rw [Rat.neg_mkRat]
theorem add_neg {n d : Int} (h : valP n d) : addN n d (-n) d = 0 ∧ addD n d (-n) d = 1 ∧ addE n d (-n) d = 0 := by
  have hq : addQ n d (-n) d = 0 := by
    unfold addQ
    rw [rat_neg, Rat.add_neg_cancel]
  have hf : fitP (0 : Rat) := by decide
  unfold addN addD addE
  rw [if_pos (show valP n d ∧ valP (-n) d from ⟨h, val_neg h⟩), if_pos (show valP n d ∧ valP (-n) d from ⟨h, val_neg h⟩), if_pos (show valP n d ∧ valP (-n) d from ⟨h, val_neg h⟩), hq, (r_fit hf).1, (r_fit hf).2.1, (r_fit hf).2.2]
  exact ⟨rfl, rfl, rfl⟩
theorem val_one : valP 1 1 := by decide
theorem rat_one : rat 1 1 = 1 := by decide +kernel
theorem mul_one' {n d : Int} (h : valP n d) : mulN n d 1 1 = n ∧ mulD n d 1 1 = d ∧ mulE n d 1 1 = 0 := by
  have hq : mulQ n d 1 1 = rat n d := by
    unfold mulQ
    rw [rat_one, Rat.mul_one]
  have hf := fit_of_val h
  unfold mulN mulD mulE
  rw [if_pos (show valP n d ∧ valP 1 1 from ⟨h, val_one⟩), if_pos (show valP n d ∧ valP 1 1 from ⟨h, val_one⟩), if_pos (show valP n d ∧ valP 1 1 from ⟨h, val_one⟩), hq, (r_fit hf).1, (r_fit hf).2.1, (r_fit hf).2.2]
  exact ⟨rat_num h, rat_den h, rfl⟩
theorem add_ok {n d m e : Int} (h : valP n d) (k : valP m e) (z : addE n d m e = 0) : valP (addN n d m e) (addD n d m e) ∧ rat (addN n d m e) (addD n d m e) = rat n d + rat m e := by
  rcases add_terms h k with ⟨-, -, v, r⟩ | ⟨-, x, -, -⟩
  · exact ⟨v, r⟩
  · rw [z] at x
    omega
theorem mul_ok {n d m e : Int} (h : valP n d) (k : valP m e) (z : mulE n d m e = 0) : valP (mulN n d m e) (mulD n d m e) ∧ rat (mulN n d m e) (mulD n d m e) = rat n d * rat m e := by
  rcases mul_terms h k with ⟨-, -, v, r⟩ | ⟨-, x, -, -⟩
  · exact ⟨v, r⟩
  · rw [z] at x
    omega
section
variable {n d m e p q : Int} (hf : valP n d) (hg : valP m e) (hh : valP p q)
include hf hg hh
theorem assoc_add (z1 : addE n d m e = 0) (z2 : addE m e p q = 0) :
    addN n d (addN m e p q) (addD m e p q) = addN (addN n d m e) (addD n d m e) p q ∧ addD n d (addN m e p q) (addD m e p q) = addD (addN n d m e) (addD n d m e) p q ∧ addE n d (addN m e p q) (addD m e p q) = addE (addN n d m e) (addD n d m e) p q := by
  obtain ⟨v1, r1⟩ := add_ok hf hg z1
  obtain ⟨v2, r2⟩ := add_ok hg hh z2
  refine add_of ⟨hf, v2⟩ ⟨v1, hh⟩ ?_
  unfold addQ
  rw [r1, r2, Rat.add_assoc]
theorem assoc_mul (z1 : mulE n d m e = 0) (z2 : mulE m e p q = 0) :
    mulN n d (mulN m e p q) (mulD m e p q) = mulN (mulN n d m e) (mulD n d m e) p q ∧ mulD n d (mulN m e p q) (mulD m e p q) = mulD (mulN n d m e) (mulD n d m e) p q ∧ mulE n d (mulN m e p q) (mulD m e p q) = mulE (mulN n d m e) (mulD n d m e) p q := by
  obtain ⟨v1, r1⟩ := mul_ok hf hg z1
  obtain ⟨v2, r2⟩ := mul_ok hg hh z2
  refine mul_of ⟨hf, v2⟩ ⟨v1, hh⟩ ?_
  unfold mulQ
  rw [r1, r2, Rat.mul_assoc]
theorem distrib (z1 : addE m e p q = 0) (z2 : mulE n d m e = 0) (z3 : mulE n d p q = 0) :
    addN (mulN n d m e) (mulD n d m e) (mulN n d p q) (mulD n d p q) = mulN n d (addN m e p q) (addD m e p q) ∧ addD (mulN n d m e) (mulD n d m e) (mulN n d p q) (mulD n d p q) = mulD n d (addN m e p q) (addD m e p q) ∧
      addE (mulN n d m e) (mulD n d m e) (mulN n d p q) (mulD n d p q) = mulE n d (addN m e p q) (addD m e p q) := by
  obtain ⟨v1, r1⟩ := add_ok hg hh z1
  obtain ⟨v2, r2⟩ := mul_ok hf hg z2
  obtain ⟨v3, r3⟩ := mul_ok hf hh z3
  refine addmul_of ⟨v2, v3⟩ ⟨hf, v1⟩ ?_
  unfold addQ mulQ
  rw [r1, r2, r3, Rat.mul_add]
end
end Go.Proofs.YtflnhjfmlminoaaDoor.Fr
