/- Plain mathematics of layer 5's laws: results. -/
import Derived.Test.YtflnhjfmlminoaaDoorFrcLaw
namespace Go.Proofs.YtflnhjfmlminoaaDoor.Fr

/-- are the terms small? -/
def smB (n d : Int) : Bool := decide (-1000000000 ≤ n ∧ n ≤ 1000000000 ∧ d ≤ 1000000000)
theorem smB_iff {n d : Int} : smB n d = true ↔ -1000000000 ≤ n ∧ n ≤ 1000000000 ∧ d ≤ 1000000000 := by unfold smB; exact decide_eq_true_iff

theorem mul_abs {a b : Int} {A B : Nat} (h : a.natAbs ≤ A) (k : b.natAbs ≤ B) : (a * b).natAbs ≤ A * B := by
  rw [Int.natAbs_mul]
  exact Nat.mul_le_mul h k
theorem small_fit {n d m e : Int} (h : valP n d) (k : valP m e) (s : smB n d = true) (t : smB m e = true) : addE n d m e = 0 ∧ mulE n d m e = 0 := by
  obtain ⟨s1, s2, s3⟩ := smB_iff.1 s
  obtain ⟨t1, t2, t3⟩ := smB_iff.1 t
  have hd := h.2.2.1
  have he := k.2.2.1
  have b1 : (n * e).natAbs ≤ 1000000000 * 1000000000 := mul_abs (by omega) (by omega)
  have b2 : (m * d).natAbs ≤ 1000000000 * 1000000000 := mul_abs (by omega) (by omega)
  have b3 : (d * e).natAbs ≤ 1000000000 * 1000000000 := mul_abs (by omega) (by omega)
  have b4 : (n * m).natAbs ≤ 1000000000 * 1000000000 := mul_abs (by omega) (by omega)
  have bd : (rat n d).den * (rat m e).den = (d * e).natAbs := by rw [den_nat h, den_nat k, Int.natAbs_mul]
  have hq (x : Int) (D : Nat) (hx : x.natAbs ≤ 2000000000000000000) (hD : D ≤ 1000000000000000000) (g : Nat) (q : Rat) (h1 : q.num = x / (g : Int)) (h2 : q.den = D / g) : fitP q := by
    have := Int.natAbs_ediv_le_natAbs x (g : Int)
    have := Nat.div_le_self D g
    refine ⟨by omega, by omega, by omega⟩
  constructor
  · rcases add_terms h k with ⟨-, x, -, -⟩ | ⟨x, -, -, -⟩
    · exact x
    · refine absurd (hq _ _ ?_ ?_ _ (addQ n d m e) (Rat.num_add _ _) (Rat.den_add _ _)) x
      · rw [rat_num h, rat_num k, rat_den h, rat_den k]
        omega
      · rw [bd]
        omega
  · rcases mul_terms h k with ⟨-, x, -, -⟩ | ⟨x, -, -, -⟩
    · exact x
    · refine absurd (hq _ _ ?_ ?_ _ (mulQ n d m e) (Rat.num_mul _ _) (Rat.den_mul _ _)) x
      · rw [rat_num h, rat_num k]
        omega
      · rw [bd]
        omega
theorem of_back {a b : Int} (hb : b ≠ 0) (h1 : ofE a b = 0) (h2 : ofE a 1 = 0) (h3 : ofE b 1 = 0) :
    mulE (ofN a b) (ofD a b) (ofN b 1) (ofD b 1) = 0 ∧ mulN (ofN a b) (ofD a b) (ofN b 1) (ofD b 1) = ofN a 1 ∧ mulD (ofN a b) (ofD a b) (ofN b 1) (ofD b 1) = ofD a 1 := by
  rcases of_terms (a := a) hb with ⟨-, -, v1, r1⟩ | ⟨-, x, -, -⟩
  · rcases of_terms (a := b) (b := 1) (by decide) with ⟨-, -, v2, r2⟩ | ⟨-, x, -, -⟩
    · rcases of_terms (a := a) (b := 1) (by decide) with ⟨f3, -, -, -⟩ | ⟨-, x, -, -⟩
      · have hq : mulQ (ofN a b) (ofD a b) (ofN b 1) (ofD b 1) = ofQ a 1 := by
          unfold mulQ
          rw [r1, r2]
          unfold ofQ
          rw [Rat.divInt_mul_divInt, Int.mul_comm b 1, Rat.divInt_mul_right hb]
        unfold mulN mulD mulE
        rw [if_pos (show valP (ofN a b) (ofD a b) ∧ valP (ofN b 1) (ofD b 1) from ⟨v1, v2⟩), if_pos (show valP (ofN a b) (ofD a b) ∧ valP (ofN b 1) (ofD b 1) from ⟨v1, v2⟩), if_pos (show valP (ofN a b) (ofD a b) ∧ valP (ofN b 1) (ofD b 1) from ⟨v1, v2⟩), hq]
        unfold ofN ofD
        rw [if_neg (by decide), if_neg (by decide)]
        exact ⟨(r_fit f3).2.2, rfl, rfl⟩
      · rw [h2] at x
        omega
    · rw [h3] at x
      omega
  · rw [h1] at x
    omega
theorem of_zero (a b : Int) : (ofE a b = 14 ∧ b = 0) ∨ ((ofE a b == 14) = false ∧ (b == 0) = false) := by
  by_cases hb : b = 0
  · left
    unfold ofE
    rw [if_pos hb]
    exact ⟨rfl, hb⟩
  · right
    refine ⟨?_, by simpa using hb⟩
    rcases of_terms (a := a) hb with ⟨-, x, -, -⟩ | ⟨-, x, -, -⟩ <;> rw [x] <;> decide
theorem of_way (a b : Int) : (ofE a b = 0 ∧ valP (ofN a b) (ofD a b)) ∨ (ofE a b == 0) = false := by
  by_cases hb : b = 0
  · right
    unfold ofE
    rw [if_pos hb]
    decide
  · rcases of_terms (a := a) hb with ⟨-, x, v, -⟩ | ⟨-, x, -, -⟩
    · exact .inl ⟨x, v⟩
    · right
      rw [x]
      decide
theorem add_way (n d m e : Int) : (addE n d m e = 0 ∧ valP (addN n d m e) (addD n d m e)) ∨ (addE n d m e == 0) = false := by
  by_cases h : valP n d ∧ valP m e
  · rcases add_terms h.1 h.2 with ⟨-, x, v, -⟩ | ⟨-, x, -, -⟩
    · exact .inl ⟨x, v⟩
    · right
      rw [x]
      decide
  · right
    unfold addE
    rw [if_neg h]
    decide
theorem mul_way (n d m e : Int) : (mulE n d m e = 0 ∧ valP (mulN n d m e) (mulD n d m e)) ∨ (mulE n d m e == 0) = false := by
  by_cases h : valP n d ∧ valP m e
  · rcases mul_terms h.1 h.2 with ⟨-, x, v, -⟩ | ⟨-, x, -, -⟩
    · exact .inl ⟨x, v⟩
    · right
      rw [x]
      decide
  · right
    unfold mulE
    rw [if_neg h]
    decide
theorem par_way (s : List UInt8) : ((parV s).2.2 = 0 ∧ valP (parV s).1 (parV s).2.1) ∨ ((parV s).2.2 == 0) = false := by
  rcases par_cases s with ⟨a, b, h1, -, h3⟩ | ⟨h3, -⟩
  · rw [h3]
    exact .inl ⟨rfl, h1⟩
  · rw [h3]
    right
    decide
theorem small_way {n d m e : Int} (h : valP n d) (k : valP m e) : (smB n d = true ∧ smB m e = true ∧ addE n d m e = 0 ∧ mulE n d m e = 0) ∨ smB n d = false ∨ (smB n d = true ∧ smB m e = false) := by
  cases s : smB n d
  · exact .inr (.inl rfl)
  · cases t : smB m e
    · exact .inr (.inr ⟨rfl, rfl⟩)
    · obtain ⟨x, y⟩ := small_fit h k s t
      exact .inl ⟨rfl, rfl, x, y⟩
end Go.Proofs.YtflnhjfmlminoaaDoor.Fr
