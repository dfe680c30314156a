/- Plain mathematics of GeomFeet. -/
import Derived.Test.YtcpcmlonbpccnaaBdA11
import Derived.Test.YtcpcmlonbpccnaaBdA12
namespace Go.Proofs.Ytcpcmlonbpccnaa.Ge
set_option linter.unusedVariables false
set_option linter.unusedSimpArgs false
open Go.Proofs.Ytcpcmlonbpccnaa.Fr (valP cmpV cmpE addN addD addE addQ rat ofQ fitP rat_self add_terms rat_inj fit_of_val r_fit)

theorem along_rev (ax ay bx bz px py : Int) : alongN bx bz ax ay px py = distN ax ay bx bz - alongN ax ay bx bz px py := by unfold distN alongN; grind
theorem area_rev_sq (ax ay bx bz px py : Int) : areaN bx bz ax ay px py * areaN bx bz ax ay px py = areaN ax ay bx bz px py * areaN ax ay bx bz px py := by rw [area_swap ax ay bx bz, neg_prod]
/-- how the foot lies -/
theorem ft_case (px py ax ay bx bz : Int) (hS : 0 ≤ distN ax ay bx bz) :
    (alongN ax ay bx bz px py ≤ 0 ∧ ftN px py ax ay bx bz = 0 ∧ ftD px py ax ay bx bz = 1 ∧ ftM px py ax ay bx bz = distN px py ax ay ∧ ftE px py ax ay bx bz = 1) ∨
    (0 < alongN ax ay bx bz px py ∧ distN ax ay bx bz ≤ alongN ax ay bx bz px py ∧ ftN px py ax ay bx bz = 1 ∧ ftD px py ax ay bx bz = 1 ∧ ftM px py ax ay bx bz = distN px py bx bz ∧ ftE px py ax ay bx bz = 1) ∨
    (0 < alongN ax ay bx bz px py ∧ alongN ax ay bx bz px py < distN ax ay bx bz ∧ ftN px py ax ay bx bz = qN (alongN ax ay bx bz px py) (distN ax ay bx bz) ∧ ftD px py ax ay bx bz = qD (alongN ax ay bx bz px py) (distN ax ay bx bz) ∧
      ftM px py ax ay bx bz = qN (areaN ax ay bx bz px py * areaN ax ay bx bz px py) (distN ax ay bx bz) ∧ ftE px py ax ay bx bz = qD (areaN ax ay bx bz px py * areaN ax ay bx bz px py) (distN ax ay bx bz)) := by
  unfold ftN ftD ftM ftE
  by_cases l1 : alongN ax ay bx bz px py ≤ 0
  · left
    simp only [if_pos l1]
    exact ⟨l1, trivial, trivial, trivial, trivial⟩
  · right
    simp only [if_neg l1]
    by_cases l2 : distN ax ay bx bz ≤ alongN ax ay bx bz px py
    · left
      simp only [if_pos l2]
      exact ⟨by omega, l2, trivial, trivial, trivial, trivial⟩
    · right
      simp only [if_neg l2]
      exact ⟨by omega, by omega, trivial, trivial, trivial, trivial⟩
/-- in the opposite direction the distance is the same -/
theorem ft_rev (px py ax ay bx bz : Int) : ftM px py bx bz ax ay = ftM px py ax ay bx bz ∧ ftE px py bx bz ax ay = ftE px py ax ay bx bz := by
  have hS := dist_nonneg ax ay bx bz
  have e1 := along_rev ax ay bx bz px py
  have e2 := dist_symm ax ay bx bz
  have e3 := area_rev_sq ax ay bx bz px py
  by_cases hab : ax = bx ∧ ay = bz
  · obtain ⟨rfl, rfl⟩ := hab
    exact ⟨rfl, rfl⟩
  · have hS0 : distN ax ay bx bz ≠ 0 := fun k => hab (dist_zero k)
    rcases ft_case px py ax ay bx bz hS with ⟨l, -, -, a, b⟩ | ⟨l, l2, -, -, a, b⟩ | ⟨l, l2, -, -, a, b⟩
    · rw [a, b]
      rcases ft_case px py bx bz ax ay (by omega) with ⟨k, -, -, c, d⟩ | ⟨k, k2, -, -, c, d⟩ | ⟨k, k2, -, -, c, d⟩
      · omega
      · rw [c, d]; exact ⟨rfl, rfl⟩
      · omega
    · rw [a, b]
      rcases ft_case px py bx bz ax ay (by omega) with ⟨k, -, -, c, d⟩ | ⟨k, k2, -, -, c, d⟩ | ⟨k, k2, -, -, c, d⟩
      · rw [c, d]; exact ⟨rfl, rfl⟩
      · omega
      · omega
    · rw [a, b]
      rcases ft_case px py bx bz ax ay (by omega) with ⟨k, -, -, c, d⟩ | ⟨k, k2, -, -, c, d⟩ | ⟨k, k2, -, -, c, d⟩
      · omega
      · omega
      · rw [c, d, e2, e3]; exact ⟨rfl, rfl⟩
/-- the five comparisons -/
theorem ft_cmps {px py ax ay bx bz : Int} (hp : onP px py) (ha : onP ax ay) (hb : onP bx bz) :
    (0 * ftD px py ax ay bx bz ≤ ftN px py ax ay bx bz * 1 ∧ ftN px py ax ay bx bz * 1 ≤ 1 * ftD px py ax ay bx bz) ∧
    0 * ftE px py ax ay bx bz ≤ ftM px py ax ay bx bz * 1 ∧ ftM px py ax ay bx bz * 1 ≤ distN px py ax ay * ftE px py ax ay bx bz ∧ ftM px py ax ay bx bz * 1 ≤ distN px py bx bz * ftE px py ax ay bx bz := by
  have h1 := ft_least (px := px) (py := py) (of_decide_eq_true (has_first ax ay bx bz) : hasP ax ay bx bz ax ay)
  have h2 := ft_least (px := px) (py := py) (of_decide_eq_true (has_last ax ay bx bz) : hasP ax ay bx bz bx bz)
  have hS := dist_nonneg ax ay bx bz
  refine ⟨?_, ?_, by omega, by omega⟩
  · rcases ft_case px py ax ay bx bz hS with ⟨-, a, b, -, -⟩ | ⟨-, -, a, b, -, -⟩ | ⟨l, l2, a, b, -, -⟩
    · rw [a, b]; omega
    · rw [a, b]; omega
    · rw [a, b]
      have q1 := q_bd (a := alongN ax ay bx bz px py) (b := distN ax ay bx bz) (by omega) (by omega)
      have q2 := q_cross (alongN ax ay bx bz px py) (distN ax ay bx bz)
      refine ⟨by omega, ?_⟩
      rw [Int.mul_one, Int.one_mul]
      refine le_of_scaled (show 0 < distN ax ay bx bz by omega) ?_
      rw [Int.mul_comm, q2, Int.mul_comm (distN ax ay bx bz)]
      exact Int.mul_le_mul_of_nonneg_left (by omega) (by omega)
  · have h3 := dist_nonneg px py ax ay
    have h4 := dist_nonneg px py bx bz
    rcases ft_case px py ax ay bx bz hS with ⟨-, -, -, a, b⟩ | ⟨-, -, -, -, a, b⟩ | ⟨l, l2, -, -, a, b⟩
    · rw [a, b]; omega
    · rw [a, b]; omega
    · rw [a, b]
      have q1 := q_bd (a := areaN ax ay bx bz px py * areaN ax ay bx bz px py) (b := distN ax ay bx bz) (sq_nonneg _) (by omega)
      omega
theorem qN_zero {a b : Int} (hb : 1 ≤ b) (h : qN a b = 0) : a = 0 := by
  have := qN_mul a b
  rw [h, Int.mul_zero] at this
  omega
theorem qN_pos {a b : Int} (ha : 1 ≤ a) (hb : 1 ≤ b) : 1 ≤ qN a b := by
  have h := (q_bd (a := a) (b := b) (by omega) hb).1
  have : qN a b ≠ 0 := fun k => by have := qN_zero hb k; omega
  omega
/-- the distance is none exactly if the point is on the segment -/
theorem ft_none {px py ax ay bx bz : Int} (hp : onP px py) (ha : onP ax ay) (hb : onP bx bz) :
    (betB px py ax ay bx bz = true ∧ ftM px py ax ay bx bz = 0 ∧ ftE px py ax ay bx bz = 1) ∨ (betB px py ax ay bx bz = false ∧ ftM px py ax ay bx bz ≠ 0) := by
  have hS := dist_nonneg ax ay bx bz
  have hv := (ft_val hp ha hb).2
  have hc := (ft_cmps hp ha hb).2.1
  rw [bet_on hp ha hb]
  cases hh : hasB ax ay bx bz px py with
  | true =>
    left
    have h1 := ft_least (px := px) (py := py) (of_decide_eq_true hh : hasP ax ay bx bz px py)
    rw [dist_self, Int.zero_mul] at h1
    have h0 : ftM px py ax ay bx bz = 0 := by omega
    refine ⟨rfl, h0, ?_⟩
    obtain ⟨-, -, d1, -, g⟩ := hv
    rw [h0] at g
    simp at g
    omega
  | false =>
    right
    refine ⟨rfl, fun h0 => ?_⟩
    have hn : ¬ hasP ax ay bx bz px py := of_decide_eq_false hh
    rcases ft_case px py ax ay bx bz hS with ⟨-, -, -, a, b⟩ | ⟨-, -, -, -, a, b⟩ | ⟨l, l2, -, -, a, b⟩
    · rw [a] at h0
      obtain ⟨rfl, rfl⟩ := dist_zero h0
      exact hn (of_decide_eq_true (has_first ..))
    · rw [a] at h0
      obtain ⟨rfl, rfl⟩ := dist_zero h0
      exact hn (of_decide_eq_true (has_last ..))
    · rw [a] at h0
      have h1 := qN_zero (by omega) h0
      have h2 := sq_zero h1
      refine hn ?_
      unfold hasP
      by_cases hab : ax = bx ∧ ay = bz
      · obtain ⟨rfl, rfl⟩ := hab
        rw [dist_self] at l2
        omega
      · rw [if_neg hab]
        exact ⟨h2, by omega, by omega⟩
theorem ft_same (px py ax ay : Int) : ftN px py ax ay ax ay = 0 ∧ ftD px py ax ay ax ay = 1 := by
  have e : alongN ax ay ax ay px py ≤ 0 := by
    have : alongN ax ay ax ay px py = 0 := by unfold alongN; grind
    omega
  unfold ftN ftD
  rw [if_pos e, if_pos e]
  exact ⟨rfl, rfl⟩
theorem rat_q {a b : Int} (hb : 1 ≤ b) : rat (qN a b) (qD a b) = ofQ a b := by
  obtain ⟨h1, h2⟩ := ofQ_terms (a := a) hb
  rw [← h1, ← h2]
  exact rat_self _
theorem ofQ_sum {a b c : Int} (hc : 1 ≤ c) (h : a + b = c) : ofQ a c + ofQ b c = 1 := by
  unfold ofQ
  rw [Rat.divInt_add_divInt _ _ (by omega) (by omega)]
  have e : a * c + b * c = c * c := by rw [← Int.add_mul, h]
  rw [e]
  have hcc : c * c ≠ 0 := by
    intro k
    have := sq_zero k
    omega
  exact Rat.divInt_self' hcc
/-- both parts add up to 1 -/
theorem ft_sum {px py ax ay bx bz : Int} (hp : onP px py) (ha : onP ax ay) (hb : onP bx bz) (hab : ¬ (ax = bx ∧ ay = bz)) :
    addN (ftN px py ax ay bx bz) (ftD px py ax ay bx bz) (ftN px py bx bz ax ay) (ftD px py bx bz ax ay) = 1 ∧
    addD (ftN px py ax ay bx bz) (ftD px py ax ay bx bz) (ftN px py bx bz ax ay) (ftD px py bx bz ax ay) = 1 ∧
    addE (ftN px py ax ay bx bz) (ftD px py ax ay bx bz) (ftN px py bx bz ax ay) (ftD px py bx bz ax ay) = 0 := by
  have hS := dist_nonneg ax ay bx bz
  have hS0 : distN ax ay bx bz ≠ 0 := fun k => hab (dist_zero k)
  have e1 := along_rev ax ay bx bz px py
  have e2 := dist_symm ax ay bx bz
  have v1 := (ft_val hp ha hb).1
  have v2 := (ft_val hp hb ha).1
  have key : rat (ftN px py ax ay bx bz) (ftD px py ax ay bx bz) + rat (ftN px py bx bz ax ay) (ftD px py bx bz ax ay) = 1 := by
    rcases ft_case px py ax ay bx bz hS with ⟨l, a, b, -, -⟩ | ⟨l, l2, a, b, -, -⟩ | ⟨l, l2, a, b, -, -⟩
    · rcases ft_case px py bx bz ax ay (by omega) with ⟨k, c, d, -, -⟩ | ⟨k, k2, c, d, -, -⟩ | ⟨k, k2, c, d, -, -⟩
      · omega
      · rw [a, b, c, d]; decide +kernel
      · omega
    · rcases ft_case px py bx bz ax ay (by omega) with ⟨k, c, d, -, -⟩ | ⟨k, k2, c, d, -, -⟩ | ⟨k, k2, c, d, -, -⟩
      · rw [a, b, c, d]; decide +kernel
      · omega
      · omega
    · rcases ft_case px py bx bz ax ay (by omega) with ⟨k, c, d, -, -⟩ | ⟨k, k2, c, d, -, -⟩ | ⟨k, k2, c, d, -, -⟩
      · omega
      · omega
      · rw [a, b, c, d, e2, rat_q (by omega), rat_q (by omega)]
        exact ofQ_sum (by omega) (by omega)
  have hv1 : valP 1 1 := val_one (by decide) (by decide)
  have one : rat 1 1 = 1 := by decide +kernel
  have hfit : fitP (addQ (ftN px py ax ay bx bz) (ftD px py ax ay bx bz) (ftN px py bx bz ax ay) (ftD px py bx bz ax ay)) := by
    unfold addQ
    rw [key, ← one]
    exact fit_of_val hv1
  rcases add_terms v1 v2 with ⟨-, e, hv, hr⟩ | ⟨hn, -⟩
  · rw [key, ← one] at hr
    obtain ⟨x, y⟩ := rat_inj hv hv1 hr
    exact ⟨x, y, e⟩
  · exact absurd hfit hn
/-- how the foot lies, by its terms -/
theorem ft_cases (px py ax ay bx bz : Int) :
    (ftN px py ax ay bx bz = 0 ∧ ftD px py ax ay bx bz = 1 ∧ ftM px py ax ay bx bz = distN px py ax ay ∧ ftE px py ax ay bx bz = 1) ∨
    (ftN px py ax ay bx bz = 1 ∧ ftD px py ax ay bx bz = 1 ∧ ftM px py ax ay bx bz = distN px py bx bz ∧ ftE px py ax ay bx bz = 1) ∨
    (1 ≤ ftN px py ax ay bx bz ∧ 2 ≤ ftD px py ax ay bx bz) := by
  have hS := dist_nonneg ax ay bx bz
  rcases ft_case px py ax ay bx bz hS with ⟨-, a, b, c, d⟩ | ⟨-, -, a, b, c, d⟩ | ⟨l, l2, a, b, -, -⟩
  · exact .inl ⟨a, b, c, d⟩
  · exact .inr (.inl ⟨a, b, c, d⟩)
  · refine .inr (.inr ?_)
    rw [a, b]
    have h1 := qN_pos (a := alongN ax ay bx bz px py) (b := distN ax ay bx bz) (by omega) (by omega)
    have h2 := q_cross (alongN ax ay bx bz px py) (distN ax ay bx bz)
    have h3 := (q_bd (a := alongN ax ay bx bz px py) (b := distN ax ay bx bz) (by omega) (by omega)).2.2.1
    refine ⟨h1, ?_⟩
    refine Decidable.byContradiction fun k => ?_
    have e : qD (alongN ax ay bx bz px py) (distN ax ay bx bz) = 1 := by omega
    rw [e, Int.one_mul] at h2
    have h4 := Int.mul_le_mul_of_nonneg_right h1 hS
    rw [Int.one_mul] at h4
    omega
end Go.Proofs.Ytcpcmlonbpccnaa.Ge
