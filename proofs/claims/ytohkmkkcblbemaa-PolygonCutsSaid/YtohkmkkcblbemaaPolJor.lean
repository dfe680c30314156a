/- Valid rings are simple rings: what Where, Twice and Box say of them, by Jordan and Pick. -/
import Derived.Test.YtohkmkkcblbemaaPolTurn
import Derived.Test.YtohkmkkcblbemaaJor2
namespace Go.Proofs.Ytohkmkkcblbemaa.Ge
set_option linter.unusedVariables false
set_option linter.unusedSimpArgs false
open Jr

/-- the ring as a function of the number of its point -/
def fn (l : List Pl) (i : Nat) : Int × Int := nth l i
theorem cast_area (ax ay bx bz cx cy : Int) : cr (sb (cQ (bx, bz)) (cQ (ax, ay))) (sb (cQ (cx, cy)) (cQ (ax, ay))) = ((areaN ax ay bx bz cx cy : Int) : Rat) := by
  unfold areaN cr sb cQ
  simp only [Rat.intCast_sub, Rat.intCast_mul]
theorem cast_pos {a : Int} : (0 : Rat) < (a : Rat) ↔ 0 < a := by
  rw [show (0 : Rat) = ((0 : Int) : Rat) from rfl, Rat.intCast_lt_intCast]
theorem cast_neg {a : Int} : (a : Rat) < 0 ↔ a < 0 := by
  rw [show (0 : Rat) = ((0 : Int) : Rat) from rfl, Rat.intCast_lt_intCast]
theorem cast_zero {a : Int} : (a : Rat) = 0 ↔ a = 0 := by
  rw [show (0 : Rat) = ((0 : Int) : Rat) from rfl, Rat.intCast_inj]
theorem cast_le0 {a : Int} : (a : Rat) ≤ 0 ↔ a ≤ 0 := by
  rw [show (0 : Rat) = ((0 : Int) : Rat) from rfl, Rat.intCast_le_intCast]
theorem cast_ge0 {a : Int} : (0 : Rat) ≤ (a : Rat) ↔ 0 ≤ a := by
  rw [show (0 : Rat) = ((0 : Int) : Rat) from rfl, Rat.intCast_le_intCast]
/-- a place of a segment -/
theorem has_pt {a b p : Int × Int} {t : Rat} (t0 : 0 ≤ t) (t1 : t ≤ 1) (e : cQ p = pt (cQ a) (cQ b) t) : hasB a.1 a.2 b.1 b.2 p.1 p.2 = true := by
  have x1 : (p.1 : Rat) = a.1 + t * (b.1 - a.1) := congrArg Prod.fst e
  have x2 : (p.2 : Rat) = a.2 + t * (b.2 - a.2) := congrArg Prod.snd e
  unfold hasB
  rw [decide_eq_true_eq]
  unfold hasP
  split
  · next h =>
    obtain ⟨h1, h2⟩ := h
    constructor
    · apply Rat.intCast_inj.1
      rw [x1, h1]
      grind
    · apply Rat.intCast_inj.1
      rw [x2, h2]
      grind
  · have ea : ((areaN a.1 a.2 b.1 b.2 p.1 p.2 : Int) : Rat) = 0 := by
      unfold areaN
      simp only [Rat.intCast_sub, Rat.intCast_mul, x1, x2]
      grind
    have n1 := sq_nonneg (b.1 - a.1)
    have n2 := sq_nonneg (b.2 - a.2)
    have nd : 0 ≤ (distN a.1 a.2 b.1 b.2 : Int) := by unfold distN alongN; omega
    have n3 : (0 : Rat) ≤ ((distN a.1 a.2 b.1 b.2 : Int) : Rat) := cast_ge0.2 nd
    have el : ((alongN a.1 a.2 b.1 b.2 p.1 p.2 : Int) : Rat) = t * ((distN a.1 a.2 b.1 b.2 : Int) : Rat) := by
      unfold distN alongN
      simp only [Rat.intCast_add, Rat.intCast_sub, Rat.intCast_mul, x1, x2]
      grind
    refine ⟨cast_zero.1 ea, cast_ge0.1 ?_, Rat.intCast_le_intCast.1 ?_⟩
    · rw [el]
      exact Rat.mul_nonneg t0 n3
    · rw [el]
      have := Rat.mul_nonneg (a := 1 - t) (b := ((distN a.1 a.2 b.1 b.2 : Int) : Rat)) (by grind) n3
      grind
theorem pt_has {a b p : Int × Int} (h : hasB a.1 a.2 b.1 b.2 p.1 p.2 = true) : ∃ t : Rat, 0 ≤ t ∧ t ≤ 1 ∧ cQ p = pt (cQ a) (cQ b) t := by
  unfold hasB at h
  rw [decide_eq_true_eq] at h
  unfold hasP at h
  split at h
  · refine ⟨0, by grind, by grind, ?_⟩
    rw [pt_zero, show p = a from Prod.ext h.1 h.2]
  · next hn =>
    obtain ⟨h1, h2, h3⟩ := h
    have hd : 0 < distN a.1 a.2 b.1 b.2 := by
      rcases Int.lt_or_le 0 (distN a.1 a.2 b.1 b.2) with k | k
      · exact k
      · exfalso
        have := dist_nonneg a.1 a.2 b.1 b.2
        exact hn (dist_zero (by omega))
    obtain ⟨N, hN⟩ : ∃ N : Rat, N = ((distN a.1 a.2 b.1 b.2 : Int) : Rat) := ⟨_, rfl⟩
    obtain ⟨L, hL⟩ : ∃ L : Rat, L = ((alongN a.1 a.2 b.1 b.2 p.1 p.2 : Int) : Rat) := ⟨_, rfl⟩
    have hN0 : 0 < N := by rw [hN]; exact cast_pos.2 hd
    have hL0 : 0 ≤ L := by rw [hL]; exact cast_ge0.2 h2
    have hL1 : L ≤ N := by rw [hL, hN]; exact Rat.intCast_le_intCast.2 h3
    obtain ⟨t0, t1⟩ := div_in (x := L) (k := N) (.inl ⟨hN0, hL0, hL1⟩)
    have ea : ((areaN a.1 a.2 b.1 b.2 p.1 p.2 : Int) : Rat) = 0 := cast_zero.2 h1
    unfold areaN at ea
    unfold distN alongN at hN
    unfold alongN at hL
    simp only [Rat.intCast_add, Rat.intCast_sub, Rat.intCast_mul] at ea hN hL
    refine ⟨L / N, t0, t1, ?_⟩
    have i1 : N * ((p.1 : Rat) - a.1) = L * ((b.1 : Rat) - a.1) := by rw [hN, hL]; grind
    have i2 : N * ((p.2 : Rat) - a.2) = L * ((b.2 : Rat) - a.2) := by rw [hN, hL]; grind
    have j1 := div_eq' hN0 i1
    have j2 := div_eq' hN0 i2
    unfold pt cQ
    refine Prod.ext ?_ ?_ <;> show _ = _ <;> grind
/-- sides that do not meet are apart -/
theorem sep_cross {a b c d : Int × Int} (hab : a ≠ b) (hcd : c ≠ d) (ha : onP a.1 a.2) (hb : onP b.1 b.2) (hc : onP c.1 c.2) (hd : onP d.1 d.2)
    (h : crossV a.1 a.2 b.1 b.2 c.1 c.2 d.1 d.2 = 0) : Sep (cQ a) (cQ b) (cQ c) (cQ d) := by
  have ne : ∀ u v : Int × Int, u ≠ v → (sb (cQ v) (cQ u)).1 ≠ 0 ∨ (sb (cQ v) (cQ u)).2 ≠ 0 := fun u v k => by
    rw [sb_cast]
    simp only [ne_eq, cast_zero]
    rcases (by omega : v.1 - u.1 ≠ 0 ∨ v.1 - u.1 = 0) with m | m
    · exact .inl m
    · refine .inr fun m2 => k (Prod.ext (by omega) (by omega))
  unfold crossV at h
  rw [if_pos ⟨ha, hb, hc, hd⟩] at h
  by_cases hap : apartB a.1 a.2 b.1 b.2 c.1 c.2 d.1 d.2 = true ∧ apartB c.1 c.2 d.1 d.2 a.1 a.2 b.1 b.2 = true
  · rw [if_pos hap] at h
    omega
  rw [if_neg hap] at h
  by_cases hh : hasB a.1 a.2 b.1 b.2 c.1 c.2 = true ∨ hasB a.1 a.2 b.1 b.2 d.1 d.2 = true ∨ hasB c.1 c.2 d.1 d.2 a.1 a.2 = true ∨ hasB c.1 c.2 d.1 d.2 b.1 b.2 = true
  · rw [if_pos hh] at h
    omega
  rcases sep_or_meet (ne a b hab) (ne c d hcd) with k | ⟨s, t, s0, s1, t0, t1, e⟩
  · exact k
  exfalso
  refine hh ?_
  rcases (by grind : s = 0 ∨ s = 1 ∨ t = 0 ∨ t = 1 ∨ (0 < s ∧ s < 1 ∧ 0 < t ∧ t < 1)) with k | k | k | k | ⟨k1, k2, k3, k4⟩
  · rw [k, pt_zero] at e
    exact .inr (.inr (.inl (has_pt t0 t1 e)))
  · rw [k, pt_one] at e
    exact .inr (.inr (.inr (has_pt t0 t1 e)))
  · rw [k, pt_zero] at e
    exact .inl (has_pt s0 s1 e.symm)
  · rw [k, pt_one] at e
    exact .inr (.inl (has_pt s0 s1 e.symm))
  -- both inside: a crossing, or all on one line
  obtain ⟨f1, hf1⟩ : ∃ x : Rat, x = ((areaN c.1 c.2 d.1 d.2 a.1 a.2 : Int) : Rat) := ⟨_, rfl⟩
  obtain ⟨f2, hf2⟩ : ∃ x : Rat, x = ((areaN c.1 c.2 d.1 d.2 b.1 b.2 : Int) : Rat) := ⟨_, rfl⟩
  obtain ⟨g1, hg1⟩ : ∃ x : Rat, x = ((areaN a.1 a.2 b.1 b.2 c.1 c.2 : Int) : Rat) := ⟨_, rfl⟩
  obtain ⟨g2, hg2⟩ : ∃ x : Rat, x = ((areaN a.1 a.2 b.1 b.2 d.1 d.2 : Int) : Rat) := ⟨_, rfl⟩
  have x1 : (a.1 : Rat) + s * (b.1 - a.1) = c.1 + t * (d.1 - c.1) := congrArg Prod.fst e
  have x2 : (a.2 : Rat) + s * (b.2 - a.2) = c.2 + t * (d.2 - c.2) := congrArg Prod.snd e
  have w1 : (1 - s) * f1 + s * f2 = 0 := by
    rw [hf1, hf2]
    unfold areaN
    simp only [Rat.intCast_sub, Rat.intCast_mul]
    grind
  have w2 : (1 - t) * g1 + t * g2 = 0 := by
    rw [hg1, hg2]
    unfold areaN
    simp only [Rat.intCast_sub, Rat.intCast_mul]
    grind
  have opp : ∀ {r u v : Rat}, 0 < r → r < 1 → (1 - r) * u + r * v = 0 → (u = 0 ∧ v = 0) ∨ (u < 0 ∧ 0 < v) ∨ (0 < u ∧ v < 0) := fun {r u v} r0 r1 hw => by
    have m1 := sgnmul (1 - r) u
    have m2 := sgnmul r v
    have z1 : u = 0 → (1 - r) * u = 0 := fun k => by rw [k]; grind
    have z2 : v = 0 → r * v = 0 := fun k => by rw [k]; grind
    grind
  have sg : ∀ {m n : Int}, ((m : Rat) < 0 ∧ 0 < (n : Rat)) ∨ (0 < (m : Rat) ∧ (n : Rat) < 0) → sgnI m * sgnI n < 0 := fun {m n} k => by
    rw [cast_neg, cast_pos, cast_pos, cast_neg] at k
    rcases k with ⟨k1, k2⟩ | ⟨k1, k2⟩
    · rw [show sgnI m = -1 by unfold sgnI; rw [if_pos k1], show sgnI n = 1 by unfold sgnI; rw [if_neg (by omega), if_pos k2]]
      decide
    · rw [show sgnI n = -1 by unfold sgnI; rw [if_pos k2], show sgnI m = 1 by unfold sgnI; rw [if_neg (by omega), if_pos k1]]
      decide
  have par : f1 - f2 = g2 - g1 := by
    rw [hf1, hf2, hg1, hg2]
    unfold areaN
    simp only [Rat.intCast_sub, Rat.intCast_mul]
    grind
  rcases opp k1 k2 w1 with ⟨z1, z2⟩ | o1
  · rcases opp k3 k4 w2 with ⟨z3, z4⟩ | o2
    · -- all on one line
      obtain ⟨N, hN⟩ : ∃ N : Rat, N = ((distN c.1 c.2 d.1 d.2 : Int) : Rat) := ⟨_, rfl⟩
      have hN0 : 0 < N := by
        rw [hN, cast_pos]
        rcases Int.lt_or_le 0 (distN c.1 c.2 d.1 d.2) with k | k
        · exact k
        · exfalso
          have := dist_nonneg c.1 c.2 d.1 d.2
          obtain ⟨y1, y2⟩ := dist_zero (show distN c.1 c.2 d.1 d.2 = 0 by omega)
          exact hcd (Prod.ext y1 y2)
      obtain ⟨pa, hpa⟩ : ∃ x : Rat, x = ((alongN c.1 c.2 d.1 d.2 a.1 a.2 : Int) : Rat) := ⟨_, rfl⟩
      obtain ⟨pb, hpb⟩ : ∃ x : Rat, x = ((alongN c.1 c.2 d.1 d.2 b.1 b.2 : Int) : Rat) := ⟨_, rfl⟩
      have wp : (1 - s) * pa + s * pb = t * N := by
        rw [hpa, hpb, hN]
        unfold distN alongN
        simp only [Rat.intCast_add, Rat.intCast_sub, Rat.intCast_mul]
        grind
      have zf1 := z1
      have zf2 := z2
      rw [hf1] at zf1
      rw [hf2] at zf2
      have nab : ¬ (c.1 = d.1 ∧ c.2 = d.2) := fun k => hcd (Prod.ext k.1 k.2)
      by_cases ia : 0 ≤ pa ∧ pa ≤ N
      · right; right; left
        unfold hasB
        rw [decide_eq_true_eq]
        unfold hasP
        rw [if_neg nab]
        exact ⟨cast_zero.1 zf1, cast_ge0.1 (by rw [← hpa]; exact ia.1), Rat.intCast_le_intCast.1 (by rw [← hpa, ← hN]; exact ia.2)⟩
      by_cases ib : 0 ≤ pb ∧ pb ≤ N
      · right; right; right
        unfold hasB
        rw [decide_eq_true_eq]
        unfold hasP
        rw [if_neg nab]
        exact ⟨cast_zero.1 zf2, cast_ge0.1 (by rw [← hpb]; exact ib.1), Rat.intCast_le_intCast.1 (by rw [← hpb, ← hN]; exact ib.2)⟩
      · left
        have tN := Rat.mul_pos k3 hN0
        have tN2 := Rat.mul_pos (a := 1 - t) (b := N) (by grind) hN0
        have ma := sgnmul (1 - s) pa
        have mb := sgnmul s pb
        have ma2 := sgnmul (1 - s) (pa - N)
        have mb2 := sgnmul s (pb - N)
        have wp2 : (1 - s) * (pa - N) + s * (pb - N) = -((1 - t) * N) := by grind
        have ways : (pa < 0 ∧ N < pb) ∨ (N < pa ∧ pb < 0) := by
          rcases (by grind : pa < 0 ∨ N < pa) with k | k <;> rcases (by grind : pb < 0 ∨ N < pb) with k' | k'
          · exfalso; grind
          · exact .inl ⟨k, k'⟩
          · exact .inr ⟨k, k'⟩
          · exfalso; grind
        have hne : pb - pa ≠ 0 := by grind
        obtain ⟨u0, u1⟩ := div_in (x := -pa) (k := pb - pa) (by grind)
        obtain ⟨r, hr⟩ : ∃ r, r = -pa / (pb - pa) := ⟨_, rfl⟩
        have er : r * (pb - pa) = -pa := by rw [hr]; grind
        rw [← hr] at u0 u1
        refine has_pt u0 u1 ?_
        have q : ∀ x : Int × Int, ((areaN c.1 c.2 d.1 d.2 x.1 x.2 : Int) : Rat) = 0 → N * ((x.1 : Rat) - c.1) = ((alongN c.1 c.2 d.1 d.2 x.1 x.2 : Int) : Rat) * ((d.1 : Rat) - c.1) ∧ N * ((x.2 : Rat) - c.2) = ((alongN c.1 c.2 d.1 d.2 x.1 x.2 : Int) : Rat) * ((d.2 : Rat) - c.2) := by
          intro x hx
          rw [hN]
          unfold areaN at hx
          unfold distN alongN
          simp only [Rat.intCast_add, Rat.intCast_sub, Rat.intCast_mul] at hx ⊢
          constructor <;> grind
        obtain ⟨qa1, qa2⟩ := q a zf1
        obtain ⟨qb1, qb2⟩ := q b zf2
        rw [← hpa] at qa1 qa2
        rw [← hpb] at qb1 qb2
        have y1 : N * ((a.1 : Rat) - c.1 + r * (b.1 - a.1)) = 0 := by grind
        have y2 : N * ((a.2 : Rat) - c.2 + r * (b.2 - a.2)) = 0 := by grind
        unfold pt cQ
        refine Prod.ext ?_ ?_ <;> show _ = _
        · rcases Rat.mul_eq_zero.1 y1 with m | m <;> grind
        · rcases Rat.mul_eq_zero.1 y2 with m | m <;> grind
    · exfalso; grind
  · rcases opp k3 k4 w2 with ⟨z3, z4⟩ | o2
    · exfalso; grind
    · exfalso
      refine hap ⟨?_, ?_⟩
      · unfold apartB
        rw [decide_eq_true_eq]
        rw [hf1, hf2] at o1
        exact sg o1
      · unfold apartB
        rw [decide_eq_true_eq]
        rw [hg1, hg2] at o2
        exact sg o2
end Go.Proofs.Ytohkmkkcblbemaa.Ge

/- Valid rings are simple rings: Where is 1 inside, 0 on the ring, -1 outside; what is counted; the box. -/
namespace Go.Proofs.Ytohkmkkcblbemaa.Ge
set_option linter.unusedVariables false
set_option linter.unusedSimpArgs false
open Jr

theorem valid_parts {l : List Pl} (h : validB l = true) : 3 ≤ l.length ∧ l.length ≤ 40 ∧ bendsB l = true ∧ 0 < areaS l ∧ simpleB l = true := by
  unfold validB at h
  simp only [Bool.and_eq_true, decide_eq_true_eq] at h
  exact ⟨h.1, h.2.1, h.2.2.1, h.2.2.2.1, h.2.2.2.2⟩
theorem fn_per (l : List Pl) (i : Nat) : fn l (i + l.length) = fn l i := nth_add l i
theorem bend_area {l : List Pl} (h : validB l = true) (i : Nat) : areaN (fn l i).1 (fn l i).2 (fn l (i + 1)).1 (fn l (i + 1)).2 (fn l (i + 2)).1 (fn l (i + 2)).2 ≠ 0 := by
  obtain ⟨h3, -, hb, -, -⟩ := valid_parts h
  have hl : 0 < l.length := by omega
  have hb' := List.all_eq_true.1 hb (i % l.length) (List.mem_range.2 (Nat.mod_lt _ hl))
  have e : ∀ k, nth l (i % l.length + k) = nth l (i + k) := fun k => nth_congr (by rw [Nat.mod_add_mod])
  have ho := fun k => onL_nth (valid_on h) hl (i + k)
  unfold turnAt at hb'
  rw [show nth l (i % l.length) = nth l (i % l.length + 0) from rfl, e, e, e] at hb'
  rw [turn_on (ho 0) (ho 1) (ho 2)] at hb'
  intro k
  rw [show areaN (nth l (i + 0)).1 (nth l (i + 0)).2 (nth l (i + 1)).1 (nth l (i + 1)).2 (nth l (i + 2)).1 (nth l (i + 2)).2 = 0 from k] at hb'
  exact absurd hb' (by decide)
theorem fn_ne {l : List Pl} (h : validB l = true) (i : Nat) : fn l (i + 1) ≠ fn l i := by
  intro e
  refine bend_area h i ?_
  rw [e]
  unfold areaN
  grind
theorem free_all {l : List Pl} (h : validB l = true) {i k : Nat} (hk : 1 ≤ k) (hn : k < l.length) : freeB (sideAt l (i + k)) (sideAt l i) = true := by
  obtain ⟨h3, -, -, -, hs⟩ := valid_parts h
  have hl : 0 < l.length := by omega
  have e : ∀ j, sideAt l (j % l.length) = sideAt l j := fun j => by
    unfold sideAt
    rw [nth_mod, nth_congr (l := l) (i := j % l.length + 1) (j := j + 1) (by rw [Nat.mod_add_mod])]
  have free : ∀ a b, a < l.length → b < a → freeB (sideAt l a) (sideAt l b) = true := fun a b ha hb => by
    have := List.all_eq_true.1 (List.all_eq_true.1 hs a (List.mem_range.2 ha)) b (List.mem_range.2 hb)
    exact this
  rw [← e (i + k), ← e i]
  have ha := Nat.mod_lt (i + k) hl
  have hb := Nat.mod_lt i hl
  have hne : (i + k) % l.length ≠ i % l.length := by
    intro q
    have h1 := Nat.mod_add_div (i + k) l.length
    have h2 := Nat.mod_add_div i l.length
    have h4 : l.length * ((i + k) / l.length) = l.length * (i / l.length) + k := by omega
    rcases Nat.lt_or_ge ((i + k) / l.length) (i / l.length + 1) with m | m
    · have := Nat.mul_le_mul_left l.length (show (i + k) / l.length ≤ i / l.length by omega)
      omega
    · have := Nat.mul_le_mul_left l.length m
      rw [Nat.mul_add] at this
      omega
  rcases Nat.lt_or_ge (i % l.length) ((i + k) % l.length) with m | m
  · exact free _ _ ha m
  · rw [free_symm]
    exact free _ _ hb (by omega)
theorem fn_far {l : List Pl} (h : validB l = true) {i k : Nat} (hk : 1 ≤ k) (hn : k < l.length) : fn l (i + k) ≠ fn l i := by
  intro e
  obtain ⟨h3, -, -, -, -⟩ := valid_parts h
  have hl : 0 < l.length := by omega
  -- the sides that end there
  have hf := free_all h (i := i + (l.length - 1)) hk hn
  have e1 : nth l (i + (l.length - 1) + 1) = nth l i := by rw [show i + (l.length - 1) + 1 = i + l.length by omega]; exact nth_add l i
  have e2 : nth l (i + (l.length - 1) + k + 1) = nth l (i + k) := by rw [show i + (l.length - 1) + k + 1 = i + k + l.length by omega]; exact nth_add l _
  have n1 := fn_ne h (i + (l.length - 1))
  have n2 := fn_ne h (i + (l.length - 1) + k)
  have ho := fun j => onL_nth (valid_on h) hl j
  unfold fn at e n1 n2
  rw [e1] at n1
  rw [e2, e] at n2
  unfold freeB sideAt crossS at hf
  simp only [e1, e2, e] at hf
  rw [Bool.or_eq_true, Bool.or_eq_true] at hf
  rcases hf with k1 | k1 | k1
  · exact n2 (eq_of_beq k1).symm
  · exact n1 (eq_of_beq k1).symm
  · have k2 := eq_of_beq k1
    have hh := has_last (nth l (i + (l.length - 1) + k)).1 (nth l (i + (l.length - 1) + k)).2 (nth l i).1 (nth l i).2
    unfold crossV at k2
    rw [if_pos ⟨ho _, ho _, ho _, ho _⟩] at k2
    split at k2
    · omega
    · rw [if_pos (.inr (.inl hh))] at k2
      omega
theorem valid_ring {l : List Pl} (h : validB l = true) : Ring (PQ (fn l)) l.length where
  n3 := (valid_len h).1
  per i := congrArg cQ (fn_per l i)
  sep i k k2 kn := by
    have hl : 0 < l.length := by have := (valid_len h).1; omega
    have hf := free_all h (i := i) (k := k) (by omega) (by omega)
    have ho := fun j => onL_nth (valid_on h) hl j
    have n1 : fn l (i + k) ≠ fn l (i + 1) := by
      have := fn_far h (i := i + 1) (k := k - 1) (by omega) (by omega)
      rw [show i + 1 + (k - 1) = i + k by omega] at this
      exact this
    have n2 : fn l i ≠ fn l (i + k + 1) := by
      have := fn_far h (i := i) (k := k + 1) (by omega) (by omega)
      exact fun e => this e.symm
    unfold freeB sideAt crossS at hf
    rw [Bool.or_eq_true, Bool.or_eq_true] at hf
    rcases hf with k1 | k1 | k1
    · exact absurd (eq_of_beq k1) n1
    · exact absurd (eq_of_beq k1) n2
    · exact sep_cross (fun e => fn_ne h (i + k) e.symm) (fun e => fn_ne h i e.symm) (ho _) (ho _) (ho _) (ho _) (eq_of_beq k1)
  ne i := by
    have := fn_ne h i
    show (sb (cQ (fn l (i + 1))) (cQ (fn l i))).1 ≠ 0 ∨ (sb (cQ (fn l (i + 1))) (cQ (fn l i))).2 ≠ 0
    rw [sb_cast]
    simp only [ne_eq, cast_zero]
    rcases (by omega : (fn l (i + 1)).1 - (fn l i).1 ≠ 0 ∨ (fn l (i + 1)).1 - (fn l i).1 = 0) with m | m
    · exact .inl m
    · exact .inr fun m2 => this (Prod.ext (by omega) (by omega))
  opp i := by
    have ha := bend_area h i
    intro o
    have : ((areaN (fn l i).1 (fn l i).2 (fn l (i + 1)).1 (fn l (i + 1)).2 (fn l (i + 2)).1 (fn l (i + 2)).2 : Int) : Rat) = 0 := by
      have h1 := o.1
      unfold PQ cr sb cQ at h1
      unfold areaN
      simp only [Rat.intCast_sub, Rat.intCast_mul]
      grind
    exact ha (cast_zero.1 this)
theorem sum_sm (F : Nat → Int) : ∀ n, ((List.range n).map F).sum = sm F n
  | 0 => rfl
  | n + 1 => by rw [List.range_succ, List.map_append, List.sum_append, sum_sm F n, sm]; simp
theorem sumS_sm (f : Sd → Int) (l : List Pl) : sumS f (sidesL l) = sm (fun j => f (sideAt l j)) l.length := by
  unfold sumS sidesL
  rw [List.map_map, sum_sm]
  rfl
theorem area_sm (l : List Pl) : areaS l = area2 (fn l) l.length := sumS_sm _ _
/-- a place by twice its coordinates -/
def hq (p : Int × Int) : Q2 := ((p.1 : Rat) / 2, (p.2 : Rat) / 2)
theorem hq_cQ (x y : Int) : hq (x + x, y + y) = cQ (x, y) := by
  unfold hq cQ
  simp only [Rat.intCast_add]
  refine Prod.ext ?_ ?_ <;> show _ = _ <;> grind
theorem tu_cr (a b p : Int × Int) : ((tuN a.1 a.2 b.1 b.2 p.1 p.2 : Int) : Rat) = 2 * cr (sb (cQ a) (hq p)) (sb (cQ b) (hq p)) := by
  unfold tuN cr sb cQ hq
  have : ((2 : Int) : Rat) = 2 := rfl
  simp only [Rat.intCast_sub, Rat.intCast_mul, this]
  grind
theorem half_le {a p : Int} : (a : Rat) - (p : Rat) / 2 ≤ 0 ↔ 2 * a ≤ p := by
  rw [← Rat.intCast_le_intCast, Rat.intCast_mul]
  have : ((2 : Int) : Rat) = 2 := rfl
  rw [this]
  constructor <;> intro h <;> grind
theorem half_lt {a p : Int} : 0 < (a : Rat) - (p : Rat) / 2 ↔ p < 2 * a := by
  rw [← Rat.intCast_lt_intCast, Rat.intCast_mul]
  have : ((2 : Int) : Rat) = 2 := rfl
  rw [this]
  constructor <;> intro h <;> grind
theorem pass_sx (l : List Pl) (j : Nat) (p : Int × Int) : passS p (sideAt l j) = sx (PQ (fn l)) j (hq p) := by
  have ht := tu_cr (nth l j) (nth l (j + 1)) p
  have h1 : (0 < tuN (nth l j).1 (nth l j).2 (nth l (j + 1)).1 (nth l (j + 1)).2 p.1 p.2) = (0 < cr (sb (cQ (nth l j)) (hq p)) (sb (cQ (nth l (j + 1))) (hq p))) := by
    rw [← cast_pos, ht]
    apply propext
    constructor <;> intro h <;> grind
  have h2 : (tuN (nth l j).1 (nth l j).2 (nth l (j + 1)).1 (nth l (j + 1)).2 p.1 p.2 < 0) = (cr (sb (cQ (nth l j)) (hq p)) (sb (cQ (nth l (j + 1))) (hq p)) < 0) := by
    rw [← cast_neg, ht]
    apply propext
    constructor <;> intro h <;> grind
  have a1 : ((sb (cQ (nth l j)) (hq p)).2 ≤ 0) = (2 * (nth l j).2 ≤ p.2) := propext half_le
  have a2 : (0 < (sb (cQ (nth l j)) (hq p)).2) = (p.2 < 2 * (nth l j).2) := propext half_lt
  have b1 : ((sb (cQ (nth l (j + 1))) (hq p)).2 ≤ 0) = (2 * (nth l (j + 1)).2 ≤ p.2) := propext half_le
  have b2 : (0 < (sb (cQ (nth l (j + 1))) (hq p)).2) = (p.2 < 2 * (nth l (j + 1)).2) := propext half_lt
  show paV (nth l j).1 (nth l j).2 (nth l (j + 1)).1 (nth l (j + 1)).2 p.1 p.2 = chi (sb (cQ (nth l j)) (hq p)) (sb (cQ (nth l (j + 1))) (hq p))
  unfold paV chi
  simp only [a1, a2, b1, b2, h1, h2]
theorem has_side {a b p : Int × Int} (hab : a ≠ b) : hsB a.1 a.2 b.1 b.2 p.1 p.2 = true ↔ ∃ t : Rat, 0 ≤ t ∧ t ≤ 1 ∧ hq p = pt (cQ a) (cQ b) t := by
  have ht := tu_cr a b p
  have hl : ((loN a.1 a.2 b.1 b.2 p.1 p.2 : Int) : Rat) = 4 * dt (sb (cQ a) (hq p)) (sb (cQ b) (hq p)) := by
    unfold loN dt sb cQ hq
    have : ((2 : Int) : Rat) = 2 := rfl
    simp only [Rat.intCast_add, Rat.intCast_sub, Rat.intCast_mul, this]
    grind
  have h1 : hsB a.1 a.2 b.1 b.2 p.1 p.2 = true ↔ cr (sb (cQ a) (hq p)) (sb (cQ b) (hq p)) = 0 ∧ dt (sb (cQ a) (hq p)) (sb (cQ b) (hq p)) ≤ 0 := by
    unfold hsB
    rw [Bool.and_eq_true, decide_eq_true_eq, decide_eq_true_eq, ← cast_zero, ← cast_le0, ht, hl]
    constructor
    · rintro ⟨k1, k2⟩
      constructor <;> grind
    · rintro ⟨k1, k2⟩
      constructor <;> grind
  rw [h1]
  generalize hq p = q
  have hN : 0 < (sb (cQ b) (cQ a)).1 * (sb (cQ b) (cQ a)).1 + (sb (cQ b) (cQ a)).2 * (sb (cQ b) (cQ a)).2 := by
    refine sq_pos' _ ?_
    rw [sb_cast]
    simp only [ne_eq, cast_zero]
    rcases (by omega : b.1 - a.1 ≠ 0 ∨ b.1 - a.1 = 0) with m | m
    · exact .inl m
    · exact .inr fun m2 => hab (Prod.ext (by omega) (by omega))
  generalize cQ a = u at *
  generalize cQ b = v at *
  obtain ⟨N, hNe⟩ : ∃ N, N = (sb v u).1 * (sb v u).1 + (sb v u).2 * (sb v u).2 := ⟨_, rfl⟩
  rw [← hNe] at hN
  constructor
  · rintro ⟨k1, k2⟩
    obtain ⟨L, hL⟩ : ∃ L, L = dt (sb v u) (sb q u) := ⟨_, rfl⟩
    have i1 : N * (q.1 - u.1) = L * (v.1 - u.1) := by rw [hNe, hL]; unfold cr dt sb at *; grind
    have i2 : N * (q.2 - u.2) = L * (v.2 - u.2) := by rw [hNe, hL]; unfold cr dt sb at *; grind
    have j1 := div_eq' hN i1
    have j2 := div_eq' hN i2
    obtain ⟨t, htt⟩ : ∃ t, t = L / N := ⟨_, rfl⟩
    rw [← htt] at j1 j2
    have e : dt (sb u q) (sb v q) = -(t * (1 - t)) * N := by rw [hNe]; unfold dt sb; grind
    have m0 : 0 ≤ t * (1 - t) := by
      rcases (by grind : t * (1 - t) < 0 ∨ 0 ≤ t * (1 - t)) with k | k
      · have := Rat.mul_pos (a := -(t * (1 - t))) (b := N) (by grind) hN
        grind
      · exact k
    have s := sgnmul t (1 - t)
    refine ⟨t, ?_, ?_, ?_⟩
    · grind
    · grind
    · unfold pt
      refine Prod.ext ?_ ?_ <;> show _ = _ <;> grind
  · rintro ⟨t, t0, t1, e⟩
    have x1 : q.1 = u.1 + t * (v.1 - u.1) := congrArg Prod.fst e
    have x2 : q.2 = u.2 + t * (v.2 - u.2) := congrArg Prod.snd e
    have m0 := Rat.mul_nonneg t0 (show 0 ≤ 1 - t by grind)
    have m1 := Rat.mul_nonneg m0 (show 0 ≤ N by grind)
    have e2 : dt (sb u q) (sb v q) = -(t * (1 - t)) * N := by rw [hNe]; unfold dt sb; grind
    constructor
    · unfold cr sb
      grind
    · grind
theorem off_any {l : List Pl} (h : validB l = true) (p : Int × Int) : (sidesL l).any (hasS p) = true ↔ ¬ Off (PQ (fn l)) (hq p) := by
  have hl : 0 < l.length := by have := (valid_len h).1; omega
  rw [List.any_eq_true]
  constructor
  · rintro ⟨s, hs, hp⟩ ho
    obtain ⟨j, hj, rfl⟩ := List.mem_map.1 hs
    obtain ⟨t, t0, t1, e⟩ := (has_side (fun e => fn_ne h j e.symm)).1 hp
    exact ho j t t0 t1 e
  · intro ho
    unfold Off at ho
    have : ∃ j s, 0 ≤ s ∧ s ≤ 1 ∧ hq p = pt (PQ (fn l) j) (PQ (fn l) (j + 1)) s := Classical.byContradiction fun k => ho fun j s a b e => k ⟨j, s, a, b, e⟩
    obtain ⟨j, s, s0, s1, e⟩ := this
    rw [per_mod (valid_ring h) j, per_mod' (valid_ring h) j] at e
    refine ⟨sideAt l (j % l.length), List.mem_map.2 ⟨_, List.mem_range.2 (Nat.mod_lt _ hl), rfl⟩, ?_⟩
    exact (has_side (fun e => fn_ne h (j % l.length) e.symm)).2 ⟨s, s0, s1, e⟩
theorem whereP_wh {l : List Pl} (h : validB l = true) (p : Int × Int) : whereP l p = wh (PQ (fn l)) l.length (hq p) := by
  have ho := off_any h p
  have hs : sumS (passS p) (sidesL l) = wn (PQ (fn l)) l.length (hq p) := by
    rw [sumS_sm]
    exact sm_congr _ fun j _ => pass_sx l j p
  unfold whereP wh
  rw [hs]
  by_cases k : Off (PQ (fn l)) (hq p)
  · rw [if_neg (fun q => ho.1 q k), if_pos k]
  · rw [if_pos (ho.2 k), if_neg k]
theorem whereV_wh {l : List Pl} (h : validB l = true) {x y : Int} (hp : onP x y) : whereV l x y = wh (PQ (fn l)) l.length (cQ (x, y)) := by
  unfold whereV
  rw [if_pos ⟨hp, h⟩, whereP_wh h, hq_cQ]
/-! ### the box -/
theorem low_le {l : List Pl} (h : validB l = true) (i : Nat) : (lowP l).1 ≤ (fn l i).1 ∧ (lowP l).2 ≤ (fn l i).2 ∧ (fn l i).1 ≤ (highP l).1 ∧ (fn l i).2 ≤ (highP l).2 := by
  have hl : l ≠ [] := by
    have := (valid_len h).1
    intro e
    rw [e] at this
    simp at this
  have hm : fn l i ∈ l := nth_mem hl i
  unfold lowP highP
  rw [if_pos h, if_pos h]
  exact ⟨(min_le _ _).2 _ (List.mem_map_of_mem hm), (min_le _ _).2 _ (List.mem_map_of_mem hm), (max_le _ _).2 _ (List.mem_map_of_mem hm), (max_le _ _).2 _ (List.mem_map_of_mem hm)⟩
/-- the sides of the box: one more than its width and its height -/
def wdN (l : List Pl) : Nat := ((highP l).1 - (lowP l).1 + 1).toNat
def hgN (l : List Pl) : Nat := ((highP l).2 - (lowP l).2 + 1).toNat
theorem in_box {l : List Pl} (h : validB l = true) (i : Nat) : InBox (lowP l).1 (lowP l).2 (wdN l) (hgN l) (fn l i) := by
  obtain ⟨h1, h2, h3, h4⟩ := low_le h i
  unfold wdN hgN
  exact ⟨h1, by omega, h2, by omega⟩
theorem gg_valid {l : List Pl} (h : validB l = true) : gg (PQ (fn l)) l.length 0 = 1 ∧ gg (mr (PQ (fn l))) l.length 0 = 1 :=
  gg_one (valid_ring h) (by have := fn_per l 0; rw [Nat.zero_add] at this; exact this) (in_box h) (by rw [← area_sm]; exact (valid_parts h).2.2.2.1)
theorem pick_valid {l : List Pl} (h : validB l = true) : bs (lowP l).1 (lowP l).2 (wdN l) (hgN l) (fun x y => wh (PQ (fn l)) l.length (cQ (x, y)) + 1) = twiceV l + 2 := by
  rw [pick (valid_ring h) (by have := fn_per l 0; rw [Nat.zero_add] at this; exact this) (in_box h) (by rw [← area_sm]; exact (valid_parts h).2.2.2.1), ← area_sm]
  unfold twiceV
  rw [if_pos h]
end Go.Proofs.Ytohkmkkcblbemaa.Ge

/- What PolygonBoxes and PolygonCounts say of a valid ring. -/
namespace Go.Proofs.Ytohkmkkcblbemaa.Ge
set_option linter.unusedVariables false
set_option linter.unusedSimpArgs false
open Jr

theorem mul_np {a b : Rat} (ha : a ≤ 0) (hb : 0 ≤ b) : a * b ≤ 0 := by
  have := Rat.mul_nonneg (a := -a) (b := b) (by grind) hb
  grind
theorem mul_nn {a b : Rat} (ha : a ≤ 0) (hb : b ≤ 0) : 0 ≤ a * b := by
  have := Rat.mul_nonneg (a := -a) (b := -b) (by grind) (by grind)
  grind
/-- what is on the left of a place is not counted -/
theorem chi_left {u v : Q2} (hu : u.1 ≤ 0) (hv : v.1 ≤ 0) : chi u v = 0 := by
  rcases le_or u.2 with a | a <;> rcases le_or v.2 with b | b
  · exact chi_lo a b
  · rw [chi_up a b, if_neg]
    have := mul_np hu (show 0 ≤ v.2 by grind)
    have := mul_nn a hv
    unfold cr
    grind
  · rw [chi_dn a b, if_neg]
    have := mul_nn hu b
    have := mul_np hv (show 0 ≤ u.2 by grind)
    unfold cr
    grind
  · exact chi_hi a b
theorem edge_out {P : Nat → Q2} {n : Nat} (h : Ring P n) (g : gg P n 0 = 1 ∧ gg (mr P) n 0 = 1) {q : Q2}
    (hs : (∀ j, (P j).2 ≤ q.2) ∨ (∀ j, q.2 ≤ (P j).2) ∨ (∀ j, (P j).1 ≤ q.1) ∨ ∀ j, q.1 ≤ (P j).1) : wh P n q ≤ 0 ∧ (Off P q → wh P n q = -1) := by
  by_cases ho : Off P q
  · obtain ⟨V, hV, h1, h2⟩ := jordan2 h ho
    have hw : wn P n q = 0 := by
      rcases hs with k | k | k | k
      · exact sm_zero fun j _ => chi_lo (by have := k j; unfold sb; grind) (by have := k (j + 1); unfold sb; grind)
      · have : wn (mr P) n (ng q) = 0 := sm_zero fun j _ => chi_lo (by have := k j; show (sb (ng _) (ng _)).2 ≤ 0; rw [sb_ng]; unfold ng sb; grind) (by have := k (j + 1); show (sb (ng _) (ng _)).2 ≤ 0; rw [sb_ng]; unfold ng sb; grind)
        omega
      · exact sm_zero fun j _ => chi_left (by have := k j; unfold sb; grind) (by have := k (j + 1); unfold sb; grind)
      · have : wn (mr P) n (ng q) = 0 := sm_zero fun j _ => chi_left (by have := k j; show (sb (ng _) (ng _)).1 ≤ 0; rw [sb_ng]; unfold ng sb; grind) (by have := k (j + 1); show (sb (ng _) (ng _)).1 ≤ 0; rw [sb_ng]; unfold ng sb; grind)
        omega
    have := (wh_off h g ho).2.1
    exact ⟨by omega, fun _ => by omega⟩
  · have : wh P n q = 0 := by unfold wh; rw [if_neg ho]
    exact ⟨by omega, fun k => absurd k ho⟩
theorem edge_int {l : List Pl} (h : validB l = true) {x y : Int} (hs : (highP l).2 ≤ y ∨ y ≤ (lowP l).2 ∨ (highP l).1 ≤ x ∨ x ≤ (lowP l).1) :
    wh (PQ (fn l)) l.length (cQ (x, y)) ≤ 0 ∧ (Off (PQ (fn l)) (cQ (x, y)) → wh (PQ (fn l)) l.length (cQ (x, y)) = -1) := by
  refine edge_out (valid_ring h) (gg_valid h) ?_
  have hb := low_le h
  rcases hs with k | k | k | k
  · exact .inl fun j => Rat.intCast_le_intCast.2 (by have := hb j; show (fn l j).2 ≤ y; omega)
  · exact .inr (.inl fun j => Rat.intCast_le_intCast.2 (by have := hb j; show y ≤ (fn l j).2; omega))
  · exact .inr (.inr (.inl fun j => Rat.intCast_le_intCast.2 (by have := hb j; show (fn l j).1 ≤ x; omega)))
  · exact .inr (.inr (.inr fun j => Rat.intCast_le_intCast.2 (by have := hb j; show x ≤ (fn l j).1; omega)))
/-- the ring lies in its box -/
theorem off_box {l : List Pl} (h : validB l = true) {x y : Int} (hs : (highP l).2 < y ∨ y < (lowP l).2 ∨ (highP l).1 < x ∨ x < (lowP l).1) : Off (PQ (fn l)) (cQ (x, y)) := by
  intro j s s0 s1 e
  have x1 : (x : Rat) = ((fn l j).1 : Rat) + s * (((fn l (j + 1)).1 : Rat) - ((fn l j).1 : Rat)) := congrArg Prod.fst e
  have x2 : (y : Rat) = ((fn l j).2 : Rat) + s * (((fn l (j + 1)).2 : Rat) - ((fn l j).2 : Rat)) := congrArg Prod.snd e
  obtain ⟨a1, a2, a3, a4⟩ := low_le h j
  obtain ⟨b1, b2, b3, b4⟩ := low_le h (j + 1)
  have c1 := Rat.intCast_le_intCast.2 a1
  have c2 := Rat.intCast_le_intCast.2 a2
  have c3 := Rat.intCast_le_intCast.2 a3
  have c4 := Rat.intCast_le_intCast.2 a4
  have d1 := Rat.intCast_le_intCast.2 b1
  have d2 := Rat.intCast_le_intCast.2 b2
  have d3 := Rat.intCast_le_intCast.2 b3
  have d4 := Rat.intCast_le_intCast.2 b4
  have mix : ∀ {u v c : Rat}, (c ≤ u → c ≤ v → c ≤ u + s * (v - u)) ∧ (u ≤ c → v ≤ c → u + s * (v - u) ≤ c) := fun {u v c} => by
    constructor
    · intro k1 k2
      have := Rat.mul_nonneg (a := 1 - s) (b := u - c) (by grind) (by grind)
      have := Rat.mul_nonneg (a := s) (b := v - c) s0 (by grind)
      grind
    · intro k1 k2
      have := Rat.mul_nonneg (a := 1 - s) (b := c - u) (by grind) (by grind)
      have := Rat.mul_nonneg (a := s) (b := c - v) s0 (by grind)
      grind
  rcases hs with k | k | k | k
  · have := Rat.intCast_lt_intCast.2 k
    have := mix.2 c4 d4
    grind
  · have := Rat.intCast_lt_intCast.2 k
    have := mix.1 c2 d2
    grind
  · have := Rat.intCast_lt_intCast.2 k
    have := mix.2 c3 d3
    grind
  · have := Rat.intCast_lt_intCast.2 k
    have := mix.1 c1 d1
    grind
theorem box_out {l : List Pl} (h : validB l = true) {x y : Int} (hs : x < (lowP l).1 ∨ (highP l).1 < x ∨ y < (lowP l).2 ∨ (highP l).2 < y) : whereV l x y = -1 := by
  by_cases hp : onP x y
  · rw [whereV_wh h hp]
    exact (edge_int h (by omega)).2 (off_box h (by omega))
  · unfold whereV
    rw [if_neg (fun k => hp k.1)]
theorem where_corner {l : List Pl} (h : validB l = true) (i : Nat) : whereV l (nth l i).1 (nth l i).2 = 0 := by
  have hl : 0 < l.length := by have := (valid_len h).1; omega
  rw [whereV_wh h (onL_nth (valid_on h) hl i)]
  exact wh_side (i := i) (s := 0) (by grind) (by grind) (by rw [pt_zero]; rfl)
theorem where_between {l : List Pl} (h : validB l = true) (i : Nat) {x y : Int} (hb : betB x y (nth l i).1 (nth l i).2 (nth l (i + 1)).1 (nth l (i + 1)).2 = true) : whereV l x y = 0 := by
  have hl : 0 < l.length := by have := (valid_len h).1; omega
  unfold betB at hb
  rw [decide_eq_true_eq] at hb
  rw [whereV_wh h hb.1]
  obtain ⟨t, t0, t1, e⟩ := pt_has (a := nth l i) (b := nth l (i + 1)) (p := (x, y)) (decide_eq_true hb.2.2.2)
  exact wh_side t0 t1 e
theorem box_wide {l : List Pl} (h : validB l = true) : (lowP l).1 < (highP l).1 ∧ (lowP l).2 < (highP l).2 := by
  have hb := low_le h
  have ha := bend_area h 0
  have h0 := hb 0
  have h1 := hb 1
  have h2 := hb 2
  constructor
  · rcases Int.lt_or_le (lowP l).1 (highP l).1 with k | k
    · exact k
    · exfalso
      refine ha ?_
      have e1 : (fn l (0 + 1)).1 = (fn l 0).1 := by show (fn l 1).1 = _; omega
      have e2 : (fn l (0 + 2)).1 = (fn l 0).1 := by show (fn l 2).1 = _; omega
      unfold areaN
      rw [e1, e2]
      grind
  · rcases Int.lt_or_le (lowP l).2 (highP l).2 with k | k
    · exact k
    · exfalso
      refine ha ?_
      have e1 : (fn l (0 + 1)).2 = (fn l 0).2 := by show (fn l 1).2 = _; omega
      have e2 : (fn l (0 + 2)).2 = (fn l 0).2 := by show (fn l 2).2 = _; omega
      unfold areaN
      rw [e1, e2]
      grind
theorem sm_ends (f : Nat → Int) (a : Nat) : sm f (a + 2) = f 0 + sm (fun j => f (j + 1)) a + f (a + 1) := by
  rw [show a + 2 = a + 1 + 1 from rfl, sm, sm_head]
theorem box_twice {l : List Pl} (h : validB l = true) : 1 ≤ twiceV l ∧ twiceV l ≤ 2 * ((highP l).1 - (lowP l).1) * ((highP l).2 - (lowP l).2) := by
  have hp := pick_valid h
  have ha := (valid_parts h).2.2.2.1
  obtain ⟨w1, w2⟩ := box_wide h
  constructor
  · unfold twiceV
    rw [if_pos h]
    omega
  obtain ⟨a, hA⟩ : ∃ a : Nat, (highP l).1 - (lowP l).1 = a + 1 := ⟨((highP l).1 - (lowP l).1 - 1).toNat, by omega⟩
  obtain ⟨b, hB⟩ : ∃ b : Nat, (highP l).2 - (lowP l).2 = b + 1 := ⟨((highP l).2 - (lowP l).2 - 1).toNat, by omega⟩
  have e1 : wdN l = a + 2 := by unfold wdN; omega
  have e2 : hgN l = b + 2 := by unfold hgN; omega
  rw [e1, e2] at hp
  have le2 : ∀ x y, wh (PQ (fn l)) l.length (cQ (x, y)) + 1 ≤ 2 := fun x y => by
    unfold wh
    split
    · split <;> omega
    · omega
  have le1 : ∀ x y, ((highP l).2 ≤ y ∨ y ≤ (lowP l).2 ∨ (highP l).1 ≤ x ∨ x ≤ (lowP l).1) → wh (PQ (fn l)) l.length (cQ (x, y)) + 1 ≤ 1 := fun x y k => by
    have := (edge_int h k).1
    omega
  have rowE : ∀ y, ((highP l).2 ≤ y ∨ y ≤ (lowP l).2) → sm (fun t => wh (PQ (fn l)) l.length (cQ ((lowP l).1 + (t : Int), y)) + 1) (a + 2) ≤ a + 2 := fun y k => by
    have := sm_le (f := fun t : Nat => wh (PQ (fn l)) l.length (cQ ((lowP l).1 + (t : Int), y)) + 1) (g := fun _ => 1) (a + 2) (fun t _ => le1 _ _ (by omega))
    rw [sm_const] at this
    omega
  have rowI : ∀ y, sm (fun t => wh (PQ (fn l)) l.length (cQ ((lowP l).1 + (t : Int), y)) + 1) (a + 2) ≤ 2 * a + 2 := fun y => by
    rw [sm_ends]
    have k1 := le1 ((lowP l).1 + ((0 : Nat) : Int)) y (by omega)
    have k2 := le1 ((lowP l).1 + ((a + 1 : Nat) : Int)) y (by omega)
    have k3 := sm_le (f := fun j : Nat => wh (PQ (fn l)) l.length (cQ ((lowP l).1 + ((j + 1 : Nat) : Int), y)) + 1) (g := fun _ => 2) a (fun t _ => le2 _ _)
    rw [sm_const] at k3
    omega
  unfold bs at hp
  rw [sm_ends] at hp
  dsimp only at hp
  have r1 := rowE ((lowP l).2 + ((0 : Nat) : Int)) (by omega)
  have r2 := rowE ((lowP l).2 + ((b + 1 : Nat) : Int)) (by omega)
  have r3 := sm_le (f := fun s : Nat => sm (fun t => wh (PQ (fn l)) l.length (cQ ((lowP l).1 + (t : Int), (lowP l).2 + ((s + 1 : Nat) : Int))) + 1) (a + 2)) (g := fun _ => 2 * (a : Int) + 2) b (fun s _ => rowI _)
  rw [sm_const] at r3
  rw [hA, hB]
  have q1 : 2 * ((a : Int) + 1) * ((b : Int) + 1) = 2 * ((a : Int) * b) + 2 * a + 2 * b + 2 := by grind
  have q2 : (2 * (a : Int) + 2) * b = 2 * ((a : Int) * b) + 2 * b := by grind
  rw [q1]
  rw [q2] at r3
  generalize (a : Int) * b = c at *
  omega
theorem count_all {l : List Pl} (h : validB l = true) : sm (fun t => sm (fun s => whereV l ((lowP l).1 + (t : Int)) ((lowP l).2 + (s : Int)) + 1) (hgN l)) (wdN l) = twiceV l + 2 := by
  rw [← pick_valid h]
  unfold bs
  rw [sm_swap (fun t s => whereV l ((lowP l).1 + (t : Int)) ((lowP l).2 + (s : Int)) + 1) (hgN l) (wdN l)]
  have hl : 0 < l.length := by have := (valid_len h).1; omega
  refine sm_congr _ fun s hs => sm_congr _ fun t ht => ?_
  rw [whereV_wh h]
  -- the box is on the grid
  have hd : l ≠ [] := List.length_pos_iff.1 hl
  have on0 := fun p (hp : p ∈ l) => valid_on h p hp
  have m1 : ∃ p ∈ l, (lowP l).1 = p.1 := by
    unfold lowP
    rw [if_pos h]
    rcases min_mem (nth l 0).1 (l.map (·.1)) with k | k
    · exact ⟨_, nth_mem hd 0, k⟩
    · obtain ⟨p, hp, e⟩ := List.mem_map.1 k
      exact ⟨p, hp, e.symm⟩
  have m2 : ∃ p ∈ l, (lowP l).2 = p.2 := by
    unfold lowP
    rw [if_pos h]
    rcases min_mem (nth l 0).2 (l.map (·.2)) with k | k
    · exact ⟨_, nth_mem hd 0, k⟩
    · obtain ⟨p, hp, e⟩ := List.mem_map.1 k
      exact ⟨p, hp, e.symm⟩
  have m3 : ∃ p ∈ l, (highP l).1 = p.1 := by
    unfold highP
    rw [if_pos h]
    rcases max_mem (nth l 0).1 (l.map (·.1)) with k | k
    · exact ⟨_, nth_mem hd 0, k⟩
    · obtain ⟨p, hp, e⟩ := List.mem_map.1 k
      exact ⟨p, hp, e.symm⟩
  have m4 : ∃ p ∈ l, (highP l).2 = p.2 := by
    unfold highP
    rw [if_pos h]
    rcases max_mem (nth l 0).2 (l.map (·.2)) with k | k
    · exact ⟨_, nth_mem hd 0, k⟩
    · obtain ⟨p, hp, e⟩ := List.mem_map.1 k
      exact ⟨p, hp, e.symm⟩
  obtain ⟨p1, hp1, q1⟩ := m1
  obtain ⟨p2, hp2, q2⟩ := m2
  obtain ⟨p3, hp3, q3⟩ := m3
  obtain ⟨p4, hp4, q4⟩ := m4
  obtain ⟨⟨o1, -⟩, -⟩ := on0 p1 hp1
  obtain ⟨-, o2, -⟩ := on0 p2 hp2
  obtain ⟨⟨-, o3⟩, -⟩ := on0 p3 hp3
  obtain ⟨-, -, o4⟩ := on0 p4 hp4
  unfold hgN at hs
  unfold wdN at ht
  exact ⟨⟨by omega, by omega⟩, by omega, by omega⟩
end Go.Proofs.Ytohkmkkcblbemaa.Ge
