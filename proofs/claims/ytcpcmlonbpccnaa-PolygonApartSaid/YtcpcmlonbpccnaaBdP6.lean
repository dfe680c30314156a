/- Valid rings are simple rings: what Where, Twice and Box say of them, by Jordan and Pick. -/
import Derived.Test.YtcpcmlonbpccnaaBdP4
import Derived.Test.YtcpcmlonbpccnaaBdP5
namespace Go.Proofs.Ytcpcmlonbpccnaa.Ge
set_option linter.unusedVariables false
set_option linter.unusedSimpArgs false
open Jr

/-- the ring as a function of the number of its point -/
def fn (l : List Pl) (i : Nat) : Int × Int := nth l i
theorem cast_area (ax ay bx bz cx cy : Int) : cr (sb (cQ (bx, bz)) (cQ (ax, ay))) (sb (cQ (cx, cy)) (cQ (ax, ay))) = ((areaN ax ay bx bz cx cy : Int) : Rat) := by
  unfold areaN cr sb cQ
  simp only [Rat.intCast_sub, Rat.intCast_mul]
theorem cast_pos {a : Int} : (0 : Rat) < (a : Rat) ↔ 0 < a := by
  rw [show (0 : Rat) = ((0 : Int) : Rat) from rfl, Rat.intCast_lt_intCast]
theorem cast_neg {a : Int} : (a : Rat) < 0 ↔ a < 0 := by
  rw [show (0 : Rat) = ((0 : Int) : Rat) from rfl, Rat.intCast_lt_intCast]
theorem cast_zero {a : Int} : (a : Rat) = 0 ↔ a = 0 := by
  rw [show (0 : Rat) = ((0 : Int) : Rat) from rfl, Rat.intCast_inj]
theorem cast_le0 {a : Int} : (a : Rat) ≤ 0 ↔ a ≤ 0 := by
  rw [show (0 : Rat) = ((0 : Int) : Rat) from rfl, Rat.intCast_le_intCast]
theorem cast_ge0 {a : Int} : (0 : Rat) ≤ (a : Rat) ↔ 0 ≤ a := by
  rw [show (0 : Rat) = ((0 : Int) : Rat) from rfl, Rat.intCast_le_intCast]
/-- a place of a segment -/
theorem has_pt {a b p : Int × Int} {t : Rat} (t0 : 0 ≤ t) (t1 : t ≤ 1) (e : cQ p = pt (cQ a) (cQ b) t) : hasB a.1 a.2 b.1 b.2 p.1 p.2 = true := by
  have x1 : (p.1 : Rat) = a.1 + t * (b.1 - a.1) := congrArg Prod.fst e
  have x2 : (p.2 : Rat) = a.2 + t * (b.2 - a.2) := congrArg Prod.snd e
  unfold hasB
  rw [decide_eq_true_eq]
  unfold hasP
  split
  · next h =>
    obtain ⟨h1, h2⟩ := h
    constructor
    · apply Rat.intCast_inj.1
      rw [x1, h1]
      grind
    · apply Rat.intCast_inj.1
      rw [x2, h2]
      grind
  · have ea : ((areaN a.1 a.2 b.1 b.2 p.1 p.2 : Int) : Rat) = 0 := by
      unfold areaN
      simp only [Rat.intCast_sub, Rat.intCast_mul, x1, x2]
      grind
    have n1 := sq_nonneg (b.1 - a.1)
    have n2 := sq_nonneg (b.2 - a.2)
    have nd : 0 ≤ (distN a.1 a.2 b.1 b.2 : Int) := by unfold distN alongN; omega
    have n3 : (0 : Rat) ≤ ((distN a.1 a.2 b.1 b.2 : Int) : Rat) := cast_ge0.2 nd
    have el : ((alongN a.1 a.2 b.1 b.2 p.1 p.2 : Int) : Rat) = t * ((distN a.1 a.2 b.1 b.2 : Int) : Rat) := by
      unfold distN alongN
      simp only [Rat.intCast_add, Rat.intCast_sub, Rat.intCast_mul, x1, x2]
      grind
    refine ⟨cast_zero.1 ea, cast_ge0.1 ?_, Rat.intCast_le_intCast.1 ?_⟩
    · rw [el]
      exact Rat.mul_nonneg t0 n3
    · rw [el]
      have := Rat.mul_nonneg (a := 1 - t) (b := ((distN a.1 a.2 b.1 b.2 : Int) : Rat)) (by grind) n3
      grind
theorem pt_has {a b p : Int × Int} (h : hasB a.1 a.2 b.1 b.2 p.1 p.2 = true) : ∃ t : Rat, 0 ≤ t ∧ t ≤ 1 ∧ cQ p = pt (cQ a) (cQ b) t := by
  unfold hasB at h
  rw [decide_eq_true_eq] at h
  unfold hasP at h
  split at h
  · refine ⟨0, by grind, by grind, ?_⟩
    rw [pt_zero, show p = a from Prod.ext h.1 h.2]
  · next hn =>
    obtain ⟨h1, h2, h3⟩ := h
    have hd : 0 < distN a.1 a.2 b.1 b.2 := by
      rcases Int.lt_or_le 0 (distN a.1 a.2 b.1 b.2) with k | k
      · exact k
      · exfalso
        have := dist_nonneg a.1 a.2 b.1 b.2
        exact hn (dist_zero (by omega))
    obtain ⟨N, hN⟩ : ∃ N : Rat, N = ((distN a.1 a.2 b.1 b.2 : Int) : Rat) := ⟨_, rfl⟩
    obtain ⟨L, hL⟩ : ∃ L : Rat, L = ((alongN a.1 a.2 b.1 b.2 p.1 p.2 : Int) : Rat) := ⟨_, rfl⟩
    have hN0 : 0 < N := by rw [hN]; exact cast_pos.2 hd
    have hL0 : 0 ≤ L := by rw [hL]; exact cast_ge0.2 h2
    have hL1 : L ≤ N := by rw [hL, hN]; exact Rat.intCast_le_intCast.2 h3
    obtain ⟨t0, t1⟩ := div_in (x := L) (k := N) (.inl ⟨hN0, hL0, hL1⟩)
    have ea : ((areaN a.1 a.2 b.1 b.2 p.1 p.2 : Int) : Rat) = 0 := cast_zero.2 h1
    unfold areaN at ea
    unfold distN alongN at hN
    unfold alongN at hL
    simp only [Rat.intCast_add, Rat.intCast_sub, Rat.intCast_mul] at ea hN hL
    refine ⟨L / N, t0, t1, ?_⟩
    have i1 : N * ((p.1 : Rat) - a.1) = L * ((b.1 : Rat) - a.1) := by rw [hN, hL]; grind
    have i2 : N * ((p.2 : Rat) - a.2) = L * ((b.2 : Rat) - a.2) := by rw [hN, hL]; grind
    have j1 := div_eq' hN0 i1
    have j2 := div_eq' hN0 i2
    unfold pt cQ
    refine Prod.ext ?_ ?_ <;> show _ = _ <;> grind
/-- sides that do not meet are apart -/
theorem sep_cross {a b c d : Int × Int} (hab : a ≠ b) (hcd : c ≠ d) (ha : onP a.1 a.2) (hb : onP b.1 b.2) (hc : onP c.1 c.2) (hd : onP d.1 d.2)
    (h : crossV a.1 a.2 b.1 b.2 c.1 c.2 d.1 d.2 = 0) : Sep (cQ a) (cQ b) (cQ c) (cQ d) := by
  have ne : ∀ u v : Int × Int, u ≠ v → (sb (cQ v) (cQ u)).1 ≠ 0 ∨ (sb (cQ v) (cQ u)).2 ≠ 0 := fun u v k => by
    rw [sb_cast]
    simp only [ne_eq, cast_zero]
    rcases (by omega : v.1 - u.1 ≠ 0 ∨ v.1 - u.1 = 0) with m | m
    · exact .inl m
    · refine .inr fun m2 => k (Prod.ext (by omega) (by omega))
  unfold crossV at h
  rw [if_pos ⟨ha, hb, hc, hd⟩] at h
  by_cases hap : apartB a.1 a.2 b.1 b.2 c.1 c.2 d.1 d.2 = true ∧ apartB c.1 c.2 d.1 d.2 a.1 a.2 b.1 b.2 = true
  · rw [if_pos hap] at h
    omega
  rw [if_neg hap] at h
  by_cases hh : hasB a.1 a.2 b.1 b.2 c.1 c.2 = true ∨ hasB a.1 a.2 b.1 b.2 d.1 d.2 = true ∨ hasB c.1 c.2 d.1 d.2 a.1 a.2 = true ∨ hasB c.1 c.2 d.1 d.2 b.1 b.2 = true
  · rw [if_pos hh] at h
    omega
  rcases sep_or_meet (ne a b hab) (ne c d hcd) with k | ⟨s, t, s0, s1, t0, t1, e⟩
  · exact k
  exfalso
  refine hh ?_
  rcases (by grind : s = 0 ∨ s = 1 ∨ t = 0 ∨ t = 1 ∨ (0 < s ∧ s < 1 ∧ 0 < t ∧ t < 1)) with k | k | k | k | ⟨k1, k2, k3, k4⟩
  · rw [k, pt_zero] at e
    exact .inr (.inr (.inl (has_pt t0 t1 e)))
  · rw [k, pt_one] at e
    exact .inr (.inr (.inr (has_pt t0 t1 e)))
  · rw [k, pt_zero] at e
    exact .inl (has_pt s0 s1 e.symm)
  · rw [k, pt_one] at e
    exact .inr (.inl (has_pt s0 s1 e.symm))
  -- both inside: a crossing, or all on one line
  obtain ⟨f1, hf1⟩ : ∃ x : Rat, x = ((areaN c.1 c.2 d.1 d.2 a.1 a.2 : Int) : Rat) := ⟨_, rfl⟩
  obtain ⟨f2, hf2⟩ : ∃ x : Rat, x = ((areaN c.1 c.2 d.1 d.2 b.1 b.2 : Int) : Rat) := ⟨_, rfl⟩
  obtain ⟨g1, hg1⟩ : ∃ x : Rat, x = ((areaN a.1 a.2 b.1 b.2 c.1 c.2 : Int) : Rat) := ⟨_, rfl⟩
  obtain ⟨g2, hg2⟩ : ∃ x : Rat, x = ((areaN a.1 a.2 b.1 b.2 d.1 d.2 : Int) : Rat) := ⟨_, rfl⟩
  have x1 : (a.1 : Rat) + s * (b.1 - a.1) = c.1 + t * (d.1 - c.1) := congrArg Prod.fst e
  have x2 : (a.2 : Rat) + s * (b.2 - a.2) = c.2 + t * (d.2 - c.2) := congrArg Prod.snd e
  have w1 : (1 - s) * f1 + s * f2 = 0 := by
    rw [hf1, hf2]
    unfold areaN
    simp only [Rat.intCast_sub, Rat.intCast_mul]
    grind
  have w2 : (1 - t) * g1 + t * g2 = 0 := by
    rw [hg1, hg2]
    unfold areaN
    simp only [Rat.intCast_sub, Rat.intCast_mul]
    grind
  have opp : ∀ {r u v : Rat}, 0 < r → r < 1 → (1 - r) * u + r * v = 0 → (u = 0 ∧ v = 0) ∨ (u < 0 ∧ 0 < v) ∨ (0 < u ∧ v < 0) := fun {r u v} r0 r1 hw => by
    have m1 := sgnmul (1 - r) u
    have m2 := sgnmul r v
    have z1 : u = 0 → (1 - r) * u = 0 := fun k => by rw [k]; grind
    have z2 : v = 0 → r * v = 0 := fun k => by rw [k]; grind
    grind
  have sg : ∀ {m n : Int}, ((m : Rat) < 0 ∧ 0 < (n : Rat)) ∨ (0 < (m : Rat) ∧ (n : Rat) < 0) → sgnI m * sgnI n < 0 := fun {m n} k => by
    rw [cast_neg, cast_pos, cast_pos, cast_neg] at k
    rcases k with ⟨k1, k2⟩ | ⟨k1, k2⟩
    · rw [show sgnI m = -1 by unfold sgnI; rw [if_pos k1], show sgnI n = 1 by unfold sgnI; rw [if_neg (by omega), if_pos k2]]
      decide
    · rw [show sgnI n = -1 by unfold sgnI; rw [if_pos k2], show sgnI m = 1 by unfold sgnI; rw [if_neg (by omega), if_pos k1]]
      decide
  have par : f1 - f2 = g2 - g1 := by
    rw [hf1, hf2, hg1, hg2]
    unfold areaN
    simp only [Rat.intCast_sub, Rat.intCast_mul]
    grind
  rcases opp k1 k2 w1 with ⟨z1, z2⟩ | o1
  · rcases opp k3 k4 w2 with ⟨z3, z4⟩ | o2
    · -- all on one line
      obtain ⟨N, hN⟩ : ∃ N : Rat, N = ((distN c.1 c.2 d.1 d.2 : Int) : Rat) := ⟨_, rfl⟩
      have hN0 : 0 < N := by
        rw [hN, cast_pos]
        rcases Int.lt_or_le 0 (distN c.1 c.2 d.1 d.2) with k | k
        · exact k
        · exfalso
          have := dist_nonneg c.1 c.2 d.1 d.2
          obtain ⟨y1, y2⟩ := dist_zero (show distN c.1 c.2 d.1 d.2 = 0 by omega)
          exact hcd (Prod.ext y1 y2)
      obtain ⟨pa, hpa⟩ : ∃ x : Rat, x = ((alongN c.1 c.2 d.1 d.2 a.1 a.2 : Int) : Rat) := ⟨_, rfl⟩
      obtain ⟨pb, hpb⟩ : ∃ x : Rat, x = ((alongN c.1 c.2 d.1 d.2 b.1 b.2 : Int) : Rat) := ⟨_, rfl⟩
      have wp : (1 - s) * pa + s * pb = t * N := by
        rw [hpa, hpb, hN]
        unfold distN alongN
        simp only [Rat.intCast_add, Rat.intCast_sub, Rat.intCast_mul]
        grind
      have zf1 := z1
      have zf2 := z2
      rw [hf1] at zf1
      rw [hf2] at zf2
      have nab : ¬ (c.1 = d.1 ∧ c.2 = d.2) := fun k => hcd (Prod.ext k.1 k.2)
      by_cases ia : 0 ≤ pa ∧ pa ≤ N
      · right; right; left
        unfold hasB
        rw [decide_eq_true_eq]
        unfold hasP
        rw [if_neg nab]
        exact ⟨cast_zero.1 zf1, cast_ge0.1 (by rw [← hpa]; exact ia.1), Rat.intCast_le_intCast.1 (by rw [← hpa, ← hN]; exact ia.2)⟩
      by_cases ib : 0 ≤ pb ∧ pb ≤ N
      · right; right; right
        unfold hasB
        rw [decide_eq_true_eq]
        unfold hasP
        rw [if_neg nab]
        exact ⟨cast_zero.1 zf2, cast_ge0.1 (by rw [← hpb]; exact ib.1), Rat.intCast_le_intCast.1 (by rw [← hpb, ← hN]; exact ib.2)⟩
      · left
        have tN := Rat.mul_pos k3 hN0
        have tN2 := Rat.mul_pos (a := 1 - t) (b := N) (by grind) hN0
        have ma := sgnmul (1 - s) pa
        have mb := sgnmul s pb
        have ma2 := sgnmul (1 - s) (pa - N)
        have mb2 := sgnmul s (pb - N)
        have wp2 : (1 - s) * (pa - N) + s * (pb - N) = -((1 - t) * N) := by grind
        have ways : (pa < 0 ∧ N < pb) ∨ (N < pa ∧ pb < 0) := by
          rcases (by grind : pa < 0 ∨ N < pa) with k | k <;> rcases (by grind : pb < 0 ∨ N < pb) with k' | k'
          · exfalso; grind
          · exact .inl ⟨k, k'⟩
          · exact .inr ⟨k, k'⟩
          · exfalso; grind
        have hne : pb - pa ≠ 0 := by grind
        obtain ⟨u0, u1⟩ := div_in (x := -pa) (k := pb - pa) (by grind)
        obtain ⟨r, hr⟩ : ∃ r, r = -pa / (pb - pa) := ⟨_, rfl⟩
        have er : r * (pb - pa) = -pa := by rw [hr]; grind
        rw [← hr] at u0 u1
        refine has_pt u0 u1 ?_
        have q : ∀ x : Int × Int, ((areaN c.1 c.2 d.1 d.2 x.1 x.2 : Int) : Rat) = 0 → N * ((x.1 : Rat) - c.1) = ((alongN c.1 c.2 d.1 d.2 x.1 x.2 : Int) : Rat) * ((d.1 : Rat) - c.1) ∧ N * ((x.2 : Rat) - c.2) = ((alongN c.1 c.2 d.1 d.2 x.1 x.2 : Int) : Rat) * ((d.2 : Rat) - c.2) := by
          intro x hx
          rw [hN]
          unfold areaN at hx
          unfold distN alongN
          simp only [Rat.intCast_add, Rat.intCast_sub, Rat.intCast_mul] at hx ⊢
          constructor <;> grind
        obtain ⟨qa1, qa2⟩ := q a zf1
        obtain ⟨qb1, qb2⟩ := q b zf2
        rw [← hpa] at qa1 qa2
        rw [← hpb] at qb1 qb2
        have y1 : N * ((a.1 : Rat) - c.1 + r * (b.1 - a.1)) = 0 := by grind
        have y2 : N * ((a.2 : Rat) - c.2 + r * (b.2 - a.2)) = 0 := by grind
        unfold pt cQ
        refine Prod.ext ?_ ?_ <;> show _ = _
        · rcases Rat.mul_eq_zero.1 y1 with m | m <;> grind
        · rcases Rat.mul_eq_zero.1 y2 with m | m <;> grind
    · exfalso; grind
  · rcases opp k3 k4 w2 with ⟨z3, z4⟩ | o2
    · exfalso; grind
    · exfalso
      refine hap ⟨?_, ?_⟩
      · unfold apartB
        rw [decide_eq_true_eq]
        rw [hf1, hf2] at o1
        exact sg o1
      · unfold apartB
        rw [decide_eq_true_eq]
        rw [hg1, hg2] at o2
        exact sg o2
end Go.Proofs.Ytcpcmlonbpccnaa.Ge

/- Valid rings are simple rings: Where is 1 inside, 0 on the ring, -1 outside; what is counted; the box. -/
namespace Go.Proofs.Ytcpcmlonbpccnaa.Ge
set_option linter.unusedVariables false
set_option linter.unusedSimpArgs false
open Jr

theorem valid_parts {l : List Pl} (h : validB l = true) : 3 ≤ l.length ∧ l.length ≤ 40 ∧ bendsB l = true ∧ 0 < areaS l ∧ simpleB l = true := by
  unfold validB at h
  simp only [Bool.and_eq_true, decide_eq_true_eq] at h
  exact ⟨h.1, h.2.1, h.2.2.1, h.2.2.2.1, h.2.2.2.2⟩
theorem fn_per (l : List Pl) (i : Nat) : fn l (i + l.length) = fn l i := nth_add l i
theorem bend_area {l : List Pl} (h : validB l = true) (i : Nat) : areaN (fn l i).1 (fn l i).2 (fn l (i + 1)).1 (fn l (i + 1)).2 (fn l (i + 2)).1 (fn l (i + 2)).2 ≠ 0 := by
  obtain ⟨h3, -, hb, -, -⟩ := valid_parts h
  have hl : 0 < l.length := by omega
  have hb' := List.all_eq_true.1 hb (i % l.length) (List.mem_range.2 (Nat.mod_lt _ hl))
  have e : ∀ k, nth l (i % l.length + k) = nth l (i + k) := fun k => nth_congr (by rw [Nat.mod_add_mod])
  have ho := fun k => onL_nth (valid_on h) hl (i + k)
  unfold turnAt at hb'
  rw [show nth l (i % l.length) = nth l (i % l.length + 0) from rfl, e, e, e] at hb'
  rw [turn_on (ho 0) (ho 1) (ho 2)] at hb'
  intro k
  rw [show areaN (nth l (i + 0)).1 (nth l (i + 0)).2 (nth l (i + 1)).1 (nth l (i + 1)).2 (nth l (i + 2)).1 (nth l (i + 2)).2 = 0 from k] at hb'
  exact absurd hb' (by decide)
theorem fn_ne {l : List Pl} (h : validB l = true) (i : Nat) : fn l (i + 1) ≠ fn l i := by
  intro e
  refine bend_area h i ?_
  rw [e]
  unfold areaN
  grind
theorem free_all {l : List Pl} (h : validB l = true) {i k : Nat} (hk : 1 ≤ k) (hn : k < l.length) : freeB (sideAt l (i + k)) (sideAt l i) = true := by
  obtain ⟨h3, -, -, -, hs⟩ := valid_parts h
  have hl : 0 < l.length := by omega
  have e : ∀ j, sideAt l (j % l.length) = sideAt l j := fun j => by
    unfold sideAt
    rw [nth_mod, nth_congr (l := l) (i := j % l.length + 1) (j := j + 1) (by rw [Nat.mod_add_mod])]
  have free : ∀ a b, a < l.length → b < a → freeB (sideAt l a) (sideAt l b) = true := fun a b ha hb => by
    have := List.all_eq_true.1 (List.all_eq_true.1 hs a (List.mem_range.2 ha)) b (List.mem_range.2 hb)
    exact this
  rw [← e (i + k), ← e i]
  have ha := Nat.mod_lt (i + k) hl
  have hb := Nat.mod_lt i hl
  have hne : (i + k) % l.length ≠ i % l.length := by
    intro q
    have h1 := Nat.mod_add_div (i + k) l.length
    have h2 := Nat.mod_add_div i l.length
    have h4 : l.length * ((i + k) / l.length) = l.length * (i / l.length) + k := by omega
    rcases Nat.lt_or_ge ((i + k) / l.length) (i / l.length + 1) with m | m
    · have := Nat.mul_le_mul_left l.length (show (i + k) / l.length ≤ i / l.length by omega)
      omega
    · have := Nat.mul_le_mul_left l.length m
      rw [Nat.mul_add] at this
      omega
  rcases Nat.lt_or_ge (i % l.length) ((i + k) % l.length) with m | m
  · exact free _ _ ha m
  · rw [free_symm]
    exact free _ _ hb (by omega)
theorem fn_far {l : List Pl} (h : validB l = true) {i k : Nat} (hk : 1 ≤ k) (hn : k < l.length) : fn l (i + k) ≠ fn l i := by
  intro e
  obtain ⟨h3, -, -, -, -⟩ := valid_parts h
  have hl : 0 < l.length := by omega
  -- the sides that end there
  have hf := free_all h (i := i + (l.length - 1)) hk hn
  have e1 : nth l (i + (l.length - 1) + 1) = nth l i := by rw [show i + (l.length - 1) + 1 = i + l.length by omega]; exact nth_add l i
  have e2 : nth l (i + (l.length - 1) + k + 1) = nth l (i + k) := by rw [show i + (l.length - 1) + k + 1 = i + k + l.length by omega]; exact nth_add l _
  have n1 := fn_ne h (i + (l.length - 1))
  have n2 := fn_ne h (i + (l.length - 1) + k)
  have ho := fun j => onL_nth (valid_on h) hl j
  unfold fn at e n1 n2
  rw [e1] at n1
  rw [e2, e] at n2
  unfold freeB sideAt crossS at hf
  simp only [e1, e2, e] at hf
  rw [Bool.or_eq_true, Bool.or_eq_true] at hf
  rcases hf with k1 | k1 | k1
  · exact n2 (eq_of_beq k1).symm
  · exact n1 (eq_of_beq k1).symm
  · have k2 := eq_of_beq k1
    have hh := has_last (nth l (i + (l.length - 1) + k)).1 (nth l (i + (l.length - 1) + k)).2 (nth l i).1 (nth l i).2
    unfold crossV at k2
    rw [if_pos ⟨ho _, ho _, ho _, ho _⟩] at k2
    split at k2
    · omega
    · rw [if_pos (.inr (.inl hh))] at k2
      omega
theorem valid_ring {l : List Pl} (h : validB l = true) : Ring (PQ (fn l)) l.length where
  n3 := (valid_len h).1
  per i := congrArg cQ (fn_per l i)
  sep i k k2 kn := by
    have hl : 0 < l.length := by have := (valid_len h).1; omega
    have hf := free_all h (i := i) (k := k) (by omega) (by omega)
    have ho := fun j => onL_nth (valid_on h) hl j
    have n1 : fn l (i + k) ≠ fn l (i + 1) := by
      have := fn_far h (i := i + 1) (k := k - 1) (by omega) (by omega)
      rw [show i + 1 + (k - 1) = i + k by omega] at this
      exact this
    have n2 : fn l i ≠ fn l (i + k + 1) := by
      have := fn_far h (i := i) (k := k + 1) (by omega) (by omega)
      exact fun e => this e.symm
    unfold freeB sideAt crossS at hf
    rw [Bool.or_eq_true, Bool.or_eq_true] at hf
    rcases hf with k1 | k1 | k1
    · exact absurd (eq_of_beq k1) n1
    · exact absurd (eq_of_beq k1) n2
    · exact sep_cross (fun e => fn_ne h (i + k) e.symm) (fun e => fn_ne h i e.symm) (ho _) (ho _) (ho _) (ho _) (eq_of_beq k1)
  ne i := by
    have := fn_ne h i
    show (sb (cQ (fn l (i + 1))) (cQ (fn l i))).1 ≠ 0 ∨ (sb (cQ (fn l (i + 1))) (cQ (fn l i))).2 ≠ 0
    rw [sb_cast]
    simp only [ne_eq, cast_zero]
    rcases (by omega : (fn l (i + 1)).1 - (fn l i).1 ≠ 0 ∨ (fn l (i + 1)).1 - (fn l i).1 = 0) with m | m
    · exact .inl m
    · exact .inr fun m2 => this (Prod.ext (by omega) (by omega))
  opp i := by
    have ha := bend_area h i
    intro o
    have : ((areaN (fn l i).1 (fn l i).2 (fn l (i + 1)).1 (fn l (i + 1)).2 (fn l (i + 2)).1 (fn l (i + 2)).2 : Int) : Rat) = 0 := by
      have h1 := o.1
      unfold PQ cr sb cQ at h1
      unfold areaN
      simp only [Rat.intCast_sub, Rat.intCast_mul]
      grind
    exact ha (cast_zero.1 this)
theorem sum_sm (F : Nat → Int) : ∀ n, ((List.range n).map F).sum = sm F n
  | 0 => rfl
  | n + 1 => by rw [List.range_succ, List.map_append, List.sum_append, sum_sm F n, sm]; simp
theorem sumS_sm (f : Sd → Int) (l : List Pl) : sumS f (sidesL l) = sm (fun j => f (sideAt l j)) l.length := by
  unfold sumS sidesL
  rw [List.map_map, sum_sm]
  rfl
theorem area_sm (l : List Pl) : areaS l = area2 (fn l) l.length := sumS_sm _ _
/-- a place by twice its coordinates -/
def hq (p : Int × Int) : Q2 := ((p.1 : Rat) / 2, (p.2 : Rat) / 2)
theorem hq_cQ (x y : Int) : hq (x + x, y + y) = cQ (x, y) := by
  unfold hq cQ
  simp only [Rat.intCast_add]
  refine Prod.ext ?_ ?_ <;> show _ = _ <;> grind
theorem tu_cr (a b p : Int × Int) : ((tuN a.1 a.2 b.1 b.2 p.1 p.2 : Int) : Rat) = 2 * cr (sb (cQ a) (hq p)) (sb (cQ b) (hq p)) := by
  unfold tuN cr sb cQ hq
  have : ((2 : Int) : Rat) = 2 := rfl
  simp only [Rat.intCast_sub, Rat.intCast_mul, this]
  grind
theorem half_le {a p : Int} : (a : Rat) - (p : Rat) / 2 ≤ 0 ↔ 2 * a ≤ p := by
  rw [← Rat.intCast_le_intCast, Rat.intCast_mul]
  have : ((2 : Int) : Rat) = 2 := rfl
  rw [this]
  constructor <;> intro h <;> grind
theorem half_lt {a p : Int} : 0 < (a : Rat) - (p : Rat) / 2 ↔ p < 2 * a := by
  rw [← Rat.intCast_lt_intCast, Rat.intCast_mul]
  have : ((2 : Int) : Rat) = 2 := rfl
  rw [this]
  constructor <;> intro h <;> grind
theorem pass_sx (l : List Pl) (j : Nat) (p : Int × Int) : passS p (sideAt l j) = sx (PQ (fn l)) j (hq p) := by
  have ht := tu_cr (nth l j) (nth l (j + 1)) p
  have h1 : (0 < tuN (nth l j).1 (nth l j).2 (nth l (j + 1)).1 (nth l (j + 1)).2 p.1 p.2) = (0 < cr (sb (cQ (nth l j)) (hq p)) (sb (cQ (nth l (j + 1))) (hq p))) := by
    rw [← cast_pos, ht]
    apply propext
    constructor <;> intro h <;> grind
  have h2 : (tuN (nth l j).1 (nth l j).2 (nth l (j + 1)).1 (nth l (j + 1)).2 p.1 p.2 < 0) = (cr (sb (cQ (nth l j)) (hq p)) (sb (cQ (nth l (j + 1))) (hq p)) < 0) := by
    rw [← cast_neg, ht]
    apply propext
    constructor <;> intro h <;> grind
  have a1 : ((sb (cQ (nth l j)) (hq p)).2 ≤ 0) = (2 * (nth l j).2 ≤ p.2) := propext half_le
  have a2 : (0 < (sb (cQ (nth l j)) (hq p)).2) = (p.2 < 2 * (nth l j).2) := propext half_lt
  have b1 : ((sb (cQ (nth l (j + 1))) (hq p)).2 ≤ 0) = (2 * (nth l (j + 1)).2 ≤ p.2) := propext half_le
  have b2 : (0 < (sb (cQ (nth l (j + 1))) (hq p)).2) = (p.2 < 2 * (nth l (j + 1)).2) := propext half_lt
  show paV (nth l j).1 (nth l j).2 (nth l (j + 1)).1 (nth l (j + 1)).2 p.1 p.2 = chi (sb (cQ (nth l j)) (hq p)) (sb (cQ (nth l (j + 1))) (hq p))
  unfold paV chi
  simp only [a1, a2, b1, b2, h1, h2]
theorem has_side {a b p : Int × Int} (hab : a ≠ b) : hsB a.1 a.2 b.1 b.2 p.1 p.2 = true ↔ ∃ t : Rat, 0 ≤ t ∧ t ≤ 1 ∧ hq p = pt (cQ a) (cQ b) t := by
  have ht := tu_cr a b p
  have hl : ((loN a.1 a.2 b.1 b.2 p.1 p.2 : Int) : Rat) = 4 * dt (sb (cQ a) (hq p)) (sb (cQ b) (hq p)) := by
    unfold loN dt sb cQ hq
    have : ((2 : Int) : Rat) = 2 := rfl
    simp only [Rat.intCast_add, Rat.intCast_sub, Rat.intCast_mul, this]
    grind
  have h1 : hsB a.1 a.2 b.1 b.2 p.1 p.2 = true ↔ cr (sb (cQ a) (hq p)) (sb (cQ b) (hq p)) = 0 ∧ dt (sb (cQ a) (hq p)) (sb (cQ b) (hq p)) ≤ 0 := by
    unfold hsB
    rw [Bool.and_eq_true, decide_eq_true_eq, decide_eq_true_eq, ← cast_zero, ← cast_le0, ht, hl]
    constructor
    · rintro ⟨k1, k2⟩
      constructor <;> grind
    · rintro ⟨k1, k2⟩
      constructor <;> grind
  rw [h1]
  generalize hq p = q
  have hN : 0 < (sb (cQ b) (cQ a)).1 * (sb (cQ b) (cQ a)).1 + (sb (cQ b) (cQ a)).2 * (sb (cQ b) (cQ a)).2 := by
    refine sq_pos' _ ?_
    rw [sb_cast]
    simp only [ne_eq, cast_zero]
    rcases (by omega : b.1 - a.1 ≠ 0 ∨ b.1 - a.1 = 0) with m | m
    · exact .inl m
    · exact .inr fun m2 => hab (Prod.ext (by omega) (by omega))
  generalize cQ a = u at *
  generalize cQ b = v at *
  obtain ⟨N, hNe⟩ : ∃ N, N = (sb v u).1 * (sb v u).1 + (sb v u).2 * (sb v u).2 := ⟨_, rfl⟩
  rw [← hNe] at hN
  constructor
  · rintro ⟨k1, k2⟩
    obtain ⟨L, hL⟩ : ∃ L, L = dt (sb v u) (sb q u) := ⟨_, rfl⟩
    have i1 : N * (q.1 - u.1) = L * (v.1 - u.1) := by rw [hNe, hL]; unfold cr dt sb at *; grind
    have i2 : N * (q.2 - u.2) = L * (v.2 - u.2) := by rw [hNe, hL]; unfold cr dt sb at *; grind
    have j1 := div_eq' hN i1
    have j2 := div_eq' hN i2
    obtain ⟨t, htt⟩ : ∃ t, t = L / N := ⟨_, rfl⟩
    rw [← htt] at j1 j2
    have e : dt (sb u q) (sb v q) = -(t * (1 - t)) * N := by rw [hNe]; unfold dt sb; grind
    have m0 : 0 ≤ t * (1 - t) := by
      rcases (by grind : t * (1 - t) < 0 ∨ 0 ≤ t * (1 - t)) with k | k
      · have := Rat.mul_pos (a := -(t * (1 - t))) (b := N) (by grind) hN
        grind
      · exact k
    have s := sgnmul t (1 - t)
    refine ⟨t, ?_, ?_, ?_⟩
    · grind
    · grind
    · unfold pt
      refine Prod.ext ?_ ?_ <;> show _ = _ <;> grind
  · rintro ⟨t, t0, t1, e⟩
    have x1 : q.1 = u.1 + t * (v.1 - u.1) := congrArg Prod.fst e
    have x2 : q.2 = u.2 + t * (v.2 - u.2) := congrArg Prod.snd e
    have m0 := Rat.mul_nonneg t0 (show 0 ≤ 1 - t by grind)
    have m1 := Rat.mul_nonneg m0 (show 0 ≤ N by grind)
    have e2 : dt (sb u q) (sb v q) = -(t * (1 - t)) * N := by rw [hNe]; unfold dt sb; grind
    constructor
    · unfold cr sb
      grind
    · grind
theorem off_any {l : List Pl} (h : validB l = true) (p : Int × Int) : (sidesL l).any (hasS p) = true ↔ ¬ Off (PQ (fn l)) (hq p) := by
  have hl : 0 < l.length := by have := (valid_len h).1; omega
  rw [List.any_eq_true]
  constructor
  · rintro ⟨s, hs, hp⟩ ho
    obtain ⟨j, hj, rfl⟩ := List.mem_map.1 hs
    obtain ⟨t, t0, t1, e⟩ := (has_side (fun e => fn_ne h j e.symm)).1 hp
    exact ho j t t0 t1 e
  · intro ho
    unfold Off at ho
    have : ∃ j s, 0 ≤ s ∧ s ≤ 1 ∧ hq p = pt (PQ (fn l) j) (PQ (fn l) (j + 1)) s := Classical.byContradiction fun k => ho fun j s a b e => k ⟨j, s, a, b, e⟩
    obtain ⟨j, s, s0, s1, e⟩ := this
    rw [per_mod (valid_ring h) j, per_mod' (valid_ring h) j] at e
    refine ⟨sideAt l (j % l.length), List.mem_map.2 ⟨_, List.mem_range.2 (Nat.mod_lt _ hl), rfl⟩, ?_⟩
    exact (has_side (fun e => fn_ne h (j % l.length) e.symm)).2 ⟨s, s0, s1, e⟩
theorem whereP_wh {l : List Pl} (h : validB l = true) (p : Int × Int) : whereP l p = wh (PQ (fn l)) l.length (hq p) := by
  have ho := off_any h p
  have hs : sumS (passS p) (sidesL l) = wn (PQ (fn l)) l.length (hq p) := by
    rw [sumS_sm]
    exact sm_congr _ fun j _ => pass_sx l j p
  unfold whereP wh
  rw [hs]
  by_cases k : Off (PQ (fn l)) (hq p)
  · rw [if_neg (fun q => ho.1 q k), if_pos k]
  · rw [if_pos (ho.2 k), if_neg k]
theorem whereV_wh {l : List Pl} (h : validB l = true) {x y : Int} (hp : onP x y) : whereV l x y = wh (PQ (fn l)) l.length (cQ (x, y)) := by
  unfold whereV
  rw [if_pos ⟨hp, h⟩, whereP_wh h, hq_cQ]
/-! ### the box -/
theorem low_le {l : List Pl} (h : validB l = true) (i : Nat) : (lowP l).1 ≤ (fn l i).1 ∧ (lowP l).2 ≤ (fn l i).2 ∧ (fn l i).1 ≤ (highP l).1 ∧ (fn l i).2 ≤ (highP l).2 := by
  have hl : l ≠ [] := by
    have := (valid_len h).1
    intro e
    rw [e] at this
    simp at this
  have hm : fn l i ∈ l := nth_mem hl i
  unfold lowP highP
  rw [if_pos h, if_pos h]
  exact ⟨(min_le _ _).2 _ (List.mem_map_of_mem hm), (min_le _ _).2 _ (List.mem_map_of_mem hm), (max_le _ _).2 _ (List.mem_map_of_mem hm), (max_le _ _).2 _ (List.mem_map_of_mem hm)⟩
/-- the sides of the box: one more than its width and its height -/
def wdN (l : List Pl) : Nat := ((highP l).1 - (lowP l).1 + 1).toNat
def hgN (l : List Pl) : Nat := ((highP l).2 - (lowP l).2 + 1).toNat
theorem in_box {l : List Pl} (h : validB l = true) (i : Nat) : InBox (lowP l).1 (lowP l).2 (wdN l) (hgN l) (fn l i) := by
  obtain ⟨h1, h2, h3, h4⟩ := low_le h i
  unfold wdN hgN
  exact ⟨h1, by omega, h2, by omega⟩
theorem gg_valid {l : List Pl} (h : validB l = true) : gg (PQ (fn l)) l.length 0 = 1 ∧ gg (mr (PQ (fn l))) l.length 0 = 1 :=
  gg_one (valid_ring h) (by have := fn_per l 0; rw [Nat.zero_add] at this; exact this) (in_box h) (by rw [← area_sm]; exact (valid_parts h).2.2.2.1)
theorem pick_valid {l : List Pl} (h : validB l = true) : bs (lowP l).1 (lowP l).2 (wdN l) (hgN l) (fun x y => wh (PQ (fn l)) l.length (cQ (x, y)) + 1) = twiceV l + 2 := by
  rw [pick (valid_ring h) (by have := fn_per l 0; rw [Nat.zero_add] at this; exact this) (in_box h) (by rw [← area_sm]; exact (valid_parts h).2.2.2.1), ← area_sm]
  unfold twiceV
  rw [if_pos h]
end Go.Proofs.Ytcpcmlonbpccnaa.Ge

/- What PolygonBoxes and PolygonCounts say of a valid ring. -/
namespace Go.Proofs.Ytcpcmlonbpccnaa.Ge
set_option linter.unusedVariables false
set_option linter.unusedSimpArgs false
open Jr

theorem mul_np {a b : Rat} (ha : a ≤ 0) (hb : 0 ≤ b) : a * b ≤ 0 := by
  have := Rat.mul_nonneg (a := -a) (b := b) (by grind) hb
  grind
theorem mul_nn {a b : Rat} (ha : a ≤ 0) (hb : b ≤ 0) : 0 ≤ a * b := by
  have := Rat.mul_nonneg (a := -a) (b := -b) (by grind) (by grind)
  grind
/-- what is on the left of a place is not counted -/
theorem chi_left {u v : Q2} (hu : u.1 ≤ 0) (hv : v.1 ≤ 0) : chi u v = 0 := by
  rcases le_or u.2 with a | a <;> rcases le_or v.2 with b | b
  · exact chi_lo a b
  · rw [chi_up a b, if_neg]
    have := mul_np hu (show 0 ≤ v.2 by grind)
    have := mul_nn a hv
    unfold cr
    grind
  · rw [chi_dn a b, if_neg]
    have := mul_nn hu b
    have := mul_np hv (show 0 ≤ u.2 by grind)
    unfold cr
    grind
  · exact chi_hi a b
theorem edge_out {P : Nat → Q2} {n : Nat} (h : Ring P n) (g : gg P n 0 = 1 ∧ gg (mr P) n 0 = 1) {q : Q2}
    (hs : (∀ j, (P j).2 ≤ q.2) ∨ (∀ j, q.2 ≤ (P j).2) ∨ (∀ j, (P j).1 ≤ q.1) ∨ ∀ j, q.1 ≤ (P j).1) : wh P n q ≤ 0 ∧ (Off P q → wh P n q = -1) := by
  by_cases ho : Off P q
  · obtain ⟨V, hV, h1, h2⟩ := jordan2 h ho
    have hw : wn P n q = 0 := by
      rcases hs with k | k | k | k
      · exact sm_zero fun j _ => chi_lo (by have := k j; unfold sb; grind) (by have := k (j + 1); unfold sb; grind)
      · have : wn (mr P) n (ng q) = 0 := sm_zero fun j _ => chi_lo (by have := k j; show (sb (ng _) (ng _)).2 ≤ 0; rw [sb_ng]; unfold ng sb; grind) (by have := k (j + 1); show (sb (ng _) (ng _)).2 ≤ 0; rw [sb_ng]; unfold ng sb; grind)
        omega
      · exact sm_zero fun j _ => chi_left (by have := k j; unfold sb; grind) (by have := k (j + 1); unfold sb; grind)
      · have : wn (mr P) n (ng q) = 0 := sm_zero fun j _ => chi_left (by have := k j; show (sb (ng _) (ng _)).1 ≤ 0; rw [sb_ng]; unfold ng sb; grind) (by have := k (j + 1); show (sb (ng _) (ng _)).1 ≤ 0; rw [sb_ng]; unfold ng sb; grind)
        omega
    have := (wh_off h g ho).2.1
    exact ⟨by omega, fun _ => by omega⟩
  · have : wh P n q = 0 := by unfold wh; rw [if_neg ho]
    exact ⟨by omega, fun k => absurd k ho⟩
theorem edge_int {l : List Pl} (h : validB l = true) {x y : Int} (hs : (highP l).2 ≤ y ∨ y ≤ (lowP l).2 ∨ (highP l).1 ≤ x ∨ x ≤ (lowP l).1) :
    wh (PQ (fn l)) l.length (cQ (x, y)) ≤ 0 ∧ (Off (PQ (fn l)) (cQ (x, y)) → wh (PQ (fn l)) l.length (cQ (x, y)) = -1) := by
  refine edge_out (valid_ring h) (gg_valid h) ?_
  have hb := low_le h
  rcases hs with k | k | k | k
  · exact .inl fun j => Rat.intCast_le_intCast.2 (by have := hb j; show (fn l j).2 ≤ y; omega)
  · exact .inr (.inl fun j => Rat.intCast_le_intCast.2 (by have := hb j; show y ≤ (fn l j).2; omega))
  · exact .inr (.inr (.inl fun j => Rat.intCast_le_intCast.2 (by have := hb j; show (fn l j).1 ≤ x; omega)))
  · exact .inr (.inr (.inr fun j => Rat.intCast_le_intCast.2 (by have := hb j; show x ≤ (fn l j).1; omega)))
/-- the ring lies in its box -/
theorem off_box {l : List Pl} (h : validB l = true) {x y : Int} (hs : (highP l).2 < y ∨ y < (lowP l).2 ∨ (highP l).1 < x ∨ x < (lowP l).1) : Off (PQ (fn l)) (cQ (x, y)) := by
  intro j s s0 s1 e
  have x1 : (x : Rat) = ((fn l j).1 : Rat) + s * (((fn l (j + 1)).1 : Rat) - ((fn l j).1 : Rat)) := congrArg Prod.fst e
  have x2 : (y : Rat) = ((fn l j).2 : Rat) + s * (((fn l (j + 1)).2 : Rat) - ((fn l j).2 : Rat)) := congrArg Prod.snd e
  obtain ⟨a1, a2, a3, a4⟩ := low_le h j
  obtain ⟨b1, b2, b3, b4⟩ := low_le h (j + 1)
  have c1 := Rat.intCast_le_intCast.2 a1
  have c2 := Rat.intCast_le_intCast.2 a2
  have c3 := Rat.intCast_le_intCast.2 a3
  have c4 := Rat.intCast_le_intCast.2 a4
  have d1 := Rat.intCast_le_intCast.2 b1
  have d2 := Rat.intCast_le_intCast.2 b2
  have d3 := Rat.intCast_le_intCast.2 b3
  have d4 := Rat.intCast_le_intCast.2 b4
  have mix : ∀ {u v c : Rat}, (c ≤ u → c ≤ v → c ≤ u + s * (v - u)) ∧ (u ≤ c → v ≤ c → u + s * (v - u) ≤ c) := fun {u v c} => by
    constructor
    · intro k1 k2
      have := Rat.mul_nonneg (a := 1 - s) (b := u - c) (by grind) (by grind)
      have := Rat.mul_nonneg (a := s) (b := v - c) s0 (by grind)
      grind
    · intro k1 k2
      have := Rat.mul_nonneg (a := 1 - s) (b := c - u) (by grind) (by grind)
      have := Rat.mul_nonneg (a := s) (b := c - v) s0 (by grind)
      grind
  rcases hs with k | k | k | k
  · have := Rat.intCast_lt_intCast.2 k
    have := mix.2 c4 d4
    grind
  · have := Rat.intCast_lt_intCast.2 k
    have := mix.1 c2 d2
    grind
  · have := Rat.intCast_lt_intCast.2 k
    have := mix.2 c3 d3
    grind
  · have := Rat.intCast_lt_intCast.2 k
    have := mix.1 c1 d1
    grind
theorem box_out {l : List Pl} (h : validB l = true) {x y : Int} (hs : x < (lowP l).1 ∨ (highP l).1 < x ∨ y < (lowP l).2 ∨ (highP l).2 < y) : whereV l x y = -1 := by
  by_cases hp : onP x y
  · rw [whereV_wh h hp]
    exact (edge_int h (by omega)).2 (off_box h (by omega))
  · unfold whereV
    rw [if_neg (fun k => hp k.1)]
theorem where_corner {l : List Pl} (h : validB l = true) (i : Nat) : whereV l (nth l i).1 (nth l i).2 = 0 := by
  have hl : 0 < l.length := by have := (valid_len h).1; omega
  rw [whereV_wh h (onL_nth (valid_on h) hl i)]
  exact wh_side (i := i) (s := 0) (by grind) (by grind) (by rw [pt_zero]; rfl)
theorem where_between {l : List Pl} (h : validB l = true) (i : Nat) {x y : Int} (hb : betB x y (nth l i).1 (nth l i).2 (nth l (i + 1)).1 (nth l (i + 1)).2 = true) : whereV l x y = 0 := by
  have hl : 0 < l.length := by have := (valid_len h).1; omega
  unfold betB at hb
  rw [decide_eq_true_eq] at hb
  rw [whereV_wh h hb.1]
  obtain ⟨t, t0, t1, e⟩ := pt_has (a := nth l i) (b := nth l (i + 1)) (p := (x, y)) (decide_eq_true hb.2.2.2)
  exact wh_side t0 t1 e
theorem box_wide {l : List Pl} (h : validB l = true) : (lowP l).1 < (highP l).1 ∧ (lowP l).2 < (highP l).2 := by
  have hb := low_le h
  have ha := bend_area h 0
  have h0 := hb 0
  have h1 := hb 1
  have h2 := hb 2
  constructor
  · rcases Int.lt_or_le (lowP l).1 (highP l).1 with k | k
    · exact k
    · exfalso
      refine ha ?_
      have e1 : (fn l (0 + 1)).1 = (fn l 0).1 := by show (fn l 1).1 = _; omega
      have e2 : (fn l (0 + 2)).1 = (fn l 0).1 := by show (fn l 2).1 = _; omega
      unfold areaN
      rw [e1, e2]
      grind
  · rcases Int.lt_or_le (lowP l).2 (highP l).2 with k | k
    · exact k
    · exfalso
      refine ha ?_
      have e1 : (fn l (0 + 1)).2 = (fn l 0).2 := by show (fn l 1).2 = _; omega
      have e2 : (fn l (0 + 2)).2 = (fn l 0).2 := by show (fn l 2).2 = _; omega
      unfold areaN
      rw [e1, e2]
      grind
theorem sm_ends (f : Nat → Int) (a : Nat) : sm f (a + 2) = f 0 + sm (fun j => f (j + 1)) a + f (a + 1) := by
  rw [show a + 2 = a + 1 + 1 from rfl, sm, sm_head]
theorem box_twice {l : List Pl} (h : validB l = true) : 1 ≤ twiceV l ∧ twiceV l ≤ 2 * ((highP l).1 - (lowP l).1) * ((highP l).2 - (lowP l).2) := by
  have hp := pick_valid h
  have ha := (valid_parts h).2.2.2.1
  obtain ⟨w1, w2⟩ := box_wide h
  constructor
  · unfold twiceV
    rw [if_pos h]
    omega
  obtain ⟨a, hA⟩ : ∃ a : Nat, (highP l).1 - (lowP l).1 = a + 1 := ⟨((highP l).1 - (lowP l).1 - 1).toNat, by omega⟩
  obtain ⟨b, hB⟩ : ∃ b : Nat, (highP l).2 - (lowP l).2 = b + 1 := ⟨((highP l).2 - (lowP l).2 - 1).toNat, by omega⟩
  have e1 : wdN l = a + 2 := by unfold wdN; omega
  have e2 : hgN l = b + 2 := by unfold hgN; omega
  rw [e1, e2] at hp
  have le2 : ∀ x y, wh (PQ (fn l)) l.length (cQ (x, y)) + 1 ≤ 2 := fun x y => by
    unfold wh
    split
    · split <;> omega
    · omega
  have le1 : ∀ x y, ((highP l).2 ≤ y ∨ y ≤ (lowP l).2 ∨ (highP l).1 ≤ x ∨ x ≤ (lowP l).1) → wh (PQ (fn l)) l.length (cQ (x, y)) + 1 ≤ 1 := fun x y k => by
    have := (edge_int h k).1
    omega
  have rowE : ∀ y, ((highP l).2 ≤ y ∨ y ≤ (lowP l).2) → sm (fun t => wh (PQ (fn l)) l.length (cQ ((lowP l).1 + (t : Int), y)) + 1) (a + 2) ≤ a + 2 := fun y k => by
    have := sm_le (f := fun t : Nat => wh (PQ (fn l)) l.length (cQ ((lowP l).1 + (t : Int), y)) + 1) (g := fun _ => 1) (a + 2) (fun t _ => le1 _ _ (by omega))
    rw [sm_const] at this
    omega
  have rowI : ∀ y, sm (fun t => wh (PQ (fn l)) l.length (cQ ((lowP l).1 + (t : Int), y)) + 1) (a + 2) ≤ 2 * a + 2 := fun y => by
    rw [sm_ends]
    have k1 := le1 ((lowP l).1 + ((0 : Nat) : Int)) y (by omega)
    have k2 := le1 ((lowP l).1 + ((a + 1 : Nat) : Int)) y (by omega)
    have k3 := sm_le (f := fun j : Nat => wh (PQ (fn l)) l.length (cQ ((lowP l).1 + ((j + 1 : Nat) : Int), y)) + 1) (g := fun _ => 2) a (fun t _ => le2 _ _)
    rw [sm_const] at k3
    omega
  unfold bs at hp
  rw [sm_ends] at hp
  dsimp only at hp
  have r1 := rowE ((lowP l).2 + ((0 : Nat) : Int)) (by omega)
  have r2 := rowE ((lowP l).2 + ((b + 1 : Nat) : Int)) (by omega)
  have r3 := sm_le (f := fun s : Nat => sm (fun t => wh (PQ (fn l)) l.length (cQ ((lowP l).1 + (t : Int), (lowP l).2 + ((s + 1 : Nat) : Int))) + 1) (a + 2)) (g := fun _ => 2 * (a : Int) + 2) b (fun s _ => rowI _)
  rw [sm_const] at r3
  rw [hA, hB]
  have q1 : 2 * ((a : Int) + 1) * ((b : Int) + 1) = 2 * ((a : Int) * b) + 2 * a + 2 * b + 2 := by grind
  have q2 : (2 * (a : Int) + 2) * b = 2 * ((a : Int) * b) + 2 * b := by grind
  rw [q1]
  rw [q2] at r3
  generalize (a : Int) * b = c at *
  omega
theorem count_all {l : List Pl} (h : validB l = true) : sm (fun t => sm (fun s => whereV l ((lowP l).1 + (t : Int)) ((lowP l).2 + (s : Int)) + 1) (hgN l)) (wdN l) = twiceV l + 2 := by
  rw [← pick_valid h]
  unfold bs
  rw [sm_swap (fun t s => whereV l ((lowP l).1 + (t : Int)) ((lowP l).2 + (s : Int)) + 1) (hgN l) (wdN l)]
  have hl : 0 < l.length := by have := (valid_len h).1; omega
  refine sm_congr _ fun s hs => sm_congr _ fun t ht => ?_
  rw [whereV_wh h]
  -- the box is on the grid
  have hd : l ≠ [] := List.length_pos_iff.1 hl
  have on0 := fun p (hp : p ∈ l) => valid_on h p hp
  have m1 : ∃ p ∈ l, (lowP l).1 = p.1 := by
    unfold lowP
    rw [if_pos h]
    rcases min_mem (nth l 0).1 (l.map (·.1)) with k | k
    · exact ⟨_, nth_mem hd 0, k⟩
    · obtain ⟨p, hp, e⟩ := List.mem_map.1 k
      exact ⟨p, hp, e.symm⟩
  have m2 : ∃ p ∈ l, (lowP l).2 = p.2 := by
    unfold lowP
    rw [if_pos h]
    rcases min_mem (nth l 0).2 (l.map (·.2)) with k | k
    · exact ⟨_, nth_mem hd 0, k⟩
    · obtain ⟨p, hp, e⟩ := List.mem_map.1 k
      exact ⟨p, hp, e.symm⟩
  have m3 : ∃ p ∈ l, (highP l).1 = p.1 := by
    unfold highP
    rw [if_pos h]
    rcases max_mem (nth l 0).1 (l.map (·.1)) with k | k
    · exact ⟨_, nth_mem hd 0, k⟩
    · obtain ⟨p, hp, e⟩ := List.mem_map.1 k
      exact ⟨p, hp, e.symm⟩
  have m4 : ∃ p ∈ l, (highP l).2 = p.2 := by
    unfold highP
    rw [if_pos h]
    rcases max_mem (nth l 0).2 (l.map (·.2)) with k | k
    · exact ⟨_, nth_mem hd 0, k⟩
    · obtain ⟨p, hp, e⟩ := List.mem_map.1 k
      exact ⟨p, hp, e.symm⟩
  obtain ⟨p1, hp1, q1⟩ := m1
  obtain ⟨p2, hp2, q2⟩ := m2
  obtain ⟨p3, hp3, q3⟩ := m3
  obtain ⟨p4, hp4, q4⟩ := m4
  obtain ⟨⟨o1, -⟩, -⟩ := on0 p1 hp1
  obtain ⟨-, o2, -⟩ := on0 p2 hp2
  obtain ⟨⟨-, o3⟩, -⟩ := on0 p3 hp3
  obtain ⟨-, -, o4⟩ := on0 p4 hp4
  unfold hgN at hs
  unfold wdN at ht
  exact ⟨⟨by omega, by omega⟩, by omega, by omega⟩
end Go.Proofs.Ytcpcmlonbpccnaa.Ge

/- What PolygonCuts says of a valid ring that is cut between two of its points. -/
namespace Go.Proofs.Ytcpcmlonbpccnaa.Ge
set_option linter.unusedVariables false
set_option linter.unusedSimpArgs false
open Jr

/-- both parts -/
def bL (l : List Pl) (i k : Nat) : List Pl := (l.drop i).take (k + 1 - i)
def cL (l : List Pl) (i k : Nat) : List Pl := l.drop k ++ l.take (i + 1)
theorem bL_len {l : List Pl} {i k : Nat} (hk : k < l.length) : (bL l i k).length = k + 1 - i := by
  unfold bL
  rw [List.length_take, List.length_drop]
  omega
theorem cL_len {l : List Pl} {i k : Nat} (hi : i ≤ k) (hk : k < l.length) : (cL l i k).length = l.length - k + (i + 1) := by
  unfold cL
  rw [List.length_append, List.length_take, List.length_drop]
  omega
theorem fn_bL {l : List Pl} {i k : Nat} (hi : i ≤ k) (hk : k < l.length) {j : Nat} (hj : j ≤ k - i) : fn (bL l i k) j = fn l (i + j) := by
  have hl := bL_len (i := i) hk
  unfold fn
  rw [nth_lt (show j < (bL l i k).length by omega), nth_lt (show i + j < l.length by omega)]
  simp [bL]
theorem fn_cL {l : List Pl} {i k : Nat} (hi : i ≤ k) (hk : k < l.length) {j : Nat} (hj : j ≤ l.length - k + i) : fn (cL l i k) j = fn l (k + j) := by
  have hl := cL_len hi hk
  unfold fn
  rw [nth_lt (show j < (cL l i k).length by omega)]
  rcases Nat.lt_or_ge j (l.length - k) with m | m
  · rw [nth_lt (show k + j < l.length by omega)]
    unfold cL
    rw [List.getElem_append_left (by rw [List.length_drop]; exact m)]
    simp
  · have e : nth l (k + j) = nth l (k + j - l.length) := by
      have := nth_add l (k + j - l.length)
      rw [show k + j - l.length + l.length = k + j by omega] at this
      exact this
    rw [e, nth_lt (show k + j - l.length < l.length by omega)]
    unfold cL
    rw [List.getElem_append_right (by rw [List.length_drop]; exact m)]
    simp only [List.getElem_take, List.length_drop]
    congr 1
    omega
structure Cut (l : List Pl) (i k : Nat) (m1 m2 : Nat) : Prop where
  n : l.length = m1 + m2
  nb : (bL l i k).length = m1 + 1
  nc : (cL l i k).length = m2 + 1
  kk : k = i + m1
  b : ∀ j, j ≤ m1 → fn (bL l i k) j = fn l (i + j)
  b0 : fn (bL l i k) (m1 + 1) = fn l i
  c : ∀ j, j ≤ m2 → fn (cL l i k) j = fn l (i + m1 + j)
  c0 : fn (cL l i k) (m2 + 1) = fn l (i + m1)
theorem cut_mk {l : List Pl} {i k : Nat} (hi : i ≤ k) (hk : k < l.length) : Cut l i k (k - i) (l.length - k + i) := by
  have hb := bL_len (i := i) hk
  have hc := cL_len hi hk
  have e : i + (k - i) = k := by omega
  refine ⟨by omega, by omega, by omega, by omega, fun j hj => fn_bL hi hk hj, ?_, fun j hj => by rw [e]; exact fn_cL hi hk hj, ?_⟩
  · have h1 := fn_per (bL l i k) 0
    rw [hb, show 0 + (k + 1 - i) = k - i + 1 by omega] at h1
    rw [h1, fn_bL hi hk (by omega), Nat.add_zero]
  · have h1 := fn_per (cL l i k) 0
    rw [hc, show 0 + (l.length - k + (i + 1)) = l.length - k + i + 1 by omega] at h1
    rw [h1, fn_cL hi hk (by omega), e, Nat.add_zero]
theorem cut_twice {l : List Pl} {i k m1 m2 : Nat} (C : Cut l i k m1 m2) : areaS l = areaS (bL l i k) + areaS (cL l i k) := by
  rw [area_sm, area_sm, area_sm, C.nb, C.nc, C.n]
  have hper : ∀ j, fn l (j + (m1 + m2)) = fn l j := fun j => by rw [← C.n]; exact fn_per l j
  have h := cut_sum (fun x y : Int × Int => x.1 * y.2 - y.1 * x.2) (fun x y => by grind) C.b C.b0 C.c C.c0 (by rw [Nat.add_assoc]; exact hper i)
  have h2 := sm_shift (fun j => (fn l j).1 * (fn l (j + 1)).2 - (fn l (j + 1)).1 * (fn l j).2) (m1 + m2) (fun j => by rw [hper, show j + (m1 + m2) + 1 = j + 1 + (m1 + m2) by omega, hper]) i
  unfold area2
  rw [← h2]
  exact h
/-- sides that share an end, or do not meet, do not cross -/
theorem no_two {s t : Sd} (h : s.1 = t.1 ∨ s.1 = t.2 ∨ s.2 = t.1 ∨ s.2 = t.2) : crossS s t ≠ 2 := by
  have z1 : ∀ p q r : Int × Int, p = r ∨ q = r → areaN p.1 p.2 q.1 q.2 r.1 r.2 = 0 := fun p q r k => by
    rcases k with rfl | rfl
    · unfold areaN; grind
    · exact area_abb _ _ _ _
  unfold crossS crossV
  split
  · split
    · next k =>
      exfalso
      have k1 := k.1
      unfold apartB at k1
      rw [decide_eq_true_eq] at k1
      refine prod_zero ?_ k1
      rcases h with e | e | e | e
      · exact .inl (z1 _ _ _ (.inl e.symm))
      · exact .inl (z1 _ _ _ (.inr e.symm))
      · exact .inr (z1 _ _ _ (.inl e.symm))
      · exact .inr (z1 _ _ _ (.inr e.symm))
    · split <;> omega
  · omega
theorem free_two {s t : Sd} (h : freeB s t = true) : crossS s t ≠ 2 := by
  unfold freeB at h
  rw [Bool.or_eq_true, Bool.or_eq_true] at h
  rcases h with k | k | k
  · exact no_two (.inr (.inl (eq_of_beq k)))
  · exact no_two (.inr (.inr (.inl (eq_of_beq k).symm)))
  · rw [eq_of_beq k]; omega
theorem flip_two {s t : Sd} (hs : onS s) (ht : onS t) (h : freeB s t = true) : crossS (s.2, s.1) t ≠ 2 := by
  have e : crossS (s.2, s.1) t = crossS s t := cross_b hs.1 hs.2 ht.1 ht.2
  rw [e]
  exact free_two h
theorem sides_mem {l : List Pl} {s : Sd} (h : s ∈ sidesL l) : ∃ j, j < l.length ∧ s = (fn l j, fn l (j + 1)) := by
  obtain ⟨j, hj, rfl⟩ := List.mem_map.1 h
  exact ⟨j, List.mem_range.1 hj, rfl⟩
theorem cut_cross {l : List Pl} {i k m1 m2 : Nat} (h : validB l = true) (C : Cut l i k m1 m2) (hb : validB (bL l i k) = true) (hc : validB (cL l i k) = true) : crossingB (bL l i k) (cL l i k) = false := by
  rw [Bool.eq_false_iff]
  intro hx
  unfold crossingB at hx
  obtain ⟨s, hs, hx⟩ := List.any_eq_true.1 hx
  obtain ⟨t, ht, hx⟩ := List.any_eq_true.1 hx
  have hx := eq_of_beq hx
  have hnb := C.nb
  have hnc := C.nc
  have n3b := (valid_len hb).1
  have n3c := (valid_len hc).1
  have ons := onS_of (valid_on hb) hs
  have ont := onS_of (valid_on hc) ht
  obtain ⟨p, hp, es⟩ := sides_mem hs
  obtain ⟨r, hr, et⟩ := sides_mem ht
  rcases Nat.lt_or_ge p m1 with p1 | p1
  · have e1 : s = sideAt l (i + p) := by rw [es, C.b p (by omega), C.b (p + 1) (by omega)]; rfl
    rcases Nat.lt_or_ge r m2 with r1 | r1
    · have e2 : t = sideAt l (i + p + (m1 + r - p)) := by
        rw [et, C.c r (by omega), C.c (r + 1) (by omega), show i + p + (m1 + r - p) = i + m1 + r by omega]
        rfl
      have hf := free_all h (i := i + p) (k := m1 + r - p) (by omega) (by have := C.n; omega)
      rw [← e1, ← e2, free_symm] at hf
      exact free_two hf hx
    · obtain rfl : r = m2 := by omega
      -- the cut as a side of c is the opposite one of that of b
      have hf := free_all hb (i := p) (k := m1 - p) (by omega) (by omega)
      rw [show p + (m1 - p) = m1 by omega] at hf
      have e3 : sideAt (bL l i k) p = s := es.symm
      have e4 : sideAt (bL l i k) m1 = (t.2, t.1) := by
        rw [et]
        show (fn (bL l i k) m1, fn (bL l i k) (m1 + 1)) = _
        rw [C.b m1 (by omega), C.b0, C.c r (by omega), C.c0]
        have := fn_per l i
        rw [C.n, ← Nat.add_assoc] at this
        rw [this]
      rw [e3, e4] at hf
      have := flip_two (s := (t.2, t.1)) (t := s) ⟨ont.2, ont.1⟩ ons hf
      rw [cross_symm] at this
      exact this hx
  · obtain rfl : p = m1 := by omega
    have e1 : s = (fn l (i + p), fn l i) := by rw [es, C.b p (by omega), C.b0]
    rcases Nat.lt_or_ge r m2 with r1 | r1
    · have hf := free_all hc (i := r) (k := m2 - r) (by omega) (by omega)
      rw [show r + (m2 - r) = m2 by omega] at hf
      have e3 : sideAt (cL l i k) r = t := et.symm
      have e4 : sideAt (cL l i k) m2 = (s.2, s.1) := by
        rw [e1]
        show (fn (cL l i k) m2, fn (cL l i k) (m2 + 1)) = _
        rw [C.c m2 (by omega), C.c0]
        have := fn_per l i
        rw [C.n, ← Nat.add_assoc] at this
        rw [this]
      rw [e3, e4] at hf
      exact flip_two (s := (s.2, s.1)) (t := t) ⟨ons.2, ons.1⟩ ont hf hx
    · obtain rfl : r = m2 := by omega
      refine no_two (.inr (.inl ?_)) hx
      rw [e1, et, C.c0]
/-! ### middles -/
theorem end_pt {b : List Pl} {s : Sd} {p : Int × Int} (hp : p ∈ endsS b s) : ∃ t : Rat, 0 ≤ t ∧ t ≤ 1 ∧ cQ p = pt (cQ s.1) (cQ s.2) t := by
  rcases List.mem_append.1 ((ends_perm b s).mem_iff.1 hp) with hp | hp
  · have h := (List.mem_filter.1 hp).2
    unfold partedB ptB betB at h
    simp only [Bool.and_eq_true, decide_eq_true_eq] at h
    exact pt_has (decide_eq_true h.2.2.2.2.2)
  · rcases List.mem_cons.1 hp with rfl | hp
    · exact ⟨0, by grind, by grind, by rw [pt_zero]⟩
    · rw [List.mem_singleton.1 hp]
      exact ⟨1, by grind, by grind, by rw [pt_one]⟩
theorem mid_pt {a b p q : Int × Int} {t u : Rat} (h1 : cQ p = pt (cQ a) (cQ b) t) (h2 : cQ q = pt (cQ a) (cQ b) u) : hq (midP p q) = pt (cQ a) (cQ b) ((t + u) / 2) := by
  have x1 : (p.1 : Rat) = a.1 + t * (b.1 - a.1) := congrArg Prod.fst h1
  have x2 : (p.2 : Rat) = a.2 + t * (b.2 - a.2) := congrArg Prod.snd h1
  have y1 : (q.1 : Rat) = a.1 + u * (b.1 - a.1) := congrArg Prod.fst h2
  have y2 : (q.2 : Rat) = a.2 + u * (b.2 - a.2) := congrArg Prod.snd h2
  unfold hq midP pt cQ
  simp only [Rat.intCast_add, x1, x2, y1, y2]
  refine Prod.ext ?_ ?_ <;> show _ = _ <;> grind
/-- the middles are on the ring -/
theorem mid_on {a b : List Pl} {z : Int × Int} (hz : z ∈ midsL a b) : ¬ Off (PQ (fn a)) (hq z) := by
  obtain ⟨s, hs, hz⟩ := List.mem_flatMap.1 hz
  obtain ⟨j, hj, rfl⟩ := sides_mem hs
  obtain ⟨x, hx, rfl⟩ := List.mem_map.1 hz
  obtain ⟨p, q⟩ := x
  have hp := (List.of_mem_zip hx).1
  have hq' := List.mem_of_mem_tail (List.of_mem_zip hx).2
  obtain ⟨t, t0, t1, e1⟩ := end_pt hp
  obtain ⟨u, u0, u1, e2⟩ := end_pt hq'
  intro ho
  exact ho j ((t + u) / 2) (by grind) (by grind) (mid_pt e1 e2)
theorem fn_inj {l : List Pl} (h : validB l = true) : l.Nodup := by
  rw [List.Nodup, List.pairwise_iff_getElem]
  intro i j hi hj hij e
  have := fn_far h (i := i) (k := j - i) (by omega) (by omega)
  rw [show i + (j - i) = j by omega] at this
  unfold fn at this
  rw [nth_lt hi, nth_lt hj] at this
  exact this e.symm
/-- each side has a middle that is inside it -/
theorem mid_inside {a b : List Pl} (ha : validB a = true) (hb : validB b = true) {j : Nat} (hj : j < a.length) : ∃ z ∈ midsL a b, ∃ t : Rat, 0 < t ∧ t < 1 ∧ hq z = pt (PQ (fn a) j) (PQ (fn a) (j + 1)) t := by
  obtain ⟨s, hs⟩ : ∃ s, s = sideAt a j := ⟨_, rfl⟩
  have hne : s.1 ≠ s.2 := by rw [hs]; exact fun e => fn_ne ha j e.symm
  have hnd : (endsS b s).Nodup := by
    rw [(ends_perm b s).nodup_iff, List.nodup_append]
    refine ⟨(fn_inj hb).filter _, by simpa using hne, fun x hx y hy e => ?_⟩
    subst e
    have h := (List.mem_filter.1 hx).2
    unfold partedB ptB at h
    simp only [Bool.and_eq_true, decide_eq_true_eq] at h
    rcases List.mem_cons.1 hy with hy | hy
    · exact h.1 ⟨by rw [hy], by rw [hy]⟩
    · have hy := List.mem_singleton.1 hy
      exact h.2.1 ⟨by rw [hy], by rw [hy]⟩
  have hlen := ends_len b s
  rcases he : endsS b s with _ | ⟨p, _ | ⟨q, r⟩⟩
  · rw [he] at hlen; simp at hlen
  · rw [he] at hlen; simp at hlen
  · rw [he] at hnd
    have hpq : p ≠ q := by
      have := (List.nodup_cons.1 hnd).1
      intro e
      exact this (by rw [e]; exact List.mem_cons_self ..)
    obtain ⟨t, t0, t1, e1⟩ := end_pt (b := b) (s := s) (p := p) (by rw [he]; exact List.mem_cons_self ..)
    obtain ⟨u, u0, u1, e2⟩ := end_pt (b := b) (s := s) (p := q) (by rw [he]; exact List.mem_cons_of_mem _ (List.mem_cons_self ..))
    have htu : t ≠ u := fun e => hpq (cQ_inj (by rw [e1, e2, e]))
    refine ⟨midP p q, List.mem_flatMap.2 ⟨s, ?_, List.mem_map.2 ⟨(p, q), ?_, rfl⟩⟩, (t + u) / 2, by grind, by grind, ?_⟩
    · rw [hs]
      exact List.mem_map.2 ⟨j, List.mem_range.2 hj, rfl⟩
    · rw [he]
      exact List.mem_cons_self ..
    · have := mid_pt e1 e2
      rw [hs] at this
      exact this
theorem whereP_one {l : List Pl} (h : validB l = true) {z : Int × Int} (hz : whereP l z = 1) : Off (PQ (fn l)) (hq z) ∧ wn (PQ (fn l)) l.length (hq z) = 1 := by
  rw [whereP_wh h] at hz
  have hO : Off (PQ (fn l)) (hq z) := Classical.byContradiction fun k => by
    unfold wh at hz
    rw [if_neg k] at hz
    omega
  have := (wh_off (valid_ring h) (gg_valid h) hO).2.1
  exact ⟨hO, by omega⟩
theorem whereP_of {l : List Pl} (h : validB l = true) {z : Int × Int} (hO : Off (PQ (fn l)) (hq z)) : whereP l z = 2 * wn (PQ (fn l)) l.length (hq z) - 1 := by
  rw [whereP_wh h]
  exact (wh_off (valid_ring h) (gg_valid h) hO).2.1
end Go.Proofs.Ytcpcmlonbpccnaa.Ge

/- What PolygonCuts says: the areas of both parts add up, what is inside one of them is inside the ring, and they are apart. -/
namespace Go.Proofs.Ytcpcmlonbpccnaa.Ge
set_option linter.unusedVariables false
set_option linter.unusedSimpArgs false
open Jr

theorem pq_eq {l m : List Pl} {a b : Nat} (h : fn l a = fn m b) : PQ (fn l) a = PQ (fn m) b := congrArg cQ h
theorem mr_eq {l m : List Pl} {a b : Nat} (h : fn l a = fn m b) : mr (PQ (fn l)) a = mr (PQ (fn m)) b := congrArg (fun x => ng (cQ x)) h
theorem cut_add {l : List Pl} {i k m1 m2 : Nat} (h : validB l = true) (C : Cut l i k m1 m2) (q : Q2) :
    wn (PQ (fn l)) l.length q = wn (PQ (fn (bL l i k))) (bL l i k).length q + wn (PQ (fn (cL l i k))) (cL l i k).length q := by
  rw [C.nb, C.nc]
  exact cut_wn (valid_ring h) C.n (fun j hj => pq_eq (C.b j hj)) (pq_eq C.b0) (fun j hj => pq_eq (C.c j hj)) (pq_eq C.c0) q
theorem cut_addm {l : List Pl} {i k m1 m2 : Nat} (h : validB l = true) (C : Cut l i k m1 m2) (q : Q2) :
    wn (mr (PQ (fn l))) l.length q = wn (mr (PQ (fn (bL l i k)))) (bL l i k).length q + wn (mr (PQ (fn (cL l i k)))) (cL l i k).length q := by
  rw [C.nb, C.nc]
  exact cut_wn (valid_ring h).mr C.n (fun j hj => mr_eq (C.b j hj)) (mr_eq C.b0) (fun j hj => mr_eq (C.c j hj)) (mr_eq C.c0) q
/-- what is inside one part is off the other one, and inside the ring -/
theorem in_b {l : List Pl} {i k m1 m2 : Nat} (h : validB l = true) (C : Cut l i k m1 m2) (hb : validB (bL l i k) = true) (hc : validB (cL l i k) = true) {q : Q2}
    (hq : Off (PQ (fn (bL l i k))) q) (h1 : wn (PQ (fn (bL l i k))) (bL l i k).length q = 1) : Off (PQ (fn (cL l i k))) q ∧ wn (PQ (fn (cL l i k))) (cL l i k).length q = 0 ∧ wn (PQ (fn l)) l.length q = 1 :=
  cut_inner (valid_ring h) (valid_ring hb) (valid_ring hc) (gg_valid h) (gg_valid hb) (gg_valid hc) (cut_add h C) (cut_addm h C) hq h1
theorem in_c {l : List Pl} {i k m1 m2 : Nat} (h : validB l = true) (C : Cut l i k m1 m2) (hb : validB (bL l i k) = true) (hc : validB (cL l i k) = true) {q : Q2}
    (hq : Off (PQ (fn (cL l i k))) q) (h1 : wn (PQ (fn (cL l i k))) (cL l i k).length q = 1) : Off (PQ (fn (bL l i k))) q ∧ wn (PQ (fn (bL l i k))) (bL l i k).length q = 0 ∧ wn (PQ (fn l)) l.length q = 1 :=
  cut_inner (valid_ring h) (valid_ring hc) (valid_ring hb) (gg_valid h) (gg_valid hc) (gg_valid hb) (fun q => by rw [cut_add h C q]; omega) (fun q => by rw [cut_addm h C q]; omega) hq h1
/-- a side of the ring is one of a part -/
theorem off_cut {l : List Pl} {i k m1 m2 : Nat} (h : validB l = true) (C : Cut l i k m1 m2) {q : Q2} (hb : Off (PQ (fn (bL l i k))) q) (hc : Off (PQ (fn (cL l i k))) q) : Off (PQ (fn l)) q := by
  intro j s s0 s1 e
  have hl : 0 < l.length := by have := (valid_len h).1; omega
  -- j as a place from i on
  obtain ⟨r, hr, er⟩ : ∃ r, r < l.length ∧ (i + r) % l.length = j % l.length := by
    refine ⟨(j % l.length + (l.length - i % l.length)) % l.length, Nat.mod_lt _ hl, ?_⟩
    have h1 := Nat.mod_lt i hl
    have h2 := Nat.mod_add_div i l.length
    rw [Nat.add_mod, Nat.mod_mod, ← Nat.add_mod, show i + (j % l.length + (l.length - i % l.length)) = j % l.length + l.length * (i / l.length + 1) by rw [Nat.mul_add]; omega, Nat.add_mul_mod_self_left, Nat.mod_mod]
  have e1 : fn l j = fn l (i + r) := nth_congr er.symm
  have e2 : fn l (j + 1) = fn l (i + r + 1) := nth_congr (by rw [Nat.add_mod j 1, ← er, ← Nat.add_mod])
  rw [pq_eq e1, pq_eq e2] at e
  rcases Nat.lt_or_ge r m1 with k1 | k1
  · refine hb r s s0 s1 ?_
    rw [pq_eq (C.b r (by omega)), pq_eq (C.b (r + 1) (by omega))]
    exact e
  · have hn := C.n
    refine hc (r - m1) s s0 s1 ?_
    rw [pq_eq (C.c (r - m1) (by omega)), pq_eq (C.c (r - m1 + 1) (by omega)), show i + m1 + (r - m1) = i + r by omega, show i + m1 + (r - m1 + 1) = i + r + 1 by omega]
    exact e
theorem where_one {l : List Pl} (h : validB l = true) {x y : Int} (hw : whereV l x y = 1) : onP x y ∧ Off (PQ (fn l)) (cQ (x, y)) ∧ wn (PQ (fn l)) l.length (cQ (x, y)) = 1 := by
  have hp : onP x y := Classical.byContradiction fun k => by
    unfold whereV at hw
    rw [if_neg (fun q => k q.1)] at hw
    omega
  unfold whereV at hw
  rw [if_pos ⟨hp, h⟩] at hw
  have := whereP_one h hw
  rw [hq_cQ] at this
  exact ⟨hp, this⟩
theorem where_of {l : List Pl} (h : validB l = true) {x y : Int} (hp : onP x y) (hO : Off (PQ (fn l)) (cQ (x, y))) (hw : wn (PQ (fn l)) l.length (cQ (x, y)) = 1) : whereV l x y = 1 := by
  unfold whereV
  rw [if_pos ⟨hp, h⟩, whereP_of h (by rw [hq_cQ]; exact hO), hq_cQ, hw]
  rfl
theorem cut_where {l : List Pl} {i k m1 m2 : Nat} (h : validB l = true) (C : Cut l i k m1 m2) (hb : validB (bL l i k) = true) (hc : validB (cL l i k) = true) (x y : Int) :
    (whereV (bL l i k) x y = 1 → whereV l x y = 1) ∧ (whereV (cL l i k) x y = 1 → whereV l x y = 1) := by
  constructor
  · intro hw
    obtain ⟨hp, ho, h1⟩ := where_one hb hw
    obtain ⟨k1, -, k3⟩ := in_b h C hb hc ho h1
    exact where_of h hp (off_cut h C ho k1) k3
  · intro hw
    obtain ⟨hp, ho, h1⟩ := where_one hc hw
    obtain ⟨k1, -, k3⟩ := in_c h C hb hc ho h1
    exact where_of h hp (off_cut h C k1 ho) k3
theorem cut_apart {l : List Pl} {i k m1 m2 : Nat} (h : validB l = true) (C : Cut l i k m1 m2) (hb : validB (bL l i k) = true) (hc : validB (cL l i k) = true) : apartR (bL l i k) (cL l i k) = true := by
  have n3b := (valid_len hb).1
  have hnb := C.nb
  have r1 : reachesB (cL l i k) (bL l i k) 1 = false := by
    rw [Bool.eq_false_iff]
    intro hx
    unfold reachesB at hx
    obtain ⟨z, hz, hx⟩ := List.any_eq_true.1 hx
    obtain ⟨o, w⟩ := whereP_one hb (eq_of_beq hx)
    exact mid_on hz (in_b h C hb hc o w).1
  have r2 : reachesB (bL l i k) (cL l i k) (-1) = true := by
    unfold reachesB
    rw [List.any_eq_true]
    obtain ⟨z, hz, t, t0, t1, e⟩ := mid_inside hb hc (j := 0) (by omega)
    refine ⟨z, hz, ?_⟩
    -- it is off the other part
    have hO : Off (PQ (fn (cL l i k))) (hq z) := by
      intro j s s0 s1 e2
      rw [per_mod (valid_ring hc) j, per_mod' (valid_ring hc) j] at e2
      have hj := Nat.mod_lt j (show 0 < (cL l i k).length by have := C.nc; omega)
      generalize j % (cL l i k).length = r at *
      rw [C.nc] at hj
      rcases Nat.lt_or_ge r m2 with k1 | k1
      · -- a side of the ring, another one
        have e3 : pt (PQ (fn l) i) (PQ (fn l) (i + 1)) t = pt (PQ (fn l) (i + (m1 + r))) (PQ (fn l) (i + (m1 + r) + 1)) s := by
          rw [← Nat.add_assoc, ← pq_eq (C.c r (by omega)), show i + m1 + r + 1 = i + m1 + (r + 1) by omega, ← pq_eq (C.c (r + 1) (by omega)), ← e2, e, pq_eq (C.b 0 (by omega)), pq_eq (C.b (0 + 1) (by omega))]
          rfl
        rcases side_meets (valid_ring h) (by omega) (by have := C.n; omega) (by grind) (by grind) s0 s1 e3 with ⟨-, m⟩ | ⟨-, m⟩ <;> grind
      · -- the cut
        obtain rfl : r = m2 := by omega
        have hper := fn_per l i
        rw [C.n, ← Nat.add_assoc] at hper
        have e4 : pt (PQ (fn (bL l i k)) 0) (PQ (fn (bL l i k)) (0 + 1)) t = pt (PQ (fn (bL l i k)) (0 + m1)) (PQ (fn (bL l i k)) (0 + m1 + 1)) (1 - s) := by
          rw [← e, e2, pq_eq (C.c r (by omega)), pq_eq C.c0, Nat.zero_add, pq_eq (C.b m1 (by omega)), pq_eq C.b0, pq_eq hper]
          unfold pt
          refine Prod.ext ?_ ?_ <;> show _ = _ <;> grind
        rcases side_meets (valid_ring hb) (by omega) (by omega) (by grind) (by grind) (by grind) (by grind) e4 with ⟨-, m⟩ | ⟨-, m⟩ <;> grind
    have w := wn_01 (valid_ring hc) (gg_valid hc).1 (hq z)
    have hw : wn (PQ (fn (cL l i k))) (cL l i k).length (hq z) = 0 := by
      rcases w with w | w
      · exact w
      · exact absurd (in_c h C hb hc hO w).1 (mid_on hz)
    rw [whereP_of hc hO, hw]
    rfl
  unfold apartR
  rw [hb, hc, cut_cross h C hb hc, r1, r2]
  rfl
/-- what PolygonCuts asks -/
theorem cut_law {l : List Pl} {i k : Nat} (hi : i ≤ k) (hk : k < l.length) (h : validB l = true) (hb : validB (bL l i k) = true) (hc : validB (cL l i k) = true) (x y : Int) :
    (whereV (bL l i k) x y = 1 → whereV l x y = 1) ∧ (whereV (cL l i k) x y = 1 → whereV l x y = 1) ∧ apartR (bL l i k) (cL l i k) = true ∧ twiceV (bL l i k) + twiceV (cL l i k) = twiceV l := by
  have C := cut_mk hi hk
  obtain ⟨w1, w2⟩ := cut_where h C hb hc x y
  refine ⟨w1, w2, cut_apart h C hb hc, ?_⟩
  unfold twiceV
  rw [if_pos h, if_pos hb, if_pos hc]
  exact (cut_twice C).symm
end Go.Proofs.Ytcpcmlonbpccnaa.Ge

/- Plain mathematics of rings: one polygon within another one, and two that are apart. -/
namespace Go.Proofs.Ytcpcmlonbpccnaa.Jr
set_option linter.unusedVariables false
set_option linter.unusedSimpArgs false

/-- a ring that goes round its inside once, to the left, and has no straight angles -/
structure Poly (P : Nat → Q2) (n : Nat) : Prop where
  ring : Ring P n
  gg1 : gg P n 0 = 1 ∧ gg (mr P) n 0 = 1
  bent : Bent P
theorem Poly.ggi {P : Nat → Q2} {n : Nat} (h : Poly P n) (i : Nat) : gg P n i = 1 := by rw [gg_all h.ring]; exact h.gg1.1
theorem off_of_free {P : Nat → Q2} {p q : Q2} (h : Free P p q) : Off P p ∧ Off P q := by
  refine ⟨fun j s s0 s1 e => ?_, fun j s s0 s1 e => ?_⟩
  · exact sep_no (h j) s0 s1 (show (0 : Rat) ≤ 0 by grind) (show (0 : Rat) ≤ 1 by grind) (by rw [pt_zero]; exact e.symm)
  · exact sep_no (h j) s0 s1 (show (0 : Rat) ≤ 1 by grind) (show (1 : Rat) ≤ 1 by grind) (by rw [pt_one]; exact e.symm)
theorem wh_free {P : Nat → Q2} {n : Nat} (h : Ring P n) {p q : Q2} (f : Free P p q) : wh P n p = wh P n q := by
  obtain ⟨o1, o2⟩ := off_of_free f
  unfold wh
  rw [if_pos o1, if_pos o2, (way_same h fun j _ => f j).1]
theorem Joined.wh {P : Nat → Q2} {n : Nat} (h : Ring P n) {p q : Q2} (f : Joined P p q) : wh P n p = wh P n q := by
  induction f with
  | refl q => rfl
  | step k _ ih => exact (wh_free h k).trans ih
/-- the three answers -/
theorem wh_cases {P : Nat → Q2} {n : Nat} (h : Poly P n) (q : Q2) : (wh P n q = 0 ∧ ¬ Off P q) ∨ (Off P q ∧ wh P n q = 1 ∧ wn P n q = 1) ∨ (Off P q ∧ wh P n q = -1 ∧ wn P n q = 0) := by
  by_cases ho : Off P q
  · obtain ⟨h1, h2, -⟩ := wh_off h.ring h.gg1 ho
    rcases h1 with h1 | h1
    · exact .inr (.inr ⟨ho, by rw [h2, h1]; rfl, h1⟩)
    · exact .inr (.inl ⟨ho, by rw [h2, h1]; rfl, h1⟩)
  · exact .inl ⟨by unfold Jr.wh; rw [if_neg ho], ho⟩
theorem wh_piece {P : Nat → Q2} {n : Nat} (h : Poly P n) {p q : Q2} (hp : Off P p) (e : wh P n p = wh P n q) : Joined P p q := by
  rcases wh_cases h p with ⟨-, c⟩ | ⟨a, b, c⟩ | ⟨a, b, c⟩
  · exact absurd hp c
  · rcases wh_cases h q with ⟨x, -⟩ | ⟨x, y, z⟩ | ⟨x, y, z⟩
    · omega
    · exact one_piece h.ring h.bent a x (c.trans z.symm)
    · omega
  · rcases wh_cases h q with ⟨x, -⟩ | ⟨x, y, z⟩ | ⟨x, y, z⟩
    · omega
    · omega
    · exact one_piece h.ring h.bent a x (c.trans z.symm)
theorem near_free {P : Nat → Q2} {n : Nat} (h : Ring P n) {q : Q2} (u : Q2) (hq : Off P q) : Near fun t => Free P q (mv q u t) := by
  obtain ⟨δ, d0, hd⟩ := near_off u h.ne hq n
  exact ⟨δ, d0, fun t t0 t1 => free_of h 0 fun k hk => by rw [Nat.zero_add]; exact hd t (by grind) t1 k hk⟩
/-- off the ring, small moves change nothing -/
theorem near_wh {P : Nat → Q2} {n : Nat} (h : Ring P n) {q : Q2} (u : Q2) (hq : Off P q) : Near fun t => wh P n (mv q u t) = wh P n q :=
  (near_free h u hq).mono fun t _ f => (wh_free h f).symm
/-- beside a side: inside on its left, outside on its right -/
theorem beside {P : Nat → Q2} {n : Nat} (h : Poly P n) {i : Nat} {s σ : Rat} {e : Q2} (s0 : 0 < s) (s1 : s < 1) (hσ : σ = 1 ∨ σ = -1) (he : 0 < σ * cr (dd P i) e) :
    Near fun t => Off P (mv (pt (P i) (P (i + 1)) s) e t) ∧ wh P n (mv (pt (P i) (P (i + 1)) s) e t) = (if σ = 1 then 1 else -1) := by
  refine ((to_mid h.ring s0 s1 hσ he).and (mid_wn h.ring i)).mono fun t _ ⟨f, w1, w2⟩ => ?_
  obtain ⟨o1, o2⟩ := off_of_free f
  refine ⟨o1, ?_⟩
  rw [wh_free h.ring f, (wh_off h.ring h.gg1 o2).2.1]
  rw [h.ggi] at w1 w2
  rcases hσ with rfl | rfl
  · rw [w1, if_pos rfl]; rfl
  · rw [w2, if_neg (by grind)]; rfl
theorem left_of {P : Nat → Q2} {n : Nat} (h : Poly P n) {i : Nat} {s : Rat} {e : Q2} (s0 : 0 < s) (s1 : s < 1) (he : 0 < cr (dd P i) e) :
    Near fun t => wh P n (mv (pt (P i) (P (i + 1)) s) e t) = 1 := (beside h (i := i) (σ := 1) (e := e) s0 s1 (.inl rfl) (by grind)).mono fun t _ m => by rw [m.2, if_pos rfl]
theorem right_of {P : Nat → Q2} {n : Nat} (h : Poly P n) {i : Nat} {s : Rat} {e : Q2} (s0 : 0 < s) (s1 : s < 1) (he : cr (dd P i) e < 0) :
    Near fun t => wh P n (mv (pt (P i) (P (i + 1)) s) e t) = -1 := (beside h (i := i) (σ := -1) (e := e) s0 s1 (.inr rfl) (by grind)).mono fun t _ m => by rw [m.2, if_neg (by grind)]
theorem wh_on {P : Nat → Q2} {n : Nat} {i : Nat} {s : Rat} (s0 : 0 ≤ s) (s1 : s ≤ 1) : wh P n (pt (P i) (P (i + 1)) s) = 0 := wh_side s0 s1 rfl
theorem nm_left (P : Nat → Q2) (i : Nat) : cr (dd P i) (nm P i) = (dd P i).1 * (dd P i).1 + (dd P i).2 * (dd P i).2 := by unfold nm cr; grind

/-! ### one within the other -/
def Sub (P : Nat → Q2) (n : Nat) (R : Nat → Q2) (m : Nat) : Prop := ∀ q, 0 ≤ wh P n q → 0 ≤ wh R m q
/-- the boundary of the first one is in the polygon of the second one -/
def SubB (P : Nat → Q2) (R : Nat → Q2) (m : Nat) : Prop := ∀ i s, 0 ≤ s → s ≤ 1 → 0 ≤ wh R m (pt (P i) (P (i + 1)) s)
theorem Sub.bound {P R : Nat → Q2} {n m : Nat} (h : Sub P n R m) : SubB P R m := fun i s s0 s1 => h _ (by rw [wh_on s0 s1]; exact Int.le_refl _)
/-- ways that stay where the other ring's boundary is not -/
theorem way_free {P R : Nat → Q2} {n m : Nat} (hP : Poly P n) (hR : Poly R m) {k : Int} (hb : ∀ i s, 0 ≤ s → s ≤ 1 → wh R m (pt (P i) (P (i + 1)) s) ≠ k) {u v : Q2} (f : Joined R u v) (hu : wh R m u = k) : Joined P u v := by
  induction f with
  | refl q => exact .refl q
  | @step a b c f g ih =>
    refine .trans (.one ?_) (ih ((wh_free hR.ring f).symm.trans hu))
    intro j
    by_cases hne : (sb b a).1 ≠ 0 ∨ (sb b a).2 ≠ 0
    · rcases sep_or_meet (hP.ring.ne j) hne with c | ⟨s, t, s0, s1, t0, t1, e⟩
      · exact c
      · exfalso
        have f2 : Free R a (pt a b t) := fun j => by
          have := sep_sub (f j) (show (0 : Rat) ≤ 0 by grind) (show (0 : Rat) ≤ 1 by grind) t0 t1
          rw [pt_zero] at this
          exact this
        refine hb j s s0 s1 ?_
        rw [e, ← wh_free hR.ring f2]
        exact hu
    · -- the way is one place
      have eab : b = a := by
        have h1 : (sb b a).1 = 0 := by
          rcases (by grind : (sb b a).1 = 0 ∨ (sb b a).1 ≠ 0) with z | z
          · exact z
          · exact absurd (.inl z) hne
        have h2 : (sb b a).2 = 0 := by
          rcases (by grind : (sb b a).2 = 0 ∨ (sb b a).2 ≠ 0) with z | z
          · exact z
          · exact absurd (.inr z) hne
        refine Prod.ext ?_ ?_
        · have : b.1 - a.1 = 0 := h1
          grind
        · have : b.2 - a.2 = 0 := h2
          grind
      subst eab
      obtain ⟨e, h1, h2⟩ := point_sep (hP.ring.ne j) (q := b) fun s s0 s1 ee => hb j s s0 s1 (by rw [← ee]; exact hu)
      exact ⟨e, ⟨h1, h2⟩, h1, h2⟩
/-- if the boundary is within, all is: z is outside of both -/
theorem sub_of_bound {P R : Nat → Q2} {n m : Nat} (hP : Poly P n) (hR : Poly R m) (hb : SubB P R m) {z : Q2} (z1 : wh P n z = -1) (z2 : wh R m z = -1) : Sub P n R m := by
  intro q hq
  rcases wh_cases hR q with ⟨a, -⟩ | ⟨-, a, -⟩ | ⟨o, a, -⟩
  · rw [a]; exact Int.le_refl _
  · rw [a]; decide
  · exfalso
    have j1 := wh_piece hR o (a.trans z2.symm)
    have j2 := way_free hP hR (k := -1) (fun i s s0 s1 e => by have := hb i s s0 s1; rw [e] at this; exact absurd this (by decide)) j1 a
    have := j2.wh hP.ring
    rw [z1] at this
    rw [this] at hq
    exact absurd hq (by decide)
/-- what is inside the first one is inside the second one -/
theorem sub_inner {P R : Nat → Q2} {n m : Nat} (hP : Poly P n) (hR : Poly R m) (h : Sub P n R m) {q : Q2} (hq : wh P n q = 1) : wh R m q = 1 := by
  have op : Off P q := by
    rcases wh_cases hP q with ⟨a, -⟩ | ⟨o, -⟩ | ⟨o, -⟩
    · omega
    · exact o
    · exact o
  -- no place of an open side of the second one is inside the first one
  have key : ∀ i s, 0 < s → s < 1 → wh P n (pt (R i) (R (i + 1)) s) ≠ 1 := by
    intro i s s0 s1 e
    have o : Off P (pt (R i) (R (i + 1)) s) := by
      rcases wh_cases hP (pt (R i) (R (i + 1)) s) with ⟨a, -⟩ | ⟨o, -⟩ | ⟨o, -⟩
      · omega
      · exact o
      · exact o
    have hc : cr (dd R i) (-(nm R i).1, -(nm R i).2) < 0 := by
      have h1 := nm_left R i
      have h2 := sq_dd hR.ring i
      have : cr (dd R i) (-(nm R i).1, -(nm R i).2) = -cr (dd R i) (nm R i) := by unfold cr; grind
      rw [this, h1]; grind
    obtain ⟨t, -, a, b⟩ := ((near_wh hP.ring (-(nm R i).1, -(nm R i).2) o).and (right_of hR s0 s1 hc)).ex
    have := h _ (by rw [a, e]; decide)
    rw [b] at this
    exact absurd this (by decide)
  rcases wh_cases hR q with ⟨a, no⟩ | ⟨-, a, -⟩ | ⟨o, a, -⟩
  · exfalso
    rcases on_cases hR.ring q with c | ⟨i, s, s0, s1, e⟩ | ⟨i, hi, e⟩
    · exact no c
    · exact key i s s0 s1 (by rw [← e]; exact hq)
    · obtain ⟨t, t0, b, c⟩ := ((near_wh hP.ring (dd R (i + 1)) op).and (near_pos (x := 1) (y := -1) (by grind))).ex
      refine key (i + 1) t t0 (by grind) ?_
      have e2 : pt (R (i + 1)) (R (i + 1 + 1)) t = mv q (dd R (i + 1)) t := by
        rw [e]; unfold pt mv dd sb; rfl
      rw [e2, b]
      exact hq
  · exact a
  · have := h q (by rw [hq]; decide)
    rw [a] at this
    exact absurd this (by decide)
/-- there is a place inside -/
theorem has_inner {P : Nat → Q2} {n : Nat} (h : Poly P n) : ∃ q, wh P n q = 1 := by
  have hc : 0 < cr (dd P 0) (nm P 0) := by rw [nm_left]; exact sq_dd h.ring 0
  obtain ⟨t, -, e⟩ := (left_of h (s := 1 / 2) (by grind) (by grind) hc).ex
  exact ⟨_, e⟩
/-! ### apart -/
def Apt (P : Nat → Q2) (n : Nat) (R : Nat → Q2) (m : Nat) : Prop := ∀ q, ¬ (wh P n q = 1 ∧ wh R m q = 1)
/-- sides that cross have a place beside them that is inside both, and on each of them one outside the other -/
theorem cross_inner {P R : Nat → Q2} {n m : Nat} (hP : Poly P n) (hR : Poly R m) {i j : Nat} {s t : Rat} (s0 : 0 < s) (s1 : s < 1) (t0 : 0 < t) (t1 : t < 1) (e : pt (P i) (P (i + 1)) s = pt (R j) (R (j + 1)) t) (hk : cr (dd P i) (dd R j) ≠ 0) : ¬ Apt P n R m := by
  intro ha
  obtain ⟨ε, hε, hp⟩ : ∃ ε : Rat, (ε = 1 ∨ ε = -1) ∧ 0 < ε * cr (dd P i) (dd R j) := by
    rcases (by grind : 0 < cr (dd P i) (dd R j) ∨ cr (dd P i) (dd R j) < 0) with m | m
    · exact ⟨1, .inl rfl, by grind⟩
    · exact ⟨-1, .inr rfl, by grind⟩
  have c1 : 0 < cr (dd P i) (ε * ((dd R j).1 - (dd P i).1), ε * ((dd R j).2 - (dd P i).2)) := by
    have : cr (dd P i) (ε * ((dd R j).1 - (dd P i).1), ε * ((dd R j).2 - (dd P i).2)) = ε * cr (dd P i) (dd R j) := by unfold cr; grind
    rw [this]; exact hp
  have c2 : 0 < cr (dd R j) (ε * ((dd R j).1 - (dd P i).1), ε * ((dd R j).2 - (dd P i).2)) := by
    have : cr (dd R j) (ε * ((dd R j).1 - (dd P i).1), ε * ((dd R j).2 - (dd P i).2)) = ε * cr (dd P i) (dd R j) := by unfold cr; grind
    rw [this]; exact hp
  obtain ⟨r, -, a, b⟩ := ((left_of hP s0 s1 c1).and (left_of hR t0 t1 c2)).ex
  rw [e] at a
  exact ha _ ⟨a, b⟩
theorem cross_outer {P R : Nat → Q2} {n m : Nat} (hP : Poly P n) (hR : Poly R m) {i j : Nat} {s t : Rat} (s0 : 0 < s) (s1 : s < 1) (t0 : 0 < t) (t1 : t < 1) (e : pt (P i) (P (i + 1)) s = pt (R j) (R (j + 1)) t) (hk : cr (dd P i) (dd R j) ≠ 0) : ¬ SubB P R m := by
  intro hb
  have go : ∀ ε : Rat, (ε = 1 ∨ ε = -1) → 0 < ε * cr (dd P i) (dd R j) → False := by
    intro ε hε hp
    have c2 : cr (dd R j) (ε * (dd P i).1, ε * (dd P i).2) < 0 := by
      have : cr (dd R j) (ε * (dd P i).1, ε * (dd P i).2) = -(ε * cr (dd P i) (dd R j)) := by unfold cr; grind
      rw [this]; grind
    obtain ⟨r, r0, a, b, c⟩ := ((right_of hR t0 t1 c2).and ((near_pos (x := s) (y := -1) s0).and (near_pos (x := 1 - s) (y := -1) (by grind)))).ex
    rw [← e] at a
    have e2 : mv (pt (P i) (P (i + 1)) s) (ε * (dd P i).1, ε * (dd P i).2) r = pt (P i) (P (i + 1)) (s + ε * r) := by
      unfold mv pt dd sb; refine Prod.ext ?_ ?_ <;> show _ = _ <;> grind
    rw [e2] at a
    have := hb i (s + ε * r) (by rcases hε with rfl | rfl <;> grind) (by rcases hε with rfl | rfl <;> grind)
    rw [a] at this
    exact absurd this (by decide)
  rcases (by grind : 0 < cr (dd P i) (dd R j) ∨ cr (dd P i) (dd R j) < 0) with m | m
  · exact go 1 (.inl rfl) (by grind)
  · exact go (-1) (.inr rfl) (by grind)
/-- if no boundary place of the second one is inside the first one, and a place on an open side of the first one is outside the second one, no place is inside both -/
theorem apt_of {P R : Nat → Q2} {n m : Nat} (hP : Poly P n) (hR : Poly R m) (hb : ∀ i s, 0 ≤ s → s ≤ 1 → wh P n (pt (R i) (R (i + 1)) s) ≠ 1) {i : Nat} {s : Rat} (s0 : 0 < s) (s1 : s < 1) (ho : wh R m (pt (P i) (P (i + 1)) s) = -1) : Apt P n R m := by
  intro q ⟨h1, h2⟩
  have oR : Off R (pt (P i) (P (i + 1)) s) := by
    rcases wh_cases hR (pt (P i) (P (i + 1)) s) with ⟨a, -⟩ | ⟨o, -⟩ | ⟨o, -⟩
    · omega
    · exact o
    · exact o
  have hc : 0 < cr (dd P i) (nm P i) := by rw [nm_left]; exact sq_dd hP.ring i
  obtain ⟨t, -, a, b⟩ := ((left_of hP s0 s1 hc).and (near_wh hR.ring (nm P i) oR)).ex
  have oq : Off P q := by
    rcases wh_cases hP q with ⟨a, -⟩ | ⟨o, -⟩ | ⟨o, -⟩
    · omega
    · exact o
    · exact o
  have j1 := wh_piece hP oq (h1.trans a.symm)
  have j2 := way_free hR hP (k := 1) hb j1 h1
  have := j2.wh hR.ring
  rw [h2, b, ho] at this
  exact absurd this (by decide)
/-- a boundary place of one that is inside the other one: then some place is inside both -/
theorem inner_of {P R : Nat → Q2} {n m : Nat} (hP : Poly P n) (hR : Poly R m) {i : Nat} {s : Rat} (s0 : 0 < s) (s1 : s < 1) (ho : wh R m (pt (P i) (P (i + 1)) s) = 1) : ¬ Apt P n R m := by
  intro ha
  have oR : Off R (pt (P i) (P (i + 1)) s) := by
    rcases wh_cases hR (pt (P i) (P (i + 1)) s) with ⟨a, -⟩ | ⟨o, -⟩ | ⟨o, -⟩
    · omega
    · exact o
    · exact o
  have hc : 0 < cr (dd P i) (nm P i) := by rw [nm_left]; exact sq_dd hP.ring i
  obtain ⟨t, -, a, b⟩ := ((left_of hP s0 s1 hc).and (near_wh hR.ring (nm P i) oR)).ex
  exact ha _ ⟨a, by rw [b, ho]⟩
end Go.Proofs.Ytcpcmlonbpccnaa.Jr

/- Rings of points: what Within and Apart of the program say of all places of the plane. -/
namespace Go.Proofs.Ytcpcmlonbpccnaa.Ge
open Go.Proofs.Ytcpcmlonbpccnaa.Jr
set_option linter.unusedVariables false
set_option linter.unusedSimpArgs false

theorem valid_poly {l : List Pl} (h : validB l = true) : Poly (PQ (fn l)) l.length where
  ring := valid_ring h
  gg1 := gg_valid h
  bent i := by
    intro e
    have hb := bend_area h i
    apply hb
    have : cr (dd (PQ (fn l)) i) (dd (PQ (fn l)) (i + 1)) = cr (sb (cQ (fn l (i + 1))) (cQ (fn l i))) (sb (cQ (fn l (i + 2))) (cQ (fn l i))) := by
      show cr (sb (cQ (fn l (i + 1))) (cQ (fn l i))) (sb (cQ (fn l (i + 2))) (cQ (fn l (i + 1)))) = _
      unfold cr sb; grind
    rw [this] at e
    exact cast_zero.1 ((cast_area _ _ _ _ _ _).symm.trans e)

/-! ### sides that cross -/
theorem opp_sgn {x y : Int} : sgnI x * sgnI y < 0 ↔ (x < 0 ∧ 0 < y) ∨ (0 < x ∧ y < 0) := by
  rcases sgn_cases x with ⟨e, h⟩ | ⟨e, h⟩ | ⟨e, h⟩ <;> rcases sgn_cases y with ⟨f, k⟩ | ⟨f, k⟩ | ⟨f, k⟩ <;> rw [e, f] <;> constructor <;> intro z <;> omega
theorem cast_areaP (a b c : Pl) : cr (sb (cQ b) (cQ a)) (sb (cQ c) (cQ a)) = ((areaN a.1 a.2 b.1 b.2 c.1 c.2 : Int) : Rat) := cast_area _ _ _ _ _ _
theorem two_cross {a b c d : Pl} (ha : onP a.1 a.2) (hb : onP b.1 b.2) (hc : onP c.1 c.2) (hd : onP d.1 d.2) :
    crossV a.1 a.2 b.1 b.2 c.1 c.2 d.1 d.2 = 2 ↔ apartB a.1 a.2 b.1 b.2 c.1 c.2 d.1 d.2 = true ∧ apartB c.1 c.2 d.1 d.2 a.1 a.2 b.1 b.2 = true := by
  unfold crossV
  rw [if_pos ⟨ha, hb, hc, hd⟩]
  split
  · next h => exact ⟨fun _ => h, fun _ => rfl⟩
  · next h =>
    split
    · exact ⟨fun e => absurd e (by decide), fun k => absurd k h⟩
    · exact ⟨fun e => absurd e (by decide), fun k => absurd k h⟩
theorem div_01 {x k : Rat} (h : (0 < x ∧ x < k) ∨ (k < x ∧ x < 0)) : 0 < x / k ∧ x / k < 1 := by
  have e : x / k * k = x := by grind
  obtain ⟨q, hq⟩ : ∃ q, x / k = q := ⟨_, rfl⟩
  rw [hq] at e ⊢
  clear hq
  have s1 := sgnmul q k
  have s2 := sgnmul (q - 1) k
  have e2 : (q - 1) * k = x - k := by grind
  rw [e] at s1
  rw [e2] at s2
  rcases h with ⟨h1, h2⟩ | ⟨h1, h2⟩
  · constructor
    · rcases tri q with w | w | w
      · have := s1.2.2.1 w (by grind); grind
      · rw [w] at e; grind
      · exact w
    · rcases tri (q - 1) with w | w | w
      · grind
      · rw [w] at e2; grind
      · have := s2.1 w (by grind); grind
  · constructor
    · rcases tri q with w | w | w
      · have := s1.2.2.2 w (by grind); grind
      · rw [w] at e; grind
      · exact w
    · rcases tri (q - 1) with w | w | w
      · grind
      · rw [w] at e2; grind
      · have := s2.2.1 w (by grind); grind
theorem cross_pt {a b c d : Pl} (ha : onP a.1 a.2) (hb : onP b.1 b.2) (hc : onP c.1 c.2) (hd : onP d.1 d.2) :
    crossV a.1 a.2 b.1 b.2 c.1 c.2 d.1 d.2 = 2 ↔ cr (sb (cQ b) (cQ a)) (sb (cQ d) (cQ c)) ≠ 0 ∧ ∃ s t : Rat, 0 < s ∧ s < 1 ∧ 0 < t ∧ t < 1 ∧ pt (cQ a) (cQ b) s = pt (cQ c) (cQ d) t := by
  rw [two_cross ha hb hc hd]
  unfold apartB
  rw [decide_eq_true_eq, decide_eq_true_eq, opp_sgn, opp_sgn, ← cast_neg (a := areaN c.1 c.2 d.1 d.2 a.1 a.2), ← cast_pos (a := areaN c.1 c.2 d.1 d.2 a.1 a.2), ← cast_neg (a := areaN c.1 c.2 d.1 d.2 b.1 b.2), ← cast_pos (a := areaN c.1 c.2 d.1 d.2 b.1 b.2),
    ← cast_neg (a := areaN a.1 a.2 b.1 b.2 c.1 c.2), ← cast_pos (a := areaN a.1 a.2 b.1 b.2 c.1 c.2), ← cast_neg (a := areaN a.1 a.2 b.1 b.2 d.1 d.2), ← cast_pos (a := areaN a.1 a.2 b.1 b.2 d.1 d.2),
    ← cast_areaP c d a, ← cast_areaP c d b, ← cast_areaP a b c, ← cast_areaP a b d]
  generalize cQ a = A
  generalize cQ b = B
  generalize cQ c = C
  generalize cQ d = D
  obtain ⟨fA, hfA⟩ : ∃ x, cr (sb D C) (sb A C) = x := ⟨_, rfl⟩
  obtain ⟨fB, hfB⟩ : ∃ x, cr (sb D C) (sb B C) = x := ⟨_, rfl⟩
  obtain ⟨gC, hgC⟩ : ∃ x, cr (sb B A) (sb C A) = x := ⟨_, rfl⟩
  obtain ⟨gD, hgD⟩ : ∃ x, cr (sb B A) (sb D A) = x := ⟨_, rfl⟩
  obtain ⟨κ, hκ⟩ : ∃ x, cr (sb B A) (sb D C) = x := ⟨_, rfl⟩
  have e1 : fA - fB = κ := by rw [← hfA, ← hfB, ← hκ]; unfold cr sb; grind
  have e2 : gD - gC = κ := by rw [← hgC, ← hgD, ← hκ]; unfold cr sb; grind
  rw [hfA, hfB, hgC, hgD, hκ]
  constructor
  · rintro ⟨h1, h2⟩
    have k0 : κ ≠ 0 := by grind
    have s01 := div_01 (x := fA) (k := κ) (by grind)
    have t01 := div_01 (x := -gC) (k := κ) (by grind)
    refine ⟨k0, fA / κ, -gC / κ, s01.1, s01.2, t01.1, t01.2, ?_⟩
    have m1 : fA / κ * κ = fA := by grind
    have m2 : -gC / κ * κ = -gC := by grind
    obtain ⟨s, hs⟩ : ∃ s, fA / κ = s := ⟨_, rfl⟩
    obtain ⟨t, ht⟩ : ∃ t, -gC / κ = t := ⟨_, rfl⟩
    rw [hs] at m1 ⊢
    rw [ht] at m2 ⊢
    have z1 : κ * (A.1 - C.1) + fA * (B.1 - A.1) + gC * (D.1 - C.1) = 0 := by rw [← hfA, ← hgC, ← hκ]; unfold cr sb; grind
    have z2 : κ * (A.2 - C.2) + fA * (B.2 - A.2) + gC * (D.2 - C.2) = 0 := by rw [← hfA, ← hgC, ← hκ]; unfold cr sb; grind
    have y1 : κ * (A.1 + s * (B.1 - A.1) - (C.1 + t * (D.1 - C.1))) = 0 := by grind
    have y2 : κ * (A.2 + s * (B.2 - A.2) - (C.2 + t * (D.2 - C.2))) = 0 := by grind
    refine pt_of ?_ ?_
    · rcases Rat.mul_eq_zero.1 y1 with w | w
      · exact absurd w k0
      · grind
    · rcases Rat.mul_eq_zero.1 y2 with w | w
      · exact absurd w k0
      · grind
  · rintro ⟨k0, s, t, s0, s1, t0, t1, e⟩
    obtain ⟨x1, x2⟩ := pt_eq e
    have a1 : fA = s * κ := by
      rw [← hfA, ← hκ]
      have y1 : A.1 - C.1 = t * (D.1 - C.1) - s * (B.1 - A.1) := by grind
      have y2 : A.2 - C.2 = t * (D.2 - C.2) - s * (B.2 - A.2) := by grind
      unfold cr sb
      dsimp only
      rw [y1, y2]
      grind
    have a2 : gC = -(t * κ) := by
      rw [← hgC, ← hκ]
      have y1 : C.1 - A.1 = s * (B.1 - A.1) - t * (D.1 - C.1) := by grind
      have y2 : C.2 - A.2 = s * (B.2 - A.2) - t * (D.2 - C.2) := by grind
      unfold cr sb
      dsimp only
      rw [y1, y2]
      grind
    have p1 := sgnmul s κ
    have p2 := sgnmul (1 - s) κ
    have p3 := sgnmul t κ
    have p4 := sgnmul (1 - t) κ
    rcases (by grind : 0 < κ ∨ κ < 0) with m | m
    · exact ⟨.inr ⟨by grind, by grind⟩, .inl ⟨by grind, by grind⟩⟩
    · exact ⟨.inl ⟨by grind, by grind⟩, .inr ⟨by grind, by grind⟩⟩
theorem side_pts {l : List Pl} (h : validB l = true) (i : Nat) : onP (fn l i).1 (fn l i).2 := onL_nth (valid_on h) (by have := (valid_len h).1; omega) i
/-- no sides cross: then sides that meet inside of both are parallel -/
theorem no_cross {a b : List Pl} (ha : validB a = true) (hb : validB b = true) (hc : crossingB a b = false) (i j : Nat) {s t : Rat} (s0 : 0 < s) (s1 : s < 1) (t0 : 0 < t) (t1 : t < 1) (e : pt (PQ (fn a) i) (PQ (fn a) (i + 1)) s = pt (PQ (fn b) j) (PQ (fn b) (j + 1)) t) :
    cr (dd (PQ (fn a)) i) (dd (PQ (fn b)) j) = 0 := by
  rcases (by grind : cr (dd (PQ (fn a)) i) (dd (PQ (fn b)) j) = 0 ∨ cr (dd (PQ (fn a)) i) (dd (PQ (fn b)) j) ≠ 0) with z | z
  · exact z
  · exfalso
    have hx := (cross_pt (side_pts ha i) (side_pts ha (i + 1)) (side_pts hb j) (side_pts hb (j + 1))).2 ⟨z, s, t, s0, s1, t0, t1, e⟩
    have la := (valid_len ha).1
    have lb := (valid_len hb).1
    have h2 : crossingB a b = true := by
      unfold crossingB
      refine List.any_eq_true.2 ⟨sideAt a (i % a.length), List.mem_map.2 ⟨i % a.length, List.mem_range.2 (Nat.mod_lt _ (by omega)), rfl⟩, List.any_eq_true.2 ⟨sideAt b (j % b.length), List.mem_map.2 ⟨j % b.length, List.mem_range.2 (Nat.mod_lt _ (by omega)), rfl⟩, ?_⟩⟩
      have e1 : sideAt a (i % a.length) = sideAt a i := by
        unfold sideAt
        rw [nth_mod, ← nth_mod a (i + 1), ← nth_mod a (i % a.length + 1), Nat.mod_add_mod]
      have e2 : sideAt b (j % b.length) = sideAt b j := by
        unfold sideAt
        rw [nth_mod, ← nth_mod b (j + 1), ← nth_mod b (j % b.length + 1), Nat.mod_add_mod]
      rw [e1, e2]
      exact beq_iff_eq.2 hx
    rw [hc] at h2
    cases h2
theorem has_cross {a b : List Pl} (ha : validB a = true) (hb : validB b = true) (hc : crossingB a b = true) : ∃ i j, ∃ s t : Rat, (0 < s ∧ s < 1) ∧ (0 < t ∧ t < 1) ∧ pt (PQ (fn a) i) (PQ (fn a) (i + 1)) s = pt (PQ (fn b) j) (PQ (fn b) (j + 1)) t ∧ cr (dd (PQ (fn a)) i) (dd (PQ (fn b)) j) ≠ 0 := by
  unfold crossingB at hc
  obtain ⟨x, hx, hc⟩ := List.any_eq_true.1 hc
  obtain ⟨y, hy, hc⟩ := List.any_eq_true.1 hc
  obtain ⟨i, -, rfl⟩ := List.mem_map.1 hx
  obtain ⟨j, -, rfl⟩ := List.mem_map.1 hy
  obtain ⟨k, s, t, s0, s1, t0, t1, e⟩ := (cross_pt (side_pts ha i) (side_pts ha (i + 1)) (side_pts hb j) (side_pts hb (j + 1))).1 (beq_iff_eq.1 hc)
  exact ⟨i, j, s, t, ⟨s0, s1⟩, ⟨t0, t1⟩, e, k⟩
theorem crossing_symm {a b : List Pl} (ha : validB a = true) (hb : validB b = true) (h : crossingB a b = false) : crossingB b a = false := by
  cases hc : crossingB b a with
  | false => rfl
  | true =>
    exfalso
    obtain ⟨i, j, s, t, s0, t0, e, k⟩ := has_cross hb ha hc
    have := no_cross ha hb h j i t0.1 t0.2 s0.1 s0.2 e.symm
    rw [cr_swap] at this
    apply k
    grind

/-! ### the parts between two corners -/
theorem span_same {P R : Nat → Q2} {n m : Nat} (hP : Poly P n) (hR : Poly R m) {i : Nat} {r1 r2 : Rat} (h0 : 0 ≤ r1) (h1 : r2 ≤ 1)
    (hc : ∀ j r, r1 < r → r < r2 → R j ≠ pt (P i) (P (i + 1)) r)
    (hx : ∀ j s t, 0 < s → s < 1 → 0 < t → t < 1 → pt (P i) (P (i + 1)) s = pt (R j) (R (j + 1)) t → cr (dd P i) (dd R j) = 0) {x y : Rat} (x1 : r1 < x) (x2 : x < r2) (y1 : r1 < y) (y2 : y < r2) :
    wh R m (pt (P i) (P (i + 1)) x) = wh R m (pt (P i) (P (i + 1)) y) := by
  by_cases hex : ∃ j t z, (r1 < z ∧ z < r2) ∧ (0 ≤ t ∧ t ≤ 1) ∧ pt (P i) (P (i + 1)) z = pt (R j) (R (j + 1)) t
  · obtain ⟨j, t, z, ⟨z1, z2⟩, ⟨t0, t1⟩, e⟩ := hex
    have t0' : 0 < t := by
      rcases (by grind : 0 < t ∨ t = 0) with w | w
      · exact w
      · subst w; rw [pt_zero] at e; exact absurd e.symm (hc j z z1 z2)
    have t1' : t < 1 := by
      rcases (by grind : t < 1 ∨ t = 1) with w | w
      · exact w
      · subst w; rw [pt_one] at e; exact absurd e.symm (hc (j + 1) z z1 z2)
    have hk := hx j z t (by grind) (by grind) t0' t1' e
    -- the other side in terms of this one
    obtain ⟨μ, m1, m2⟩ : ∃ μ : Rat, (dd R j).1 = μ * (dd P i).1 ∧ (dd R j).2 = μ * (dd P i).2 := by
      have hd := sq_dd hP.ring i
      refine ⟨dt (dd P i) (dd R j) / ((dd P i).1 * (dd P i).1 + (dd P i).2 * (dd P i).2), ?_, ?_⟩
      · refine div_eq' hd ?_
        have : cr (dd P i) (dd R j) * (dd P i).2 = 0 := by rw [hk]; grind
        unfold cr dt at *; grind
      · refine div_eq' hd ?_
        have : cr (dd P i) (dd R j) * (dd P i).1 = 0 := by rw [hk]; grind
        unfold cr dt at *; grind
    have μ0 : μ ≠ 0 := by
      intro w
      rw [w] at m1 m2
      rcases hR.ring.ne j with q | q
      · exact q (by have : (dd R j).1 = 0 := by grind
                    exact this)
      · exact q (by have : (dd R j).2 = 0 := by grind
                    exact this)
    obtain ⟨e1, e2⟩ := pt_eq e
    have u1 : (dd P i).1 = (P (i + 1)).1 - (P i).1 := rfl
    have u2 : (dd P i).2 = (P (i + 1)).2 - (P i).2 := rfl
    have v1 : (dd R j).1 = (R (j + 1)).1 - (R j).1 := rfl
    have v2 : (dd R j).2 = (R (j + 1)).2 - (R j).2 := rfl
    have ra : R j = pt (P i) (P (i + 1)) (z - t * μ) := by
      refine Prod.ext ?_ ?_
      · show _ = (P i).1 + (z - t * μ) * ((P (i + 1)).1 - (P i).1); grind
      · show _ = (P i).2 + (z - t * μ) * ((P (i + 1)).2 - (P i).2); grind
    have rb : R (j + 1) = pt (P i) (P (i + 1)) (z + (1 - t) * μ) := by
      refine Prod.ext ?_ ?_
      · show _ = (P i).1 + (z + (1 - t) * μ) * ((P (i + 1)).1 - (P i).1); grind
      · show _ = (P i).2 + (z + (1 - t) * μ) * ((P (i + 1)).2 - (P i).2); grind
    have na : ¬ (r1 < z - t * μ ∧ z - t * μ < r2) := fun w => hc j _ w.1 w.2 ra
    have nb : ¬ (r1 < z + (1 - t) * μ ∧ z + (1 - t) * μ < r2) := fun w => hc (j + 1) _ w.1 w.2 rb
    have p1 := sgnmul t μ
    have p2 := sgnmul (1 - t) μ
    have all : ∀ w, r1 < w → w < r2 → wh R m (pt (P i) (P (i + 1)) w) = 0 := by
      intro w w1 w2
      have d01 : 0 ≤ (w - (z - t * μ)) / μ ∧ (w - (z - t * μ)) / μ ≤ 1 := by
        refine div_in ?_
        rcases (by grind : 0 < μ ∨ μ < 0) with q | q
        · exact .inl ⟨q, by grind, by grind⟩
        · exact .inr ⟨q, by grind, by grind⟩
      have ed : (w - (z - t * μ)) / μ * μ = w - (z - t * μ) := by grind
      refine wh_side (i := j) d01.1 d01.2 ?_
      rw [ra, rb]
      obtain ⟨τ, hτ⟩ : ∃ τ, (w - (z - t * μ)) / μ = τ := ⟨_, rfl⟩
      rw [hτ] at ed ⊢
      have : w = z - t * μ + τ * μ := by grind
      rw [this]
      unfold pt
      refine Prod.ext ?_ ?_ <;> show _ = _ <;> grind
    rw [all x x1 x2, all y y1 y2]
  · have go : ∀ x y, r1 < x → x < y → y < r2 → wh R m (pt (P i) (P (i + 1)) x) = wh R m (pt (P i) (P (i + 1)) y) := by
      intro x y x1 xy y2
      refine wh_free hR.ring fun j => ?_
      have hne : (sb (pt (P i) (P (i + 1)) y) (pt (P i) (P (i + 1)) x)).1 ≠ 0 ∨ (sb (pt (P i) (P (i + 1)) y) (pt (P i) (P (i + 1)) x)).2 ≠ 0 := by
        have e1 : (sb (pt (P i) (P (i + 1)) y) (pt (P i) (P (i + 1)) x)).1 = (y - x) * (sb (P (i + 1)) (P i)).1 := by unfold sb pt; grind
        have e2 : (sb (pt (P i) (P (i + 1)) y) (pt (P i) (P (i + 1)) x)).2 = (y - x) * (sb (P (i + 1)) (P i)).2 := by unfold sb pt; grind
        rw [e1, e2]
        rcases hP.ring.ne i with hd | hd
        · exact .inl fun e => by rcases Rat.mul_eq_zero.1 e with q | q <;> grind
        · exact .inr fun e => by rcases Rat.mul_eq_zero.1 e with q | q <;> grind
      rcases sep_or_meet (hR.ring.ne j) hne with c | ⟨s, t, s0, s1, t0, t1, e⟩
      · exact c
      · exfalso
        have q1 := Rat.mul_nonneg t0 (show 0 ≤ y - x by grind)
        have q2 := Rat.mul_nonneg (show 0 ≤ 1 - t by grind) (show 0 ≤ y - x by grind)
        refine hex ⟨j, s, x + t * (y - x), ⟨by grind, by grind⟩, ⟨s0, s1⟩, ?_⟩
        rw [e]
        unfold pt
        refine Prod.ext ?_ ?_ <;> show _ = _ <;> grind
    rcases (by grind : x < y ∨ y < x ∨ x = y) with w | w | w
    · exact go x y x1 w y2
    · exact (go y x y1 w x2).symm
    · rw [w]
theorem split_at {α : Type} {r : α → Rat} {x : Rat} : ∀ {l : List α}, l.Pairwise (fun u v => r u ≤ r v) → (∃ u ∈ l, r u ≤ x) → (∃ v ∈ l, x ≤ r v) →
    (∃ u ∈ l, r u = x) ∨ ∃ u v, (u, v) ∈ l.zip l.tail ∧ r u < x ∧ x < r v ∧ ∀ w ∈ l, r w ≤ r u ∨ r v ≤ r w
  | [], _, ⟨u, hu, _⟩, _ => by cases hu
  | [a], _, ⟨u, hu, h1⟩, ⟨v, hv, h2⟩ => by
    obtain rfl := List.mem_singleton.1 hu
    obtain rfl := List.mem_singleton.1 hv
    exact .inl ⟨_, hu, by grind⟩
  | a :: b :: l, hp, ⟨u, hu, h1⟩, ⟨v, hv, h2⟩ => by
    obtain ⟨hp1, hp2⟩ := List.pairwise_cons.1 hp
    have ha : r a ≤ x := by
      rcases List.mem_cons.1 hu with rfl | hu
      · exact h1
      · have := hp1 u hu; grind
    rcases (by grind : r a = x ∨ r a < x) with e | e
    · exact .inl ⟨a, List.mem_cons_self .., e⟩
    · rcases (by grind : x < r b ∨ x = r b ∨ r b < x) with f | f | f
      · refine .inr ⟨a, b, List.mem_cons_self .., e, f, fun w hw => ?_⟩
        rcases List.mem_cons.1 hw with rfl | hw
        · exact .inl (by grind)
        · rcases List.mem_cons.1 hw with rfl | hw
          · exact .inr (by grind)
          · exact .inr ((List.pairwise_cons.1 hp2).1 w hw)
      · exact .inl ⟨b, List.mem_cons_of_mem _ (List.mem_cons_self ..), f.symm⟩
      · have hv' : v ∈ b :: l := by
          rcases List.mem_cons.1 hv with rfl | hv
          · exfalso; grind
          · exact hv
        rcases split_at hp2 ⟨b, List.mem_cons_self .., by grind⟩ ⟨v, hv', h2⟩ with ⟨w, hw, g⟩ | ⟨p, q, hz, g1, g2, g3⟩
        · exact .inl ⟨w, List.mem_cons_of_mem _ hw, g⟩
        · refine .inr ⟨p, q, List.mem_cons_of_mem _ hz, g1, g2, fun w hw => ?_⟩
          rcases List.mem_cons.1 hw with rfl | hw
          · exact .inl (hp1 p (List.of_mem_zip hz).1)
          · exact g3 w hw
end Go.Proofs.Ytcpcmlonbpccnaa.Ge

/- Rings of points: Within is containment, Apart is that nothing is inside both. -/
namespace Go.Proofs.Ytcpcmlonbpccnaa.Ge
open Go.Proofs.Ytcpcmlonbpccnaa.Jr
set_option linter.unusedVariables false
set_option linter.unusedSimpArgs false

theorem parted_all {s : Sd} {c : Pl} (hs : onS s) (hc : onP c.1 c.2) : partedB s c = true ↔ c ≠ s.1 ∧ c ≠ s.2 ∧ hasB s.1.1 s.1.2 s.2.1 s.2.2 c.1 c.2 = true := by
  unfold partedB ptB
  rw [bet_on hc hs.1 hs.2]
  simp only [Bool.and_eq_true, decide_eq_true_eq, ne_eq, Prod.ext_iff]
/-- how far along side s a place is, as a part of it -/
def parQ (s : Sd) (p : Pl) : Rat := dt (sb (cQ p) (cQ s.1)) (sb (cQ s.2) (cQ s.1)) / dt (sb (cQ s.2) (cQ s.1)) (sb (cQ s.2) (cQ s.1))
theorem dd_pos {s : Sd} (h : s.1 ≠ s.2) : 0 < dt (sb (cQ s.2) (cQ s.1)) (sb (cQ s.2) (cQ s.1)) := by
  have hne : (sb (cQ s.2) (cQ s.1)).1 ≠ 0 ∨ (sb (cQ s.2) (cQ s.1)).2 ≠ 0 := by
    rcases (by grind : (sb (cQ s.2) (cQ s.1)).1 = 0 ∨ (sb (cQ s.2) (cQ s.1)).1 ≠ 0) with m | m
    · rcases (by grind : (sb (cQ s.2) (cQ s.1)).2 = 0 ∨ (sb (cQ s.2) (cQ s.1)).2 ≠ 0) with k | k
      · exfalso
        refine h (cQ_inj (Prod.ext ?_ ?_))
        · have : (cQ s.2).1 - (cQ s.1).1 = 0 := m
          grind
        · have : (cQ s.2).2 - (cQ s.1).2 = 0 := k
          grind
      · exact .inr k
    · exact .inl m
  exact sq_pos' _ hne
theorem par_of {s : Sd} (h : s.1 ≠ s.2) {p : Pl} {t : Rat} (e : cQ p = pt (cQ s.1) (cQ s.2) t) : parQ s p = t := by
  have hd := dd_pos h
  unfold parQ
  rw [e]
  have : dt (sb (pt (cQ s.1) (cQ s.2) t) (cQ s.1)) (sb (cQ s.2) (cQ s.1)) = t * dt (sb (cQ s.2) (cQ s.1)) (sb (cQ s.2) (cQ s.1)) := by unfold dt sb pt; grind
  rw [this]
  generalize dt (sb (cQ s.2) (cQ s.1)) (sb (cQ s.2) (cQ s.1)) = D at *
  grind
theorem dist_par {s : Sd} {p : Pl} {t : Rat} (ho : onP s.1.1 s.1.2) (hp : onP p.1 p.2) (e : cQ p = pt (cQ s.1) (cQ s.2) t) : ((distP s.1 p : Int) : Rat) = t * t * dt (sb (cQ s.2) (cQ s.1)) (sb (cQ s.2) (cQ s.1)) := by
  have h1 : ((distP s.1 p : Int) : Rat) = dt (sb (cQ p) (cQ s.1)) (sb (cQ p) (cQ s.1)) := by
    unfold distP distV
    rw [if_pos ⟨ho, hp⟩]
    unfold distN alongN dt sb cQ
    simp only [Rat.intCast_add, Rat.intCast_sub, Rat.intCast_mul]
  rw [h1, e]
  unfold dt sb pt
  grind
/-- the ends of the parts come one after the other along the side -/
theorem ends_sorted {b : List Pl} {s : Sd} (hb : onL b) (hs : onS s) (hne : s.1 ≠ s.2) : (endsS b s).Pairwise (fun u v => parQ s u ≤ parQ s v) := by
  have h := sortD_sorted s.1 (b.filter (partedB s) ++ [s.1, s.2])
  have hd := dd_pos hne
  refine List.Pairwise.imp_of_mem (fun {u v} hu hv hle => ?_) h
  obtain ⟨t, t0, t1, e1⟩ := end_pt (b := b) (s := s) hu
  obtain ⟨r, r0, r1, e2⟩ := end_pt (b := b) (s := s) hv
  have d1 := dist_par hs.1 (ends_on hb hs u hu) e1
  have d2 := dist_par hs.1 (ends_on hb hs v hv) e2
  rw [par_of hne e1, par_of hne e2]
  have hc : ((distP s.1 u : Int) : Rat) ≤ ((distP s.1 v : Int) : Rat) := Rat.intCast_le_intCast.2 hle
  rw [d1, d2] at hc
  generalize dt (sb (cQ s.2) (cQ s.1)) (sb (cQ s.2) (cQ s.1)) = D at *
  rcases (by grind : t ≤ r ∨ r < t) with w | w
  · exact w
  · exfalso
    have m1 := Rat.mul_pos (show 0 < t - r by grind) (show 0 < t + r by grind)
    have m2 := Rat.mul_pos m1 hd
    grind
/-- if no middle of the parts of a is at this kind of place of b, no place of a's boundary is -/
theorem mids_tell {a b : List Pl} (ha : validB a = true) (hb : validB b = true) (hc : crossingB a b = false) {k : Int} (hk : k ≠ 0) (hm : ∀ z ∈ midsL a b, whereP b z ≠ k) :
    ∀ i s, 0 ≤ s → s ≤ 1 → wh (PQ (fn b)) b.length (pt (PQ (fn a) i) (PQ (fn a) (i + 1)) s) ≠ k := by
  have pa := valid_poly ha
  have pb := valid_poly hb
  have la := (valid_len ha).1
  have lb := (valid_len hb).1
  -- inside a side
  have open_ : ∀ i s, 0 < s → s < 1 → wh (PQ (fn b)) b.length (pt (PQ (fn a) i) (PQ (fn a) (i + 1)) s) ≠ k := by
    intro i x x0 x1
    rw [per_mod pa.ring i, per_mod' pa.ring i]
    have hi : i % a.length < a.length := Nat.mod_lt _ (by omega)
    generalize i % a.length = i at *
    obtain ⟨sd, hsd⟩ : ∃ sd, sideAt a i = sd := ⟨_, rfl⟩
    have es1 : PQ (fn a) i = cQ sd.1 := by rw [← hsd]; rfl
    have es2 : PQ (fn a) (i + 1) = cQ sd.2 := by rw [← hsd]; rfl
    have hne : sd.1 ≠ sd.2 := by rw [← hsd]; exact fun e => fn_ne ha i e.symm
    have hs : onS sd := by rw [← hsd]; exact onS_at (valid_on ha) (by omega) i
    have h1 : sd.1 ∈ endsS b sd := (ends_perm b sd).mem_iff.2 (by simp)
    have h2 : sd.2 ∈ endsS b sd := (ends_perm b sd).mem_iff.2 (by simp)
    have p1 : parQ sd sd.1 = 0 := par_of hne (by rw [pt_zero])
    have p2 : parQ sd sd.2 = 1 := par_of hne (by rw [pt_one])
    rcases split_at (x := x) (ends_sorted (valid_on hb) hs hne) ⟨_, h1, by rw [p1]; grind⟩ ⟨_, h2, by rw [p2]; grind⟩ with ⟨u, hu, e⟩ | ⟨u, v, hz, g1, g2, g3⟩
    · -- a corner of b
      obtain ⟨t, t0, t1, et⟩ := end_pt hu
      rw [par_of hne et] at e
      subst e
      rcases List.mem_append.1 ((ends_perm b sd).mem_iff.1 hu) with hu | hu
      · obtain ⟨j, hj, ej⟩ := List.mem_iff_getElem.1 (List.mem_filter.1 hu).1
        have ej2 : PQ (fn b) j = cQ u := by show cQ (nth b j) = _; rw [nth_lt hj, ej]
        rw [es1, es2, ← et, ← ej2]
        have := wh_on (P := PQ (fn b)) (n := b.length) (i := j) (s := 0) (by grind) (by grind)
        rw [pt_zero] at this
        rw [this]
        exact fun q => hk q.symm
      · exfalso
        rcases List.mem_cons.1 hu with rfl | hu
        · rw [par_of hne et] at p1; grind
        · rw [List.mem_singleton.1 hu] at et
          rw [par_of hne et] at p2; grind
    · have hu := (List.of_mem_zip hz).1
      have hv := List.mem_of_mem_tail (List.of_mem_zip hz).2
      obtain ⟨t, t0, t1, et⟩ := end_pt hu
      obtain ⟨r, r0, r1, er⟩ := end_pt hv
      have hmid := mid_pt et er
      rw [par_of hne et] at g1 g3
      rw [par_of hne er] at g2 g3
      have hin : midP u v ∈ midsL a b := List.mem_flatMap.2 ⟨sd, by rw [← hsd]; exact List.mem_map.2 ⟨i, List.mem_range.2 hi, rfl⟩, List.mem_map.2 ⟨(u, v), hz, rfl⟩⟩
      have hw := hm _ hin
      rw [whereP_wh hb, hmid, ← es1, ← es2] at hw
      rw [span_same pa pb (i := i) (r1 := t) (r2 := r) t0 r1 ?_ ?_ g1 g2 (y := (t + r) / 2) (by grind) (by grind)]
      · exact hw
      · intro j q q1 q2 e
        -- a corner of b strictly between would be an end
        have ec : cQ (fn b j) = pt (cQ sd.1) (cQ sd.2) q := by rw [← es1, ← es2]; exact e
        have hh := has_pt (show 0 ≤ q by grind) (show q ≤ 1 by grind) ec
        have hmem : fn b j ∈ b := nth_mem (List.length_pos_iff.1 (by omega)) j
        have hpart : partedB sd (fn b j) = true := by
          rw [parted_all hs (side_pts hb j)]
          refine ⟨fun e => ?_, fun e => ?_, hh⟩
          · rw [e] at ec; rw [par_of hne ec] at p1; grind
          · rw [e] at ec; rw [par_of hne ec] at p2; grind
        have hin2 : fn b j ∈ endsS b sd := (ends_perm b sd).mem_iff.2 (List.mem_append.2 (.inl (List.mem_filter.2 ⟨hmem, hpart⟩)))
        have := g3 _ hin2
        rw [par_of hne ec] at this
        grind
      · intro j s t s0 s1 t0 t1 e
        exact no_cross ha hb hc i j s0 s1 t0 t1 e
  -- the ends
  have end_ : ∀ i, wh (PQ (fn b)) b.length (PQ (fn a) i) ≠ k := by
    intro i e
    rcases wh_cases pb (PQ (fn a) i) with ⟨z, -⟩ | ⟨o, -⟩ | ⟨o, -⟩
    · exact hk (e.symm.trans z)
    · obtain ⟨t, t0, w, t1⟩ := ((near_wh pb.ring (dd (PQ (fn a)) i) o).and (near_pos (x := 1) (y := -1) (by grind))).ex
      refine open_ i t t0 (by grind) ?_
      have : pt (PQ (fn a) i) (PQ (fn a) (i + 1)) t = mv (PQ (fn a) i) (dd (PQ (fn a)) i) t := rfl
      rw [this, w, e]
    · obtain ⟨t, t0, w, t1⟩ := ((near_wh pb.ring (dd (PQ (fn a)) i) o).and (near_pos (x := 1) (y := -1) (by grind))).ex
      refine open_ i t t0 (by grind) ?_
      have : pt (PQ (fn a) i) (PQ (fn a) (i + 1)) t = mv (PQ (fn a) i) (dd (PQ (fn a)) i) t := rfl
      rw [this, w, e]
  intro i s s0 s1
  rcases (by grind : s = 0 ∨ s = 1 ∨ (0 < s ∧ s < 1)) with w | w | w
  · rw [w, pt_zero]; exact end_ i
  · rw [w, pt_one]; exact end_ (i + 1)
  · exact open_ i s w.1 w.2
theorem mid_side {a b : List Pl} {z : Int × Int} (hz : z ∈ midsL a b) : ∃ i s, (0 ≤ s ∧ s ≤ 1) ∧ hq z = pt (PQ (fn a) i) (PQ (fn a) (i + 1)) s := by
  obtain ⟨s, hs, hz⟩ := List.mem_flatMap.1 hz
  obtain ⟨j, hj, rfl⟩ := sides_mem hs
  obtain ⟨x, hx, rfl⟩ := List.mem_map.1 hz
  obtain ⟨p, q⟩ := x
  have hp := (List.of_mem_zip hx).1
  have hq' := List.mem_of_mem_tail (List.of_mem_zip hx).2
  obtain ⟨t, t0, t1, e1⟩ := end_pt hp
  obtain ⟨u, u0, u1, e2⟩ := end_pt hq'
  exact ⟨j, (t + u) / 2, ⟨by grind, by grind⟩, mid_pt e1 e2⟩
/-- a boundary place that is off the other ring may be taken inside a side -/
theorem to_open {P R : Nat → Q2} {n m : Nat} (hR : Poly R m) {i : Nat} {s : Rat} (s0 : 0 ≤ s) (s1 : s ≤ 1) {k : Int} (hk : k ≠ 0) (e : wh R m (pt (P i) (P (i + 1)) s) = k) : ∃ j t, 0 < t ∧ t < 1 ∧ wh R m (pt (P j) (P (j + 1)) t) = k := by
  have o : Off R (pt (P i) (P (i + 1)) s) := by
    rcases wh_cases hR (pt (P i) (P (i + 1)) s) with ⟨z, -⟩ | ⟨o, -⟩ | ⟨o, -⟩
    · exact absurd (e.symm.trans z) hk
    · exact o
    · exact o
  rcases (by grind : s = 0 ∨ s = 1 ∨ (0 < s ∧ s < 1)) with w | w | w
  · subst w
    rw [pt_zero] at o e
    obtain ⟨t, t0, a, b⟩ := ((near_wh hR.ring (dd P i) o).and (near_pos (x := 1) (y := -1) (by grind))).ex
    exact ⟨i, t, t0, by grind, by rw [← e, ← a]; rfl⟩
  · subst w
    rw [pt_one] at o e
    obtain ⟨t, t0, a, b⟩ := ((near_wh hR.ring (dd P (i + 1)) o).and (near_pos (x := 1) (y := -1) (by grind))).ex
    exact ⟨i + 1, t, t0, by grind, by rw [← e, ← a]; rfl⟩
  · exact ⟨i, s, w.1, w.2, e⟩
theorem far_out {l : List Pl} (h : validB l = true) : wh (PQ (fn l)) l.length (cQ (-1, -1)) = -1 := by
  have hp := valid_on h
  have hl : 0 < l.length := by have := (valid_len h).1; omega
  have hlow : (-1 : Int) < (lowP l).2 := by
    have h0 : ∀ d, 0 ≤ d → (∀ x ∈ l.map (·.2), 0 ≤ x) → 0 ≤ minI (l.map (·.2)) d := by
      unfold minI
      generalize l.map (·.2) = xs
      induction xs with
      | nil => intro d hd _; exact hd
      | cons x xs ih => intro d hd hx; exact ih (min d x) (by have := hx x (List.mem_cons_self ..); omega) (fun y hy => hx y (List.mem_cons_of_mem _ hy))
    unfold lowP
    rw [if_pos h]
    have := h0 (nth l 0).2 (onL_nth hp hl 0).2.1 (fun x hx => by obtain ⟨q, hq', rfl⟩ := List.mem_map.1 hx; exact (hp q hq').2.1)
    show -1 < minI (l.map (·.2)) (nth l 0).2
    omega
  exact (edge_int h (.inr (.inl (by omega)))).2 (off_box h (.inr (.inl hlow)))
theorem within_iff {a b : List Pl} (ha : validB a = true) (hb : validB b = true) : withinB a b = true ↔ Sub (PQ (fn a)) a.length (PQ (fn b)) b.length := by
  have pa := valid_poly ha
  have pb := valid_poly hb
  constructor
  · intro h
    unfold withinB at h
    simp only [Bool.and_eq_true, Bool.not_eq_true'] at h
    have hm : ∀ z ∈ midsL a b, whereP b z ≠ -1 := fun z hz e => by
      have : reachesB a b (-1) = true := List.any_eq_true.2 ⟨z, hz, beq_iff_eq.2 e⟩
      rw [h.2.2.2] at this
      cases this
    refine sub_of_bound pa pb (fun i s s0 s1 => ?_) (far_out ha) (far_out hb)
    have := mids_tell ha hb h.2.2.1 (k := -1) (by decide) hm i s s0 s1
    rcases wh_cases pb (pt (PQ (fn a) i) (PQ (fn a) (i + 1)) s) with ⟨z, -⟩ | ⟨-, z, -⟩ | ⟨-, z, -⟩
    · omega
    · omega
    · exact absurd z this
  · intro h
    unfold withinB
    rw [ha, hb]
    simp only [Bool.true_and, Bool.and_eq_true, Bool.not_eq_true']
    constructor
    · cases hc : crossingB a b with
      | false => rfl
      | true =>
        exfalso
        obtain ⟨i, j, s, t, s0, t0, e, k⟩ := has_cross ha hb hc
        exact cross_outer pa pb s0.1 s0.2 t0.1 t0.2 e k h.bound
    · cases hr : reachesB a b (-1) with
      | false => rfl
      | true =>
        exfalso
        obtain ⟨z, hz, e⟩ := List.any_eq_true.1 hr
        have e := beq_iff_eq.1 e
        obtain ⟨i, s, s01, ez⟩ := mid_side hz
        rw [whereP_wh hb, ez] at e
        have := h.bound i s s01.1 s01.2
        rw [e] at this
        exact absurd this (by decide)
theorem apart_iff {a b : List Pl} (ha : validB a = true) (hb : validB b = true) : apartR a b = true ↔ Apt (PQ (fn a)) a.length (PQ (fn b)) b.length := by
  have pa := valid_poly ha
  have pb := valid_poly hb
  constructor
  · intro h
    unfold apartR at h
    simp only [Bool.and_eq_true, Bool.not_eq_true'] at h
    have hm : ∀ z ∈ midsL b a, whereP a z ≠ 1 := fun z hz e => by
      have : reachesB b a 1 = true := List.any_eq_true.2 ⟨z, hz, beq_iff_eq.2 e⟩
      rw [h.2.2.2.1] at this
      cases this
    have hb1 := mids_tell hb ha (crossing_symm ha hb h.2.2.1) (k := 1) (by decide) hm
    obtain ⟨z, hz, e⟩ := List.any_eq_true.1 h.2.2.2.2
    have e := beq_iff_eq.1 e
    obtain ⟨i, s, s01, ez⟩ := mid_side hz
    rw [whereP_wh hb, ez] at e
    obtain ⟨j, t, t0, t1, et⟩ := to_open (P := PQ (fn a)) (n := a.length) pb s01.1 s01.2 (by decide) e
    exact apt_of pa pb hb1 t0 t1 et
  · intro h
    unfold apartR
    rw [ha, hb]
    simp only [Bool.true_and, Bool.and_eq_true, Bool.not_eq_true']
    refine ⟨?_, ?_, ?_⟩
    · cases hc : crossingB a b with
      | false => rfl
      | true =>
        exfalso
        obtain ⟨i, j, s, t, s0, t0, e, k⟩ := has_cross ha hb hc
        exact cross_inner pa pb s0.1 s0.2 t0.1 t0.2 e k h
    · cases hr : reachesB b a 1 with
      | false => rfl
      | true =>
        exfalso
        obtain ⟨z, hz, e⟩ := List.any_eq_true.1 hr
        have e := beq_iff_eq.1 e
        obtain ⟨i, s, s01, ez⟩ := mid_side hz
        rw [whereP_wh ha, ez] at e
        obtain ⟨j, t, t0, t1, et⟩ := to_open (P := PQ (fn b)) (n := b.length) pa s01.1 s01.2 (by decide) e
        exact inner_of pb pa t0 t1 et (fun q hq => h q ⟨hq.2, hq.1⟩)
    · cases hr : reachesB a b (-1) with
      | true => rfl
      | false =>
        exfalso
        have hc : crossingB a b = false := by
          cases hc : crossingB a b with
          | false => rfl
          | true =>
            exfalso
            obtain ⟨i, j, s, t, s0, t0, e, k⟩ := has_cross ha hb hc
            exact cross_inner pa pb s0.1 s0.2 t0.1 t0.2 e k h
        have hw : withinB a b = true := by
          unfold withinB
          rw [ha, hb, hc, hr]
          rfl
        have hs := (within_iff ha hb).1 hw
        obtain ⟨q, hq⟩ := has_inner pa
        exact h q ⟨hq, sub_inner pa pb hs hq⟩
/-! ### what the law Apart asks -/
theorem apart_symm {a b : List Pl} (ha : validB a = true) (hb : validB b = true) : apartR a b = apartR b a := by
  have h1 := apart_iff ha hb
  have h2 := apart_iff hb ha
  cases e : apartR a b with
  | true => exact (h2.2 (fun q hq => (h1.1 e) q ⟨hq.2, hq.1⟩)).symm
  | false =>
    cases f : apartR b a with
    | false => rfl
    | true => have := h1.2 (fun q hq => (h2.1 f) q ⟨hq.2, hq.1⟩); rw [e] at this; cases this
theorem apart_where {a b : List Pl} (ha : validB a = true) (hb : validB b = true) (h : apartR a b = true) (x y : Int) : ¬ (whereV a x y = 1 ∧ whereV b x y = 1) := by
  rintro ⟨h1, h2⟩
  by_cases hp : onP x y
  · rw [whereV_wh ha hp] at h1
    rw [whereV_wh hb hp] at h2
    exact (apart_iff ha hb).1 h _ ⟨h1, h2⟩
  · unfold whereV at h1
    rw [if_neg fun k => hp k.1] at h1
    exact absurd h1 (by decide)
theorem within_apart {a b : List Pl} (ha : validB a = true) (hb : validB b = true) (h : withinB a b = true) : apartR a b = false := by
  cases e : apartR a b with
  | false => rfl
  | true =>
    exfalso
    obtain ⟨q, hq⟩ := has_inner (valid_poly ha)
    exact (apart_iff ha hb).1 e q ⟨hq, sub_inner (valid_poly ha) (valid_poly hb) ((within_iff ha hb).1 h) hq⟩
theorem within_third {a b c : List Pl} (ha : validB a = true) (hb : validB b = true) (hc : validB c = true) (h : withinB a b = true) (k : apartR b c = true) : apartR a c = true :=
  (apart_iff ha hc).2 fun q hq => (apart_iff hb hc).1 k q ⟨sub_inner (valid_poly ha) (valid_poly hb) ((within_iff ha hb).1 h) hq.1, hq.2⟩
end Go.Proofs.Ytcpcmlonbpccnaa.Ge
