/- Walks over package geom: Turn, places of a segment. -/
import Derived.Test.YtohkmkkcblbemaaGeoW3
namespace Go.Proofs.Ytohkmkkcblbemaa.Ge
set_option linter.unusedVariables false
set_option linter.unusedSimpArgs false
open Go.RowKit
open Go.Proofs.Ytohkmkkcblbemaa.Fr (Two)

set_option maxHeartbeats 4000000 in
theorem Turn_any (ax ay bx bz cx cy : Int) (w : World) :
    Calls Try.prog 16 #[.agg #[.int .i64 ax, .int .i64 ay], .agg #[.int .i64 bx, .int .i64 bz], .agg #[.int .i64 cx, .int .i64 cy]] w fun e w' => e = .returned (.int .i64 (turnV ax ay bx bz cx cy)) ∧ Below w.heap.size w w' := by
  unfold turnV
  have HL := Lib.hid (fun b cap w k => allOn3 ax ay bx bz cx cy b cap w k)
  by_cases h : onP ax ay ∧ onP bx bz ∧ onP cx cy
  · rw [if_pos h]
    rw [decide_eq_true h] at HL
    have HJ := Lib.hid (fun w => join_any ax ay bx bz w)
    have HS := Lib.hid (fun w => side_any ax ay bx bz cx cy h.1 h.2.1 h.2.2 w)
    clear h
    have b0_0 := Two.at (w := w) (B := w.heap.size) (by simp) 23 (.int .i64 ax) (.int .i64 ay)
    have b1_1 := Two.at (w := (w.alloc (.cells #[.int .i64 ax, .int .i64 ay] 23))) (B := w.heap.size + 1) (by simp) 23 (.int .i64 bx) (.int .i64 bz)
    have b0_1 := b0_0.alloc (.cells #[.int .i64 bx, .int .i64 bz] 23)
    have b2_2 := Two.at (w := ((w.alloc (.cells #[.int .i64 ax, .int .i64 ay] 23)).alloc (.cells #[.int .i64 bx, .int .i64 bz] 23))) (B := w.heap.size + 1 + 1) (by simp) 23 (.int .i64 cx) (.int .i64 cy)
    have b0_2 := b0_1.alloc (.cells #[.int .i64 cx, .int .i64 cy] 23)
    have b1_2 := b1_1.alloc (.cells #[.int .i64 cx, .int .i64 cy] 23)
    have b0_2e := b0_2.alloc (.cells #[.int .i64 ax, .int .i64 ay, .int .i64 bx, .int .i64 bz, .int .i64 cx, .int .i64 cy] 23)
    have b1_2e := b1_2.alloc (.cells #[.int .i64 ax, .int .i64 ay, .int .i64 bx, .int .i64 bz, .int .i64 cx, .int .i64 cy] 23)
    have b2_2e := b2_2.alloc (.cells #[.int .i64 ax, .int .i64 ay, .int .i64 bx, .int .i64 bz, .int .i64 cx, .int .i64 cy] 23)
    have hb0 : Below w.heap.size w _ := (((((Below.refl w.heap.size w).alloc (by simp <;> omega) (.cells #[.int .i64 ax, .int .i64 ay] 23)).alloc (by simp <;> omega) (.cells #[.int .i64 bx, .int .i64 bz] 23)).alloc (by simp <;> omega) (.cells #[.int .i64 cx, .int .i64 cy] 23)).alloc (by simp <;> omega) (.cells #[.int .i64 ax, .int .i64 ay, .int .i64 bx, .int .i64 bz, .int .i64 cx, .int .i64 cy] 23))
    go_enter Try.func16, Try.ntmps16
    go_wp2_with fail
    refine (HL.out _ _ _ (pts3 (by simp) _ _ _ _ _ _ _)).mono ?_
    rintro r w1 ⟨rfl, hb1⟩
    have r0 := b0_2e.below hb1 b0_2e.lt
    have r1 := b1_2e.below hb1 b1_2e.lt
    have r2 := b2_2e.below hb1 b2_2e.lt
    have hb2 := hb0.trans (hb1.mono hb0.size)
    clear b0_0 b0_1 b1_1 b0_2 b1_2 b2_2 b0_2e b1_2e b2_2e hb0 hb1
    go_upto_region 3 with fail
    have hS : ∀ w' : World, Below w1.heap.size w1 w' → (w'.cell? ⟨w.heap.size, 0, none⟩ = some (.int .i64 ax) ∧ w'.cell? ⟨w.heap.size, 1, none⟩ = some (.int .i64 ay)) ∧ (w'.cell? ⟨w.heap.size + 1, 0, none⟩ = some (.int .i64 bx) ∧ w'.cell? ⟨w.heap.size + 1, 1, none⟩ = some (.int .i64 bz)) ∧ (w'.cell? ⟨w.heap.size + 1 + 1, 0, none⟩ = some (.int .i64 cx) ∧ w'.cell? ⟨w.heap.size + 1 + 1, 1, none⟩ = some (.int .i64 cy)) := fun w' hb => ⟨two_of r0 hb, two_of r1 hb, two_of r2 hb⟩
    have hr := Below.refl w1.heap.size w1
    go_region_held3 (fun w' => (w'.cell? ⟨w.heap.size, 0, none⟩ = some (.int .i64 ax) ∧ w'.cell? ⟨w.heap.size, 1, none⟩ = some (.int .i64 ay)) ∧ (w'.cell? ⟨w.heap.size + 1, 0, none⟩ = some (.int .i64 bx) ∧ w'.cell? ⟨w.heap.size + 1, 1, none⟩ = some (.int .i64 bz)) ∧ (w'.cell? ⟨w.heap.size + 1 + 1, 0, none⟩ = some (.int .i64 cx) ∧ w'.cell? ⟨w.heap.size + 1 + 1, 1, none⟩ = some (.int .i64 cy)))
      (first | exact hS _ hr.drew | exact hS _ (by assumption))
      (first
        | (go_at_call 41; refine (HJ.out _).mono ?_; rintro r x1 ⟨rfl, hx1'⟩; have hx1 : Below w1.heap.size w1 x1 := hr.drew.trans hx1')
        | (go_at_call 45; refine (HS.out _).mono ?_; rintro r x2 ⟨rfl, hx2'⟩; have hx2 : Below w1.heap.size w1 x2 := hx1.trans (hx2'.mono hx1.size)))
    all_goals
      go_wp2_with fail
      go_ret
      exact ⟨rfl, hb2.trans (hx2.mono hb2.size)⟩
  · rw [if_neg h]
    rw [decide_eq_false h] at HL
    clear h
    have hb0 : Below w.heap.size w _ := (((((Below.refl w.heap.size w).alloc (by simp <;> omega) (.cells #[.int .i64 ax, .int .i64 ay] 23)).alloc (by simp <;> omega) (.cells #[.int .i64 bx, .int .i64 bz] 23)).alloc (by simp <;> omega) (.cells #[.int .i64 cx, .int .i64 cy] 23)).alloc (by simp <;> omega) (.cells #[.int .i64 ax, .int .i64 ay, .int .i64 bx, .int .i64 bz, .int .i64 cx, .int .i64 cy] 23))
    go_enter Try.func16, Try.ntmps16
    go_wp2_with fail
    refine (HL.out _ _ _ (pts3 (by simp) _ _ _ _ _ _ _)).mono ?_
    rintro r w1 ⟨rfl, hb1⟩
    go_wp2_with fail
    go_ret
    exact ⟨rfl, hb0.trans (hb1.mono hb0.size)⟩
/-- block B holds the four cells of a segment -/
def Four (w : World) (B : Nat) (x y z u : Int) : Prop := w.heap[B]? = some (.cells #[.int .i64 x, .int .i64 y, .int .i64 z, .int .i64 u] 63 (0, 0))
theorem Four.lt {w : World} {B : Nat} {x y z u : Int} (h : Four w B x y z u) : B < w.heap.size := (Array.getElem?_eq_some_iff.1 h).1
theorem Four.facts {w : World} {B : Nat} {x y z u : Int} (h : Four w B x y z u) :
    w.cell? ⟨B, 0, none⟩ = some (.int .i64 x) ∧ w.cell? ⟨B, 1, none⟩ = some (.int .i64 y) ∧ w.cell? ⟨B, 2, none⟩ = some (.int .i64 z) ∧ w.cell? ⟨B, 3, none⟩ = some (.int .i64 u) := by
  unfold Four at h
  simp [World.cell?, h]
theorem Four.facts8 {w : World} {B : Nat} {x y z u : Int} (h : Four w B x y z u) :
    (w.cell? ⟨B, 0, none⟩ = some (.int .i64 x) ∧ w.cell? ⟨B, 1, none⟩ = some (.int .i64 y) ∧ w.cell? ⟨B, 2, none⟩ = some (.int .i64 z) ∧ w.cell? ⟨B, 3, none⟩ = some (.int .i64 u)) ∧
    w.frozen? ⟨B, 0, none⟩ = false ∧ w.frozen? ⟨B, 1, none⟩ = false ∧ w.frozen? ⟨B, 2, none⟩ = false ∧ w.frozen? ⟨B, 3, none⟩ = false := by
  unfold Four at h
  simp [World.cell?, World.frozen?, h]
theorem Four.below {w w' : World} {N B : Nat} {x y z u : Int} (h : Four w B x y z u) (hb : Below N w w') (hlt : B < N) : Four w' B x y z u := (hb.block B hlt).trans h
theorem Four.alloc {w : World} {B : Nat} {x y z u : Int} (h : Four w B x y z u) (o : Obj) : Four (w.alloc o) B x y z u := by
  have := h.lt
  unfold Four at h ⊢
  show (w.heap.push o)[B]? = _
  rw [Array.getElem?_push, if_neg (by omega), h]
theorem Four.at {w : World} {B : Nat} (h : B = w.heap.size) (x y z u : Int) : Four (w.alloc (.cells #[.int .i64 x, .int .i64 y, .int .i64 z, .int .i64 u] 63)) B x y z u := by
  subst h
  show (w.heap.push _)[w.heap.size]? = _
  rw [Array.getElem?_push, if_pos rfl]
theorem four_of {w w' : World} {B : Nat} {x y z u : Int} (h : Four w B x y z u) (hb : Below w.heap.size w w') :
    w'.cell? ⟨B, 0, none⟩ = some (.int .i64 x) ∧ w'.cell? ⟨B, 1, none⟩ = some (.int .i64 y) ∧ w'.cell? ⟨B, 2, none⟩ = some (.int .i64 z) ∧ w'.cell? ⟨B, 3, none⟩ = some (.int .i64 u) := (h.below hb h.lt).facts

theorem has_same (ax ay cx cy : Int) : hasB ax ay ax ay cx cy = (cx == ax && cy == ay) := by
  rw [Bool.eq_iff_iff]
  unfold hasB
  rw [decide_eq_true_iff]
  unfold hasP
  rw [if_pos ⟨rfl, rfl⟩]
  simp
theorem has_other {ax ay bx bz cx cy : Int} (h : ¬ (ax = bx ∧ ay = bz)) : hasB ax ay bx bz cx cy = decide (areaN ax ay bx bz cx cy = 0 ∧ 0 ≤ alongN ax ay bx bz cx cy ∧ alongN ax ay bx bz cx cy ≤ distN ax ay bx bz) := by
  rw [Bool.eq_iff_iff]
  unfold hasB
  rw [decide_eq_true_iff, decide_eq_true_iff]
  unfold hasP
  rw [if_neg h]
set_option maxHeartbeats 4000000 in
theorem has_any (ax ay bx bz cx cy : Int) (ha : onP ax ay) (hb : onP bx bz) (hc : onP cx cy) (w : World) :
    Calls Try.prog 47 #[.agg #[.int .i64 ax, .int .i64 ay, .int .i64 bx, .int .i64 bz], .agg #[.int .i64 cx, .int .i64 cy]] w fun e w' => e = .returned (.bool (hasB ax ay bx bz cx cy)) ∧ Below w.heap.size w w' := by
  have hb0 := ((Below.refl w.heap.size w).alloc (Nat.le_refl _) (.cells #[.int .i64 ax, .int .i64 ay, .int .i64 bx, .int .i64 bz] 63)).alloc (by simp) (.cells #[.int .i64 cx, .int .i64 cy] 23)
  by_cases h : ax = bx ∧ ay = bz
  · obtain ⟨rfl, rfl⟩ := h
    rw [has_same]
    clear ha hb hc
    have hcs : (cx = ax ∧ cy = ay) ∨ (cx == ax) = false ∨ cx = ax ∧ (cy == ay) = false := by
      simp only [beq_eq_false_iff_ne, ne_eq]
      omega
    rcases hcs with ⟨rfl, rfl⟩ | h1 | ⟨rfl, h1⟩
    · have e : (cx == cx && cy == cy) = true := by simp
      rw [e]
      clear e
      go_enter Try.func47, Try.ntmps47
      go_wp2_with fail
      go_ret
      exact ⟨rfl, hb0⟩
    · have e : (cx == ax && cy == ay) = false := by rw [h1]; rfl
      rw [e]
      clear e
      go_enter Try.func47, Try.ntmps47
      go_wp2_with fail
      go_ret
      exact ⟨rfl, hb0⟩
    · have e : (cx == cx && cy == ay) = false := by rw [h1]; simp
      rw [e]
      clear e
      go_enter Try.func47, Try.ntmps47
      go_wp2_with fail
      go_ret
      exact ⟨rfl, hb0⟩
  · rw [has_other h]
    have hne : (ax == bx) = false ∨ ax = bx ∧ (ay == bz) = false := by
      simp only [beq_eq_false_iff_ne, ne_eq]
      omega
    have HL := Lib.hid (fun w => along_any ax ay bx bz cx cy ha hb hc w)
    have HS := Lib.hid (fun w => side_any ax ay bx bz cx cy ha hb hc w)
    have HD := Lib.hid (fun w => Dist_any ax ay bx bz w)
    have ed : distV ax ay bx bz = distN ax ay bx bz := by unfold distV; rw [if_pos ⟨ha, hb⟩]
    rw [ed] at HD
    have hsg := sgn_cases (areaN ax ay bx bz cx cy)
    have bd1 := along_bd ha hb hc
    have bd2 := dist_bd ha hb
    generalize areaN ax ay bx bz cx cy = A at *
    generalize alongN ax ay bx bz cx cy = L at *
    generalize distN ax ay bx bz = D at *
    have b1_ := Four.at (w := w) (B := w.heap.size) rfl ax ay bx bz
    have s1 := b1_.alloc (.cells #[.int .i64 cx, .int .i64 cy] 23)
    have s2 := Two.at (w := w.alloc (.cells #[.int .i64 ax, .int .i64 ay, .int .i64 bx, .int .i64 bz] 63)) (B := w.heap.size + 1) (by simp) 23 (.int .i64 cx) (.int .i64 cy)
    clear b1_ ed h ha hb hc
    have key : ∃ z : Int, sgnI A = z ∧ (z = 0 ↔ A = 0) := ⟨_, rfl, by omega⟩
    obtain ⟨z, ez, hz⟩ := key
    rw [ez] at HS
    clear ez hsg
    by_cases hA : A = 0
    · have hz0 : z = 0 := hz.2 hA
      subst hz0
      by_cases hL : 0 ≤ L
      · have er : decide (A = 0 ∧ 0 ≤ L ∧ L ≤ D) = decide (L ≤ D) := by simp [hA, hL]
        rw [er]
        clear er hz hA
        rcases hne with hne | ⟨rfl, hne⟩
        · go_enter Try.func47, Try.ntmps47
          go_wp2_with fail
          refine (HL.out _).mono ?_
          rintro r w1 ⟨rfl, hx1⟩
          have hb1 := hb0.trans (hx1.mono hb0.size)
          have r1 := s1.below hx1 s1.lt
          have r2 := s2.below hx1 s2.lt
          obtain ⟨c1, c2, c3, c4⟩ := r1.facts
          obtain ⟨d1, d2, d3, d4⟩ := r2.facts
          go_wp2_with fail
          refine (HS.out _).mono ?_
          rintro r w2 ⟨rfl, hx2⟩
          have hb2 := hb1.trans (hx2.mono hb1.size)
          have q1 := r1.below hx2 r1.lt
          have q2 := r2.below hx2 r2.lt
          clear c1 c2 c3 c4 d1 d2 d3 d4
          obtain ⟨c1, c2, c3, c4⟩ := q1.facts
          obtain ⟨d1, d2, d3, d4⟩ := q2.facts
          go_wp2_with fail
          refine (HD.out _).mono ?_
          rintro r w3 ⟨rfl, hx3⟩
          have hb3 := hb2.trans (hx3.mono hb2.size)
          go_wp2_with fail
          go_ret
          exact ⟨rfl, hb3⟩
        · go_enter Try.func47, Try.ntmps47
          go_wp2_with fail
          refine (HL.out _).mono ?_
          rintro r w1 ⟨rfl, hx1⟩
          have hb1 := hb0.trans (hx1.mono hb0.size)
          have r1 := s1.below hx1 s1.lt
          have r2 := s2.below hx1 s2.lt
          obtain ⟨c1, c2, c3, c4⟩ := r1.facts
          obtain ⟨d1, d2, d3, d4⟩ := r2.facts
          go_wp2_with fail
          refine (HS.out _).mono ?_
          rintro r w2 ⟨rfl, hx2⟩
          have hb2 := hb1.trans (hx2.mono hb1.size)
          have q1 := r1.below hx2 r1.lt
          have q2 := r2.below hx2 r2.lt
          clear c1 c2 c3 c4 d1 d2 d3 d4
          obtain ⟨c1, c2, c3, c4⟩ := q1.facts
          obtain ⟨d1, d2, d3, d4⟩ := q2.facts
          go_wp2_with fail
          refine (HD.out _).mono ?_
          rintro r w3 ⟨rfl, hx3⟩
          have hb3 := hb2.trans (hx3.mono hb2.size)
          go_wp2_with fail
          go_ret
          exact ⟨rfl, hb3⟩
      · have er : decide (A = 0 ∧ 0 ≤ L ∧ L ≤ D) = false := by simp [hL]
        rw [er]
        have hL2 : decide (0 ≤ L) = false := by simpa using hL
        clear er hz hA hL
        rcases hne with hne | ⟨rfl, hne⟩
        · go_enter Try.func47, Try.ntmps47
          go_wp2_with fail
          refine (HL.out _).mono ?_
          rintro r w1 ⟨rfl, hx1⟩
          have hb1 := hb0.trans (hx1.mono hb0.size)
          have r1 := s1.below hx1 s1.lt
          have r2 := s2.below hx1 s2.lt
          obtain ⟨c1, c2, c3, c4⟩ := r1.facts
          obtain ⟨d1, d2, d3, d4⟩ := r2.facts
          go_wp2_with fail
          refine (HS.out _).mono ?_
          rintro r w2 ⟨rfl, hx2⟩
          have hb2 := hb1.trans (hx2.mono hb1.size)
          have q1 := r1.below hx2 r1.lt
          have q2 := r2.below hx2 r2.lt
          clear c1 c2 c3 c4 d1 d2 d3 d4
          obtain ⟨c1, c2, c3, c4⟩ := q1.facts
          obtain ⟨d1, d2, d3, d4⟩ := q2.facts
          go_wp2_with fail
          go_ret
          exact ⟨rfl, hb2⟩
        · go_enter Try.func47, Try.ntmps47
          go_wp2_with fail
          refine (HL.out _).mono ?_
          rintro r w1 ⟨rfl, hx1⟩
          have hb1 := hb0.trans (hx1.mono hb0.size)
          have r1 := s1.below hx1 s1.lt
          have r2 := s2.below hx1 s2.lt
          obtain ⟨c1, c2, c3, c4⟩ := r1.facts
          obtain ⟨d1, d2, d3, d4⟩ := r2.facts
          go_wp2_with fail
          refine (HS.out _).mono ?_
          rintro r w2 ⟨rfl, hx2⟩
          have hb2 := hb1.trans (hx2.mono hb1.size)
          have q1 := r1.below hx2 r1.lt
          have q2 := r2.below hx2 r2.lt
          clear c1 c2 c3 c4 d1 d2 d3 d4
          obtain ⟨c1, c2, c3, c4⟩ := q1.facts
          obtain ⟨d1, d2, d3, d4⟩ := q2.facts
          go_wp2_with fail
          go_ret
          exact ⟨rfl, hb2⟩
    · have er : decide (A = 0 ∧ 0 ≤ L ∧ L ≤ D) = false := by simp [hA]
      rw [er]
      have hz1 : (z == 0) = false := by simp only [beq_eq_false_iff_ne, ne_eq]; omega
      clear er hz hA
      rcases hne with hne | ⟨rfl, hne⟩
      · go_enter Try.func47, Try.ntmps47
        go_wp2_with fail
        refine (HL.out _).mono ?_
        rintro r w1 ⟨rfl, hx1⟩
        have hb1 := hb0.trans (hx1.mono hb0.size)
        have r1 := s1.below hx1 s1.lt
        have r2 := s2.below hx1 s2.lt
        obtain ⟨c1, c2, c3, c4⟩ := r1.facts
        obtain ⟨d1, d2, d3, d4⟩ := r2.facts
        go_wp2_with fail
        refine (HS.out _).mono ?_
        rintro r w2 ⟨rfl, hx2⟩
        have hb2 := hb1.trans (hx2.mono hb1.size)
        have q1 := r1.below hx2 r1.lt
        have q2 := r2.below hx2 r2.lt
        clear c1 c2 c3 c4 d1 d2 d3 d4
        obtain ⟨c1, c2, c3, c4⟩ := q1.facts
        obtain ⟨d1, d2, d3, d4⟩ := q2.facts
        go_wp2_with fail
        go_ret
        exact ⟨rfl, hb2⟩
      · go_enter Try.func47, Try.ntmps47
        go_wp2_with fail
        refine (HL.out _).mono ?_
        rintro r w1 ⟨rfl, hx1⟩
        have hb1 := hb0.trans (hx1.mono hb0.size)
        have r1 := s1.below hx1 s1.lt
        have r2 := s2.below hx1 s2.lt
        obtain ⟨c1, c2, c3, c4⟩ := r1.facts
        obtain ⟨d1, d2, d3, d4⟩ := r2.facts
        go_wp2_with fail
        refine (HS.out _).mono ?_
        rintro r w2 ⟨rfl, hx2⟩
        have hb2 := hb1.trans (hx2.mono hb1.size)
        have q1 := r1.below hx2 r1.lt
        have q2 := r2.below hx2 r2.lt
        clear c1 c2 c3 c4 d1 d2 d3 d4
        obtain ⟨c1, c2, c3, c4⟩ := q1.facts
        obtain ⟨d1, d2, d3, d4⟩ := q2.facts
        go_wp2_with fail
        go_ret
        exact ⟨rfl, hb2⟩
end Go.Proofs.Ytohkmkkcblbemaa.Ge
