/- Walks over package geom: Foot. -/
import Derived.Test.YtohkmkkcblbemaaGeoW7
import Derived.Test.YtohkmkkcblbemaaGeoW8
namespace Go.Proofs.Ytohkmkkcblbemaa.Ge
set_option linter.unusedVariables false
set_option linter.unusedSimpArgs false
open Go.RowKit
open Go.Proofs.Ytohkmkkcblbemaa.Fr (Two)

theorem two_keep2 {w : World} {B C : Nat} {t : TypeId} {x y : Value} (h : Two w B t x y) (a b : Value) (hne : B ≠ C) : Two ((w.setCell ⟨C, 0, none⟩ a).setCell ⟨C, 1, none⟩ b) B t x y := by
  unfold Two at h ⊢
  rw [heap_setCell_other _ _ _ _ hne, heap_setCell_other _ _ _ _ hne]
  exact h
set_option maxRecDepth 100000 in
set_option maxHeartbeats 8000000 in
theorem Foot_any (px py ax ay bx bz : Int) (w : World) :
    Calls Try.prog 15 #[.agg #[.int .i64 px, .int .i64 py], .agg #[.int .i64 ax, .int .i64 ay], .agg #[.int .i64 bx, .int .i64 bz]] w fun e w' => e = .returned (if onP px py ∧ onP ax ay ∧ onP bx bz then .tuple #[.agg #[.int .i64 (ftN px py ax ay bx bz), .int .i64 (ftD px py ax ay bx bz)], .agg #[.int .i64 (ftM px py ax ay bx bz), .int .i64 (ftE px py ax ay bx bz)], .int .i64 0] else .tuple #[.agg #[.int .i64 0, .int .i64 0], .agg #[.int .i64 0, .int .i64 0], .int .i64 1]) ∧ Below w.heap.size w w' := by
  have HL := Lib.hid (fun b cap w k => allOn3 px py ax ay bx bz b cap w k)
  have b0_0 := Two.at (w := w) (B := w.heap.size) (by simp) 23 (.int .i64 px) (.int .i64 py)
  have b1_1 := Two.at (w := (w.alloc (.cells #[.int .i64 px, .int .i64 py] 23))) (B := w.heap.size + 1) (by simp) 23 (.int .i64 ax) (.int .i64 ay)
  have b0_1 := b0_0.alloc (.cells #[.int .i64 ax, .int .i64 ay] 23)
  have b2_2 := Two.at (w := ((w.alloc (.cells #[.int .i64 px, .int .i64 py] 23)).alloc (.cells #[.int .i64 ax, .int .i64 ay] 23))) (B := w.heap.size + 1 + 1) (by simp) 23 (.int .i64 bx) (.int .i64 bz)
  have b0_2 := b0_1.alloc (.cells #[.int .i64 bx, .int .i64 bz] 23)
  have b1_2 := b1_1.alloc (.cells #[.int .i64 bx, .int .i64 bz] 23)
  have b0_2e := b0_2.alloc (.cells #[.int .i64 0, .int .i64 0] 30)
  have b1_2e := b1_2.alloc (.cells #[.int .i64 0, .int .i64 0] 30)
  have b2_2e := b2_2.alloc (.cells #[.int .i64 0, .int .i64 0] 30)
  have b0_2ee := b0_2e.alloc (.cells #[.int .i64 0, .int .i64 0] 30)
  have b1_2ee := b1_2e.alloc (.cells #[.int .i64 0, .int .i64 0] 30)
  have b2_2ee := b2_2e.alloc (.cells #[.int .i64 0, .int .i64 0] 30)
  have b0_2eee := b0_2ee.alloc (.cells #[.int .i64 px, .int .i64 py, .int .i64 ax, .int .i64 ay, .int .i64 bx, .int .i64 bz] 23)
  have b1_2eee := b1_2ee.alloc (.cells #[.int .i64 px, .int .i64 py, .int .i64 ax, .int .i64 ay, .int .i64 bx, .int .i64 bz] 23)
  have b2_2eee := b2_2ee.alloc (.cells #[.int .i64 px, .int .i64 py, .int .i64 ax, .int .i64 ay, .int .i64 bx, .int .i64 bz] 23)
  have hb0 : Below w.heap.size w _ := (((((((Below.refl w.heap.size w).alloc (by simp <;> omega) (.cells #[.int .i64 px, .int .i64 py] 23)).alloc (by simp <;> omega) (.cells #[.int .i64 ax, .int .i64 ay] 23)).alloc (by simp <;> omega) (.cells #[.int .i64 bx, .int .i64 bz] 23)).alloc (by simp <;> omega) (.cells #[.int .i64 0, .int .i64 0] 30)).alloc (by simp <;> omega) (.cells #[.int .i64 0, .int .i64 0] 30)).alloc (by simp <;> omega) (.cells #[.int .i64 px, .int .i64 py, .int .i64 ax, .int .i64 ay, .int .i64 bx, .int .i64 bz] 23))
  have v3 := ((Two.at (w := (((w.alloc (.cells #[.int .i64 px, .int .i64 py] 23)).alloc (.cells #[.int .i64 ax, .int .i64 ay] 23)).alloc (.cells #[.int .i64 bx, .int .i64 bz] 23))) (B := w.heap.size + 1 + 1 + 1) (by simp) 30 (.int .i64 0) (.int .i64 0)).alloc (.cells #[.int .i64 0, .int .i64 0] 30)).alloc (.cells #[.int .i64 px, .int .i64 py, .int .i64 ax, .int .i64 ay, .int .i64 bx, .int .i64 bz] 23)
  have v4 := (Two.at (w := (((w.alloc (.cells #[.int .i64 px, .int .i64 py] 23)).alloc (.cells #[.int .i64 ax, .int .i64 ay] 23)).alloc (.cells #[.int .i64 bx, .int .i64 bz] 23)).alloc (.cells #[.int .i64 0, .int .i64 0] 30)) (B := w.heap.size + 1 + 1 + 1 + 1) (by simp) 30 (.int .i64 0) (.int .i64 0)).alloc (.cells #[.int .i64 px, .int .i64 py, .int .i64 ax, .int .i64 ay, .int .i64 bx, .int .i64 bz] 23)
  by_cases h : onP px py ∧ onP ax ay ∧ onP bx bz
  · rw [if_pos h]
    rw [decide_eq_true h] at HL
    obtain ⟨hp, ha, hb⟩ := h
    unfold ftN ftD ftM ftE
    have HJ := Lib.hid (fun w => join_any ax ay bx bz w)
    have HA := Lib.hid (fun w => along_any ax ay bx bz px py ha hb hp w)
    have HT := Lib.hid (fun w => turn_any ax ay bx bz px py ha hb hp w)
    have HD := Lib.hid (fun w => Dist_any ax ay bx bz w)
    have HD1 := Lib.hid (fun w => Dist_any px py ax ay w)
    have HD2 := Lib.hid (fun w => Dist_any px py bx bz w)
    have e1 : distV ax ay bx bz = distN ax ay bx bz := if_pos ⟨ha, hb⟩
    have e2 : distV px py ax ay = distN px py ax ay := if_pos ⟨hp, ha⟩
    have e3 : distV px py bx bz = distN px py bx bz := if_pos ⟨hp, hb⟩
    rw [e1] at HD
    rw [e2] at HD1
    rw [e3] at HD2
    have bd0 := along_bd ha hb hp
    have bd1 := dist_bd ha hb
    have bd2 := dist_bd hp ha
    have bd3 := dist_bd hp hb
    have bd4 := area_bd ha hb hp
    clear e1 e2 e3 hp ha hb
    generalize alongN ax ay bx bz px py = L at *
    generalize distN ax ay bx bz = S at *
    generalize areaN ax ay bx bz px py = T at *
    generalize distN px py ax ay = X at *
    generalize distN px py bx bz = Y at *
    generalize hv1 : (if L ≤ 0 then (0 : Int) else if S ≤ L then 1 else qN L S) = vN
    generalize hv2 : (if L ≤ 0 then (1 : Int) else if S ≤ L then 1 else qD L S) = vD
    generalize hv3 : (if L ≤ 0 then X else if S ≤ L then Y else qN (T * T) S) = vM
    generalize hv4 : (if L ≤ 0 then (1 : Int) else if S ≤ L then 1 else qD (T * T) S) = vE
    have HR := Lib.hid (And.intro hv1 (And.intro hv2 (And.intro hv3 hv4)))
    clear hv1 hv2 hv3 hv4
    go_enter Try.func15, Try.ntmps15
    go_wp2_with fail
    refine (HL.out _ _ _ (pts3 (by simp) _ _ _ _ _ _ _)).mono ?_
    rintro r w1 ⟨rfl, hb1⟩
    have r0 := b0_2eee.below hb1 b0_2eee.lt
    have r1 := b1_2eee.below hb1 b1_2eee.lt
    have r2 := b2_2eee.below hb1 b2_2eee.lt
    have r3 := v3.below hb1 v3.lt
    have r4 := v4.below hb1 v4.lt
    have hb2 := hb0.trans (hb1.mono hb0.size)
    clear b0_0 b0_1 b1_1 b0_2 b1_2 b2_2 b0_2e b1_2e b2_2e b0_2ee b1_2ee b2_2ee b0_2eee b1_2eee b2_2eee v3 v4 hb0 hb1 HL
    obtain ⟨e00, e01, -, -⟩ := r0.facts
    obtain ⟨e10, e11, -, -⟩ := r1.facts
    obtain ⟨e20, e21, -, -⟩ := r2.facts
    go_wp2_with fail
    refine (HJ.out _).mono ?_
    rintro r w2 ⟨rfl, hx2⟩
    clear e00 e01 e10 e11 e20 e21
    have s0 := (r0.below hx2 r0.lt).alloc (.cells #[.int .i64 ax, .int .i64 ay, .int .i64 bx, .int .i64 bz] 63)
    have s1 := (r1.below hx2 r1.lt).alloc (.cells #[.int .i64 ax, .int .i64 ay, .int .i64 bx, .int .i64 bz] 63)
    have s2 := (r2.below hx2 r2.lt).alloc (.cells #[.int .i64 ax, .int .i64 ay, .int .i64 bx, .int .i64 bz] 63)
    have s3 := (r3.below hx2 r3.lt).alloc (.cells #[.int .i64 ax, .int .i64 ay, .int .i64 bx, .int .i64 bz] 63)
    have s4 := (r4.below hx2 r4.lt).alloc (.cells #[.int .i64 ax, .int .i64 ay, .int .i64 bx, .int .i64 bz] 63)
    have sg := Four.at (w := w2) (B := w2.heap.size) rfl ax ay bx bz
    have hb3 := hb2.trans (hx2.mono hb2.size)
    have hb4 := hb3.alloc hb3.size (.cells #[.int .i64 ax, .int .i64 ay, .int .i64 bx, .int .i64 bz] 63)
    clear r0 r1 r2 r3 r4 hb2 hx2 hb3 HJ
    go_upto_region 4 with fail
    generalize hWW : w2.alloc (.cells #[.int .i64 ax, .int .i64 ay, .int .i64 bx, .int .i64 bz] 63) = W at *
    clear hWW
    have hS : ∀ w' : World, Below W.heap.size W w' → (w'.cell? ⟨w.heap.size, 0, none⟩ = some (.int .i64 px) ∧ w'.cell? ⟨w.heap.size, 1, none⟩ = some (.int .i64 py)) ∧ (w'.cell? ⟨w.heap.size + 1, 0, none⟩ = some (.int .i64 ax) ∧ w'.cell? ⟨w.heap.size + 1, 1, none⟩ = some (.int .i64 ay)) ∧ (w'.cell? ⟨w.heap.size + 1 + 1, 0, none⟩ = some (.int .i64 bx) ∧ w'.cell? ⟨w.heap.size + 1 + 1, 1, none⟩ = some (.int .i64 bz)) ∧ (w'.cell? ⟨w2.heap.size, 0, none⟩ = some (.int .i64 ax) ∧ w'.cell? ⟨w2.heap.size, 1, none⟩ = some (.int .i64 ay) ∧ w'.cell? ⟨w2.heap.size, 2, none⟩ = some (.int .i64 bx) ∧ w'.cell? ⟨w2.heap.size, 3, none⟩ = some (.int .i64 bz)) := fun w' hb => ⟨two_of s0 hb, two_of s1 hb, two_of s2 hb, four_of sg hb⟩
    have hr := Below.refl W.heap.size W
    go_region_held3 (fun w' => (w'.cell? ⟨w.heap.size, 0, none⟩ = some (.int .i64 px) ∧ w'.cell? ⟨w.heap.size, 1, none⟩ = some (.int .i64 py)) ∧ (w'.cell? ⟨w.heap.size + 1, 0, none⟩ = some (.int .i64 ax) ∧ w'.cell? ⟨w.heap.size + 1, 1, none⟩ = some (.int .i64 ay)) ∧ (w'.cell? ⟨w.heap.size + 1 + 1, 0, none⟩ = some (.int .i64 bx) ∧ w'.cell? ⟨w.heap.size + 1 + 1, 1, none⟩ = some (.int .i64 bz)) ∧ (w'.cell? ⟨w2.heap.size, 0, none⟩ = some (.int .i64 ax) ∧ w'.cell? ⟨w2.heap.size, 1, none⟩ = some (.int .i64 ay) ∧ w'.cell? ⟨w2.heap.size, 2, none⟩ = some (.int .i64 bx) ∧ w'.cell? ⟨w2.heap.size, 3, none⟩ = some (.int .i64 bz)))
      (first | (with_reducible exact hS _ hr.drew) | (with_reducible refine hS _ ?_; (repeat (first | (with_reducible assumption) | (with_reducible refine Below.drew ?_) | (with_reducible refine Below.setCell ?_ ?_ _) | (with_reducible refine Below.alloc ?_ ?_ _))); all_goals (first | omega | (simp; omega) | simp)))
      (first
        | (go_at_call 42; refine (HA.out _).mono ?_; rintro r x1 ⟨rfl, hx1'⟩; have hx1 : Below W.heap.size W x1 := hr.drew.trans hx1')
        | (go_at_call 17; refine (HD.out _).mono ?_; rintro r x2 ⟨rfl, hx2'⟩; have hx2 : Below W.heap.size W x2 := hx1.trans (hx2'.mono hx1.size))
        | (go_at_call 43; refine (HT.out _).mono ?_; rintro r x3 ⟨rfl, hx3'⟩; have hx3 : Below W.heap.size W x3 := hx2.trans (hx3'.mono hx2.size)))
    all_goals
      have t0 := s0.below hx3 s0.lt
      have t1 := s1.below hx3 s1.lt
      have t2 := s2.below hx3 s2.lt
      have t3 := s3.below hx3 s3.lt
      have t4 := s4.below hx3 s4.lt
      have hb5 := hb4.trans (hx3.mono hb4.size)
      clear hS hr s0 s1 s2 s3 s4 sg hb4 hx1 hx1' hx2 hx2' hx3 hx3'
      generalize x3 = Z at *
      have lt0 := t4.lt
      have hr := Below.refl (w.heap.size + 1 + 1 + 1) Z
      by_cases h1 : L ≤ 0
      · obtain ⟨i1, i2, i3, i4⟩ := HR.out
        rw [if_pos h1] at i1 i2 i3 i4
        subst i1 i2 i3 i4
        clear HR
        have HQ1 := Lib.hid (fun w => quo_any 0 1 (by omega) (by omega) (by omega) (by omega) w)
        have HQ2 := Lib.hid (fun w => quo_any X 1 (by omega) (by omega) (by omega) (by omega) w)
        rw [(q_one 0).1, (q_one 0).2] at HQ1
        rw [(q_one X).1, (q_one X).2] at HQ2
        go_upto_region 6 with fail
        have hS : ∀ w' : World, Below (w.heap.size + 1 + 1 + 1) Z w' → (w'.cell? ⟨w.heap.size, 0, none⟩ = some (.int .i64 px) ∧ w'.cell? ⟨w.heap.size, 1, none⟩ = some (.int .i64 py)) ∧ (w'.cell? ⟨w.heap.size + 1, 0, none⟩ = some (.int .i64 ax) ∧ w'.cell? ⟨w.heap.size + 1, 1, none⟩ = some (.int .i64 ay)) := fun w' hb => ⟨⟨(t0.below hb (by omega)).facts.1, (t0.below hb (by omega)).facts.2.1⟩, (t1.below hb (by omega)).facts.1, (t1.below hb (by omega)).facts.2.1⟩
        go_region_held3 (fun w' => (w'.cell? ⟨w.heap.size, 0, none⟩ = some (.int .i64 px) ∧ w'.cell? ⟨w.heap.size, 1, none⟩ = some (.int .i64 py)) ∧ (w'.cell? ⟨w.heap.size + 1, 0, none⟩ = some (.int .i64 ax) ∧ w'.cell? ⟨w.heap.size + 1, 1, none⟩ = some (.int .i64 ay)))
          (first | (with_reducible exact hS _ hr.drew) | (with_reducible refine hS _ ?_; (repeat (first | (with_reducible assumption) | (with_reducible refine Below.drew ?_) | (with_reducible refine Below.setCell ?_ ?_ _) | (with_reducible refine Below.alloc ?_ ?_ _))); all_goals (first | omega | (simp; omega) | simp)))
          (first
            | (go_at_call 44; have hz := hy2; refine (HQ2.out _).mono ?_; rintro r y3 ⟨rfl, hy3'⟩; have hy3 : Below (w.heap.size + 1 + 1 + 1) Z y3 := hy2.trans (hy3'.mono (by omega)); have lt3 := hy3'.size; have q3 := p3.below hy3' p3.lt; have q4 := p4.below hy3' p4.lt; obtain ⟨c1, c2, c3, c4⟩ := q3.facts; obtain ⟨d1, d2, d3, d4⟩ := q4.facts; have hb8 := hb7.trans (hy3'.mono hb7.size))
            | (go_at_call 17; have hz := hy1; refine (HD1.out _).mono ?_; rintro r y2 ⟨rfl, hy2'⟩; have hy2 : Below (w.heap.size + 1 + 1 + 1) Z y2 := hy1.trans (hy2'.mono (by omega)); have lt2 := hy2'.size; have p3 := o3.below hy2' o3.lt; have p4 := o4.below hy2' o4.lt; have hb7 := hb6.trans (hy2'.mono hb6.size))
            | (go_at_call 44; refine (HQ1.out _).mono ?_; rintro r y1 ⟨rfl, hy1'⟩; have hy1 : Below (w.heap.size + 1 + 1 + 1) Z y1 := hr.drew.trans (hy1'.mono (by show _ ≤ Z.heap.size; omega)); have lt1 : Z.heap.size ≤ y1.heap.size := hy1'.size; have o3 := t3.below (Below.trans (Below.refl Z.heap.size Z).drew hy1') t3.lt; have o4 := t4.below (Below.trans (Below.refl Z.heap.size Z).drew hy1') t4.lt; have hb6 := hb5.trans ((Below.trans (Below.refl Z.heap.size Z).drew hy1').mono hb5.size)))
        all_goals
          go_wp2_with fail
          have g6 := two_keep2 (C := w.heap.size + 1 + 1 + 1 + 1) (two_set2 q3 (.int .i64 0) (.int .i64 1)) (.int .i64 X) (.int .i64 1) (by omega)
          have g7 := two_set2 (two_keep2 (C := w.heap.size + 1 + 1 + 1) q4 (.int .i64 0) (.int .i64 1) (by omega)) (.int .i64 X) (.int .i64 1)
          obtain ⟨j1, j2, -, -⟩ := g6.facts
          obtain ⟨k1, k2, -, -⟩ := g7.facts
          refine bodyPost_ret (v := .tuple #[.agg #[.int .i64 0, .int .i64 1], .agg #[.int .i64 X, .int .i64 1], .int .i64 0]) ?_ rfl ⟨rfl, ?_⟩
          · simp [results, Try.results15, go_sem, j1, j2, k1, k2]
          · exact set2_below (set2_below hb8 (by omega) _ _) (by omega) _ _
      · obtain ⟨i1, i2, i3, i4⟩ := HR.out
        rw [if_neg h1] at i1 i2 i3 i4
        clear HR
        have h2 : decide (L ≤ 0) = false := by simpa using h1
        by_cases h3 : S ≤ L
        · rw [if_pos h3] at i1 i2 i3 i4
          subst i1 i2 i3 i4
          have HQ1 := Lib.hid (fun w => quo_any 1 1 (by omega) (by omega) (by omega) (by omega) w)
          have HQ2 := Lib.hid (fun w => quo_any Y 1 (by omega) (by omega) (by omega) (by omega) w)
          rw [(q_one 1).1, (q_one 1).2] at HQ1
          rw [(q_one Y).1, (q_one Y).2] at HQ2
          go_upto_region 8 with fail
          have hS : ∀ w' : World, Below (w.heap.size + 1 + 1 + 1) Z w' → (w'.cell? ⟨w.heap.size, 0, none⟩ = some (.int .i64 px) ∧ w'.cell? ⟨w.heap.size, 1, none⟩ = some (.int .i64 py)) ∧ (w'.cell? ⟨w.heap.size + 1 + 1, 0, none⟩ = some (.int .i64 bx) ∧ w'.cell? ⟨w.heap.size + 1 + 1, 1, none⟩ = some (.int .i64 bz)) := fun w' hb => ⟨⟨(t0.below hb (by omega)).facts.1, (t0.below hb (by omega)).facts.2.1⟩, (t2.below hb (by omega)).facts.1, (t2.below hb (by omega)).facts.2.1⟩
          go_region_held3 (fun w' => (w'.cell? ⟨w.heap.size, 0, none⟩ = some (.int .i64 px) ∧ w'.cell? ⟨w.heap.size, 1, none⟩ = some (.int .i64 py)) ∧ (w'.cell? ⟨w.heap.size + 1 + 1, 0, none⟩ = some (.int .i64 bx) ∧ w'.cell? ⟨w.heap.size + 1 + 1, 1, none⟩ = some (.int .i64 bz)))
            (first | (with_reducible exact hS _ hr.drew) | (with_reducible refine hS _ ?_; (repeat (first | (with_reducible assumption) | (with_reducible refine Below.drew ?_) | (with_reducible refine Below.setCell ?_ ?_ _) | (with_reducible refine Below.alloc ?_ ?_ _))); all_goals (first | omega | (simp; omega) | simp)))
            (first
              | (go_at_call 44; have hz := hy2; refine (HQ2.out _).mono ?_; rintro r y3 ⟨rfl, hy3'⟩; have hy3 : Below (w.heap.size + 1 + 1 + 1) Z y3 := hy2.trans (hy3'.mono (by omega)); have lt3 := hy3'.size; have q3 := p3.below hy3' p3.lt; have q4 := p4.below hy3' p4.lt; obtain ⟨c1, c2, c3, c4⟩ := q3.facts; obtain ⟨d1, d2, d3, d4⟩ := q4.facts; have hb8 := hb7.trans (hy3'.mono hb7.size))
              | (go_at_call 17; have hz := hy1; refine (HD2.out _).mono ?_; rintro r y2 ⟨rfl, hy2'⟩; have hy2 : Below (w.heap.size + 1 + 1 + 1) Z y2 := hy1.trans (hy2'.mono (by omega)); have lt2 := hy2'.size; have p3 := o3.below hy2' o3.lt; have p4 := o4.below hy2' o4.lt; have hb7 := hb6.trans (hy2'.mono hb6.size))
              | (go_at_call 44; refine (HQ1.out _).mono ?_; rintro r y1 ⟨rfl, hy1'⟩; have hy1 : Below (w.heap.size + 1 + 1 + 1) Z y1 := hr.drew.trans (hy1'.mono (by show _ ≤ Z.heap.size; omega)); have lt1 : Z.heap.size ≤ y1.heap.size := hy1'.size; have o3 := t3.below (Below.trans (Below.refl Z.heap.size Z).drew hy1') t3.lt; have o4 := t4.below (Below.trans (Below.refl Z.heap.size Z).drew hy1') t4.lt; have hb6 := hb5.trans ((Below.trans (Below.refl Z.heap.size Z).drew hy1').mono hb5.size)))
          all_goals
            go_wp2_with fail
            have g6 := two_keep2 (C := w.heap.size + 1 + 1 + 1 + 1) (two_set2 q3 (.int .i64 1) (.int .i64 1)) (.int .i64 Y) (.int .i64 1) (by omega)
            have g7 := two_set2 (two_keep2 (C := w.heap.size + 1 + 1 + 1) q4 (.int .i64 1) (.int .i64 1) (by omega)) (.int .i64 Y) (.int .i64 1)
            obtain ⟨j1, j2, -, -⟩ := g6.facts
            obtain ⟨k1, k2, -, -⟩ := g7.facts
            refine bodyPost_ret (v := .tuple #[.agg #[.int .i64 1, .int .i64 1], .agg #[.int .i64 Y, .int .i64 1], .int .i64 0]) ?_ rfl ⟨rfl, ?_⟩
            · simp [results, Try.results15, go_sem, j1, j2, k1, k2]
            · exact set2_below (set2_below hb8 (by omega) _ _) (by omega) _ _
        · rw [if_neg h3] at i1 i2 i3 i4
          have h4 : decide (S ≤ L) = false := by simpa using h3
          have hm := mul_bd (a := T) (b := T) (m := 2147352578) (k := 2147352578) bd4.1 bd4.2 bd4.1 bd4.2 (by decide) (by decide)
          have hm0 := sq_nonneg T
          have hw : IntKind.i64.wrap (T * T) = T * T := by rw [IntKind.wrap_i64]; omega
          have HQ1 := Lib.hid (fun w => quo_any L S (by omega) (by omega) (by omega) (by omega) w)
          have HQ2 := Lib.hid (fun w => quo_any (T * T) S (by omega) (by omega) (by omega) (by omega) w)
          rw [i1, i2] at HQ1
          rw [i3, i4] at HQ2
          clear i1 i2 i3 i4
          go_wp2_with fail
          refine (HQ1.out _).mono ?_
          rintro r y1 ⟨rfl, hy1⟩
          have q3 := t3.below hy1 t3.lt
          have q4 := t4.below hy1 t4.lt
          have hb6 := hb5.trans (hy1.mono hb5.size)
          go_wp2_with fail
          refine (HQ2.out _).mono ?_
          rintro r y2 ⟨rfl, hy2⟩
          have o3 := q3.below hy2 q3.lt
          have o4 := q4.below hy2 q4.lt
          have hb7 := hb6.trans (hy2.mono hb6.size)
          obtain ⟨c1, c2, c3, c4⟩ := o3.facts
          obtain ⟨d1, d2, d3, d4⟩ := o4.facts
          go_wp2_with fail
          have g6 := two_keep2 (C := w.heap.size + 1 + 1 + 1 + 1) (two_set2 o3 (.int .i64 vN) (.int .i64 vD)) (.int .i64 vM) (.int .i64 vE) (by omega)
          have g7 := two_set2 (two_keep2 (C := w.heap.size + 1 + 1 + 1) o4 (.int .i64 vN) (.int .i64 vD) (by omega)) (.int .i64 vM) (.int .i64 vE)
          obtain ⟨j1, j2, -, -⟩ := g6.facts
          obtain ⟨k1, k2, -, -⟩ := g7.facts
          refine bodyPost_ret (v := .tuple #[.agg #[.int .i64 vN, .int .i64 vD], .agg #[.int .i64 vM, .int .i64 vE], .int .i64 0]) ?_ rfl ⟨rfl, ?_⟩
          · simp [results, Try.results15, go_sem, j1, j2, k1, k2]
          · exact set2_below (set2_below hb7 (by omega) _ _) (by omega) _ _
  · rw [if_neg h]
    rw [decide_eq_false h] at HL
    go_enter Try.func15, Try.ntmps15
    go_wp2_with fail
    refine (HL.out _ _ _ (pts3 (by simp) _ _ _ _ _ _ _)).mono ?_
    rintro r w1 ⟨rfl, hb1⟩
    have o3 := v3.below hb1 v3.lt
    have o4 := v4.below hb1 v4.lt
    obtain ⟨c1, c2, c3, c4⟩ := o3.facts
    obtain ⟨d1, d2, d3, d4⟩ := o4.facts
    have hb2 := hb0.trans (hb1.mono hb0.size)
    go_wp2_with fail
    have g6 := two_keep2 (C := w.heap.size + 1 + 1 + 1 + 1) (two_set2 o3 (.int .i64 0) (.int .i64 0)) (.int .i64 0) (.int .i64 0) (by omega)
    have g7 := two_set2 (two_keep2 (C := w.heap.size + 1 + 1 + 1) o4 (.int .i64 0) (.int .i64 0) (by omega)) (.int .i64 0) (.int .i64 0)
    obtain ⟨j1, j2, -, -⟩ := g6.facts
    obtain ⟨k1, k2, -, -⟩ := g7.facts
    refine bodyPost_ret (v := .tuple #[.agg #[.int .i64 0, .int .i64 0], .agg #[.int .i64 0, .int .i64 0], .int .i64 1]) ?_ rfl ⟨rfl, ?_⟩
    · simp [results, Try.results15, go_sem, j1, j2, k1, k2]
    · exact set2_below (set2_below hb2 (by omega) _ _) (by omega) _ _
end Go.Proofs.Ytohkmkkcblbemaa.Ge
