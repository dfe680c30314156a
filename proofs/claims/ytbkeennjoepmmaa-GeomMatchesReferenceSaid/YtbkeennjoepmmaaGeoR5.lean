/- Layer 7's reference: Foot. -/
import Derived.Test.YtbkeennjoepmmaaGeoR3
namespace Go.Proofs.Ytbkeennjoepmmaa.Ge
set_option linter.unusedVariables false
set_option linter.unusedSimpArgs false
open Go.RowKit
open Go.Proofs.Ytbkeennjoepmmaa.Fr (Two)

set_option maxRecDepth 100000 in
set_option maxHeartbeats 4000000 in
theorem r_foot_any (px py ax ay bx bz : Int) (w : World) :
    Calls Try.prog 13 #[.agg #[.int .i64 px, .int .i64 py], .agg #[.int .i64 ax, .int .i64 ay], .agg #[.int .i64 bx, .int .i64 bz]] w fun e w' => e = .returned (if onP px py ∧ onP ax ay ∧ onP bx bz then .tuple #[.agg #[.int .i64 (ftN px py ax ay bx bz), .int .i64 (ftD px py ax ay bx bz)], .agg #[.int .i64 (ftM px py ax ay bx bz), .int .i64 (ftE px py ax ay bx bz)], .int .i64 0] else .tuple #[.agg #[.int .i64 0, .int .i64 0], .agg #[.int .i64 0, .int .i64 0], .int .i64 1]) ∧ Below w.heap.size w w' := by
  by_cases h1 : onP px py
  · have HO1 := Lib.hid (fun w => r_on_yes px py h1 w)
    by_cases h2 : onP ax ay
    · have HO2 := Lib.hid (fun w => r_on_yes ax ay h2 w)
      by_cases h3 : onP bx bz
      · have HO3 := Lib.hid (fun w => r_on_yes bx bz h3 w)
        rw [if_pos ⟨h1, h2, h3⟩]
        unfold ftN ftD ftM ftE
        have HT := Lib.hid (fun w => r_area_any ax ay bx bz px py h2 h3 h1 w)
        have HD := Lib.hid (fun w => r_dist_any ax ay bx bz w)
        have HD1 := Lib.hid (fun w => r_dist_any px py ax ay w)
        have HD2 := Lib.hid (fun w => r_dist_any px py bx bz w)
        rw [dist_on h2 h3] at HD
        rw [dist_on h1 h2] at HD1
        rw [dist_on h1 h3] at HD2
        have bd0 := along_bd h2 h3 h1
        have bd1 := dist_bd h2 h3
        have bd2 := dist_bd h1 h2
        have bd3 := dist_bd h1 h3
        have bd4 := area_bd h2 h3 h1
        have m1 := p_bd (d_bd h2.1.1 h2.1.2 h1.1.1 h1.1.2) (d_bd h2.1.1 h2.1.2 h3.1.1 h3.1.2)
        have m2 := p_bd (d_bd h2.2.1 h2.2.2 h1.2.1 h1.2.2) (d_bd h2.2.1 h2.2.2 h3.2.1 h3.2.2)
        obtain ⟨⟨a1, a2⟩, a3, a4⟩ := h1
        obtain ⟨⟨b1, b2⟩, b3, b4⟩ := h2
        obtain ⟨⟨c1, c2⟩, c3, c4⟩ := h3
        have eL : (px - ax) * (bx - ax) + (py - ay) * (bz - ay) = alongN ax ay bx bz px py := by unfold alongN; grind
        generalize hL : alongN ax ay bx bz px py = L at *
        clear hL
        generalize distN ax ay bx bz = S at *
        generalize areaN ax ay bx bz px py = T at *
        generalize distN px py ax ay = X at *
        generalize distN px py bx bz = Y at *
        generalize hv1 : (if L ≤ 0 then (0 : Int) else if S ≤ L then 1 else qN L S) = vN
        generalize hv2 : (if L ≤ 0 then (1 : Int) else if S ≤ L then 1 else qD L S) = vD
        generalize hv3 : (if L ≤ 0 then X else if S ≤ L then Y else qN (T * T) S) = vM
        generalize hv4 : (if L ≤ 0 then (1 : Int) else if S ≤ L then 1 else qD (T * T) S) = vE
        by_cases l1 : L ≤ 0
        · rw [if_pos l1] at hv1 hv2 hv3 hv4
          subst hv1 hv2 hv3 hv4
          have b0_0 := Two.at (w := w) (B := w.heap.size) (by simp) 23 (.int .i64 px) (.int .i64 py)
          have b1_1 := Two.at (w := (w.alloc (.cells #[.int .i64 px, .int .i64 py] 23))) (B := w.heap.size + 1) (by simp) 23 (.int .i64 ax) (.int .i64 ay)
          have b0_1 := b0_0.alloc (.cells #[.int .i64 ax, .int .i64 ay] 23)
          have b2_2 := Two.at (w := ((w.alloc (.cells #[.int .i64 px, .int .i64 py] 23)).alloc (.cells #[.int .i64 ax, .int .i64 ay] 23))) (B := w.heap.size + 1 + 1) (by simp) 23 (.int .i64 bx) (.int .i64 bz)
          have b0_2 := b0_1.alloc (.cells #[.int .i64 bx, .int .i64 bz] 23)
          have b1_2 := b1_1.alloc (.cells #[.int .i64 bx, .int .i64 bz] 23)
          have b0_2e := b0_2.alloc (.cells #[.int .i64 0, .int .i64 0] 26)
          have b1_2e := b1_2.alloc (.cells #[.int .i64 0, .int .i64 0] 26)
          have b2_2e := b2_2.alloc (.cells #[.int .i64 0, .int .i64 0] 26)
          have b0_2ee := b0_2e.alloc (.cells #[.int .i64 0, .int .i64 0] 26)
          have b1_2ee := b1_2e.alloc (.cells #[.int .i64 0, .int .i64 0] 26)
          have b2_2ee := b2_2e.alloc (.cells #[.int .i64 0, .int .i64 0] 26)
          have hb0 : Below w.heap.size w _ := ((((((Below.refl w.heap.size w).alloc (by simp <;> omega) (.cells #[.int .i64 px, .int .i64 py] 23)).alloc (by simp <;> omega) (.cells #[.int .i64 ax, .int .i64 ay] 23)).alloc (by simp <;> omega) (.cells #[.int .i64 bx, .int .i64 bz] 23)).alloc (by simp <;> omega) (.cells #[.int .i64 0, .int .i64 0] 26)).alloc (by simp <;> omega) (.cells #[.int .i64 0, .int .i64 0] 26))
          have b4_0 := (Two.at (w := (((w.alloc (.cells #[.int .i64 px, .int .i64 py] 23)).alloc (.cells #[.int .i64 ax, .int .i64 ay] 23)).alloc (.cells #[.int .i64 bx, .int .i64 bz] 23))) (B := w.heap.size + 1 + 1 + 1) (by simp) 26 (.int .i64 0) (.int .i64 0)).alloc (.cells #[.int .i64 0, .int .i64 0] 26)
          have b5_0 := Two.at (w := (((w.alloc (.cells #[.int .i64 px, .int .i64 py] 23)).alloc (.cells #[.int .i64 ax, .int .i64 ay] 23)).alloc (.cells #[.int .i64 bx, .int .i64 bz] 23)).alloc (.cells #[.int .i64 0, .int .i64 0] 26)) (B := w.heap.size + 1 + 1 + 1 + 1) (by simp) 26 (.int .i64 0) (.int .i64 0)
          go_enter Try.func13, Try.ntmps13
          obtain ⟨f1_0, f1_1, f1_2, f1_3⟩ := b0_2ee.facts
          obtain ⟨f2_0, f2_1, f2_2, f2_3⟩ := b1_2ee.facts
          obtain ⟨f3_0, f3_1, f3_2, f3_3⟩ := b2_2ee.facts
          obtain ⟨f4_0, f4_1, f4_2, f4_3⟩ := b4_0.facts
          obtain ⟨f5_0, f5_1, f5_2, f5_3⟩ := b5_0.facts
          go_wp2_with fail
          refine (HO1.out _).mono ?_
          rintro r v109 ⟨rfl, hx109⟩
          clear f1_0 f1_1 f1_2 f1_3 f2_0 f2_1 f2_2 f2_3 f3_0 f3_1 f3_2 f3_3 f4_0 f4_1 f4_2 f4_3 f5_0 f5_1 f5_2 f5_3
          have t1_109 := b0_2ee.below hx109 b0_2ee.lt
          clear b0_2ee
          have t2_109 := b1_2ee.below hx109 b1_2ee.lt
          clear b1_2ee
          have t3_109 := b2_2ee.below hx109 b2_2ee.lt
          clear b2_2ee
          have t4_109 := b4_0.below hx109 b4_0.lt
          clear b4_0
          have t5_109 := b5_0.below hx109 b5_0.lt
          clear b5_0
          have hb109 := hb0.trans (hx109.mono hb0.size)
          clear hb0 hx109
          obtain ⟨f1_0, f1_1, f1_2, f1_3⟩ := t1_109.facts
          obtain ⟨f2_0, f2_1, f2_2, f2_3⟩ := t2_109.facts
          obtain ⟨f3_0, f3_1, f3_2, f3_3⟩ := t3_109.facts
          obtain ⟨f4_0, f4_1, f4_2, f4_3⟩ := t4_109.facts
          obtain ⟨f5_0, f5_1, f5_2, f5_3⟩ := t5_109.facts
          go_wp2_with fail
          refine (HO2.out _).mono ?_
          rintro r v110 ⟨rfl, hx110⟩
          clear f1_0 f1_1 f1_2 f1_3 f2_0 f2_1 f2_2 f2_3 f3_0 f3_1 f3_2 f3_3 f4_0 f4_1 f4_2 f4_3 f5_0 f5_1 f5_2 f5_3
          have t1_110 := t1_109.below hx110 t1_109.lt
          clear t1_109
          have t2_110 := t2_109.below hx110 t2_109.lt
          clear t2_109
          have t3_110 := t3_109.below hx110 t3_109.lt
          clear t3_109
          have t4_110 := t4_109.below hx110 t4_109.lt
          clear t4_109
          have t5_110 := t5_109.below hx110 t5_109.lt
          clear t5_109
          have hb110 := hb109.trans (hx110.mono hb109.size)
          clear hb109 hx110
          obtain ⟨f1_0, f1_1, f1_2, f1_3⟩ := t1_110.facts
          obtain ⟨f2_0, f2_1, f2_2, f2_3⟩ := t2_110.facts
          obtain ⟨f3_0, f3_1, f3_2, f3_3⟩ := t3_110.facts
          obtain ⟨f4_0, f4_1, f4_2, f4_3⟩ := t4_110.facts
          obtain ⟨f5_0, f5_1, f5_2, f5_3⟩ := t5_110.facts
          go_wp2_with fail
          refine (HO3.out _).mono ?_
          rintro r v111 ⟨rfl, hx111⟩
          clear f1_0 f1_1 f1_2 f1_3 f2_0 f2_1 f2_2 f2_3 f3_0 f3_1 f3_2 f3_3 f4_0 f4_1 f4_2 f4_3 f5_0 f5_1 f5_2 f5_3
          have t1_111 := t1_110.below hx111 t1_110.lt
          clear t1_110
          have t2_111 := t2_110.below hx111 t2_110.lt
          clear t2_110
          have t3_111 := t3_110.below hx111 t3_110.lt
          clear t3_110
          have t4_111 := t4_110.below hx111 t4_110.lt
          clear t4_110
          have t5_111 := t5_110.below hx111 t5_110.lt
          clear t5_110
          have hb111 := hb110.trans (hx111.mono hb110.size)
          clear hb110 hx111
          obtain ⟨f1_0, f1_1, f1_2, f1_3⟩ := t1_111.facts
          obtain ⟨f2_0, f2_1, f2_2, f2_3⟩ := t2_111.facts
          obtain ⟨f3_0, f3_1, f3_2, f3_3⟩ := t3_111.facts
          obtain ⟨f4_0, f4_1, f4_2, f4_3⟩ := t4_111.facts
          obtain ⟨f5_0, f5_1, f5_2, f5_3⟩ := t5_111.facts
          go_wp2_with fail
          refine (HD.out _).mono ?_
          rintro r v112 ⟨rfl, hx112⟩
          clear f1_0 f1_1 f1_2 f1_3 f2_0 f2_1 f2_2 f2_3 f3_0 f3_1 f3_2 f3_3 f4_0 f4_1 f4_2 f4_3 f5_0 f5_1 f5_2 f5_3
          have t1_112 := t1_111.below hx112 t1_111.lt
          clear t1_111
          have t2_112 := t2_111.below hx112 t2_111.lt
          clear t2_111
          have t3_112 := t3_111.below hx112 t3_111.lt
          clear t3_111
          have t4_112 := t4_111.below hx112 t4_111.lt
          clear t4_111
          have t5_112 := t5_111.below hx112 t5_111.lt
          clear t5_111
          have hb112 := hb111.trans (hx112.mono hb111.size)
          clear hb111 hx112
          have HQ1 := Lib.hid (fun w => r_lowest_any 0 1 (by omega) (by omega) (by omega) (by omega) w)
          have HQ2 := Lib.hid (fun w => r_lowest_any X 1 (by omega) (by omega) (by omega) (by omega) w)
          rw [(q_one 0).1, (q_one 0).2] at HQ1
          rw [(q_one X).1, (q_one X).2] at HQ2
          obtain ⟨f1_0, f1_1, f1_2, f1_3⟩ := t1_112.facts
          obtain ⟨f2_0, f2_1, f2_2, f2_3⟩ := t2_112.facts
          obtain ⟨f3_0, f3_1, f3_2, f3_3⟩ := t3_112.facts
          obtain ⟨f4_0, f4_1, f4_2, f4_3⟩ := t4_112.facts
          obtain ⟨f5_0, f5_1, f5_2, f5_3⟩ := t5_112.facts
          go_upto_region 6 with fail
          clear f1_0 f1_1 f1_2 f1_3 f2_0 f2_1 f2_2 f2_3 f3_0 f3_1 f3_2 f3_3 f4_0 f4_1 f4_2 f4_3 f5_0 f5_1 f5_2 f5_3
          have lt0 := t5_112.lt
          have hS : ∀ w' : World, Below (w.heap.size + 1 + 1 + 1) v112 w' → (w'.cell? ⟨w.heap.size, 0, none⟩ = some (.int .i64 px) ∧ w'.cell? ⟨w.heap.size, 1, none⟩ = some (.int .i64 py)) ∧ (w'.cell? ⟨w.heap.size + 1, 0, none⟩ = some (.int .i64 ax) ∧ w'.cell? ⟨w.heap.size + 1, 1, none⟩ = some (.int .i64 ay)) := fun w' hb => ⟨⟨(t1_112.below hb (by omega)).facts.1, (t1_112.below hb (by omega)).facts.2.1⟩, (t2_112.below hb (by omega)).facts.1, (t2_112.below hb (by omega)).facts.2.1⟩
          have hr := Below.refl (w.heap.size + 1 + 1 + 1) v112
          go_region_held3 (fun w' => (w'.cell? ⟨w.heap.size, 0, none⟩ = some (.int .i64 px) ∧ w'.cell? ⟨w.heap.size, 1, none⟩ = some (.int .i64 py)) ∧ (w'.cell? ⟨w.heap.size + 1, 0, none⟩ = some (.int .i64 ax) ∧ w'.cell? ⟨w.heap.size + 1, 1, none⟩ = some (.int .i64 ay)))
            (first | (with_reducible exact hS _ hr.drew) | (with_reducible refine hS _ ?_; (repeat (first | (with_reducible assumption) | (with_reducible refine Below.drew ?_) | (with_reducible refine Below.setCell ?_ ?_ _) | (with_reducible refine Below.alloc ?_ ?_ _))); all_goals (first | omega | (simp; omega) | simp)))
            (first
              | (go_at_call 33; have hz := hy2; refine (HQ2.out _).mono ?_; rintro r y3 ⟨rfl, hy3'⟩; have hy3 : Below (w.heap.size + 1 + 1 + 1) v112 y3 := hy2.trans (hy3'.mono (by omega)); have lt3 := hy3'.size; have q3 := p3.below hy3' p3.lt; have q4 := p4.below hy3' p4.lt; obtain ⟨c1, c2, c3, c4⟩ := q3.facts; obtain ⟨d1, d2, d3, d4⟩ := q4.facts; have hb8 := hb7.trans (hy3'.mono hb7.size))
              | (go_at_call 19; have hz := hy1; refine (HD1.out _).mono ?_; rintro r y2 ⟨rfl, hy2'⟩; have hy2 : Below (w.heap.size + 1 + 1 + 1) v112 y2 := hy1.trans (hy2'.mono (by omega)); have lt2 := hy2'.size; have p3 := o3.below hy2' o3.lt; have p4 := o4.below hy2' o4.lt; have hb7 := hb6.trans (hy2'.mono hb6.size))
              | (go_at_call 33; refine (HQ1.out _).mono ?_; rintro r y1 ⟨rfl, hy1'⟩; have hy1 : Below (w.heap.size + 1 + 1 + 1) v112 y1 := hr.drew.trans (hy1'.mono (by show _ ≤ v112.heap.size; omega)); have lt1 : v112.heap.size ≤ y1.heap.size := hy1'.size; have o3 := t4_112.below (Below.trans (Below.refl v112.heap.size v112).drew hy1') t4_112.lt; have o4 := t5_112.below (Below.trans (Below.refl v112.heap.size v112).drew hy1') t5_112.lt; have hb6 := hb112.trans ((Below.trans (Below.refl v112.heap.size v112).drew hy1').mono hb112.size)))
          all_goals
            clear c1 c2 c3 c4 d1 d2 d3 d4
            obtain ⟨f4_0, f4_1, f4_2, f4_3⟩ := q3.facts
            obtain ⟨f5_0, f5_1, f5_2, f5_3⟩ := q4.facts
            go_wp2_with fail
            have g6 := two_keep2 (C := w.heap.size + 1 + 1 + 1 + 1) (two_set2 q3 (.int .i64 0) (.int .i64 1)) (.int .i64 X) (.int .i64 1) (by omega)
            have g7 := two_set2 (two_keep2 (C := w.heap.size + 1 + 1 + 1) q4 (.int .i64 0) (.int .i64 1) (by omega)) (.int .i64 X) (.int .i64 1)
            obtain ⟨j1, j2, -, -⟩ := g6.facts
            obtain ⟨k1, k2, -, -⟩ := g7.facts
            refine bodyPost_ret (v := .tuple #[.agg #[.int .i64 0, .int .i64 1], .agg #[.int .i64 X, .int .i64 1], .int .i64 0]) ?_ rfl ⟨rfl, ?_⟩
            · simp [results, Try.results13, go_sem, j1, j2, k1, k2]
            · exact set2_below (set2_below hb8 (by omega) _ _) (by omega) _ _
        · rw [if_neg l1] at hv1 hv2 hv3 hv4
          have l2 : decide (L ≤ 0) = false := by simpa using l1
          by_cases l3 : S ≤ L
          · rw [if_pos l3] at hv1 hv2 hv3 hv4
            subst hv1 hv2 hv3 hv4
            have b0_0 := Two.at (w := w) (B := w.heap.size) (by simp) 23 (.int .i64 px) (.int .i64 py)
            have b1_1 := Two.at (w := (w.alloc (.cells #[.int .i64 px, .int .i64 py] 23))) (B := w.heap.size + 1) (by simp) 23 (.int .i64 ax) (.int .i64 ay)
            have b0_1 := b0_0.alloc (.cells #[.int .i64 ax, .int .i64 ay] 23)
            have b2_2 := Two.at (w := ((w.alloc (.cells #[.int .i64 px, .int .i64 py] 23)).alloc (.cells #[.int .i64 ax, .int .i64 ay] 23))) (B := w.heap.size + 1 + 1) (by simp) 23 (.int .i64 bx) (.int .i64 bz)
            have b0_2 := b0_1.alloc (.cells #[.int .i64 bx, .int .i64 bz] 23)
            have b1_2 := b1_1.alloc (.cells #[.int .i64 bx, .int .i64 bz] 23)
            have b0_2e := b0_2.alloc (.cells #[.int .i64 0, .int .i64 0] 26)
            have b1_2e := b1_2.alloc (.cells #[.int .i64 0, .int .i64 0] 26)
            have b2_2e := b2_2.alloc (.cells #[.int .i64 0, .int .i64 0] 26)
            have b0_2ee := b0_2e.alloc (.cells #[.int .i64 0, .int .i64 0] 26)
            have b1_2ee := b1_2e.alloc (.cells #[.int .i64 0, .int .i64 0] 26)
            have b2_2ee := b2_2e.alloc (.cells #[.int .i64 0, .int .i64 0] 26)
            have hb0 : Below w.heap.size w _ := ((((((Below.refl w.heap.size w).alloc (by simp <;> omega) (.cells #[.int .i64 px, .int .i64 py] 23)).alloc (by simp <;> omega) (.cells #[.int .i64 ax, .int .i64 ay] 23)).alloc (by simp <;> omega) (.cells #[.int .i64 bx, .int .i64 bz] 23)).alloc (by simp <;> omega) (.cells #[.int .i64 0, .int .i64 0] 26)).alloc (by simp <;> omega) (.cells #[.int .i64 0, .int .i64 0] 26))
            have b4_0 := (Two.at (w := (((w.alloc (.cells #[.int .i64 px, .int .i64 py] 23)).alloc (.cells #[.int .i64 ax, .int .i64 ay] 23)).alloc (.cells #[.int .i64 bx, .int .i64 bz] 23))) (B := w.heap.size + 1 + 1 + 1) (by simp) 26 (.int .i64 0) (.int .i64 0)).alloc (.cells #[.int .i64 0, .int .i64 0] 26)
            have b5_0 := Two.at (w := (((w.alloc (.cells #[.int .i64 px, .int .i64 py] 23)).alloc (.cells #[.int .i64 ax, .int .i64 ay] 23)).alloc (.cells #[.int .i64 bx, .int .i64 bz] 23)).alloc (.cells #[.int .i64 0, .int .i64 0] 26)) (B := w.heap.size + 1 + 1 + 1 + 1) (by simp) 26 (.int .i64 0) (.int .i64 0)
            go_enter Try.func13, Try.ntmps13
            obtain ⟨f1_0, f1_1, f1_2, f1_3⟩ := b0_2ee.facts
            obtain ⟨f2_0, f2_1, f2_2, f2_3⟩ := b1_2ee.facts
            obtain ⟨f3_0, f3_1, f3_2, f3_3⟩ := b2_2ee.facts
            obtain ⟨f4_0, f4_1, f4_2, f4_3⟩ := b4_0.facts
            obtain ⟨f5_0, f5_1, f5_2, f5_3⟩ := b5_0.facts
            go_wp2_with fail
            refine (HO1.out _).mono ?_
            rintro r v113 ⟨rfl, hx113⟩
            clear f1_0 f1_1 f1_2 f1_3 f2_0 f2_1 f2_2 f2_3 f3_0 f3_1 f3_2 f3_3 f4_0 f4_1 f4_2 f4_3 f5_0 f5_1 f5_2 f5_3
            have t1_113 := b0_2ee.below hx113 b0_2ee.lt
            clear b0_2ee
            have t2_113 := b1_2ee.below hx113 b1_2ee.lt
            clear b1_2ee
            have t3_113 := b2_2ee.below hx113 b2_2ee.lt
            clear b2_2ee
            have t4_113 := b4_0.below hx113 b4_0.lt
            clear b4_0
            have t5_113 := b5_0.below hx113 b5_0.lt
            clear b5_0
            have hb113 := hb0.trans (hx113.mono hb0.size)
            clear hb0 hx113
            obtain ⟨f1_0, f1_1, f1_2, f1_3⟩ := t1_113.facts
            obtain ⟨f2_0, f2_1, f2_2, f2_3⟩ := t2_113.facts
            obtain ⟨f3_0, f3_1, f3_2, f3_3⟩ := t3_113.facts
            obtain ⟨f4_0, f4_1, f4_2, f4_3⟩ := t4_113.facts
            obtain ⟨f5_0, f5_1, f5_2, f5_3⟩ := t5_113.facts
            go_wp2_with fail
            refine (HO2.out _).mono ?_
            rintro r v114 ⟨rfl, hx114⟩
            clear f1_0 f1_1 f1_2 f1_3 f2_0 f2_1 f2_2 f2_3 f3_0 f3_1 f3_2 f3_3 f4_0 f4_1 f4_2 f4_3 f5_0 f5_1 f5_2 f5_3
            have t1_114 := t1_113.below hx114 t1_113.lt
            clear t1_113
            have t2_114 := t2_113.below hx114 t2_113.lt
            clear t2_113
            have t3_114 := t3_113.below hx114 t3_113.lt
            clear t3_113
            have t4_114 := t4_113.below hx114 t4_113.lt
            clear t4_113
            have t5_114 := t5_113.below hx114 t5_113.lt
            clear t5_113
            have hb114 := hb113.trans (hx114.mono hb113.size)
            clear hb113 hx114
            obtain ⟨f1_0, f1_1, f1_2, f1_3⟩ := t1_114.facts
            obtain ⟨f2_0, f2_1, f2_2, f2_3⟩ := t2_114.facts
            obtain ⟨f3_0, f3_1, f3_2, f3_3⟩ := t3_114.facts
            obtain ⟨f4_0, f4_1, f4_2, f4_3⟩ := t4_114.facts
            obtain ⟨f5_0, f5_1, f5_2, f5_3⟩ := t5_114.facts
            go_wp2_with fail
            refine (HO3.out _).mono ?_
            rintro r v115 ⟨rfl, hx115⟩
            clear f1_0 f1_1 f1_2 f1_3 f2_0 f2_1 f2_2 f2_3 f3_0 f3_1 f3_2 f3_3 f4_0 f4_1 f4_2 f4_3 f5_0 f5_1 f5_2 f5_3
            have t1_115 := t1_114.below hx115 t1_114.lt
            clear t1_114
            have t2_115 := t2_114.below hx115 t2_114.lt
            clear t2_114
            have t3_115 := t3_114.below hx115 t3_114.lt
            clear t3_114
            have t4_115 := t4_114.below hx115 t4_114.lt
            clear t4_114
            have t5_115 := t5_114.below hx115 t5_114.lt
            clear t5_114
            have hb115 := hb114.trans (hx115.mono hb114.size)
            clear hb114 hx115
            obtain ⟨f1_0, f1_1, f1_2, f1_3⟩ := t1_115.facts
            obtain ⟨f2_0, f2_1, f2_2, f2_3⟩ := t2_115.facts
            obtain ⟨f3_0, f3_1, f3_2, f3_3⟩ := t3_115.facts
            obtain ⟨f4_0, f4_1, f4_2, f4_3⟩ := t4_115.facts
            obtain ⟨f5_0, f5_1, f5_2, f5_3⟩ := t5_115.facts
            go_wp2_with fail
            refine (HD.out _).mono ?_
            rintro r v116 ⟨rfl, hx116⟩
            clear f1_0 f1_1 f1_2 f1_3 f2_0 f2_1 f2_2 f2_3 f3_0 f3_1 f3_2 f3_3 f4_0 f4_1 f4_2 f4_3 f5_0 f5_1 f5_2 f5_3
            have t1_116 := t1_115.below hx116 t1_115.lt
            clear t1_115
            have t2_116 := t2_115.below hx116 t2_115.lt
            clear t2_115
            have t3_116 := t3_115.below hx116 t3_115.lt
            clear t3_115
            have t4_116 := t4_115.below hx116 t4_115.lt
            clear t4_115
            have t5_116 := t5_115.below hx116 t5_115.lt
            clear t5_115
            have hb116 := hb115.trans (hx116.mono hb115.size)
            clear hb115 hx116
            have HQ1 := Lib.hid (fun w => r_lowest_any 1 1 (by omega) (by omega) (by omega) (by omega) w)
            have HQ2 := Lib.hid (fun w => r_lowest_any Y 1 (by omega) (by omega) (by omega) (by omega) w)
            rw [(q_one 1).1, (q_one 1).2] at HQ1
            rw [(q_one Y).1, (q_one Y).2] at HQ2
            obtain ⟨f1_0, f1_1, f1_2, f1_3⟩ := t1_116.facts
            obtain ⟨f2_0, f2_1, f2_2, f2_3⟩ := t2_116.facts
            obtain ⟨f3_0, f3_1, f3_2, f3_3⟩ := t3_116.facts
            obtain ⟨f4_0, f4_1, f4_2, f4_3⟩ := t4_116.facts
            obtain ⟨f5_0, f5_1, f5_2, f5_3⟩ := t5_116.facts
            go_upto_region 8 with fail
            clear f1_0 f1_1 f1_2 f1_3 f2_0 f2_1 f2_2 f2_3 f3_0 f3_1 f3_2 f3_3 f4_0 f4_1 f4_2 f4_3 f5_0 f5_1 f5_2 f5_3
            have lt0 := t5_116.lt
            have hS : ∀ w' : World, Below (w.heap.size + 1 + 1 + 1) v116 w' → (w'.cell? ⟨w.heap.size, 0, none⟩ = some (.int .i64 px) ∧ w'.cell? ⟨w.heap.size, 1, none⟩ = some (.int .i64 py)) ∧ (w'.cell? ⟨w.heap.size + 1 + 1, 0, none⟩ = some (.int .i64 bx) ∧ w'.cell? ⟨w.heap.size + 1 + 1, 1, none⟩ = some (.int .i64 bz)) := fun w' hb => ⟨⟨(t1_116.below hb (by omega)).facts.1, (t1_116.below hb (by omega)).facts.2.1⟩, (t3_116.below hb (by omega)).facts.1, (t3_116.below hb (by omega)).facts.2.1⟩
            have hr := Below.refl (w.heap.size + 1 + 1 + 1) v116
            go_region_held3 (fun w' => (w'.cell? ⟨w.heap.size, 0, none⟩ = some (.int .i64 px) ∧ w'.cell? ⟨w.heap.size, 1, none⟩ = some (.int .i64 py)) ∧ (w'.cell? ⟨w.heap.size + 1 + 1, 0, none⟩ = some (.int .i64 bx) ∧ w'.cell? ⟨w.heap.size + 1 + 1, 1, none⟩ = some (.int .i64 bz)))
              (first | (with_reducible exact hS _ hr.drew) | (with_reducible refine hS _ ?_; (repeat (first | (with_reducible assumption) | (with_reducible refine Below.drew ?_) | (with_reducible refine Below.setCell ?_ ?_ _) | (with_reducible refine Below.alloc ?_ ?_ _))); all_goals (first | omega | (simp; omega) | simp)))
              (first
                | (go_at_call 33; have hz := hy2; refine (HQ2.out _).mono ?_; rintro r y3 ⟨rfl, hy3'⟩; have hy3 : Below (w.heap.size + 1 + 1 + 1) v116 y3 := hy2.trans (hy3'.mono (by omega)); have lt3 := hy3'.size; have q3 := p3.below hy3' p3.lt; have q4 := p4.below hy3' p4.lt; obtain ⟨c1, c2, c3, c4⟩ := q3.facts; obtain ⟨d1, d2, d3, d4⟩ := q4.facts; have hb8 := hb7.trans (hy3'.mono hb7.size))
                | (go_at_call 19; have hz := hy1; refine (HD2.out _).mono ?_; rintro r y2 ⟨rfl, hy2'⟩; have hy2 : Below (w.heap.size + 1 + 1 + 1) v116 y2 := hy1.trans (hy2'.mono (by omega)); have lt2 := hy2'.size; have p3 := o3.below hy2' o3.lt; have p4 := o4.below hy2' o4.lt; have hb7 := hb6.trans (hy2'.mono hb6.size))
                | (go_at_call 33; refine (HQ1.out _).mono ?_; rintro r y1 ⟨rfl, hy1'⟩; have hy1 : Below (w.heap.size + 1 + 1 + 1) v116 y1 := hr.drew.trans (hy1'.mono (by show _ ≤ v116.heap.size; omega)); have lt1 : v116.heap.size ≤ y1.heap.size := hy1'.size; have o3 := t4_116.below (Below.trans (Below.refl v116.heap.size v116).drew hy1') t4_116.lt; have o4 := t5_116.below (Below.trans (Below.refl v116.heap.size v116).drew hy1') t5_116.lt; have hb6 := hb116.trans ((Below.trans (Below.refl v116.heap.size v116).drew hy1').mono hb116.size)))
            all_goals
              clear c1 c2 c3 c4 d1 d2 d3 d4
              obtain ⟨f4_0, f4_1, f4_2, f4_3⟩ := q3.facts
              obtain ⟨f5_0, f5_1, f5_2, f5_3⟩ := q4.facts
              go_wp2_with fail
              have g6 := two_keep2 (C := w.heap.size + 1 + 1 + 1 + 1) (two_set2 q3 (.int .i64 1) (.int .i64 1)) (.int .i64 Y) (.int .i64 1) (by omega)
              have g7 := two_set2 (two_keep2 (C := w.heap.size + 1 + 1 + 1) q4 (.int .i64 1) (.int .i64 1) (by omega)) (.int .i64 Y) (.int .i64 1)
              obtain ⟨j1, j2, -, -⟩ := g6.facts
              obtain ⟨k1, k2, -, -⟩ := g7.facts
              refine bodyPost_ret (v := .tuple #[.agg #[.int .i64 1, .int .i64 1], .agg #[.int .i64 Y, .int .i64 1], .int .i64 0]) ?_ rfl ⟨rfl, ?_⟩
              · simp [results, Try.results13, go_sem, j1, j2, k1, k2]
              · exact set2_below (set2_below hb8 (by omega) _ _) (by omega) _ _
          · rw [if_neg l3] at hv1 hv2 hv3 hv4
            have l4 : decide (S ≤ L) = false := by simpa using l3
            have hm := mul_bd (a := T) (b := T) (m := 2147352578) (k := 2147352578) bd4.1 bd4.2 bd4.1 bd4.2 (by decide) (by decide)
            have hm0 := sq_nonneg T
            have hw : IntKind.i64.wrap (T * T) = T * T := by rw [IntKind.wrap_i64]; omega
            have HQ1 := Lib.hid (fun w => r_lowest_any L S (by omega) (by omega) (by omega) (by omega) w)
            have HQ2 := Lib.hid (fun w => r_lowest_any (T * T) S (by omega) (by omega) (by omega) (by omega) w)
            rw [hv1, hv2] at HQ1
            rw [hv3, hv4] at HQ2
            clear hv1 hv2 hv3 hv4
            have b0_0 := Two.at (w := w) (B := w.heap.size) (by simp) 23 (.int .i64 px) (.int .i64 py)
            have b1_1 := Two.at (w := (w.alloc (.cells #[.int .i64 px, .int .i64 py] 23))) (B := w.heap.size + 1) (by simp) 23 (.int .i64 ax) (.int .i64 ay)
            have b0_1 := b0_0.alloc (.cells #[.int .i64 ax, .int .i64 ay] 23)
            have b2_2 := Two.at (w := ((w.alloc (.cells #[.int .i64 px, .int .i64 py] 23)).alloc (.cells #[.int .i64 ax, .int .i64 ay] 23))) (B := w.heap.size + 1 + 1) (by simp) 23 (.int .i64 bx) (.int .i64 bz)
            have b0_2 := b0_1.alloc (.cells #[.int .i64 bx, .int .i64 bz] 23)
            have b1_2 := b1_1.alloc (.cells #[.int .i64 bx, .int .i64 bz] 23)
            have b0_2e := b0_2.alloc (.cells #[.int .i64 0, .int .i64 0] 26)
            have b1_2e := b1_2.alloc (.cells #[.int .i64 0, .int .i64 0] 26)
            have b2_2e := b2_2.alloc (.cells #[.int .i64 0, .int .i64 0] 26)
            have b0_2ee := b0_2e.alloc (.cells #[.int .i64 0, .int .i64 0] 26)
            have b1_2ee := b1_2e.alloc (.cells #[.int .i64 0, .int .i64 0] 26)
            have b2_2ee := b2_2e.alloc (.cells #[.int .i64 0, .int .i64 0] 26)
            have hb0 : Below w.heap.size w _ := ((((((Below.refl w.heap.size w).alloc (by simp <;> omega) (.cells #[.int .i64 px, .int .i64 py] 23)).alloc (by simp <;> omega) (.cells #[.int .i64 ax, .int .i64 ay] 23)).alloc (by simp <;> omega) (.cells #[.int .i64 bx, .int .i64 bz] 23)).alloc (by simp <;> omega) (.cells #[.int .i64 0, .int .i64 0] 26)).alloc (by simp <;> omega) (.cells #[.int .i64 0, .int .i64 0] 26))
            have b4_0 := (Two.at (w := (((w.alloc (.cells #[.int .i64 px, .int .i64 py] 23)).alloc (.cells #[.int .i64 ax, .int .i64 ay] 23)).alloc (.cells #[.int .i64 bx, .int .i64 bz] 23))) (B := w.heap.size + 1 + 1 + 1) (by simp) 26 (.int .i64 0) (.int .i64 0)).alloc (.cells #[.int .i64 0, .int .i64 0] 26)
            have b5_0 := Two.at (w := (((w.alloc (.cells #[.int .i64 px, .int .i64 py] 23)).alloc (.cells #[.int .i64 ax, .int .i64 ay] 23)).alloc (.cells #[.int .i64 bx, .int .i64 bz] 23)).alloc (.cells #[.int .i64 0, .int .i64 0] 26)) (B := w.heap.size + 1 + 1 + 1 + 1) (by simp) 26 (.int .i64 0) (.int .i64 0)
            go_enter Try.func13, Try.ntmps13
            obtain ⟨f1_0, f1_1, f1_2, f1_3⟩ := b0_2ee.facts
            obtain ⟨f2_0, f2_1, f2_2, f2_3⟩ := b1_2ee.facts
            obtain ⟨f3_0, f3_1, f3_2, f3_3⟩ := b2_2ee.facts
            obtain ⟨f4_0, f4_1, f4_2, f4_3⟩ := b4_0.facts
            obtain ⟨f5_0, f5_1, f5_2, f5_3⟩ := b5_0.facts
            go_wp2_with fail
            refine (HO1.out _).mono ?_
            rintro r v117 ⟨rfl, hx117⟩
            clear f1_0 f1_1 f1_2 f1_3 f2_0 f2_1 f2_2 f2_3 f3_0 f3_1 f3_2 f3_3 f4_0 f4_1 f4_2 f4_3 f5_0 f5_1 f5_2 f5_3
            have t1_117 := b0_2ee.below hx117 b0_2ee.lt
            clear b0_2ee
            have t2_117 := b1_2ee.below hx117 b1_2ee.lt
            clear b1_2ee
            have t3_117 := b2_2ee.below hx117 b2_2ee.lt
            clear b2_2ee
            have t4_117 := b4_0.below hx117 b4_0.lt
            clear b4_0
            have t5_117 := b5_0.below hx117 b5_0.lt
            clear b5_0
            have hb117 := hb0.trans (hx117.mono hb0.size)
            clear hb0 hx117
            obtain ⟨f1_0, f1_1, f1_2, f1_3⟩ := t1_117.facts
            obtain ⟨f2_0, f2_1, f2_2, f2_3⟩ := t2_117.facts
            obtain ⟨f3_0, f3_1, f3_2, f3_3⟩ := t3_117.facts
            obtain ⟨f4_0, f4_1, f4_2, f4_3⟩ := t4_117.facts
            obtain ⟨f5_0, f5_1, f5_2, f5_3⟩ := t5_117.facts
            go_wp2_with fail
            refine (HO2.out _).mono ?_
            rintro r v118 ⟨rfl, hx118⟩
            clear f1_0 f1_1 f1_2 f1_3 f2_0 f2_1 f2_2 f2_3 f3_0 f3_1 f3_2 f3_3 f4_0 f4_1 f4_2 f4_3 f5_0 f5_1 f5_2 f5_3
            have t1_118 := t1_117.below hx118 t1_117.lt
            clear t1_117
            have t2_118 := t2_117.below hx118 t2_117.lt
            clear t2_117
            have t3_118 := t3_117.below hx118 t3_117.lt
            clear t3_117
            have t4_118 := t4_117.below hx118 t4_117.lt
            clear t4_117
            have t5_118 := t5_117.below hx118 t5_117.lt
            clear t5_117
            have hb118 := hb117.trans (hx118.mono hb117.size)
            clear hb117 hx118
            obtain ⟨f1_0, f1_1, f1_2, f1_3⟩ := t1_118.facts
            obtain ⟨f2_0, f2_1, f2_2, f2_3⟩ := t2_118.facts
            obtain ⟨f3_0, f3_1, f3_2, f3_3⟩ := t3_118.facts
            obtain ⟨f4_0, f4_1, f4_2, f4_3⟩ := t4_118.facts
            obtain ⟨f5_0, f5_1, f5_2, f5_3⟩ := t5_118.facts
            go_wp2_with fail
            refine (HO3.out _).mono ?_
            rintro r v119 ⟨rfl, hx119⟩
            clear f1_0 f1_1 f1_2 f1_3 f2_0 f2_1 f2_2 f2_3 f3_0 f3_1 f3_2 f3_3 f4_0 f4_1 f4_2 f4_3 f5_0 f5_1 f5_2 f5_3
            have t1_119 := t1_118.below hx119 t1_118.lt
            clear t1_118
            have t2_119 := t2_118.below hx119 t2_118.lt
            clear t2_118
            have t3_119 := t3_118.below hx119 t3_118.lt
            clear t3_118
            have t4_119 := t4_118.below hx119 t4_118.lt
            clear t4_118
            have t5_119 := t5_118.below hx119 t5_118.lt
            clear t5_118
            have hb119 := hb118.trans (hx119.mono hb118.size)
            clear hb118 hx119
            obtain ⟨f1_0, f1_1, f1_2, f1_3⟩ := t1_119.facts
            obtain ⟨f2_0, f2_1, f2_2, f2_3⟩ := t2_119.facts
            obtain ⟨f3_0, f3_1, f3_2, f3_3⟩ := t3_119.facts
            obtain ⟨f4_0, f4_1, f4_2, f4_3⟩ := t4_119.facts
            obtain ⟨f5_0, f5_1, f5_2, f5_3⟩ := t5_119.facts
            go_wp2_with fail
            refine (HD.out _).mono ?_
            rintro r v120 ⟨rfl, hx120⟩
            clear f1_0 f1_1 f1_2 f1_3 f2_0 f2_1 f2_2 f2_3 f3_0 f3_1 f3_2 f3_3 f4_0 f4_1 f4_2 f4_3 f5_0 f5_1 f5_2 f5_3
            have t1_120 := t1_119.below hx120 t1_119.lt
            clear t1_119
            have t2_120 := t2_119.below hx120 t2_119.lt
            clear t2_119
            have t3_120 := t3_119.below hx120 t3_119.lt
            clear t3_119
            have t4_120 := t4_119.below hx120 t4_119.lt
            clear t4_119
            have t5_120 := t5_119.below hx120 t5_119.lt
            clear t5_119
            have hb120 := hb119.trans (hx120.mono hb119.size)
            clear hb119 hx120
            obtain ⟨f1_0, f1_1, f1_2, f1_3⟩ := t1_120.facts
            obtain ⟨f2_0, f2_1, f2_2, f2_3⟩ := t2_120.facts
            obtain ⟨f3_0, f3_1, f3_2, f3_3⟩ := t3_120.facts
            obtain ⟨f4_0, f4_1, f4_2, f4_3⟩ := t4_120.facts
            obtain ⟨f5_0, f5_1, f5_2, f5_3⟩ := t5_120.facts
            go_wp2_with fail
            refine (HT.out _).mono ?_
            rintro r v121 ⟨rfl, hx121⟩
            clear f1_0 f1_1 f1_2 f1_3 f2_0 f2_1 f2_2 f2_3 f3_0 f3_1 f3_2 f3_3 f4_0 f4_1 f4_2 f4_3 f5_0 f5_1 f5_2 f5_3
            have t1_121 := t1_120.below hx121 t1_120.lt
            clear t1_120
            have t2_121 := t2_120.below hx121 t2_120.lt
            clear t2_120
            have t3_121 := t3_120.below hx121 t3_120.lt
            clear t3_120
            have t4_121 := t4_120.below hx121 t4_120.lt
            clear t4_120
            have t5_121 := t5_120.below hx121 t5_120.lt
            clear t5_120
            have hb121 := hb120.trans (hx121.mono hb120.size)
            clear hb120 hx121
            obtain ⟨f1_0, f1_1, f1_2, f1_3⟩ := t1_121.facts
            obtain ⟨f2_0, f2_1, f2_2, f2_3⟩ := t2_121.facts
            obtain ⟨f3_0, f3_1, f3_2, f3_3⟩ := t3_121.facts
            obtain ⟨f4_0, f4_1, f4_2, f4_3⟩ := t4_121.facts
            obtain ⟨f5_0, f5_1, f5_2, f5_3⟩ := t5_121.facts
            go_wp2_with fail
            refine (HQ1.out _).mono ?_
            rintro r v122 ⟨rfl, hx122⟩
            clear f1_0 f1_1 f1_2 f1_3 f2_0 f2_1 f2_2 f2_3 f3_0 f3_1 f3_2 f3_3 f4_0 f4_1 f4_2 f4_3 f5_0 f5_1 f5_2 f5_3
            have t1_122 := t1_121.below hx122 t1_121.lt
            clear t1_121
            have t2_122 := t2_121.below hx122 t2_121.lt
            clear t2_121
            have t3_122 := t3_121.below hx122 t3_121.lt
            clear t3_121
            have t4_122 := t4_121.below hx122 t4_121.lt
            clear t4_121
            have t5_122 := t5_121.below hx122 t5_121.lt
            clear t5_121
            have hb122 := hb121.trans (hx122.mono hb121.size)
            clear hb121 hx122
            obtain ⟨f1_0, f1_1, f1_2, f1_3⟩ := t1_122.facts
            obtain ⟨f2_0, f2_1, f2_2, f2_3⟩ := t2_122.facts
            obtain ⟨f3_0, f3_1, f3_2, f3_3⟩ := t3_122.facts
            obtain ⟨f4_0, f4_1, f4_2, f4_3⟩ := t4_122.facts
            obtain ⟨f5_0, f5_1, f5_2, f5_3⟩ := t5_122.facts
            go_wp2_with fail
            refine (HQ2.out _).mono ?_
            rintro r v123 ⟨rfl, hx123⟩
            clear f1_0 f1_1 f1_2 f1_3 f2_0 f2_1 f2_2 f2_3 f3_0 f3_1 f3_2 f3_3 f4_0 f4_1 f4_2 f4_3 f5_0 f5_1 f5_2 f5_3
            have t1_123 := t1_122.below hx123 t1_122.lt
            clear t1_122
            have t2_123 := t2_122.below hx123 t2_122.lt
            clear t2_122
            have t3_123 := t3_122.below hx123 t3_122.lt
            clear t3_122
            have t4_123 := t4_122.below hx123 t4_122.lt
            clear t4_122
            have t5_123 := t5_122.below hx123 t5_122.lt
            clear t5_122
            have hb123 := hb122.trans (hx123.mono hb122.size)
            clear hb122 hx123
            obtain ⟨f1_0, f1_1, f1_2, f1_3⟩ := t1_123.facts
            obtain ⟨f2_0, f2_1, f2_2, f2_3⟩ := t2_123.facts
            obtain ⟨f3_0, f3_1, f3_2, f3_3⟩ := t3_123.facts
            obtain ⟨f4_0, f4_1, f4_2, f4_3⟩ := t4_123.facts
            obtain ⟨f5_0, f5_1, f5_2, f5_3⟩ := t5_123.facts
            go_wp2_with fail
            have g6 := two_keep2 (C := w.heap.size + 1 + 1 + 1 + 1) (two_set2 t4_123 (.int .i64 vN) (.int .i64 vD)) (.int .i64 vM) (.int .i64 vE) (by omega)
            have g7 := two_set2 (two_keep2 (C := w.heap.size + 1 + 1 + 1) t5_123 (.int .i64 vN) (.int .i64 vD) (by omega)) (.int .i64 vM) (.int .i64 vE)
            obtain ⟨j1, j2, -, -⟩ := g6.facts
            obtain ⟨k1, k2, -, -⟩ := g7.facts
            refine bodyPost_ret (v := .tuple #[.agg #[.int .i64 vN, .int .i64 vD], .agg #[.int .i64 vM, .int .i64 vE], .int .i64 0]) ?_ rfl ⟨rfl, ?_⟩
            · simp [results, Try.results13, go_sem, j1, j2, k1, k2]
            · exact set2_below (set2_below hb123 (by omega) _ _) (by omega) _ _
      · have HO3 := Lib.hid (fun w => r_on_no bx bz h3 w)
        rw [if_neg (fun k => h3 k.2.2)]
        have b0_0 := Two.at (w := w) (B := w.heap.size) (by simp) 23 (.int .i64 px) (.int .i64 py)
        have b1_1 := Two.at (w := (w.alloc (.cells #[.int .i64 px, .int .i64 py] 23))) (B := w.heap.size + 1) (by simp) 23 (.int .i64 ax) (.int .i64 ay)
        have b0_1 := b0_0.alloc (.cells #[.int .i64 ax, .int .i64 ay] 23)
        have b2_2 := Two.at (w := ((w.alloc (.cells #[.int .i64 px, .int .i64 py] 23)).alloc (.cells #[.int .i64 ax, .int .i64 ay] 23))) (B := w.heap.size + 1 + 1) (by simp) 23 (.int .i64 bx) (.int .i64 bz)
        have b0_2 := b0_1.alloc (.cells #[.int .i64 bx, .int .i64 bz] 23)
        have b1_2 := b1_1.alloc (.cells #[.int .i64 bx, .int .i64 bz] 23)
        have b0_2e := b0_2.alloc (.cells #[.int .i64 0, .int .i64 0] 26)
        have b1_2e := b1_2.alloc (.cells #[.int .i64 0, .int .i64 0] 26)
        have b2_2e := b2_2.alloc (.cells #[.int .i64 0, .int .i64 0] 26)
        have b0_2ee := b0_2e.alloc (.cells #[.int .i64 0, .int .i64 0] 26)
        have b1_2ee := b1_2e.alloc (.cells #[.int .i64 0, .int .i64 0] 26)
        have b2_2ee := b2_2e.alloc (.cells #[.int .i64 0, .int .i64 0] 26)
        have hb0 : Below w.heap.size w _ := ((((((Below.refl w.heap.size w).alloc (by simp <;> omega) (.cells #[.int .i64 px, .int .i64 py] 23)).alloc (by simp <;> omega) (.cells #[.int .i64 ax, .int .i64 ay] 23)).alloc (by simp <;> omega) (.cells #[.int .i64 bx, .int .i64 bz] 23)).alloc (by simp <;> omega) (.cells #[.int .i64 0, .int .i64 0] 26)).alloc (by simp <;> omega) (.cells #[.int .i64 0, .int .i64 0] 26))
        have b4_0 := (Two.at (w := (((w.alloc (.cells #[.int .i64 px, .int .i64 py] 23)).alloc (.cells #[.int .i64 ax, .int .i64 ay] 23)).alloc (.cells #[.int .i64 bx, .int .i64 bz] 23))) (B := w.heap.size + 1 + 1 + 1) (by simp) 26 (.int .i64 0) (.int .i64 0)).alloc (.cells #[.int .i64 0, .int .i64 0] 26)
        have b5_0 := Two.at (w := (((w.alloc (.cells #[.int .i64 px, .int .i64 py] 23)).alloc (.cells #[.int .i64 ax, .int .i64 ay] 23)).alloc (.cells #[.int .i64 bx, .int .i64 bz] 23)).alloc (.cells #[.int .i64 0, .int .i64 0] 26)) (B := w.heap.size + 1 + 1 + 1 + 1) (by simp) 26 (.int .i64 0) (.int .i64 0)
        go_enter Try.func13, Try.ntmps13
        obtain ⟨f1_0, f1_1, f1_2, f1_3⟩ := b0_2ee.facts
        obtain ⟨f2_0, f2_1, f2_2, f2_3⟩ := b1_2ee.facts
        obtain ⟨f3_0, f3_1, f3_2, f3_3⟩ := b2_2ee.facts
        obtain ⟨f4_0, f4_1, f4_2, f4_3⟩ := b4_0.facts
        obtain ⟨f5_0, f5_1, f5_2, f5_3⟩ := b5_0.facts
        go_wp2_with fail
        refine (HO1.out _).mono ?_
        rintro r v124 ⟨rfl, hx124⟩
        clear f1_0 f1_1 f1_2 f1_3 f2_0 f2_1 f2_2 f2_3 f3_0 f3_1 f3_2 f3_3 f4_0 f4_1 f4_2 f4_3 f5_0 f5_1 f5_2 f5_3
        have t1_124 := b0_2ee.below hx124 b0_2ee.lt
        clear b0_2ee
        have t2_124 := b1_2ee.below hx124 b1_2ee.lt
        clear b1_2ee
        have t3_124 := b2_2ee.below hx124 b2_2ee.lt
        clear b2_2ee
        have t4_124 := b4_0.below hx124 b4_0.lt
        clear b4_0
        have t5_124 := b5_0.below hx124 b5_0.lt
        clear b5_0
        have hb124 := hb0.trans (hx124.mono hb0.size)
        clear hb0 hx124
        obtain ⟨f1_0, f1_1, f1_2, f1_3⟩ := t1_124.facts
        obtain ⟨f2_0, f2_1, f2_2, f2_3⟩ := t2_124.facts
        obtain ⟨f3_0, f3_1, f3_2, f3_3⟩ := t3_124.facts
        obtain ⟨f4_0, f4_1, f4_2, f4_3⟩ := t4_124.facts
        obtain ⟨f5_0, f5_1, f5_2, f5_3⟩ := t5_124.facts
        go_wp2_with fail
        refine (HO2.out _).mono ?_
        rintro r v125 ⟨rfl, hx125⟩
        clear f1_0 f1_1 f1_2 f1_3 f2_0 f2_1 f2_2 f2_3 f3_0 f3_1 f3_2 f3_3 f4_0 f4_1 f4_2 f4_3 f5_0 f5_1 f5_2 f5_3
        have t1_125 := t1_124.below hx125 t1_124.lt
        clear t1_124
        have t2_125 := t2_124.below hx125 t2_124.lt
        clear t2_124
        have t3_125 := t3_124.below hx125 t3_124.lt
        clear t3_124
        have t4_125 := t4_124.below hx125 t4_124.lt
        clear t4_124
        have t5_125 := t5_124.below hx125 t5_124.lt
        clear t5_124
        have hb125 := hb124.trans (hx125.mono hb124.size)
        clear hb124 hx125
        obtain ⟨f1_0, f1_1, f1_2, f1_3⟩ := t1_125.facts
        obtain ⟨f2_0, f2_1, f2_2, f2_3⟩ := t2_125.facts
        obtain ⟨f3_0, f3_1, f3_2, f3_3⟩ := t3_125.facts
        obtain ⟨f4_0, f4_1, f4_2, f4_3⟩ := t4_125.facts
        obtain ⟨f5_0, f5_1, f5_2, f5_3⟩ := t5_125.facts
        go_wp2_with fail
        refine (HO3.out _).mono ?_
        rintro r v126 ⟨rfl, hx126⟩
        clear f1_0 f1_1 f1_2 f1_3 f2_0 f2_1 f2_2 f2_3 f3_0 f3_1 f3_2 f3_3 f4_0 f4_1 f4_2 f4_3 f5_0 f5_1 f5_2 f5_3
        have t1_126 := t1_125.below hx126 t1_125.lt
        clear t1_125
        have t2_126 := t2_125.below hx126 t2_125.lt
        clear t2_125
        have t3_126 := t3_125.below hx126 t3_125.lt
        clear t3_125
        have t4_126 := t4_125.below hx126 t4_125.lt
        clear t4_125
        have t5_126 := t5_125.below hx126 t5_125.lt
        clear t5_125
        have hb126 := hb125.trans (hx126.mono hb125.size)
        clear hb125 hx126
        obtain ⟨f1_0, f1_1, f1_2, f1_3⟩ := t1_126.facts
        obtain ⟨f2_0, f2_1, f2_2, f2_3⟩ := t2_126.facts
        obtain ⟨f3_0, f3_1, f3_2, f3_3⟩ := t3_126.facts
        obtain ⟨f4_0, f4_1, f4_2, f4_3⟩ := t4_126.facts
        obtain ⟨f5_0, f5_1, f5_2, f5_3⟩ := t5_126.facts
        go_wp2_with fail
        have g6 := two_keep2 (C := w.heap.size + 1 + 1 + 1 + 1) (two_set2 t4_126 (.int .i64 0) (.int .i64 0)) (.int .i64 0) (.int .i64 0) (by omega)
        have g7 := two_set2 (two_keep2 (C := w.heap.size + 1 + 1 + 1) t5_126 (.int .i64 0) (.int .i64 0) (by omega)) (.int .i64 0) (.int .i64 0)
        obtain ⟨j1, j2, -, -⟩ := g6.facts
        obtain ⟨k1, k2, -, -⟩ := g7.facts
        refine bodyPost_ret (v := .tuple #[.agg #[.int .i64 0, .int .i64 0], .agg #[.int .i64 0, .int .i64 0], .int .i64 1]) ?_ rfl ⟨rfl, ?_⟩
        · simp [results, Try.results13, go_sem, j1, j2, k1, k2]
        · exact set2_below (set2_below hb126 (by omega) _ _) (by omega) _ _
    · have HO2 := Lib.hid (fun w => r_on_no ax ay h2 w)
      rw [if_neg (fun k => h2 k.2.1)]
      have b0_0 := Two.at (w := w) (B := w.heap.size) (by simp) 23 (.int .i64 px) (.int .i64 py)
      have b1_1 := Two.at (w := (w.alloc (.cells #[.int .i64 px, .int .i64 py] 23))) (B := w.heap.size + 1) (by simp) 23 (.int .i64 ax) (.int .i64 ay)
      have b0_1 := b0_0.alloc (.cells #[.int .i64 ax, .int .i64 ay] 23)
      have b2_2 := Two.at (w := ((w.alloc (.cells #[.int .i64 px, .int .i64 py] 23)).alloc (.cells #[.int .i64 ax, .int .i64 ay] 23))) (B := w.heap.size + 1 + 1) (by simp) 23 (.int .i64 bx) (.int .i64 bz)
      have b0_2 := b0_1.alloc (.cells #[.int .i64 bx, .int .i64 bz] 23)
      have b1_2 := b1_1.alloc (.cells #[.int .i64 bx, .int .i64 bz] 23)
      have b0_2e := b0_2.alloc (.cells #[.int .i64 0, .int .i64 0] 26)
      have b1_2e := b1_2.alloc (.cells #[.int .i64 0, .int .i64 0] 26)
      have b2_2e := b2_2.alloc (.cells #[.int .i64 0, .int .i64 0] 26)
      have b0_2ee := b0_2e.alloc (.cells #[.int .i64 0, .int .i64 0] 26)
      have b1_2ee := b1_2e.alloc (.cells #[.int .i64 0, .int .i64 0] 26)
      have b2_2ee := b2_2e.alloc (.cells #[.int .i64 0, .int .i64 0] 26)
      have hb0 : Below w.heap.size w _ := ((((((Below.refl w.heap.size w).alloc (by simp <;> omega) (.cells #[.int .i64 px, .int .i64 py] 23)).alloc (by simp <;> omega) (.cells #[.int .i64 ax, .int .i64 ay] 23)).alloc (by simp <;> omega) (.cells #[.int .i64 bx, .int .i64 bz] 23)).alloc (by simp <;> omega) (.cells #[.int .i64 0, .int .i64 0] 26)).alloc (by simp <;> omega) (.cells #[.int .i64 0, .int .i64 0] 26))
      have b4_0 := (Two.at (w := (((w.alloc (.cells #[.int .i64 px, .int .i64 py] 23)).alloc (.cells #[.int .i64 ax, .int .i64 ay] 23)).alloc (.cells #[.int .i64 bx, .int .i64 bz] 23))) (B := w.heap.size + 1 + 1 + 1) (by simp) 26 (.int .i64 0) (.int .i64 0)).alloc (.cells #[.int .i64 0, .int .i64 0] 26)
      have b5_0 := Two.at (w := (((w.alloc (.cells #[.int .i64 px, .int .i64 py] 23)).alloc (.cells #[.int .i64 ax, .int .i64 ay] 23)).alloc (.cells #[.int .i64 bx, .int .i64 bz] 23)).alloc (.cells #[.int .i64 0, .int .i64 0] 26)) (B := w.heap.size + 1 + 1 + 1 + 1) (by simp) 26 (.int .i64 0) (.int .i64 0)
      go_enter Try.func13, Try.ntmps13
      obtain ⟨f1_0, f1_1, f1_2, f1_3⟩ := b0_2ee.facts
      obtain ⟨f2_0, f2_1, f2_2, f2_3⟩ := b1_2ee.facts
      obtain ⟨f3_0, f3_1, f3_2, f3_3⟩ := b2_2ee.facts
      obtain ⟨f4_0, f4_1, f4_2, f4_3⟩ := b4_0.facts
      obtain ⟨f5_0, f5_1, f5_2, f5_3⟩ := b5_0.facts
      go_wp2_with fail
      refine (HO1.out _).mono ?_
      rintro r v127 ⟨rfl, hx127⟩
      clear f1_0 f1_1 f1_2 f1_3 f2_0 f2_1 f2_2 f2_3 f3_0 f3_1 f3_2 f3_3 f4_0 f4_1 f4_2 f4_3 f5_0 f5_1 f5_2 f5_3
      have t1_127 := b0_2ee.below hx127 b0_2ee.lt
      clear b0_2ee
      have t2_127 := b1_2ee.below hx127 b1_2ee.lt
      clear b1_2ee
      have t3_127 := b2_2ee.below hx127 b2_2ee.lt
      clear b2_2ee
      have t4_127 := b4_0.below hx127 b4_0.lt
      clear b4_0
      have t5_127 := b5_0.below hx127 b5_0.lt
      clear b5_0
      have hb127 := hb0.trans (hx127.mono hb0.size)
      clear hb0 hx127
      obtain ⟨f1_0, f1_1, f1_2, f1_3⟩ := t1_127.facts
      obtain ⟨f2_0, f2_1, f2_2, f2_3⟩ := t2_127.facts
      obtain ⟨f3_0, f3_1, f3_2, f3_3⟩ := t3_127.facts
      obtain ⟨f4_0, f4_1, f4_2, f4_3⟩ := t4_127.facts
      obtain ⟨f5_0, f5_1, f5_2, f5_3⟩ := t5_127.facts
      go_wp2_with fail
      refine (HO2.out _).mono ?_
      rintro r v128 ⟨rfl, hx128⟩
      clear f1_0 f1_1 f1_2 f1_3 f2_0 f2_1 f2_2 f2_3 f3_0 f3_1 f3_2 f3_3 f4_0 f4_1 f4_2 f4_3 f5_0 f5_1 f5_2 f5_3
      have t1_128 := t1_127.below hx128 t1_127.lt
      clear t1_127
      have t2_128 := t2_127.below hx128 t2_127.lt
      clear t2_127
      have t3_128 := t3_127.below hx128 t3_127.lt
      clear t3_127
      have t4_128 := t4_127.below hx128 t4_127.lt
      clear t4_127
      have t5_128 := t5_127.below hx128 t5_127.lt
      clear t5_127
      have hb128 := hb127.trans (hx128.mono hb127.size)
      clear hb127 hx128
      obtain ⟨f1_0, f1_1, f1_2, f1_3⟩ := t1_128.facts
      obtain ⟨f2_0, f2_1, f2_2, f2_3⟩ := t2_128.facts
      obtain ⟨f3_0, f3_1, f3_2, f3_3⟩ := t3_128.facts
      obtain ⟨f4_0, f4_1, f4_2, f4_3⟩ := t4_128.facts
      obtain ⟨f5_0, f5_1, f5_2, f5_3⟩ := t5_128.facts
      go_wp2_with fail
      have g6 := two_keep2 (C := w.heap.size + 1 + 1 + 1 + 1) (two_set2 t4_128 (.int .i64 0) (.int .i64 0)) (.int .i64 0) (.int .i64 0) (by omega)
      have g7 := two_set2 (two_keep2 (C := w.heap.size + 1 + 1 + 1) t5_128 (.int .i64 0) (.int .i64 0) (by omega)) (.int .i64 0) (.int .i64 0)
      obtain ⟨j1, j2, -, -⟩ := g6.facts
      obtain ⟨k1, k2, -, -⟩ := g7.facts
      refine bodyPost_ret (v := .tuple #[.agg #[.int .i64 0, .int .i64 0], .agg #[.int .i64 0, .int .i64 0], .int .i64 1]) ?_ rfl ⟨rfl, ?_⟩
      · simp [results, Try.results13, go_sem, j1, j2, k1, k2]
      · exact set2_below (set2_below hb128 (by omega) _ _) (by omega) _ _
  · have HO1 := Lib.hid (fun w => r_on_no px py h1 w)
    rw [if_neg (fun k => h1 k.1)]
    have b0_0 := Two.at (w := w) (B := w.heap.size) (by simp) 23 (.int .i64 px) (.int .i64 py)
    have b1_1 := Two.at (w := (w.alloc (.cells #[.int .i64 px, .int .i64 py] 23))) (B := w.heap.size + 1) (by simp) 23 (.int .i64 ax) (.int .i64 ay)
    have b0_1 := b0_0.alloc (.cells #[.int .i64 ax, .int .i64 ay] 23)
    have b2_2 := Two.at (w := ((w.alloc (.cells #[.int .i64 px, .int .i64 py] 23)).alloc (.cells #[.int .i64 ax, .int .i64 ay] 23))) (B := w.heap.size + 1 + 1) (by simp) 23 (.int .i64 bx) (.int .i64 bz)
    have b0_2 := b0_1.alloc (.cells #[.int .i64 bx, .int .i64 bz] 23)
    have b1_2 := b1_1.alloc (.cells #[.int .i64 bx, .int .i64 bz] 23)
    have b0_2e := b0_2.alloc (.cells #[.int .i64 0, .int .i64 0] 26)
    have b1_2e := b1_2.alloc (.cells #[.int .i64 0, .int .i64 0] 26)
    have b2_2e := b2_2.alloc (.cells #[.int .i64 0, .int .i64 0] 26)
    have b0_2ee := b0_2e.alloc (.cells #[.int .i64 0, .int .i64 0] 26)
    have b1_2ee := b1_2e.alloc (.cells #[.int .i64 0, .int .i64 0] 26)
    have b2_2ee := b2_2e.alloc (.cells #[.int .i64 0, .int .i64 0] 26)
    have hb0 : Below w.heap.size w _ := ((((((Below.refl w.heap.size w).alloc (by simp <;> omega) (.cells #[.int .i64 px, .int .i64 py] 23)).alloc (by simp <;> omega) (.cells #[.int .i64 ax, .int .i64 ay] 23)).alloc (by simp <;> omega) (.cells #[.int .i64 bx, .int .i64 bz] 23)).alloc (by simp <;> omega) (.cells #[.int .i64 0, .int .i64 0] 26)).alloc (by simp <;> omega) (.cells #[.int .i64 0, .int .i64 0] 26))
    have b4_0 := (Two.at (w := (((w.alloc (.cells #[.int .i64 px, .int .i64 py] 23)).alloc (.cells #[.int .i64 ax, .int .i64 ay] 23)).alloc (.cells #[.int .i64 bx, .int .i64 bz] 23))) (B := w.heap.size + 1 + 1 + 1) (by simp) 26 (.int .i64 0) (.int .i64 0)).alloc (.cells #[.int .i64 0, .int .i64 0] 26)
    have b5_0 := Two.at (w := (((w.alloc (.cells #[.int .i64 px, .int .i64 py] 23)).alloc (.cells #[.int .i64 ax, .int .i64 ay] 23)).alloc (.cells #[.int .i64 bx, .int .i64 bz] 23)).alloc (.cells #[.int .i64 0, .int .i64 0] 26)) (B := w.heap.size + 1 + 1 + 1 + 1) (by simp) 26 (.int .i64 0) (.int .i64 0)
    go_enter Try.func13, Try.ntmps13
    obtain ⟨f1_0, f1_1, f1_2, f1_3⟩ := b0_2ee.facts
    obtain ⟨f2_0, f2_1, f2_2, f2_3⟩ := b1_2ee.facts
    obtain ⟨f3_0, f3_1, f3_2, f3_3⟩ := b2_2ee.facts
    obtain ⟨f4_0, f4_1, f4_2, f4_3⟩ := b4_0.facts
    obtain ⟨f5_0, f5_1, f5_2, f5_3⟩ := b5_0.facts
    go_wp2_with fail
    refine (HO1.out _).mono ?_
    rintro r v129 ⟨rfl, hx129⟩
    clear f1_0 f1_1 f1_2 f1_3 f2_0 f2_1 f2_2 f2_3 f3_0 f3_1 f3_2 f3_3 f4_0 f4_1 f4_2 f4_3 f5_0 f5_1 f5_2 f5_3
    have t1_129 := b0_2ee.below hx129 b0_2ee.lt
    clear b0_2ee
    have t2_129 := b1_2ee.below hx129 b1_2ee.lt
    clear b1_2ee
    have t3_129 := b2_2ee.below hx129 b2_2ee.lt
    clear b2_2ee
    have t4_129 := b4_0.below hx129 b4_0.lt
    clear b4_0
    have t5_129 := b5_0.below hx129 b5_0.lt
    clear b5_0
    have hb129 := hb0.trans (hx129.mono hb0.size)
    clear hb0 hx129
    obtain ⟨f1_0, f1_1, f1_2, f1_3⟩ := t1_129.facts
    obtain ⟨f2_0, f2_1, f2_2, f2_3⟩ := t2_129.facts
    obtain ⟨f3_0, f3_1, f3_2, f3_3⟩ := t3_129.facts
    obtain ⟨f4_0, f4_1, f4_2, f4_3⟩ := t4_129.facts
    obtain ⟨f5_0, f5_1, f5_2, f5_3⟩ := t5_129.facts
    go_wp2_with fail
    have g6 := two_keep2 (C := w.heap.size + 1 + 1 + 1 + 1) (two_set2 t4_129 (.int .i64 0) (.int .i64 0)) (.int .i64 0) (.int .i64 0) (by omega)
    have g7 := two_set2 (two_keep2 (C := w.heap.size + 1 + 1 + 1) t5_129 (.int .i64 0) (.int .i64 0) (by omega)) (.int .i64 0) (.int .i64 0)
    obtain ⟨j1, j2, -, -⟩ := g6.facts
    obtain ⟨k1, k2, -, -⟩ := g7.facts
    refine bodyPost_ret (v := .tuple #[.agg #[.int .i64 0, .int .i64 0], .agg #[.int .i64 0, .int .i64 0], .int .i64 1]) ?_ rfl ⟨rfl, ?_⟩
    · simp [results, Try.results13, go_sem, j1, j2, k1, k2]
    · exact set2_below (set2_below hb129 (by omega) _ _) (by omega) _ _
end Go.Proofs.Ytbkeennjoepmmaa.Ge
