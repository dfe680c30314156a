/- The walk of GeomBetween. -/
import Derived.Test.YtbkeennjoepmmaaGeoInv
import Derived.Test.YtbkeennjoepmmaaGeoW5
import Derived.Test.YtbkeennjoepmmaaGeoH
import Derived.Test.YtbkeennjoepmmaaGeoLaw
namespace Go.Proofs.Ytbkeennjoepmmaa.Ge
set_option linter.unusedVariables false
set_option linter.unusedSimpArgs false
open Go.RowKit
open Go.Proofs.Ytbkeennjoepmmaa.Fr (Two)

set_option maxRecDepth 100000 in
set_option maxHeartbeats 8000000 in
theorem lawBetween (px py qx qy rx ry : Int) (hpx1 : -9223372036854775808 ≤ px) (hpx2 : px ≤ 9223372036854775807) (hpy1 : -9223372036854775808 ≤ py) (hpy2 : py ≤ 9223372036854775807) (hqx1 : -9223372036854775808 ≤ qx) (hqx2 : qx ≤ 9223372036854775807) (hqy1 : -9223372036854775808 ≤ qy) (hqy2 : qy ≤ 9223372036854775807) (hrx1 : -9223372036854775808 ≤ rx) (hrx2 : rx ≤ 9223372036854775807) (hry1 : -9223372036854775808 ≤ ry) (hry2 : ry ≤ 9223372036854775807) (w : World) :
    Calls Try.prog 6 #[.agg #[.int .i64 px, .int .i64 py], .agg #[.int .i64 qx, .int .i64 qy], .agg #[.int .i64 rx, .int .i64 ry]] w fun e w' => e = .returned (.bool true) ∧ Below w.heap.size w w' := by
  have HG1 := Lib.hid (fun w => grid_any px py w hpx1 hpx2 hpy1 hpy2)
  have hon1 := on_mod px py
  generalize px % 32768 = ax at *
  generalize py % 32768 = ay at *
  have HG2 := Lib.hid (fun w => grid_any qx qy w hqx1 hqx2 hqy1 hqy2)
  have hon2 := on_mod qx qy
  generalize qx % 32768 = bx at *
  generalize qy % 32768 = bz at *
  have HG3 := Lib.hid (fun w => grid_any rx ry w hrx1 hrx2 hry1 hry2)
  have hon3 := on_mod rx ry
  generalize rx % 32768 = cx at *
  generalize ry % 32768 = cy at *
  have b0_0 := Two.at (w := w) (B := w.heap.size) (by simp) 23 (.int .i64 px) (.int .i64 py)
  have b1_1 := Two.at (w := (w.alloc (.cells #[.int .i64 px, .int .i64 py] 23))) (B := w.heap.size + 1) (by simp) 23 (.int .i64 qx) (.int .i64 qy)
  have b0_1 := b0_0.alloc (.cells #[.int .i64 qx, .int .i64 qy] 23)
  have b2_2 := Two.at (w := ((w.alloc (.cells #[.int .i64 px, .int .i64 py] 23)).alloc (.cells #[.int .i64 qx, .int .i64 qy] 23))) (B := w.heap.size + 1 + 1) (by simp) 23 (.int .i64 rx) (.int .i64 ry)
  have b0_2 := b0_1.alloc (.cells #[.int .i64 rx, .int .i64 ry] 23)
  have b1_2 := b1_1.alloc (.cells #[.int .i64 rx, .int .i64 ry] 23)
  have hb0 : Below w.heap.size w _ := ((((Below.refl w.heap.size w).alloc (by simp <;> omega) (.cells #[.int .i64 px, .int .i64 py] 23)).alloc (by simp <;> omega) (.cells #[.int .i64 qx, .int .i64 qy] 23)).alloc (by simp <;> omega) (.cells #[.int .i64 rx, .int .i64 ry] 23))
  go_enter Try.func6, Try.ntmps6
  go_wp2_with fail
  refine (head_any _).mono ?_
  rintro r W ⟨rfl, hb1⟩
  have r0 := b0_2.below hb1 b0_2.lt
  have r1 := b1_2.below hb1 b1_2.lt
  have r2 := b2_2.below hb1 b2_2.lt
  have hbW := hb0.trans (hb1.mono hb0.size)
  clear b0_0 b0_1 b1_1 b0_2 b1_2 b2_2 hb0 hb1
  go_upto_region 2 with fail
  have hS : ∀ w' : World, Below W.heap.size W w' → (w'.cell? ⟨w.heap.size, 0, none⟩ = some (.int .i64 px) ∧ w'.cell? ⟨w.heap.size, 1, none⟩ = some (.int .i64 py)) ∧ (w'.cell? ⟨w.heap.size + 1, 0, none⟩ = some (.int .i64 qx) ∧ w'.cell? ⟨w.heap.size + 1, 1, none⟩ = some (.int .i64 qy)) ∧ (w'.cell? ⟨w.heap.size + 1 + 1, 0, none⟩ = some (.int .i64 rx) ∧ w'.cell? ⟨w.heap.size + 1 + 1, 1, none⟩ = some (.int .i64 ry)) := fun w' hb => ⟨two_of r0 hb, two_of r1 hb, two_of r2 hb⟩
  go_cut [8, 9, 10] (fun v1 v2 v3 wx => GridAt3 W ax ay bx bz cx cy v1 v2 v3 wx)
  case first =>
    refine wp_region_held_drew (S := fun w' => (w'.cell? ⟨w.heap.size, 0, none⟩ = some (.int .i64 px) ∧ w'.cell? ⟨w.heap.size, 1, none⟩ = some (.int .i64 py)) ∧ (w'.cell? ⟨w.heap.size + 1, 0, none⟩ = some (.int .i64 qx) ∧ w'.cell? ⟨w.heap.size + 1, 1, none⟩ = some (.int .i64 qy)) ∧ (w'.cell? ⟨w.heap.size + 1 + 1, 0, none⟩ = some (.int .i64 rx) ∧ w'.cell? ⟨w.heap.size + 1 + 1, 1, none⟩ = some (.int .i64 ry))) (by kernel_rfl) (hS _ (Below.refl _ _).drew) (fun hHeld => ?_)
    refine wpAnyH_take (i := 0) (oi := { dst := some 13, op := Op.load 23 (Operand.tmp 3), type := 23, pos := _, after := #[], guard := none }) (v := .agg #[.int .i64 px, .int .i64 py]) rfl (by kernel_rfl) (by kernel_rfl) (by kernel_rfl) (fun _ _ _ h => h) (Or.inl ⟨by rfl, ?_⟩) (by assumption) ?_
    · intro w' hSw; (try dsimp only at hSw); go_simp
    simp only [Act.put, List.setIfInBounds_toArray, List.set_cons_zero, List.set_cons_succ]
    refine wpAnyH_take (i := 2) (oi := { dst := some 15, op := Op.load 23 (Operand.tmp 4), type := 23, pos := _, after := #[], guard := none }) (v := .agg #[.int .i64 qx, .int .i64 qy]) rfl (by kernel_rfl) (by kernel_rfl) (by kernel_rfl) (fun _ _ _ h => h) (Or.inl ⟨by rfl, ?_⟩) (by assumption) ?_
    · intro w' hSw; (try dsimp only at hSw); go_simp
    simp only [Act.put, List.setIfInBounds_toArray, List.set_cons_zero, List.set_cons_succ]
    refine wpAnyH_take (i := 4) (oi := { dst := some 17, op := Op.load 23 (Operand.tmp 5), type := 23, pos := _, after := #[], guard := none }) (v := .agg #[.int .i64 rx, .int .i64 ry]) rfl (by kernel_rfl) (by kernel_rfl) (by kernel_rfl) (fun _ _ _ h => h) (Or.inl ⟨by rfl, ?_⟩) (by assumption) ?_
    · intro w' hSw; (try dsimp only at hSw); go_simp
    simp only [Act.put, List.setIfInBounds_toArray, List.set_cons_zero, List.set_cons_succ]
    refine Ri.inv_any (I := fun L a x => ∃ (b1 b2 b3 m1 m2 m3 : Bool) (Y1 Y2 Y3 X1 X2 X3 : Value) (B1 B2 B3 : Nat), L = #[true, b1, true, b2, true, b3, m1, m2, m3, false, false, false] ∧ a = { tmps := #[.agg #[.int .i64 px, .int .i64 py], .agg #[.int .i64 qx, .int .i64 qy], .agg #[.int .i64 rx, .int .i64 ry], .pointer (some ⟨w.heap.size, 0, none⟩), .pointer (some ⟨w.heap.size + 1, 0, none⟩), .pointer (some ⟨w.heap.size + 1 + 1, 0, none⟩), .bool false, .bool true, X1, X2, X3, undef, .bool true, .agg #[.int .i64 px, .int .i64 py], Y1, .agg #[.int .i64 qx, .int .i64 qy], Y2, .agg #[.int .i64 rx, .int .i64 ry], Y3, undef, undef, undef, undef, undef, undef, undef, undef, undef, undef, undef, undef, undef, undef, undef, undef, undef, undef, undef, undef, undef, undef, undef, undef, undef, undef, undef, undef, undef, undef, undef, undef, undef, undef, undef, undef, undef, undef, undef, undef, undef, undef, undef, undef, undef, undef, undef], defers := [] } ∧ Inv3 W x (.agg #[.int .i64 ax, .int .i64 ay]) (.agg #[.int .i64 bx, .int .i64 bz]) (.agg #[.int .i64 cx, .int .i64 cy]) b1 b2 b3 m1 m2 m3 Y1 Y2 Y3 X1 X2 X3 B1 B2 B3) (f0 := 3) ?_ ?_ 6 _ _ _ (by decide) ⟨false, false, false, false, false, false, _, _, _, _, _, _, 0, 0, 0, rfl, rfl, Inv3.start _ _ _ _ _ _ _ _ _ _⟩ hHeld
    · rintro L a x ⟨b1, b2, b3, m1, m2, m3, Y1, Y2, Y3, X1, X2, X3, B1, B2, B3, rfl, rfl, hI⟩ hS' hn
      obtain ⟨rfl, rfl, rfl, rfl, rfl, rfl⟩ := Ri.full3 hn
      obtain rfl := hI.y1 rfl
      obtain rfl := hI.y2 rfl
      obtain rfl := hI.y3 rfl
      obtain ⟨rfl, l1, t1⟩ := hI.x1 rfl
      obtain ⟨rfl, l2, t2⟩ := hI.x2 rfl
      obtain ⟨rfl, l3, t3⟩ := hI.x3 rfl
      have d12 := hI.d12 rfl rfl
      have d13 := hI.d13 rfl rfl
      have d23 := hI.d23 rfl rfl
      have hb2 := hI.below
      clear hI hn hHeld hS'
      obtain ⟨c1, c2, c3, c4⟩ := t1.facts
      refine wpAnyH_ready (rs := [9]) (by kernel_rfl) (by simp) ?_
      refine AllReadyH.cons rfl (fun K hK => ?_) AllReadyH.nil
      go_simp
      have hb2_0 := set2_below hb2 l1 (.int .i64 ax) (.int .i64 ay)
      have t1_0 := two_set2 t1 (.int .i64 ax) (.int .i64 ay)
      have t2_0 := two_keep2 (C := B1) t2 (.int .i64 ax) (.int .i64 ay) (Ne.symm d12)
      have t3_0 := two_keep2 (C := B1) t3 (.int .i64 ax) (.int .i64 ay) (Ne.symm d13)
      refine hK.out _ _ (hS _ hb2_0) (fun hHeld => ?_)
      clear hK K c1 c2 c3 c4 hHeld
      obtain ⟨c1, c2, c3, c4⟩ := t2_0.facts
      refine wpAnyH_ready (rs := [10]) (by kernel_rfl) (by simp) ?_
      refine AllReadyH.cons rfl (fun K hK => ?_) AllReadyH.nil
      go_simp
      have hb2_1 := set2_below hb2_0 l2 (.int .i64 bx) (.int .i64 bz)
      have t1_1 := two_keep2 (C := B2) t1_0 (.int .i64 bx) (.int .i64 bz) d12
      have t2_1 := two_set2 t2_0 (.int .i64 bx) (.int .i64 bz)
      have t3_1 := two_keep2 (C := B2) t3_0 (.int .i64 bx) (.int .i64 bz) (Ne.symm d23)
      refine hK.out _ _ (hS _ hb2_1) (fun hHeld => ?_)
      clear hK K c1 c2 c3 c4 hHeld
      obtain ⟨c1, c2, c3, c4⟩ := t3_1.facts
      refine wpAnyH_ready (rs := [11]) (by kernel_rfl) (by simp) ?_
      refine AllReadyH.cons rfl (fun K hK => ?_) AllReadyH.nil
      go_simp
      have hb2_2 := set2_below hb2_1 l3 (.int .i64 cx) (.int .i64 cy)
      have t1_2 := two_keep2 (C := B3) t1_1 (.int .i64 cx) (.int .i64 cy) d13
      have t2_2 := two_keep2 (C := B3) t2_1 (.int .i64 cx) (.int .i64 cy) d23
      have t3_2 := two_set2 t3_1 (.int .i64 cx) (.int .i64 cy)
      refine hK.out _ _ (hS _ hb2_2) (fun hHeld => ?_)
      clear hK K c1 c2 c3 c4 hHeld
      refine wpAnyH_done (by kernel_rfl) ?_ _
      go_wp2_with fail
      go_meet
      exact ⟨_, _, _, rfl, rfl, rfl, t1_2, t2_2, t3_2, hb2_2⟩
    · rintro L a x ⟨b1, b2, b3, m1, m2, m3, Y1, Y2, Y3, X1, X2, X3, B1, B2, B3, rfl, rfl, hI⟩ hS' hn
      obtain ⟨hne, hi⟩ := Ri.ready3 (by kernel_rfl) hI.o1 hI.o2 hn
      refine ⟨hne, fun i hm => ?_⟩
      rcases hi i hm with ⟨rfl, rfl⟩ | ⟨rfl, rfl, hp⟩ | ⟨rfl, rfl, hp⟩ | ⟨rfl, rfl⟩ | ⟨rfl, rfl⟩ | ⟨rfl, rfl⟩
      all_goals clear hi hm hne hn
      · refine Ri.step_shut rfl (fun K hK => ?_)
        go_simp
        go_at_call 24
        refine (HG1.out _).mono ?_
        rintro r x' ⟨rfl, hx⟩
        go_simp
        refine hK.out _ _ (hS _ (hI.below.trans (hx.mono hI.below.size))) ⟨true, b2, b3, m1, m2, m3, _, Y2, Y3, X1, X2, X3, B1, B2, B3, rfl, rfl, hI.call1 hx⟩
      · refine Ri.step_shut rfl (fun K hK => ?_)
        go_simp
        go_at_call 24
        refine (HG2.out _).mono ?_
        rintro r x' ⟨rfl, hx⟩
        go_simp
        refine hK.out _ _ (hS _ (hI.below.trans (hx.mono hI.below.size))) ⟨_, true, b3, m1, m2, m3, Y1, _, Y3, X1, X2, X3, B1, B2, B3, rfl, rfl, hI.call2 hp hx⟩
      · refine Ri.step_shut rfl (fun K hK => ?_)
        go_simp
        go_at_call 24
        refine (HG3.out _).mono ?_
        rintro r x' ⟨rfl, hx⟩
        go_simp
        refine hK.out _ _ (hS _ (hI.below.trans (hx.mono hI.below.size))) ⟨b1, _, true, m1, m2, m3, Y1, Y2, _, X1, X2, X3, B1, B2, B3, rfl, rfl, hI.call3 hp hx⟩
      · refine Ri.step_shut rfl (fun K hK => ?_)
        go_simp
        refine hK.out _ _ (hS _ (hI.below.alloc hI.below.size _)) ⟨b1, b2, b3, true, m2, m3, Y1, Y2, Y3, _, X2, X3, _, B2, B3, rfl, rfl, hI.made1⟩
      · refine Ri.step_shut rfl (fun K hK => ?_)
        go_simp
        refine hK.out _ _ (hS _ (hI.below.alloc hI.below.size _)) ⟨b1, b2, b3, m1, true, m3, Y1, Y2, Y3, X1, _, X3, B1, _, B3, rfl, rfl, hI.made2⟩
      · refine Ri.step_shut rfl (fun K hK => ?_)
        go_simp
        refine hK.out _ _ (hS _ (hI.below.alloc hI.below.size _)) ⟨b1, b2, b3, m1, m2, true, Y1, Y2, Y3, X1, X2, _, B1, B2, _, rfl, rfl, hI.made3⟩
  case rest =>
    obtain ⟨B1, B2, B3, rfl, rfl, rfl, t1, t2, t3, hbx⟩ := hcut
    have hbY := hbW.trans (hbx.mono hbW.size)
    clear hS hbx hbW r0 r1 r2 HG1 HG2 HG3
    have HT := Lib.hid (fun w => Turn_any bx bz cx cy ax ay w)
    have HD1 := Lib.hid (fun w => Dist_any bx bz ax ay w)
    have HD2 := Lib.hid (fun w => Dist_any ax ay cx cy w)
    have HD3 := Lib.hid (fun w => Dist_any bx bz cx cy w)
    have HB1 := Lib.hid (fun w => Between_any ax ay bx bz cx cy w)
    have HB2 := Lib.hid (fun w => Between_any ax ay cx cy bx bz w)
    have HB3 := Lib.hid (fun w => Between_any bx bz bx bz cx cy w)
    have HB4 := Lib.hid (fun w => Between_any cx cy bx bz cx cy w)
    have e1 := between_eq hon1 hon2 hon3
    rw [between_swap hon1 hon2 hon3] at HB2
    rw [(between_ends hon2 hon3).1] at HB3
    rw [(between_ends hon2 hon3).2] at HB4
    have b1 : distV bx bz ax ay = distN bx bz ax ay := dist_on hon2 hon1
    have b2 : distV ax ay cx cy = distN ax ay cx cy := dist_on hon1 hon3
    have b3 : distV bx bz cx cy = distN bx bz cx cy := dist_on hon2 hon3
    rw [b1, b2, b3] at e1
    rw [b1] at HD1
    rw [b2] at HD2
    rw [b3] at HD3
    clear b1 b2 b3
    have b1 := dist_bd hon2 hon1
    have b2 := dist_bd hon1 hon3
    have b3 := dist_bd hon2 hon3
    clear hon1 hon2 hon3
    generalize turnV bx bz cx cy ax ay = T at *
    generalize distN bx bz ax ay = V1 at *
    generalize distN ax ay cx cy = V2 at *
    generalize distN bx bz cx cy = V3 at *
    generalize betB ax ay bx bz cx cy = R at *
    by_cases hT : T = 0
    · subst hT
      by_cases hD : V1 + V2 ≤ V3
      · obtain rfl : R = true := by rw [e1]; simp [hD]
        clear e1
        go_upto_region 3 with fail
        have hS : ∀ w' : World, Below wc.heap.size wc w' → (w'.cell? ⟨B1, 0, none⟩ = some (.int .i64 ax) ∧ w'.cell? ⟨B1, 1, none⟩ = some (.int .i64 ay)) ∧ (w'.cell? ⟨B2, 0, none⟩ = some (.int .i64 bx) ∧ w'.cell? ⟨B2, 1, none⟩ = some (.int .i64 bz)) ∧ (w'.cell? ⟨B3, 0, none⟩ = some (.int .i64 cx) ∧ w'.cell? ⟨B3, 1, none⟩ = some (.int .i64 cy)) := fun w' hb => ⟨two_of t1 hb, two_of t2 hb, two_of t3 hb⟩
        have hr := Below.refl wc.heap.size wc
        go_region_held3 (fun w' => (w'.cell? ⟨B1, 0, none⟩ = some (.int .i64 ax) ∧ w'.cell? ⟨B1, 1, none⟩ = some (.int .i64 ay)) ∧ (w'.cell? ⟨B2, 0, none⟩ = some (.int .i64 bx) ∧ w'.cell? ⟨B2, 1, none⟩ = some (.int .i64 bz)) ∧ (w'.cell? ⟨B3, 0, none⟩ = some (.int .i64 cx) ∧ w'.cell? ⟨B3, 1, none⟩ = some (.int .i64 cy)))
          (first | (with_reducible exact hS _ hr.drew) | (with_reducible refine hS _ ?_; with_reducible assumption))
          (first
            | (go_at_call 18; have hz := hy3; refine (HD3.out _).mono ?_; rintro r y4 ⟨rfl, hy4'⟩; have hy4 : Below wc.heap.size wc y4 := hy3.trans (hy4'.mono hy3.size))
            | (go_at_call 18; have hz := hy2; refine (HD2.out _).mono ?_; rintro r y3 ⟨rfl, hy3'⟩; have hy3 : Below wc.heap.size wc y3 := hy2.trans (hy3'.mono hy2.size))
            | (go_at_call 18; have hz := hy1; refine (HD1.out _).mono ?_; rintro r y2 ⟨rfl, hy2'⟩; have hy2 : Below wc.heap.size wc y2 := hy1.trans (hy2'.mono hy1.size))
            | (go_at_call 16; refine (HT.out _).mono ?_; rintro r y1 ⟨rfl, hy1'⟩; have hy1 : Below wc.heap.size wc y1 := hr.drew.trans hy1'))
        all_goals
          have t1_16 := t1.below hy4 t1.lt
          have t2_16 := t2.below hy4 t2.lt
          have t3_16 := t3.below hy4 t3.lt
          have hb16 := hbY.trans (hy4.mono hbY.size)
          obtain ⟨f1_0, f1_1, f1_2, f1_3⟩ := t1_16.facts
          obtain ⟨f2_0, f2_1, f2_2, f2_3⟩ := t2_16.facts
          obtain ⟨f3_0, f3_1, f3_2, f3_3⟩ := t3_16.facts
          go_wp2_with fail
          refine (HB1.out _).mono ?_
          rintro r v17 ⟨rfl, hx17⟩
          clear f1_0 f1_1 f1_2 f1_3 f2_0 f2_1 f2_2 f2_3 f3_0 f3_1 f3_2 f3_3
          have t1_17 := t1_16.below hx17 t1_16.lt
          clear t1_16
          have t2_17 := t2_16.below hx17 t2_16.lt
          clear t2_16
          have t3_17 := t3_16.below hx17 t3_16.lt
          clear t3_16
          have hb17 := hb16.trans (hx17.mono hb16.size)
          clear hb16 hx17
          obtain ⟨f1_0, f1_1, f1_2, f1_3⟩ := t1_17.facts
          obtain ⟨f2_0, f2_1, f2_2, f2_3⟩ := t2_17.facts
          obtain ⟨f3_0, f3_1, f3_2, f3_3⟩ := t3_17.facts
          go_wp2_with fail
          refine (HB2.out _).mono ?_
          rintro r v18 ⟨rfl, hx18⟩
          clear f1_0 f1_1 f1_2 f1_3 f2_0 f2_1 f2_2 f2_3 f3_0 f3_1 f3_2 f3_3
          have t1_18 := t1_17.below hx18 t1_17.lt
          clear t1_17
          have t2_18 := t2_17.below hx18 t2_17.lt
          clear t2_17
          have t3_18 := t3_17.below hx18 t3_17.lt
          clear t3_17
          have hb18 := hb17.trans (hx18.mono hb17.size)
          clear hb17 hx18
          obtain ⟨f1_0, f1_1, f1_2, f1_3⟩ := t1_18.facts
          obtain ⟨f2_0, f2_1, f2_2, f2_3⟩ := t2_18.facts
          obtain ⟨f3_0, f3_1, f3_2, f3_3⟩ := t3_18.facts
          go_wp2_with fail
          refine (HB3.out _).mono ?_
          rintro r v19 ⟨rfl, hx19⟩
          clear f1_0 f1_1 f1_2 f1_3 f2_0 f2_1 f2_2 f2_3 f3_0 f3_1 f3_2 f3_3
          have t1_19 := t1_18.below hx19 t1_18.lt
          clear t1_18
          have t2_19 := t2_18.below hx19 t2_18.lt
          clear t2_18
          have t3_19 := t3_18.below hx19 t3_18.lt
          clear t3_18
          have hb19 := hb18.trans (hx19.mono hb18.size)
          clear hb18 hx19
          obtain ⟨f1_0, f1_1, f1_2, f1_3⟩ := t1_19.facts
          obtain ⟨f2_0, f2_1, f2_2, f2_3⟩ := t2_19.facts
          obtain ⟨f3_0, f3_1, f3_2, f3_3⟩ := t3_19.facts
          go_wp2_with fail
          refine (HB4.out _).mono ?_
          rintro r v20 ⟨rfl, hx20⟩
          clear f1_0 f1_1 f1_2 f1_3 f2_0 f2_1 f2_2 f2_3 f3_0 f3_1 f3_2 f3_3
          have t1_20 := t1_19.below hx20 t1_19.lt
          clear t1_19
          have t2_20 := t2_19.below hx20 t2_19.lt
          clear t2_19
          have t3_20 := t3_19.below hx20 t3_19.lt
          clear t3_19
          have hb20 := hb19.trans (hx20.mono hb19.size)
          clear hb19 hx20
          obtain ⟨f1_0, f1_1, f1_2, f1_3⟩ := t1_20.facts
          obtain ⟨f2_0, f2_1, f2_2, f2_3⟩ := t2_20.facts
          obtain ⟨f3_0, f3_1, f3_2, f3_3⟩ := t3_20.facts
          go_wp2_with fail
          go_ret
          exact ⟨rfl, hb20⟩
      · obtain rfl : R = false := by rw [e1]; simp [hD]
        have hD2 : decide (V1 + V2 ≤ V3) = false := by simpa using hD
        clear hD
        clear e1
        go_upto_region 3 with fail
        have hS : ∀ w' : World, Below wc.heap.size wc w' → (w'.cell? ⟨B1, 0, none⟩ = some (.int .i64 ax) ∧ w'.cell? ⟨B1, 1, none⟩ = some (.int .i64 ay)) ∧ (w'.cell? ⟨B2, 0, none⟩ = some (.int .i64 bx) ∧ w'.cell? ⟨B2, 1, none⟩ = some (.int .i64 bz)) ∧ (w'.cell? ⟨B3, 0, none⟩ = some (.int .i64 cx) ∧ w'.cell? ⟨B3, 1, none⟩ = some (.int .i64 cy)) := fun w' hb => ⟨two_of t1 hb, two_of t2 hb, two_of t3 hb⟩
        have hr := Below.refl wc.heap.size wc
        go_region_held3 (fun w' => (w'.cell? ⟨B1, 0, none⟩ = some (.int .i64 ax) ∧ w'.cell? ⟨B1, 1, none⟩ = some (.int .i64 ay)) ∧ (w'.cell? ⟨B2, 0, none⟩ = some (.int .i64 bx) ∧ w'.cell? ⟨B2, 1, none⟩ = some (.int .i64 bz)) ∧ (w'.cell? ⟨B3, 0, none⟩ = some (.int .i64 cx) ∧ w'.cell? ⟨B3, 1, none⟩ = some (.int .i64 cy)))
          (first | (with_reducible exact hS _ hr.drew) | (with_reducible refine hS _ ?_; with_reducible assumption))
          (first
            | (go_at_call 18; have hz := hy3; refine (HD3.out _).mono ?_; rintro r y4 ⟨rfl, hy4'⟩; have hy4 : Below wc.heap.size wc y4 := hy3.trans (hy4'.mono hy3.size))
            | (go_at_call 18; have hz := hy2; refine (HD2.out _).mono ?_; rintro r y3 ⟨rfl, hy3'⟩; have hy3 : Below wc.heap.size wc y3 := hy2.trans (hy3'.mono hy2.size))
            | (go_at_call 18; have hz := hy1; refine (HD1.out _).mono ?_; rintro r y2 ⟨rfl, hy2'⟩; have hy2 : Below wc.heap.size wc y2 := hy1.trans (hy2'.mono hy1.size))
            | (go_at_call 16; refine (HT.out _).mono ?_; rintro r y1 ⟨rfl, hy1'⟩; have hy1 : Below wc.heap.size wc y1 := hr.drew.trans hy1'))
        all_goals
          have t1_21 := t1.below hy4 t1.lt
          have t2_21 := t2.below hy4 t2.lt
          have t3_21 := t3.below hy4 t3.lt
          have hb21 := hbY.trans (hy4.mono hbY.size)
          obtain ⟨f1_0, f1_1, f1_2, f1_3⟩ := t1_21.facts
          obtain ⟨f2_0, f2_1, f2_2, f2_3⟩ := t2_21.facts
          obtain ⟨f3_0, f3_1, f3_2, f3_3⟩ := t3_21.facts
          go_wp2_with fail
          refine (HB1.out _).mono ?_
          rintro r v22 ⟨rfl, hx22⟩
          clear f1_0 f1_1 f1_2 f1_3 f2_0 f2_1 f2_2 f2_3 f3_0 f3_1 f3_2 f3_3
          have t1_22 := t1_21.below hx22 t1_21.lt
          clear t1_21
          have t2_22 := t2_21.below hx22 t2_21.lt
          clear t2_21
          have t3_22 := t3_21.below hx22 t3_21.lt
          clear t3_21
          have hb22 := hb21.trans (hx22.mono hb21.size)
          clear hb21 hx22
          obtain ⟨f1_0, f1_1, f1_2, f1_3⟩ := t1_22.facts
          obtain ⟨f2_0, f2_1, f2_2, f2_3⟩ := t2_22.facts
          obtain ⟨f3_0, f3_1, f3_2, f3_3⟩ := t3_22.facts
          go_wp2_with fail
          refine (HB2.out _).mono ?_
          rintro r v23 ⟨rfl, hx23⟩
          clear f1_0 f1_1 f1_2 f1_3 f2_0 f2_1 f2_2 f2_3 f3_0 f3_1 f3_2 f3_3
          have t1_23 := t1_22.below hx23 t1_22.lt
          clear t1_22
          have t2_23 := t2_22.below hx23 t2_22.lt
          clear t2_22
          have t3_23 := t3_22.below hx23 t3_22.lt
          clear t3_22
          have hb23 := hb22.trans (hx23.mono hb22.size)
          clear hb22 hx23
          obtain ⟨f1_0, f1_1, f1_2, f1_3⟩ := t1_23.facts
          obtain ⟨f2_0, f2_1, f2_2, f2_3⟩ := t2_23.facts
          obtain ⟨f3_0, f3_1, f3_2, f3_3⟩ := t3_23.facts
          go_wp2_with fail
          refine (HB3.out _).mono ?_
          rintro r v24 ⟨rfl, hx24⟩
          clear f1_0 f1_1 f1_2 f1_3 f2_0 f2_1 f2_2 f2_3 f3_0 f3_1 f3_2 f3_3
          have t1_24 := t1_23.below hx24 t1_23.lt
          clear t1_23
          have t2_24 := t2_23.below hx24 t2_23.lt
          clear t2_23
          have t3_24 := t3_23.below hx24 t3_23.lt
          clear t3_23
          have hb24 := hb23.trans (hx24.mono hb23.size)
          clear hb23 hx24
          obtain ⟨f1_0, f1_1, f1_2, f1_3⟩ := t1_24.facts
          obtain ⟨f2_0, f2_1, f2_2, f2_3⟩ := t2_24.facts
          obtain ⟨f3_0, f3_1, f3_2, f3_3⟩ := t3_24.facts
          go_wp2_with fail
          refine (HB4.out _).mono ?_
          rintro r v25 ⟨rfl, hx25⟩
          clear f1_0 f1_1 f1_2 f1_3 f2_0 f2_1 f2_2 f2_3 f3_0 f3_1 f3_2 f3_3
          have t1_25 := t1_24.below hx25 t1_24.lt
          clear t1_24
          have t2_25 := t2_24.below hx25 t2_24.lt
          clear t2_24
          have t3_25 := t3_24.below hx25 t3_24.lt
          clear t3_24
          have hb25 := hb24.trans (hx25.mono hb24.size)
          clear hb24 hx25
          obtain ⟨f1_0, f1_1, f1_2, f1_3⟩ := t1_25.facts
          obtain ⟨f2_0, f2_1, f2_2, f2_3⟩ := t2_25.facts
          obtain ⟨f3_0, f3_1, f3_2, f3_3⟩ := t3_25.facts
          go_wp2_with fail
          go_ret
          exact ⟨rfl, hb25⟩
    · have hT2 : (T == 0) = false := by simpa using hT
      obtain rfl : R = false := by rw [e1, hT2]; rfl
      clear e1 hT
      go_upto_region 3 with fail
      have hS : ∀ w' : World, Below wc.heap.size wc w' → (w'.cell? ⟨B1, 0, none⟩ = some (.int .i64 ax) ∧ w'.cell? ⟨B1, 1, none⟩ = some (.int .i64 ay)) ∧ (w'.cell? ⟨B2, 0, none⟩ = some (.int .i64 bx) ∧ w'.cell? ⟨B2, 1, none⟩ = some (.int .i64 bz)) ∧ (w'.cell? ⟨B3, 0, none⟩ = some (.int .i64 cx) ∧ w'.cell? ⟨B3, 1, none⟩ = some (.int .i64 cy)) := fun w' hb => ⟨two_of t1 hb, two_of t2 hb, two_of t3 hb⟩
      have hS0 := hS _ (Below.refl wc.heap.size wc).drew
      refine wp_region_held_drew (S := fun w' => (w'.cell? ⟨B1, 0, none⟩ = some (.int .i64 ax) ∧ w'.cell? ⟨B1, 1, none⟩ = some (.int .i64 ay)) ∧ (w'.cell? ⟨B2, 0, none⟩ = some (.int .i64 bx) ∧ w'.cell? ⟨B2, 1, none⟩ = some (.int .i64 bz)) ∧ (w'.cell? ⟨B3, 0, none⟩ = some (.int .i64 cx) ∧ w'.cell? ⟨B3, 1, none⟩ = some (.int .i64 cy))) (by kernel_rfl) hS0 (fun _ => ?_)
      refine Ri.take_d (i := 0) (v := .agg #[.int .i64 bx, .int .i64 bz]) (some 19) rfl rfl (by kernel_rfl) (by kernel_rfl) (by kernel_rfl) (fun _ _ _ h => h) (Or.inl ⟨by kernel_rfl, ?_⟩) hS0 ?_
      · intro w' hSw; (try dsimp only at hSw); go_simp
      simp only [Act.put, List.setIfInBounds_toArray, List.set_cons_zero, List.set_cons_succ]
      refine Ri.take_d (i := 1) (v := .agg #[.int .i64 cx, .int .i64 cy]) (some 20) rfl rfl (by kernel_rfl) (by kernel_rfl) (by kernel_rfl) (fun _ _ _ h => h) (Or.inl ⟨by kernel_rfl, ?_⟩) hS0 ?_
      · intro w' hSw; (try dsimp only at hSw); go_simp
      simp only [Act.put, List.setIfInBounds_toArray, List.set_cons_zero, List.set_cons_succ]
      refine Ri.take_d (i := 2) (v := .agg #[.int .i64 ax, .int .i64 ay]) (some 21) rfl rfl (by kernel_rfl) (by kernel_rfl) (by kernel_rfl) (fun _ _ _ h => h) (Or.inl ⟨by kernel_rfl, ?_⟩) hS0 ?_
      · intro w' hSw; (try dsimp only at hSw); go_simp
      simp only [Act.put, List.setIfInBounds_toArray, List.set_cons_zero, List.set_cons_succ]
      refine wpAnyH_ready (rs := [3]) (by kernel_rfl) (by simp) ?_
      refine AllReadyH.cons rfl (fun K hK => ?_) AllReadyH.nil
      rw [if_pos (by rfl)]
      go_simp
      go_at_call 16
      refine (HT.out _).mono ?_
      rintro r y1 ⟨rfl, hy1'⟩
      have hy1 : Below wc.heap.size wc y1 := (Below.refl wc.heap.size wc).drew.trans hy1'
      have hS1 := hS _ hy1
      refine hK.out _ _ hS1 (fun _ => ?_)
      clear hK K
      try simp only [Act.put, List.setIfInBounds_toArray, List.set_cons_zero, List.set_cons_succ]
      refine Ri.take_d (i := 4) (v := .bool false) (some 23) rfl rfl (by kernel_rfl) (by kernel_rfl) (by kernel_rfl) (fun _ _ _ h => h) (Or.inl ⟨by kernel_rfl, ?_⟩) hS1 ?_
      · intro w' hSw; (try dsimp only at hSw); go_simp
      simp only [Act.put, List.setIfInBounds_toArray, List.set_cons_zero, List.set_cons_succ]
      refine Ri.take_d (i := 5) (v := .bool false) (some 24) rfl rfl (by kernel_rfl) (by kernel_rfl) (by kernel_rfl) (fun _ _ _ h => h) (Or.inl ⟨by kernel_rfl, ?_⟩) hS1 ?_
      · intro w' hSw; (try dsimp only at hSw); go_simp
      simp only [Act.put, List.setIfInBounds_toArray, List.set_cons_zero, List.set_cons_succ]
      refine Ri.take_d (i := 6) (v := undef) (some 25) rfl rfl (by kernel_rfl) (by kernel_rfl) (by kernel_rfl) (fun _ _ _ h => h) (Or.inr ⟨by kernel_rfl, rfl⟩) hS1 ?_
      simp only [Act.put, List.setIfInBounds_toArray, List.set_cons_zero, List.set_cons_succ]
      refine Ri.take_d (i := 7) (v := undef) (some 26) rfl rfl (by kernel_rfl) (by kernel_rfl) (by kernel_rfl) (fun _ _ _ h => h) (Or.inr ⟨by kernel_rfl, rfl⟩) hS1 ?_
      simp only [Act.put, List.setIfInBounds_toArray, List.set_cons_zero, List.set_cons_succ]
      refine Ri.take_d (i := 8) (v := undef) (some 27) rfl rfl (by kernel_rfl) (by kernel_rfl) (by kernel_rfl) (fun _ _ _ h => h) (Or.inr ⟨by kernel_rfl, rfl⟩) hS1 ?_
      simp only [Act.put, List.setIfInBounds_toArray, List.set_cons_zero, List.set_cons_succ]
      refine Ri.take_d (i := 9) (v := undef) (some 28) rfl rfl (by kernel_rfl) (by kernel_rfl) (by kernel_rfl) (fun _ _ _ h => h) (Or.inr ⟨by kernel_rfl, rfl⟩) hS1 ?_
      simp only [Act.put, List.setIfInBounds_toArray, List.set_cons_zero, List.set_cons_succ]
      refine Ri.take_d (i := 10) (v := undef) (some 29) rfl rfl (by kernel_rfl) (by kernel_rfl) (by kernel_rfl) (fun _ _ _ h => h) (Or.inr ⟨by kernel_rfl, rfl⟩) hS1 ?_
      simp only [Act.put, List.setIfInBounds_toArray, List.set_cons_zero, List.set_cons_succ]
      refine Ri.take_d (i := 11) (v := undef) (some 30) rfl rfl (by kernel_rfl) (by kernel_rfl) (by kernel_rfl) (fun _ _ _ h => h) (Or.inr ⟨by kernel_rfl, rfl⟩) hS1 ?_
      simp only [Act.put, List.setIfInBounds_toArray, List.set_cons_zero, List.set_cons_succ]
      refine Ri.take_d (i := 12) (v := undef) (some 31) rfl rfl (by kernel_rfl) (by kernel_rfl) (by kernel_rfl) (fun _ _ _ h => h) (Or.inr ⟨by kernel_rfl, rfl⟩) hS1 ?_
      simp only [Act.put, List.setIfInBounds_toArray, List.set_cons_zero, List.set_cons_succ]
      refine Ri.take_d (i := 13) (v := undef) (some 32) rfl rfl (by kernel_rfl) (by kernel_rfl) (by kernel_rfl) (fun _ _ _ h => h) (Or.inr ⟨by kernel_rfl, rfl⟩) hS1 ?_
      simp only [Act.put, List.setIfInBounds_toArray, List.set_cons_zero, List.set_cons_succ]
      refine Ri.take_d (i := 14) (v := undef) (some 33) rfl rfl (by kernel_rfl) (by kernel_rfl) (by kernel_rfl) (fun _ _ _ h => h) (Or.inr ⟨by kernel_rfl, rfl⟩) hS1 ?_
      simp only [Act.put, List.setIfInBounds_toArray, List.set_cons_zero, List.set_cons_succ]
      refine Ri.take_d (i := 15) (v := undef) (some 34) rfl rfl (by kernel_rfl) (by kernel_rfl) (by kernel_rfl) (fun _ _ _ h => h) (Or.inr ⟨by kernel_rfl, rfl⟩) hS1 ?_
      simp only [Act.put, List.setIfInBounds_toArray, List.set_cons_zero, List.set_cons_succ]
      refine Ri.take_d (i := 16) (v := undef) (some 35) rfl rfl (by kernel_rfl) (by kernel_rfl) (by kernel_rfl) (fun _ _ _ h => h) (Or.inr ⟨by kernel_rfl, rfl⟩) hS1 ?_
      simp only [Act.put, List.setIfInBounds_toArray, List.set_cons_zero, List.set_cons_succ]
      refine Ri.take_d (i := 17) (v := .bool false) (some 36) rfl rfl (by kernel_rfl) (by kernel_rfl) (by kernel_rfl) (fun _ _ _ h => h) (Or.inl ⟨by kernel_rfl, ?_⟩) hS1 ?_
      · intro w' hSw; (try dsimp only at hSw); go_simp
      simp only [Act.put, List.setIfInBounds_toArray, List.set_cons_zero, List.set_cons_succ]
      refine Ri.take_d (i := 18) (v := .bool false) (some 11) rfl rfl (by kernel_rfl) (by kernel_rfl) (by kernel_rfl) (fun _ _ _ h => h) (Or.inl ⟨by kernel_rfl, ?_⟩) hS1 ?_
      · intro w' hSw; (try dsimp only at hSw); go_simp
      simp only [Act.put, List.setIfInBounds_toArray, List.set_cons_zero, List.set_cons_succ]
      refine wpAnyH_done (by kernel_rfl) ?_ _
      have t1_26 := t1.below hy1 t1.lt
      have t2_26 := t2.below hy1 t2.lt
      have t3_26 := t3.below hy1 t3.lt
      have hb26 := hbY.trans (hy1.mono hbY.size)
      obtain ⟨f1_0, f1_1, f1_2, f1_3⟩ := t1_26.facts
      obtain ⟨f2_0, f2_1, f2_2, f2_3⟩ := t2_26.facts
      obtain ⟨f3_0, f3_1, f3_2, f3_3⟩ := t3_26.facts
      go_wp2_with fail
      refine (HB1.out _).mono ?_
      rintro r v27 ⟨rfl, hx27⟩
      clear f1_0 f1_1 f1_2 f1_3 f2_0 f2_1 f2_2 f2_3 f3_0 f3_1 f3_2 f3_3
      have t1_27 := t1_26.below hx27 t1_26.lt
      clear t1_26
      have t2_27 := t2_26.below hx27 t2_26.lt
      clear t2_26
      have t3_27 := t3_26.below hx27 t3_26.lt
      clear t3_26
      have hb27 := hb26.trans (hx27.mono hb26.size)
      clear hb26 hx27
      obtain ⟨f1_0, f1_1, f1_2, f1_3⟩ := t1_27.facts
      obtain ⟨f2_0, f2_1, f2_2, f2_3⟩ := t2_27.facts
      obtain ⟨f3_0, f3_1, f3_2, f3_3⟩ := t3_27.facts
      go_wp2_with fail
      refine (HB2.out _).mono ?_
      rintro r v28 ⟨rfl, hx28⟩
      clear f1_0 f1_1 f1_2 f1_3 f2_0 f2_1 f2_2 f2_3 f3_0 f3_1 f3_2 f3_3
      have t1_28 := t1_27.below hx28 t1_27.lt
      clear t1_27
      have t2_28 := t2_27.below hx28 t2_27.lt
      clear t2_27
      have t3_28 := t3_27.below hx28 t3_27.lt
      clear t3_27
      have hb28 := hb27.trans (hx28.mono hb27.size)
      clear hb27 hx28
      obtain ⟨f1_0, f1_1, f1_2, f1_3⟩ := t1_28.facts
      obtain ⟨f2_0, f2_1, f2_2, f2_3⟩ := t2_28.facts
      obtain ⟨f3_0, f3_1, f3_2, f3_3⟩ := t3_28.facts
      go_wp2_with fail
      refine (HB3.out _).mono ?_
      rintro r v29 ⟨rfl, hx29⟩
      clear f1_0 f1_1 f1_2 f1_3 f2_0 f2_1 f2_2 f2_3 f3_0 f3_1 f3_2 f3_3
      have t1_29 := t1_28.below hx29 t1_28.lt
      clear t1_28
      have t2_29 := t2_28.below hx29 t2_28.lt
      clear t2_28
      have t3_29 := t3_28.below hx29 t3_28.lt
      clear t3_28
      have hb29 := hb28.trans (hx29.mono hb28.size)
      clear hb28 hx29
      obtain ⟨f1_0, f1_1, f1_2, f1_3⟩ := t1_29.facts
      obtain ⟨f2_0, f2_1, f2_2, f2_3⟩ := t2_29.facts
      obtain ⟨f3_0, f3_1, f3_2, f3_3⟩ := t3_29.facts
      go_wp2_with fail
      refine (HB4.out _).mono ?_
      rintro r v30 ⟨rfl, hx30⟩
      clear f1_0 f1_1 f1_2 f1_3 f2_0 f2_1 f2_2 f2_3 f3_0 f3_1 f3_2 f3_3
      have t1_30 := t1_29.below hx30 t1_29.lt
      clear t1_29
      have t2_30 := t2_29.below hx30 t2_29.lt
      clear t2_29
      have t3_30 := t3_29.below hx30 t3_29.lt
      clear t3_29
      have hb30 := hb29.trans (hx30.mono hb29.size)
      clear hb29 hx30
      obtain ⟨f1_0, f1_1, f1_2, f1_3⟩ := t1_30.facts
      obtain ⟨f2_0, f2_1, f2_2, f2_3⟩ := t2_30.facts
      obtain ⟨f3_0, f3_1, f3_2, f3_3⟩ := t3_30.facts
      go_wp2_with fail
      go_ret
      exact ⟨rfl, hb30⟩
end Go.Proofs.Ytbkeennjoepmmaa.Ge
