/- The walk of GeomTurns. -/
import Derived.Test.YtbkeennjoepmmaaGeoInv
import Derived.Test.YtbkeennjoepmmaaGeoH
import Derived.Test.YtbkeennjoepmmaaGeoLaw
namespace Go.Proofs.Ytbkeennjoepmmaa.Ge
set_option linter.unusedVariables false
set_option linter.unusedSimpArgs false
open Go.RowKit
open Go.Proofs.Ytbkeennjoepmmaa.Fr (Two)

set_option maxRecDepth 100000 in
set_option maxHeartbeats 8000000 in
theorem lawTurns (px py qx qy rx ry : Int) (hpx1 : -9223372036854775808 ≤ px) (hpx2 : px ≤ 9223372036854775807) (hpy1 : -9223372036854775808 ≤ py) (hpy2 : py ≤ 9223372036854775807) (hqx1 : -9223372036854775808 ≤ qx) (hqx2 : qx ≤ 9223372036854775807) (hqy1 : -9223372036854775808 ≤ qy) (hqy2 : qy ≤ 9223372036854775807) (hrx1 : -9223372036854775808 ≤ rx) (hrx2 : rx ≤ 9223372036854775807) (hry1 : -9223372036854775808 ≤ ry) (hry2 : ry ≤ 9223372036854775807) (w : World) :
    Calls Try.prog 4 #[.agg #[.int .i64 px, .int .i64 py], .agg #[.int .i64 qx, .int .i64 qy], .agg #[.int .i64 rx, .int .i64 ry]] w fun e w' => e = .returned (.bool true) ∧ Below w.heap.size w w' := by
  have HG1 := Lib.hid (fun w => grid_any px py w hpx1 hpx2 hpy1 hpy2)
  have hon1 := on_mod px py
  generalize px % 32768 = ax at *
  generalize py % 32768 = ay at *
  have HG2 := Lib.hid (fun w => grid_any qx qy w hqx1 hqx2 hqy1 hqy2)
  have hon2 := on_mod qx qy
  generalize qx % 32768 = bx at *
  generalize qy % 32768 = bz at *
  have HG3 := Lib.hid (fun w => grid_any rx ry w hrx1 hrx2 hry1 hry2)
  have hon3 := on_mod rx ry
  generalize rx % 32768 = cx at *
  generalize ry % 32768 = cy at *
  have b0_0 := Two.at (w := w) (B := w.heap.size) (by simp) 23 (.int .i64 px) (.int .i64 py)
  have b1_1 := Two.at (w := (w.alloc (.cells #[.int .i64 px, .int .i64 py] 23))) (B := w.heap.size + 1) (by simp) 23 (.int .i64 qx) (.int .i64 qy)
  have b0_1 := b0_0.alloc (.cells #[.int .i64 qx, .int .i64 qy] 23)
  have b2_2 := Two.at (w := ((w.alloc (.cells #[.int .i64 px, .int .i64 py] 23)).alloc (.cells #[.int .i64 qx, .int .i64 qy] 23))) (B := w.heap.size + 1 + 1) (by simp) 23 (.int .i64 rx) (.int .i64 ry)
  have b0_2 := b0_1.alloc (.cells #[.int .i64 rx, .int .i64 ry] 23)
  have b1_2 := b1_1.alloc (.cells #[.int .i64 rx, .int .i64 ry] 23)
  have hb0 : Below w.heap.size w _ := ((((Below.refl w.heap.size w).alloc (by simp <;> omega) (.cells #[.int .i64 px, .int .i64 py] 23)).alloc (by simp <;> omega) (.cells #[.int .i64 qx, .int .i64 qy] 23)).alloc (by simp <;> omega) (.cells #[.int .i64 rx, .int .i64 ry] 23))
  go_enter Try.func4, Try.ntmps4
  go_wp2_with fail
  refine (head_any _).mono ?_
  rintro r W ⟨rfl, hb1⟩
  have r0 := b0_2.below hb1 b0_2.lt
  have r1 := b1_2.below hb1 b1_2.lt
  have r2 := b2_2.below hb1 b2_2.lt
  have hbW := hb0.trans (hb1.mono hb0.size)
  clear b0_0 b0_1 b1_1 b0_2 b1_2 b2_2 hb0 hb1
  go_upto_region 2 with fail
  have hS : ∀ w' : World, Below W.heap.size W w' → (w'.cell? ⟨w.heap.size, 0, none⟩ = some (.int .i64 px) ∧ w'.cell? ⟨w.heap.size, 1, none⟩ = some (.int .i64 py)) ∧ (w'.cell? ⟨w.heap.size + 1, 0, none⟩ = some (.int .i64 qx) ∧ w'.cell? ⟨w.heap.size + 1, 1, none⟩ = some (.int .i64 qy)) ∧ (w'.cell? ⟨w.heap.size + 1 + 1, 0, none⟩ = some (.int .i64 rx) ∧ w'.cell? ⟨w.heap.size + 1 + 1, 1, none⟩ = some (.int .i64 ry)) := fun w' hb => ⟨two_of r0 hb, two_of r1 hb, two_of r2 hb⟩
  go_cut [8, 9, 10] (fun v1 v2 v3 wx => GridAt3 W ax ay bx bz cx cy v1 v2 v3 wx)
  case first =>
    refine wp_region_held_drew (S := fun w' => (w'.cell? ⟨w.heap.size, 0, none⟩ = some (.int .i64 px) ∧ w'.cell? ⟨w.heap.size, 1, none⟩ = some (.int .i64 py)) ∧ (w'.cell? ⟨w.heap.size + 1, 0, none⟩ = some (.int .i64 qx) ∧ w'.cell? ⟨w.heap.size + 1, 1, none⟩ = some (.int .i64 qy)) ∧ (w'.cell? ⟨w.heap.size + 1 + 1, 0, none⟩ = some (.int .i64 rx) ∧ w'.cell? ⟨w.heap.size + 1 + 1, 1, none⟩ = some (.int .i64 ry))) (by kernel_rfl) (hS _ (Below.refl _ _).drew) (fun hHeld => ?_)
    refine wpAnyH_take (i := 0) (oi := { dst := some 14, op := Op.load 23 (Operand.tmp 3), type := 23, pos := _, after := #[], guard := none }) (v := .agg #[.int .i64 px, .int .i64 py]) rfl (by kernel_rfl) (by kernel_rfl) (by kernel_rfl) (fun _ _ _ h => h) (Or.inl ⟨by rfl, ?_⟩) (by assumption) ?_
    · intro w' hSw; (try dsimp only at hSw); go_simp
    simp only [Act.put, List.setIfInBounds_toArray, List.set_cons_zero, List.set_cons_succ]
    refine wpAnyH_take (i := 2) (oi := { dst := some 16, op := Op.load 23 (Operand.tmp 4), type := 23, pos := _, after := #[], guard := none }) (v := .agg #[.int .i64 qx, .int .i64 qy]) rfl (by kernel_rfl) (by kernel_rfl) (by kernel_rfl) (fun _ _ _ h => h) (Or.inl ⟨by rfl, ?_⟩) (by assumption) ?_
    · intro w' hSw; (try dsimp only at hSw); go_simp
    simp only [Act.put, List.setIfInBounds_toArray, List.set_cons_zero, List.set_cons_succ]
    refine wpAnyH_take (i := 4) (oi := { dst := some 18, op := Op.load 23 (Operand.tmp 5), type := 23, pos := _, after := #[], guard := none }) (v := .agg #[.int .i64 rx, .int .i64 ry]) rfl (by kernel_rfl) (by kernel_rfl) (by kernel_rfl) (fun _ _ _ h => h) (Or.inl ⟨by rfl, ?_⟩) (by assumption) ?_
    · intro w' hSw; (try dsimp only at hSw); go_simp
    simp only [Act.put, List.setIfInBounds_toArray, List.set_cons_zero, List.set_cons_succ]
    refine Ri.inv_any (I := fun L a x => ∃ (b1 b2 b3 m1 m2 m3 : Bool) (Y1 Y2 Y3 X1 X2 X3 : Value) (B1 B2 B3 : Nat), L = #[true, b1, true, b2, true, b3, m1, m2, m3, false, false, false] ∧ a = { tmps := #[.agg #[.int .i64 px, .int .i64 py], .agg #[.int .i64 qx, .int .i64 qy], .agg #[.int .i64 rx, .int .i64 ry], .pointer (some ⟨w.heap.size, 0, none⟩), .pointer (some ⟨w.heap.size + 1, 0, none⟩), .pointer (some ⟨w.heap.size + 1 + 1, 0, none⟩), .bool false, .bool true, X1, X2, X3, undef, undef, .bool true, .agg #[.int .i64 px, .int .i64 py], Y1, .agg #[.int .i64 qx, .int .i64 qy], Y2, .agg #[.int .i64 rx, .int .i64 ry], Y3, undef, undef, undef, undef, undef, undef, undef, undef, undef, undef, undef, undef, undef, undef, undef, undef, undef, undef, undef, undef, undef, undef, undef, undef, undef, undef, undef, undef, undef, undef, undef, undef, undef, undef, undef, undef, undef, undef, undef, undef, undef, undef, undef, undef, undef, undef, undef, undef, undef, undef, undef, undef, undef, undef, undef, undef, undef, undef, undef, undef, undef, undef, undef, undef, undef, undef, undef, undef, undef, undef, undef], defers := [] } ∧ Inv3 W x (.agg #[.int .i64 ax, .int .i64 ay]) (.agg #[.int .i64 bx, .int .i64 bz]) (.agg #[.int .i64 cx, .int .i64 cy]) b1 b2 b3 m1 m2 m3 Y1 Y2 Y3 X1 X2 X3 B1 B2 B3) (f0 := 3) ?_ ?_ 6 _ _ _ (by decide) ⟨false, false, false, false, false, false, _, _, _, _, _, _, 0, 0, 0, rfl, rfl, Inv3.start _ _ _ _ _ _ _ _ _ _⟩ hHeld
    · rintro L a x ⟨b1, b2, b3, m1, m2, m3, Y1, Y2, Y3, X1, X2, X3, B1, B2, B3, rfl, rfl, hI⟩ hS' hn
      obtain ⟨rfl, rfl, rfl, rfl, rfl, rfl⟩ := Ri.full3 hn
      obtain rfl := hI.y1 rfl
      obtain rfl := hI.y2 rfl
      obtain rfl := hI.y3 rfl
      obtain ⟨rfl, l1, t1⟩ := hI.x1 rfl
      obtain ⟨rfl, l2, t2⟩ := hI.x2 rfl
      obtain ⟨rfl, l3, t3⟩ := hI.x3 rfl
      have d12 := hI.d12 rfl rfl
      have d13 := hI.d13 rfl rfl
      have d23 := hI.d23 rfl rfl
      have hb2 := hI.below
      clear hI hn hHeld hS'
      obtain ⟨c1, c2, c3, c4⟩ := t1.facts
      refine wpAnyH_ready (rs := [9]) (by kernel_rfl) (by simp) ?_
      refine AllReadyH.cons rfl (fun K hK => ?_) AllReadyH.nil
      go_simp
      have hb2_0 := set2_below hb2 l1 (.int .i64 ax) (.int .i64 ay)
      have t1_0 := two_set2 t1 (.int .i64 ax) (.int .i64 ay)
      have t2_0 := two_keep2 (C := B1) t2 (.int .i64 ax) (.int .i64 ay) (Ne.symm d12)
      have t3_0 := two_keep2 (C := B1) t3 (.int .i64 ax) (.int .i64 ay) (Ne.symm d13)
      refine hK.out _ _ (hS _ hb2_0) (fun hHeld => ?_)
      clear hK K c1 c2 c3 c4 hHeld
      obtain ⟨c1, c2, c3, c4⟩ := t2_0.facts
      refine wpAnyH_ready (rs := [10]) (by kernel_rfl) (by simp) ?_
      refine AllReadyH.cons rfl (fun K hK => ?_) AllReadyH.nil
      go_simp
      have hb2_1 := set2_below hb2_0 l2 (.int .i64 bx) (.int .i64 bz)
      have t1_1 := two_keep2 (C := B2) t1_0 (.int .i64 bx) (.int .i64 bz) d12
      have t2_1 := two_set2 t2_0 (.int .i64 bx) (.int .i64 bz)
      have t3_1 := two_keep2 (C := B2) t3_0 (.int .i64 bx) (.int .i64 bz) (Ne.symm d23)
      refine hK.out _ _ (hS _ hb2_1) (fun hHeld => ?_)
      clear hK K c1 c2 c3 c4 hHeld
      obtain ⟨c1, c2, c3, c4⟩ := t3_1.facts
      refine wpAnyH_ready (rs := [11]) (by kernel_rfl) (by simp) ?_
      refine AllReadyH.cons rfl (fun K hK => ?_) AllReadyH.nil
      go_simp
      have hb2_2 := set2_below hb2_1 l3 (.int .i64 cx) (.int .i64 cy)
      have t1_2 := two_keep2 (C := B3) t1_1 (.int .i64 cx) (.int .i64 cy) d13
      have t2_2 := two_keep2 (C := B3) t2_1 (.int .i64 cx) (.int .i64 cy) d23
      have t3_2 := two_set2 t3_1 (.int .i64 cx) (.int .i64 cy)
      refine hK.out _ _ (hS _ hb2_2) (fun hHeld => ?_)
      clear hK K c1 c2 c3 c4 hHeld
      refine wpAnyH_done (by kernel_rfl) ?_ _
      go_wp2_with fail
      go_meet
      exact ⟨_, _, _, rfl, rfl, rfl, t1_2, t2_2, t3_2, hb2_2⟩
    · rintro L a x ⟨b1, b2, b3, m1, m2, m3, Y1, Y2, Y3, X1, X2, X3, B1, B2, B3, rfl, rfl, hI⟩ hS' hn
      obtain ⟨hne, hi⟩ := Ri.ready3 (by kernel_rfl) hI.o1 hI.o2 hn
      refine ⟨hne, fun i hm => ?_⟩
      rcases hi i hm with ⟨rfl, rfl⟩ | ⟨rfl, rfl, hp⟩ | ⟨rfl, rfl, hp⟩ | ⟨rfl, rfl⟩ | ⟨rfl, rfl⟩ | ⟨rfl, rfl⟩
      all_goals clear hi hm hne hn
      · refine Ri.step_shut rfl (fun K hK => ?_)
        go_simp
        go_at_call 24
        refine (HG1.out _).mono ?_
        rintro r x' ⟨rfl, hx⟩
        go_simp
        refine hK.out _ _ (hS _ (hI.below.trans (hx.mono hI.below.size))) ⟨true, b2, b3, m1, m2, m3, _, Y2, Y3, X1, X2, X3, B1, B2, B3, rfl, rfl, hI.call1 hx⟩
      · refine Ri.step_shut rfl (fun K hK => ?_)
        go_simp
        go_at_call 24
        refine (HG2.out _).mono ?_
        rintro r x' ⟨rfl, hx⟩
        go_simp
        refine hK.out _ _ (hS _ (hI.below.trans (hx.mono hI.below.size))) ⟨_, true, b3, m1, m2, m3, Y1, _, Y3, X1, X2, X3, B1, B2, B3, rfl, rfl, hI.call2 hp hx⟩
      · refine Ri.step_shut rfl (fun K hK => ?_)
        go_simp
        go_at_call 24
        refine (HG3.out _).mono ?_
        rintro r x' ⟨rfl, hx⟩
        go_simp
        refine hK.out _ _ (hS _ (hI.below.trans (hx.mono hI.below.size))) ⟨b1, _, true, m1, m2, m3, Y1, Y2, _, X1, X2, X3, B1, B2, B3, rfl, rfl, hI.call3 hp hx⟩
      · refine Ri.step_shut rfl (fun K hK => ?_)
        go_simp
        refine hK.out _ _ (hS _ (hI.below.alloc hI.below.size _)) ⟨b1, b2, b3, true, m2, m3, Y1, Y2, Y3, _, X2, X3, _, B2, B3, rfl, rfl, hI.made1⟩
      · refine Ri.step_shut rfl (fun K hK => ?_)
        go_simp
        refine hK.out _ _ (hS _ (hI.below.alloc hI.below.size _)) ⟨b1, b2, b3, m1, true, m3, Y1, Y2, Y3, X1, _, X3, B1, _, B3, rfl, rfl, hI.made2⟩
      · refine Ri.step_shut rfl (fun K hK => ?_)
        go_simp
        refine hK.out _ _ (hS _ (hI.below.alloc hI.below.size _)) ⟨b1, b2, b3, m1, m2, true, Y1, Y2, Y3, X1, X2, _, B1, B2, _, rfl, rfl, hI.made3⟩
  case rest =>
    obtain ⟨B1, B2, B3, rfl, rfl, rfl, t1, t2, t3, hbx⟩ := hcut
    have hbY := hbW.trans (hbx.mono hbW.size)
    clear hS hbx hbW r0 r1 r2 HG1 HG2 HG3
    obtain ⟨e1, e2, e3, e4, e5, e6, e7, e8, e9⟩ := turn_facts hon1 hon2 hon3
    have H1 := Lib.hid (fun w => Turn_any ax ay bx bz cx cy w)
    have H2 := Lib.hid (fun w => Turn_any bx bz cx cy ax ay w)
    have H3 := Lib.hid (fun w => Turn_any cx cy ax ay bx bz w)
    have H4 := Lib.hid (fun w => Turn_any bx bz ax ay cx cy w)
    have H5 := Lib.hid (fun w => Turn_any ax ay cx cy bx bz w)
    have H6 := Lib.hid (fun w => Turn_any cx cy bx bz ax ay w)
    have H7 := Lib.hid (fun w => Turn_any ax ay ax ay bx bz w)
    have H8 := Lib.hid (fun w => Turn_any ax ay bx bz bx bz w)
    rw [e1] at H2
    rw [e2] at H3
    rw [e3] at H4
    rw [e4] at H5
    rw [e5] at H6
    rw [e6] at H7
    rw [e7] at H8
    clear e1 e2 e3 e4 e5 e6 e7 hon1 hon2 hon3
    generalize turnV ax ay bx bz cx cy = T at *
    have q1 : (T == T) = true := by simp
    have q2 : (-T == -T) = true := by simp
    have q3 : IntKind.i64.wrap (-T) = -T := by rw [IntKind.wrap_i64]; omega
    obtain ⟨f1_0, f1_1, f1_2, f1_3⟩ := t1.facts
    obtain ⟨f2_0, f2_1, f2_2, f2_3⟩ := t2.facts
    obtain ⟨f3_0, f3_1, f3_2, f3_3⟩ := t3.facts
    go_wp2_with fail
    refine (H1.out _).mono ?_
    rintro r v1 ⟨rfl, hx1⟩
    clear f1_0 f1_1 f1_2 f1_3 f2_0 f2_1 f2_2 f2_3 f3_0 f3_1 f3_2 f3_3
    have t1_1 := t1.below hx1 t1.lt
    clear t1
    have t2_1 := t2.below hx1 t2.lt
    clear t2
    have t3_1 := t3.below hx1 t3.lt
    clear t3
    have hb1 := hbY.trans (hx1.mono hbY.size)
    clear hbY hx1
    obtain ⟨f1_0, f1_1, f1_2, f1_3⟩ := t1_1.facts
    obtain ⟨f2_0, f2_1, f2_2, f2_3⟩ := t2_1.facts
    obtain ⟨f3_0, f3_1, f3_2, f3_3⟩ := t3_1.facts
    go_wp2_with fail
    refine (H2.out _).mono ?_
    rintro r v2 ⟨rfl, hx2⟩
    clear f1_0 f1_1 f1_2 f1_3 f2_0 f2_1 f2_2 f2_3 f3_0 f3_1 f3_2 f3_3
    have t1_2 := t1_1.below hx2 t1_1.lt
    clear t1_1
    have t2_2 := t2_1.below hx2 t2_1.lt
    clear t2_1
    have t3_2 := t3_1.below hx2 t3_1.lt
    clear t3_1
    have hb2 := hb1.trans (hx2.mono hb1.size)
    clear hb1 hx2
    obtain ⟨f1_0, f1_1, f1_2, f1_3⟩ := t1_2.facts
    obtain ⟨f2_0, f2_1, f2_2, f2_3⟩ := t2_2.facts
    obtain ⟨f3_0, f3_1, f3_2, f3_3⟩ := t3_2.facts
    go_wp2_with fail
    refine (H3.out _).mono ?_
    rintro r v3 ⟨rfl, hx3⟩
    clear f1_0 f1_1 f1_2 f1_3 f2_0 f2_1 f2_2 f2_3 f3_0 f3_1 f3_2 f3_3
    have t1_3 := t1_2.below hx3 t1_2.lt
    clear t1_2
    have t2_3 := t2_2.below hx3 t2_2.lt
    clear t2_2
    have t3_3 := t3_2.below hx3 t3_2.lt
    clear t3_2
    have hb3 := hb2.trans (hx3.mono hb2.size)
    clear hb2 hx3
    obtain ⟨f1_0, f1_1, f1_2, f1_3⟩ := t1_3.facts
    obtain ⟨f2_0, f2_1, f2_2, f2_3⟩ := t2_3.facts
    obtain ⟨f3_0, f3_1, f3_2, f3_3⟩ := t3_3.facts
    go_wp2_with fail
    refine (H4.out _).mono ?_
    rintro r v4 ⟨rfl, hx4⟩
    clear f1_0 f1_1 f1_2 f1_3 f2_0 f2_1 f2_2 f2_3 f3_0 f3_1 f3_2 f3_3
    have t1_4 := t1_3.below hx4 t1_3.lt
    clear t1_3
    have t2_4 := t2_3.below hx4 t2_3.lt
    clear t2_3
    have t3_4 := t3_3.below hx4 t3_3.lt
    clear t3_3
    have hb4 := hb3.trans (hx4.mono hb3.size)
    clear hb3 hx4
    obtain ⟨f1_0, f1_1, f1_2, f1_3⟩ := t1_4.facts
    obtain ⟨f2_0, f2_1, f2_2, f2_3⟩ := t2_4.facts
    obtain ⟨f3_0, f3_1, f3_2, f3_3⟩ := t3_4.facts
    go_wp2_with fail
    refine (H5.out _).mono ?_
    rintro r v5 ⟨rfl, hx5⟩
    clear f1_0 f1_1 f1_2 f1_3 f2_0 f2_1 f2_2 f2_3 f3_0 f3_1 f3_2 f3_3
    have t1_5 := t1_4.below hx5 t1_4.lt
    clear t1_4
    have t2_5 := t2_4.below hx5 t2_4.lt
    clear t2_4
    have t3_5 := t3_4.below hx5 t3_4.lt
    clear t3_4
    have hb5 := hb4.trans (hx5.mono hb4.size)
    clear hb4 hx5
    obtain ⟨f1_0, f1_1, f1_2, f1_3⟩ := t1_5.facts
    obtain ⟨f2_0, f2_1, f2_2, f2_3⟩ := t2_5.facts
    obtain ⟨f3_0, f3_1, f3_2, f3_3⟩ := t3_5.facts
    go_wp2_with fail
    refine (H6.out _).mono ?_
    rintro r v6 ⟨rfl, hx6⟩
    clear f1_0 f1_1 f1_2 f1_3 f2_0 f2_1 f2_2 f2_3 f3_0 f3_1 f3_2 f3_3
    have t1_6 := t1_5.below hx6 t1_5.lt
    clear t1_5
    have t2_6 := t2_5.below hx6 t2_5.lt
    clear t2_5
    have t3_6 := t3_5.below hx6 t3_5.lt
    clear t3_5
    have hb6 := hb5.trans (hx6.mono hb5.size)
    clear hb5 hx6
    obtain ⟨f1_0, f1_1, f1_2, f1_3⟩ := t1_6.facts
    obtain ⟨f2_0, f2_1, f2_2, f2_3⟩ := t2_6.facts
    obtain ⟨f3_0, f3_1, f3_2, f3_3⟩ := t3_6.facts
    go_wp2_with fail
    refine (H7.out _).mono ?_
    rintro r v7 ⟨rfl, hx7⟩
    clear f1_0 f1_1 f1_2 f1_3 f2_0 f2_1 f2_2 f2_3 f3_0 f3_1 f3_2 f3_3
    have t1_7 := t1_6.below hx7 t1_6.lt
    clear t1_6
    have t2_7 := t2_6.below hx7 t2_6.lt
    clear t2_6
    have t3_7 := t3_6.below hx7 t3_6.lt
    clear t3_6
    have hb7 := hb6.trans (hx7.mono hb6.size)
    clear hb6 hx7
    obtain ⟨f1_0, f1_1, f1_2, f1_3⟩ := t1_7.facts
    obtain ⟨f2_0, f2_1, f2_2, f2_3⟩ := t2_7.facts
    obtain ⟨f3_0, f3_1, f3_2, f3_3⟩ := t3_7.facts
    go_wp2_with fail
    refine (H8.out _).mono ?_
    rintro r v8 ⟨rfl, hx8⟩
    clear f1_0 f1_1 f1_2 f1_3 f2_0 f2_1 f2_2 f2_3 f3_0 f3_1 f3_2 f3_3
    have t1_8 := t1_7.below hx8 t1_7.lt
    clear t1_7
    have t2_8 := t2_7.below hx8 t2_7.lt
    clear t2_7
    have t3_8 := t3_7.below hx8 t3_7.lt
    clear t3_7
    have hb8 := hb7.trans (hx8.mono hb7.size)
    clear hb7 hx8
    obtain ⟨f1_0, f1_1, f1_2, f1_3⟩ := t1_8.facts
    obtain ⟨f2_0, f2_1, f2_2, f2_3⟩ := t2_8.facts
    obtain ⟨f3_0, f3_1, f3_2, f3_3⟩ := t3_8.facts
    go_wp2_with fail
    go_ret
    exact ⟨rfl, hb8⟩
end Go.Proofs.Ytbkeennjoepmmaa.Ge
