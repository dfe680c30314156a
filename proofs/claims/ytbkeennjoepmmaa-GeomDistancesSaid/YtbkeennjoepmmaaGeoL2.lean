/- The walk of GeomDistances. -/
import Derived.Test.YtbkeennjoepmmaaGeoInv
import Derived.Test.YtbkeennjoepmmaaGeoW5
import Derived.Test.YtbkeennjoepmmaaGeoH
import Derived.Test.YtbkeennjoepmmaaGeoLaw
namespace Go.Proofs.Ytbkeennjoepmmaa.Ge
set_option linter.unusedVariables false
set_option linter.unusedSimpArgs false
open Go.RowKit
open Go.Proofs.Ytbkeennjoepmmaa.Fr (Two)

set_option maxRecDepth 100000 in
set_option maxHeartbeats 8000000 in
theorem lawDistances (px py qx qy rx ry : Int) (hpx1 : -9223372036854775808 ≤ px) (hpx2 : px ≤ 9223372036854775807) (hpy1 : -9223372036854775808 ≤ py) (hpy2 : py ≤ 9223372036854775807) (hqx1 : -9223372036854775808 ≤ qx) (hqx2 : qx ≤ 9223372036854775807) (hqy1 : -9223372036854775808 ≤ qy) (hqy2 : qy ≤ 9223372036854775807) (hrx1 : -9223372036854775808 ≤ rx) (hrx2 : rx ≤ 9223372036854775807) (hry1 : -9223372036854775808 ≤ ry) (hry2 : ry ≤ 9223372036854775807) (w : World) :
    Calls Try.prog 5 #[.agg #[.int .i64 px, .int .i64 py], .agg #[.int .i64 qx, .int .i64 qy], .agg #[.int .i64 rx, .int .i64 ry]] w fun e w' => e = .returned (.bool true) ∧ Below w.heap.size w w' := by
  have HG1 := Lib.hid (fun w => grid_any px py w hpx1 hpx2 hpy1 hpy2)
  have hon1 := on_mod px py
  generalize px % 32768 = ax at *
  generalize py % 32768 = ay at *
  have HG2 := Lib.hid (fun w => grid_any qx qy w hqx1 hqx2 hqy1 hqy2)
  have hon2 := on_mod qx qy
  generalize qx % 32768 = bx at *
  generalize qy % 32768 = bz at *
  have HG3 := Lib.hid (fun w => grid_any rx ry w hrx1 hrx2 hry1 hry2)
  have hon3 := on_mod rx ry
  generalize rx % 32768 = cx at *
  generalize ry % 32768 = cy at *
  have b0_0 := Two.at (w := w) (B := w.heap.size) (by simp) 23 (.int .i64 px) (.int .i64 py)
  have b1_1 := Two.at (w := (w.alloc (.cells #[.int .i64 px, .int .i64 py] 23))) (B := w.heap.size + 1) (by simp) 23 (.int .i64 qx) (.int .i64 qy)
  have b0_1 := b0_0.alloc (.cells #[.int .i64 qx, .int .i64 qy] 23)
  have b2_2 := Two.at (w := ((w.alloc (.cells #[.int .i64 px, .int .i64 py] 23)).alloc (.cells #[.int .i64 qx, .int .i64 qy] 23))) (B := w.heap.size + 1 + 1) (by simp) 23 (.int .i64 rx) (.int .i64 ry)
  have b0_2 := b0_1.alloc (.cells #[.int .i64 rx, .int .i64 ry] 23)
  have b1_2 := b1_1.alloc (.cells #[.int .i64 rx, .int .i64 ry] 23)
  have hb0 : Below w.heap.size w _ := ((((Below.refl w.heap.size w).alloc (by simp <;> omega) (.cells #[.int .i64 px, .int .i64 py] 23)).alloc (by simp <;> omega) (.cells #[.int .i64 qx, .int .i64 qy] 23)).alloc (by simp <;> omega) (.cells #[.int .i64 rx, .int .i64 ry] 23))
  go_enter Try.func5, Try.ntmps5
  go_wp2_with fail
  refine (head_any _).mono ?_
  rintro r W ⟨rfl, hb1⟩
  have r0 := b0_2.below hb1 b0_2.lt
  have r1 := b1_2.below hb1 b1_2.lt
  have r2 := b2_2.below hb1 b2_2.lt
  have hbW := hb0.trans (hb1.mono hb0.size)
  clear b0_0 b0_1 b1_1 b0_2 b1_2 b2_2 hb0 hb1
  go_upto_region 2 with fail
  have hS : ∀ w' : World, Below W.heap.size W w' → (w'.cell? ⟨w.heap.size, 0, none⟩ = some (.int .i64 px) ∧ w'.cell? ⟨w.heap.size, 1, none⟩ = some (.int .i64 py)) ∧ (w'.cell? ⟨w.heap.size + 1, 0, none⟩ = some (.int .i64 qx) ∧ w'.cell? ⟨w.heap.size + 1, 1, none⟩ = some (.int .i64 qy)) ∧ (w'.cell? ⟨w.heap.size + 1 + 1, 0, none⟩ = some (.int .i64 rx) ∧ w'.cell? ⟨w.heap.size + 1 + 1, 1, none⟩ = some (.int .i64 ry)) := fun w' hb => ⟨two_of r0 hb, two_of r1 hb, two_of r2 hb⟩
  go_cut [8, 9, 10] (fun v1 v2 v3 wx => GridAt3 W ax ay bx bz cx cy v1 v2 v3 wx)
  case first =>
    refine wp_region_held_drew (S := fun w' => (w'.cell? ⟨w.heap.size, 0, none⟩ = some (.int .i64 px) ∧ w'.cell? ⟨w.heap.size, 1, none⟩ = some (.int .i64 py)) ∧ (w'.cell? ⟨w.heap.size + 1, 0, none⟩ = some (.int .i64 qx) ∧ w'.cell? ⟨w.heap.size + 1, 1, none⟩ = some (.int .i64 qy)) ∧ (w'.cell? ⟨w.heap.size + 1 + 1, 0, none⟩ = some (.int .i64 rx) ∧ w'.cell? ⟨w.heap.size + 1 + 1, 1, none⟩ = some (.int .i64 ry))) (by kernel_rfl) (hS _ (Below.refl _ _).drew) (fun hHeld => ?_)
    refine wpAnyH_take (i := 0) (oi := { dst := some 16, op := Op.load 23 (Operand.tmp 3), type := 23, pos := _, after := #[], guard := none }) (v := .agg #[.int .i64 px, .int .i64 py]) rfl (by kernel_rfl) (by kernel_rfl) (by kernel_rfl) (fun _ _ _ h => h) (Or.inl ⟨by rfl, ?_⟩) (by assumption) ?_
    · intro w' hSw; (try dsimp only at hSw); go_simp
    simp only [Act.put, List.setIfInBounds_toArray, List.set_cons_zero, List.set_cons_succ]
    refine wpAnyH_take (i := 2) (oi := { dst := some 18, op := Op.load 23 (Operand.tmp 4), type := 23, pos := _, after := #[], guard := none }) (v := .agg #[.int .i64 qx, .int .i64 qy]) rfl (by kernel_rfl) (by kernel_rfl) (by kernel_rfl) (fun _ _ _ h => h) (Or.inl ⟨by rfl, ?_⟩) (by assumption) ?_
    · intro w' hSw; (try dsimp only at hSw); go_simp
    simp only [Act.put, List.setIfInBounds_toArray, List.set_cons_zero, List.set_cons_succ]
    refine wpAnyH_take (i := 4) (oi := { dst := some 20, op := Op.load 23 (Operand.tmp 5), type := 23, pos := _, after := #[], guard := none }) (v := .agg #[.int .i64 rx, .int .i64 ry]) rfl (by kernel_rfl) (by kernel_rfl) (by kernel_rfl) (fun _ _ _ h => h) (Or.inl ⟨by rfl, ?_⟩) (by assumption) ?_
    · intro w' hSw; (try dsimp only at hSw); go_simp
    simp only [Act.put, List.setIfInBounds_toArray, List.set_cons_zero, List.set_cons_succ]
    refine Ri.inv_any (I := fun L a x => ∃ (b1 b2 b3 m1 m2 m3 : Bool) (Y1 Y2 Y3 X1 X2 X3 : Value) (B1 B2 B3 : Nat), L = #[true, b1, true, b2, true, b3, m1, m2, m3, false, false, false] ∧ a = { tmps := #[.agg #[.int .i64 px, .int .i64 py], .agg #[.int .i64 qx, .int .i64 qy], .agg #[.int .i64 rx, .int .i64 ry], .pointer (some ⟨w.heap.size, 0, none⟩), .pointer (some ⟨w.heap.size + 1, 0, none⟩), .pointer (some ⟨w.heap.size + 1 + 1, 0, none⟩), .bool false, .bool true, X1, X2, X3, undef, undef, undef, undef, .bool true, .agg #[.int .i64 px, .int .i64 py], Y1, .agg #[.int .i64 qx, .int .i64 qy], Y2, .agg #[.int .i64 rx, .int .i64 ry], Y3, undef, undef, undef, undef, undef, undef, undef, undef, undef, undef, undef, undef, undef, undef, undef, undef, undef, undef, undef, undef, undef, undef, undef, undef, undef, undef, undef, undef, undef, undef, undef, undef, undef, undef, undef, undef, undef, undef, undef, undef, undef, undef, undef, undef, undef, undef, undef, undef, undef, undef, undef, undef, undef, undef, undef, undef, undef], defers := [] } ∧ Inv3 W x (.agg #[.int .i64 ax, .int .i64 ay]) (.agg #[.int .i64 bx, .int .i64 bz]) (.agg #[.int .i64 cx, .int .i64 cy]) b1 b2 b3 m1 m2 m3 Y1 Y2 Y3 X1 X2 X3 B1 B2 B3) (f0 := 3) ?_ ?_ 6 _ _ _ (by decide) ⟨false, false, false, false, false, false, _, _, _, _, _, _, 0, 0, 0, rfl, rfl, Inv3.start _ _ _ _ _ _ _ _ _ _⟩ hHeld
    · rintro L a x ⟨b1, b2, b3, m1, m2, m3, Y1, Y2, Y3, X1, X2, X3, B1, B2, B3, rfl, rfl, hI⟩ hS' hn
      obtain ⟨rfl, rfl, rfl, rfl, rfl, rfl⟩ := Ri.full3 hn
      obtain rfl := hI.y1 rfl
      obtain rfl := hI.y2 rfl
      obtain rfl := hI.y3 rfl
      obtain ⟨rfl, l1, t1⟩ := hI.x1 rfl
      obtain ⟨rfl, l2, t2⟩ := hI.x2 rfl
      obtain ⟨rfl, l3, t3⟩ := hI.x3 rfl
      have d12 := hI.d12 rfl rfl
      have d13 := hI.d13 rfl rfl
      have d23 := hI.d23 rfl rfl
      have hb2 := hI.below
      clear hI hn hHeld hS'
      obtain ⟨c1, c2, c3, c4⟩ := t1.facts
      refine wpAnyH_ready (rs := [9]) (by kernel_rfl) (by simp) ?_
      refine AllReadyH.cons rfl (fun K hK => ?_) AllReadyH.nil
      go_simp
      have hb2_0 := set2_below hb2 l1 (.int .i64 ax) (.int .i64 ay)
      have t1_0 := two_set2 t1 (.int .i64 ax) (.int .i64 ay)
      have t2_0 := two_keep2 (C := B1) t2 (.int .i64 ax) (.int .i64 ay) (Ne.symm d12)
      have t3_0 := two_keep2 (C := B1) t3 (.int .i64 ax) (.int .i64 ay) (Ne.symm d13)
      refine hK.out _ _ (hS _ hb2_0) (fun hHeld => ?_)
      clear hK K c1 c2 c3 c4 hHeld
      obtain ⟨c1, c2, c3, c4⟩ := t2_0.facts
      refine wpAnyH_ready (rs := [10]) (by kernel_rfl) (by simp) ?_
      refine AllReadyH.cons rfl (fun K hK => ?_) AllReadyH.nil
      go_simp
      have hb2_1 := set2_below hb2_0 l2 (.int .i64 bx) (.int .i64 bz)
      have t1_1 := two_keep2 (C := B2) t1_0 (.int .i64 bx) (.int .i64 bz) d12
      have t2_1 := two_set2 t2_0 (.int .i64 bx) (.int .i64 bz)
      have t3_1 := two_keep2 (C := B2) t3_0 (.int .i64 bx) (.int .i64 bz) (Ne.symm d23)
      refine hK.out _ _ (hS _ hb2_1) (fun hHeld => ?_)
      clear hK K c1 c2 c3 c4 hHeld
      obtain ⟨c1, c2, c3, c4⟩ := t3_1.facts
      refine wpAnyH_ready (rs := [11]) (by kernel_rfl) (by simp) ?_
      refine AllReadyH.cons rfl (fun K hK => ?_) AllReadyH.nil
      go_simp
      have hb2_2 := set2_below hb2_1 l3 (.int .i64 cx) (.int .i64 cy)
      have t1_2 := two_keep2 (C := B3) t1_1 (.int .i64 cx) (.int .i64 cy) d13
      have t2_2 := two_keep2 (C := B3) t2_1 (.int .i64 cx) (.int .i64 cy) d23
      have t3_2 := two_set2 t3_1 (.int .i64 cx) (.int .i64 cy)
      refine hK.out _ _ (hS _ hb2_2) (fun hHeld => ?_)
      clear hK K c1 c2 c3 c4 hHeld
      refine wpAnyH_done (by kernel_rfl) ?_ _
      go_wp2_with fail
      go_meet
      exact ⟨_, _, _, rfl, rfl, rfl, t1_2, t2_2, t3_2, hb2_2⟩
    · rintro L a x ⟨b1, b2, b3, m1, m2, m3, Y1, Y2, Y3, X1, X2, X3, B1, B2, B3, rfl, rfl, hI⟩ hS' hn
      obtain ⟨hne, hi⟩ := Ri.ready3 (by kernel_rfl) hI.o1 hI.o2 hn
      refine ⟨hne, fun i hm => ?_⟩
      rcases hi i hm with ⟨rfl, rfl⟩ | ⟨rfl, rfl, hp⟩ | ⟨rfl, rfl, hp⟩ | ⟨rfl, rfl⟩ | ⟨rfl, rfl⟩ | ⟨rfl, rfl⟩
      all_goals clear hi hm hne hn
      · refine Ri.step_shut rfl (fun K hK => ?_)
        go_simp
        go_at_call 24
        refine (HG1.out _).mono ?_
        rintro r x' ⟨rfl, hx⟩
        go_simp
        refine hK.out _ _ (hS _ (hI.below.trans (hx.mono hI.below.size))) ⟨true, b2, b3, m1, m2, m3, _, Y2, Y3, X1, X2, X3, B1, B2, B3, rfl, rfl, hI.call1 hx⟩
      · refine Ri.step_shut rfl (fun K hK => ?_)
        go_simp
        go_at_call 24
        refine (HG2.out _).mono ?_
        rintro r x' ⟨rfl, hx⟩
        go_simp
        refine hK.out _ _ (hS _ (hI.below.trans (hx.mono hI.below.size))) ⟨_, true, b3, m1, m2, m3, Y1, _, Y3, X1, X2, X3, B1, B2, B3, rfl, rfl, hI.call2 hp hx⟩
      · refine Ri.step_shut rfl (fun K hK => ?_)
        go_simp
        go_at_call 24
        refine (HG3.out _).mono ?_
        rintro r x' ⟨rfl, hx⟩
        go_simp
        refine hK.out _ _ (hS _ (hI.below.trans (hx.mono hI.below.size))) ⟨b1, _, true, m1, m2, m3, Y1, Y2, _, X1, X2, X3, B1, B2, B3, rfl, rfl, hI.call3 hp hx⟩
      · refine Ri.step_shut rfl (fun K hK => ?_)
        go_simp
        refine hK.out _ _ (hS _ (hI.below.alloc hI.below.size _)) ⟨b1, b2, b3, true, m2, m3, Y1, Y2, Y3, _, X2, X3, _, B2, B3, rfl, rfl, hI.made1⟩
      · refine Ri.step_shut rfl (fun K hK => ?_)
        go_simp
        refine hK.out _ _ (hS _ (hI.below.alloc hI.below.size _)) ⟨b1, b2, b3, m1, true, m3, Y1, Y2, Y3, X1, _, X3, B1, _, B3, rfl, rfl, hI.made2⟩
      · refine Ri.step_shut rfl (fun K hK => ?_)
        go_simp
        refine hK.out _ _ (hS _ (hI.below.alloc hI.below.size _)) ⟨b1, b2, b3, m1, m2, true, Y1, Y2, Y3, X1, X2, _, B1, B2, _, rfl, rfl, hI.made3⟩
  case rest =>
    obtain ⟨B1, B2, B3, rfl, rfl, rfl, t1, t2, t3, hbx⟩ := hcut
    have hbY := hbW.trans (hbx.mono hbW.size)
    clear hS hbx hbW r0 r1 r2 HG1 HG2 HG3
    have HN := Lib.hid (fun w => Dist_any ax ay bx bz w)
    have HN2 := Lib.hid (fun w => Dist_any bx bz ax ay w)
    have HX := Lib.hid (fun w => Dist_any ax ay cx cy w)
    have HY := Lib.hid (fun w => Dist_any cx cy bx bz w)
    rw [dist_on hon1 hon2] at HN
    rw [dist_on hon2 hon1, dist_symm ax ay bx bz] at HN2
    rw [dist_on hon1 hon3] at HX
    rw [dist_on hon3 hon2] at HY
    have hd := distances (ax := ax) (ay := ay) (bx := bx) (bz := bz) (cx := cx) (cy := cy) rfl rfl rfl
    have bn := dist_bd hon1 hon2
    have bx_ := dist_bd hon1 hon3
    have by_ := dist_bd hon3 hon2
    have hz : ax = bx ∧ ay = bz → distN ax ay bx bz = 0 := by rintro ⟨rfl, rfl⟩; exact dist_self _ _
    have hz2 : distN ax ay bx bz = 0 → ax = bx ∧ ay = bz := dist_zero
    have hxy : distN ax ay cx cy = 0 → distN cx cy bx bz = distN ax ay bx bz := by intro k; obtain ⟨rfl, rfl⟩ := dist_zero k; rfl
    clear hon1 hon2 hon3
    generalize distN ax ay bx bz = n at *
    generalize distN ax ay cx cy = x at *
    generalize distN cx cy bx bz = y at *
    have q1 : (n != n) = false := by simp
    by_cases hab : ax = bx ∧ ay = bz
    · have hn := hz hab
      subst hn
      obtain ⟨rfl, rfl⟩ := hab
      have hle : (0 : Int) ≤ x + y := by omega
      clear hd hz hz2 hxy
      have q2 : (ax == ax) = true := by simp
      have q3 : (ay == ay) = true := by simp
      obtain ⟨f1_0, f1_1, f1_2, f1_3⟩ := t1.facts
      obtain ⟨f2_0, f2_1, f2_2, f2_3⟩ := t2.facts
      obtain ⟨f3_0, f3_1, f3_2, f3_3⟩ := t3.facts
      go_wp2_with fail
      refine (HN.out _).mono ?_
      rintro r v1 ⟨rfl, hx1⟩
      clear f1_0 f1_1 f1_2 f1_3 f2_0 f2_1 f2_2 f2_3 f3_0 f3_1 f3_2 f3_3
      have t1_1 := t1.below hx1 t1.lt
      clear t1
      have t2_1 := t2.below hx1 t2.lt
      clear t2
      have t3_1 := t3.below hx1 t3.lt
      clear t3
      have hb1 := hbY.trans (hx1.mono hbY.size)
      clear hbY hx1
      obtain ⟨f1_0, f1_1, f1_2, f1_3⟩ := t1_1.facts
      obtain ⟨f2_0, f2_1, f2_2, f2_3⟩ := t2_1.facts
      obtain ⟨f3_0, f3_1, f3_2, f3_3⟩ := t3_1.facts
      go_wp2_with fail
      refine (HN2.out _).mono ?_
      rintro r v2 ⟨rfl, hx2⟩
      clear f1_0 f1_1 f1_2 f1_3 f2_0 f2_1 f2_2 f2_3 f3_0 f3_1 f3_2 f3_3
      have t1_2 := t1_1.below hx2 t1_1.lt
      clear t1_1
      have t2_2 := t2_1.below hx2 t2_1.lt
      clear t2_1
      have t3_2 := t3_1.below hx2 t3_1.lt
      clear t3_1
      have hb2 := hb1.trans (hx2.mono hb1.size)
      clear hb1 hx2
      obtain ⟨f1_0, f1_1, f1_2, f1_3⟩ := t1_2.facts
      obtain ⟨f2_0, f2_1, f2_2, f2_3⟩ := t2_2.facts
      obtain ⟨f3_0, f3_1, f3_2, f3_3⟩ := t3_2.facts
      go_upto_region 6 with fail
      clear f1_0 f1_1 f1_2 f1_3 f2_0 f2_1 f2_2 f2_3 f3_0 f3_1 f3_2 f3_3
      have hS : ∀ w' : World, Below v2.heap.size v2 w' → (w'.cell? ⟨B1, 0, none⟩ = some (.int .i64 ax) ∧ w'.cell? ⟨B1, 1, none⟩ = some (.int .i64 ay)) ∧ (w'.cell? ⟨B2, 0, none⟩ = some (.int .i64 ax) ∧ w'.cell? ⟨B2, 1, none⟩ = some (.int .i64 ay)) ∧ (w'.cell? ⟨B3, 0, none⟩ = some (.int .i64 cx) ∧ w'.cell? ⟨B3, 1, none⟩ = some (.int .i64 cy)) := fun w' hb => ⟨two_of t1_2 hb, two_of t2_2 hb, two_of t3_2 hb⟩
      have hr := Below.refl v2.heap.size v2
      go_region_held3 (fun w' => (w'.cell? ⟨B1, 0, none⟩ = some (.int .i64 ax) ∧ w'.cell? ⟨B1, 1, none⟩ = some (.int .i64 ay)) ∧ (w'.cell? ⟨B2, 0, none⟩ = some (.int .i64 ax) ∧ w'.cell? ⟨B2, 1, none⟩ = some (.int .i64 ay)) ∧ (w'.cell? ⟨B3, 0, none⟩ = some (.int .i64 cx) ∧ w'.cell? ⟨B3, 1, none⟩ = some (.int .i64 cy)))
        (first | (with_reducible exact hS _ hr.drew) | (with_reducible refine hS _ ?_; with_reducible assumption))
        (first
          | (go_at_call 18; have hz := hy1; refine (HY.out _).mono ?_; rintro r y2 ⟨rfl, hy2'⟩; have hy2 : Below v2.heap.size v2 y2 := hy1.trans (hy2'.mono hy1.size))
          | (go_at_call 18; refine (HX.out _).mono ?_; rintro r y1 ⟨rfl, hy1'⟩; have hy1 : Below v2.heap.size v2 y1 := hr.drew.trans hy1'))
      all_goals
        have t1_3 := t1_2.below hy2 t1_2.lt
        have t2_3 := t2_2.below hy2 t2_2.lt
        have t3_3 := t3_2.below hy2 t3_2.lt
        have hb3 := hb2.trans (hy2.mono hb2.size)
        obtain ⟨f1_0, f1_1, f1_2, f1_3⟩ := t1_3.facts
        obtain ⟨f2_0, f2_1, f2_2, f2_3⟩ := t2_3.facts
        obtain ⟨f3_0, f3_1, f3_2, f3_3⟩ := t3_3.facts
        go_wp2_with fail
        go_ret
        exact ⟨rfl, hb3⟩
    · have hn0 : (n == 0) = false := by simp only [beq_eq_false_iff_ne, ne_eq]; exact fun k => hab (hz2 k)
      have hne : (ax == bx) = false ∨ ax = bx ∧ (ay == bz) = false := by
        simp only [beq_eq_false_iff_ne, ne_eq]
        omega
      clear hz hz2 hab
      by_cases hle : n ≤ x + y
      · clear hd hxy
        rcases hne with hne | ⟨rfl, hne⟩
        · obtain ⟨f1_0, f1_1, f1_2, f1_3⟩ := t1.facts
          obtain ⟨f2_0, f2_1, f2_2, f2_3⟩ := t2.facts
          obtain ⟨f3_0, f3_1, f3_2, f3_3⟩ := t3.facts
          go_wp2_with fail
          refine (HN.out _).mono ?_
          rintro r v4 ⟨rfl, hx4⟩
          clear f1_0 f1_1 f1_2 f1_3 f2_0 f2_1 f2_2 f2_3 f3_0 f3_1 f3_2 f3_3
          have t1_4 := t1.below hx4 t1.lt
          clear t1
          have t2_4 := t2.below hx4 t2.lt
          clear t2
          have t3_4 := t3.below hx4 t3.lt
          clear t3
          have hb4 := hbY.trans (hx4.mono hbY.size)
          clear hbY hx4
          obtain ⟨f1_0, f1_1, f1_2, f1_3⟩ := t1_4.facts
          obtain ⟨f2_0, f2_1, f2_2, f2_3⟩ := t2_4.facts
          obtain ⟨f3_0, f3_1, f3_2, f3_3⟩ := t3_4.facts
          go_wp2_with fail
          refine (HN2.out _).mono ?_
          rintro r v5 ⟨rfl, hx5⟩
          clear f1_0 f1_1 f1_2 f1_3 f2_0 f2_1 f2_2 f2_3 f3_0 f3_1 f3_2 f3_3
          have t1_5 := t1_4.below hx5 t1_4.lt
          clear t1_4
          have t2_5 := t2_4.below hx5 t2_4.lt
          clear t2_4
          have t3_5 := t3_4.below hx5 t3_4.lt
          clear t3_4
          have hb5 := hb4.trans (hx5.mono hb4.size)
          clear hb4 hx5
          obtain ⟨f1_0, f1_1, f1_2, f1_3⟩ := t1_5.facts
          obtain ⟨f2_0, f2_1, f2_2, f2_3⟩ := t2_5.facts
          obtain ⟨f3_0, f3_1, f3_2, f3_3⟩ := t3_5.facts
          go_upto_region 6 with fail
          clear f1_0 f1_1 f1_2 f1_3 f2_0 f2_1 f2_2 f2_3 f3_0 f3_1 f3_2 f3_3
          have hS : ∀ w' : World, Below v5.heap.size v5 w' → (w'.cell? ⟨B1, 0, none⟩ = some (.int .i64 ax) ∧ w'.cell? ⟨B1, 1, none⟩ = some (.int .i64 ay)) ∧ (w'.cell? ⟨B2, 0, none⟩ = some (.int .i64 bx) ∧ w'.cell? ⟨B2, 1, none⟩ = some (.int .i64 bz)) ∧ (w'.cell? ⟨B3, 0, none⟩ = some (.int .i64 cx) ∧ w'.cell? ⟨B3, 1, none⟩ = some (.int .i64 cy)) := fun w' hb => ⟨two_of t1_5 hb, two_of t2_5 hb, two_of t3_5 hb⟩
          have hr := Below.refl v5.heap.size v5
          go_region_held3 (fun w' => (w'.cell? ⟨B1, 0, none⟩ = some (.int .i64 ax) ∧ w'.cell? ⟨B1, 1, none⟩ = some (.int .i64 ay)) ∧ (w'.cell? ⟨B2, 0, none⟩ = some (.int .i64 bx) ∧ w'.cell? ⟨B2, 1, none⟩ = some (.int .i64 bz)) ∧ (w'.cell? ⟨B3, 0, none⟩ = some (.int .i64 cx) ∧ w'.cell? ⟨B3, 1, none⟩ = some (.int .i64 cy)))
            (first | (with_reducible exact hS _ hr.drew) | (with_reducible refine hS _ ?_; with_reducible assumption))
            (first
              | (go_at_call 18; have hz := hy1; refine (HY.out _).mono ?_; rintro r y2 ⟨rfl, hy2'⟩; have hy2 : Below v5.heap.size v5 y2 := hy1.trans (hy2'.mono hy1.size))
              | (go_at_call 18; refine (HX.out _).mono ?_; rintro r y1 ⟨rfl, hy1'⟩; have hy1 : Below v5.heap.size v5 y1 := hr.drew.trans hy1'))
          all_goals
            have t1_6 := t1_5.below hy2 t1_5.lt
            have t2_6 := t2_5.below hy2 t2_5.lt
            have t3_6 := t3_5.below hy2 t3_5.lt
            have hb6 := hb5.trans (hy2.mono hb5.size)
            obtain ⟨f1_0, f1_1, f1_2, f1_3⟩ := t1_6.facts
            obtain ⟨f2_0, f2_1, f2_2, f2_3⟩ := t2_6.facts
            obtain ⟨f3_0, f3_1, f3_2, f3_3⟩ := t3_6.facts
            go_wp2_with fail
            go_ret
            exact ⟨rfl, hb6⟩
        · obtain ⟨f1_0, f1_1, f1_2, f1_3⟩ := t1.facts
          obtain ⟨f2_0, f2_1, f2_2, f2_3⟩ := t2.facts
          obtain ⟨f3_0, f3_1, f3_2, f3_3⟩ := t3.facts
          go_wp2_with fail
          refine (HN.out _).mono ?_
          rintro r v7 ⟨rfl, hx7⟩
          clear f1_0 f1_1 f1_2 f1_3 f2_0 f2_1 f2_2 f2_3 f3_0 f3_1 f3_2 f3_3
          have t1_7 := t1.below hx7 t1.lt
          clear t1
          have t2_7 := t2.below hx7 t2.lt
          clear t2
          have t3_7 := t3.below hx7 t3.lt
          clear t3
          have hb7 := hbY.trans (hx7.mono hbY.size)
          clear hbY hx7
          obtain ⟨f1_0, f1_1, f1_2, f1_3⟩ := t1_7.facts
          obtain ⟨f2_0, f2_1, f2_2, f2_3⟩ := t2_7.facts
          obtain ⟨f3_0, f3_1, f3_2, f3_3⟩ := t3_7.facts
          go_wp2_with fail
          refine (HN2.out _).mono ?_
          rintro r v8 ⟨rfl, hx8⟩
          clear f1_0 f1_1 f1_2 f1_3 f2_0 f2_1 f2_2 f2_3 f3_0 f3_1 f3_2 f3_3
          have t1_8 := t1_7.below hx8 t1_7.lt
          clear t1_7
          have t2_8 := t2_7.below hx8 t2_7.lt
          clear t2_7
          have t3_8 := t3_7.below hx8 t3_7.lt
          clear t3_7
          have hb8 := hb7.trans (hx8.mono hb7.size)
          clear hb7 hx8
          obtain ⟨f1_0, f1_1, f1_2, f1_3⟩ := t1_8.facts
          obtain ⟨f2_0, f2_1, f2_2, f2_3⟩ := t2_8.facts
          obtain ⟨f3_0, f3_1, f3_2, f3_3⟩ := t3_8.facts
          go_upto_region 6 with fail
          clear f1_0 f1_1 f1_2 f1_3 f2_0 f2_1 f2_2 f2_3 f3_0 f3_1 f3_2 f3_3
          have hS : ∀ w' : World, Below v8.heap.size v8 w' → (w'.cell? ⟨B1, 0, none⟩ = some (.int .i64 ax) ∧ w'.cell? ⟨B1, 1, none⟩ = some (.int .i64 ay)) ∧ (w'.cell? ⟨B2, 0, none⟩ = some (.int .i64 ax) ∧ w'.cell? ⟨B2, 1, none⟩ = some (.int .i64 bz)) ∧ (w'.cell? ⟨B3, 0, none⟩ = some (.int .i64 cx) ∧ w'.cell? ⟨B3, 1, none⟩ = some (.int .i64 cy)) := fun w' hb => ⟨two_of t1_8 hb, two_of t2_8 hb, two_of t3_8 hb⟩
          have hr := Below.refl v8.heap.size v8
          go_region_held3 (fun w' => (w'.cell? ⟨B1, 0, none⟩ = some (.int .i64 ax) ∧ w'.cell? ⟨B1, 1, none⟩ = some (.int .i64 ay)) ∧ (w'.cell? ⟨B2, 0, none⟩ = some (.int .i64 ax) ∧ w'.cell? ⟨B2, 1, none⟩ = some (.int .i64 bz)) ∧ (w'.cell? ⟨B3, 0, none⟩ = some (.int .i64 cx) ∧ w'.cell? ⟨B3, 1, none⟩ = some (.int .i64 cy)))
            (first | (with_reducible exact hS _ hr.drew) | (with_reducible refine hS _ ?_; with_reducible assumption))
            (first
              | (go_at_call 18; have hz := hy1; refine (HY.out _).mono ?_; rintro r y2 ⟨rfl, hy2'⟩; have hy2 : Below v8.heap.size v8 y2 := hy1.trans (hy2'.mono hy1.size))
              | (go_at_call 18; refine (HX.out _).mono ?_; rintro r y1 ⟨rfl, hy1'⟩; have hy1 : Below v8.heap.size v8 y1 := hr.drew.trans hy1'))
          all_goals
            have t1_9 := t1_8.below hy2 t1_8.lt
            have t2_9 := t2_8.below hy2 t2_8.lt
            have t3_9 := t3_8.below hy2 t3_8.lt
            have hb9 := hb8.trans (hy2.mono hb8.size)
            obtain ⟨f1_0, f1_1, f1_2, f1_3⟩ := t1_9.facts
            obtain ⟨f2_0, f2_1, f2_2, f2_3⟩ := t2_9.facts
            obtain ⟨f3_0, f3_1, f3_2, f3_3⟩ := t3_9.facts
            go_wp2_with fail
            go_ret
            exact ⟨rfl, hb9⟩
      · have hle2 : decide (n ≤ x + y) = false := by simpa using hle
        have hx0 : 0 < x := by
          have := bx_.1
          by_cases k : x = 0
          · have := hxy k
            omega
          · omega
        generalize hV : n - x - y = V at *
        have hV0 : 0 ≤ V := by omega
        have hV1 : V ≤ 2147352578 := by omega
        have m1 := mul_bd (a := V) (b := V) (m := 2147352578) (k := 2147352578) (by omega) hV1 (by omega) hV1 (by decide) (by decide)
        have m2 := mul_bd (a := x) (b := y) (m := 2147352578) (k := 2147352578) (by omega) (by omega) (by omega) (by omega) (by decide) (by decide)
        have m3 := sq_nonneg V
        have w1 : IntKind.i64.wrap (V * V) = V * V := by rw [IntKind.wrap_i64]; omega
        have w2 : IntKind.i64.wrap (x * y) = x * y := by rw [IntKind.wrap_i64]; omega
        clear hxy hle
        rcases hne with hne | ⟨rfl, hne⟩
        · obtain ⟨f1_0, f1_1, f1_2, f1_3⟩ := t1.facts
          obtain ⟨f2_0, f2_1, f2_2, f2_3⟩ := t2.facts
          obtain ⟨f3_0, f3_1, f3_2, f3_3⟩ := t3.facts
          go_wp2_with fail
          refine (HN.out _).mono ?_
          rintro r v10 ⟨rfl, hx10⟩
          clear f1_0 f1_1 f1_2 f1_3 f2_0 f2_1 f2_2 f2_3 f3_0 f3_1 f3_2 f3_3
          have t1_10 := t1.below hx10 t1.lt
          clear t1
          have t2_10 := t2.below hx10 t2.lt
          clear t2
          have t3_10 := t3.below hx10 t3.lt
          clear t3
          have hb10 := hbY.trans (hx10.mono hbY.size)
          clear hbY hx10
          obtain ⟨f1_0, f1_1, f1_2, f1_3⟩ := t1_10.facts
          obtain ⟨f2_0, f2_1, f2_2, f2_3⟩ := t2_10.facts
          obtain ⟨f3_0, f3_1, f3_2, f3_3⟩ := t3_10.facts
          go_wp2_with fail
          refine (HN2.out _).mono ?_
          rintro r v11 ⟨rfl, hx11⟩
          clear f1_0 f1_1 f1_2 f1_3 f2_0 f2_1 f2_2 f2_3 f3_0 f3_1 f3_2 f3_3
          have t1_11 := t1_10.below hx11 t1_10.lt
          clear t1_10
          have t2_11 := t2_10.below hx11 t2_10.lt
          clear t2_10
          have t3_11 := t3_10.below hx11 t3_10.lt
          clear t3_10
          have hb11 := hb10.trans (hx11.mono hb10.size)
          clear hb10 hx11
          obtain ⟨f1_0, f1_1, f1_2, f1_3⟩ := t1_11.facts
          obtain ⟨f2_0, f2_1, f2_2, f2_3⟩ := t2_11.facts
          obtain ⟨f3_0, f3_1, f3_2, f3_3⟩ := t3_11.facts
          go_upto_region 6 with fail
          clear f1_0 f1_1 f1_2 f1_3 f2_0 f2_1 f2_2 f2_3 f3_0 f3_1 f3_2 f3_3
          have hS : ∀ w' : World, Below v11.heap.size v11 w' → (w'.cell? ⟨B1, 0, none⟩ = some (.int .i64 ax) ∧ w'.cell? ⟨B1, 1, none⟩ = some (.int .i64 ay)) ∧ (w'.cell? ⟨B2, 0, none⟩ = some (.int .i64 bx) ∧ w'.cell? ⟨B2, 1, none⟩ = some (.int .i64 bz)) ∧ (w'.cell? ⟨B3, 0, none⟩ = some (.int .i64 cx) ∧ w'.cell? ⟨B3, 1, none⟩ = some (.int .i64 cy)) := fun w' hb => ⟨two_of t1_11 hb, two_of t2_11 hb, two_of t3_11 hb⟩
          have hr := Below.refl v11.heap.size v11
          go_region_held3 (fun w' => (w'.cell? ⟨B1, 0, none⟩ = some (.int .i64 ax) ∧ w'.cell? ⟨B1, 1, none⟩ = some (.int .i64 ay)) ∧ (w'.cell? ⟨B2, 0, none⟩ = some (.int .i64 bx) ∧ w'.cell? ⟨B2, 1, none⟩ = some (.int .i64 bz)) ∧ (w'.cell? ⟨B3, 0, none⟩ = some (.int .i64 cx) ∧ w'.cell? ⟨B3, 1, none⟩ = some (.int .i64 cy)))
            (first | (with_reducible exact hS _ hr.drew) | (with_reducible refine hS _ ?_; with_reducible assumption))
            (first
              | (go_at_call 18; have hz := hy1; refine (HY.out _).mono ?_; rintro r y2 ⟨rfl, hy2'⟩; have hy2 : Below v11.heap.size v11 y2 := hy1.trans (hy2'.mono hy1.size))
              | (go_at_call 18; refine (HX.out _).mono ?_; rintro r y1 ⟨rfl, hy1'⟩; have hy1 : Below v11.heap.size v11 y1 := hr.drew.trans hy1'))
          all_goals
            have t1_12 := t1_11.below hy2 t1_11.lt
            have t2_12 := t2_11.below hy2 t2_11.lt
            have t3_12 := t3_11.below hy2 t3_11.lt
            have hb12 := hb11.trans (hy2.mono hb11.size)
            obtain ⟨f1_0, f1_1, f1_2, f1_3⟩ := t1_12.facts
            obtain ⟨f2_0, f2_1, f2_2, f2_3⟩ := t2_12.facts
            obtain ⟨f3_0, f3_1, f3_2, f3_3⟩ := t3_12.facts
            go_wp2_with fail
            go_ret
            exact ⟨rfl, hb12⟩
        · obtain ⟨f1_0, f1_1, f1_2, f1_3⟩ := t1.facts
          obtain ⟨f2_0, f2_1, f2_2, f2_3⟩ := t2.facts
          obtain ⟨f3_0, f3_1, f3_2, f3_3⟩ := t3.facts
          go_wp2_with fail
          refine (HN.out _).mono ?_
          rintro r v13 ⟨rfl, hx13⟩
          clear f1_0 f1_1 f1_2 f1_3 f2_0 f2_1 f2_2 f2_3 f3_0 f3_1 f3_2 f3_3
          have t1_13 := t1.below hx13 t1.lt
          clear t1
          have t2_13 := t2.below hx13 t2.lt
          clear t2
          have t3_13 := t3.below hx13 t3.lt
          clear t3
          have hb13 := hbY.trans (hx13.mono hbY.size)
          clear hbY hx13
          obtain ⟨f1_0, f1_1, f1_2, f1_3⟩ := t1_13.facts
          obtain ⟨f2_0, f2_1, f2_2, f2_3⟩ := t2_13.facts
          obtain ⟨f3_0, f3_1, f3_2, f3_3⟩ := t3_13.facts
          go_wp2_with fail
          refine (HN2.out _).mono ?_
          rintro r v14 ⟨rfl, hx14⟩
          clear f1_0 f1_1 f1_2 f1_3 f2_0 f2_1 f2_2 f2_3 f3_0 f3_1 f3_2 f3_3
          have t1_14 := t1_13.below hx14 t1_13.lt
          clear t1_13
          have t2_14 := t2_13.below hx14 t2_13.lt
          clear t2_13
          have t3_14 := t3_13.below hx14 t3_13.lt
          clear t3_13
          have hb14 := hb13.trans (hx14.mono hb13.size)
          clear hb13 hx14
          obtain ⟨f1_0, f1_1, f1_2, f1_3⟩ := t1_14.facts
          obtain ⟨f2_0, f2_1, f2_2, f2_3⟩ := t2_14.facts
          obtain ⟨f3_0, f3_1, f3_2, f3_3⟩ := t3_14.facts
          go_upto_region 6 with fail
          clear f1_0 f1_1 f1_2 f1_3 f2_0 f2_1 f2_2 f2_3 f3_0 f3_1 f3_2 f3_3
          have hS : ∀ w' : World, Below v14.heap.size v14 w' → (w'.cell? ⟨B1, 0, none⟩ = some (.int .i64 ax) ∧ w'.cell? ⟨B1, 1, none⟩ = some (.int .i64 ay)) ∧ (w'.cell? ⟨B2, 0, none⟩ = some (.int .i64 ax) ∧ w'.cell? ⟨B2, 1, none⟩ = some (.int .i64 bz)) ∧ (w'.cell? ⟨B3, 0, none⟩ = some (.int .i64 cx) ∧ w'.cell? ⟨B3, 1, none⟩ = some (.int .i64 cy)) := fun w' hb => ⟨two_of t1_14 hb, two_of t2_14 hb, two_of t3_14 hb⟩
          have hr := Below.refl v14.heap.size v14
          go_region_held3 (fun w' => (w'.cell? ⟨B1, 0, none⟩ = some (.int .i64 ax) ∧ w'.cell? ⟨B1, 1, none⟩ = some (.int .i64 ay)) ∧ (w'.cell? ⟨B2, 0, none⟩ = some (.int .i64 ax) ∧ w'.cell? ⟨B2, 1, none⟩ = some (.int .i64 bz)) ∧ (w'.cell? ⟨B3, 0, none⟩ = some (.int .i64 cx) ∧ w'.cell? ⟨B3, 1, none⟩ = some (.int .i64 cy)))
            (first | (with_reducible exact hS _ hr.drew) | (with_reducible refine hS _ ?_; with_reducible assumption))
            (first
              | (go_at_call 18; have hz := hy1; refine (HY.out _).mono ?_; rintro r y2 ⟨rfl, hy2'⟩; have hy2 : Below v14.heap.size v14 y2 := hy1.trans (hy2'.mono hy1.size))
              | (go_at_call 18; refine (HX.out _).mono ?_; rintro r y1 ⟨rfl, hy1'⟩; have hy1 : Below v14.heap.size v14 y1 := hr.drew.trans hy1'))
          all_goals
            have t1_15 := t1_14.below hy2 t1_14.lt
            have t2_15 := t2_14.below hy2 t2_14.lt
            have t3_15 := t3_14.below hy2 t3_14.lt
            have hb15 := hb14.trans (hy2.mono hb14.size)
            obtain ⟨f1_0, f1_1, f1_2, f1_3⟩ := t1_15.facts
            obtain ⟨f2_0, f2_1, f2_2, f2_3⟩ := t2_15.facts
            obtain ⟨f3_0, f3_1, f3_2, f3_3⟩ := t3_15.facts
            go_wp2_with fail
            go_ret
            exact ⟨rfl, hb15⟩
end Go.Proofs.Ytbkeennjoepmmaa.Ge
