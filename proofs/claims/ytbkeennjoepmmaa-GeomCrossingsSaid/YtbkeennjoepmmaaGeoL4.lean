/- The walk of GeomCrossings. -/
import Derived.Test.YtbkeennjoepmmaaGeoInv
import Derived.Test.YtbkeennjoepmmaaGeoW5
import Derived.Test.YtbkeennjoepmmaaGeoH
import Derived.Test.YtbkeennjoepmmaaGeoLaw
namespace Go.Proofs.Ytbkeennjoepmmaa.Ge
set_option linter.unusedVariables false
set_option linter.unusedSimpArgs false
open Go.RowKit
open Go.Proofs.Ytbkeennjoepmmaa.Fr (Two)

set_option maxRecDepth 100000 in
set_option maxHeartbeats 8000000 in
theorem lawCrossings (px py qx qy rx ry sx sy : Int) (hpx1 : -9223372036854775808 ≤ px) (hpx2 : px ≤ 9223372036854775807) (hpy1 : -9223372036854775808 ≤ py) (hpy2 : py ≤ 9223372036854775807) (hqx1 : -9223372036854775808 ≤ qx) (hqx2 : qx ≤ 9223372036854775807) (hqy1 : -9223372036854775808 ≤ qy) (hqy2 : qy ≤ 9223372036854775807) (hrx1 : -9223372036854775808 ≤ rx) (hrx2 : rx ≤ 9223372036854775807) (hry1 : -9223372036854775808 ≤ ry) (hry2 : ry ≤ 9223372036854775807) (hsx1 : -9223372036854775808 ≤ sx) (hsx2 : sx ≤ 9223372036854775807) (hsy1 : -9223372036854775808 ≤ sy) (hsy2 : sy ≤ 9223372036854775807) (w : World) :
    Calls Try.prog 7 #[.agg #[.int .i64 px, .int .i64 py], .agg #[.int .i64 qx, .int .i64 qy], .agg #[.int .i64 rx, .int .i64 ry], .agg #[.int .i64 sx, .int .i64 sy]] w fun e w' => e = .returned (.bool true) ∧ Below w.heap.size w w' := by
  have HG1 := Lib.hid (fun w => grid_any px py w hpx1 hpx2 hpy1 hpy2)
  have hon1 := on_mod px py
  generalize px % 32768 = ax at *
  generalize py % 32768 = ay at *
  have HG2 := Lib.hid (fun w => grid_any qx qy w hqx1 hqx2 hqy1 hqy2)
  have hon2 := on_mod qx qy
  generalize qx % 32768 = bx at *
  generalize qy % 32768 = bz at *
  have HG3 := Lib.hid (fun w => grid_any rx ry w hrx1 hrx2 hry1 hry2)
  have hon3 := on_mod rx ry
  generalize rx % 32768 = cx at *
  generalize ry % 32768 = cy at *
  have HG4 := Lib.hid (fun w => grid_any sx sy w hsx1 hsx2 hsy1 hsy2)
  have hon4 := on_mod sx sy
  generalize sx % 32768 = dx at *
  generalize sy % 32768 = dy at *
  have b0_0 := Two.at (w := w) (B := w.heap.size) (by simp) 23 (.int .i64 px) (.int .i64 py)
  have b1_1 := Two.at (w := (w.alloc (.cells #[.int .i64 px, .int .i64 py] 23))) (B := w.heap.size + 1) (by simp) 23 (.int .i64 qx) (.int .i64 qy)
  have b0_1 := b0_0.alloc (.cells #[.int .i64 qx, .int .i64 qy] 23)
  have b2_2 := Two.at (w := ((w.alloc (.cells #[.int .i64 px, .int .i64 py] 23)).alloc (.cells #[.int .i64 qx, .int .i64 qy] 23))) (B := w.heap.size + 1 + 1) (by simp) 23 (.int .i64 rx) (.int .i64 ry)
  have b0_2 := b0_1.alloc (.cells #[.int .i64 rx, .int .i64 ry] 23)
  have b1_2 := b1_1.alloc (.cells #[.int .i64 rx, .int .i64 ry] 23)
  have b3_3 := Two.at (w := (((w.alloc (.cells #[.int .i64 px, .int .i64 py] 23)).alloc (.cells #[.int .i64 qx, .int .i64 qy] 23)).alloc (.cells #[.int .i64 rx, .int .i64 ry] 23))) (B := w.heap.size + 1 + 1 + 1) (by simp) 23 (.int .i64 sx) (.int .i64 sy)
  have b0_3 := b0_2.alloc (.cells #[.int .i64 sx, .int .i64 sy] 23)
  have b1_3 := b1_2.alloc (.cells #[.int .i64 sx, .int .i64 sy] 23)
  have b2_3 := b2_2.alloc (.cells #[.int .i64 sx, .int .i64 sy] 23)
  have hb0 : Below w.heap.size w _ := (((((Below.refl w.heap.size w).alloc (by simp <;> omega) (.cells #[.int .i64 px, .int .i64 py] 23)).alloc (by simp <;> omega) (.cells #[.int .i64 qx, .int .i64 qy] 23)).alloc (by simp <;> omega) (.cells #[.int .i64 rx, .int .i64 ry] 23)).alloc (by simp <;> omega) (.cells #[.int .i64 sx, .int .i64 sy] 23))
  go_enter Try.func7, Try.ntmps7
  go_wp2_with fail
  refine (head_any _).mono ?_
  rintro r W ⟨rfl, hb1⟩
  have r0 := b0_3.below hb1 b0_3.lt
  have r1 := b1_3.below hb1 b1_3.lt
  have r2 := b2_3.below hb1 b2_3.lt
  have r3 := b3_3.below hb1 b3_3.lt
  have hbW := hb0.trans (hb1.mono hb0.size)
  clear b0_0 b0_1 b1_1 b0_2 b1_2 b2_2 b0_3 b1_3 b2_3 b3_3 hb0 hb1
  go_upto_region 2 with fail
  have hS : ∀ w' : World, Below W.heap.size W w' → (w'.cell? ⟨w.heap.size, 0, none⟩ = some (.int .i64 px) ∧ w'.cell? ⟨w.heap.size, 1, none⟩ = some (.int .i64 py)) ∧ (w'.cell? ⟨w.heap.size + 1, 0, none⟩ = some (.int .i64 qx) ∧ w'.cell? ⟨w.heap.size + 1, 1, none⟩ = some (.int .i64 qy)) ∧ (w'.cell? ⟨w.heap.size + 1 + 1, 0, none⟩ = some (.int .i64 rx) ∧ w'.cell? ⟨w.heap.size + 1 + 1, 1, none⟩ = some (.int .i64 ry)) ∧ (w'.cell? ⟨w.heap.size + 1 + 1 + 1, 0, none⟩ = some (.int .i64 sx) ∧ w'.cell? ⟨w.heap.size + 1 + 1 + 1, 1, none⟩ = some (.int .i64 sy)) := fun w' hb => ⟨two_of r0 hb, two_of r1 hb, two_of r2 hb, two_of r3 hb⟩
  go_cut [10, 11, 12, 13] (fun v1 v2 v3 v4 wx => GridAt4 W ax ay bx bz cx cy dx dy v1 v2 v3 v4 wx)
  case first =>
    refine wp_region_held_drew (S := fun w' => (w'.cell? ⟨w.heap.size, 0, none⟩ = some (.int .i64 px) ∧ w'.cell? ⟨w.heap.size, 1, none⟩ = some (.int .i64 py)) ∧ (w'.cell? ⟨w.heap.size + 1, 0, none⟩ = some (.int .i64 qx) ∧ w'.cell? ⟨w.heap.size + 1, 1, none⟩ = some (.int .i64 qy)) ∧ (w'.cell? ⟨w.heap.size + 1 + 1, 0, none⟩ = some (.int .i64 rx) ∧ w'.cell? ⟨w.heap.size + 1 + 1, 1, none⟩ = some (.int .i64 ry)) ∧ (w'.cell? ⟨w.heap.size + 1 + 1 + 1, 0, none⟩ = some (.int .i64 sx) ∧ w'.cell? ⟨w.heap.size + 1 + 1 + 1, 1, none⟩ = some (.int .i64 sy))) (by kernel_rfl) (hS _ (Below.refl _ _).drew) (fun hHeld => ?_)
    refine wpAnyH_take (i := 0) (oi := { dst := some 18, op := Op.load 23 (Operand.tmp 4), type := 23, pos := _, after := #[], guard := none }) (v := .agg #[.int .i64 px, .int .i64 py]) rfl (by kernel_rfl) (by kernel_rfl) (by kernel_rfl) (fun _ _ _ h => h) (Or.inl ⟨by rfl, ?_⟩) (by assumption) ?_
    · intro w' hSw; (try dsimp only at hSw); go_simp
    simp only [Act.put, List.setIfInBounds_toArray, List.set_cons_zero, List.set_cons_succ]
    refine wpAnyH_take (i := 2) (oi := { dst := some 20, op := Op.load 23 (Operand.tmp 5), type := 23, pos := _, after := #[], guard := none }) (v := .agg #[.int .i64 qx, .int .i64 qy]) rfl (by kernel_rfl) (by kernel_rfl) (by kernel_rfl) (fun _ _ _ h => h) (Or.inl ⟨by rfl, ?_⟩) (by assumption) ?_
    · intro w' hSw; (try dsimp only at hSw); go_simp
    simp only [Act.put, List.setIfInBounds_toArray, List.set_cons_zero, List.set_cons_succ]
    refine wpAnyH_take (i := 4) (oi := { dst := some 22, op := Op.load 23 (Operand.tmp 6), type := 23, pos := _, after := #[], guard := none }) (v := .agg #[.int .i64 rx, .int .i64 ry]) rfl (by kernel_rfl) (by kernel_rfl) (by kernel_rfl) (fun _ _ _ h => h) (Or.inl ⟨by rfl, ?_⟩) (by assumption) ?_
    · intro w' hSw; (try dsimp only at hSw); go_simp
    simp only [Act.put, List.setIfInBounds_toArray, List.set_cons_zero, List.set_cons_succ]
    refine wpAnyH_take (i := 6) (oi := { dst := some 24, op := Op.load 23 (Operand.tmp 7), type := 23, pos := _, after := #[], guard := none }) (v := .agg #[.int .i64 sx, .int .i64 sy]) rfl (by kernel_rfl) (by kernel_rfl) (by kernel_rfl) (fun _ _ _ h => h) (Or.inl ⟨by rfl, ?_⟩) (by assumption) ?_
    · intro w' hSw; (try dsimp only at hSw); go_simp
    simp only [Act.put, List.setIfInBounds_toArray, List.set_cons_zero, List.set_cons_succ]
    refine Ri.inv_any (I := fun L a x => ∃ (b1 b2 b3 b4 m1 m2 m3 m4 : Bool) (Y1 Y2 Y3 Y4 X1 X2 X3 X4 : Value) (B1 B2 B3 B4 : Nat), L = #[true, b1, true, b2, true, b3, true, b4, m1, m2, m3, m4, false, false, false, false] ∧ a = { tmps := #[.agg #[.int .i64 px, .int .i64 py], .agg #[.int .i64 qx, .int .i64 qy], .agg #[.int .i64 rx, .int .i64 ry], .agg #[.int .i64 sx, .int .i64 sy], .pointer (some ⟨w.heap.size, 0, none⟩), .pointer (some ⟨w.heap.size + 1, 0, none⟩), .pointer (some ⟨w.heap.size + 1 + 1, 0, none⟩), .pointer (some ⟨w.heap.size + 1 + 1 + 1, 0, none⟩), .bool false, .bool true, X1, X2, X3, X4, undef, undef, undef, .bool true, .agg #[.int .i64 px, .int .i64 py], Y1, .agg #[.int .i64 qx, .int .i64 qy], Y2, .agg #[.int .i64 rx, .int .i64 ry], Y3, .agg #[.int .i64 sx, .int .i64 sy], Y4, undef, undef, undef, undef, undef, undef, undef, undef, undef, undef, undef, undef, undef, undef, undef, undef, undef, undef, undef, undef, undef, undef, undef, undef, undef, undef, undef, undef, undef, undef, undef, undef, undef, undef, undef, undef, undef, undef, undef, undef, undef, undef, undef, undef, undef, undef, undef, undef, undef, undef, undef, undef, undef, undef, undef, undef, undef, undef, undef, undef, undef, undef, undef, undef, undef, undef, undef, undef, undef, undef, undef, undef, undef, undef, undef, undef, undef, undef, undef, undef, undef, undef, undef], defers := [] } ∧ Inv4 W x (.agg #[.int .i64 ax, .int .i64 ay]) (.agg #[.int .i64 bx, .int .i64 bz]) (.agg #[.int .i64 cx, .int .i64 cy]) (.agg #[.int .i64 dx, .int .i64 dy]) b1 b2 b3 b4 m1 m2 m3 m4 Y1 Y2 Y3 Y4 X1 X2 X3 X4 B1 B2 B3 B4) (f0 := 4) ?_ ?_ 8 _ _ _ (by decide) ⟨false, false, false, false, false, false, false, false, _, _, _, _, _, _, _, _, 0, 0, 0, 0, rfl, rfl, Inv4.start _ _ _ _ _ _ _ _ _ _ _ _ _⟩ hHeld
    · rintro L a x ⟨b1, b2, b3, b4, m1, m2, m3, m4, Y1, Y2, Y3, Y4, X1, X2, X3, X4, B1, B2, B3, B4, rfl, rfl, hI⟩ hS' hn
      obtain ⟨rfl, rfl, rfl, rfl, rfl, rfl, rfl, rfl⟩ := Ri.full4 hn
      obtain rfl := hI.y1 rfl
      obtain rfl := hI.y2 rfl
      obtain rfl := hI.y3 rfl
      obtain rfl := hI.y4 rfl
      obtain ⟨rfl, l1, t1⟩ := hI.x1 rfl
      obtain ⟨rfl, l2, t2⟩ := hI.x2 rfl
      obtain ⟨rfl, l3, t3⟩ := hI.x3 rfl
      obtain ⟨rfl, l4, t4⟩ := hI.x4 rfl
      have d12 := hI.d12 rfl rfl
      have d13 := hI.d13 rfl rfl
      have d14 := hI.d14 rfl rfl
      have d23 := hI.d23 rfl rfl
      have d24 := hI.d24 rfl rfl
      have d34 := hI.d34 rfl rfl
      have hb2 := hI.below
      clear hI hn hHeld hS'
      obtain ⟨c1, c2, c3, c4⟩ := t1.facts
      refine wpAnyH_ready (rs := [12]) (by kernel_rfl) (by simp) ?_
      refine AllReadyH.cons rfl (fun K hK => ?_) AllReadyH.nil
      go_simp
      have hb2_0 := set2_below hb2 l1 (.int .i64 ax) (.int .i64 ay)
      have t1_0 := two_set2 t1 (.int .i64 ax) (.int .i64 ay)
      have t2_0 := two_keep2 (C := B1) t2 (.int .i64 ax) (.int .i64 ay) (Ne.symm d12)
      have t3_0 := two_keep2 (C := B1) t3 (.int .i64 ax) (.int .i64 ay) (Ne.symm d13)
      have t4_0 := two_keep2 (C := B1) t4 (.int .i64 ax) (.int .i64 ay) (Ne.symm d14)
      refine hK.out _ _ (hS _ hb2_0) (fun hHeld => ?_)
      clear hK K c1 c2 c3 c4 hHeld
      obtain ⟨c1, c2, c3, c4⟩ := t2_0.facts
      refine wpAnyH_ready (rs := [13]) (by kernel_rfl) (by simp) ?_
      refine AllReadyH.cons rfl (fun K hK => ?_) AllReadyH.nil
      go_simp
      have hb2_1 := set2_below hb2_0 l2 (.int .i64 bx) (.int .i64 bz)
      have t1_1 := two_keep2 (C := B2) t1_0 (.int .i64 bx) (.int .i64 bz) d12
      have t2_1 := two_set2 t2_0 (.int .i64 bx) (.int .i64 bz)
      have t3_1 := two_keep2 (C := B2) t3_0 (.int .i64 bx) (.int .i64 bz) (Ne.symm d23)
      have t4_1 := two_keep2 (C := B2) t4_0 (.int .i64 bx) (.int .i64 bz) (Ne.symm d24)
      refine hK.out _ _ (hS _ hb2_1) (fun hHeld => ?_)
      clear hK K c1 c2 c3 c4 hHeld
      obtain ⟨c1, c2, c3, c4⟩ := t3_1.facts
      refine wpAnyH_ready (rs := [14]) (by kernel_rfl) (by simp) ?_
      refine AllReadyH.cons rfl (fun K hK => ?_) AllReadyH.nil
      go_simp
      have hb2_2 := set2_below hb2_1 l3 (.int .i64 cx) (.int .i64 cy)
      have t1_2 := two_keep2 (C := B3) t1_1 (.int .i64 cx) (.int .i64 cy) d13
      have t2_2 := two_keep2 (C := B3) t2_1 (.int .i64 cx) (.int .i64 cy) d23
      have t3_2 := two_set2 t3_1 (.int .i64 cx) (.int .i64 cy)
      have t4_2 := two_keep2 (C := B3) t4_1 (.int .i64 cx) (.int .i64 cy) (Ne.symm d34)
      refine hK.out _ _ (hS _ hb2_2) (fun hHeld => ?_)
      clear hK K c1 c2 c3 c4 hHeld
      obtain ⟨c1, c2, c3, c4⟩ := t4_2.facts
      refine wpAnyH_ready (rs := [15]) (by kernel_rfl) (by simp) ?_
      refine AllReadyH.cons rfl (fun K hK => ?_) AllReadyH.nil
      go_simp
      have hb2_3 := set2_below hb2_2 l4 (.int .i64 dx) (.int .i64 dy)
      have t1_3 := two_keep2 (C := B4) t1_2 (.int .i64 dx) (.int .i64 dy) d14
      have t2_3 := two_keep2 (C := B4) t2_2 (.int .i64 dx) (.int .i64 dy) d24
      have t3_3 := two_keep2 (C := B4) t3_2 (.int .i64 dx) (.int .i64 dy) d34
      have t4_3 := two_set2 t4_2 (.int .i64 dx) (.int .i64 dy)
      refine hK.out _ _ (hS _ hb2_3) (fun hHeld => ?_)
      clear hK K c1 c2 c3 c4 hHeld
      refine wpAnyH_done (by kernel_rfl) ?_ _
      go_wp2_with fail
      go_meet
      exact ⟨_, _, _, _, rfl, rfl, rfl, rfl, t1_3, t2_3, t3_3, t4_3, hb2_3⟩
    · rintro L a x ⟨b1, b2, b3, b4, m1, m2, m3, m4, Y1, Y2, Y3, Y4, X1, X2, X3, X4, B1, B2, B3, B4, rfl, rfl, hI⟩ hS' hn
      obtain ⟨hne, hi⟩ := Ri.ready4 (by kernel_rfl) hI.o1 hI.o2 hI.o3 hn
      refine ⟨hne, fun i hm => ?_⟩
      rcases hi i hm with ⟨rfl, rfl⟩ | ⟨rfl, rfl, hp⟩ | ⟨rfl, rfl, hp⟩ | ⟨rfl, rfl, hp⟩ | ⟨rfl, rfl⟩ | ⟨rfl, rfl⟩ | ⟨rfl, rfl⟩ | ⟨rfl, rfl⟩
      all_goals clear hi hm hne hn
      · refine Ri.step_shut rfl (fun K hK => ?_)
        go_simp
        go_at_call 24
        refine (HG1.out _).mono ?_
        rintro r x' ⟨rfl, hx⟩
        go_simp
        refine hK.out _ _ (hS _ (hI.below.trans (hx.mono hI.below.size))) ⟨true, b2, b3, b4, m1, m2, m3, m4, _, Y2, Y3, Y4, X1, X2, X3, X4, B1, B2, B3, B4, rfl, rfl, hI.call1 hx⟩
      · refine Ri.step_shut rfl (fun K hK => ?_)
        go_simp
        go_at_call 24
        refine (HG2.out _).mono ?_
        rintro r x' ⟨rfl, hx⟩
        go_simp
        refine hK.out _ _ (hS _ (hI.below.trans (hx.mono hI.below.size))) ⟨_, true, b3, b4, m1, m2, m3, m4, Y1, _, Y3, Y4, X1, X2, X3, X4, B1, B2, B3, B4, rfl, rfl, hI.call2 hp hx⟩
      · refine Ri.step_shut rfl (fun K hK => ?_)
        go_simp
        go_at_call 24
        refine (HG3.out _).mono ?_
        rintro r x' ⟨rfl, hx⟩
        go_simp
        refine hK.out _ _ (hS _ (hI.below.trans (hx.mono hI.below.size))) ⟨b1, _, true, b4, m1, m2, m3, m4, Y1, Y2, _, Y4, X1, X2, X3, X4, B1, B2, B3, B4, rfl, rfl, hI.call3 hp hx⟩
      · refine Ri.step_shut rfl (fun K hK => ?_)
        go_simp
        go_at_call 24
        refine (HG4.out _).mono ?_
        rintro r x' ⟨rfl, hx⟩
        go_simp
        refine hK.out _ _ (hS _ (hI.below.trans (hx.mono hI.below.size))) ⟨b1, b2, _, true, m1, m2, m3, m4, Y1, Y2, Y3, _, X1, X2, X3, X4, B1, B2, B3, B4, rfl, rfl, hI.call4 hp hx⟩
      · refine Ri.step_shut rfl (fun K hK => ?_)
        go_simp
        refine hK.out _ _ (hS _ (hI.below.alloc hI.below.size _)) ⟨b1, b2, b3, b4, true, m2, m3, m4, Y1, Y2, Y3, Y4, _, X2, X3, X4, _, B2, B3, B4, rfl, rfl, hI.made1⟩
      · refine Ri.step_shut rfl (fun K hK => ?_)
        go_simp
        refine hK.out _ _ (hS _ (hI.below.alloc hI.below.size _)) ⟨b1, b2, b3, b4, m1, true, m3, m4, Y1, Y2, Y3, Y4, X1, _, X3, X4, B1, _, B3, B4, rfl, rfl, hI.made2⟩
      · refine Ri.step_shut rfl (fun K hK => ?_)
        go_simp
        refine hK.out _ _ (hS _ (hI.below.alloc hI.below.size _)) ⟨b1, b2, b3, b4, m1, m2, true, m4, Y1, Y2, Y3, Y4, X1, X2, _, X4, B1, B2, _, B4, rfl, rfl, hI.made3⟩
      · refine Ri.step_shut rfl (fun K hK => ?_)
        go_simp
        refine hK.out _ _ (hS _ (hI.below.alloc hI.below.size _)) ⟨b1, b2, b3, b4, m1, m2, m3, true, Y1, Y2, Y3, Y4, X1, X2, X3, _, B1, B2, B3, _, rfl, rfl, hI.made4⟩
  case rest =>
    obtain ⟨B1, B2, B3, B4, rfl, rfl, rfl, rfl, t1, t2, t3, t4, hbx⟩ := hcut
    have hbY := hbW.trans (hbx.mono hbW.size)
    clear hS hbx hbW r0 r1 r2 r3 HG1 HG2 HG3 HG4
    have HB1 := Lib.hid (fun w => Between_any ax ay cx cy dx dy w)
    have HB2 := Lib.hid (fun w => Between_any bx bz cx cy dx dy w)
    have HB3 := Lib.hid (fun w => Between_any cx cy ax ay bx bz w)
    have HB4 := Lib.hid (fun w => Between_any dx dy ax ay bx bz w)
    have HT1 := Lib.hid (fun w => Turn_any ax ay bx bz cx cy w)
    have HT2 := Lib.hid (fun w => Turn_any ax ay bx bz dx dy w)
    have HT3 := Lib.hid (fun w => Turn_any cx cy dx dy ax ay w)
    have HT4 := Lib.hid (fun w => Turn_any cx cy dx dy bx bz w)
    have HC1 := Lib.hid (fun w => Cross_any ax ay bx bz cx cy dx dy w)
    have HC2 := Lib.hid (fun w => Cross_any cx cy dx dy ax ay bx bz w)
    have HC3 := Lib.hid (fun w => Cross_any bx bz ax ay cx cy dx dy w)
    have HC4 := Lib.hid (fun w => Cross_any ax ay bx bz dx dy cx cy w)
    have e := cross_want hon1 hon2 hon3 hon4
    rw [cross_c hon1 hon2 hon3 hon4] at HC2
    rw [cross_b hon1 hon2 hon3 hon4] at HC3
    rw [cross_d hon1 hon2 hon3 hon4] at HC4
    have n1 : -1 ≤ turnV ax ay bx bz cx cy ∧ turnV ax ay bx bz cx cy ≤ 1 := by rw [turn_on hon1 hon2 hon3]; exact sgn_bd _
    have n2 : -1 ≤ turnV ax ay bx bz dx dy ∧ turnV ax ay bx bz dx dy ≤ 1 := by rw [turn_on hon1 hon2 hon4]; exact sgn_bd _
    have n3 : -1 ≤ turnV cx cy dx dy ax ay ∧ turnV cx cy dx dy ax ay ≤ 1 := by rw [turn_on hon3 hon4 hon1]; exact sgn_bd _
    have n4 : -1 ≤ turnV cx cy dx dy bx bz ∧ turnV cx cy dx dy bx bz ≤ 1 := by rw [turn_on hon3 hon4 hon2]; exact sgn_bd _
    clear hon1 hon2 hon3 hon4
    generalize turnV ax ay bx bz cx cy = N1 at *
    generalize turnV ax ay bx bz dx dy = N2 at *
    generalize turnV cx cy dx dy ax ay = N3 at *
    generalize turnV cx cy dx dy bx bz = N4 at *
    generalize betB ax ay cx cy dx dy = T1 at *
    generalize betB bx bz cx cy dx dy = T2 at *
    generalize betB cx cy ax ay bx bz = T3 at *
    generalize betB dx dy ax ay bx bz = T4 at *
    generalize crossV ax ay bx bz cx cy dx dy = C at *
    have p1 := mul_bd (m := 1) (k := 1) n1.1 n1.2 n2.1 n2.2 (by decide) (by decide)
    have p2 := mul_bd (m := 1) (k := 1) n3.1 n3.2 n4.1 n4.2 (by decide) (by decide)
    have w1 : IntKind.i64.wrap (N1 * N2) = N1 * N2 := by rw [IntKind.wrap_i64]; omega
    have w2 : IntKind.i64.wrap (N3 * N4) = N3 * N4 := by rw [IntKind.wrap_i64]; omega
    have HE := Lib.hid e
    have HW := Lib.hid (And.intro w1 w2)
    clear e n1 n2 n3 n4 p1 p2 w1 w2
    obtain ⟨TT, hTT⟩ : ∃ TT : Bool, (T1 || T2 || T3 || T4) = TT := ⟨_, rfl⟩
    have HTT := Lib.hid hTT
    rw [hTT] at HE
    clear hTT
    go_upto_region 3 with fail
    go_cut [14] (fun v wx => v = .bool TT ∧ Two wx B1 23 (.int .i64 ax) (.int .i64 ay) ∧ Two wx B2 23 (.int .i64 bx) (.int .i64 bz) ∧ Two wx B3 23 (.int .i64 cx) (.int .i64 cy) ∧ Two wx B4 23 (.int .i64 dx) (.int .i64 dy) ∧ Below w.heap.size w wx)
    case first =>
      cases T1 with
      | true =>
        obtain rfl : TT = true := by rw [← HTT.out]; simp
        clear HTT
        obtain ⟨f1_0, f1_1, f1_2, f1_3⟩ := t1.facts
        obtain ⟨f2_0, f2_1, f2_2, f2_3⟩ := t2.facts
        obtain ⟨f3_0, f3_1, f3_2, f3_3⟩ := t3.facts
        obtain ⟨f4_0, f4_1, f4_2, f4_3⟩ := t4.facts
        go_wp2_with fail
        refine (HB1.out _).mono ?_
        rintro r v1 ⟨rfl, hx1⟩
        clear f1_0 f1_1 f1_2 f1_3 f2_0 f2_1 f2_2 f2_3 f3_0 f3_1 f3_2 f3_3 f4_0 f4_1 f4_2 f4_3
        have t1_1 := t1.below hx1 t1.lt
        clear t1
        have t2_1 := t2.below hx1 t2.lt
        clear t2
        have t3_1 := t3.below hx1 t3.lt
        clear t3
        have t4_1 := t4.below hx1 t4.lt
        clear t4
        have hb1 := hbY.trans (hx1.mono hbY.size)
        clear hbY hx1
        obtain ⟨f1_0, f1_1, f1_2, f1_3⟩ := t1_1.facts
        obtain ⟨f2_0, f2_1, f2_2, f2_3⟩ := t2_1.facts
        obtain ⟨f3_0, f3_1, f3_2, f3_3⟩ := t3_1.facts
        obtain ⟨f4_0, f4_1, f4_2, f4_3⟩ := t4_1.facts
        go_wp2_with fail
        clear f1_0 f1_1 f1_2 f1_3 f2_0 f2_1 f2_2 f2_3 f3_0 f3_1 f3_2 f3_3 f4_0 f4_1 f4_2 f4_3
        go_meet
        exact ⟨rfl, t1_1, t2_1, t3_1, t4_1, hb1⟩
      | false =>
        cases T2 with
        | true =>
          obtain rfl : TT = true := by rw [← HTT.out]; simp
          clear HTT
          obtain ⟨f1_0, f1_1, f1_2, f1_3⟩ := t1.facts
          obtain ⟨f2_0, f2_1, f2_2, f2_3⟩ := t2.facts
          obtain ⟨f3_0, f3_1, f3_2, f3_3⟩ := t3.facts
          obtain ⟨f4_0, f4_1, f4_2, f4_3⟩ := t4.facts
          go_wp2_with fail
          refine (HB1.out _).mono ?_
          rintro r v2 ⟨rfl, hx2⟩
          clear f1_0 f1_1 f1_2 f1_3 f2_0 f2_1 f2_2 f2_3 f3_0 f3_1 f3_2 f3_3 f4_0 f4_1 f4_2 f4_3
          have t1_2 := t1.below hx2 t1.lt
          clear t1
          have t2_2 := t2.below hx2 t2.lt
          clear t2
          have t3_2 := t3.below hx2 t3.lt
          clear t3
          have t4_2 := t4.below hx2 t4.lt
          clear t4
          have hb2 := hbY.trans (hx2.mono hbY.size)
          clear hbY hx2
          obtain ⟨f1_0, f1_1, f1_2, f1_3⟩ := t1_2.facts
          obtain ⟨f2_0, f2_1, f2_2, f2_3⟩ := t2_2.facts
          obtain ⟨f3_0, f3_1, f3_2, f3_3⟩ := t3_2.facts
          obtain ⟨f4_0, f4_1, f4_2, f4_3⟩ := t4_2.facts
          go_wp2_with fail
          refine (HB2.out _).mono ?_
          rintro r v3 ⟨rfl, hx3⟩
          clear f1_0 f1_1 f1_2 f1_3 f2_0 f2_1 f2_2 f2_3 f3_0 f3_1 f3_2 f3_3 f4_0 f4_1 f4_2 f4_3
          have t1_3 := t1_2.below hx3 t1_2.lt
          clear t1_2
          have t2_3 := t2_2.below hx3 t2_2.lt
          clear t2_2
          have t3_3 := t3_2.below hx3 t3_2.lt
          clear t3_2
          have t4_3 := t4_2.below hx3 t4_2.lt
          clear t4_2
          have hb3 := hb2.trans (hx3.mono hb2.size)
          clear hb2 hx3
          obtain ⟨f1_0, f1_1, f1_2, f1_3⟩ := t1_3.facts
          obtain ⟨f2_0, f2_1, f2_2, f2_3⟩ := t2_3.facts
          obtain ⟨f3_0, f3_1, f3_2, f3_3⟩ := t3_3.facts
          obtain ⟨f4_0, f4_1, f4_2, f4_3⟩ := t4_3.facts
          go_wp2_with fail
          clear f1_0 f1_1 f1_2 f1_3 f2_0 f2_1 f2_2 f2_3 f3_0 f3_1 f3_2 f3_3 f4_0 f4_1 f4_2 f4_3
          go_meet
          exact ⟨rfl, t1_3, t2_3, t3_3, t4_3, hb3⟩
        | false =>
          cases T3 with
          | true =>
            obtain rfl : TT = true := by rw [← HTT.out]; simp
            clear HTT
            obtain ⟨f1_0, f1_1, f1_2, f1_3⟩ := t1.facts
            obtain ⟨f2_0, f2_1, f2_2, f2_3⟩ := t2.facts
            obtain ⟨f3_0, f3_1, f3_2, f3_3⟩ := t3.facts
            obtain ⟨f4_0, f4_1, f4_2, f4_3⟩ := t4.facts
            go_wp2_with fail
            refine (HB1.out _).mono ?_
            rintro r v4 ⟨rfl, hx4⟩
            clear f1_0 f1_1 f1_2 f1_3 f2_0 f2_1 f2_2 f2_3 f3_0 f3_1 f3_2 f3_3 f4_0 f4_1 f4_2 f4_3
            have t1_4 := t1.below hx4 t1.lt
            clear t1
            have t2_4 := t2.below hx4 t2.lt
            clear t2
            have t3_4 := t3.below hx4 t3.lt
            clear t3
            have t4_4 := t4.below hx4 t4.lt
            clear t4
            have hb4 := hbY.trans (hx4.mono hbY.size)
            clear hbY hx4
            obtain ⟨f1_0, f1_1, f1_2, f1_3⟩ := t1_4.facts
            obtain ⟨f2_0, f2_1, f2_2, f2_3⟩ := t2_4.facts
            obtain ⟨f3_0, f3_1, f3_2, f3_3⟩ := t3_4.facts
            obtain ⟨f4_0, f4_1, f4_2, f4_3⟩ := t4_4.facts
            go_wp2_with fail
            refine (HB2.out _).mono ?_
            rintro r v5 ⟨rfl, hx5⟩
            clear f1_0 f1_1 f1_2 f1_3 f2_0 f2_1 f2_2 f2_3 f3_0 f3_1 f3_2 f3_3 f4_0 f4_1 f4_2 f4_3
            have t1_5 := t1_4.below hx5 t1_4.lt
            clear t1_4
            have t2_5 := t2_4.below hx5 t2_4.lt
            clear t2_4
            have t3_5 := t3_4.below hx5 t3_4.lt
            clear t3_4
            have t4_5 := t4_4.below hx5 t4_4.lt
            clear t4_4
            have hb5 := hb4.trans (hx5.mono hb4.size)
            clear hb4 hx5
            obtain ⟨f1_0, f1_1, f1_2, f1_3⟩ := t1_5.facts
            obtain ⟨f2_0, f2_1, f2_2, f2_3⟩ := t2_5.facts
            obtain ⟨f3_0, f3_1, f3_2, f3_3⟩ := t3_5.facts
            obtain ⟨f4_0, f4_1, f4_2, f4_3⟩ := t4_5.facts
            go_wp2_with fail
            refine (HB3.out _).mono ?_
            rintro r v6 ⟨rfl, hx6⟩
            clear f1_0 f1_1 f1_2 f1_3 f2_0 f2_1 f2_2 f2_3 f3_0 f3_1 f3_2 f3_3 f4_0 f4_1 f4_2 f4_3
            have t1_6 := t1_5.below hx6 t1_5.lt
            clear t1_5
            have t2_6 := t2_5.below hx6 t2_5.lt
            clear t2_5
            have t3_6 := t3_5.below hx6 t3_5.lt
            clear t3_5
            have t4_6 := t4_5.below hx6 t4_5.lt
            clear t4_5
            have hb6 := hb5.trans (hx6.mono hb5.size)
            clear hb5 hx6
            obtain ⟨f1_0, f1_1, f1_2, f1_3⟩ := t1_6.facts
            obtain ⟨f2_0, f2_1, f2_2, f2_3⟩ := t2_6.facts
            obtain ⟨f3_0, f3_1, f3_2, f3_3⟩ := t3_6.facts
            obtain ⟨f4_0, f4_1, f4_2, f4_3⟩ := t4_6.facts
            go_wp2_with fail
            clear f1_0 f1_1 f1_2 f1_3 f2_0 f2_1 f2_2 f2_3 f3_0 f3_1 f3_2 f3_3 f4_0 f4_1 f4_2 f4_3
            go_meet
            exact ⟨rfl, t1_6, t2_6, t3_6, t4_6, hb6⟩
          | false =>
            cases T4 with
            | true =>
              obtain rfl : TT = true := by rw [← HTT.out]; simp
              clear HTT
              obtain ⟨f1_0, f1_1, f1_2, f1_3⟩ := t1.facts
              obtain ⟨f2_0, f2_1, f2_2, f2_3⟩ := t2.facts
              obtain ⟨f3_0, f3_1, f3_2, f3_3⟩ := t3.facts
              obtain ⟨f4_0, f4_1, f4_2, f4_3⟩ := t4.facts
              go_wp2_with fail
              refine (HB1.out _).mono ?_
              rintro r v7 ⟨rfl, hx7⟩
              clear f1_0 f1_1 f1_2 f1_3 f2_0 f2_1 f2_2 f2_3 f3_0 f3_1 f3_2 f3_3 f4_0 f4_1 f4_2 f4_3
              have t1_7 := t1.below hx7 t1.lt
              clear t1
              have t2_7 := t2.below hx7 t2.lt
              clear t2
              have t3_7 := t3.below hx7 t3.lt
              clear t3
              have t4_7 := t4.below hx7 t4.lt
              clear t4
              have hb7 := hbY.trans (hx7.mono hbY.size)
              clear hbY hx7
              obtain ⟨f1_0, f1_1, f1_2, f1_3⟩ := t1_7.facts
              obtain ⟨f2_0, f2_1, f2_2, f2_3⟩ := t2_7.facts
              obtain ⟨f3_0, f3_1, f3_2, f3_3⟩ := t3_7.facts
              obtain ⟨f4_0, f4_1, f4_2, f4_3⟩ := t4_7.facts
              go_wp2_with fail
              refine (HB2.out _).mono ?_
              rintro r v8 ⟨rfl, hx8⟩
              clear f1_0 f1_1 f1_2 f1_3 f2_0 f2_1 f2_2 f2_3 f3_0 f3_1 f3_2 f3_3 f4_0 f4_1 f4_2 f4_3
              have t1_8 := t1_7.below hx8 t1_7.lt
              clear t1_7
              have t2_8 := t2_7.below hx8 t2_7.lt
              clear t2_7
              have t3_8 := t3_7.below hx8 t3_7.lt
              clear t3_7
              have t4_8 := t4_7.below hx8 t4_7.lt
              clear t4_7
              have hb8 := hb7.trans (hx8.mono hb7.size)
              clear hb7 hx8
              obtain ⟨f1_0, f1_1, f1_2, f1_3⟩ := t1_8.facts
              obtain ⟨f2_0, f2_1, f2_2, f2_3⟩ := t2_8.facts
              obtain ⟨f3_0, f3_1, f3_2, f3_3⟩ := t3_8.facts
              obtain ⟨f4_0, f4_1, f4_2, f4_3⟩ := t4_8.facts
              go_wp2_with fail
              refine (HB3.out _).mono ?_
              rintro r v9 ⟨rfl, hx9⟩
              clear f1_0 f1_1 f1_2 f1_3 f2_0 f2_1 f2_2 f2_3 f3_0 f3_1 f3_2 f3_3 f4_0 f4_1 f4_2 f4_3
              have t1_9 := t1_8.below hx9 t1_8.lt
              clear t1_8
              have t2_9 := t2_8.below hx9 t2_8.lt
              clear t2_8
              have t3_9 := t3_8.below hx9 t3_8.lt
              clear t3_8
              have t4_9 := t4_8.below hx9 t4_8.lt
              clear t4_8
              have hb9 := hb8.trans (hx9.mono hb8.size)
              clear hb8 hx9
              obtain ⟨f1_0, f1_1, f1_2, f1_3⟩ := t1_9.facts
              obtain ⟨f2_0, f2_1, f2_2, f2_3⟩ := t2_9.facts
              obtain ⟨f3_0, f3_1, f3_2, f3_3⟩ := t3_9.facts
              obtain ⟨f4_0, f4_1, f4_2, f4_3⟩ := t4_9.facts
              go_wp2_with fail
              refine (HB4.out _).mono ?_
              rintro r v10 ⟨rfl, hx10⟩
              clear f1_0 f1_1 f1_2 f1_3 f2_0 f2_1 f2_2 f2_3 f3_0 f3_1 f3_2 f3_3 f4_0 f4_1 f4_2 f4_3
              have t1_10 := t1_9.below hx10 t1_9.lt
              clear t1_9
              have t2_10 := t2_9.below hx10 t2_9.lt
              clear t2_9
              have t3_10 := t3_9.below hx10 t3_9.lt
              clear t3_9
              have t4_10 := t4_9.below hx10 t4_9.lt
              clear t4_9
              have hb10 := hb9.trans (hx10.mono hb9.size)
              clear hb9 hx10
              obtain ⟨f1_0, f1_1, f1_2, f1_3⟩ := t1_10.facts
              obtain ⟨f2_0, f2_1, f2_2, f2_3⟩ := t2_10.facts
              obtain ⟨f3_0, f3_1, f3_2, f3_3⟩ := t3_10.facts
              obtain ⟨f4_0, f4_1, f4_2, f4_3⟩ := t4_10.facts
              go_wp2_with fail
              clear f1_0 f1_1 f1_2 f1_3 f2_0 f2_1 f2_2 f2_3 f3_0 f3_1 f3_2 f3_3 f4_0 f4_1 f4_2 f4_3
              go_meet
              exact ⟨rfl, t1_10, t2_10, t3_10, t4_10, hb10⟩
            | false =>
              obtain rfl : TT = false := by rw [← HTT.out]; simp
              clear HTT
              obtain ⟨f1_0, f1_1, f1_2, f1_3⟩ := t1.facts
              obtain ⟨f2_0, f2_1, f2_2, f2_3⟩ := t2.facts
              obtain ⟨f3_0, f3_1, f3_2, f3_3⟩ := t3.facts
              obtain ⟨f4_0, f4_1, f4_2, f4_3⟩ := t4.facts
              go_wp2_with fail
              refine (HB1.out _).mono ?_
              rintro r v11 ⟨rfl, hx11⟩
              clear f1_0 f1_1 f1_2 f1_3 f2_0 f2_1 f2_2 f2_3 f3_0 f3_1 f3_2 f3_3 f4_0 f4_1 f4_2 f4_3
              have t1_11 := t1.below hx11 t1.lt
              clear t1
              have t2_11 := t2.below hx11 t2.lt
              clear t2
              have t3_11 := t3.below hx11 t3.lt
              clear t3
              have t4_11 := t4.below hx11 t4.lt
              clear t4
              have hb11 := hbY.trans (hx11.mono hbY.size)
              clear hbY hx11
              obtain ⟨f1_0, f1_1, f1_2, f1_3⟩ := t1_11.facts
              obtain ⟨f2_0, f2_1, f2_2, f2_3⟩ := t2_11.facts
              obtain ⟨f3_0, f3_1, f3_2, f3_3⟩ := t3_11.facts
              obtain ⟨f4_0, f4_1, f4_2, f4_3⟩ := t4_11.facts
              go_wp2_with fail
              refine (HB2.out _).mono ?_
              rintro r v12 ⟨rfl, hx12⟩
              clear f1_0 f1_1 f1_2 f1_3 f2_0 f2_1 f2_2 f2_3 f3_0 f3_1 f3_2 f3_3 f4_0 f4_1 f4_2 f4_3
              have t1_12 := t1_11.below hx12 t1_11.lt
              clear t1_11
              have t2_12 := t2_11.below hx12 t2_11.lt
              clear t2_11
              have t3_12 := t3_11.below hx12 t3_11.lt
              clear t3_11
              have t4_12 := t4_11.below hx12 t4_11.lt
              clear t4_11
              have hb12 := hb11.trans (hx12.mono hb11.size)
              clear hb11 hx12
              obtain ⟨f1_0, f1_1, f1_2, f1_3⟩ := t1_12.facts
              obtain ⟨f2_0, f2_1, f2_2, f2_3⟩ := t2_12.facts
              obtain ⟨f3_0, f3_1, f3_2, f3_3⟩ := t3_12.facts
              obtain ⟨f4_0, f4_1, f4_2, f4_3⟩ := t4_12.facts
              go_wp2_with fail
              refine (HB3.out _).mono ?_
              rintro r v13 ⟨rfl, hx13⟩
              clear f1_0 f1_1 f1_2 f1_3 f2_0 f2_1 f2_2 f2_3 f3_0 f3_1 f3_2 f3_3 f4_0 f4_1 f4_2 f4_3
              have t1_13 := t1_12.below hx13 t1_12.lt
              clear t1_12
              have t2_13 := t2_12.below hx13 t2_12.lt
              clear t2_12
              have t3_13 := t3_12.below hx13 t3_12.lt
              clear t3_12
              have t4_13 := t4_12.below hx13 t4_12.lt
              clear t4_12
              have hb13 := hb12.trans (hx13.mono hb12.size)
              clear hb12 hx13
              obtain ⟨f1_0, f1_1, f1_2, f1_3⟩ := t1_13.facts
              obtain ⟨f2_0, f2_1, f2_2, f2_3⟩ := t2_13.facts
              obtain ⟨f3_0, f3_1, f3_2, f3_3⟩ := t3_13.facts
              obtain ⟨f4_0, f4_1, f4_2, f4_3⟩ := t4_13.facts
              go_wp2_with fail
              refine (HB4.out _).mono ?_
              rintro r v14 ⟨rfl, hx14⟩
              clear f1_0 f1_1 f1_2 f1_3 f2_0 f2_1 f2_2 f2_3 f3_0 f3_1 f3_2 f3_3 f4_0 f4_1 f4_2 f4_3
              have t1_14 := t1_13.below hx14 t1_13.lt
              clear t1_13
              have t2_14 := t2_13.below hx14 t2_13.lt
              clear t2_13
              have t3_14 := t3_13.below hx14 t3_13.lt
              clear t3_13
              have t4_14 := t4_13.below hx14 t4_13.lt
              clear t4_13
              have hb14 := hb13.trans (hx14.mono hb13.size)
              clear hb13 hx14
              obtain ⟨f1_0, f1_1, f1_2, f1_3⟩ := t1_14.facts
              obtain ⟨f2_0, f2_1, f2_2, f2_3⟩ := t2_14.facts
              obtain ⟨f3_0, f3_1, f3_2, f3_3⟩ := t3_14.facts
              obtain ⟨f4_0, f4_1, f4_2, f4_3⟩ := t4_14.facts
              go_wp2_with fail
              clear f1_0 f1_1 f1_2 f1_3 f2_0 f2_1 f2_2 f2_3 f3_0 f3_1 f3_2 f3_3 f4_0 f4_1 f4_2 f4_3
              go_meet
              exact ⟨rfl, t1_14, t2_14, t3_14, t4_14, hb14⟩
    case rest =>
      clear hbY t1 t2 t3 t4 HTT HB1 HB2 HB3 HB4
      obtain ⟨rfl, t1, t2, t3, t4, hbY⟩ := hcut
      obtain ⟨AA, hAA⟩ : ∃ AA : Bool, (decide (N1 * N2 < 0) && decide (N3 * N4 < 0)) = AA := ⟨_, rfl⟩
      have HAA := Lib.hid hAA
      rw [hAA] at HE
      clear hAA
      go_upto_region 4 with fail
      go_cut [15] (fun v wx => v = .bool AA ∧ Two wx B1 23 (.int .i64 ax) (.int .i64 ay) ∧ Two wx B2 23 (.int .i64 bx) (.int .i64 bz) ∧ Two wx B3 23 (.int .i64 cx) (.int .i64 cy) ∧ Two wx B4 23 (.int .i64 dx) (.int .i64 dy) ∧ Below w.heap.size w wx)
      case first =>
        obtain ⟨w1, w2⟩ := HW.out
        by_cases hP : N1 * N2 < 0
        · have hP1 : decide (N1 * N2 < 0) = true := by simpa using hP
          obtain rfl : AA = decide (N3 * N4 < 0) := by rw [← HAA.out, hP1]; rfl
          clear HAA hP1
          by_cases hQ : N3 * N4 < 0
          · have hQ1 : decide (N3 * N4 < 0) = true := by simpa using hQ
            obtain ⟨f1_0, f1_1, f1_2, f1_3⟩ := t1.facts
            obtain ⟨f2_0, f2_1, f2_2, f2_3⟩ := t2.facts
            obtain ⟨f3_0, f3_1, f3_2, f3_3⟩ := t3.facts
            obtain ⟨f4_0, f4_1, f4_2, f4_3⟩ := t4.facts
            go_upto_region 4 with fail
            clear f1_0 f1_1 f1_2 f1_3 f2_0 f2_1 f2_2 f2_3 f3_0 f3_1 f3_2 f3_3 f4_0 f4_1 f4_2 f4_3
            have hS : ∀ w' : World, Below wc.heap.size wc w' → (w'.cell? ⟨B1, 0, none⟩ = some (.int .i64 ax) ∧ w'.cell? ⟨B1, 1, none⟩ = some (.int .i64 ay)) ∧ (w'.cell? ⟨B2, 0, none⟩ = some (.int .i64 bx) ∧ w'.cell? ⟨B2, 1, none⟩ = some (.int .i64 bz)) ∧ (w'.cell? ⟨B3, 0, none⟩ = some (.int .i64 cx) ∧ w'.cell? ⟨B3, 1, none⟩ = some (.int .i64 cy)) ∧ (w'.cell? ⟨B4, 0, none⟩ = some (.int .i64 dx) ∧ w'.cell? ⟨B4, 1, none⟩ = some (.int .i64 dy)) := fun w' hb => ⟨two_of t1 hb, two_of t2 hb, two_of t3 hb, two_of t4 hb⟩
            have hr := Below.refl wc.heap.size wc
            go_region_held3 (fun w' => (w'.cell? ⟨B1, 0, none⟩ = some (.int .i64 ax) ∧ w'.cell? ⟨B1, 1, none⟩ = some (.int .i64 ay)) ∧ (w'.cell? ⟨B2, 0, none⟩ = some (.int .i64 bx) ∧ w'.cell? ⟨B2, 1, none⟩ = some (.int .i64 bz)) ∧ (w'.cell? ⟨B3, 0, none⟩ = some (.int .i64 cx) ∧ w'.cell? ⟨B3, 1, none⟩ = some (.int .i64 cy)) ∧ (w'.cell? ⟨B4, 0, none⟩ = some (.int .i64 dx) ∧ w'.cell? ⟨B4, 1, none⟩ = some (.int .i64 dy)))
              (first | (with_reducible exact hS _ hr.drew) | (with_reducible refine hS _ ?_; with_reducible assumption))
              (first
                | (go_at_call 16; have hz := hy3; refine (HT4.out _).mono ?_; rintro r y4 ⟨rfl, hy4'⟩; have hy4 : Below wc.heap.size wc y4 := hy3.trans (hy4'.mono hy3.size))
                | (go_at_call 16; have hz := hy2; refine (HT3.out _).mono ?_; rintro r y3 ⟨rfl, hy3'⟩; have hy3 : Below wc.heap.size wc y3 := hy2.trans (hy3'.mono hy2.size))
                | (go_at_call 16; have hz := hy1; refine (HT2.out _).mono ?_; rintro r y2 ⟨rfl, hy2'⟩; have hy2 : Below wc.heap.size wc y2 := hy1.trans (hy2'.mono hy1.size))
                | (go_at_call 16; refine (HT1.out _).mono ?_; rintro r y1 ⟨rfl, hy1'⟩; have hy1 : Below wc.heap.size wc y1 := hr.drew.trans hy1'))
            all_goals
              have t1_15 := t1.below hy4 t1.lt
              have t2_15 := t2.below hy4 t2.lt
              have t3_15 := t3.below hy4 t3.lt
              have t4_15 := t4.below hy4 t4.lt
              have hb15 := hbY.trans (hy4.mono hbY.size)
              go_wp2_with fail
              go_meet
              exact ⟨by first | rfl | simp [hQ1], t1_15, t2_15, t3_15, t4_15, hb15⟩
          · have hQ1 : decide (N3 * N4 < 0) = false := by simpa using hQ
            clear hQ
            obtain ⟨f1_0, f1_1, f1_2, f1_3⟩ := t1.facts
            obtain ⟨f2_0, f2_1, f2_2, f2_3⟩ := t2.facts
            obtain ⟨f3_0, f3_1, f3_2, f3_3⟩ := t3.facts
            obtain ⟨f4_0, f4_1, f4_2, f4_3⟩ := t4.facts
            go_upto_region 4 with fail
            clear f1_0 f1_1 f1_2 f1_3 f2_0 f2_1 f2_2 f2_3 f3_0 f3_1 f3_2 f3_3 f4_0 f4_1 f4_2 f4_3
            have hS : ∀ w' : World, Below wc.heap.size wc w' → (w'.cell? ⟨B1, 0, none⟩ = some (.int .i64 ax) ∧ w'.cell? ⟨B1, 1, none⟩ = some (.int .i64 ay)) ∧ (w'.cell? ⟨B2, 0, none⟩ = some (.int .i64 bx) ∧ w'.cell? ⟨B2, 1, none⟩ = some (.int .i64 bz)) ∧ (w'.cell? ⟨B3, 0, none⟩ = some (.int .i64 cx) ∧ w'.cell? ⟨B3, 1, none⟩ = some (.int .i64 cy)) ∧ (w'.cell? ⟨B4, 0, none⟩ = some (.int .i64 dx) ∧ w'.cell? ⟨B4, 1, none⟩ = some (.int .i64 dy)) := fun w' hb => ⟨two_of t1 hb, two_of t2 hb, two_of t3 hb, two_of t4 hb⟩
            have hr := Below.refl wc.heap.size wc
            go_region_held3 (fun w' => (w'.cell? ⟨B1, 0, none⟩ = some (.int .i64 ax) ∧ w'.cell? ⟨B1, 1, none⟩ = some (.int .i64 ay)) ∧ (w'.cell? ⟨B2, 0, none⟩ = some (.int .i64 bx) ∧ w'.cell? ⟨B2, 1, none⟩ = some (.int .i64 bz)) ∧ (w'.cell? ⟨B3, 0, none⟩ = some (.int .i64 cx) ∧ w'.cell? ⟨B3, 1, none⟩ = some (.int .i64 cy)) ∧ (w'.cell? ⟨B4, 0, none⟩ = some (.int .i64 dx) ∧ w'.cell? ⟨B4, 1, none⟩ = some (.int .i64 dy)))
              (first | (with_reducible exact hS _ hr.drew) | (with_reducible refine hS _ ?_; with_reducible assumption))
              (first
                | (go_at_call 16; have hz := hy3; refine (HT4.out _).mono ?_; rintro r y4 ⟨rfl, hy4'⟩; have hy4 : Below wc.heap.size wc y4 := hy3.trans (hy4'.mono hy3.size))
                | (go_at_call 16; have hz := hy2; refine (HT3.out _).mono ?_; rintro r y3 ⟨rfl, hy3'⟩; have hy3 : Below wc.heap.size wc y3 := hy2.trans (hy3'.mono hy2.size))
                | (go_at_call 16; have hz := hy1; refine (HT2.out _).mono ?_; rintro r y2 ⟨rfl, hy2'⟩; have hy2 : Below wc.heap.size wc y2 := hy1.trans (hy2'.mono hy1.size))
                | (go_at_call 16; refine (HT1.out _).mono ?_; rintro r y1 ⟨rfl, hy1'⟩; have hy1 : Below wc.heap.size wc y1 := hr.drew.trans hy1'))
            all_goals
              have t1_16 := t1.below hy4 t1.lt
              have t2_16 := t2.below hy4 t2.lt
              have t3_16 := t3.below hy4 t3.lt
              have t4_16 := t4.below hy4 t4.lt
              have hb16 := hbY.trans (hy4.mono hbY.size)
              go_wp2_with fail
              go_meet
              exact ⟨by first | rfl | simp [hQ1], t1_16, t2_16, t3_16, t4_16, hb16⟩
        · have hP1 : decide (N1 * N2 < 0) = false := by simpa using hP
          obtain rfl : AA = false := by rw [← HAA.out, hP1]; rfl
          clear HAA hP
          obtain ⟨f1_0, f1_1, f1_2, f1_3⟩ := t1.facts
          obtain ⟨f2_0, f2_1, f2_2, f2_3⟩ := t2.facts
          obtain ⟨f3_0, f3_1, f3_2, f3_3⟩ := t3.facts
          obtain ⟨f4_0, f4_1, f4_2, f4_3⟩ := t4.facts
          go_upto_region 4 with fail
          clear f1_0 f1_1 f1_2 f1_3 f2_0 f2_1 f2_2 f2_3 f3_0 f3_1 f3_2 f3_3 f4_0 f4_1 f4_2 f4_3
          have hS : ∀ w' : World, Below wc.heap.size wc w' → (w'.cell? ⟨B1, 0, none⟩ = some (.int .i64 ax) ∧ w'.cell? ⟨B1, 1, none⟩ = some (.int .i64 ay)) ∧ (w'.cell? ⟨B2, 0, none⟩ = some (.int .i64 bx) ∧ w'.cell? ⟨B2, 1, none⟩ = some (.int .i64 bz)) ∧ (w'.cell? ⟨B3, 0, none⟩ = some (.int .i64 cx) ∧ w'.cell? ⟨B3, 1, none⟩ = some (.int .i64 cy)) ∧ (w'.cell? ⟨B4, 0, none⟩ = some (.int .i64 dx) ∧ w'.cell? ⟨B4, 1, none⟩ = some (.int .i64 dy)) := fun w' hb => ⟨two_of t1 hb, two_of t2 hb, two_of t3 hb, two_of t4 hb⟩
          have hS0 := hS _ (Below.refl wc.heap.size wc).drew
          refine wp_region_held_drew (S := fun w' => (w'.cell? ⟨B1, 0, none⟩ = some (.int .i64 ax) ∧ w'.cell? ⟨B1, 1, none⟩ = some (.int .i64 ay)) ∧ (w'.cell? ⟨B2, 0, none⟩ = some (.int .i64 bx) ∧ w'.cell? ⟨B2, 1, none⟩ = some (.int .i64 bz)) ∧ (w'.cell? ⟨B3, 0, none⟩ = some (.int .i64 cx) ∧ w'.cell? ⟨B3, 1, none⟩ = some (.int .i64 cy)) ∧ (w'.cell? ⟨B4, 0, none⟩ = some (.int .i64 dx) ∧ w'.cell? ⟨B4, 1, none⟩ = some (.int .i64 dy))) (by kernel_rfl) hS0 (fun _ => ?_)
          refine Ri.take_d (i := 0) (v := .agg #[.int .i64 ax, .int .i64 ay]) (some 48) rfl rfl (by kernel_rfl) (by kernel_rfl) (by kernel_rfl) (fun _ _ _ h => h) (Or.inl ⟨by kernel_rfl, ?_⟩) hS0 ?_
          · intro w' hSw; (try dsimp only at hSw); go_simp
          simp only [Act.put, List.setIfInBounds_toArray, List.set_cons_zero, List.set_cons_succ]
          refine Ri.take_d (i := 1) (v := .agg #[.int .i64 bx, .int .i64 bz]) (some 49) rfl rfl (by kernel_rfl) (by kernel_rfl) (by kernel_rfl) (fun _ _ _ h => h) (Or.inl ⟨by kernel_rfl, ?_⟩) hS0 ?_
          · intro w' hSw; (try dsimp only at hSw); go_simp
          simp only [Act.put, List.setIfInBounds_toArray, List.set_cons_zero, List.set_cons_succ]
          refine Ri.take_d (i := 2) (v := .agg #[.int .i64 cx, .int .i64 cy]) (some 50) rfl rfl (by kernel_rfl) (by kernel_rfl) (by kernel_rfl) (fun _ _ _ h => h) (Or.inl ⟨by kernel_rfl, ?_⟩) hS0 ?_
          · intro w' hSw; (try dsimp only at hSw); go_simp
          simp only [Act.put, List.setIfInBounds_toArray, List.set_cons_zero, List.set_cons_succ]
          refine Ri.take_d (i := 4) (v := .agg #[.int .i64 ax, .int .i64 ay]) (some 52) rfl rfl (by kernel_rfl) (by kernel_rfl) (by kernel_rfl) (fun _ _ _ h => h) (Or.inl ⟨by kernel_rfl, ?_⟩) hS0 ?_
          · intro w' hSw; (try dsimp only at hSw); go_simp
          simp only [Act.put, List.setIfInBounds_toArray, List.set_cons_zero, List.set_cons_succ]
          refine Ri.take_d (i := 5) (v := .agg #[.int .i64 bx, .int .i64 bz]) (some 53) rfl rfl (by kernel_rfl) (by kernel_rfl) (by kernel_rfl) (fun _ _ _ h => h) (Or.inl ⟨by kernel_rfl, ?_⟩) hS0 ?_
          · intro w' hSw; (try dsimp only at hSw); go_simp
          simp only [Act.put, List.setIfInBounds_toArray, List.set_cons_zero, List.set_cons_succ]
          refine Ri.take_d (i := 6) (v := .agg #[.int .i64 dx, .int .i64 dy]) (some 54) rfl rfl (by kernel_rfl) (by kernel_rfl) (by kernel_rfl) (fun _ _ _ h => h) (Or.inl ⟨by kernel_rfl, ?_⟩) hS0 ?_
          · intro w' hSw; (try dsimp only at hSw); go_simp
          simp only [Act.put, List.setIfInBounds_toArray, List.set_cons_zero, List.set_cons_succ]
          refine wpAnyH_ready (rs := [3]) (by kernel_rfl) (by simp) ?_
          refine AllReadyH.cons rfl (fun K hK => ?_) AllReadyH.nil
          rw [if_pos (by rfl)]
          go_simp
          go_at_call 16
          refine (HT1.out _).mono ?_
          rintro r y1 ⟨rfl, hy1'⟩
          have hy1 : Below wc.heap.size wc y1 := (Below.refl wc.heap.size wc).drew.trans hy1'
          have hS1 := hS _ hy1
          refine hK.out _ _ hS1 (fun _ => ?_)
          clear hK K
          try simp only [Act.put, List.setIfInBounds_toArray, List.set_cons_zero, List.set_cons_succ]
          refine wpAnyH_ready (rs := [7]) (by kernel_rfl) (by simp) ?_
          refine AllReadyH.cons rfl (fun K hK => ?_) AllReadyH.nil
          rw [if_pos (by rfl)]
          go_simp
          go_at_call 16
          refine (HT2.out _).mono ?_
          rintro r y2 ⟨rfl, hy2'⟩
          have hy2 : Below wc.heap.size wc y2 := hy1.trans (hy2'.mono hy1.size)
          have hS2 := hS _ hy2
          refine hK.out _ _ hS2 (fun _ => ?_)
          clear hK K
          try simp only [Act.put, List.setIfInBounds_toArray, List.set_cons_zero, List.set_cons_succ]
          refine Ri.take_d (i := 8) (v := .int .i64 (N1 * N2)) (some 56) rfl rfl (by kernel_rfl) (by kernel_rfl) (by kernel_rfl) (fun _ _ _ h => h) (Or.inl ⟨by kernel_rfl, ?_⟩) hS2 ?_
          · intro w' hSw; (try dsimp only at hSw); go_simp
          simp only [Act.put, List.setIfInBounds_toArray, List.set_cons_zero, List.set_cons_succ]
          refine Ri.take_d (i := 9) (v := .bool false) (some 57) rfl rfl (by kernel_rfl) (by kernel_rfl) (by kernel_rfl) (fun _ _ _ h => h) (Or.inl ⟨by kernel_rfl, ?_⟩) hS2 ?_
          · intro w' hSw; (try dsimp only at hSw); go_simp
          simp only [Act.put, List.setIfInBounds_toArray, List.set_cons_zero, List.set_cons_succ]
          refine Ri.take_d (i := 10) (v := .bool false) (some 58) rfl rfl (by kernel_rfl) (by kernel_rfl) (by kernel_rfl) (fun _ _ _ h => h) (Or.inl ⟨by kernel_rfl, ?_⟩) hS2 ?_
          · intro w' hSw; (try dsimp only at hSw); go_simp
          simp only [Act.put, List.setIfInBounds_toArray, List.set_cons_zero, List.set_cons_succ]
          refine Ri.take_d (i := 11) (v := undef) (some 59) rfl rfl (by kernel_rfl) (by kernel_rfl) (by kernel_rfl) (fun _ _ _ h => h) (Or.inr ⟨by kernel_rfl, rfl⟩) hS2 ?_
          simp only [Act.put, List.setIfInBounds_toArray, List.set_cons_zero, List.set_cons_succ]
          refine Ri.take_d (i := 12) (v := undef) (some 60) rfl rfl (by kernel_rfl) (by kernel_rfl) (by kernel_rfl) (fun _ _ _ h => h) (Or.inr ⟨by kernel_rfl, rfl⟩) hS2 ?_
          simp only [Act.put, List.setIfInBounds_toArray, List.set_cons_zero, List.set_cons_succ]
          refine Ri.take_d (i := 13) (v := undef) (some 61) rfl rfl (by kernel_rfl) (by kernel_rfl) (by kernel_rfl) (fun _ _ _ h => h) (Or.inr ⟨by kernel_rfl, rfl⟩) hS2 ?_
          simp only [Act.put, List.setIfInBounds_toArray, List.set_cons_zero, List.set_cons_succ]
          refine Ri.take_d (i := 14) (v := undef) (some 62) rfl rfl (by kernel_rfl) (by kernel_rfl) (by kernel_rfl) (fun _ _ _ h => h) (Or.inr ⟨by kernel_rfl, rfl⟩) hS2 ?_
          simp only [Act.put, List.setIfInBounds_toArray, List.set_cons_zero, List.set_cons_succ]
          refine Ri.take_d (i := 15) (v := undef) (some 63) rfl rfl (by kernel_rfl) (by kernel_rfl) (by kernel_rfl) (fun _ _ _ h => h) (Or.inr ⟨by kernel_rfl, rfl⟩) hS2 ?_
          simp only [Act.put, List.setIfInBounds_toArray, List.set_cons_zero, List.set_cons_succ]
          refine Ri.take_d (i := 16) (v := undef) (some 64) rfl rfl (by kernel_rfl) (by kernel_rfl) (by kernel_rfl) (fun _ _ _ h => h) (Or.inr ⟨by kernel_rfl, rfl⟩) hS2 ?_
          simp only [Act.put, List.setIfInBounds_toArray, List.set_cons_zero, List.set_cons_succ]
          refine Ri.take_d (i := 17) (v := undef) (some 65) rfl rfl (by kernel_rfl) (by kernel_rfl) (by kernel_rfl) (fun _ _ _ h => h) (Or.inr ⟨by kernel_rfl, rfl⟩) hS2 ?_
          simp only [Act.put, List.setIfInBounds_toArray, List.set_cons_zero, List.set_cons_succ]
          refine Ri.take_d (i := 18) (v := undef) (some 66) rfl rfl (by kernel_rfl) (by kernel_rfl) (by kernel_rfl) (fun _ _ _ h => h) (Or.inr ⟨by kernel_rfl, rfl⟩) hS2 ?_
          simp only [Act.put, List.setIfInBounds_toArray, List.set_cons_zero, List.set_cons_succ]
          refine Ri.take_d (i := 19) (v := undef) (some 67) rfl rfl (by kernel_rfl) (by kernel_rfl) (by kernel_rfl) (fun _ _ _ h => h) (Or.inr ⟨by kernel_rfl, rfl⟩) hS2 ?_
          simp only [Act.put, List.setIfInBounds_toArray, List.set_cons_zero, List.set_cons_succ]
          refine Ri.take_d (i := 20) (v := undef) (some 68) rfl rfl (by kernel_rfl) (by kernel_rfl) (by kernel_rfl) (fun _ _ _ h => h) (Or.inr ⟨by kernel_rfl, rfl⟩) hS2 ?_
          simp only [Act.put, List.setIfInBounds_toArray, List.set_cons_zero, List.set_cons_succ]
          refine Ri.take_d (i := 21) (v := .bool false) (some 69) rfl rfl (by kernel_rfl) (by kernel_rfl) (by kernel_rfl) (fun _ _ _ h => h) (Or.inl ⟨by kernel_rfl, ?_⟩) hS2 ?_
          · intro w' hSw; (try dsimp only at hSw); go_simp
          simp only [Act.put, List.setIfInBounds_toArray, List.set_cons_zero, List.set_cons_succ]
          refine Ri.take_d (i := 22) (v := .bool false) (some 15) rfl rfl (by kernel_rfl) (by kernel_rfl) (by kernel_rfl) (fun _ _ _ h => h) (Or.inl ⟨by kernel_rfl, ?_⟩) hS2 ?_
          · intro w' hSw; (try dsimp only at hSw); go_simp
          simp only [Act.put, List.setIfInBounds_toArray, List.set_cons_zero, List.set_cons_succ]
          refine wpAnyH_done (by kernel_rfl) ?_ _
          have t1_17 := t1.below hy2 t1.lt
          have t2_17 := t2.below hy2 t2.lt
          have t3_17 := t3.below hy2 t3.lt
          have t4_17 := t4.below hy2 t4.lt
          have hb17 := hbY.trans (hy2.mono hbY.size)
          go_wp2_with fail
          go_meet
          exact ⟨rfl, t1_17, t2_17, t3_17, t4_17, hb17⟩
      case rest =>
        clear hbY t1 t2 t3 t4 HAA HW HT1 HT2 HT3 HT4
        obtain ⟨rfl, t1, t2, t3, t4, hbY⟩ := hcut
        have hcc : (C == C) = true := by simp
        cases TT with
        | true =>
          obtain rfl : C = 1 := by rw [HE.out]; simp
          clear HE
          obtain ⟨f1_0, f1_1, f1_2, f1_3⟩ := t1.facts
          obtain ⟨f2_0, f2_1, f2_2, f2_3⟩ := t2.facts
          obtain ⟨f3_0, f3_1, f3_2, f3_3⟩ := t3.facts
          obtain ⟨f4_0, f4_1, f4_2, f4_3⟩ := t4.facts
          go_wp2_with fail
          refine (HC1.out _).mono ?_
          rintro r v18 ⟨rfl, hx18⟩
          clear f1_0 f1_1 f1_2 f1_3 f2_0 f2_1 f2_2 f2_3 f3_0 f3_1 f3_2 f3_3 f4_0 f4_1 f4_2 f4_3
          have t1_18 := t1.below hx18 t1.lt
          clear t1
          have t2_18 := t2.below hx18 t2.lt
          clear t2
          have t3_18 := t3.below hx18 t3.lt
          clear t3
          have t4_18 := t4.below hx18 t4.lt
          clear t4
          have hb18 := hbY.trans (hx18.mono hbY.size)
          clear hbY hx18
          obtain ⟨f1_0, f1_1, f1_2, f1_3⟩ := t1_18.facts
          obtain ⟨f2_0, f2_1, f2_2, f2_3⟩ := t2_18.facts
          obtain ⟨f3_0, f3_1, f3_2, f3_3⟩ := t3_18.facts
          obtain ⟨f4_0, f4_1, f4_2, f4_3⟩ := t4_18.facts
          go_wp2_with fail
          refine (HC2.out _).mono ?_
          rintro r v19 ⟨rfl, hx19⟩
          clear f1_0 f1_1 f1_2 f1_3 f2_0 f2_1 f2_2 f2_3 f3_0 f3_1 f3_2 f3_3 f4_0 f4_1 f4_2 f4_3
          have t1_19 := t1_18.below hx19 t1_18.lt
          clear t1_18
          have t2_19 := t2_18.below hx19 t2_18.lt
          clear t2_18
          have t3_19 := t3_18.below hx19 t3_18.lt
          clear t3_18
          have t4_19 := t4_18.below hx19 t4_18.lt
          clear t4_18
          have hb19 := hb18.trans (hx19.mono hb18.size)
          clear hb18 hx19
          obtain ⟨f1_0, f1_1, f1_2, f1_3⟩ := t1_19.facts
          obtain ⟨f2_0, f2_1, f2_2, f2_3⟩ := t2_19.facts
          obtain ⟨f3_0, f3_1, f3_2, f3_3⟩ := t3_19.facts
          obtain ⟨f4_0, f4_1, f4_2, f4_3⟩ := t4_19.facts
          go_wp2_with fail
          refine (HC3.out _).mono ?_
          rintro r v20 ⟨rfl, hx20⟩
          clear f1_0 f1_1 f1_2 f1_3 f2_0 f2_1 f2_2 f2_3 f3_0 f3_1 f3_2 f3_3 f4_0 f4_1 f4_2 f4_3
          have t1_20 := t1_19.below hx20 t1_19.lt
          clear t1_19
          have t2_20 := t2_19.below hx20 t2_19.lt
          clear t2_19
          have t3_20 := t3_19.below hx20 t3_19.lt
          clear t3_19
          have t4_20 := t4_19.below hx20 t4_19.lt
          clear t4_19
          have hb20 := hb19.trans (hx20.mono hb19.size)
          clear hb19 hx20
          obtain ⟨f1_0, f1_1, f1_2, f1_3⟩ := t1_20.facts
          obtain ⟨f2_0, f2_1, f2_2, f2_3⟩ := t2_20.facts
          obtain ⟨f3_0, f3_1, f3_2, f3_3⟩ := t3_20.facts
          obtain ⟨f4_0, f4_1, f4_2, f4_3⟩ := t4_20.facts
          go_wp2_with fail
          refine (HC4.out _).mono ?_
          rintro r v21 ⟨rfl, hx21⟩
          clear f1_0 f1_1 f1_2 f1_3 f2_0 f2_1 f2_2 f2_3 f3_0 f3_1 f3_2 f3_3 f4_0 f4_1 f4_2 f4_3
          have t1_21 := t1_20.below hx21 t1_20.lt
          clear t1_20
          have t2_21 := t2_20.below hx21 t2_20.lt
          clear t2_20
          have t3_21 := t3_20.below hx21 t3_20.lt
          clear t3_20
          have t4_21 := t4_20.below hx21 t4_20.lt
          clear t4_20
          have hb21 := hb20.trans (hx21.mono hb20.size)
          clear hb20 hx21
          obtain ⟨f1_0, f1_1, f1_2, f1_3⟩ := t1_21.facts
          obtain ⟨f2_0, f2_1, f2_2, f2_3⟩ := t2_21.facts
          obtain ⟨f3_0, f3_1, f3_2, f3_3⟩ := t3_21.facts
          obtain ⟨f4_0, f4_1, f4_2, f4_3⟩ := t4_21.facts
          go_wp2_with fail
          go_ret
          exact ⟨rfl, hb21⟩
        | false =>
          cases AA with
          | true =>
            obtain rfl : C = 2 := by rw [HE.out]; simp
            clear HE
            obtain ⟨f1_0, f1_1, f1_2, f1_3⟩ := t1.facts
            obtain ⟨f2_0, f2_1, f2_2, f2_3⟩ := t2.facts
            obtain ⟨f3_0, f3_1, f3_2, f3_3⟩ := t3.facts
            obtain ⟨f4_0, f4_1, f4_2, f4_3⟩ := t4.facts
            go_wp2_with fail
            refine (HC1.out _).mono ?_
            rintro r v22 ⟨rfl, hx22⟩
            clear f1_0 f1_1 f1_2 f1_3 f2_0 f2_1 f2_2 f2_3 f3_0 f3_1 f3_2 f3_3 f4_0 f4_1 f4_2 f4_3
            have t1_22 := t1.below hx22 t1.lt
            clear t1
            have t2_22 := t2.below hx22 t2.lt
            clear t2
            have t3_22 := t3.below hx22 t3.lt
            clear t3
            have t4_22 := t4.below hx22 t4.lt
            clear t4
            have hb22 := hbY.trans (hx22.mono hbY.size)
            clear hbY hx22
            obtain ⟨f1_0, f1_1, f1_2, f1_3⟩ := t1_22.facts
            obtain ⟨f2_0, f2_1, f2_2, f2_3⟩ := t2_22.facts
            obtain ⟨f3_0, f3_1, f3_2, f3_3⟩ := t3_22.facts
            obtain ⟨f4_0, f4_1, f4_2, f4_3⟩ := t4_22.facts
            go_wp2_with fail
            refine (HC2.out _).mono ?_
            rintro r v23 ⟨rfl, hx23⟩
            clear f1_0 f1_1 f1_2 f1_3 f2_0 f2_1 f2_2 f2_3 f3_0 f3_1 f3_2 f3_3 f4_0 f4_1 f4_2 f4_3
            have t1_23 := t1_22.below hx23 t1_22.lt
            clear t1_22
            have t2_23 := t2_22.below hx23 t2_22.lt
            clear t2_22
            have t3_23 := t3_22.below hx23 t3_22.lt
            clear t3_22
            have t4_23 := t4_22.below hx23 t4_22.lt
            clear t4_22
            have hb23 := hb22.trans (hx23.mono hb22.size)
            clear hb22 hx23
            obtain ⟨f1_0, f1_1, f1_2, f1_3⟩ := t1_23.facts
            obtain ⟨f2_0, f2_1, f2_2, f2_3⟩ := t2_23.facts
            obtain ⟨f3_0, f3_1, f3_2, f3_3⟩ := t3_23.facts
            obtain ⟨f4_0, f4_1, f4_2, f4_3⟩ := t4_23.facts
            go_wp2_with fail
            refine (HC3.out _).mono ?_
            rintro r v24 ⟨rfl, hx24⟩
            clear f1_0 f1_1 f1_2 f1_3 f2_0 f2_1 f2_2 f2_3 f3_0 f3_1 f3_2 f3_3 f4_0 f4_1 f4_2 f4_3
            have t1_24 := t1_23.below hx24 t1_23.lt
            clear t1_23
            have t2_24 := t2_23.below hx24 t2_23.lt
            clear t2_23
            have t3_24 := t3_23.below hx24 t3_23.lt
            clear t3_23
            have t4_24 := t4_23.below hx24 t4_23.lt
            clear t4_23
            have hb24 := hb23.trans (hx24.mono hb23.size)
            clear hb23 hx24
            obtain ⟨f1_0, f1_1, f1_2, f1_3⟩ := t1_24.facts
            obtain ⟨f2_0, f2_1, f2_2, f2_3⟩ := t2_24.facts
            obtain ⟨f3_0, f3_1, f3_2, f3_3⟩ := t3_24.facts
            obtain ⟨f4_0, f4_1, f4_2, f4_3⟩ := t4_24.facts
            go_wp2_with fail
            refine (HC4.out _).mono ?_
            rintro r v25 ⟨rfl, hx25⟩
            clear f1_0 f1_1 f1_2 f1_3 f2_0 f2_1 f2_2 f2_3 f3_0 f3_1 f3_2 f3_3 f4_0 f4_1 f4_2 f4_3
            have t1_25 := t1_24.below hx25 t1_24.lt
            clear t1_24
            have t2_25 := t2_24.below hx25 t2_24.lt
            clear t2_24
            have t3_25 := t3_24.below hx25 t3_24.lt
            clear t3_24
            have t4_25 := t4_24.below hx25 t4_24.lt
            clear t4_24
            have hb25 := hb24.trans (hx25.mono hb24.size)
            clear hb24 hx25
            obtain ⟨f1_0, f1_1, f1_2, f1_3⟩ := t1_25.facts
            obtain ⟨f2_0, f2_1, f2_2, f2_3⟩ := t2_25.facts
            obtain ⟨f3_0, f3_1, f3_2, f3_3⟩ := t3_25.facts
            obtain ⟨f4_0, f4_1, f4_2, f4_3⟩ := t4_25.facts
            go_wp2_with fail
            go_ret
            exact ⟨rfl, hb25⟩
          | false =>
            obtain rfl : C = 0 := by rw [HE.out]; simp
            clear HE
            obtain ⟨f1_0, f1_1, f1_2, f1_3⟩ := t1.facts
            obtain ⟨f2_0, f2_1, f2_2, f2_3⟩ := t2.facts
            obtain ⟨f3_0, f3_1, f3_2, f3_3⟩ := t3.facts
            obtain ⟨f4_0, f4_1, f4_2, f4_3⟩ := t4.facts
            go_wp2_with fail
            refine (HC1.out _).mono ?_
            rintro r v26 ⟨rfl, hx26⟩
            clear f1_0 f1_1 f1_2 f1_3 f2_0 f2_1 f2_2 f2_3 f3_0 f3_1 f3_2 f3_3 f4_0 f4_1 f4_2 f4_3
            have t1_26 := t1.below hx26 t1.lt
            clear t1
            have t2_26 := t2.below hx26 t2.lt
            clear t2
            have t3_26 := t3.below hx26 t3.lt
            clear t3
            have t4_26 := t4.below hx26 t4.lt
            clear t4
            have hb26 := hbY.trans (hx26.mono hbY.size)
            clear hbY hx26
            obtain ⟨f1_0, f1_1, f1_2, f1_3⟩ := t1_26.facts
            obtain ⟨f2_0, f2_1, f2_2, f2_3⟩ := t2_26.facts
            obtain ⟨f3_0, f3_1, f3_2, f3_3⟩ := t3_26.facts
            obtain ⟨f4_0, f4_1, f4_2, f4_3⟩ := t4_26.facts
            go_wp2_with fail
            refine (HC2.out _).mono ?_
            rintro r v27 ⟨rfl, hx27⟩
            clear f1_0 f1_1 f1_2 f1_3 f2_0 f2_1 f2_2 f2_3 f3_0 f3_1 f3_2 f3_3 f4_0 f4_1 f4_2 f4_3
            have t1_27 := t1_26.below hx27 t1_26.lt
            clear t1_26
            have t2_27 := t2_26.below hx27 t2_26.lt
            clear t2_26
            have t3_27 := t3_26.below hx27 t3_26.lt
            clear t3_26
            have t4_27 := t4_26.below hx27 t4_26.lt
            clear t4_26
            have hb27 := hb26.trans (hx27.mono hb26.size)
            clear hb26 hx27
            obtain ⟨f1_0, f1_1, f1_2, f1_3⟩ := t1_27.facts
            obtain ⟨f2_0, f2_1, f2_2, f2_3⟩ := t2_27.facts
            obtain ⟨f3_0, f3_1, f3_2, f3_3⟩ := t3_27.facts
            obtain ⟨f4_0, f4_1, f4_2, f4_3⟩ := t4_27.facts
            go_wp2_with fail
            refine (HC3.out _).mono ?_
            rintro r v28 ⟨rfl, hx28⟩
            clear f1_0 f1_1 f1_2 f1_3 f2_0 f2_1 f2_2 f2_3 f3_0 f3_1 f3_2 f3_3 f4_0 f4_1 f4_2 f4_3
            have t1_28 := t1_27.below hx28 t1_27.lt
            clear t1_27
            have t2_28 := t2_27.below hx28 t2_27.lt
            clear t2_27
            have t3_28 := t3_27.below hx28 t3_27.lt
            clear t3_27
            have t4_28 := t4_27.below hx28 t4_27.lt
            clear t4_27
            have hb28 := hb27.trans (hx28.mono hb27.size)
            clear hb27 hx28
            obtain ⟨f1_0, f1_1, f1_2, f1_3⟩ := t1_28.facts
            obtain ⟨f2_0, f2_1, f2_2, f2_3⟩ := t2_28.facts
            obtain ⟨f3_0, f3_1, f3_2, f3_3⟩ := t3_28.facts
            obtain ⟨f4_0, f4_1, f4_2, f4_3⟩ := t4_28.facts
            go_wp2_with fail
            refine (HC4.out _).mono ?_
            rintro r v29 ⟨rfl, hx29⟩
            clear f1_0 f1_1 f1_2 f1_3 f2_0 f2_1 f2_2 f2_3 f3_0 f3_1 f3_2 f3_3 f4_0 f4_1 f4_2 f4_3
            have t1_29 := t1_28.below hx29 t1_28.lt
            clear t1_28
            have t2_29 := t2_28.below hx29 t2_28.lt
            clear t2_28
            have t3_29 := t3_28.below hx29 t3_28.lt
            clear t3_28
            have t4_29 := t4_28.below hx29 t4_28.lt
            clear t4_28
            have hb29 := hb28.trans (hx29.mono hb28.size)
            clear hb28 hx29
            obtain ⟨f1_0, f1_1, f1_2, f1_3⟩ := t1_29.facts
            obtain ⟨f2_0, f2_1, f2_2, f2_3⟩ := t2_29.facts
            obtain ⟨f3_0, f3_1, f3_2, f3_3⟩ := t3_29.facts
            obtain ⟨f4_0, f4_1, f4_2, f4_3⟩ := t4_29.facts
            go_wp2_with fail
            go_ret
            exact ⟨rfl, hb29⟩
end Go.Proofs.Ytbkeennjoepmmaa.Ge
