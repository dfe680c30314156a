/- The walk of GeomNearest. -/
import Derived.Test.YtbkeennjoepmmaaGeoInv
import Derived.Test.YtbkeennjoepmmaaGeoW5
import Derived.Test.YtbkeennjoepmmaaGeoH
import Derived.Test.YtbkeennjoepmmaaGeoNear
namespace Go.Proofs.Ytbkeennjoepmmaa.Ge
set_option linter.unusedVariables false
set_option linter.unusedSimpArgs false
open Go.RowKit
open Go.Proofs.Ytbkeennjoepmmaa.Fr (Two compare_any valP cmpV cmpE)

set_option maxRecDepth 100000 in
set_option maxHeartbeats 8000000 in
theorem lawNearest (px py qx qy rx ry : Int) (raw : Int) (hpx1 : -9223372036854775808 ≤ px) (hpx2 : px ≤ 9223372036854775807) (hpy1 : -9223372036854775808 ≤ py) (hpy2 : py ≤ 9223372036854775807) (hqx1 : -9223372036854775808 ≤ qx) (hqx2 : qx ≤ 9223372036854775807) (hqy1 : -9223372036854775808 ≤ qy) (hqy2 : qy ≤ 9223372036854775807) (hrx1 : -9223372036854775808 ≤ rx) (hrx2 : rx ≤ 9223372036854775807) (hry1 : -9223372036854775808 ≤ ry) (hry2 : ry ≤ 9223372036854775807) (hr1 : 0 ≤ raw) (hr2 : raw ≤ 65535) (w : World) :
    Calls Try.prog 9 #[.agg #[.int .i64 px, .int .i64 py], .agg #[.int .i64 qx, .int .i64 qy], .agg #[.int .i64 rx, .int .i64 ry], .int .u16 raw] w fun e w' => e = .returned (.bool true) ∧ Below w.heap.size w w' := by
  have HG1 := Lib.hid (fun w => grid_any px py w hpx1 hpx2 hpy1 hpy2)
  have hon1 := on_mod px py
  generalize px % 32768 = ax at *
  generalize py % 32768 = ay at *
  have HG2 := Lib.hid (fun w => grid_any qx qy w hqx1 hqx2 hqy1 hqy2)
  have hon2 := on_mod qx qy
  generalize qx % 32768 = bx at *
  generalize qy % 32768 = bz at *
  have HG3 := Lib.hid (fun w => grid_any rx ry w hrx1 hrx2 hry1 hry2)
  have hon3 := on_mod rx ry
  generalize rx % 32768 = cx at *
  generalize ry % 32768 = cy at *
  have b0_0 := Two.at (w := w) (B := w.heap.size) (by simp) 23 (.int .i64 px) (.int .i64 py)
  have b1_1 := Two.at (w := (w.alloc (.cells #[.int .i64 px, .int .i64 py] 23))) (B := w.heap.size + 1) (by simp) 23 (.int .i64 qx) (.int .i64 qy)
  have b0_1 := b0_0.alloc (.cells #[.int .i64 qx, .int .i64 qy] 23)
  have b2_2 := Two.at (w := ((w.alloc (.cells #[.int .i64 px, .int .i64 py] 23)).alloc (.cells #[.int .i64 qx, .int .i64 qy] 23))) (B := w.heap.size + 1 + 1) (by simp) 23 (.int .i64 rx) (.int .i64 ry)
  have b0_2 := b0_1.alloc (.cells #[.int .i64 rx, .int .i64 ry] 23)
  have b1_2 := b1_1.alloc (.cells #[.int .i64 rx, .int .i64 ry] 23)
  have hb0 : Below w.heap.size w _ := ((((Below.refl w.heap.size w).alloc (by simp <;> omega) (.cells #[.int .i64 px, .int .i64 py] 23)).alloc (by simp <;> omega) (.cells #[.int .i64 qx, .int .i64 qy] 23)).alloc (by simp <;> omega) (.cells #[.int .i64 rx, .int .i64 ry] 23))
  go_enter Try.func9, Try.ntmps9
  go_wp2_with fail
  refine (head_any _).mono ?_
  rintro r W ⟨rfl, hb1⟩
  have r0 := b0_2.below hb1 b0_2.lt
  have r1 := b1_2.below hb1 b1_2.lt
  have r2 := b2_2.below hb1 b2_2.lt
  have hbW := hb0.trans (hb1.mono hb0.size)
  clear b0_0 b0_1 b1_1 b0_2 b1_2 b2_2 hb0 hb1
  go_upto_region 2 with fail
  have hS : ∀ w' : World, Below W.heap.size W w' → (w'.cell? ⟨w.heap.size, 0, none⟩ = some (.int .i64 px) ∧ w'.cell? ⟨w.heap.size, 1, none⟩ = some (.int .i64 py)) ∧ (w'.cell? ⟨w.heap.size + 1, 0, none⟩ = some (.int .i64 qx) ∧ w'.cell? ⟨w.heap.size + 1, 1, none⟩ = some (.int .i64 qy)) ∧ (w'.cell? ⟨w.heap.size + 1 + 1, 0, none⟩ = some (.int .i64 rx) ∧ w'.cell? ⟨w.heap.size + 1 + 1, 1, none⟩ = some (.int .i64 ry)) := fun w' hb => ⟨two_of r0 hb, two_of r1 hb, two_of r2 hb⟩
  go_cut [10, 11, 12] (fun v1 v2 v3 wx => GridAt3 W ax ay bx bz cx cy v1 v2 v3 wx)
  case first =>
    refine wp_region_held_drew (S := fun w' => (w'.cell? ⟨w.heap.size, 0, none⟩ = some (.int .i64 px) ∧ w'.cell? ⟨w.heap.size, 1, none⟩ = some (.int .i64 py)) ∧ (w'.cell? ⟨w.heap.size + 1, 0, none⟩ = some (.int .i64 qx) ∧ w'.cell? ⟨w.heap.size + 1, 1, none⟩ = some (.int .i64 qy)) ∧ (w'.cell? ⟨w.heap.size + 1 + 1, 0, none⟩ = some (.int .i64 rx) ∧ w'.cell? ⟨w.heap.size + 1 + 1, 1, none⟩ = some (.int .i64 ry))) (by kernel_rfl) (hS _ (Below.refl _ _).drew) (fun hHeld => ?_)
    refine wpAnyH_take (i := 0) (oi := { dst := some 23, op := Op.load 23 (Operand.tmp 4), type := 23, pos := _, after := #[], guard := none }) (v := .agg #[.int .i64 px, .int .i64 py]) rfl (by kernel_rfl) (by kernel_rfl) (by kernel_rfl) (fun _ _ _ h => h) (Or.inl ⟨by rfl, ?_⟩) (by assumption) ?_
    · intro w' hSw; (try dsimp only at hSw); go_simp
    simp only [Act.put, List.setIfInBounds_toArray, List.set_cons_zero, List.set_cons_succ]
    refine wpAnyH_take (i := 2) (oi := { dst := some 25, op := Op.load 23 (Operand.tmp 5), type := 23, pos := _, after := #[], guard := none }) (v := .agg #[.int .i64 qx, .int .i64 qy]) rfl (by kernel_rfl) (by kernel_rfl) (by kernel_rfl) (fun _ _ _ h => h) (Or.inl ⟨by rfl, ?_⟩) (by assumption) ?_
    · intro w' hSw; (try dsimp only at hSw); go_simp
    simp only [Act.put, List.setIfInBounds_toArray, List.set_cons_zero, List.set_cons_succ]
    refine wpAnyH_take (i := 4) (oi := { dst := some 27, op := Op.load 23 (Operand.tmp 6), type := 23, pos := _, after := #[], guard := none }) (v := .agg #[.int .i64 rx, .int .i64 ry]) rfl (by kernel_rfl) (by kernel_rfl) (by kernel_rfl) (fun _ _ _ h => h) (Or.inl ⟨by rfl, ?_⟩) (by assumption) ?_
    · intro w' hSw; (try dsimp only at hSw); go_simp
    simp only [Act.put, List.setIfInBounds_toArray, List.set_cons_zero, List.set_cons_succ]
    refine Ri.inv_any (I := fun L a x => ∃ (b1 b2 b3 m1 m2 m3 : Bool) (Y1 Y2 Y3 X1 X2 X3 : Value) (B1 B2 B3 : Nat), L = #[true, b1, true, b2, true, b3, m1, m2, m3, false, false, false] ∧ a = { tmps := #[.agg #[.int .i64 px, .int .i64 py], .agg #[.int .i64 qx, .int .i64 qy], .agg #[.int .i64 rx, .int .i64 ry], .int .u16 raw, .pointer (some ⟨w.heap.size, 0, none⟩), .pointer (some ⟨w.heap.size + 1, 0, none⟩), .pointer (some ⟨w.heap.size + 1 + 1, 0, none⟩), undef, .bool false, .bool true, X1, X2, X3, undef, undef, undef, undef, undef, undef, undef, undef, undef, .bool true, .agg #[.int .i64 px, .int .i64 py], Y1, .agg #[.int .i64 qx, .int .i64 qy], Y2, .agg #[.int .i64 rx, .int .i64 ry], Y3, undef, undef, undef, undef, undef, undef, undef, undef, undef, undef, undef, undef, undef, undef, undef, undef, undef, undef, undef, undef, undef, undef, undef, undef, undef, undef, undef, undef, undef, undef, undef, undef, undef, undef, undef, undef, undef, undef, undef, undef, undef, undef, undef, undef, undef, undef, undef, undef, undef, undef, undef, undef, undef, undef, undef, undef, undef, undef, undef, undef, undef, undef, undef, undef, undef, undef, undef, undef, undef, undef, undef, undef, undef, undef, undef, undef, undef, undef, undef, undef, undef, undef, undef, undef, undef, undef, undef, undef, undef, undef, undef, undef, undef, undef, undef, undef, undef, undef, undef, undef, undef, undef, undef], defers := [] } ∧ Inv3 W x (.agg #[.int .i64 ax, .int .i64 ay]) (.agg #[.int .i64 bx, .int .i64 bz]) (.agg #[.int .i64 cx, .int .i64 cy]) b1 b2 b3 m1 m2 m3 Y1 Y2 Y3 X1 X2 X3 B1 B2 B3) (f0 := 3) ?_ ?_ 6 _ _ _ (by decide) ⟨false, false, false, false, false, false, _, _, _, _, _, _, 0, 0, 0, rfl, rfl, Inv3.start _ _ _ _ _ _ _ _ _ _⟩ hHeld
    · rintro L a x ⟨b1, b2, b3, m1, m2, m3, Y1, Y2, Y3, X1, X2, X3, B1, B2, B3, rfl, rfl, hI⟩ hS' hn
      obtain ⟨rfl, rfl, rfl, rfl, rfl, rfl⟩ := Ri.full3 hn
      obtain rfl := hI.y1 rfl
      obtain rfl := hI.y2 rfl
      obtain rfl := hI.y3 rfl
      obtain ⟨rfl, l1, t1⟩ := hI.x1 rfl
      obtain ⟨rfl, l2, t2⟩ := hI.x2 rfl
      obtain ⟨rfl, l3, t3⟩ := hI.x3 rfl
      have d12 := hI.d12 rfl rfl
      have d13 := hI.d13 rfl rfl
      have d23 := hI.d23 rfl rfl
      have hb2 := hI.below
      clear hI hn hHeld hS'
      obtain ⟨c1, c2, c3, c4⟩ := t1.facts
      refine wpAnyH_ready (rs := [9]) (by kernel_rfl) (by simp) ?_
      refine AllReadyH.cons rfl (fun K hK => ?_) AllReadyH.nil
      go_simp
      have hb2_0 := set2_below hb2 l1 (.int .i64 ax) (.int .i64 ay)
      have t1_0 := two_set2 t1 (.int .i64 ax) (.int .i64 ay)
      have t2_0 := two_keep2 (C := B1) t2 (.int .i64 ax) (.int .i64 ay) (Ne.symm d12)
      have t3_0 := two_keep2 (C := B1) t3 (.int .i64 ax) (.int .i64 ay) (Ne.symm d13)
      refine hK.out _ _ (hS _ hb2_0) (fun hHeld => ?_)
      clear hK K c1 c2 c3 c4 hHeld
      obtain ⟨c1, c2, c3, c4⟩ := t2_0.facts
      refine wpAnyH_ready (rs := [10]) (by kernel_rfl) (by simp) ?_
      refine AllReadyH.cons rfl (fun K hK => ?_) AllReadyH.nil
      go_simp
      have hb2_1 := set2_below hb2_0 l2 (.int .i64 bx) (.int .i64 bz)
      have t1_1 := two_keep2 (C := B2) t1_0 (.int .i64 bx) (.int .i64 bz) d12
      have t2_1 := two_set2 t2_0 (.int .i64 bx) (.int .i64 bz)
      have t3_1 := two_keep2 (C := B2) t3_0 (.int .i64 bx) (.int .i64 bz) (Ne.symm d23)
      refine hK.out _ _ (hS _ hb2_1) (fun hHeld => ?_)
      clear hK K c1 c2 c3 c4 hHeld
      obtain ⟨c1, c2, c3, c4⟩ := t3_1.facts
      refine wpAnyH_ready (rs := [11]) (by kernel_rfl) (by simp) ?_
      refine AllReadyH.cons rfl (fun K hK => ?_) AllReadyH.nil
      go_simp
      have hb2_2 := set2_below hb2_1 l3 (.int .i64 cx) (.int .i64 cy)
      have t1_2 := two_keep2 (C := B3) t1_1 (.int .i64 cx) (.int .i64 cy) d13
      have t2_2 := two_keep2 (C := B3) t2_1 (.int .i64 cx) (.int .i64 cy) d23
      have t3_2 := two_set2 t3_1 (.int .i64 cx) (.int .i64 cy)
      refine hK.out _ _ (hS _ hb2_2) (fun hHeld => ?_)
      clear hK K c1 c2 c3 c4 hHeld
      refine wpAnyH_done (by kernel_rfl) ?_ _
      go_wp2_with fail
      go_meet
      exact ⟨_, _, _, rfl, rfl, rfl, t1_2, t2_2, t3_2, hb2_2⟩
    · rintro L a x ⟨b1, b2, b3, m1, m2, m3, Y1, Y2, Y3, X1, X2, X3, B1, B2, B3, rfl, rfl, hI⟩ hS' hn
      obtain ⟨hne, hi⟩ := Ri.ready3 (by kernel_rfl) hI.o1 hI.o2 hn
      refine ⟨hne, fun i hm => ?_⟩
      rcases hi i hm with ⟨rfl, rfl⟩ | ⟨rfl, rfl, hp⟩ | ⟨rfl, rfl, hp⟩ | ⟨rfl, rfl⟩ | ⟨rfl, rfl⟩ | ⟨rfl, rfl⟩
      all_goals clear hi hm hne hn
      · refine Ri.step_shut rfl (fun K hK => ?_)
        go_simp
        go_at_call 24
        refine (HG1.out _).mono ?_
        rintro r x' ⟨rfl, hx⟩
        go_simp
        refine hK.out _ _ (hS _ (hI.below.trans (hx.mono hI.below.size))) ⟨true, b2, b3, m1, m2, m3, _, Y2, Y3, X1, X2, X3, B1, B2, B3, rfl, rfl, hI.call1 hx⟩
      · refine Ri.step_shut rfl (fun K hK => ?_)
        go_simp
        go_at_call 24
        refine (HG2.out _).mono ?_
        rintro r x' ⟨rfl, hx⟩
        go_simp
        refine hK.out _ _ (hS _ (hI.below.trans (hx.mono hI.below.size))) ⟨_, true, b3, m1, m2, m3, Y1, _, Y3, X1, X2, X3, B1, B2, B3, rfl, rfl, hI.call2 hp hx⟩
      · refine Ri.step_shut rfl (fun K hK => ?_)
        go_simp
        go_at_call 24
        refine (HG3.out _).mono ?_
        rintro r x' ⟨rfl, hx⟩
        go_simp
        refine hK.out _ _ (hS _ (hI.below.trans (hx.mono hI.below.size))) ⟨b1, _, true, m1, m2, m3, Y1, Y2, _, X1, X2, X3, B1, B2, B3, rfl, rfl, hI.call3 hp hx⟩
      · refine Ri.step_shut rfl (fun K hK => ?_)
        go_simp
        refine hK.out _ _ (hS _ (hI.below.alloc hI.below.size _)) ⟨b1, b2, b3, true, m2, m3, Y1, Y2, Y3, _, X2, X3, _, B2, B3, rfl, rfl, hI.made1⟩
      · refine Ri.step_shut rfl (fun K hK => ?_)
        go_simp
        refine hK.out _ _ (hS _ (hI.below.alloc hI.below.size _)) ⟨b1, b2, b3, m1, true, m3, Y1, Y2, Y3, X1, _, X3, B1, _, B3, rfl, rfl, hI.made2⟩
      · refine Ri.step_shut rfl (fun K hK => ?_)
        go_simp
        refine hK.out _ _ (hS _ (hI.below.alloc hI.below.size _)) ⟨b1, b2, b3, m1, m2, true, Y1, Y2, Y3, X1, X2, _, B1, B2, _, rfl, rfl, hI.made3⟩
  case rest =>
    obtain ⟨B1, B2, B3, rfl, rfl, rfl, t1, t2, t3, hbx⟩ := hcut
    have hbY := hbW.trans (hbx.mono hbW.size)
    clear hS hbx hbW r0 r1 r2 HG1 HG2 HG3
    have HF := Lib.hid (fun w => Foot_any ax ay bx bz cx cy w)
    rw [if_pos ⟨hon1, hon2, hon3⟩] at HF
    have hval := (ft_val hon1 hon2 hon3).2
    have HL := Lib.hid (fun xx xy (hx : hasP bx bz cx cy xx xy) => ft_least (px := ax) (py := ay) hx)
    have HD := Lib.hid (fun w => Dist_any ax ay bx bz w)
    rw [dist_on hon1 hon2] at HD
    have hz0 : bx = cx ∧ bz = cy → ftM ax ay bx bz cx cy = distN ax ay bx bz ∧ ftE ax ay bx bz cx cy = 1 := by
      rintro ⟨rfl, rfl⟩
      have e : alongN bx bz bx bz ax ay ≤ 0 := by
        have : alongN bx bz bx bz ax ay = 0 := by unfold alongN; grind
        omega
      unfold ftM ftE
      rw [if_pos e, if_pos e]
      exact ⟨rfl, rfl⟩
    have HZ := Lib.hid hz0
    clear hz0
    generalize ftN ax ay bx bz cx cy = N at *
    generalize ftD ax ay bx bz cx cy = D at *
    generalize ftM ax ay bx bz cx cy = M at *
    generalize ftE ax ay bx bz cx cy = E at *
    generalize distN ax ay bx bz = Z at *
    have HON := Lib.hid (And.intro hon1 (And.intro hon2 hon3))
    have HVAL := Lib.hid hval
    clear hval
    obtain ⟨⟨b1, b2⟩, b3, b4⟩ := hon2
    obtain ⟨⟨c1, c2⟩, c3, c4⟩ := hon3
    clear hon1
    obtain ⟨n0, hn0, hn1⟩ : ∃ n0 : Nat, max (bx - cx) (cx - bx) = (n0 : Int) ∧ n0 = (cx - bx).natAbs := ⟨_, by omega, rfl⟩
    obtain ⟨m0, hm0, hm1⟩ : ∃ m0 : Nat, max (bz - cy) (cy - bz) = (m0 : Int) ∧ m0 = (cy - bz).natAbs := ⟨_, by omega, rfl⟩
    have HN := Lib.hid (And.intro hn1 hm1)
    have wdbxcx : IntKind.i64.wrap (bx - cx) = bx - cx := by rw [IntKind.wrap_i64]; omega
    have wdcxbx : IntKind.i64.wrap (cx - bx) = cx - bx := by rw [IntKind.wrap_i64]; omega
    have wdbzcy : IntKind.i64.wrap (bz - cy) = bz - cy := by rw [IntKind.wrap_i64]; omega
    have wdcybz : IntKind.i64.wrap (cy - bz) = cy - bz := by rw [IntKind.wrap_i64]; omega
    have hn2 : (n0 : Int) ≤ 32767 := by omega
    have hm2 : (m0 : Int) ≤ 32767 := by omega
    clear hn1 hm1
    obtain ⟨f1_0, f1_1, f1_2, f1_3⟩ := t1.facts
    obtain ⟨f2_0, f2_1, f2_2, f2_3⟩ := t2.facts
    obtain ⟨f3_0, f3_1, f3_2, f3_3⟩ := t3.facts
    go_wp2_with fail
    refine (HF.out _).mono ?_
    rintro r v1 ⟨rfl, hx1⟩
    clear f1_0 f1_1 f1_2 f1_3 f2_0 f2_1 f2_2 f2_3 f3_0 f3_1 f3_2 f3_3
    have t1_1 := t1.below hx1 t1.lt
    clear t1
    have t2_1 := t2.below hx1 t2.lt
    clear t2
    have t3_1 := t3.below hx1 t3.lt
    clear t3
    have hb1 := hbY.trans (hx1.mono hbY.size)
    clear hbY hx1
    have t1_2 := (t1_1.alloc (.cells #[.int .i64 N, .int .i64 D] 26)).alloc (.cells #[.int .i64 M, .int .i64 E] 26)
    clear t1_1
    have t2_2 := (t2_1.alloc (.cells #[.int .i64 N, .int .i64 D] 26)).alloc (.cells #[.int .i64 M, .int .i64 E] 26)
    clear t2_1
    have t3_2 := (t3_1.alloc (.cells #[.int .i64 N, .int .i64 D] 26)).alloc (.cells #[.int .i64 M, .int .i64 E] 26)
    clear t3_1
    have t5_2 := (Two.at (w := v1) (B := v1.heap.size) rfl 26 (.int .i64 N) (.int .i64 D)).alloc (.cells #[.int .i64 M, .int .i64 E] 26)
    have t6_2 := Two.at (w := v1.alloc (.cells #[.int .i64 N, .int .i64 D] 26)) (B := v1.heap.size + 1) (by simp) 26 (.int .i64 M) (.int .i64 E)
    have hb2 := (hb1.alloc hb1.size (.cells #[.int .i64 N, .int .i64 D] 26)).alloc (by have := hb1.size; simp; omega) (.cells #[.int .i64 M, .int .i64 E] 26)
    clear hb1
    obtain ⟨f1_0, f1_1, f1_2, f1_3⟩ := t1_2.facts
    obtain ⟨f2_0, f2_1, f2_2, f2_3⟩ := t2_2.facts
    obtain ⟨f3_0, f3_1, f3_2, f3_3⟩ := t3_2.facts
    obtain ⟨f5_0, f5_1, f5_2, f5_3⟩ := t5_2.facts
    obtain ⟨f6_0, f6_1, f6_2, f6_3⟩ := t6_2.facts
    go_upto_region 6 with fail
    clear f1_0 f1_1 f1_2 f1_3 f2_0 f2_1 f2_2 f2_3 f3_0 f3_1 f3_2 f3_3 f5_0 f5_1 f5_2 f5_3 f6_0 f6_1 f6_2 f6_3
    generalize ((v1.alloc (.cells #[.int .i64 N, .int .i64 D] 26)).alloc (.cells #[.int .i64 M, .int .i64 E] 26)) = V at *
    have hS : ∀ w' : World, Below V.heap.size V w' → (w'.cell? ⟨B2, 0, none⟩ = some (.int .i64 bx) ∧ w'.cell? ⟨B2, 1, none⟩ = some (.int .i64 bz)) ∧ (w'.cell? ⟨B3, 0, none⟩ = some (.int .i64 cx) ∧ w'.cell? ⟨B3, 1, none⟩ = some (.int .i64 cy)) := fun w' hb => ⟨two_of t2_2 hb, two_of t3_2 hb⟩
    have hr := Below.refl V.heap.size V
    go_region_held3 (fun w' => (w'.cell? ⟨B2, 0, none⟩ = some (.int .i64 bx) ∧ w'.cell? ⟨B2, 1, none⟩ = some (.int .i64 bz)) ∧ (w'.cell? ⟨B3, 0, none⟩ = some (.int .i64 cx) ∧ w'.cell? ⟨B3, 1, none⟩ = some (.int .i64 cy)))
      (first | (with_reducible exact hS _ hr.drew) | (with_reducible refine hS _ ?_; with_reducible assumption))
      (first | fail)
    all_goals
      have t1_u := t1_2.drew
      clear t1_2
      have t2_u := t2_2.drew
      clear t2_2
      have t3_u := t3_2.drew
      clear t3_2
      have t5_u := t5_2.drew
      clear t5_2
      have t6_u := t6_2.drew
      clear t6_2
      have hbu := hb2.drew
      clear hS hr
      generalize V.drew = U at *
      clear hn0 hm0
      go_wp2_with fail
      go_loopw [16, 17] (fun x y wr => ∃ X Y : Nat, x = .int .i64 (X : Int) ∧ y = .int .i64 (Y : Int) ∧ (X : Int) ≤ 32767 ∧ (Y : Int) ≤ 32767 ∧ Nat.gcd X Y = Nat.gcd n0 m0 ∧ Below U.heap.size U wr) (fun _ y _ => (intOf y).toNat)
      case atStart => exact ⟨_, _, rfl, rfl, hn2, hm2, rfl, Below.refl _ _⟩
      case round =>
        obtain ⟨X, Y, rfl, rfl, hX, hY, hg, hbel⟩ := hrel
        have Hg := Lib.hid hg
        clear hg
        by_cases hz : Y = 0
        · subst hz
          have e := Hg.out
          rw [Nat.gcd_zero_right] at e
          clear Hg
          have t1_w := t1_u.below hbel t1_u.lt
          clear t1_u
          have t2_w := t2_u.below hbel t2_u.lt
          clear t2_u
          have t3_w := t3_u.below hbel t3_u.lt
          clear t3_u
          have t5_w := t5_u.below hbel t5_u.lt
          clear t5_u
          have t6_w := t6_u.below hbel t6_u.lt
          clear t6_u
          have hbw := hbu.trans (hbel.mono hbu.size)
          clear hbu hbel
          generalize wr = Wa at *
          by_cases hX0 : X = 0
          · subst hX0
            have hbc : bx = cx ∧ bz = cy := by
              obtain ⟨e1, e2⟩ := HN.out
              have e3 := Nat.eq_zero_of_gcd_eq_zero_left e.symm
              have e4 := Nat.eq_zero_of_gcd_eq_zero_right e.symm
              omega
            obtain ⟨rfl, rfl⟩ := HZ.out hbc
            clear HZ hbc e HN HL HVAL HON
            have q1 : (M == M) = true := by simp
            obtain ⟨f1_0, f1_1, f1_2, f1_3⟩ := t1_w.facts
            obtain ⟨f2_0, f2_1, f2_2, f2_3⟩ := t2_w.facts
            obtain ⟨f3_0, f3_1, f3_2, f3_3⟩ := t3_w.facts
            obtain ⟨f5_0, f5_1, f5_2, f5_3⟩ := t5_w.facts
            obtain ⟨f6_0, f6_1, f6_2, f6_3⟩ := t6_w.facts
            go_upto_region 10 with fail
            clear f1_0 f1_1 f1_2 f1_3 f2_0 f2_1 f2_2 f2_3 f3_0 f3_1 f3_2 f3_3 f5_0 f5_1 f5_2 f5_3 f6_0 f6_1 f6_2 f6_3
            obtain ⟨f1_0, f1_1, f1_2, f1_3⟩ := t1_w.facts
            obtain ⟨f2_0, f2_1, f2_2, f2_3⟩ := t2_w.facts
            obtain ⟨f3_0, f3_1, f3_2, f3_3⟩ := t3_w.facts
            obtain ⟨f5_0, f5_1, f5_2, f5_3⟩ := t5_w.facts
            obtain ⟨f6_0, f6_1, f6_2, f6_3⟩ := t6_w.facts
            go_upto_region 10 with fail
            clear f1_0 f1_1 f1_2 f1_3 f2_0 f2_1 f2_2 f2_3 f3_0 f3_1 f3_2 f3_3 f5_0 f5_1 f5_2 f5_3 f6_0 f6_1 f6_2 f6_3
            have hS : ∀ w' : World, Below Wa.heap.size Wa w' → (w'.cell? ⟨v1.heap.size + 1, 0, none⟩ = some (.int .i64 M) ∧ w'.cell? ⟨v1.heap.size + 1, 1, none⟩ = some (.int .i64 1)) ∧ (w'.cell? ⟨B1, 0, none⟩ = some (.int .i64 ax) ∧ w'.cell? ⟨B1, 1, none⟩ = some (.int .i64 ay)) ∧ (w'.cell? ⟨B2, 0, none⟩ = some (.int .i64 bx) ∧ w'.cell? ⟨B2, 1, none⟩ = some (.int .i64 bz)) := fun w' hb => ⟨two_of t6_w hb, two_of t1_w hb, two_of t2_w hb⟩
            have hr := Below.refl Wa.heap.size Wa
            go_region_held3 (fun w' => (w'.cell? ⟨v1.heap.size + 1, 0, none⟩ = some (.int .i64 M) ∧ w'.cell? ⟨v1.heap.size + 1, 1, none⟩ = some (.int .i64 1)) ∧ (w'.cell? ⟨B1, 0, none⟩ = some (.int .i64 ax) ∧ w'.cell? ⟨B1, 1, none⟩ = some (.int .i64 ay)) ∧ (w'.cell? ⟨B2, 0, none⟩ = some (.int .i64 bx) ∧ w'.cell? ⟨B2, 1, none⟩ = some (.int .i64 bz)))
              (first | (with_reducible exact hS _ hr.drew) | (with_reducible refine hS _ ?_; with_reducible assumption))
              (first
                | (go_at_call 18; refine (HD.out _).mono ?_; rintro r y1 ⟨rfl, hy1'⟩; have hy1 : Below Wa.heap.size Wa y1 := hr.drew.trans hy1'))
            all_goals
              have t1_3 := t1_w.below hy1 t1_w.lt
              have t2_3 := t2_w.below hy1 t2_w.lt
              have t3_3 := t3_w.below hy1 t3_w.lt
              have t5_3 := t5_w.below hy1 t5_w.lt
              have t6_3 := t6_w.below hy1 t6_w.lt
              have hb3 := hbw.trans (hy1.mono hbw.size)
              go_wp2_with fail
              go_ret
              exact ⟨rfl, hb3⟩
          · have hXp : (0 : Int) < (X : Int) := by omega
            have d1 : (X : Int) ∣ cx - bx := by
              obtain ⟨e1, e2⟩ := HN.out
              rw [e]
              exact Int.ofNat_dvd_left.2 (by rw [← e1]; exact Nat.gcd_dvd_left ..)
            have d2 : (X : Int) ∣ cy - bz := by
              obtain ⟨e1, e2⟩ := HN.out
              rw [e]
              exact Int.ofNat_dvd_left.2 (by rw [← e2]; exact Nat.gcd_dvd_right ..)
            clear e HN HZ HD
            obtain ⟨K, hK⟩ : ∃ K : Int, raw % ((X : Int) + 1) = K := ⟨_, rfl⟩
            have hK0 : 0 ≤ K := by rw [← hK]; exact Int.emod_nonneg _ (by omega)
            have hK1 : K ≤ (X : Int) := by have := Int.emod_lt_of_pos raw (show 0 < (X : Int) + 1 by omega); omega
            have hs := step_has hXp hK0 hK1 d1 d2
            obtain ⟨s1, s2, s3⟩ := step_num hXp hK0 hK1 d1
            obtain ⟨s4, s5, s6⟩ := step_num hXp hK0 hK1 d2
            have hu := Int.natAbs_tdiv_le_natAbs (cx - bx) (X : Int)
            have hv := Int.natAbs_tdiv_le_natAbs (cy - bz) (X : Int)
            obtain ⟨u, hu0⟩ : ∃ u : Int, (cx - bx).tdiv (X : Int) = u := ⟨_, rfl⟩
            obtain ⟨v, hv0⟩ : ∃ v : Int, (cy - bz).tdiv (X : Int) = v := ⟨_, rfl⟩
            rw [hu0] at hu s1 s2 s3
            rw [hv0] at hv s4 s5 s6
            rw [hu0, hv0] at hs
            obtain ⟨xx, hxx⟩ : ∃ xx : Int, bx + u * K = xx := ⟨_, rfl⟩
            obtain ⟨xy, hxy⟩ : ∃ xy : Int, bz + v * K = xy := ⟨_, rfl⟩
            rw [hxx, hxy] at hs
            have x1 : 0 ≤ xx ∧ xx ≤ 32767 := by omega
            have x2 : 0 ≤ xy ∧ xy ≤ 32767 := by omega
            have hon4 : onP xx xy := ⟨x1, x2.1, x2.2⟩
            have w1 : IntKind.i64.wrap (u * K) = u * K := by rw [IntKind.wrap_i64]; omega
            have w2 : IntKind.i64.wrap (v * K) = v * K := by rw [IntKind.wrap_i64]; omega
            have w3 : IntKind.i64.wrap u = u := by rw [IntKind.wrap_i64]; omega
            have w4 : IntKind.i64.wrap v = v := by rw [IntKind.wrap_i64]; omega
            have w5 : IntKind.i64.wrap xx = xx := by rw [IntKind.wrap_i64]; omega
            have w6 : IntKind.i64.wrap xy = xy := by rw [IntKind.wrap_i64]; omega
            obtain ⟨hon1, hon2, hon3⟩ := HON.out
            have HX := Lib.hid (fun w => Dist_any ax ay xx xy w)
            rw [dist_on hon1 hon4] at HX
            have HB := Lib.hid (fun w => Between_any xx xy bx bz cx cy w)
            rw [bet_on hon4 hon2 hon3, show hasB bx bz cx cy xx xy = true from decide_eq_true hs] at HB
            have hle := HL.out xx xy hs
            have hbd := dist_bd hon1 hon4
            have hcmp := cmp_le HVAL.out (val_one hbd.1 (by omega)) (show M * 1 ≤ distN ax ay xx xy * E by rw [Int.mul_one]; exact hle)
            have HC := Lib.hid (fun w => compare_any M E (distN ax ay xx xy) 1 w)
            rw [hcmp.1] at HC
            have hc0 := hcmp.2
            clear hcmp hle hs HL HVAL HON hon1 hon2 hon3 hon4 d1 d2 s1 s2 s3 s4 s5 s6 hu hv hbd
            generalize cmpV M E (distN ax ay xx xy) 1 = Cv at *
            generalize distN ax ay xx xy = Q at *
            have k1 : ((X : Int) == 0) = false := by simp only [beq_eq_false_iff_ne, ne_eq]; omega
            have k2 : ¬ (X : Int) = 0 := by omega
            have k3 : ((X : Int) + 1 == 0) = false := by simp only [beq_eq_false_iff_ne, ne_eq]; omega
            have k4 : ¬ (X : Int) + 1 = 0 := by omega
            obtain ⟨f1_0, f1_1, f1_2, f1_3⟩ := t1_w.facts
            obtain ⟨f2_0, f2_1, f2_2, f2_3⟩ := t2_w.facts
            obtain ⟨f3_0, f3_1, f3_2, f3_3⟩ := t3_w.facts
            obtain ⟨f5_0, f5_1, f5_2, f5_3⟩ := t5_w.facts
            obtain ⟨f6_0, f6_1, f6_2, f6_3⟩ := t6_w.facts
            go_upto_region 12 with fail
            clear f1_0 f1_1 f1_2 f1_3 f2_0 f2_1 f2_2 f2_3 f3_0 f3_1 f3_2 f3_3 f5_0 f5_1 f5_2 f5_3 f6_0 f6_1 f6_2 f6_3
            have hS : ∀ w' : World, Below Wa.heap.size Wa w' → (w'.cell? ⟨B2, 0, none⟩ = some (.int .i64 bx) ∧ w'.cell? ⟨B2, 1, none⟩ = some (.int .i64 bz)) ∧ (w'.cell? ⟨B3, 0, none⟩ = some (.int .i64 cx) ∧ w'.cell? ⟨B3, 1, none⟩ = some (.int .i64 cy)) := fun w' hb => ⟨two_of t2_w hb, two_of t3_w hb⟩
            have hr := Below.refl Wa.heap.size Wa
            simp only [hK, show ((0 : Nat) : Int) = 0 from rfl]
            go_cut [19] (fun p wx => ∃ Bx : Nat, p = .pointer (some ⟨Bx, 0, none⟩) ∧ Two wx Bx 23 (.int .i64 xx) (.int .i64 xy) ∧ Below Wa.heap.size Wa wx)
            case first =>
              go_region_held3 (fun w' => (w'.cell? ⟨B2, 0, none⟩ = some (.int .i64 bx) ∧ w'.cell? ⟨B2, 1, none⟩ = some (.int .i64 bz)) ∧ (w'.cell? ⟨B3, 0, none⟩ = some (.int .i64 cx) ∧ w'.cell? ⟨B3, 1, none⟩ = some (.int .i64 cy)))
                (first | (with_reducible exact hS _ hr.drew) | (with_reducible refine hS _ ?_; (repeat (first | (with_reducible assumption) | (with_reducible refine Below.drew ?_) | (with_reducible refine Below.setCell ?_ ?_ _) | (with_reducible refine Below.alloc ?_ ?_ _))); all_goals (first | omega | (simp; omega) | simp)))
                (first | (go_at_call 27; refine (at_any _ _ _).mono ?_; rintro r y1 ⟨rfl, hy1'⟩; have hy1 : Below Wa.heap.size Wa y1 := (by first | exact hr.drew.trans hy1' | exact (hr.alloc hr.size _).drew.trans (hy1'.mono (by simp))); have ly := hy1.size; (first | (refine cutI (Fr.two_b1 hy1') (fun p7 => ?_); obtain ⟨f1, f2, f3, f4⟩ := p7.facts; have lp := p7.lt) | skip)))
              all_goals
                go_wp2_with fail
                go_meet
                first | exact ⟨_, rfl, Two.new _ _ _ _, hy1.alloc hy1.size _⟩ | exact ⟨_, rfl, two_set2 p7 _ _, set2_below hy1 (Nat.le_refl _) _ _⟩
            case rest =>
              obtain ⟨Bx, rfl, tx, hbx⟩ := hcut
              have t1_x := t1_w.below hbx t1_w.lt
              clear t1_w
              have t2_x := t2_w.below hbx t2_w.lt
              clear t2_w
              have t3_x := t3_w.below hbx t3_w.lt
              clear t3_w
              have t5_x := t5_w.below hbx t5_w.lt
              clear t5_w
              have t6_x := t6_w.below hbx t6_w.lt
              clear t6_w
              have hbX := hbw.trans (hbx.mono hbw.size)
              clear hS hr hbw hbx
              obtain ⟨f1_0, f1_1, f1_2, f1_3⟩ := t1_x.facts
              obtain ⟨f2_0, f2_1, f2_2, f2_3⟩ := t2_x.facts
              obtain ⟨f3_0, f3_1, f3_2, f3_3⟩ := t3_x.facts
              obtain ⟨f5_0, f5_1, f5_2, f5_3⟩ := t5_x.facts
              obtain ⟨f6_0, f6_1, f6_2, f6_3⟩ := t6_x.facts
              obtain ⟨fx_0, fx_1, fx_2, fx_3⟩ := tx.facts
              go_upto_region 13 with fail
              clear f1_0 f1_1 f1_2 f1_3 f2_0 f2_1 f2_2 f2_3 f3_0 f3_1 f3_2 f3_3 f5_0 f5_1 f5_2 f5_3 f6_0 f6_1 f6_2 f6_3 fx_0 fx_1 fx_2 fx_3
              have hS : ∀ w' : World, Below wc.heap.size wc w' → (w'.cell? ⟨v1.heap.size + 1, 0, none⟩ = some (.int .i64 M) ∧ w'.cell? ⟨v1.heap.size + 1, 1, none⟩ = some (.int .i64 E)) ∧ (w'.cell? ⟨B1, 0, none⟩ = some (.int .i64 ax) ∧ w'.cell? ⟨B1, 1, none⟩ = some (.int .i64 ay)) ∧ (w'.cell? ⟨Bx, 0, none⟩ = some (.int .i64 xx) ∧ w'.cell? ⟨Bx, 1, none⟩ = some (.int .i64 xy)) := fun w' hb => ⟨two_of t6_x hb, two_of t1_x hb, two_of tx hb⟩
              have hr := Below.refl wc.heap.size wc
              go_region_held3 (fun w' => (w'.cell? ⟨v1.heap.size + 1, 0, none⟩ = some (.int .i64 M) ∧ w'.cell? ⟨v1.heap.size + 1, 1, none⟩ = some (.int .i64 E)) ∧ (w'.cell? ⟨B1, 0, none⟩ = some (.int .i64 ax) ∧ w'.cell? ⟨B1, 1, none⟩ = some (.int .i64 ay)) ∧ (w'.cell? ⟨Bx, 0, none⟩ = some (.int .i64 xx) ∧ w'.cell? ⟨Bx, 1, none⟩ = some (.int .i64 xy)))
                (first | (with_reducible exact hS _ hr.drew) | (with_reducible refine hS _ ?_; with_reducible assumption))
                (first
                  | (go_at_call 25; have hz := hy1; refine (HC.out _).mono ?_; rintro r y2 ⟨rfl, hy2'⟩; have hy2 : Below wc.heap.size wc y2 := hy1.trans (hy2'.mono hy1.size))
                  | (go_at_call 18; refine (HX.out _).mono ?_; rintro r y1 ⟨rfl, hy1'⟩; have hy1 : Below wc.heap.size wc y1 := hr.drew.trans hy1'))
              all_goals
                have t1_4 := t1_x.below hy2 t1_x.lt
                have t2_4 := t2_x.below hy2 t2_x.lt
                have t3_4 := t3_x.below hy2 t3_x.lt
                have t5_4 := t5_x.below hy2 t5_x.lt
                have t6_4 := t6_x.below hy2 t6_x.lt
                have tx_4 := tx.below hy2 tx.lt
                have hb4 := hbX.trans (hy2.mono hbX.size)
                obtain ⟨f1_0, f1_1, f1_2, f1_3⟩ := t1_4.facts
                obtain ⟨f2_0, f2_1, f2_2, f2_3⟩ := t2_4.facts
                obtain ⟨f3_0, f3_1, f3_2, f3_3⟩ := t3_4.facts
                obtain ⟨f5_0, f5_1, f5_2, f5_3⟩ := t5_4.facts
                obtain ⟨f6_0, f6_1, f6_2, f6_3⟩ := t6_4.facts
                obtain ⟨fx_0, fx_1, fx_2, fx_3⟩ := tx_4.facts
                go_wp2_with fail
                refine (HB.out _).mono ?_
                rintro r v5 ⟨rfl, hx5⟩
                clear f1_0 f1_1 f1_2 f1_3 f2_0 f2_1 f2_2 f2_3 f3_0 f3_1 f3_2 f3_3 f5_0 f5_1 f5_2 f5_3 f6_0 f6_1 f6_2 f6_3 fx_0 fx_1 fx_2 fx_3
                have t1_5 := t1_4.below hx5 t1_4.lt
                clear t1_4
                have t2_5 := t2_4.below hx5 t2_4.lt
                clear t2_4
                have t3_5 := t3_4.below hx5 t3_4.lt
                clear t3_4
                have t5_5 := t5_4.below hx5 t5_4.lt
                clear t5_4
                have t6_5 := t6_4.below hx5 t6_4.lt
                clear t6_4
                have tx_5 := tx_4.below hx5 tx_4.lt
                clear tx_4
                have hb5 := hb4.trans (hx5.mono hb4.size)
                clear hb4 hx5
                obtain ⟨f1_0, f1_1, f1_2, f1_3⟩ := t1_5.facts
                obtain ⟨f2_0, f2_1, f2_2, f2_3⟩ := t2_5.facts
                obtain ⟨f3_0, f3_1, f3_2, f3_3⟩ := t3_5.facts
                obtain ⟨f5_0, f5_1, f5_2, f5_3⟩ := t5_5.facts
                obtain ⟨f6_0, f6_1, f6_2, f6_3⟩ := t6_5.facts
                obtain ⟨fx_0, fx_1, fx_2, fx_3⟩ := tx_5.facts
                go_wp2_with fail
                go_ret
                exact ⟨rfl, hb5⟩
        · have h1 : 1 ≤ Y := by omega
          have hm : X % Y < Y := Nat.mod_lt _ (by omega)
          go_wp2_with fail
          go_quiet (fail)
          go_wp2_with fail
          go_roundw
          case rel => exact ⟨Y, X % Y, rfl, rfl, hY, by omega, by rw [← Hg.out, Nat.gcd_comm X Y, Nat.gcd_comm Y, ← Nat.gcd_rec], hbel.trans (Fr.below_drewN _ _ _)⟩
          case measure => simp [intOf]; omega
end Go.Proofs.Ytbkeennjoepmmaa.Ge
