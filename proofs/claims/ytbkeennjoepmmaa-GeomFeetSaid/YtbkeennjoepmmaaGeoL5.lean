/- The walk of GeomFeet. -/
import Derived.Test.YtbkeennjoepmmaaGeoInv
import Derived.Test.YtbkeennjoepmmaaGeoW5
import Derived.Test.YtbkeennjoepmmaaGeoH
import Derived.Test.YtbkeennjoepmmaaGeoFeet
import Derived.Test.YtbkeennjoepmmaaFrcW11
namespace Go.Proofs.Ytbkeennjoepmmaa.Ge
set_option linter.unusedVariables false
set_option linter.unusedSimpArgs false
open Go.RowKit
open Go.Proofs.Ytbkeennjoepmmaa.Fr (Two compare_any add_any valP cmpV cmpE addN addD addE)

/-- two cells of a block -/
def Cel (w : World) (B : Nat) (x y : Value) : Prop := w.cell? ⟨B, 0, none⟩ = some x ∧ w.cell? ⟨B, 1, none⟩ = some y
theorem Cel.facts {w : World} {B : Nat} {x y : Value} (h : Cel w B x y) : w.cell? ⟨B, 0, none⟩ = some x ∧ w.cell? ⟨B, 1, none⟩ = some y := h
theorem Cel.lt {w : World} {B : Nat} {x y : Value} (h : Cel w B x y) : B < w.heap.size := World.block_lt_of_cell? _ _ h.1
theorem Cel.below {w w' : World} {N B : Nat} {x y : Value} (h : Cel w B x y) (hb : Below N w w') (hlt : B < N) : Cel w' B x y := ⟨(hb.cell (p := ⟨B, 0, none⟩) hlt).trans h.1, (hb.cell (p := ⟨B, 1, none⟩) hlt).trans h.2⟩
theorem cel_of {w w' : World} {B : Nat} {x y : Value} (h : Cel w B x y) (hb : Below w.heap.size w w') : w'.cell? ⟨B, 0, none⟩ = some x ∧ w'.cell? ⟨B, 1, none⟩ = some y := h.below hb h.lt
theorem Cel.alloc {w : World} {B : Nat} {x y : Value} (h : Cel w B x y) (o : Obj) : Cel (w.alloc o) B x y := h.below ((Below.refl w.heap.size w).alloc (Nat.le_refl _) o) h.lt

theorem row_of (w : World) (t : TypeId) (cs : Array Value) : ∀ w', Below (w.alloc (.cells cs t)).heap.size (w.alloc (.cells cs t)) w' → ∀ j, w'.cell? ⟨w.heap.size, j, none⟩ = cs[j]? := fun w' hb j => by
  have hg : (w.alloc (.cells cs t)).heap[w.heap.size]? = some (.cells cs t (0, 0)) := by
    show (w.heap.push _)[w.heap.size]? = _
    rw [Array.getElem?_push, if_pos rfl]
  have e : w'.cell? ⟨w.heap.size, j, none⟩ = (w.alloc (.cells cs t)).cell? ⟨w.heap.size, j, none⟩ := hb.cell (p := ⟨w.heap.size, j, none⟩) (by simp)
  rw [e]
  simp only [World.cell?, hg]
  simp

set_option maxRecDepth 100000 in
set_option maxHeartbeats 8000000 in
theorem lawFeet (px py qx qy rx ry : Int) (hpx1 : -9223372036854775808 ≤ px) (hpx2 : px ≤ 9223372036854775807) (hpy1 : -9223372036854775808 ≤ py) (hpy2 : py ≤ 9223372036854775807) (hqx1 : -9223372036854775808 ≤ qx) (hqx2 : qx ≤ 9223372036854775807) (hqy1 : -9223372036854775808 ≤ qy) (hqy2 : qy ≤ 9223372036854775807) (hrx1 : -9223372036854775808 ≤ rx) (hrx2 : rx ≤ 9223372036854775807) (hry1 : -9223372036854775808 ≤ ry) (hry2 : ry ≤ 9223372036854775807) (w : World) :
    Calls Try.prog 8 #[.agg #[.int .i64 px, .int .i64 py], .agg #[.int .i64 qx, .int .i64 qy], .agg #[.int .i64 rx, .int .i64 ry]] w fun e w' => e = .returned (.bool true) ∧ Below w.heap.size w w' := by
  have HG1 := Lib.hid (fun w => grid_any px py w hpx1 hpx2 hpy1 hpy2)
  have hon1 := on_mod px py
  generalize px % 32768 = ax at *
  generalize py % 32768 = ay at *
  have HG2 := Lib.hid (fun w => grid_any qx qy w hqx1 hqx2 hqy1 hqy2)
  have hon2 := on_mod qx qy
  generalize qx % 32768 = bx at *
  generalize qy % 32768 = bz at *
  have HG3 := Lib.hid (fun w => grid_any rx ry w hrx1 hrx2 hry1 hry2)
  have hon3 := on_mod rx ry
  generalize rx % 32768 = cx at *
  generalize ry % 32768 = cy at *
  have b0_0 := Two.at (w := w) (B := w.heap.size) (by simp) 23 (.int .i64 px) (.int .i64 py)
  have b1_1 := Two.at (w := (w.alloc (.cells #[.int .i64 px, .int .i64 py] 23))) (B := w.heap.size + 1) (by simp) 23 (.int .i64 qx) (.int .i64 qy)
  have b0_1 := b0_0.alloc (.cells #[.int .i64 qx, .int .i64 qy] 23)
  have b2_2 := Two.at (w := ((w.alloc (.cells #[.int .i64 px, .int .i64 py] 23)).alloc (.cells #[.int .i64 qx, .int .i64 qy] 23))) (B := w.heap.size + 1 + 1) (by simp) 23 (.int .i64 rx) (.int .i64 ry)
  have b0_2 := b0_1.alloc (.cells #[.int .i64 rx, .int .i64 ry] 23)
  have b1_2 := b1_1.alloc (.cells #[.int .i64 rx, .int .i64 ry] 23)
  have hb0 : Below w.heap.size w _ := ((((Below.refl w.heap.size w).alloc (by simp <;> omega) (.cells #[.int .i64 px, .int .i64 py] 23)).alloc (by simp <;> omega) (.cells #[.int .i64 qx, .int .i64 qy] 23)).alloc (by simp <;> omega) (.cells #[.int .i64 rx, .int .i64 ry] 23))
  go_enter Try.func8, Try.ntmps8
  go_wp2_with fail
  refine (head_any _).mono ?_
  rintro r W ⟨rfl, hb1⟩
  have r0 := b0_2.below hb1 b0_2.lt
  have r1 := b1_2.below hb1 b1_2.lt
  have r2 := b2_2.below hb1 b2_2.lt
  have hbW := hb0.trans (hb1.mono hb0.size)
  clear b0_0 b0_1 b1_1 b0_2 b1_2 b2_2 hb0 hb1
  go_upto_region 2 with fail
  have hS : ∀ w' : World, Below W.heap.size W w' → (w'.cell? ⟨w.heap.size, 0, none⟩ = some (.int .i64 px) ∧ w'.cell? ⟨w.heap.size, 1, none⟩ = some (.int .i64 py)) ∧ (w'.cell? ⟨w.heap.size + 1, 0, none⟩ = some (.int .i64 qx) ∧ w'.cell? ⟨w.heap.size + 1, 1, none⟩ = some (.int .i64 qy)) ∧ (w'.cell? ⟨w.heap.size + 1 + 1, 0, none⟩ = some (.int .i64 rx) ∧ w'.cell? ⟨w.heap.size + 1 + 1, 1, none⟩ = some (.int .i64 ry)) := fun w' hb => ⟨two_of r0 hb, two_of r1 hb, two_of r2 hb⟩
  go_cut [8, 9, 10] (fun v1 v2 v3 wx => GridAt3 W ax ay bx bz cx cy v1 v2 v3 wx)
  case first => as_aux_lemma =>
    refine wp_region_held_drew (S := fun w' => (w'.cell? ⟨w.heap.size, 0, none⟩ = some (.int .i64 px) ∧ w'.cell? ⟨w.heap.size, 1, none⟩ = some (.int .i64 py)) ∧ (w'.cell? ⟨w.heap.size + 1, 0, none⟩ = some (.int .i64 qx) ∧ w'.cell? ⟨w.heap.size + 1, 1, none⟩ = some (.int .i64 qy)) ∧ (w'.cell? ⟨w.heap.size + 1 + 1, 0, none⟩ = some (.int .i64 rx) ∧ w'.cell? ⟨w.heap.size + 1 + 1, 1, none⟩ = some (.int .i64 ry))) (by kernel_rfl) (hS _ (Below.refl _ _).drew) (fun hHeld => ?_)
    refine wpAnyH_take (i := 0) (oi := { dst := some 28, op := Op.load 23 (Operand.tmp 3), type := 23, pos := _, after := #[], guard := none }) (v := .agg #[.int .i64 px, .int .i64 py]) rfl (by kernel_rfl) (by kernel_rfl) (by kernel_rfl) (fun _ _ _ h => h) (Or.inl ⟨by rfl, ?_⟩) (by assumption) ?_
    · intro w' hSw; (try dsimp only at hSw); go_simp
    simp only [Act.put, List.setIfInBounds_toArray, List.set_cons_zero, List.set_cons_succ]
    refine wpAnyH_take (i := 2) (oi := { dst := some 30, op := Op.load 23 (Operand.tmp 4), type := 23, pos := _, after := #[], guard := none }) (v := .agg #[.int .i64 qx, .int .i64 qy]) rfl (by kernel_rfl) (by kernel_rfl) (by kernel_rfl) (fun _ _ _ h => h) (Or.inl ⟨by rfl, ?_⟩) (by assumption) ?_
    · intro w' hSw; (try dsimp only at hSw); go_simp
    simp only [Act.put, List.setIfInBounds_toArray, List.set_cons_zero, List.set_cons_succ]
    refine wpAnyH_take (i := 4) (oi := { dst := some 32, op := Op.load 23 (Operand.tmp 5), type := 23, pos := _, after := #[], guard := none }) (v := .agg #[.int .i64 rx, .int .i64 ry]) rfl (by kernel_rfl) (by kernel_rfl) (by kernel_rfl) (fun _ _ _ h => h) (Or.inl ⟨by rfl, ?_⟩) (by assumption) ?_
    · intro w' hSw; (try dsimp only at hSw); go_simp
    simp only [Act.put, List.setIfInBounds_toArray, List.set_cons_zero, List.set_cons_succ]
    refine Ri.inv_any (I := fun L a x => ∃ (b1 b2 b3 m1 m2 m3 : Bool) (Y1 Y2 Y3 X1 X2 X3 : Value) (B1 B2 B3 : Nat), L = #[true, b1, true, b2, true, b3, m1, m2, m3, false, false, false] ∧ a = { tmps := #[.agg #[.int .i64 px, .int .i64 py], .agg #[.int .i64 qx, .int .i64 qy], .agg #[.int .i64 rx, .int .i64 ry], .pointer (some ⟨w.heap.size, 0, none⟩), .pointer (some ⟨w.heap.size + 1, 0, none⟩), .pointer (some ⟨w.heap.size + 1 + 1, 0, none⟩), .bool false, .bool true, X1, X2, X3, undef, undef, undef, undef, undef, undef, undef, undef, undef, undef, undef, undef, undef, undef, undef, undef, .bool true, .agg #[.int .i64 px, .int .i64 py], Y1, .agg #[.int .i64 qx, .int .i64 qy], Y2, .agg #[.int .i64 rx, .int .i64 ry], Y3, undef, undef, undef, undef, undef, undef, undef, undef, undef, undef, undef, undef, undef, undef, undef, undef, undef, undef, undef, undef, undef, undef, undef, undef, undef, undef, undef, undef, undef, undef, undef, undef, undef, undef, undef, undef, undef, undef, undef, undef, undef, undef, undef, undef, undef, undef, undef, undef, undef, undef, undef, undef, undef, undef, undef, undef, undef, undef, undef, undef, undef, undef, undef, undef, undef, undef, undef, undef, undef, undef, undef, undef, undef, undef, undef, undef, undef, undef, undef, undef, undef, undef, undef, undef, undef, undef, undef, undef, undef, undef, undef, undef, undef, undef, undef, undef, undef, undef, undef, undef, undef, undef, undef, undef, undef, undef, undef, undef, undef, undef, undef, undef, undef, undef, undef, undef, undef, undef, undef, undef, undef, undef, undef, undef, undef, undef, undef, undef, undef, undef, undef, undef, undef, undef, undef, undef, undef], defers := [] } ∧ Inv3 W x (.agg #[.int .i64 ax, .int .i64 ay]) (.agg #[.int .i64 bx, .int .i64 bz]) (.agg #[.int .i64 cx, .int .i64 cy]) b1 b2 b3 m1 m2 m3 Y1 Y2 Y3 X1 X2 X3 B1 B2 B3) (f0 := 3) ?_ ?_ 6 _ _ _ (by decide) ⟨false, false, false, false, false, false, _, _, _, _, _, _, 0, 0, 0, rfl, rfl, Inv3.start _ _ _ _ _ _ _ _ _ _⟩ hHeld
    · rintro L a x ⟨b1, b2, b3, m1, m2, m3, Y1, Y2, Y3, X1, X2, X3, B1, B2, B3, rfl, rfl, hI⟩ hS' hn
      obtain ⟨rfl, rfl, rfl, rfl, rfl, rfl⟩ := Ri.full3 hn
      obtain rfl := hI.y1 rfl
      obtain rfl := hI.y2 rfl
      obtain rfl := hI.y3 rfl
      obtain ⟨rfl, l1, t1⟩ := hI.x1 rfl
      obtain ⟨rfl, l2, t2⟩ := hI.x2 rfl
      obtain ⟨rfl, l3, t3⟩ := hI.x3 rfl
      have d12 := hI.d12 rfl rfl
      have d13 := hI.d13 rfl rfl
      have d23 := hI.d23 rfl rfl
      have hb2 := hI.below
      clear hI hn hHeld hS'
      obtain ⟨c1, c2, c3, c4⟩ := t1.facts
      refine wpAnyH_ready (rs := [9]) (by kernel_rfl) (by simp) ?_
      refine AllReadyH.cons rfl (fun K hK => ?_) AllReadyH.nil
      go_simp
      have hb2_0 := set2_below hb2 l1 (.int .i64 ax) (.int .i64 ay)
      have t1_0 := two_set2 t1 (.int .i64 ax) (.int .i64 ay)
      have t2_0 := two_keep2 (C := B1) t2 (.int .i64 ax) (.int .i64 ay) (Ne.symm d12)
      have t3_0 := two_keep2 (C := B1) t3 (.int .i64 ax) (.int .i64 ay) (Ne.symm d13)
      refine hK.out _ _ (hS _ hb2_0) (fun hHeld => ?_)
      clear hK K c1 c2 c3 c4 hHeld
      obtain ⟨c1, c2, c3, c4⟩ := t2_0.facts
      refine wpAnyH_ready (rs := [10]) (by kernel_rfl) (by simp) ?_
      refine AllReadyH.cons rfl (fun K hK => ?_) AllReadyH.nil
      go_simp
      have hb2_1 := set2_below hb2_0 l2 (.int .i64 bx) (.int .i64 bz)
      have t1_1 := two_keep2 (C := B2) t1_0 (.int .i64 bx) (.int .i64 bz) d12
      have t2_1 := two_set2 t2_0 (.int .i64 bx) (.int .i64 bz)
      have t3_1 := two_keep2 (C := B2) t3_0 (.int .i64 bx) (.int .i64 bz) (Ne.symm d23)
      refine hK.out _ _ (hS _ hb2_1) (fun hHeld => ?_)
      clear hK K c1 c2 c3 c4 hHeld
      obtain ⟨c1, c2, c3, c4⟩ := t3_1.facts
      refine wpAnyH_ready (rs := [11]) (by kernel_rfl) (by simp) ?_
      refine AllReadyH.cons rfl (fun K hK => ?_) AllReadyH.nil
      go_simp
      have hb2_2 := set2_below hb2_1 l3 (.int .i64 cx) (.int .i64 cy)
      have t1_2 := two_keep2 (C := B3) t1_1 (.int .i64 cx) (.int .i64 cy) d13
      have t2_2 := two_keep2 (C := B3) t2_1 (.int .i64 cx) (.int .i64 cy) d23
      have t3_2 := two_set2 t3_1 (.int .i64 cx) (.int .i64 cy)
      refine hK.out _ _ (hS _ hb2_2) (fun hHeld => ?_)
      clear hK K c1 c2 c3 c4 hHeld
      refine wpAnyH_done (by kernel_rfl) ?_ _
      go_wp2_with fail
      go_meet
      exact ⟨_, _, _, rfl, rfl, rfl, t1_2, t2_2, t3_2, hb2_2⟩
    · rintro L a x ⟨b1, b2, b3, m1, m2, m3, Y1, Y2, Y3, X1, X2, X3, B1, B2, B3, rfl, rfl, hI⟩ hS' hn
      obtain ⟨hne, hi⟩ := Ri.ready3 (by kernel_rfl) hI.o1 hI.o2 hn
      refine ⟨hne, fun i hm => ?_⟩
      rcases hi i hm with ⟨rfl, rfl⟩ | ⟨rfl, rfl, hp⟩ | ⟨rfl, rfl, hp⟩ | ⟨rfl, rfl⟩ | ⟨rfl, rfl⟩ | ⟨rfl, rfl⟩
      all_goals clear hi hm hne hn
      · refine Ri.step_shut rfl (fun K hK => ?_)
        go_simp
        go_at_call 24
        refine (HG1.out _).mono ?_
        rintro r x' ⟨rfl, hx⟩
        go_simp
        refine hK.out _ _ (hS _ (hI.below.trans (hx.mono hI.below.size))) ⟨true, b2, b3, m1, m2, m3, _, Y2, Y3, X1, X2, X3, B1, B2, B3, rfl, rfl, hI.call1 hx⟩
      · refine Ri.step_shut rfl (fun K hK => ?_)
        go_simp
        go_at_call 24
        refine (HG2.out _).mono ?_
        rintro r x' ⟨rfl, hx⟩
        go_simp
        refine hK.out _ _ (hS _ (hI.below.trans (hx.mono hI.below.size))) ⟨_, true, b3, m1, m2, m3, Y1, _, Y3, X1, X2, X3, B1, B2, B3, rfl, rfl, hI.call2 hp hx⟩
      · refine Ri.step_shut rfl (fun K hK => ?_)
        go_simp
        go_at_call 24
        refine (HG3.out _).mono ?_
        rintro r x' ⟨rfl, hx⟩
        go_simp
        refine hK.out _ _ (hS _ (hI.below.trans (hx.mono hI.below.size))) ⟨b1, _, true, m1, m2, m3, Y1, Y2, _, X1, X2, X3, B1, B2, B3, rfl, rfl, hI.call3 hp hx⟩
      · refine Ri.step_shut rfl (fun K hK => ?_)
        go_simp
        refine hK.out _ _ (hS _ (hI.below.alloc hI.below.size _)) ⟨b1, b2, b3, true, m2, m3, Y1, Y2, Y3, _, X2, X3, _, B2, B3, rfl, rfl, hI.made1⟩
      · refine Ri.step_shut rfl (fun K hK => ?_)
        go_simp
        refine hK.out _ _ (hS _ (hI.below.alloc hI.below.size _)) ⟨b1, b2, b3, m1, true, m3, Y1, Y2, Y3, X1, _, X3, B1, _, B3, rfl, rfl, hI.made2⟩
      · refine Ri.step_shut rfl (fun K hK => ?_)
        go_simp
        refine hK.out _ _ (hS _ (hI.below.alloc hI.below.size _)) ⟨b1, b2, b3, m1, m2, true, Y1, Y2, Y3, X1, X2, _, B1, B2, _, rfl, rfl, hI.made3⟩
  case rest =>
    obtain ⟨B1, B2, B3, rfl, rfl, rfl, t1, t2, t3, hbx⟩ := hcut
    have hbY := hbW.trans (hbx.mono hbW.size)
    clear hS hbx hbW r0 r1 r2 HG1 HG2 HG3
    have HF := Lib.hid (fun w => Foot_any ax ay bx bz cx cy w)
    rw [if_pos ⟨hon1, hon2, hon3⟩] at HF
    have HG := Lib.hid (fun w => Foot_any ax ay cx cy bx bz w)
    rw [if_pos ⟨hon1, hon3, hon2⟩, (ft_rev ax ay bx bz cx cy).1, (ft_rev ax ay bx bz cx cy).2] at HG
    have HX1 := Lib.hid (fun w => Dist_any ax ay bx bz w)
    rw [dist_on hon1 hon2] at HX1
    have HX2 := Lib.hid (fun w => Dist_any ax ay cx cy w)
    rw [dist_on hon1 hon3] at HX2
    have HB := Lib.hid (fun w => Between_any ax ay bx bz cx cy w)
    have HNO := Lib.hid (ft_none hon1 hon2 hon3)
    obtain ⟨v1, v2⟩ := ft_val hon1 hon2 hon3
    have hd1 := dist_bd hon1 hon2
    have hd2 := dist_bd hon1 hon3
    have vX1 := val_one hd1.1 (by omega)
    have vX2 := val_one hd2.1 (by omega)
    obtain ⟨⟨k1, k2⟩, k3, k4, k5⟩ := ft_cmps hon1 hon2 hon3
    have v0 : valP 0 1 := val_one (by decide) (by decide)
    have v3 : valP 1 1 := val_one (by decide) (by decide)
    have HC0 := Lib.hid (fun w => compare_any 0 1 (ftN ax ay bx bz cx cy) (ftD ax ay bx bz cx cy) w)
    have c0 := cmp_le v0 v1 k1
    rw [c0.1] at HC0
    have z0 := c0.2
    generalize cmpV 0 1 (ftN ax ay bx bz cx cy) (ftD ax ay bx bz cx cy) = Z0 at *
    clear c0
    have HC1 := Lib.hid (fun w => compare_any (ftN ax ay bx bz cx cy) (ftD ax ay bx bz cx cy) 1 1 w)
    have c1 := cmp_le v1 v3 k2
    rw [c1.1] at HC1
    have z1 := c1.2
    generalize cmpV (ftN ax ay bx bz cx cy) (ftD ax ay bx bz cx cy) 1 1 = Z1 at *
    clear c1
    have HC2 := Lib.hid (fun w => compare_any 0 1 (ftM ax ay bx bz cx cy) (ftE ax ay bx bz cx cy) w)
    have c2 := cmp_le v0 v2 k3
    rw [c2.1] at HC2
    have z2 := c2.2
    generalize cmpV 0 1 (ftM ax ay bx bz cx cy) (ftE ax ay bx bz cx cy) = Z2 at *
    clear c2
    have HC3 := Lib.hid (fun w => compare_any (ftM ax ay bx bz cx cy) (ftE ax ay bx bz cx cy) (distN ax ay bx bz) 1 w)
    have c3 := cmp_le v2 vX1 k4
    rw [c3.1] at HC3
    have z3 := c3.2
    generalize cmpV (ftM ax ay bx bz cx cy) (ftE ax ay bx bz cx cy) (distN ax ay bx bz) 1 = Z3 at *
    clear c3
    have HC4 := Lib.hid (fun w => compare_any (ftM ax ay bx bz cx cy) (ftE ax ay bx bz cx cy) (distN ax ay cx cy) 1 w)
    have c4 := cmp_le v2 vX2 k5
    rw [c4.1] at HC4
    have z4 := c4.2
    generalize cmpV (ftM ax ay bx bz cx cy) (ftE ax ay bx bz cx cy) (distN ax ay cx cy) 1 = Z4 at *
    clear c4
    have HSUM := Lib.hid (fun h => ft_sum (px := ax) (py := ay) (ax := bx) (ay := bz) (bx := cx) (bz := cy) hon1 hon2 hon3 h)
    have HSA := Lib.hid (show bx = cx ∧ bz = cy → (ftN ax ay bx bz cx cy = 0 ∧ ftD ax ay bx bz cx cy = 1) ∧ ftN ax ay cx cy bx bz = 0 ∧ ftD ax ay cx cy bx bz = 1 by rintro ⟨rfl, rfl⟩; exact ⟨ft_same .., ft_same ..⟩)
    have HCA := Lib.hid (ft_cases ax ay bx bz cx cy)
    have HAD := Lib.hid (fun w => add_any (ftN ax ay bx bz cx cy) (ftD ax ay bx bz cx cy) (ftN ax ay cx cy bx bz) (ftD ax ay cx cy bx bz) w)
    clear v0 v1 v2 v3 vX1 vX2 k1 k2 k3 k4 k5 hd1 hd2 hon1 hon2 hon3
    generalize ftN ax ay bx bz cx cy = N at *
    generalize ftD ax ay bx bz cx cy = D at *
    generalize ftM ax ay bx bz cx cy = M at *
    generalize ftE ax ay bx bz cx cy = E at *
    generalize ftN ax ay cx cy bx bz = N2 at *
    generalize ftD ax ay cx cy bx bz = D2 at *
    generalize distN ax ay bx bz = X1 at *
    generalize distN ax ay cx cy = X2 at *
    generalize betB ax ay bx bz cx cy = R at *
    have qM : (M == M) = true := by simp
    have qE : (E == E) = true := by simp
    obtain ⟨f1_0, f1_1, f1_2, f1_3⟩ := t1.facts
    obtain ⟨f2_0, f2_1, f2_2, f2_3⟩ := t2.facts
    obtain ⟨f3_0, f3_1, f3_2, f3_3⟩ := t3.facts
    go_wp2_with fail
    refine (HF.out _).mono ?_
    rintro r v1 ⟨rfl, hx1⟩
    clear f1_0 f1_1 f1_2 f1_3 f2_0 f2_1 f2_2 f2_3 f3_0 f3_1 f3_2 f3_3
    have t1_1 := t1.below hx1 t1.lt
    clear t1
    have t2_1 := t2.below hx1 t2.lt
    clear t2
    have t3_1 := t3.below hx1 t3.lt
    clear t3
    have hb1 := hbY.trans (hx1.mono hbY.size)
    clear hbY hx1
    have t1_2 := (t1_1.alloc (.cells #[.int .i64 N, .int .i64 D] 26)).alloc (.cells #[.int .i64 M, .int .i64 E] 26)
    clear t1_1
    have t2_2 := (t2_1.alloc (.cells #[.int .i64 N, .int .i64 D] 26)).alloc (.cells #[.int .i64 M, .int .i64 E] 26)
    clear t2_1
    have t3_2 := (t3_1.alloc (.cells #[.int .i64 N, .int .i64 D] 26)).alloc (.cells #[.int .i64 M, .int .i64 E] 26)
    clear t3_1
    have t5_2 := (Two.at (w := v1) (B := v1.heap.size) (by simp) 26 (.int .i64 N) (.int .i64 D)).alloc (.cells #[.int .i64 M, .int .i64 E] 26)
    have t6_2 := Two.at (w := v1.alloc (.cells #[.int .i64 N, .int .i64 D] 26)) (B := v1.heap.size + 1) (by simp) 26 (.int .i64 M) (.int .i64 E)
    have hb2 := (hb1.alloc hb1.size (.cells #[.int .i64 N, .int .i64 D] 26)).alloc (Nat.le_trans hb1.size ((Below.refl _ _).alloc (Nat.le_refl _) _).size) (.cells #[.int .i64 M, .int .i64 E] 26)
    clear hb1
    obtain ⟨f1_0, f1_1, f1_2, f1_3⟩ := t1_2.facts
    obtain ⟨f2_0, f2_1, f2_2, f2_3⟩ := t2_2.facts
    obtain ⟨f3_0, f3_1, f3_2, f3_3⟩ := t3_2.facts
    obtain ⟨f5_0, f5_1, f5_2, f5_3⟩ := t5_2.facts
    obtain ⟨f6_0, f6_1, f6_2, f6_3⟩ := t6_2.facts
    go_wp2_with fail
    refine (HG.out _).mono ?_
    rintro r v3 ⟨rfl, hx3⟩
    clear f1_0 f1_1 f1_2 f1_3 f2_0 f2_1 f2_2 f2_3 f3_0 f3_1 f3_2 f3_3 f5_0 f5_1 f5_2 f5_3 f6_0 f6_1 f6_2 f6_3
    have t1_3 := t1_2.below hx3 t1_2.lt
    clear t1_2
    have t2_3 := t2_2.below hx3 t2_2.lt
    clear t2_2
    have t3_3 := t3_2.below hx3 t3_2.lt
    clear t3_2
    have t5_3 := t5_2.below hx3 t5_2.lt
    clear t5_2
    have t6_3 := t6_2.below hx3 t6_2.lt
    clear t6_2
    have hb3 := hb2.trans (hx3.mono hb2.size)
    clear hb2 hx3
    have t1_4 := (t1_3.alloc (.cells #[.int .i64 N2, .int .i64 D2] 26)).alloc (.cells #[.int .i64 M, .int .i64 E] 26)
    clear t1_3
    have t2_4 := (t2_3.alloc (.cells #[.int .i64 N2, .int .i64 D2] 26)).alloc (.cells #[.int .i64 M, .int .i64 E] 26)
    clear t2_3
    have t3_4 := (t3_3.alloc (.cells #[.int .i64 N2, .int .i64 D2] 26)).alloc (.cells #[.int .i64 M, .int .i64 E] 26)
    clear t3_3
    have t5_4 := (t5_3.alloc (.cells #[.int .i64 N2, .int .i64 D2] 26)).alloc (.cells #[.int .i64 M, .int .i64 E] 26)
    clear t5_3
    have t6_4 := (t6_3.alloc (.cells #[.int .i64 N2, .int .i64 D2] 26)).alloc (.cells #[.int .i64 M, .int .i64 E] 26)
    clear t6_3
    have t7_4 := (Two.at (w := v3) (B := v3.heap.size) (by simp) 26 (.int .i64 N2) (.int .i64 D2)).alloc (.cells #[.int .i64 M, .int .i64 E] 26)
    have t8_4 := Two.at (w := v3.alloc (.cells #[.int .i64 N2, .int .i64 D2] 26)) (B := v3.heap.size + 1) (by simp) 26 (.int .i64 M) (.int .i64 E)
    have hb4 := (hb3.alloc hb3.size (.cells #[.int .i64 N2, .int .i64 D2] 26)).alloc (Nat.le_trans hb3.size ((Below.refl _ _).alloc (Nat.le_refl _) _).size) (.cells #[.int .i64 M, .int .i64 E] 26)
    clear hb3
    obtain ⟨f1_0, f1_1, f1_2, f1_3⟩ := t1_4.facts
    obtain ⟨f2_0, f2_1, f2_2, f2_3⟩ := t2_4.facts
    obtain ⟨f3_0, f3_1, f3_2, f3_3⟩ := t3_4.facts
    obtain ⟨f5_0, f5_1, f5_2, f5_3⟩ := t5_4.facts
    obtain ⟨f6_0, f6_1, f6_2, f6_3⟩ := t6_4.facts
    obtain ⟨f7_0, f7_1, f7_2, f7_3⟩ := t7_4.facts
    obtain ⟨f8_0, f8_1, f8_2, f8_3⟩ := t8_4.facts
    go_upto_region 7 with fail
    clear f1_0 f1_1 f1_2 f1_3 f2_0 f2_1 f2_2 f2_3 f3_0 f3_1 f3_2 f3_3 f5_0 f5_1 f5_2 f5_3 f6_0 f6_1 f6_2 f6_3 f7_0 f7_1 f7_2 f7_3 f8_0 f8_1 f8_2 f8_3
    have t1_5 := (t1_4.alloc (.cells #[.int .i64 0, .int .i64 1] 26)).alloc (.cells #[.int .i64 1, .int .i64 1] 26)
    clear t1_4
    have t2_5 := (t2_4.alloc (.cells #[.int .i64 0, .int .i64 1] 26)).alloc (.cells #[.int .i64 1, .int .i64 1] 26)
    clear t2_4
    have t3_5 := (t3_4.alloc (.cells #[.int .i64 0, .int .i64 1] 26)).alloc (.cells #[.int .i64 1, .int .i64 1] 26)
    clear t3_4
    have t5_5 := (t5_4.alloc (.cells #[.int .i64 0, .int .i64 1] 26)).alloc (.cells #[.int .i64 1, .int .i64 1] 26)
    clear t5_4
    have t6_5 := (t6_4.alloc (.cells #[.int .i64 0, .int .i64 1] 26)).alloc (.cells #[.int .i64 1, .int .i64 1] 26)
    clear t6_4
    have t7_5 := (t7_4.alloc (.cells #[.int .i64 0, .int .i64 1] 26)).alloc (.cells #[.int .i64 1, .int .i64 1] 26)
    clear t7_4
    have t8_5 := (t8_4.alloc (.cells #[.int .i64 0, .int .i64 1] 26)).alloc (.cells #[.int .i64 1, .int .i64 1] 26)
    clear t8_4
    have t9_5 := (Two.at (w := ((v3.alloc (.cells #[.int .i64 N2, .int .i64 D2] 26)).alloc (.cells #[.int .i64 M, .int .i64 E] 26))) (B := v3.heap.size + 1 + 1) (by simp) 26 (.int .i64 0) (.int .i64 1)).alloc (.cells #[.int .i64 1, .int .i64 1] 26)
    have tA_5 := Two.at (w := ((v3.alloc (.cells #[.int .i64 N2, .int .i64 D2] 26)).alloc (.cells #[.int .i64 M, .int .i64 E] 26)).alloc (.cells #[.int .i64 0, .int .i64 1] 26)) (B := v3.heap.size + 1 + 1 + 1) (by simp) 26 (.int .i64 1) (.int .i64 1)
    have hb5 := (hb4.alloc hb4.size (.cells #[.int .i64 0, .int .i64 1] 26)).alloc (Nat.le_trans hb4.size ((Below.refl _ _).alloc (Nat.le_refl _) _).size) (.cells #[.int .i64 1, .int .i64 1] 26)
    clear hb4
    obtain ⟨f1_0, f1_1, f1_2, f1_3⟩ := t1_5.facts
    obtain ⟨f2_0, f2_1, f2_2, f2_3⟩ := t2_5.facts
    obtain ⟨f3_0, f3_1, f3_2, f3_3⟩ := t3_5.facts
    obtain ⟨f5_0, f5_1, f5_2, f5_3⟩ := t5_5.facts
    obtain ⟨f6_0, f6_1, f6_2, f6_3⟩ := t6_5.facts
    obtain ⟨f7_0, f7_1, f7_2, f7_3⟩ := t7_5.facts
    obtain ⟨f8_0, f8_1, f8_2, f8_3⟩ := t8_5.facts
    obtain ⟨f9_0, f9_1, f9_2, f9_3⟩ := t9_5.facts
    obtain ⟨fA_0, fA_1, fA_2, fA_3⟩ := tA_5.facts
    go_upto_region 8 with fail
    clear f1_0 f1_1 f1_2 f1_3 f2_0 f2_1 f2_2 f2_3 f3_0 f3_1 f3_2 f3_3 f5_0 f5_1 f5_2 f5_3 f6_0 f6_1 f6_2 f6_3 f7_0 f7_1 f7_2 f7_3 f8_0 f8_1 f8_2 f8_3 f9_0 f9_1 f9_2 f9_3 fA_0 fA_1 fA_2 fA_3
    generalize ((((v3.alloc (.cells #[.int .i64 N2, .int .i64 D2] 26)).alloc (.cells #[.int .i64 M, .int .i64 E] 26)).alloc (.cells #[.int .i64 0, .int .i64 1] 26)).alloc (.cells #[.int .i64 1, .int .i64 1] 26)) = V at *
    have hS : ∀ w' : World, Below V.heap.size V w' → (w'.cell? ⟨B1, 0, none⟩ = some (.int .i64 ax) ∧ w'.cell? ⟨B1, 1, none⟩ = some (.int .i64 ay)) ∧ (w'.cell? ⟨B2, 0, none⟩ = some (.int .i64 bx) ∧ w'.cell? ⟨B2, 1, none⟩ = some (.int .i64 bz)) ∧ (w'.cell? ⟨B3, 0, none⟩ = some (.int .i64 cx) ∧ w'.cell? ⟨B3, 1, none⟩ = some (.int .i64 cy)) := fun w' hb => ⟨two_of t1_5 hb, two_of t2_5 hb, two_of t3_5 hb⟩
    have hr := Below.refl V.heap.size V
    go_cut [19, 20] (fun p q wx => ∃ Bp Bq : Nat, p = .pointer (some ⟨Bp, 0, none⟩) ∧ q = .pointer (some ⟨Bq, 0, none⟩) ∧ Cel wx Bp (.int .i64 X1) (.int .i64 1) ∧ Cel wx Bq (.int .i64 X2) (.int .i64 1) ∧ Below V.heap.size V wx)
    case first => as_aux_lemma =>
      go_region_held3 (fun w' => (w'.cell? ⟨B1, 0, none⟩ = some (.int .i64 ax) ∧ w'.cell? ⟨B1, 1, none⟩ = some (.int .i64 ay)) ∧ (w'.cell? ⟨B2, 0, none⟩ = some (.int .i64 bx) ∧ w'.cell? ⟨B2, 1, none⟩ = some (.int .i64 bz)) ∧ (w'.cell? ⟨B3, 0, none⟩ = some (.int .i64 cx) ∧ w'.cell? ⟨B3, 1, none⟩ = some (.int .i64 cy)))
        (first | (with_reducible exact hS _ hr.drew) | (with_reducible refine hS _ ?_; (repeat (first | (with_reducible assumption) | (with_reducible refine Below.drew ?_) | (with_reducible refine Below.setCell ?_ ?_ _) | (with_reducible refine Below.alloc ?_ ?_ _))); all_goals (first | omega | (simp; omega) | simp)))
        (first
          | (go_at_call 18; have hz := hb3; refine (HX2.out _).mono ?_; rintro r w4 ⟨rfl, hb4'⟩;
              have hb34 : Below w3.heap.size w3 w4 := (by first | exact hb4' | exact ((Below.refl w3.heap.size w3).alloc (Nat.le_refl _) _).trans (hb4'.mono (by simp)) | exact (((Below.refl w3.heap.size w3).alloc (Nat.le_refl _) _).alloc (by simp) _).trans (hb4'.mono (by simp; omega)));
              have hb4 : Below V.heap.size V w4 := hb3.trans (hb34.mono hb3.size); have z4 := hb34.size;
              (try (refine cutI (p7.below hb34 p7.lt) (fun q7 => ?_); obtain ⟨f1, f2, f3, f4⟩ := q7.facts; have lf := q7.lt));
              (try (refine cutI (p8.below hb34 p8.lt) (fun q8 => ?_); obtain ⟨g1, g2, g3, g4⟩ := q8.facts; have lg := q8.lt));
              (first | (refine cutI (Fr.two_b4 hb4').1 (fun x7 => ?_); refine cutI (Fr.two_b4 hb4').2 (fun x8 => ?_); obtain ⟨f1, f2, f3, f4⟩ := x7.facts; obtain ⟨g1, g2, g3, g4⟩ := x8.facts; have lf := x7.lt; have lg := x8.lt) | (refine cutI (Fr.two_b3 hb4') (fun x7 => ?_); obtain ⟨f5, f6, f7, f8⟩ := x7.facts; have lx := x7.lt) | skip))
          | (go_at_call 18; refine (HX1.out _).mono ?_; rintro r w3 ⟨rfl, hb3'⟩;
              have hb3 : Below V.heap.size V w3 := (by first | exact hr.drew.trans hb3' | exact (hr.alloc hr.size _).drew.trans (hb3'.mono (by simp)) | exact ((hr.alloc hr.size _).alloc (by simp) _).drew.trans (hb3'.mono (by simp; omega)));
              have z3 := hb3.size;
              (first | (refine cutI (Fr.two_b2 hb3').1 (fun p7 => ?_); refine cutI (Fr.two_b2 hb3').2 (fun p8 => ?_); have lp := p7.lt; have lq := p8.lt) | (refine cutI (Fr.two_b1 hb3') (fun p7 => ?_); have lp := p7.lt) | skip)))
      all_goals
        go_wp2_with fail
        go_meet
        refine ⟨_, _, rfl, rfl, ⟨?_, ?_⟩, ⟨?_, ?_⟩, ?_⟩
        · go_simp
        · go_simp
        · go_simp
        · go_simp
        · (repeat (first | (with_reducible assumption) | (with_reducible refine Below.drew ?_) | (with_reducible refine Below.setCell ?_ ?_ _) | (with_reducible refine Below.alloc ?_ ?_ _))); all_goals (first | omega | (simp; omega) | simp)
    case rest =>
      obtain ⟨Bp, Bq, rfl, rfl, tp, tq, hbq⟩ := hcut
      have t1_q := t1_5.below hbq t1_5.lt
      clear t1_5
      have t2_q := t2_5.below hbq t2_5.lt
      clear t2_5
      have t3_q := t3_5.below hbq t3_5.lt
      clear t3_5
      have t5_q := t5_5.below hbq t5_5.lt
      clear t5_5
      have t6_q := t6_5.below hbq t6_5.lt
      clear t6_5
      have t7_q := t7_5.below hbq t7_5.lt
      clear t7_5
      have t8_q := t8_5.below hbq t8_5.lt
      clear t8_5
      have t9_q := t9_5.below hbq t9_5.lt
      clear t9_5
      have tA_q := tA_5.below hbq tA_5.lt
      clear tA_5
      have hbQ := hb5.trans (hbq.mono hb5.size)
      clear hS hr hb5 hbq
      obtain ⟨f1_0, f1_1, f1_2, f1_3⟩ := t1_q.facts
      obtain ⟨f2_0, f2_1, f2_2, f2_3⟩ := t2_q.facts
      obtain ⟨f3_0, f3_1, f3_2, f3_3⟩ := t3_q.facts
      obtain ⟨f5_0, f5_1, f5_2, f5_3⟩ := t5_q.facts
      obtain ⟨f6_0, f6_1, f6_2, f6_3⟩ := t6_q.facts
      obtain ⟨f7_0, f7_1, f7_2, f7_3⟩ := t7_q.facts
      obtain ⟨f8_0, f8_1, f8_2, f8_3⟩ := t8_q.facts
      obtain ⟨f9_0, f9_1, f9_2, f9_3⟩ := t9_q.facts
      obtain ⟨fA_0, fA_1, fA_2, fA_3⟩ := tA_q.facts
      obtain ⟨fp_0, fp_1⟩ := tp.facts
      obtain ⟨fq_0, fq_1⟩ := tq.facts
      go_upto_region 11 with fail
      clear f1_0 f1_1 f1_2 f1_3 f2_0 f2_1 f2_2 f2_3 f3_0 f3_1 f3_2 f3_3 f5_0 f5_1 f5_2 f5_3 f6_0 f6_1 f6_2 f6_3 f7_0 f7_1 f7_2 f7_3 f8_0 f8_1 f8_2 f8_3 f9_0 f9_1 f9_2 f9_3 fA_0 fA_1 fA_2 fA_3 fp_0 fp_1 fq_0 fq_1
      have HROW := Lib.hid (row_of wc 37 #[.int .i64 0, .int .i64 1, .int .i64 N, .int .i64 D, .int .i64 N, .int .i64 D, .int .i64 1, .int .i64 1, .int .i64 0, .int .i64 1, .int .i64 M, .int .i64 E, .int .i64 M, .int .i64 E, .int .i64 X1, .int .i64 1, .int .i64 M, .int .i64 E, .int .i64 X2, .int .i64 1])
      have t1_r := t1_q.alloc (.cells #[.int .i64 0, .int .i64 1, .int .i64 N, .int .i64 D, .int .i64 N, .int .i64 D, .int .i64 1, .int .i64 1, .int .i64 0, .int .i64 1, .int .i64 M, .int .i64 E, .int .i64 M, .int .i64 E, .int .i64 X1, .int .i64 1, .int .i64 M, .int .i64 E, .int .i64 X2, .int .i64 1] 37)
      clear t1_q
      have t2_r := t2_q.alloc (.cells #[.int .i64 0, .int .i64 1, .int .i64 N, .int .i64 D, .int .i64 N, .int .i64 D, .int .i64 1, .int .i64 1, .int .i64 0, .int .i64 1, .int .i64 M, .int .i64 E, .int .i64 M, .int .i64 E, .int .i64 X1, .int .i64 1, .int .i64 M, .int .i64 E, .int .i64 X2, .int .i64 1] 37)
      clear t2_q
      have t3_r := t3_q.alloc (.cells #[.int .i64 0, .int .i64 1, .int .i64 N, .int .i64 D, .int .i64 N, .int .i64 D, .int .i64 1, .int .i64 1, .int .i64 0, .int .i64 1, .int .i64 M, .int .i64 E, .int .i64 M, .int .i64 E, .int .i64 X1, .int .i64 1, .int .i64 M, .int .i64 E, .int .i64 X2, .int .i64 1] 37)
      clear t3_q
      have t5_r := t5_q.alloc (.cells #[.int .i64 0, .int .i64 1, .int .i64 N, .int .i64 D, .int .i64 N, .int .i64 D, .int .i64 1, .int .i64 1, .int .i64 0, .int .i64 1, .int .i64 M, .int .i64 E, .int .i64 M, .int .i64 E, .int .i64 X1, .int .i64 1, .int .i64 M, .int .i64 E, .int .i64 X2, .int .i64 1] 37)
      clear t5_q
      have t6_r := t6_q.alloc (.cells #[.int .i64 0, .int .i64 1, .int .i64 N, .int .i64 D, .int .i64 N, .int .i64 D, .int .i64 1, .int .i64 1, .int .i64 0, .int .i64 1, .int .i64 M, .int .i64 E, .int .i64 M, .int .i64 E, .int .i64 X1, .int .i64 1, .int .i64 M, .int .i64 E, .int .i64 X2, .int .i64 1] 37)
      clear t6_q
      have t7_r := t7_q.alloc (.cells #[.int .i64 0, .int .i64 1, .int .i64 N, .int .i64 D, .int .i64 N, .int .i64 D, .int .i64 1, .int .i64 1, .int .i64 0, .int .i64 1, .int .i64 M, .int .i64 E, .int .i64 M, .int .i64 E, .int .i64 X1, .int .i64 1, .int .i64 M, .int .i64 E, .int .i64 X2, .int .i64 1] 37)
      clear t7_q
      have t8_r := t8_q.alloc (.cells #[.int .i64 0, .int .i64 1, .int .i64 N, .int .i64 D, .int .i64 N, .int .i64 D, .int .i64 1, .int .i64 1, .int .i64 0, .int .i64 1, .int .i64 M, .int .i64 E, .int .i64 M, .int .i64 E, .int .i64 X1, .int .i64 1, .int .i64 M, .int .i64 E, .int .i64 X2, .int .i64 1] 37)
      clear t8_q
      have t9_r := t9_q.alloc (.cells #[.int .i64 0, .int .i64 1, .int .i64 N, .int .i64 D, .int .i64 N, .int .i64 D, .int .i64 1, .int .i64 1, .int .i64 0, .int .i64 1, .int .i64 M, .int .i64 E, .int .i64 M, .int .i64 E, .int .i64 X1, .int .i64 1, .int .i64 M, .int .i64 E, .int .i64 X2, .int .i64 1] 37)
      clear t9_q
      have tA_r := tA_q.alloc (.cells #[.int .i64 0, .int .i64 1, .int .i64 N, .int .i64 D, .int .i64 N, .int .i64 D, .int .i64 1, .int .i64 1, .int .i64 0, .int .i64 1, .int .i64 M, .int .i64 E, .int .i64 M, .int .i64 E, .int .i64 X1, .int .i64 1, .int .i64 M, .int .i64 E, .int .i64 X2, .int .i64 1] 37)
      clear tA_q
      have tp_r := tp.alloc (.cells #[.int .i64 0, .int .i64 1, .int .i64 N, .int .i64 D, .int .i64 N, .int .i64 D, .int .i64 1, .int .i64 1, .int .i64 0, .int .i64 1, .int .i64 M, .int .i64 E, .int .i64 M, .int .i64 E, .int .i64 X1, .int .i64 1, .int .i64 M, .int .i64 E, .int .i64 X2, .int .i64 1] 37)
      clear tp
      have tq_r := tq.alloc (.cells #[.int .i64 0, .int .i64 1, .int .i64 N, .int .i64 D, .int .i64 N, .int .i64 D, .int .i64 1, .int .i64 1, .int .i64 0, .int .i64 1, .int .i64 M, .int .i64 E, .int .i64 M, .int .i64 E, .int .i64 X1, .int .i64 1, .int .i64 M, .int .i64 E, .int .i64 X2, .int .i64 1] 37)
      clear tq
      have hbR := hbQ.alloc hbQ.size (.cells #[.int .i64 0, .int .i64 1, .int .i64 N, .int .i64 D, .int .i64 N, .int .i64 D, .int .i64 1, .int .i64 1, .int .i64 0, .int .i64 1, .int .i64 M, .int .i64 E, .int .i64 M, .int .i64 E, .int .i64 X1, .int .i64 1, .int .i64 M, .int .i64 E, .int .i64 X2, .int .i64 1] 37)
      clear hbQ
      generalize hU : wc.alloc (.cells #[.int .i64 0, .int .i64 1, .int .i64 N, .int .i64 D, .int .i64 N, .int .i64 D, .int .i64 1, .int .i64 1, .int .i64 0, .int .i64 1, .int .i64 M, .int .i64 E, .int .i64 M, .int .i64 E, .int .i64 X1, .int .i64 1, .int .i64 M, .int .i64 E, .int .i64 X2, .int .i64 1] 37) = U at *
      clear hU
      go_loopw [22, 23, 24] (fun i _ _ wr => ∃ k : Nat, i = .int .i64 (k : Int) ∧ k ≤ 5 ∧ Below U.heap.size U wr) (fun i _ _ _ => 5 - (intOf i).toNat)
      case atStart => exact ⟨0, rfl, by omega, Below.refl _ _⟩
      case round =>
        obtain ⟨k, rfl, hk, hbel⟩ := hrel
        have hkc : k = 0 ∨ k = 1 ∨ k = 2 ∨ k = 3 ∨ k = 4 ∨ k = 5 := by omega
        rcases hkc with rfl | rfl | rfl | rfl | rfl | rfl
        · have hz_ : decide (0 < Z0) = false := by simp; omega
          have hS : ∀ w' : World, Below wr.heap.size wr w' → ((w'.cell? ⟨wc.heap.size, 0, none⟩ = some (.int .i64 0) ∧ w'.cell? ⟨wc.heap.size, 1, none⟩ = some (.int .i64 1)) ∧ w'.cell? ⟨wc.heap.size, 2, none⟩ = some (.int .i64 N) ∧ w'.cell? ⟨wc.heap.size, 3, none⟩ = some (.int .i64 D)) := fun w' hb => by
            have hb' := hbel.trans (hb.mono hbel.size)
            exact ⟨⟨HROW.out w' hb' 0, HROW.out w' hb' 1⟩, HROW.out w' hb' 2, HROW.out w' hb' 3⟩
          have hr := Below.refl wr.heap.size wr
          go_upto_region 13 with fail
          go_region_held3 (fun w' => ((w'.cell? ⟨wc.heap.size, 0, none⟩ = some (.int .i64 0) ∧ w'.cell? ⟨wc.heap.size, 1, none⟩ = some (.int .i64 1)) ∧ w'.cell? ⟨wc.heap.size, 2, none⟩ = some (.int .i64 N) ∧ w'.cell? ⟨wc.heap.size, 3, none⟩ = some (.int .i64 D)))
            (first | (with_reducible exact hS _ hr.drew) | (with_reducible refine hS _ ?_; with_reducible assumption))
            (first | (go_at_call 25; refine (HC0.out _).mono ?_; rintro r y1 ⟨rfl, hy1'⟩; have hy1 : Below wr.heap.size wr y1 := hr.drew.trans hy1'))
          all_goals
            go_wp2_with fail
            go_roundw
            case rel => exact ⟨1, by go_num, by omega, hbel.trans (hy1.mono hbel.size)⟩
            case measure => simp [intOf]
        · have hz_ : decide (0 < Z1) = false := by simp; omega
          have hS : ∀ w' : World, Below wr.heap.size wr w' → ((w'.cell? ⟨wc.heap.size, 4, none⟩ = some (.int .i64 N) ∧ w'.cell? ⟨wc.heap.size, 5, none⟩ = some (.int .i64 D)) ∧ w'.cell? ⟨wc.heap.size, 6, none⟩ = some (.int .i64 1) ∧ w'.cell? ⟨wc.heap.size, 7, none⟩ = some (.int .i64 1)) := fun w' hb => by
            have hb' := hbel.trans (hb.mono hbel.size)
            exact ⟨⟨HROW.out w' hb' 4, HROW.out w' hb' 5⟩, HROW.out w' hb' 6, HROW.out w' hb' 7⟩
          have hr := Below.refl wr.heap.size wr
          go_upto_region 13 with fail
          go_region_held3 (fun w' => ((w'.cell? ⟨wc.heap.size, 4, none⟩ = some (.int .i64 N) ∧ w'.cell? ⟨wc.heap.size, 5, none⟩ = some (.int .i64 D)) ∧ w'.cell? ⟨wc.heap.size, 6, none⟩ = some (.int .i64 1) ∧ w'.cell? ⟨wc.heap.size, 7, none⟩ = some (.int .i64 1)))
            (first | (with_reducible exact hS _ hr.drew) | (with_reducible refine hS _ ?_; with_reducible assumption))
            (first | (go_at_call 25; refine (HC1.out _).mono ?_; rintro r y1 ⟨rfl, hy1'⟩; have hy1 : Below wr.heap.size wr y1 := hr.drew.trans hy1'))
          all_goals
            go_wp2_with fail
            go_roundw
            case rel => exact ⟨2, by go_num, by omega, hbel.trans (hy1.mono hbel.size)⟩
            case measure => simp [intOf]
        · have hz_ : decide (0 < Z2) = false := by simp; omega
          have hS : ∀ w' : World, Below wr.heap.size wr w' → ((w'.cell? ⟨wc.heap.size, 8, none⟩ = some (.int .i64 0) ∧ w'.cell? ⟨wc.heap.size, 9, none⟩ = some (.int .i64 1)) ∧ w'.cell? ⟨wc.heap.size, 10, none⟩ = some (.int .i64 M) ∧ w'.cell? ⟨wc.heap.size, 11, none⟩ = some (.int .i64 E)) := fun w' hb => by
            have hb' := hbel.trans (hb.mono hbel.size)
            exact ⟨⟨HROW.out w' hb' 8, HROW.out w' hb' 9⟩, HROW.out w' hb' 10, HROW.out w' hb' 11⟩
          have hr := Below.refl wr.heap.size wr
          go_upto_region 13 with fail
          go_region_held3 (fun w' => ((w'.cell? ⟨wc.heap.size, 8, none⟩ = some (.int .i64 0) ∧ w'.cell? ⟨wc.heap.size, 9, none⟩ = some (.int .i64 1)) ∧ w'.cell? ⟨wc.heap.size, 10, none⟩ = some (.int .i64 M) ∧ w'.cell? ⟨wc.heap.size, 11, none⟩ = some (.int .i64 E)))
            (first | (with_reducible exact hS _ hr.drew) | (with_reducible refine hS _ ?_; with_reducible assumption))
            (first | (go_at_call 25; refine (HC2.out _).mono ?_; rintro r y1 ⟨rfl, hy1'⟩; have hy1 : Below wr.heap.size wr y1 := hr.drew.trans hy1'))
          all_goals
            go_wp2_with fail
            go_roundw
            case rel => exact ⟨3, by go_num, by omega, hbel.trans (hy1.mono hbel.size)⟩
            case measure => simp [intOf]
        · have hz_ : decide (0 < Z3) = false := by simp; omega
          have hS : ∀ w' : World, Below wr.heap.size wr w' → ((w'.cell? ⟨wc.heap.size, 12, none⟩ = some (.int .i64 M) ∧ w'.cell? ⟨wc.heap.size, 13, none⟩ = some (.int .i64 E)) ∧ w'.cell? ⟨wc.heap.size, 14, none⟩ = some (.int .i64 X1) ∧ w'.cell? ⟨wc.heap.size, 15, none⟩ = some (.int .i64 1)) := fun w' hb => by
            have hb' := hbel.trans (hb.mono hbel.size)
            exact ⟨⟨HROW.out w' hb' 12, HROW.out w' hb' 13⟩, HROW.out w' hb' 14, HROW.out w' hb' 15⟩
          have hr := Below.refl wr.heap.size wr
          go_upto_region 13 with fail
          go_region_held3 (fun w' => ((w'.cell? ⟨wc.heap.size, 12, none⟩ = some (.int .i64 M) ∧ w'.cell? ⟨wc.heap.size, 13, none⟩ = some (.int .i64 E)) ∧ w'.cell? ⟨wc.heap.size, 14, none⟩ = some (.int .i64 X1) ∧ w'.cell? ⟨wc.heap.size, 15, none⟩ = some (.int .i64 1)))
            (first | (with_reducible exact hS _ hr.drew) | (with_reducible refine hS _ ?_; with_reducible assumption))
            (first | (go_at_call 25; refine (HC3.out _).mono ?_; rintro r y1 ⟨rfl, hy1'⟩; have hy1 : Below wr.heap.size wr y1 := hr.drew.trans hy1'))
          all_goals
            go_wp2_with fail
            go_roundw
            case rel => exact ⟨4, by go_num, by omega, hbel.trans (hy1.mono hbel.size)⟩
            case measure => simp [intOf]
        · have hz_ : decide (0 < Z4) = false := by simp; omega
          have hS : ∀ w' : World, Below wr.heap.size wr w' → ((w'.cell? ⟨wc.heap.size, 16, none⟩ = some (.int .i64 M) ∧ w'.cell? ⟨wc.heap.size, 17, none⟩ = some (.int .i64 E)) ∧ w'.cell? ⟨wc.heap.size, 18, none⟩ = some (.int .i64 X2) ∧ w'.cell? ⟨wc.heap.size, 19, none⟩ = some (.int .i64 1)) := fun w' hb => by
            have hb' := hbel.trans (hb.mono hbel.size)
            exact ⟨⟨HROW.out w' hb' 16, HROW.out w' hb' 17⟩, HROW.out w' hb' 18, HROW.out w' hb' 19⟩
          have hr := Below.refl wr.heap.size wr
          go_upto_region 13 with fail
          go_region_held3 (fun w' => ((w'.cell? ⟨wc.heap.size, 16, none⟩ = some (.int .i64 M) ∧ w'.cell? ⟨wc.heap.size, 17, none⟩ = some (.int .i64 E)) ∧ w'.cell? ⟨wc.heap.size, 18, none⟩ = some (.int .i64 X2) ∧ w'.cell? ⟨wc.heap.size, 19, none⟩ = some (.int .i64 1)))
            (first | (with_reducible exact hS _ hr.drew) | (with_reducible refine hS _ ?_; with_reducible assumption))
            (first | (go_at_call 25; refine (HC4.out _).mono ?_; rintro r y1 ⟨rfl, hy1'⟩; have hy1 : Below wr.heap.size wr y1 := hr.drew.trans hy1'))
          all_goals
            go_wp2_with fail
            go_roundw
            case rel => exact ⟨5, by go_num, by omega, hbel.trans (hy1.mono hbel.size)⟩
            case measure => simp [intOf]
        · have hbw := hbR.trans (hbel.mono hbR.size)
          have t1_w := t1_r.below hbel t1_r.lt
          clear t1_r
          have t2_w := t2_r.below hbel t2_r.lt
          clear t2_r
          have t3_w := t3_r.below hbel t3_r.lt
          clear t3_r
          have t5_w := t5_r.below hbel t5_r.lt
          clear t5_r
          have t6_w := t6_r.below hbel t6_r.lt
          clear t6_r
          have t7_w := t7_r.below hbel t7_r.lt
          clear t7_r
          have t8_w := t8_r.below hbel t8_r.lt
          clear t8_r
          have t9_w := t9_r.below hbel t9_r.lt
          clear t9_r
          have tA_w := tA_r.below hbel tA_r.lt
          clear tA_r
          have tp_w := tp_r.below hbel tp_r.lt
          clear tp_r
          have tq_w := tq_r.below hbel tq_r.lt
          clear tq_r
          clear hbR hbel HROW HC0 HC1 HC2 HC3 HC4
          obtain ⟨f1_0, f1_1, f1_2, f1_3⟩ := t1_w.facts
          obtain ⟨f2_0, f2_1, f2_2, f2_3⟩ := t2_w.facts
          obtain ⟨f3_0, f3_1, f3_2, f3_3⟩ := t3_w.facts
          obtain ⟨f5_0, f5_1, f5_2, f5_3⟩ := t5_w.facts
          obtain ⟨f6_0, f6_1, f6_2, f6_3⟩ := t6_w.facts
          obtain ⟨f7_0, f7_1, f7_2, f7_3⟩ := t7_w.facts
          obtain ⟨f8_0, f8_1, f8_2, f8_3⟩ := t8_w.facts
          obtain ⟨f9_0, f9_1, f9_2, f9_3⟩ := t9_w.facts
          obtain ⟨fA_0, fA_1, fA_2, fA_3⟩ := tA_w.facts
          obtain ⟨fp_0, fp_1⟩ := tp_w.facts
          obtain ⟨fq_0, fq_1⟩ := tq_w.facts
          go_upto_region 16 with fail
          clear f1_0 f1_1 f1_2 f1_3 f2_0 f2_1 f2_2 f2_3 f3_0 f3_1 f3_2 f3_3 f5_0 f5_1 f5_2 f5_3 f6_0 f6_1 f6_2 f6_3 f7_0 f7_1 f7_2 f7_3 f8_0 f8_1 f8_2 f8_3 f9_0 f9_1 f9_2 f9_3 fA_0 fA_1 fA_2 fA_3 fp_0 fp_1 fq_0 fq_1
          go_cut [140] (fun v wx => v = .bool false ∧ Two wx (B2) 23 (.int .i64 bx) (.int .i64 bz) ∧ Two wx (B3) 23 (.int .i64 cx) (.int .i64 cy) ∧ Two wx (v1.heap.size) 26 (.int .i64 N) (.int .i64 D) ∧ Two wx (v3.heap.size) 26 (.int .i64 N2) (.int .i64 D2) ∧ Two wx (v3.heap.size + 1 + 1) 26 (.int .i64 0) (.int .i64 1) ∧ Two wx (v3.heap.size + 1 + 1 + 1) 26 (.int .i64 1) (.int .i64 1) ∧ Below w.heap.size w wx)
          case first => as_aux_lemma =>
            rcases HNO.out with ⟨rfl, m0, e0⟩ | ⟨rfl, m0⟩
            · have q0 : (M == 0) = true := by simpa using m0
              have q1 : (E == 1) = true := by simpa using e0
              rcases HCA.out with ⟨n0, d0, mx, ee⟩ | ⟨n0, d0, mx, ee⟩ | ⟨n0, d0⟩
              · have p1 : (N == 0) = true := by simpa using n0
                have p2 : (D == 1) = true := by simpa using d0
                have p3 : (N == 1) = false := by simp only [beq_eq_false_iff_ne, ne_eq]; omega
                have p4 : (M == X1) = true := by simpa using mx
                have p5 : (E == 1) = true := by simpa using ee
                clear n0 d0 mx ee m0 e0
                have hS : ∀ w' : World, Below wr.heap.size wr w' → (w'.cell? ⟨v1.heap.size, 0, none⟩ = some (.int .i64 N) ∧ w'.cell? ⟨v1.heap.size, 1, none⟩ = some (.int .i64 D)) ∧ (w'.cell? ⟨v1.heap.size + 1, 0, none⟩ = some (.int .i64 M) ∧ w'.cell? ⟨v1.heap.size + 1, 1, none⟩ = some (.int .i64 E)) ∧ (w'.cell? ⟨v3.heap.size + 1 + 1, 0, none⟩ = some (.int .i64 0) ∧ w'.cell? ⟨v3.heap.size + 1 + 1, 1, none⟩ = some (.int .i64 1)) ∧ (w'.cell? ⟨v3.heap.size + 1 + 1 + 1, 0, none⟩ = some (.int .i64 1) ∧ w'.cell? ⟨v3.heap.size + 1 + 1 + 1, 1, none⟩ = some (.int .i64 1)) ∧ (w'.cell? ⟨Bp, 0, none⟩ = some (.int .i64 X1) ∧ w'.cell? ⟨Bp, 1, none⟩ = some (.int .i64 1)) ∧ (w'.cell? ⟨Bq, 0, none⟩ = some (.int .i64 X2) ∧ w'.cell? ⟨Bq, 1, none⟩ = some (.int .i64 1)) ∧ (w'.cell? ⟨B1, 0, none⟩ = some (.int .i64 ax) ∧ w'.cell? ⟨B1, 1, none⟩ = some (.int .i64 ay)) ∧ (w'.cell? ⟨B2, 0, none⟩ = some (.int .i64 bx) ∧ w'.cell? ⟨B2, 1, none⟩ = some (.int .i64 bz)) ∧ (w'.cell? ⟨B3, 0, none⟩ = some (.int .i64 cx) ∧ w'.cell? ⟨B3, 1, none⟩ = some (.int .i64 cy)) := fun w' hb => ⟨two_of t5_w hb, two_of t6_w hb, two_of t9_w hb, two_of tA_w hb, cel_of tp_w hb, cel_of tq_w hb, two_of t1_w hb, two_of t2_w hb, two_of t3_w hb⟩
                have hS0 := hS _ (Below.refl wr.heap.size wr).drew
                refine wp_region_held_drew (S := fun w' => (w'.cell? ⟨v1.heap.size, 0, none⟩ = some (.int .i64 N) ∧ w'.cell? ⟨v1.heap.size, 1, none⟩ = some (.int .i64 D)) ∧ (w'.cell? ⟨v1.heap.size + 1, 0, none⟩ = some (.int .i64 M) ∧ w'.cell? ⟨v1.heap.size + 1, 1, none⟩ = some (.int .i64 E)) ∧ (w'.cell? ⟨v3.heap.size + 1 + 1, 0, none⟩ = some (.int .i64 0) ∧ w'.cell? ⟨v3.heap.size + 1 + 1, 1, none⟩ = some (.int .i64 1)) ∧ (w'.cell? ⟨v3.heap.size + 1 + 1 + 1, 0, none⟩ = some (.int .i64 1) ∧ w'.cell? ⟨v3.heap.size + 1 + 1 + 1, 1, none⟩ = some (.int .i64 1)) ∧ (w'.cell? ⟨Bp, 0, none⟩ = some (.int .i64 X1) ∧ w'.cell? ⟨Bp, 1, none⟩ = some (.int .i64 1)) ∧ (w'.cell? ⟨Bq, 0, none⟩ = some (.int .i64 X2) ∧ w'.cell? ⟨Bq, 1, none⟩ = some (.int .i64 1)) ∧ (w'.cell? ⟨B1, 0, none⟩ = some (.int .i64 ax) ∧ w'.cell? ⟨B1, 1, none⟩ = some (.int .i64 ay)) ∧ (w'.cell? ⟨B2, 0, none⟩ = some (.int .i64 bx) ∧ w'.cell? ⟨B2, 1, none⟩ = some (.int .i64 bz)) ∧ (w'.cell? ⟨B3, 0, none⟩ = some (.int .i64 cx) ∧ w'.cell? ⟨B3, 1, none⟩ = some (.int .i64 cy))) (by kernel_rfl) hS0 (fun _ => ?_)
                refine Ri.take_d (i := 0) (v := .agg #[.int .i64 N, .int .i64 D]) (some 113) rfl rfl (by kernel_rfl) (by kernel_rfl) (by kernel_rfl) (fun _ _ _ h => h) (Or.inl ⟨by kernel_rfl, ?_⟩) hS0 ?_
                · intro w' hSw; (try dsimp only at hSw); go_simp
                simp only [Act.put, List.setIfInBounds_toArray, List.set_cons_zero, List.set_cons_succ]
                refine Ri.take_d (i := 1) (v := .agg #[.int .i64 0, .int .i64 1]) (some 114) rfl rfl (by kernel_rfl) (by kernel_rfl) (by kernel_rfl) (fun _ _ _ h => h) (Or.inl ⟨by kernel_rfl, ?_⟩) hS0 ?_
                · intro w' hSw; (try dsimp only at hSw); go_simp
                simp only [Act.put, List.setIfInBounds_toArray, List.set_cons_zero, List.set_cons_succ]
                refine Ri.take_d (i := 2) (v := .bool true) (some 115) rfl rfl (by kernel_rfl) (by kernel_rfl) (by kernel_rfl) (fun _ _ _ h => h) (Or.inl ⟨by kernel_rfl, ?_⟩) hS0 ?_
                · intro w' hSw; (try dsimp only at hSw); go_simp
                simp only [Act.put, List.setIfInBounds_toArray, List.set_cons_zero, List.set_cons_succ]
                refine Ri.take_d (i := 3) (v := .bool true) (some 116) rfl rfl (by kernel_rfl) (by kernel_rfl) (by kernel_rfl) (fun _ _ _ h => h) (Or.inl ⟨by kernel_rfl, ?_⟩) hS0 ?_
                · intro w' hSw; (try dsimp only at hSw); go_simp
                simp only [Act.put, List.setIfInBounds_toArray, List.set_cons_zero, List.set_cons_succ]
                refine Ri.take_d (i := 4) (v := .agg #[.int .i64 M, .int .i64 E]) (some 117) rfl rfl (by kernel_rfl) (by kernel_rfl) (by kernel_rfl) (fun _ _ _ h => h) (Or.inl ⟨by kernel_rfl, ?_⟩) hS0 ?_
                · intro w' hSw; (try dsimp only at hSw); go_simp
                simp only [Act.put, List.setIfInBounds_toArray, List.set_cons_zero, List.set_cons_succ]
                refine Ri.take_d (i := 5) (v := .agg #[.int .i64 X1, .int .i64 1]) (some 118) rfl rfl (by kernel_rfl) (by kernel_rfl) (by kernel_rfl) (fun _ _ _ h => h) (Or.inl ⟨by kernel_rfl, ?_⟩) hS0 ?_
                · intro w' hSw; (try dsimp only at hSw); go_simp
                simp only [Act.put, List.setIfInBounds_toArray, List.set_cons_zero, List.set_cons_succ]
                refine Ri.take_d (i := 6) (v := .bool false) (some 119) rfl rfl (by kernel_rfl) (by kernel_rfl) (by kernel_rfl) (fun _ _ _ h => h) (Or.inl ⟨by kernel_rfl, ?_⟩) hS0 ?_
                · intro w' hSw; (try dsimp only at hSw); go_simp
                simp only [Act.put, List.setIfInBounds_toArray, List.set_cons_zero, List.set_cons_succ]
                refine Ri.take_d (i := 7) (v := .bool false) (some 120) rfl rfl (by kernel_rfl) (by kernel_rfl) (by kernel_rfl) (fun _ _ _ h => h) (Or.inl ⟨by kernel_rfl, ?_⟩) hS0 ?_
                · intro w' hSw; (try dsimp only at hSw); go_simp
                simp only [Act.put, List.setIfInBounds_toArray, List.set_cons_zero, List.set_cons_succ]
                refine Ri.take_d (i := 8) (v := .bool false) (some 121) rfl rfl (by kernel_rfl) (by kernel_rfl) (by kernel_rfl) (fun _ _ _ h => h) (Or.inl ⟨by kernel_rfl, ?_⟩) hS0 ?_
                · intro w' hSw; (try dsimp only at hSw); go_simp
                simp only [Act.put, List.setIfInBounds_toArray, List.set_cons_zero, List.set_cons_succ]
                refine Ri.take_d (i := 9) (v := .agg #[.int .i64 N, .int .i64 D]) (some 122) rfl rfl (by kernel_rfl) (by kernel_rfl) (by kernel_rfl) (fun _ _ _ h => h) (Or.inl ⟨by kernel_rfl, ?_⟩) hS0 ?_
                · intro w' hSw; (try dsimp only at hSw); go_simp
                simp only [Act.put, List.setIfInBounds_toArray, List.set_cons_zero, List.set_cons_succ]
                refine Ri.take_d (i := 10) (v := .agg #[.int .i64 1, .int .i64 1]) (some 123) rfl rfl (by kernel_rfl) (by kernel_rfl) (by kernel_rfl) (fun _ _ _ h => h) (Or.inl ⟨by kernel_rfl, ?_⟩) hS0 ?_
                · intro w' hSw; (try dsimp only at hSw); go_simp
                simp only [Act.put, List.setIfInBounds_toArray, List.set_cons_zero, List.set_cons_succ]
                refine Ri.take_d (i := 11) (v := .bool false) (some 124) rfl rfl (by kernel_rfl) (by kernel_rfl) (by kernel_rfl) (fun _ _ _ h => h) (Or.inl ⟨by kernel_rfl, ?_⟩) hS0 ?_
                · intro w' hSw; (try dsimp only at hSw); go_simp
                simp only [Act.put, List.setIfInBounds_toArray, List.set_cons_zero, List.set_cons_succ]
                refine Ri.take_d (i := 12) (v := .bool false) (some 125) rfl rfl (by kernel_rfl) (by kernel_rfl) (by kernel_rfl) (fun _ _ _ h => h) (Or.inl ⟨by kernel_rfl, ?_⟩) hS0 ?_
                · intro w' hSw; (try dsimp only at hSw); go_simp
                simp only [Act.put, List.setIfInBounds_toArray, List.set_cons_zero, List.set_cons_succ]
                refine Ri.take_d (i := 13) (v := undef) (some 126) rfl rfl (by kernel_rfl) (by kernel_rfl) (by kernel_rfl) (fun _ _ _ h => h) (Or.inr ⟨by kernel_rfl, rfl⟩) hS0 ?_
                simp only [Act.put, List.setIfInBounds_toArray, List.set_cons_zero, List.set_cons_succ]
                refine Ri.take_d (i := 14) (v := undef) (some 127) rfl rfl (by kernel_rfl) (by kernel_rfl) (by kernel_rfl) (fun _ _ _ h => h) (Or.inr ⟨by kernel_rfl, rfl⟩) hS0 ?_
                simp only [Act.put, List.setIfInBounds_toArray, List.set_cons_zero, List.set_cons_succ]
                refine Ri.take_d (i := 15) (v := undef) (some 128) rfl rfl (by kernel_rfl) (by kernel_rfl) (by kernel_rfl) (fun _ _ _ h => h) (Or.inr ⟨by kernel_rfl, rfl⟩) hS0 ?_
                simp only [Act.put, List.setIfInBounds_toArray, List.set_cons_zero, List.set_cons_succ]
                refine Ri.take_d (i := 16) (v := .bool false) (some 129) rfl rfl (by kernel_rfl) (by kernel_rfl) (by kernel_rfl) (fun _ _ _ h => h) (Or.inl ⟨by kernel_rfl, ?_⟩) hS0 ?_
                · intro w' hSw; (try dsimp only at hSw); go_simp
                simp only [Act.put, List.setIfInBounds_toArray, List.set_cons_zero, List.set_cons_succ]
                refine Ri.take_d (i := 17) (v := .bool false) (some 130) rfl rfl (by kernel_rfl) (by kernel_rfl) (by kernel_rfl) (fun _ _ _ h => h) (Or.inl ⟨by kernel_rfl, ?_⟩) hS0 ?_
                · intro w' hSw; (try dsimp only at hSw); go_simp
                simp only [Act.put, List.setIfInBounds_toArray, List.set_cons_zero, List.set_cons_succ]
                refine Ri.take_d (i := 18) (v := .bool false) (some 131) rfl rfl (by kernel_rfl) (by kernel_rfl) (by kernel_rfl) (fun _ _ _ h => h) (Or.inl ⟨by kernel_rfl, ?_⟩) hS0 ?_
                · intro w' hSw; (try dsimp only at hSw); go_simp
                simp only [Act.put, List.setIfInBounds_toArray, List.set_cons_zero, List.set_cons_succ]
                refine Ri.take_d (i := 19) (v := .agg #[.int .i64 M, .int .i64 E]) (some 132) rfl rfl (by kernel_rfl) (by kernel_rfl) (by kernel_rfl) (fun _ _ _ h => h) (Or.inl ⟨by kernel_rfl, ?_⟩) hS0 ?_
                · intro w' hSw; (try dsimp only at hSw); go_simp
                simp only [Act.put, List.setIfInBounds_toArray, List.set_cons_zero, List.set_cons_succ]
                refine Ri.take_d (i := 20) (v := .agg #[.int .i64 0, .int .i64 1]) (some 133) rfl rfl (by kernel_rfl) (by kernel_rfl) (by kernel_rfl) (fun _ _ _ h => h) (Or.inl ⟨by kernel_rfl, ?_⟩) hS0 ?_
                · intro w' hSw; (try dsimp only at hSw); go_simp
                simp only [Act.put, List.setIfInBounds_toArray, List.set_cons_zero, List.set_cons_succ]
                refine Ri.take_d (i := 21) (v := .bool true) (some 134) rfl rfl (by kernel_rfl) (by kernel_rfl) (by kernel_rfl) (fun _ _ _ h => h) (Or.inl ⟨by kernel_rfl, ?_⟩) hS0 ?_
                · intro w' hSw; (try dsimp only at hSw); go_simp
                simp only [Act.put, List.setIfInBounds_toArray, List.set_cons_zero, List.set_cons_succ]
                refine Ri.take_d (i := 22) (v := .agg #[.int .i64 ax, .int .i64 ay]) (some 135) rfl rfl (by kernel_rfl) (by kernel_rfl) (by kernel_rfl) (fun _ _ _ h => h) (Or.inl ⟨by kernel_rfl, ?_⟩) hS0 ?_
                · intro w' hSw; (try dsimp only at hSw); go_simp
                simp only [Act.put, List.setIfInBounds_toArray, List.set_cons_zero, List.set_cons_succ]
                refine Ri.take_d (i := 23) (v := .agg #[.int .i64 bx, .int .i64 bz]) (some 136) rfl rfl (by kernel_rfl) (by kernel_rfl) (by kernel_rfl) (fun _ _ _ h => h) (Or.inl ⟨by kernel_rfl, ?_⟩) hS0 ?_
                · intro w' hSw; (try dsimp only at hSw); go_simp
                simp only [Act.put, List.setIfInBounds_toArray, List.set_cons_zero, List.set_cons_succ]
                refine Ri.take_d (i := 24) (v := .agg #[.int .i64 cx, .int .i64 cy]) (some 137) rfl rfl (by kernel_rfl) (by kernel_rfl) (by kernel_rfl) (fun _ _ _ h => h) (Or.inl ⟨by kernel_rfl, ?_⟩) hS0 ?_
                · intro w' hSw; (try dsimp only at hSw); go_simp
                simp only [Act.put, List.setIfInBounds_toArray, List.set_cons_zero, List.set_cons_succ]
                refine wpAnyH_ready (rs := [25]) (by kernel_rfl) (by simp) ?_
                refine AllReadyH.cons rfl (fun K hK => ?_) AllReadyH.nil
                rw [if_pos (by rfl)]
                go_simp
                go_at_call 20
                refine (HB.out _).mono ?_
                rintro r y1 ⟨rfl, hy1'⟩
                have hy1 : Below wr.heap.size wr y1 := (Below.refl wr.heap.size wr).drew.trans hy1'
                have hS1 := hS _ hy1
                refine hK.out _ _ hS1 (fun _ => ?_)
                clear hK K
                try simp only [Act.put, List.setIfInBounds_toArray, List.set_cons_zero, List.set_cons_succ]
                refine Ri.take_d (i := 26) (v := .bool false) (some 139) rfl rfl (by kernel_rfl) (by kernel_rfl) (by kernel_rfl) (fun _ _ _ h => h) (Or.inl ⟨by kernel_rfl, ?_⟩) hS1 ?_
                · intro w' hSw; (try dsimp only at hSw); go_simp
                simp only [Act.put, List.setIfInBounds_toArray, List.set_cons_zero, List.set_cons_succ]
                refine Ri.take_d (i := 27) (v := .bool false) (some 140) rfl rfl (by kernel_rfl) (by kernel_rfl) (by kernel_rfl) (fun _ _ _ h => h) (Or.inl ⟨by kernel_rfl, ?_⟩) hS1 ?_
                · intro w' hSw; (try dsimp only at hSw); go_simp
                simp only [Act.put, List.setIfInBounds_toArray, List.set_cons_zero, List.set_cons_succ]
                refine wpAnyH_done (by kernel_rfl) ?_ _
                have t1_6 := t1_w.below hy1 t1_w.lt
                have t2_6 := t2_w.below hy1 t2_w.lt
                have t3_6 := t3_w.below hy1 t3_w.lt
                have t5_6 := t5_w.below hy1 t5_w.lt
                have t6_6 := t6_w.below hy1 t6_w.lt
                have t7_6 := t7_w.below hy1 t7_w.lt
                have t8_6 := t8_w.below hy1 t8_w.lt
                have t9_6 := t9_w.below hy1 t9_w.lt
                have tA_6 := tA_w.below hy1 tA_w.lt
                have tp_6 := tp_w.below hy1 tp_w.lt
                have tq_6 := tq_w.below hy1 tq_w.lt
                have hb6 := hbw.trans (hy1.mono hbw.size)
                go_wp2_with fail
                go_meet
                exact ⟨rfl, t2_6, t3_6, t5_6, t7_6, t9_6, tA_6, hb6⟩
              · have p1 : (N == 0) = false := by simp only [beq_eq_false_iff_ne, ne_eq]; omega
                have p2 : (D == 1) = true := by simpa using d0
                have p3 : (N == 1) = true := by simpa using n0
                have p4 : (M == X2) = true := by simpa using mx
                have p5 : (E == 1) = true := by simpa using ee
                clear n0 d0 mx ee m0 e0
                have hS : ∀ w' : World, Below wr.heap.size wr w' → (w'.cell? ⟨v1.heap.size, 0, none⟩ = some (.int .i64 N) ∧ w'.cell? ⟨v1.heap.size, 1, none⟩ = some (.int .i64 D)) ∧ (w'.cell? ⟨v1.heap.size + 1, 0, none⟩ = some (.int .i64 M) ∧ w'.cell? ⟨v1.heap.size + 1, 1, none⟩ = some (.int .i64 E)) ∧ (w'.cell? ⟨v3.heap.size + 1 + 1, 0, none⟩ = some (.int .i64 0) ∧ w'.cell? ⟨v3.heap.size + 1 + 1, 1, none⟩ = some (.int .i64 1)) ∧ (w'.cell? ⟨v3.heap.size + 1 + 1 + 1, 0, none⟩ = some (.int .i64 1) ∧ w'.cell? ⟨v3.heap.size + 1 + 1 + 1, 1, none⟩ = some (.int .i64 1)) ∧ (w'.cell? ⟨Bp, 0, none⟩ = some (.int .i64 X1) ∧ w'.cell? ⟨Bp, 1, none⟩ = some (.int .i64 1)) ∧ (w'.cell? ⟨Bq, 0, none⟩ = some (.int .i64 X2) ∧ w'.cell? ⟨Bq, 1, none⟩ = some (.int .i64 1)) ∧ (w'.cell? ⟨B1, 0, none⟩ = some (.int .i64 ax) ∧ w'.cell? ⟨B1, 1, none⟩ = some (.int .i64 ay)) ∧ (w'.cell? ⟨B2, 0, none⟩ = some (.int .i64 bx) ∧ w'.cell? ⟨B2, 1, none⟩ = some (.int .i64 bz)) ∧ (w'.cell? ⟨B3, 0, none⟩ = some (.int .i64 cx) ∧ w'.cell? ⟨B3, 1, none⟩ = some (.int .i64 cy)) := fun w' hb => ⟨two_of t5_w hb, two_of t6_w hb, two_of t9_w hb, two_of tA_w hb, cel_of tp_w hb, cel_of tq_w hb, two_of t1_w hb, two_of t2_w hb, two_of t3_w hb⟩
                have hS0 := hS _ (Below.refl wr.heap.size wr).drew
                refine wp_region_held_drew (S := fun w' => (w'.cell? ⟨v1.heap.size, 0, none⟩ = some (.int .i64 N) ∧ w'.cell? ⟨v1.heap.size, 1, none⟩ = some (.int .i64 D)) ∧ (w'.cell? ⟨v1.heap.size + 1, 0, none⟩ = some (.int .i64 M) ∧ w'.cell? ⟨v1.heap.size + 1, 1, none⟩ = some (.int .i64 E)) ∧ (w'.cell? ⟨v3.heap.size + 1 + 1, 0, none⟩ = some (.int .i64 0) ∧ w'.cell? ⟨v3.heap.size + 1 + 1, 1, none⟩ = some (.int .i64 1)) ∧ (w'.cell? ⟨v3.heap.size + 1 + 1 + 1, 0, none⟩ = some (.int .i64 1) ∧ w'.cell? ⟨v3.heap.size + 1 + 1 + 1, 1, none⟩ = some (.int .i64 1)) ∧ (w'.cell? ⟨Bp, 0, none⟩ = some (.int .i64 X1) ∧ w'.cell? ⟨Bp, 1, none⟩ = some (.int .i64 1)) ∧ (w'.cell? ⟨Bq, 0, none⟩ = some (.int .i64 X2) ∧ w'.cell? ⟨Bq, 1, none⟩ = some (.int .i64 1)) ∧ (w'.cell? ⟨B1, 0, none⟩ = some (.int .i64 ax) ∧ w'.cell? ⟨B1, 1, none⟩ = some (.int .i64 ay)) ∧ (w'.cell? ⟨B2, 0, none⟩ = some (.int .i64 bx) ∧ w'.cell? ⟨B2, 1, none⟩ = some (.int .i64 bz)) ∧ (w'.cell? ⟨B3, 0, none⟩ = some (.int .i64 cx) ∧ w'.cell? ⟨B3, 1, none⟩ = some (.int .i64 cy))) (by kernel_rfl) hS0 (fun _ => ?_)
                refine Ri.take_d (i := 0) (v := .agg #[.int .i64 N, .int .i64 D]) (some 113) rfl rfl (by kernel_rfl) (by kernel_rfl) (by kernel_rfl) (fun _ _ _ h => h) (Or.inl ⟨by kernel_rfl, ?_⟩) hS0 ?_
                · intro w' hSw; (try dsimp only at hSw); go_simp
                simp only [Act.put, List.setIfInBounds_toArray, List.set_cons_zero, List.set_cons_succ]
                refine Ri.take_d (i := 1) (v := .agg #[.int .i64 0, .int .i64 1]) (some 114) rfl rfl (by kernel_rfl) (by kernel_rfl) (by kernel_rfl) (fun _ _ _ h => h) (Or.inl ⟨by kernel_rfl, ?_⟩) hS0 ?_
                · intro w' hSw; (try dsimp only at hSw); go_simp
                simp only [Act.put, List.setIfInBounds_toArray, List.set_cons_zero, List.set_cons_succ]
                refine Ri.take_d (i := 2) (v := .bool false) (some 115) rfl rfl (by kernel_rfl) (by kernel_rfl) (by kernel_rfl) (fun _ _ _ h => h) (Or.inl ⟨by kernel_rfl, ?_⟩) hS0 ?_
                · intro w' hSw; (try dsimp only at hSw); go_simp
                simp only [Act.put, List.setIfInBounds_toArray, List.set_cons_zero, List.set_cons_succ]
                refine Ri.take_d (i := 3) (v := .bool false) (some 116) rfl rfl (by kernel_rfl) (by kernel_rfl) (by kernel_rfl) (fun _ _ _ h => h) (Or.inl ⟨by kernel_rfl, ?_⟩) hS0 ?_
                · intro w' hSw; (try dsimp only at hSw); go_simp
                simp only [Act.put, List.setIfInBounds_toArray, List.set_cons_zero, List.set_cons_succ]
                refine Ri.take_d (i := 4) (v := undef) (some 117) rfl rfl (by kernel_rfl) (by kernel_rfl) (by kernel_rfl) (fun _ _ _ h => h) (Or.inr ⟨by kernel_rfl, rfl⟩) hS0 ?_
                simp only [Act.put, List.setIfInBounds_toArray, List.set_cons_zero, List.set_cons_succ]
                refine Ri.take_d (i := 5) (v := undef) (some 118) rfl rfl (by kernel_rfl) (by kernel_rfl) (by kernel_rfl) (fun _ _ _ h => h) (Or.inr ⟨by kernel_rfl, rfl⟩) hS0 ?_
                simp only [Act.put, List.setIfInBounds_toArray, List.set_cons_zero, List.set_cons_succ]
                refine Ri.take_d (i := 6) (v := undef) (some 119) rfl rfl (by kernel_rfl) (by kernel_rfl) (by kernel_rfl) (fun _ _ _ h => h) (Or.inr ⟨by kernel_rfl, rfl⟩) hS0 ?_
                simp only [Act.put, List.setIfInBounds_toArray, List.set_cons_zero, List.set_cons_succ]
                refine Ri.take_d (i := 7) (v := .bool false) (some 120) rfl rfl (by kernel_rfl) (by kernel_rfl) (by kernel_rfl) (fun _ _ _ h => h) (Or.inl ⟨by kernel_rfl, ?_⟩) hS0 ?_
                · intro w' hSw; (try dsimp only at hSw); go_simp
                simp only [Act.put, List.setIfInBounds_toArray, List.set_cons_zero, List.set_cons_succ]
                refine Ri.take_d (i := 8) (v := .bool false) (some 121) rfl rfl (by kernel_rfl) (by kernel_rfl) (by kernel_rfl) (fun _ _ _ h => h) (Or.inl ⟨by kernel_rfl, ?_⟩) hS0 ?_
                · intro w' hSw; (try dsimp only at hSw); go_simp
                simp only [Act.put, List.setIfInBounds_toArray, List.set_cons_zero, List.set_cons_succ]
                refine Ri.take_d (i := 9) (v := .agg #[.int .i64 N, .int .i64 D]) (some 122) rfl rfl (by kernel_rfl) (by kernel_rfl) (by kernel_rfl) (fun _ _ _ h => h) (Or.inl ⟨by kernel_rfl, ?_⟩) hS0 ?_
                · intro w' hSw; (try dsimp only at hSw); go_simp
                simp only [Act.put, List.setIfInBounds_toArray, List.set_cons_zero, List.set_cons_succ]
                refine Ri.take_d (i := 10) (v := .agg #[.int .i64 1, .int .i64 1]) (some 123) rfl rfl (by kernel_rfl) (by kernel_rfl) (by kernel_rfl) (fun _ _ _ h => h) (Or.inl ⟨by kernel_rfl, ?_⟩) hS0 ?_
                · intro w' hSw; (try dsimp only at hSw); go_simp
                simp only [Act.put, List.setIfInBounds_toArray, List.set_cons_zero, List.set_cons_succ]
                refine Ri.take_d (i := 11) (v := .bool true) (some 124) rfl rfl (by kernel_rfl) (by kernel_rfl) (by kernel_rfl) (fun _ _ _ h => h) (Or.inl ⟨by kernel_rfl, ?_⟩) hS0 ?_
                · intro w' hSw; (try dsimp only at hSw); go_simp
                simp only [Act.put, List.setIfInBounds_toArray, List.set_cons_zero, List.set_cons_succ]
                refine Ri.take_d (i := 12) (v := .bool true) (some 125) rfl rfl (by kernel_rfl) (by kernel_rfl) (by kernel_rfl) (fun _ _ _ h => h) (Or.inl ⟨by kernel_rfl, ?_⟩) hS0 ?_
                · intro w' hSw; (try dsimp only at hSw); go_simp
                simp only [Act.put, List.setIfInBounds_toArray, List.set_cons_zero, List.set_cons_succ]
                refine Ri.take_d (i := 13) (v := .agg #[.int .i64 M, .int .i64 E]) (some 126) rfl rfl (by kernel_rfl) (by kernel_rfl) (by kernel_rfl) (fun _ _ _ h => h) (Or.inl ⟨by kernel_rfl, ?_⟩) hS0 ?_
                · intro w' hSw; (try dsimp only at hSw); go_simp
                simp only [Act.put, List.setIfInBounds_toArray, List.set_cons_zero, List.set_cons_succ]
                refine Ri.take_d (i := 14) (v := .agg #[.int .i64 X2, .int .i64 1]) (some 127) rfl rfl (by kernel_rfl) (by kernel_rfl) (by kernel_rfl) (fun _ _ _ h => h) (Or.inl ⟨by kernel_rfl, ?_⟩) hS0 ?_
                · intro w' hSw; (try dsimp only at hSw); go_simp
                simp only [Act.put, List.setIfInBounds_toArray, List.set_cons_zero, List.set_cons_succ]
                refine Ri.take_d (i := 15) (v := .bool false) (some 128) rfl rfl (by kernel_rfl) (by kernel_rfl) (by kernel_rfl) (fun _ _ _ h => h) (Or.inl ⟨by kernel_rfl, ?_⟩) hS0 ?_
                · intro w' hSw; (try dsimp only at hSw); go_simp
                simp only [Act.put, List.setIfInBounds_toArray, List.set_cons_zero, List.set_cons_succ]
                refine Ri.take_d (i := 16) (v := .bool false) (some 129) rfl rfl (by kernel_rfl) (by kernel_rfl) (by kernel_rfl) (fun _ _ _ h => h) (Or.inl ⟨by kernel_rfl, ?_⟩) hS0 ?_
                · intro w' hSw; (try dsimp only at hSw); go_simp
                simp only [Act.put, List.setIfInBounds_toArray, List.set_cons_zero, List.set_cons_succ]
                refine Ri.take_d (i := 17) (v := .bool false) (some 130) rfl rfl (by kernel_rfl) (by kernel_rfl) (by kernel_rfl) (fun _ _ _ h => h) (Or.inl ⟨by kernel_rfl, ?_⟩) hS0 ?_
                · intro w' hSw; (try dsimp only at hSw); go_simp
                simp only [Act.put, List.setIfInBounds_toArray, List.set_cons_zero, List.set_cons_succ]
                refine Ri.take_d (i := 18) (v := .bool false) (some 131) rfl rfl (by kernel_rfl) (by kernel_rfl) (by kernel_rfl) (fun _ _ _ h => h) (Or.inl ⟨by kernel_rfl, ?_⟩) hS0 ?_
                · intro w' hSw; (try dsimp only at hSw); go_simp
                simp only [Act.put, List.setIfInBounds_toArray, List.set_cons_zero, List.set_cons_succ]
                refine Ri.take_d (i := 19) (v := .agg #[.int .i64 M, .int .i64 E]) (some 132) rfl rfl (by kernel_rfl) (by kernel_rfl) (by kernel_rfl) (fun _ _ _ h => h) (Or.inl ⟨by kernel_rfl, ?_⟩) hS0 ?_
                · intro w' hSw; (try dsimp only at hSw); go_simp
                simp only [Act.put, List.setIfInBounds_toArray, List.set_cons_zero, List.set_cons_succ]
                refine Ri.take_d (i := 20) (v := .agg #[.int .i64 0, .int .i64 1]) (some 133) rfl rfl (by kernel_rfl) (by kernel_rfl) (by kernel_rfl) (fun _ _ _ h => h) (Or.inl ⟨by kernel_rfl, ?_⟩) hS0 ?_
                · intro w' hSw; (try dsimp only at hSw); go_simp
                simp only [Act.put, List.setIfInBounds_toArray, List.set_cons_zero, List.set_cons_succ]
                refine Ri.take_d (i := 21) (v := .bool true) (some 134) rfl rfl (by kernel_rfl) (by kernel_rfl) (by kernel_rfl) (fun _ _ _ h => h) (Or.inl ⟨by kernel_rfl, ?_⟩) hS0 ?_
                · intro w' hSw; (try dsimp only at hSw); go_simp
                simp only [Act.put, List.setIfInBounds_toArray, List.set_cons_zero, List.set_cons_succ]
                refine Ri.take_d (i := 22) (v := .agg #[.int .i64 ax, .int .i64 ay]) (some 135) rfl rfl (by kernel_rfl) (by kernel_rfl) (by kernel_rfl) (fun _ _ _ h => h) (Or.inl ⟨by kernel_rfl, ?_⟩) hS0 ?_
                · intro w' hSw; (try dsimp only at hSw); go_simp
                simp only [Act.put, List.setIfInBounds_toArray, List.set_cons_zero, List.set_cons_succ]
                refine Ri.take_d (i := 23) (v := .agg #[.int .i64 bx, .int .i64 bz]) (some 136) rfl rfl (by kernel_rfl) (by kernel_rfl) (by kernel_rfl) (fun _ _ _ h => h) (Or.inl ⟨by kernel_rfl, ?_⟩) hS0 ?_
                · intro w' hSw; (try dsimp only at hSw); go_simp
                simp only [Act.put, List.setIfInBounds_toArray, List.set_cons_zero, List.set_cons_succ]
                refine Ri.take_d (i := 24) (v := .agg #[.int .i64 cx, .int .i64 cy]) (some 137) rfl rfl (by kernel_rfl) (by kernel_rfl) (by kernel_rfl) (fun _ _ _ h => h) (Or.inl ⟨by kernel_rfl, ?_⟩) hS0 ?_
                · intro w' hSw; (try dsimp only at hSw); go_simp
                simp only [Act.put, List.setIfInBounds_toArray, List.set_cons_zero, List.set_cons_succ]
                refine wpAnyH_ready (rs := [25]) (by kernel_rfl) (by simp) ?_
                refine AllReadyH.cons rfl (fun K hK => ?_) AllReadyH.nil
                rw [if_pos (by rfl)]
                go_simp
                go_at_call 20
                refine (HB.out _).mono ?_
                rintro r y1 ⟨rfl, hy1'⟩
                have hy1 : Below wr.heap.size wr y1 := (Below.refl wr.heap.size wr).drew.trans hy1'
                have hS1 := hS _ hy1
                refine hK.out _ _ hS1 (fun _ => ?_)
                clear hK K
                try simp only [Act.put, List.setIfInBounds_toArray, List.set_cons_zero, List.set_cons_succ]
                refine Ri.take_d (i := 26) (v := .bool false) (some 139) rfl rfl (by kernel_rfl) (by kernel_rfl) (by kernel_rfl) (fun _ _ _ h => h) (Or.inl ⟨by kernel_rfl, ?_⟩) hS1 ?_
                · intro w' hSw; (try dsimp only at hSw); go_simp
                simp only [Act.put, List.setIfInBounds_toArray, List.set_cons_zero, List.set_cons_succ]
                refine Ri.take_d (i := 27) (v := .bool false) (some 140) rfl rfl (by kernel_rfl) (by kernel_rfl) (by kernel_rfl) (fun _ _ _ h => h) (Or.inl ⟨by kernel_rfl, ?_⟩) hS1 ?_
                · intro w' hSw; (try dsimp only at hSw); go_simp
                simp only [Act.put, List.setIfInBounds_toArray, List.set_cons_zero, List.set_cons_succ]
                refine wpAnyH_done (by kernel_rfl) ?_ _
                have t1_7 := t1_w.below hy1 t1_w.lt
                have t2_7 := t2_w.below hy1 t2_w.lt
                have t3_7 := t3_w.below hy1 t3_w.lt
                have t5_7 := t5_w.below hy1 t5_w.lt
                have t6_7 := t6_w.below hy1 t6_w.lt
                have t7_7 := t7_w.below hy1 t7_w.lt
                have t8_7 := t8_w.below hy1 t8_w.lt
                have t9_7 := t9_w.below hy1 t9_w.lt
                have tA_7 := tA_w.below hy1 tA_w.lt
                have tp_7 := tp_w.below hy1 tp_w.lt
                have tq_7 := tq_w.below hy1 tq_w.lt
                have hb7 := hbw.trans (hy1.mono hbw.size)
                go_wp2_with fail
                go_meet
                exact ⟨rfl, t2_7, t3_7, t5_7, t7_7, t9_7, tA_7, hb7⟩
              · have p1 : (N == 0) = false := by simp only [beq_eq_false_iff_ne, ne_eq]; omega
                have p2 : (D == 1) = false := by simp only [beq_eq_false_iff_ne, ne_eq]; omega
                clear n0 d0 m0 e0
                have hS : ∀ w' : World, Below wr.heap.size wr w' → (w'.cell? ⟨v1.heap.size, 0, none⟩ = some (.int .i64 N) ∧ w'.cell? ⟨v1.heap.size, 1, none⟩ = some (.int .i64 D)) ∧ (w'.cell? ⟨v1.heap.size + 1, 0, none⟩ = some (.int .i64 M) ∧ w'.cell? ⟨v1.heap.size + 1, 1, none⟩ = some (.int .i64 E)) ∧ (w'.cell? ⟨v3.heap.size + 1 + 1, 0, none⟩ = some (.int .i64 0) ∧ w'.cell? ⟨v3.heap.size + 1 + 1, 1, none⟩ = some (.int .i64 1)) ∧ (w'.cell? ⟨v3.heap.size + 1 + 1 + 1, 0, none⟩ = some (.int .i64 1) ∧ w'.cell? ⟨v3.heap.size + 1 + 1 + 1, 1, none⟩ = some (.int .i64 1)) ∧ (w'.cell? ⟨Bp, 0, none⟩ = some (.int .i64 X1) ∧ w'.cell? ⟨Bp, 1, none⟩ = some (.int .i64 1)) ∧ (w'.cell? ⟨Bq, 0, none⟩ = some (.int .i64 X2) ∧ w'.cell? ⟨Bq, 1, none⟩ = some (.int .i64 1)) ∧ (w'.cell? ⟨B1, 0, none⟩ = some (.int .i64 ax) ∧ w'.cell? ⟨B1, 1, none⟩ = some (.int .i64 ay)) ∧ (w'.cell? ⟨B2, 0, none⟩ = some (.int .i64 bx) ∧ w'.cell? ⟨B2, 1, none⟩ = some (.int .i64 bz)) ∧ (w'.cell? ⟨B3, 0, none⟩ = some (.int .i64 cx) ∧ w'.cell? ⟨B3, 1, none⟩ = some (.int .i64 cy)) := fun w' hb => ⟨two_of t5_w hb, two_of t6_w hb, two_of t9_w hb, two_of tA_w hb, cel_of tp_w hb, cel_of tq_w hb, two_of t1_w hb, two_of t2_w hb, two_of t3_w hb⟩
                have hS0 := hS _ (Below.refl wr.heap.size wr).drew
                refine wp_region_held_drew (S := fun w' => (w'.cell? ⟨v1.heap.size, 0, none⟩ = some (.int .i64 N) ∧ w'.cell? ⟨v1.heap.size, 1, none⟩ = some (.int .i64 D)) ∧ (w'.cell? ⟨v1.heap.size + 1, 0, none⟩ = some (.int .i64 M) ∧ w'.cell? ⟨v1.heap.size + 1, 1, none⟩ = some (.int .i64 E)) ∧ (w'.cell? ⟨v3.heap.size + 1 + 1, 0, none⟩ = some (.int .i64 0) ∧ w'.cell? ⟨v3.heap.size + 1 + 1, 1, none⟩ = some (.int .i64 1)) ∧ (w'.cell? ⟨v3.heap.size + 1 + 1 + 1, 0, none⟩ = some (.int .i64 1) ∧ w'.cell? ⟨v3.heap.size + 1 + 1 + 1, 1, none⟩ = some (.int .i64 1)) ∧ (w'.cell? ⟨Bp, 0, none⟩ = some (.int .i64 X1) ∧ w'.cell? ⟨Bp, 1, none⟩ = some (.int .i64 1)) ∧ (w'.cell? ⟨Bq, 0, none⟩ = some (.int .i64 X2) ∧ w'.cell? ⟨Bq, 1, none⟩ = some (.int .i64 1)) ∧ (w'.cell? ⟨B1, 0, none⟩ = some (.int .i64 ax) ∧ w'.cell? ⟨B1, 1, none⟩ = some (.int .i64 ay)) ∧ (w'.cell? ⟨B2, 0, none⟩ = some (.int .i64 bx) ∧ w'.cell? ⟨B2, 1, none⟩ = some (.int .i64 bz)) ∧ (w'.cell? ⟨B3, 0, none⟩ = some (.int .i64 cx) ∧ w'.cell? ⟨B3, 1, none⟩ = some (.int .i64 cy))) (by kernel_rfl) hS0 (fun _ => ?_)
                refine Ri.take_d (i := 0) (v := .agg #[.int .i64 N, .int .i64 D]) (some 113) rfl rfl (by kernel_rfl) (by kernel_rfl) (by kernel_rfl) (fun _ _ _ h => h) (Or.inl ⟨by kernel_rfl, ?_⟩) hS0 ?_
                · intro w' hSw; (try dsimp only at hSw); go_simp
                simp only [Act.put, List.setIfInBounds_toArray, List.set_cons_zero, List.set_cons_succ]
                refine Ri.take_d (i := 1) (v := .agg #[.int .i64 0, .int .i64 1]) (some 114) rfl rfl (by kernel_rfl) (by kernel_rfl) (by kernel_rfl) (fun _ _ _ h => h) (Or.inl ⟨by kernel_rfl, ?_⟩) hS0 ?_
                · intro w' hSw; (try dsimp only at hSw); go_simp
                simp only [Act.put, List.setIfInBounds_toArray, List.set_cons_zero, List.set_cons_succ]
                refine Ri.take_d (i := 2) (v := .bool false) (some 115) rfl rfl (by kernel_rfl) (by kernel_rfl) (by kernel_rfl) (fun _ _ _ h => h) (Or.inl ⟨by kernel_rfl, ?_⟩) hS0 ?_
                · intro w' hSw; (try dsimp only at hSw); go_simp
                simp only [Act.put, List.setIfInBounds_toArray, List.set_cons_zero, List.set_cons_succ]
                refine Ri.take_d (i := 3) (v := .bool false) (some 116) rfl rfl (by kernel_rfl) (by kernel_rfl) (by kernel_rfl) (fun _ _ _ h => h) (Or.inl ⟨by kernel_rfl, ?_⟩) hS0 ?_
                · intro w' hSw; (try dsimp only at hSw); go_simp
                simp only [Act.put, List.setIfInBounds_toArray, List.set_cons_zero, List.set_cons_succ]
                refine Ri.take_d (i := 4) (v := undef) (some 117) rfl rfl (by kernel_rfl) (by kernel_rfl) (by kernel_rfl) (fun _ _ _ h => h) (Or.inr ⟨by kernel_rfl, rfl⟩) hS0 ?_
                simp only [Act.put, List.setIfInBounds_toArray, List.set_cons_zero, List.set_cons_succ]
                refine Ri.take_d (i := 5) (v := undef) (some 118) rfl rfl (by kernel_rfl) (by kernel_rfl) (by kernel_rfl) (fun _ _ _ h => h) (Or.inr ⟨by kernel_rfl, rfl⟩) hS0 ?_
                simp only [Act.put, List.setIfInBounds_toArray, List.set_cons_zero, List.set_cons_succ]
                refine Ri.take_d (i := 6) (v := undef) (some 119) rfl rfl (by kernel_rfl) (by kernel_rfl) (by kernel_rfl) (fun _ _ _ h => h) (Or.inr ⟨by kernel_rfl, rfl⟩) hS0 ?_
                simp only [Act.put, List.setIfInBounds_toArray, List.set_cons_zero, List.set_cons_succ]
                refine Ri.take_d (i := 7) (v := .bool false) (some 120) rfl rfl (by kernel_rfl) (by kernel_rfl) (by kernel_rfl) (fun _ _ _ h => h) (Or.inl ⟨by kernel_rfl, ?_⟩) hS0 ?_
                · intro w' hSw; (try dsimp only at hSw); go_simp
                simp only [Act.put, List.setIfInBounds_toArray, List.set_cons_zero, List.set_cons_succ]
                refine Ri.take_d (i := 8) (v := .bool false) (some 121) rfl rfl (by kernel_rfl) (by kernel_rfl) (by kernel_rfl) (fun _ _ _ h => h) (Or.inl ⟨by kernel_rfl, ?_⟩) hS0 ?_
                · intro w' hSw; (try dsimp only at hSw); go_simp
                simp only [Act.put, List.setIfInBounds_toArray, List.set_cons_zero, List.set_cons_succ]
                refine Ri.take_d (i := 9) (v := .agg #[.int .i64 N, .int .i64 D]) (some 122) rfl rfl (by kernel_rfl) (by kernel_rfl) (by kernel_rfl) (fun _ _ _ h => h) (Or.inl ⟨by kernel_rfl, ?_⟩) hS0 ?_
                · intro w' hSw; (try dsimp only at hSw); go_simp
                simp only [Act.put, List.setIfInBounds_toArray, List.set_cons_zero, List.set_cons_succ]
                refine Ri.take_d (i := 10) (v := .agg #[.int .i64 1, .int .i64 1]) (some 123) rfl rfl (by kernel_rfl) (by kernel_rfl) (by kernel_rfl) (fun _ _ _ h => h) (Or.inl ⟨by kernel_rfl, ?_⟩) hS0 ?_
                · intro w' hSw; (try dsimp only at hSw); go_simp
                simp only [Act.put, List.setIfInBounds_toArray, List.set_cons_zero, List.set_cons_succ]
                refine Ri.take_d (i := 11) (v := .bool false) (some 124) rfl rfl (by kernel_rfl) (by kernel_rfl) (by kernel_rfl) (fun _ _ _ h => h) (Or.inl ⟨by kernel_rfl, ?_⟩) hS0 ?_
                · intro w' hSw; (try dsimp only at hSw); go_simp
                simp only [Act.put, List.setIfInBounds_toArray, List.set_cons_zero, List.set_cons_succ]
                refine Ri.take_d (i := 12) (v := .bool false) (some 125) rfl rfl (by kernel_rfl) (by kernel_rfl) (by kernel_rfl) (fun _ _ _ h => h) (Or.inl ⟨by kernel_rfl, ?_⟩) hS0 ?_
                · intro w' hSw; (try dsimp only at hSw); go_simp
                simp only [Act.put, List.setIfInBounds_toArray, List.set_cons_zero, List.set_cons_succ]
                refine Ri.take_d (i := 13) (v := undef) (some 126) rfl rfl (by kernel_rfl) (by kernel_rfl) (by kernel_rfl) (fun _ _ _ h => h) (Or.inr ⟨by kernel_rfl, rfl⟩) hS0 ?_
                simp only [Act.put, List.setIfInBounds_toArray, List.set_cons_zero, List.set_cons_succ]
                refine Ri.take_d (i := 14) (v := undef) (some 127) rfl rfl (by kernel_rfl) (by kernel_rfl) (by kernel_rfl) (fun _ _ _ h => h) (Or.inr ⟨by kernel_rfl, rfl⟩) hS0 ?_
                simp only [Act.put, List.setIfInBounds_toArray, List.set_cons_zero, List.set_cons_succ]
                refine Ri.take_d (i := 15) (v := undef) (some 128) rfl rfl (by kernel_rfl) (by kernel_rfl) (by kernel_rfl) (fun _ _ _ h => h) (Or.inr ⟨by kernel_rfl, rfl⟩) hS0 ?_
                simp only [Act.put, List.setIfInBounds_toArray, List.set_cons_zero, List.set_cons_succ]
                refine Ri.take_d (i := 16) (v := .bool false) (some 129) rfl rfl (by kernel_rfl) (by kernel_rfl) (by kernel_rfl) (fun _ _ _ h => h) (Or.inl ⟨by kernel_rfl, ?_⟩) hS0 ?_
                · intro w' hSw; (try dsimp only at hSw); go_simp
                simp only [Act.put, List.setIfInBounds_toArray, List.set_cons_zero, List.set_cons_succ]
                refine Ri.take_d (i := 17) (v := .bool false) (some 130) rfl rfl (by kernel_rfl) (by kernel_rfl) (by kernel_rfl) (fun _ _ _ h => h) (Or.inl ⟨by kernel_rfl, ?_⟩) hS0 ?_
                · intro w' hSw; (try dsimp only at hSw); go_simp
                simp only [Act.put, List.setIfInBounds_toArray, List.set_cons_zero, List.set_cons_succ]
                refine Ri.take_d (i := 18) (v := .bool false) (some 131) rfl rfl (by kernel_rfl) (by kernel_rfl) (by kernel_rfl) (fun _ _ _ h => h) (Or.inl ⟨by kernel_rfl, ?_⟩) hS0 ?_
                · intro w' hSw; (try dsimp only at hSw); go_simp
                simp only [Act.put, List.setIfInBounds_toArray, List.set_cons_zero, List.set_cons_succ]
                refine Ri.take_d (i := 19) (v := .agg #[.int .i64 M, .int .i64 E]) (some 132) rfl rfl (by kernel_rfl) (by kernel_rfl) (by kernel_rfl) (fun _ _ _ h => h) (Or.inl ⟨by kernel_rfl, ?_⟩) hS0 ?_
                · intro w' hSw; (try dsimp only at hSw); go_simp
                simp only [Act.put, List.setIfInBounds_toArray, List.set_cons_zero, List.set_cons_succ]
                refine Ri.take_d (i := 20) (v := .agg #[.int .i64 0, .int .i64 1]) (some 133) rfl rfl (by kernel_rfl) (by kernel_rfl) (by kernel_rfl) (fun _ _ _ h => h) (Or.inl ⟨by kernel_rfl, ?_⟩) hS0 ?_
                · intro w' hSw; (try dsimp only at hSw); go_simp
                simp only [Act.put, List.setIfInBounds_toArray, List.set_cons_zero, List.set_cons_succ]
                refine Ri.take_d (i := 21) (v := .bool true) (some 134) rfl rfl (by kernel_rfl) (by kernel_rfl) (by kernel_rfl) (fun _ _ _ h => h) (Or.inl ⟨by kernel_rfl, ?_⟩) hS0 ?_
                · intro w' hSw; (try dsimp only at hSw); go_simp
                simp only [Act.put, List.setIfInBounds_toArray, List.set_cons_zero, List.set_cons_succ]
                refine Ri.take_d (i := 22) (v := .agg #[.int .i64 ax, .int .i64 ay]) (some 135) rfl rfl (by kernel_rfl) (by kernel_rfl) (by kernel_rfl) (fun _ _ _ h => h) (Or.inl ⟨by kernel_rfl, ?_⟩) hS0 ?_
                · intro w' hSw; (try dsimp only at hSw); go_simp
                simp only [Act.put, List.setIfInBounds_toArray, List.set_cons_zero, List.set_cons_succ]
                refine Ri.take_d (i := 23) (v := .agg #[.int .i64 bx, .int .i64 bz]) (some 136) rfl rfl (by kernel_rfl) (by kernel_rfl) (by kernel_rfl) (fun _ _ _ h => h) (Or.inl ⟨by kernel_rfl, ?_⟩) hS0 ?_
                · intro w' hSw; (try dsimp only at hSw); go_simp
                simp only [Act.put, List.setIfInBounds_toArray, List.set_cons_zero, List.set_cons_succ]
                refine Ri.take_d (i := 24) (v := .agg #[.int .i64 cx, .int .i64 cy]) (some 137) rfl rfl (by kernel_rfl) (by kernel_rfl) (by kernel_rfl) (fun _ _ _ h => h) (Or.inl ⟨by kernel_rfl, ?_⟩) hS0 ?_
                · intro w' hSw; (try dsimp only at hSw); go_simp
                simp only [Act.put, List.setIfInBounds_toArray, List.set_cons_zero, List.set_cons_succ]
                refine wpAnyH_ready (rs := [25]) (by kernel_rfl) (by simp) ?_
                refine AllReadyH.cons rfl (fun K hK => ?_) AllReadyH.nil
                rw [if_pos (by rfl)]
                go_simp
                go_at_call 20
                refine (HB.out _).mono ?_
                rintro r y1 ⟨rfl, hy1'⟩
                have hy1 : Below wr.heap.size wr y1 := (Below.refl wr.heap.size wr).drew.trans hy1'
                have hS1 := hS _ hy1
                refine hK.out _ _ hS1 (fun _ => ?_)
                clear hK K
                try simp only [Act.put, List.setIfInBounds_toArray, List.set_cons_zero, List.set_cons_succ]
                refine Ri.take_d (i := 26) (v := .bool false) (some 139) rfl rfl (by kernel_rfl) (by kernel_rfl) (by kernel_rfl) (fun _ _ _ h => h) (Or.inl ⟨by kernel_rfl, ?_⟩) hS1 ?_
                · intro w' hSw; (try dsimp only at hSw); go_simp
                simp only [Act.put, List.setIfInBounds_toArray, List.set_cons_zero, List.set_cons_succ]
                refine Ri.take_d (i := 27) (v := .bool false) (some 140) rfl rfl (by kernel_rfl) (by kernel_rfl) (by kernel_rfl) (fun _ _ _ h => h) (Or.inl ⟨by kernel_rfl, ?_⟩) hS1 ?_
                · intro w' hSw; (try dsimp only at hSw); go_simp
                simp only [Act.put, List.setIfInBounds_toArray, List.set_cons_zero, List.set_cons_succ]
                refine wpAnyH_done (by kernel_rfl) ?_ _
                have t1_8 := t1_w.below hy1 t1_w.lt
                have t2_8 := t2_w.below hy1 t2_w.lt
                have t3_8 := t3_w.below hy1 t3_w.lt
                have t5_8 := t5_w.below hy1 t5_w.lt
                have t6_8 := t6_w.below hy1 t6_w.lt
                have t7_8 := t7_w.below hy1 t7_w.lt
                have t8_8 := t8_w.below hy1 t8_w.lt
                have t9_8 := t9_w.below hy1 t9_w.lt
                have tA_8 := tA_w.below hy1 tA_w.lt
                have tp_8 := tp_w.below hy1 tp_w.lt
                have tq_8 := tq_w.below hy1 tq_w.lt
                have hb8 := hbw.trans (hy1.mono hbw.size)
                go_wp2_with fail
                go_meet
                exact ⟨rfl, t2_8, t3_8, t5_8, t7_8, t9_8, tA_8, hb8⟩
            · have q0 : (M == 0) = false := by simpa using m0
              rcases HCA.out with ⟨n0, d0, mx, ee⟩ | ⟨n0, d0, mx, ee⟩ | ⟨n0, d0⟩
              · have p1 : (N == 0) = true := by simpa using n0
                have p2 : (D == 1) = true := by simpa using d0
                have p3 : (N == 1) = false := by simp only [beq_eq_false_iff_ne, ne_eq]; omega
                have p4 : (M == X1) = true := by simpa using mx
                have p5 : (E == 1) = true := by simpa using ee
                clear n0 d0 mx ee m0
                have hS : ∀ w' : World, Below wr.heap.size wr w' → (w'.cell? ⟨v1.heap.size, 0, none⟩ = some (.int .i64 N) ∧ w'.cell? ⟨v1.heap.size, 1, none⟩ = some (.int .i64 D)) ∧ (w'.cell? ⟨v1.heap.size + 1, 0, none⟩ = some (.int .i64 M) ∧ w'.cell? ⟨v1.heap.size + 1, 1, none⟩ = some (.int .i64 E)) ∧ (w'.cell? ⟨v3.heap.size + 1 + 1, 0, none⟩ = some (.int .i64 0) ∧ w'.cell? ⟨v3.heap.size + 1 + 1, 1, none⟩ = some (.int .i64 1)) ∧ (w'.cell? ⟨v3.heap.size + 1 + 1 + 1, 0, none⟩ = some (.int .i64 1) ∧ w'.cell? ⟨v3.heap.size + 1 + 1 + 1, 1, none⟩ = some (.int .i64 1)) ∧ (w'.cell? ⟨Bp, 0, none⟩ = some (.int .i64 X1) ∧ w'.cell? ⟨Bp, 1, none⟩ = some (.int .i64 1)) ∧ (w'.cell? ⟨Bq, 0, none⟩ = some (.int .i64 X2) ∧ w'.cell? ⟨Bq, 1, none⟩ = some (.int .i64 1)) ∧ (w'.cell? ⟨B1, 0, none⟩ = some (.int .i64 ax) ∧ w'.cell? ⟨B1, 1, none⟩ = some (.int .i64 ay)) ∧ (w'.cell? ⟨B2, 0, none⟩ = some (.int .i64 bx) ∧ w'.cell? ⟨B2, 1, none⟩ = some (.int .i64 bz)) ∧ (w'.cell? ⟨B3, 0, none⟩ = some (.int .i64 cx) ∧ w'.cell? ⟨B3, 1, none⟩ = some (.int .i64 cy)) := fun w' hb => ⟨two_of t5_w hb, two_of t6_w hb, two_of t9_w hb, two_of tA_w hb, cel_of tp_w hb, cel_of tq_w hb, two_of t1_w hb, two_of t2_w hb, two_of t3_w hb⟩
                have hS0 := hS _ (Below.refl wr.heap.size wr).drew
                refine wp_region_held_drew (S := fun w' => (w'.cell? ⟨v1.heap.size, 0, none⟩ = some (.int .i64 N) ∧ w'.cell? ⟨v1.heap.size, 1, none⟩ = some (.int .i64 D)) ∧ (w'.cell? ⟨v1.heap.size + 1, 0, none⟩ = some (.int .i64 M) ∧ w'.cell? ⟨v1.heap.size + 1, 1, none⟩ = some (.int .i64 E)) ∧ (w'.cell? ⟨v3.heap.size + 1 + 1, 0, none⟩ = some (.int .i64 0) ∧ w'.cell? ⟨v3.heap.size + 1 + 1, 1, none⟩ = some (.int .i64 1)) ∧ (w'.cell? ⟨v3.heap.size + 1 + 1 + 1, 0, none⟩ = some (.int .i64 1) ∧ w'.cell? ⟨v3.heap.size + 1 + 1 + 1, 1, none⟩ = some (.int .i64 1)) ∧ (w'.cell? ⟨Bp, 0, none⟩ = some (.int .i64 X1) ∧ w'.cell? ⟨Bp, 1, none⟩ = some (.int .i64 1)) ∧ (w'.cell? ⟨Bq, 0, none⟩ = some (.int .i64 X2) ∧ w'.cell? ⟨Bq, 1, none⟩ = some (.int .i64 1)) ∧ (w'.cell? ⟨B1, 0, none⟩ = some (.int .i64 ax) ∧ w'.cell? ⟨B1, 1, none⟩ = some (.int .i64 ay)) ∧ (w'.cell? ⟨B2, 0, none⟩ = some (.int .i64 bx) ∧ w'.cell? ⟨B2, 1, none⟩ = some (.int .i64 bz)) ∧ (w'.cell? ⟨B3, 0, none⟩ = some (.int .i64 cx) ∧ w'.cell? ⟨B3, 1, none⟩ = some (.int .i64 cy))) (by kernel_rfl) hS0 (fun _ => ?_)
                refine Ri.take_d (i := 0) (v := .agg #[.int .i64 N, .int .i64 D]) (some 113) rfl rfl (by kernel_rfl) (by kernel_rfl) (by kernel_rfl) (fun _ _ _ h => h) (Or.inl ⟨by kernel_rfl, ?_⟩) hS0 ?_
                · intro w' hSw; (try dsimp only at hSw); go_simp
                simp only [Act.put, List.setIfInBounds_toArray, List.set_cons_zero, List.set_cons_succ]
                refine Ri.take_d (i := 1) (v := .agg #[.int .i64 0, .int .i64 1]) (some 114) rfl rfl (by kernel_rfl) (by kernel_rfl) (by kernel_rfl) (fun _ _ _ h => h) (Or.inl ⟨by kernel_rfl, ?_⟩) hS0 ?_
                · intro w' hSw; (try dsimp only at hSw); go_simp
                simp only [Act.put, List.setIfInBounds_toArray, List.set_cons_zero, List.set_cons_succ]
                refine Ri.take_d (i := 2) (v := .bool true) (some 115) rfl rfl (by kernel_rfl) (by kernel_rfl) (by kernel_rfl) (fun _ _ _ h => h) (Or.inl ⟨by kernel_rfl, ?_⟩) hS0 ?_
                · intro w' hSw; (try dsimp only at hSw); go_simp
                simp only [Act.put, List.setIfInBounds_toArray, List.set_cons_zero, List.set_cons_succ]
                refine Ri.take_d (i := 3) (v := .bool true) (some 116) rfl rfl (by kernel_rfl) (by kernel_rfl) (by kernel_rfl) (fun _ _ _ h => h) (Or.inl ⟨by kernel_rfl, ?_⟩) hS0 ?_
                · intro w' hSw; (try dsimp only at hSw); go_simp
                simp only [Act.put, List.setIfInBounds_toArray, List.set_cons_zero, List.set_cons_succ]
                refine Ri.take_d (i := 4) (v := .agg #[.int .i64 M, .int .i64 E]) (some 117) rfl rfl (by kernel_rfl) (by kernel_rfl) (by kernel_rfl) (fun _ _ _ h => h) (Or.inl ⟨by kernel_rfl, ?_⟩) hS0 ?_
                · intro w' hSw; (try dsimp only at hSw); go_simp
                simp only [Act.put, List.setIfInBounds_toArray, List.set_cons_zero, List.set_cons_succ]
                refine Ri.take_d (i := 5) (v := .agg #[.int .i64 X1, .int .i64 1]) (some 118) rfl rfl (by kernel_rfl) (by kernel_rfl) (by kernel_rfl) (fun _ _ _ h => h) (Or.inl ⟨by kernel_rfl, ?_⟩) hS0 ?_
                · intro w' hSw; (try dsimp only at hSw); go_simp
                simp only [Act.put, List.setIfInBounds_toArray, List.set_cons_zero, List.set_cons_succ]
                refine Ri.take_d (i := 6) (v := .bool false) (some 119) rfl rfl (by kernel_rfl) (by kernel_rfl) (by kernel_rfl) (fun _ _ _ h => h) (Or.inl ⟨by kernel_rfl, ?_⟩) hS0 ?_
                · intro w' hSw; (try dsimp only at hSw); go_simp
                simp only [Act.put, List.setIfInBounds_toArray, List.set_cons_zero, List.set_cons_succ]
                refine Ri.take_d (i := 7) (v := .bool false) (some 120) rfl rfl (by kernel_rfl) (by kernel_rfl) (by kernel_rfl) (fun _ _ _ h => h) (Or.inl ⟨by kernel_rfl, ?_⟩) hS0 ?_
                · intro w' hSw; (try dsimp only at hSw); go_simp
                simp only [Act.put, List.setIfInBounds_toArray, List.set_cons_zero, List.set_cons_succ]
                refine Ri.take_d (i := 8) (v := .bool false) (some 121) rfl rfl (by kernel_rfl) (by kernel_rfl) (by kernel_rfl) (fun _ _ _ h => h) (Or.inl ⟨by kernel_rfl, ?_⟩) hS0 ?_
                · intro w' hSw; (try dsimp only at hSw); go_simp
                simp only [Act.put, List.setIfInBounds_toArray, List.set_cons_zero, List.set_cons_succ]
                refine Ri.take_d (i := 9) (v := .agg #[.int .i64 N, .int .i64 D]) (some 122) rfl rfl (by kernel_rfl) (by kernel_rfl) (by kernel_rfl) (fun _ _ _ h => h) (Or.inl ⟨by kernel_rfl, ?_⟩) hS0 ?_
                · intro w' hSw; (try dsimp only at hSw); go_simp
                simp only [Act.put, List.setIfInBounds_toArray, List.set_cons_zero, List.set_cons_succ]
                refine Ri.take_d (i := 10) (v := .agg #[.int .i64 1, .int .i64 1]) (some 123) rfl rfl (by kernel_rfl) (by kernel_rfl) (by kernel_rfl) (fun _ _ _ h => h) (Or.inl ⟨by kernel_rfl, ?_⟩) hS0 ?_
                · intro w' hSw; (try dsimp only at hSw); go_simp
                simp only [Act.put, List.setIfInBounds_toArray, List.set_cons_zero, List.set_cons_succ]
                refine Ri.take_d (i := 11) (v := .bool false) (some 124) rfl rfl (by kernel_rfl) (by kernel_rfl) (by kernel_rfl) (fun _ _ _ h => h) (Or.inl ⟨by kernel_rfl, ?_⟩) hS0 ?_
                · intro w' hSw; (try dsimp only at hSw); go_simp
                simp only [Act.put, List.setIfInBounds_toArray, List.set_cons_zero, List.set_cons_succ]
                refine Ri.take_d (i := 12) (v := .bool false) (some 125) rfl rfl (by kernel_rfl) (by kernel_rfl) (by kernel_rfl) (fun _ _ _ h => h) (Or.inl ⟨by kernel_rfl, ?_⟩) hS0 ?_
                · intro w' hSw; (try dsimp only at hSw); go_simp
                simp only [Act.put, List.setIfInBounds_toArray, List.set_cons_zero, List.set_cons_succ]
                refine Ri.take_d (i := 13) (v := undef) (some 126) rfl rfl (by kernel_rfl) (by kernel_rfl) (by kernel_rfl) (fun _ _ _ h => h) (Or.inr ⟨by kernel_rfl, rfl⟩) hS0 ?_
                simp only [Act.put, List.setIfInBounds_toArray, List.set_cons_zero, List.set_cons_succ]
                refine Ri.take_d (i := 14) (v := undef) (some 127) rfl rfl (by kernel_rfl) (by kernel_rfl) (by kernel_rfl) (fun _ _ _ h => h) (Or.inr ⟨by kernel_rfl, rfl⟩) hS0 ?_
                simp only [Act.put, List.setIfInBounds_toArray, List.set_cons_zero, List.set_cons_succ]
                refine Ri.take_d (i := 15) (v := undef) (some 128) rfl rfl (by kernel_rfl) (by kernel_rfl) (by kernel_rfl) (fun _ _ _ h => h) (Or.inr ⟨by kernel_rfl, rfl⟩) hS0 ?_
                simp only [Act.put, List.setIfInBounds_toArray, List.set_cons_zero, List.set_cons_succ]
                refine Ri.take_d (i := 16) (v := .bool false) (some 129) rfl rfl (by kernel_rfl) (by kernel_rfl) (by kernel_rfl) (fun _ _ _ h => h) (Or.inl ⟨by kernel_rfl, ?_⟩) hS0 ?_
                · intro w' hSw; (try dsimp only at hSw); go_simp
                simp only [Act.put, List.setIfInBounds_toArray, List.set_cons_zero, List.set_cons_succ]
                refine Ri.take_d (i := 17) (v := .bool false) (some 130) rfl rfl (by kernel_rfl) (by kernel_rfl) (by kernel_rfl) (fun _ _ _ h => h) (Or.inl ⟨by kernel_rfl, ?_⟩) hS0 ?_
                · intro w' hSw; (try dsimp only at hSw); go_simp
                simp only [Act.put, List.setIfInBounds_toArray, List.set_cons_zero, List.set_cons_succ]
                refine Ri.take_d (i := 18) (v := .bool false) (some 131) rfl rfl (by kernel_rfl) (by kernel_rfl) (by kernel_rfl) (fun _ _ _ h => h) (Or.inl ⟨by kernel_rfl, ?_⟩) hS0 ?_
                · intro w' hSw; (try dsimp only at hSw); go_simp
                simp only [Act.put, List.setIfInBounds_toArray, List.set_cons_zero, List.set_cons_succ]
                refine Ri.take_d (i := 19) (v := .agg #[.int .i64 M, .int .i64 E]) (some 132) rfl rfl (by kernel_rfl) (by kernel_rfl) (by kernel_rfl) (fun _ _ _ h => h) (Or.inl ⟨by kernel_rfl, ?_⟩) hS0 ?_
                · intro w' hSw; (try dsimp only at hSw); go_simp
                simp only [Act.put, List.setIfInBounds_toArray, List.set_cons_zero, List.set_cons_succ]
                refine Ri.take_d (i := 20) (v := .agg #[.int .i64 0, .int .i64 1]) (some 133) rfl rfl (by kernel_rfl) (by kernel_rfl) (by kernel_rfl) (fun _ _ _ h => h) (Or.inl ⟨by kernel_rfl, ?_⟩) hS0 ?_
                · intro w' hSw; (try dsimp only at hSw); go_simp
                simp only [Act.put, List.setIfInBounds_toArray, List.set_cons_zero, List.set_cons_succ]
                refine Ri.take_d (i := 21) (v := .bool false) (some 134) rfl rfl (by kernel_rfl) (by kernel_rfl) (by kernel_rfl) (fun _ _ _ h => h) (Or.inl ⟨by kernel_rfl, ?_⟩) hS0 ?_
                · intro w' hSw; (try dsimp only at hSw); go_simp
                simp only [Act.put, List.setIfInBounds_toArray, List.set_cons_zero, List.set_cons_succ]
                refine Ri.take_d (i := 22) (v := .agg #[.int .i64 ax, .int .i64 ay]) (some 135) rfl rfl (by kernel_rfl) (by kernel_rfl) (by kernel_rfl) (fun _ _ _ h => h) (Or.inl ⟨by kernel_rfl, ?_⟩) hS0 ?_
                · intro w' hSw; (try dsimp only at hSw); go_simp
                simp only [Act.put, List.setIfInBounds_toArray, List.set_cons_zero, List.set_cons_succ]
                refine Ri.take_d (i := 23) (v := .agg #[.int .i64 bx, .int .i64 bz]) (some 136) rfl rfl (by kernel_rfl) (by kernel_rfl) (by kernel_rfl) (fun _ _ _ h => h) (Or.inl ⟨by kernel_rfl, ?_⟩) hS0 ?_
                · intro w' hSw; (try dsimp only at hSw); go_simp
                simp only [Act.put, List.setIfInBounds_toArray, List.set_cons_zero, List.set_cons_succ]
                refine Ri.take_d (i := 24) (v := .agg #[.int .i64 cx, .int .i64 cy]) (some 137) rfl rfl (by kernel_rfl) (by kernel_rfl) (by kernel_rfl) (fun _ _ _ h => h) (Or.inl ⟨by kernel_rfl, ?_⟩) hS0 ?_
                · intro w' hSw; (try dsimp only at hSw); go_simp
                simp only [Act.put, List.setIfInBounds_toArray, List.set_cons_zero, List.set_cons_succ]
                refine wpAnyH_ready (rs := [25]) (by kernel_rfl) (by simp) ?_
                refine AllReadyH.cons rfl (fun K hK => ?_) AllReadyH.nil
                rw [if_pos (by rfl)]
                go_simp
                go_at_call 20
                refine (HB.out _).mono ?_
                rintro r y1 ⟨rfl, hy1'⟩
                have hy1 : Below wr.heap.size wr y1 := (Below.refl wr.heap.size wr).drew.trans hy1'
                have hS1 := hS _ hy1
                refine hK.out _ _ hS1 (fun _ => ?_)
                clear hK K
                try simp only [Act.put, List.setIfInBounds_toArray, List.set_cons_zero, List.set_cons_succ]
                refine Ri.take_d (i := 26) (v := .bool false) (some 139) rfl rfl (by kernel_rfl) (by kernel_rfl) (by kernel_rfl) (fun _ _ _ h => h) (Or.inl ⟨by kernel_rfl, ?_⟩) hS1 ?_
                · intro w' hSw; (try dsimp only at hSw); go_simp
                simp only [Act.put, List.setIfInBounds_toArray, List.set_cons_zero, List.set_cons_succ]
                refine Ri.take_d (i := 27) (v := .bool false) (some 140) rfl rfl (by kernel_rfl) (by kernel_rfl) (by kernel_rfl) (fun _ _ _ h => h) (Or.inl ⟨by kernel_rfl, ?_⟩) hS1 ?_
                · intro w' hSw; (try dsimp only at hSw); go_simp
                simp only [Act.put, List.setIfInBounds_toArray, List.set_cons_zero, List.set_cons_succ]
                refine wpAnyH_done (by kernel_rfl) ?_ _
                have t1_9 := t1_w.below hy1 t1_w.lt
                have t2_9 := t2_w.below hy1 t2_w.lt
                have t3_9 := t3_w.below hy1 t3_w.lt
                have t5_9 := t5_w.below hy1 t5_w.lt
                have t6_9 := t6_w.below hy1 t6_w.lt
                have t7_9 := t7_w.below hy1 t7_w.lt
                have t8_9 := t8_w.below hy1 t8_w.lt
                have t9_9 := t9_w.below hy1 t9_w.lt
                have tA_9 := tA_w.below hy1 tA_w.lt
                have tp_9 := tp_w.below hy1 tp_w.lt
                have tq_9 := tq_w.below hy1 tq_w.lt
                have hb9 := hbw.trans (hy1.mono hbw.size)
                go_wp2_with fail
                go_meet
                exact ⟨rfl, t2_9, t3_9, t5_9, t7_9, t9_9, tA_9, hb9⟩
              · have p1 : (N == 0) = false := by simp only [beq_eq_false_iff_ne, ne_eq]; omega
                have p2 : (D == 1) = true := by simpa using d0
                have p3 : (N == 1) = true := by simpa using n0
                have p4 : (M == X2) = true := by simpa using mx
                have p5 : (E == 1) = true := by simpa using ee
                clear n0 d0 mx ee m0
                have hS : ∀ w' : World, Below wr.heap.size wr w' → (w'.cell? ⟨v1.heap.size, 0, none⟩ = some (.int .i64 N) ∧ w'.cell? ⟨v1.heap.size, 1, none⟩ = some (.int .i64 D)) ∧ (w'.cell? ⟨v1.heap.size + 1, 0, none⟩ = some (.int .i64 M) ∧ w'.cell? ⟨v1.heap.size + 1, 1, none⟩ = some (.int .i64 E)) ∧ (w'.cell? ⟨v3.heap.size + 1 + 1, 0, none⟩ = some (.int .i64 0) ∧ w'.cell? ⟨v3.heap.size + 1 + 1, 1, none⟩ = some (.int .i64 1)) ∧ (w'.cell? ⟨v3.heap.size + 1 + 1 + 1, 0, none⟩ = some (.int .i64 1) ∧ w'.cell? ⟨v3.heap.size + 1 + 1 + 1, 1, none⟩ = some (.int .i64 1)) ∧ (w'.cell? ⟨Bp, 0, none⟩ = some (.int .i64 X1) ∧ w'.cell? ⟨Bp, 1, none⟩ = some (.int .i64 1)) ∧ (w'.cell? ⟨Bq, 0, none⟩ = some (.int .i64 X2) ∧ w'.cell? ⟨Bq, 1, none⟩ = some (.int .i64 1)) ∧ (w'.cell? ⟨B1, 0, none⟩ = some (.int .i64 ax) ∧ w'.cell? ⟨B1, 1, none⟩ = some (.int .i64 ay)) ∧ (w'.cell? ⟨B2, 0, none⟩ = some (.int .i64 bx) ∧ w'.cell? ⟨B2, 1, none⟩ = some (.int .i64 bz)) ∧ (w'.cell? ⟨B3, 0, none⟩ = some (.int .i64 cx) ∧ w'.cell? ⟨B3, 1, none⟩ = some (.int .i64 cy)) := fun w' hb => ⟨two_of t5_w hb, two_of t6_w hb, two_of t9_w hb, two_of tA_w hb, cel_of tp_w hb, cel_of tq_w hb, two_of t1_w hb, two_of t2_w hb, two_of t3_w hb⟩
                have hS0 := hS _ (Below.refl wr.heap.size wr).drew
                refine wp_region_held_drew (S := fun w' => (w'.cell? ⟨v1.heap.size, 0, none⟩ = some (.int .i64 N) ∧ w'.cell? ⟨v1.heap.size, 1, none⟩ = some (.int .i64 D)) ∧ (w'.cell? ⟨v1.heap.size + 1, 0, none⟩ = some (.int .i64 M) ∧ w'.cell? ⟨v1.heap.size + 1, 1, none⟩ = some (.int .i64 E)) ∧ (w'.cell? ⟨v3.heap.size + 1 + 1, 0, none⟩ = some (.int .i64 0) ∧ w'.cell? ⟨v3.heap.size + 1 + 1, 1, none⟩ = some (.int .i64 1)) ∧ (w'.cell? ⟨v3.heap.size + 1 + 1 + 1, 0, none⟩ = some (.int .i64 1) ∧ w'.cell? ⟨v3.heap.size + 1 + 1 + 1, 1, none⟩ = some (.int .i64 1)) ∧ (w'.cell? ⟨Bp, 0, none⟩ = some (.int .i64 X1) ∧ w'.cell? ⟨Bp, 1, none⟩ = some (.int .i64 1)) ∧ (w'.cell? ⟨Bq, 0, none⟩ = some (.int .i64 X2) ∧ w'.cell? ⟨Bq, 1, none⟩ = some (.int .i64 1)) ∧ (w'.cell? ⟨B1, 0, none⟩ = some (.int .i64 ax) ∧ w'.cell? ⟨B1, 1, none⟩ = some (.int .i64 ay)) ∧ (w'.cell? ⟨B2, 0, none⟩ = some (.int .i64 bx) ∧ w'.cell? ⟨B2, 1, none⟩ = some (.int .i64 bz)) ∧ (w'.cell? ⟨B3, 0, none⟩ = some (.int .i64 cx) ∧ w'.cell? ⟨B3, 1, none⟩ = some (.int .i64 cy))) (by kernel_rfl) hS0 (fun _ => ?_)
                refine Ri.take_d (i := 0) (v := .agg #[.int .i64 N, .int .i64 D]) (some 113) rfl rfl (by kernel_rfl) (by kernel_rfl) (by kernel_rfl) (fun _ _ _ h => h) (Or.inl ⟨by kernel_rfl, ?_⟩) hS0 ?_
                · intro w' hSw; (try dsimp only at hSw); go_simp
                simp only [Act.put, List.setIfInBounds_toArray, List.set_cons_zero, List.set_cons_succ]
                refine Ri.take_d (i := 1) (v := .agg #[.int .i64 0, .int .i64 1]) (some 114) rfl rfl (by kernel_rfl) (by kernel_rfl) (by kernel_rfl) (fun _ _ _ h => h) (Or.inl ⟨by kernel_rfl, ?_⟩) hS0 ?_
                · intro w' hSw; (try dsimp only at hSw); go_simp
                simp only [Act.put, List.setIfInBounds_toArray, List.set_cons_zero, List.set_cons_succ]
                refine Ri.take_d (i := 2) (v := .bool false) (some 115) rfl rfl (by kernel_rfl) (by kernel_rfl) (by kernel_rfl) (fun _ _ _ h => h) (Or.inl ⟨by kernel_rfl, ?_⟩) hS0 ?_
                · intro w' hSw; (try dsimp only at hSw); go_simp
                simp only [Act.put, List.setIfInBounds_toArray, List.set_cons_zero, List.set_cons_succ]
                refine Ri.take_d (i := 3) (v := .bool false) (some 116) rfl rfl (by kernel_rfl) (by kernel_rfl) (by kernel_rfl) (fun _ _ _ h => h) (Or.inl ⟨by kernel_rfl, ?_⟩) hS0 ?_
                · intro w' hSw; (try dsimp only at hSw); go_simp
                simp only [Act.put, List.setIfInBounds_toArray, List.set_cons_zero, List.set_cons_succ]
                refine Ri.take_d (i := 4) (v := undef) (some 117) rfl rfl (by kernel_rfl) (by kernel_rfl) (by kernel_rfl) (fun _ _ _ h => h) (Or.inr ⟨by kernel_rfl, rfl⟩) hS0 ?_
                simp only [Act.put, List.setIfInBounds_toArray, List.set_cons_zero, List.set_cons_succ]
                refine Ri.take_d (i := 5) (v := undef) (some 118) rfl rfl (by kernel_rfl) (by kernel_rfl) (by kernel_rfl) (fun _ _ _ h => h) (Or.inr ⟨by kernel_rfl, rfl⟩) hS0 ?_
                simp only [Act.put, List.setIfInBounds_toArray, List.set_cons_zero, List.set_cons_succ]
                refine Ri.take_d (i := 6) (v := undef) (some 119) rfl rfl (by kernel_rfl) (by kernel_rfl) (by kernel_rfl) (fun _ _ _ h => h) (Or.inr ⟨by kernel_rfl, rfl⟩) hS0 ?_
                simp only [Act.put, List.setIfInBounds_toArray, List.set_cons_zero, List.set_cons_succ]
                refine Ri.take_d (i := 7) (v := .bool false) (some 120) rfl rfl (by kernel_rfl) (by kernel_rfl) (by kernel_rfl) (fun _ _ _ h => h) (Or.inl ⟨by kernel_rfl, ?_⟩) hS0 ?_
                · intro w' hSw; (try dsimp only at hSw); go_simp
                simp only [Act.put, List.setIfInBounds_toArray, List.set_cons_zero, List.set_cons_succ]
                refine Ri.take_d (i := 8) (v := .bool false) (some 121) rfl rfl (by kernel_rfl) (by kernel_rfl) (by kernel_rfl) (fun _ _ _ h => h) (Or.inl ⟨by kernel_rfl, ?_⟩) hS0 ?_
                · intro w' hSw; (try dsimp only at hSw); go_simp
                simp only [Act.put, List.setIfInBounds_toArray, List.set_cons_zero, List.set_cons_succ]
                refine Ri.take_d (i := 9) (v := .agg #[.int .i64 N, .int .i64 D]) (some 122) rfl rfl (by kernel_rfl) (by kernel_rfl) (by kernel_rfl) (fun _ _ _ h => h) (Or.inl ⟨by kernel_rfl, ?_⟩) hS0 ?_
                · intro w' hSw; (try dsimp only at hSw); go_simp
                simp only [Act.put, List.setIfInBounds_toArray, List.set_cons_zero, List.set_cons_succ]
                refine Ri.take_d (i := 10) (v := .agg #[.int .i64 1, .int .i64 1]) (some 123) rfl rfl (by kernel_rfl) (by kernel_rfl) (by kernel_rfl) (fun _ _ _ h => h) (Or.inl ⟨by kernel_rfl, ?_⟩) hS0 ?_
                · intro w' hSw; (try dsimp only at hSw); go_simp
                simp only [Act.put, List.setIfInBounds_toArray, List.set_cons_zero, List.set_cons_succ]
                refine Ri.take_d (i := 11) (v := .bool true) (some 124) rfl rfl (by kernel_rfl) (by kernel_rfl) (by kernel_rfl) (fun _ _ _ h => h) (Or.inl ⟨by kernel_rfl, ?_⟩) hS0 ?_
                · intro w' hSw; (try dsimp only at hSw); go_simp
                simp only [Act.put, List.setIfInBounds_toArray, List.set_cons_zero, List.set_cons_succ]
                refine Ri.take_d (i := 12) (v := .bool true) (some 125) rfl rfl (by kernel_rfl) (by kernel_rfl) (by kernel_rfl) (fun _ _ _ h => h) (Or.inl ⟨by kernel_rfl, ?_⟩) hS0 ?_
                · intro w' hSw; (try dsimp only at hSw); go_simp
                simp only [Act.put, List.setIfInBounds_toArray, List.set_cons_zero, List.set_cons_succ]
                refine Ri.take_d (i := 13) (v := .agg #[.int .i64 M, .int .i64 E]) (some 126) rfl rfl (by kernel_rfl) (by kernel_rfl) (by kernel_rfl) (fun _ _ _ h => h) (Or.inl ⟨by kernel_rfl, ?_⟩) hS0 ?_
                · intro w' hSw; (try dsimp only at hSw); go_simp
                simp only [Act.put, List.setIfInBounds_toArray, List.set_cons_zero, List.set_cons_succ]
                refine Ri.take_d (i := 14) (v := .agg #[.int .i64 X2, .int .i64 1]) (some 127) rfl rfl (by kernel_rfl) (by kernel_rfl) (by kernel_rfl) (fun _ _ _ h => h) (Or.inl ⟨by kernel_rfl, ?_⟩) hS0 ?_
                · intro w' hSw; (try dsimp only at hSw); go_simp
                simp only [Act.put, List.setIfInBounds_toArray, List.set_cons_zero, List.set_cons_succ]
                refine Ri.take_d (i := 15) (v := .bool false) (some 128) rfl rfl (by kernel_rfl) (by kernel_rfl) (by kernel_rfl) (fun _ _ _ h => h) (Or.inl ⟨by kernel_rfl, ?_⟩) hS0 ?_
                · intro w' hSw; (try dsimp only at hSw); go_simp
                simp only [Act.put, List.setIfInBounds_toArray, List.set_cons_zero, List.set_cons_succ]
                refine Ri.take_d (i := 16) (v := .bool false) (some 129) rfl rfl (by kernel_rfl) (by kernel_rfl) (by kernel_rfl) (fun _ _ _ h => h) (Or.inl ⟨by kernel_rfl, ?_⟩) hS0 ?_
                · intro w' hSw; (try dsimp only at hSw); go_simp
                simp only [Act.put, List.setIfInBounds_toArray, List.set_cons_zero, List.set_cons_succ]
                refine Ri.take_d (i := 17) (v := .bool false) (some 130) rfl rfl (by kernel_rfl) (by kernel_rfl) (by kernel_rfl) (fun _ _ _ h => h) (Or.inl ⟨by kernel_rfl, ?_⟩) hS0 ?_
                · intro w' hSw; (try dsimp only at hSw); go_simp
                simp only [Act.put, List.setIfInBounds_toArray, List.set_cons_zero, List.set_cons_succ]
                refine Ri.take_d (i := 18) (v := .bool false) (some 131) rfl rfl (by kernel_rfl) (by kernel_rfl) (by kernel_rfl) (fun _ _ _ h => h) (Or.inl ⟨by kernel_rfl, ?_⟩) hS0 ?_
                · intro w' hSw; (try dsimp only at hSw); go_simp
                simp only [Act.put, List.setIfInBounds_toArray, List.set_cons_zero, List.set_cons_succ]
                refine Ri.take_d (i := 19) (v := .agg #[.int .i64 M, .int .i64 E]) (some 132) rfl rfl (by kernel_rfl) (by kernel_rfl) (by kernel_rfl) (fun _ _ _ h => h) (Or.inl ⟨by kernel_rfl, ?_⟩) hS0 ?_
                · intro w' hSw; (try dsimp only at hSw); go_simp
                simp only [Act.put, List.setIfInBounds_toArray, List.set_cons_zero, List.set_cons_succ]
                refine Ri.take_d (i := 20) (v := .agg #[.int .i64 0, .int .i64 1]) (some 133) rfl rfl (by kernel_rfl) (by kernel_rfl) (by kernel_rfl) (fun _ _ _ h => h) (Or.inl ⟨by kernel_rfl, ?_⟩) hS0 ?_
                · intro w' hSw; (try dsimp only at hSw); go_simp
                simp only [Act.put, List.setIfInBounds_toArray, List.set_cons_zero, List.set_cons_succ]
                refine Ri.take_d (i := 21) (v := .bool false) (some 134) rfl rfl (by kernel_rfl) (by kernel_rfl) (by kernel_rfl) (fun _ _ _ h => h) (Or.inl ⟨by kernel_rfl, ?_⟩) hS0 ?_
                · intro w' hSw; (try dsimp only at hSw); go_simp
                simp only [Act.put, List.setIfInBounds_toArray, List.set_cons_zero, List.set_cons_succ]
                refine Ri.take_d (i := 22) (v := .agg #[.int .i64 ax, .int .i64 ay]) (some 135) rfl rfl (by kernel_rfl) (by kernel_rfl) (by kernel_rfl) (fun _ _ _ h => h) (Or.inl ⟨by kernel_rfl, ?_⟩) hS0 ?_
                · intro w' hSw; (try dsimp only at hSw); go_simp
                simp only [Act.put, List.setIfInBounds_toArray, List.set_cons_zero, List.set_cons_succ]
                refine Ri.take_d (i := 23) (v := .agg #[.int .i64 bx, .int .i64 bz]) (some 136) rfl rfl (by kernel_rfl) (by kernel_rfl) (by kernel_rfl) (fun _ _ _ h => h) (Or.inl ⟨by kernel_rfl, ?_⟩) hS0 ?_
                · intro w' hSw; (try dsimp only at hSw); go_simp
                simp only [Act.put, List.setIfInBounds_toArray, List.set_cons_zero, List.set_cons_succ]
                refine Ri.take_d (i := 24) (v := .agg #[.int .i64 cx, .int .i64 cy]) (some 137) rfl rfl (by kernel_rfl) (by kernel_rfl) (by kernel_rfl) (fun _ _ _ h => h) (Or.inl ⟨by kernel_rfl, ?_⟩) hS0 ?_
                · intro w' hSw; (try dsimp only at hSw); go_simp
                simp only [Act.put, List.setIfInBounds_toArray, List.set_cons_zero, List.set_cons_succ]
                refine wpAnyH_ready (rs := [25]) (by kernel_rfl) (by simp) ?_
                refine AllReadyH.cons rfl (fun K hK => ?_) AllReadyH.nil
                rw [if_pos (by rfl)]
                go_simp
                go_at_call 20
                refine (HB.out _).mono ?_
                rintro r y1 ⟨rfl, hy1'⟩
                have hy1 : Below wr.heap.size wr y1 := (Below.refl wr.heap.size wr).drew.trans hy1'
                have hS1 := hS _ hy1
                refine hK.out _ _ hS1 (fun _ => ?_)
                clear hK K
                try simp only [Act.put, List.setIfInBounds_toArray, List.set_cons_zero, List.set_cons_succ]
                refine Ri.take_d (i := 26) (v := .bool false) (some 139) rfl rfl (by kernel_rfl) (by kernel_rfl) (by kernel_rfl) (fun _ _ _ h => h) (Or.inl ⟨by kernel_rfl, ?_⟩) hS1 ?_
                · intro w' hSw; (try dsimp only at hSw); go_simp
                simp only [Act.put, List.setIfInBounds_toArray, List.set_cons_zero, List.set_cons_succ]
                refine Ri.take_d (i := 27) (v := .bool false) (some 140) rfl rfl (by kernel_rfl) (by kernel_rfl) (by kernel_rfl) (fun _ _ _ h => h) (Or.inl ⟨by kernel_rfl, ?_⟩) hS1 ?_
                · intro w' hSw; (try dsimp only at hSw); go_simp
                simp only [Act.put, List.setIfInBounds_toArray, List.set_cons_zero, List.set_cons_succ]
                refine wpAnyH_done (by kernel_rfl) ?_ _
                have t1_10 := t1_w.below hy1 t1_w.lt
                have t2_10 := t2_w.below hy1 t2_w.lt
                have t3_10 := t3_w.below hy1 t3_w.lt
                have t5_10 := t5_w.below hy1 t5_w.lt
                have t6_10 := t6_w.below hy1 t6_w.lt
                have t7_10 := t7_w.below hy1 t7_w.lt
                have t8_10 := t8_w.below hy1 t8_w.lt
                have t9_10 := t9_w.below hy1 t9_w.lt
                have tA_10 := tA_w.below hy1 tA_w.lt
                have tp_10 := tp_w.below hy1 tp_w.lt
                have tq_10 := tq_w.below hy1 tq_w.lt
                have hb10 := hbw.trans (hy1.mono hbw.size)
                go_wp2_with fail
                go_meet
                exact ⟨rfl, t2_10, t3_10, t5_10, t7_10, t9_10, tA_10, hb10⟩
              · have p1 : (N == 0) = false := by simp only [beq_eq_false_iff_ne, ne_eq]; omega
                have p2 : (D == 1) = false := by simp only [beq_eq_false_iff_ne, ne_eq]; omega
                clear n0 d0 m0
                have hS : ∀ w' : World, Below wr.heap.size wr w' → (w'.cell? ⟨v1.heap.size, 0, none⟩ = some (.int .i64 N) ∧ w'.cell? ⟨v1.heap.size, 1, none⟩ = some (.int .i64 D)) ∧ (w'.cell? ⟨v1.heap.size + 1, 0, none⟩ = some (.int .i64 M) ∧ w'.cell? ⟨v1.heap.size + 1, 1, none⟩ = some (.int .i64 E)) ∧ (w'.cell? ⟨v3.heap.size + 1 + 1, 0, none⟩ = some (.int .i64 0) ∧ w'.cell? ⟨v3.heap.size + 1 + 1, 1, none⟩ = some (.int .i64 1)) ∧ (w'.cell? ⟨v3.heap.size + 1 + 1 + 1, 0, none⟩ = some (.int .i64 1) ∧ w'.cell? ⟨v3.heap.size + 1 + 1 + 1, 1, none⟩ = some (.int .i64 1)) ∧ (w'.cell? ⟨Bp, 0, none⟩ = some (.int .i64 X1) ∧ w'.cell? ⟨Bp, 1, none⟩ = some (.int .i64 1)) ∧ (w'.cell? ⟨Bq, 0, none⟩ = some (.int .i64 X2) ∧ w'.cell? ⟨Bq, 1, none⟩ = some (.int .i64 1)) ∧ (w'.cell? ⟨B1, 0, none⟩ = some (.int .i64 ax) ∧ w'.cell? ⟨B1, 1, none⟩ = some (.int .i64 ay)) ∧ (w'.cell? ⟨B2, 0, none⟩ = some (.int .i64 bx) ∧ w'.cell? ⟨B2, 1, none⟩ = some (.int .i64 bz)) ∧ (w'.cell? ⟨B3, 0, none⟩ = some (.int .i64 cx) ∧ w'.cell? ⟨B3, 1, none⟩ = some (.int .i64 cy)) := fun w' hb => ⟨two_of t5_w hb, two_of t6_w hb, two_of t9_w hb, two_of tA_w hb, cel_of tp_w hb, cel_of tq_w hb, two_of t1_w hb, two_of t2_w hb, two_of t3_w hb⟩
                have hS0 := hS _ (Below.refl wr.heap.size wr).drew
                refine wp_region_held_drew (S := fun w' => (w'.cell? ⟨v1.heap.size, 0, none⟩ = some (.int .i64 N) ∧ w'.cell? ⟨v1.heap.size, 1, none⟩ = some (.int .i64 D)) ∧ (w'.cell? ⟨v1.heap.size + 1, 0, none⟩ = some (.int .i64 M) ∧ w'.cell? ⟨v1.heap.size + 1, 1, none⟩ = some (.int .i64 E)) ∧ (w'.cell? ⟨v3.heap.size + 1 + 1, 0, none⟩ = some (.int .i64 0) ∧ w'.cell? ⟨v3.heap.size + 1 + 1, 1, none⟩ = some (.int .i64 1)) ∧ (w'.cell? ⟨v3.heap.size + 1 + 1 + 1, 0, none⟩ = some (.int .i64 1) ∧ w'.cell? ⟨v3.heap.size + 1 + 1 + 1, 1, none⟩ = some (.int .i64 1)) ∧ (w'.cell? ⟨Bp, 0, none⟩ = some (.int .i64 X1) ∧ w'.cell? ⟨Bp, 1, none⟩ = some (.int .i64 1)) ∧ (w'.cell? ⟨Bq, 0, none⟩ = some (.int .i64 X2) ∧ w'.cell? ⟨Bq, 1, none⟩ = some (.int .i64 1)) ∧ (w'.cell? ⟨B1, 0, none⟩ = some (.int .i64 ax) ∧ w'.cell? ⟨B1, 1, none⟩ = some (.int .i64 ay)) ∧ (w'.cell? ⟨B2, 0, none⟩ = some (.int .i64 bx) ∧ w'.cell? ⟨B2, 1, none⟩ = some (.int .i64 bz)) ∧ (w'.cell? ⟨B3, 0, none⟩ = some (.int .i64 cx) ∧ w'.cell? ⟨B3, 1, none⟩ = some (.int .i64 cy))) (by kernel_rfl) hS0 (fun _ => ?_)
                refine Ri.take_d (i := 0) (v := .agg #[.int .i64 N, .int .i64 D]) (some 113) rfl rfl (by kernel_rfl) (by kernel_rfl) (by kernel_rfl) (fun _ _ _ h => h) (Or.inl ⟨by kernel_rfl, ?_⟩) hS0 ?_
                · intro w' hSw; (try dsimp only at hSw); go_simp
                simp only [Act.put, List.setIfInBounds_toArray, List.set_cons_zero, List.set_cons_succ]
                refine Ri.take_d (i := 1) (v := .agg #[.int .i64 0, .int .i64 1]) (some 114) rfl rfl (by kernel_rfl) (by kernel_rfl) (by kernel_rfl) (fun _ _ _ h => h) (Or.inl ⟨by kernel_rfl, ?_⟩) hS0 ?_
                · intro w' hSw; (try dsimp only at hSw); go_simp
                simp only [Act.put, List.setIfInBounds_toArray, List.set_cons_zero, List.set_cons_succ]
                refine Ri.take_d (i := 2) (v := .bool false) (some 115) rfl rfl (by kernel_rfl) (by kernel_rfl) (by kernel_rfl) (fun _ _ _ h => h) (Or.inl ⟨by kernel_rfl, ?_⟩) hS0 ?_
                · intro w' hSw; (try dsimp only at hSw); go_simp
                simp only [Act.put, List.setIfInBounds_toArray, List.set_cons_zero, List.set_cons_succ]
                refine Ri.take_d (i := 3) (v := .bool false) (some 116) rfl rfl (by kernel_rfl) (by kernel_rfl) (by kernel_rfl) (fun _ _ _ h => h) (Or.inl ⟨by kernel_rfl, ?_⟩) hS0 ?_
                · intro w' hSw; (try dsimp only at hSw); go_simp
                simp only [Act.put, List.setIfInBounds_toArray, List.set_cons_zero, List.set_cons_succ]
                refine Ri.take_d (i := 4) (v := undef) (some 117) rfl rfl (by kernel_rfl) (by kernel_rfl) (by kernel_rfl) (fun _ _ _ h => h) (Or.inr ⟨by kernel_rfl, rfl⟩) hS0 ?_
                simp only [Act.put, List.setIfInBounds_toArray, List.set_cons_zero, List.set_cons_succ]
                refine Ri.take_d (i := 5) (v := undef) (some 118) rfl rfl (by kernel_rfl) (by kernel_rfl) (by kernel_rfl) (fun _ _ _ h => h) (Or.inr ⟨by kernel_rfl, rfl⟩) hS0 ?_
                simp only [Act.put, List.setIfInBounds_toArray, List.set_cons_zero, List.set_cons_succ]
                refine Ri.take_d (i := 6) (v := undef) (some 119) rfl rfl (by kernel_rfl) (by kernel_rfl) (by kernel_rfl) (fun _ _ _ h => h) (Or.inr ⟨by kernel_rfl, rfl⟩) hS0 ?_
                simp only [Act.put, List.setIfInBounds_toArray, List.set_cons_zero, List.set_cons_succ]
                refine Ri.take_d (i := 7) (v := .bool false) (some 120) rfl rfl (by kernel_rfl) (by kernel_rfl) (by kernel_rfl) (fun _ _ _ h => h) (Or.inl ⟨by kernel_rfl, ?_⟩) hS0 ?_
                · intro w' hSw; (try dsimp only at hSw); go_simp
                simp only [Act.put, List.setIfInBounds_toArray, List.set_cons_zero, List.set_cons_succ]
                refine Ri.take_d (i := 8) (v := .bool false) (some 121) rfl rfl (by kernel_rfl) (by kernel_rfl) (by kernel_rfl) (fun _ _ _ h => h) (Or.inl ⟨by kernel_rfl, ?_⟩) hS0 ?_
                · intro w' hSw; (try dsimp only at hSw); go_simp
                simp only [Act.put, List.setIfInBounds_toArray, List.set_cons_zero, List.set_cons_succ]
                refine Ri.take_d (i := 9) (v := .agg #[.int .i64 N, .int .i64 D]) (some 122) rfl rfl (by kernel_rfl) (by kernel_rfl) (by kernel_rfl) (fun _ _ _ h => h) (Or.inl ⟨by kernel_rfl, ?_⟩) hS0 ?_
                · intro w' hSw; (try dsimp only at hSw); go_simp
                simp only [Act.put, List.setIfInBounds_toArray, List.set_cons_zero, List.set_cons_succ]
                refine Ri.take_d (i := 10) (v := .agg #[.int .i64 1, .int .i64 1]) (some 123) rfl rfl (by kernel_rfl) (by kernel_rfl) (by kernel_rfl) (fun _ _ _ h => h) (Or.inl ⟨by kernel_rfl, ?_⟩) hS0 ?_
                · intro w' hSw; (try dsimp only at hSw); go_simp
                simp only [Act.put, List.setIfInBounds_toArray, List.set_cons_zero, List.set_cons_succ]
                refine Ri.take_d (i := 11) (v := .bool false) (some 124) rfl rfl (by kernel_rfl) (by kernel_rfl) (by kernel_rfl) (fun _ _ _ h => h) (Or.inl ⟨by kernel_rfl, ?_⟩) hS0 ?_
                · intro w' hSw; (try dsimp only at hSw); go_simp
                simp only [Act.put, List.setIfInBounds_toArray, List.set_cons_zero, List.set_cons_succ]
                refine Ri.take_d (i := 12) (v := .bool false) (some 125) rfl rfl (by kernel_rfl) (by kernel_rfl) (by kernel_rfl) (fun _ _ _ h => h) (Or.inl ⟨by kernel_rfl, ?_⟩) hS0 ?_
                · intro w' hSw; (try dsimp only at hSw); go_simp
                simp only [Act.put, List.setIfInBounds_toArray, List.set_cons_zero, List.set_cons_succ]
                refine Ri.take_d (i := 13) (v := undef) (some 126) rfl rfl (by kernel_rfl) (by kernel_rfl) (by kernel_rfl) (fun _ _ _ h => h) (Or.inr ⟨by kernel_rfl, rfl⟩) hS0 ?_
                simp only [Act.put, List.setIfInBounds_toArray, List.set_cons_zero, List.set_cons_succ]
                refine Ri.take_d (i := 14) (v := undef) (some 127) rfl rfl (by kernel_rfl) (by kernel_rfl) (by kernel_rfl) (fun _ _ _ h => h) (Or.inr ⟨by kernel_rfl, rfl⟩) hS0 ?_
                simp only [Act.put, List.setIfInBounds_toArray, List.set_cons_zero, List.set_cons_succ]
                refine Ri.take_d (i := 15) (v := undef) (some 128) rfl rfl (by kernel_rfl) (by kernel_rfl) (by kernel_rfl) (fun _ _ _ h => h) (Or.inr ⟨by kernel_rfl, rfl⟩) hS0 ?_
                simp only [Act.put, List.setIfInBounds_toArray, List.set_cons_zero, List.set_cons_succ]
                refine Ri.take_d (i := 16) (v := .bool false) (some 129) rfl rfl (by kernel_rfl) (by kernel_rfl) (by kernel_rfl) (fun _ _ _ h => h) (Or.inl ⟨by kernel_rfl, ?_⟩) hS0 ?_
                · intro w' hSw; (try dsimp only at hSw); go_simp
                simp only [Act.put, List.setIfInBounds_toArray, List.set_cons_zero, List.set_cons_succ]
                refine Ri.take_d (i := 17) (v := .bool false) (some 130) rfl rfl (by kernel_rfl) (by kernel_rfl) (by kernel_rfl) (fun _ _ _ h => h) (Or.inl ⟨by kernel_rfl, ?_⟩) hS0 ?_
                · intro w' hSw; (try dsimp only at hSw); go_simp
                simp only [Act.put, List.setIfInBounds_toArray, List.set_cons_zero, List.set_cons_succ]
                refine Ri.take_d (i := 18) (v := .bool false) (some 131) rfl rfl (by kernel_rfl) (by kernel_rfl) (by kernel_rfl) (fun _ _ _ h => h) (Or.inl ⟨by kernel_rfl, ?_⟩) hS0 ?_
                · intro w' hSw; (try dsimp only at hSw); go_simp
                simp only [Act.put, List.setIfInBounds_toArray, List.set_cons_zero, List.set_cons_succ]
                refine Ri.take_d (i := 19) (v := .agg #[.int .i64 M, .int .i64 E]) (some 132) rfl rfl (by kernel_rfl) (by kernel_rfl) (by kernel_rfl) (fun _ _ _ h => h) (Or.inl ⟨by kernel_rfl, ?_⟩) hS0 ?_
                · intro w' hSw; (try dsimp only at hSw); go_simp
                simp only [Act.put, List.setIfInBounds_toArray, List.set_cons_zero, List.set_cons_succ]
                refine Ri.take_d (i := 20) (v := .agg #[.int .i64 0, .int .i64 1]) (some 133) rfl rfl (by kernel_rfl) (by kernel_rfl) (by kernel_rfl) (fun _ _ _ h => h) (Or.inl ⟨by kernel_rfl, ?_⟩) hS0 ?_
                · intro w' hSw; (try dsimp only at hSw); go_simp
                simp only [Act.put, List.setIfInBounds_toArray, List.set_cons_zero, List.set_cons_succ]
                refine Ri.take_d (i := 21) (v := .bool false) (some 134) rfl rfl (by kernel_rfl) (by kernel_rfl) (by kernel_rfl) (fun _ _ _ h => h) (Or.inl ⟨by kernel_rfl, ?_⟩) hS0 ?_
                · intro w' hSw; (try dsimp only at hSw); go_simp
                simp only [Act.put, List.setIfInBounds_toArray, List.set_cons_zero, List.set_cons_succ]
                refine Ri.take_d (i := 22) (v := .agg #[.int .i64 ax, .int .i64 ay]) (some 135) rfl rfl (by kernel_rfl) (by kernel_rfl) (by kernel_rfl) (fun _ _ _ h => h) (Or.inl ⟨by kernel_rfl, ?_⟩) hS0 ?_
                · intro w' hSw; (try dsimp only at hSw); go_simp
                simp only [Act.put, List.setIfInBounds_toArray, List.set_cons_zero, List.set_cons_succ]
                refine Ri.take_d (i := 23) (v := .agg #[.int .i64 bx, .int .i64 bz]) (some 136) rfl rfl (by kernel_rfl) (by kernel_rfl) (by kernel_rfl) (fun _ _ _ h => h) (Or.inl ⟨by kernel_rfl, ?_⟩) hS0 ?_
                · intro w' hSw; (try dsimp only at hSw); go_simp
                simp only [Act.put, List.setIfInBounds_toArray, List.set_cons_zero, List.set_cons_succ]
                refine Ri.take_d (i := 24) (v := .agg #[.int .i64 cx, .int .i64 cy]) (some 137) rfl rfl (by kernel_rfl) (by kernel_rfl) (by kernel_rfl) (fun _ _ _ h => h) (Or.inl ⟨by kernel_rfl, ?_⟩) hS0 ?_
                · intro w' hSw; (try dsimp only at hSw); go_simp
                simp only [Act.put, List.setIfInBounds_toArray, List.set_cons_zero, List.set_cons_succ]
                refine wpAnyH_ready (rs := [25]) (by kernel_rfl) (by simp) ?_
                refine AllReadyH.cons rfl (fun K hK => ?_) AllReadyH.nil
                rw [if_pos (by rfl)]
                go_simp
                go_at_call 20
                refine (HB.out _).mono ?_
                rintro r y1 ⟨rfl, hy1'⟩
                have hy1 : Below wr.heap.size wr y1 := (Below.refl wr.heap.size wr).drew.trans hy1'
                have hS1 := hS _ hy1
                refine hK.out _ _ hS1 (fun _ => ?_)
                clear hK K
                try simp only [Act.put, List.setIfInBounds_toArray, List.set_cons_zero, List.set_cons_succ]
                refine Ri.take_d (i := 26) (v := .bool false) (some 139) rfl rfl (by kernel_rfl) (by kernel_rfl) (by kernel_rfl) (fun _ _ _ h => h) (Or.inl ⟨by kernel_rfl, ?_⟩) hS1 ?_
                · intro w' hSw; (try dsimp only at hSw); go_simp
                simp only [Act.put, List.setIfInBounds_toArray, List.set_cons_zero, List.set_cons_succ]
                refine Ri.take_d (i := 27) (v := .bool false) (some 140) rfl rfl (by kernel_rfl) (by kernel_rfl) (by kernel_rfl) (fun _ _ _ h => h) (Or.inl ⟨by kernel_rfl, ?_⟩) hS1 ?_
                · intro w' hSw; (try dsimp only at hSw); go_simp
                simp only [Act.put, List.setIfInBounds_toArray, List.set_cons_zero, List.set_cons_succ]
                refine wpAnyH_done (by kernel_rfl) ?_ _
                have t1_11 := t1_w.below hy1 t1_w.lt
                have t2_11 := t2_w.below hy1 t2_w.lt
                have t3_11 := t3_w.below hy1 t3_w.lt
                have t5_11 := t5_w.below hy1 t5_w.lt
                have t6_11 := t6_w.below hy1 t6_w.lt
                have t7_11 := t7_w.below hy1 t7_w.lt
                have t8_11 := t8_w.below hy1 t8_w.lt
                have t9_11 := t9_w.below hy1 t9_w.lt
                have tA_11 := tA_w.below hy1 tA_w.lt
                have tp_11 := tp_w.below hy1 tp_w.lt
                have tq_11 := tq_w.below hy1 tq_w.lt
                have hb11 := hbw.trans (hy1.mono hbw.size)
                go_wp2_with fail
                go_meet
                exact ⟨rfl, t2_11, t3_11, t5_11, t7_11, t9_11, tA_11, hb11⟩
          case rest =>
            clear t1_w
            clear t2_w
            clear t3_w
            clear t5_w
            clear t6_w
            clear t7_w
            clear t8_w
            clear t9_w
            clear tA_w
            clear tp_w
            clear tq_w
            clear hbw HCA HNO HB HX1 HX2
            obtain ⟨rfl, s2, s3, s5, s7, s9, sA, hbZ⟩ := hcut
            by_cases hbc : bx = cx ∧ bz = cy
            · obtain ⟨⟨n0, d0⟩, n2, d2⟩ := HSA.out hbc
              have p1 : (N == 0) = true := by simpa using n0
              have p2 : (D == 1) = true := by simpa using d0
              have p3 : (N2 == 0) = true := by simpa using n2
              have p4 : (D2 == 1) = true := by simpa using d2
              have p5 : (bx == cx) = true := by simpa using hbc.1
              have p6 : (bz == cy) = true := by simpa using hbc.2
              clear n0 d0 n2 d2 hbc HSA HSUM HAD
              obtain ⟨f2_0, f2_1, f2_2, f2_3⟩ := s2.facts
              obtain ⟨f3_0, f3_1, f3_2, f3_3⟩ := s3.facts
              obtain ⟨f5_0, f5_1, f5_2, f5_3⟩ := s5.facts
              obtain ⟨f7_0, f7_1, f7_2, f7_3⟩ := s7.facts
              obtain ⟨f9_0, f9_1, f9_2, f9_3⟩ := s9.facts
              obtain ⟨fA_0, fA_1, fA_2, fA_3⟩ := sA.facts
              go_wp2_with fail
              go_ret
              exact ⟨rfl, hbZ⟩
            · obtain ⟨a1, a2, a3⟩ := HSUM.out hbc
              rw [a1, a2, a3] at HAD
              have hne : (bx == cx) = false ∨ bx = cx ∧ (bz == cy) = false := by
                simp only [beq_eq_false_iff_ne, ne_eq]
                omega
              clear a1 a2 a3 HSUM HSA hbc
              rcases hne with hne | ⟨rfl, hne⟩
              · obtain ⟨f2_0, f2_1, f2_2, f2_3⟩ := s2.facts
                obtain ⟨f3_0, f3_1, f3_2, f3_3⟩ := s3.facts
                obtain ⟨f5_0, f5_1, f5_2, f5_3⟩ := s5.facts
                obtain ⟨f7_0, f7_1, f7_2, f7_3⟩ := s7.facts
                obtain ⟨f9_0, f9_1, f9_2, f9_3⟩ := s9.facts
                obtain ⟨fA_0, fA_1, fA_2, fA_3⟩ := sA.facts
                go_wp2_with fail
                refine (HAD.out _).mono ?_
                rintro r v12 ⟨rfl, hx12⟩
                clear f2_0 f2_1 f2_2 f2_3 f3_0 f3_1 f3_2 f3_3 f5_0 f5_1 f5_2 f5_3 f7_0 f7_1 f7_2 f7_3 f9_0 f9_1 f9_2 f9_3 fA_0 fA_1 fA_2 fA_3
                have t2_12 := s2.below hx12 s2.lt
                clear s2
                have t3_12 := s3.below hx12 s3.lt
                clear s3
                have t5_12 := s5.below hx12 s5.lt
                clear s5
                have t7_12 := s7.below hx12 s7.lt
                clear s7
                have t9_12 := s9.below hx12 s9.lt
                clear s9
                have tA_12 := sA.below hx12 sA.lt
                clear sA
                have hb12 := hbZ.trans (hx12.mono hbZ.size)
                clear hbZ hx12
                have ltA := tA_12.lt
                obtain ⟨f2_0, f2_1, f2_2, f2_3⟩ := t2_12.facts
                obtain ⟨f3_0, f3_1, f3_2, f3_3⟩ := t3_12.facts
                obtain ⟨f5_0, f5_1, f5_2, f5_3⟩ := t5_12.facts
                obtain ⟨f7_0, f7_1, f7_2, f7_3⟩ := t7_12.facts
                obtain ⟨f9_0, f9_1, f9_2, f9_3⟩ := t9_12.facts
                obtain ⟨fA_0, fA_1, fA_2, fA_3⟩ := tA_12.facts
                go_wp2_with fail
                go_ret
                exact ⟨rfl, hb12.alloc hb12.size _⟩
              · obtain ⟨f2_0, f2_1, f2_2, f2_3⟩ := s2.facts
                obtain ⟨f3_0, f3_1, f3_2, f3_3⟩ := s3.facts
                obtain ⟨f5_0, f5_1, f5_2, f5_3⟩ := s5.facts
                obtain ⟨f7_0, f7_1, f7_2, f7_3⟩ := s7.facts
                obtain ⟨f9_0, f9_1, f9_2, f9_3⟩ := s9.facts
                obtain ⟨fA_0, fA_1, fA_2, fA_3⟩ := sA.facts
                go_wp2_with fail
                refine (HAD.out _).mono ?_
                rintro r v13 ⟨rfl, hx13⟩
                clear f2_0 f2_1 f2_2 f2_3 f3_0 f3_1 f3_2 f3_3 f5_0 f5_1 f5_2 f5_3 f7_0 f7_1 f7_2 f7_3 f9_0 f9_1 f9_2 f9_3 fA_0 fA_1 fA_2 fA_3
                have t2_13 := s2.below hx13 s2.lt
                clear s2
                have t3_13 := s3.below hx13 s3.lt
                clear s3
                have t5_13 := s5.below hx13 s5.lt
                clear s5
                have t7_13 := s7.below hx13 s7.lt
                clear s7
                have t9_13 := s9.below hx13 s9.lt
                clear s9
                have tA_13 := sA.below hx13 sA.lt
                clear sA
                have hb13 := hbZ.trans (hx13.mono hbZ.size)
                clear hbZ hx13
                have ltA := tA_13.lt
                obtain ⟨f2_0, f2_1, f2_2, f2_3⟩ := t2_13.facts
                obtain ⟨f3_0, f3_1, f3_2, f3_3⟩ := t3_13.facts
                obtain ⟨f5_0, f5_1, f5_2, f5_3⟩ := t5_13.facts
                obtain ⟨f7_0, f7_1, f7_2, f7_3⟩ := t7_13.facts
                obtain ⟨f9_0, f9_1, f9_2, f9_3⟩ := t9_13.facts
                obtain ⟨fA_0, fA_1, fA_2, fA_3⟩ := tA_13.facts
                go_wp2_with fail
                go_ret
                exact ⟨rfl, hb13.alloc hb13.size _⟩
end Go.Proofs.Ytbkeennjoepmmaa.Ge
