/- Walks over package geom: Cross. -/
import Derived.Test.YtohkmkkcblbemaaGeoW6
namespace Go.Proofs.Ytohkmkkcblbemaa.Ge
set_option linter.unusedVariables false
set_option linter.unusedSimpArgs false
open Go.RowKit
open Go.Proofs.Ytohkmkkcblbemaa.Fr (Two)

theorem cutI {p q : Prop} (a : p) (b : p → q) : q := b a
theorem four_b1 {W w1 : World} {x y z u : Int} (hb : Below (W.alloc (.cells #[.int .i64 x, .int .i64 y, .int .i64 z, .int .i64 u] 63)).drew.heap.size (W.alloc (.cells #[.int .i64 x, .int .i64 y, .int .i64 z, .int .i64 u] 63)).drew w1) : Four w1 W.heap.size x y z u :=
  Four.below (w := (W.alloc (.cells #[.int .i64 x, .int .i64 y, .int .i64 z, .int .i64 u] 63)).drew) (Four.at rfl x y z u) hb (by simp)
theorem four_b2 {W w1 : World} {x y z u a b c d : Int} (hb : Below ((W.alloc (.cells #[.int .i64 x, .int .i64 y, .int .i64 z, .int .i64 u] 63)).alloc (.cells #[.int .i64 a, .int .i64 b, .int .i64 c, .int .i64 d] 63)).drew.heap.size ((W.alloc (.cells #[.int .i64 x, .int .i64 y, .int .i64 z, .int .i64 u] 63)).alloc (.cells #[.int .i64 a, .int .i64 b, .int .i64 c, .int .i64 d] 63)).drew w1) : Four w1 W.heap.size x y z u ∧ Four w1 (W.heap.size + 1) a b c d :=
  ⟨Four.below (w := ((W.alloc (.cells #[.int .i64 x, .int .i64 y, .int .i64 z, .int .i64 u] 63)).alloc (.cells #[.int .i64 a, .int .i64 b, .int .i64 c, .int .i64 d] 63)).drew) ((Four.at rfl x y z u).alloc _) hb (by simp; omega), Four.below (w := ((W.alloc (.cells #[.int .i64 x, .int .i64 y, .int .i64 z, .int .i64 u] 63)).alloc (.cells #[.int .i64 a, .int .i64 b, .int .i64 c, .int .i64 d] 63)).drew) (Four.at (by simp) a b c d) hb (by simp)⟩
theorem four_b3 {W w1 : World} {x y z u : Int} (hb : Below (W.alloc (.cells #[.int .i64 x, .int .i64 y, .int .i64 z, .int .i64 u] 63)).heap.size (W.alloc (.cells #[.int .i64 x, .int .i64 y, .int .i64 z, .int .i64 u] 63)) w1) : Four w1 W.heap.size x y z u :=
  Four.below (Four.at rfl x y z u) hb (by simp)
theorem four_b4 {W w1 : World} {x y z u a b c d : Int} (hb : Below ((W.alloc (.cells #[.int .i64 x, .int .i64 y, .int .i64 z, .int .i64 u] 63)).alloc (.cells #[.int .i64 a, .int .i64 b, .int .i64 c, .int .i64 d] 63)).heap.size ((W.alloc (.cells #[.int .i64 x, .int .i64 y, .int .i64 z, .int .i64 u] 63)).alloc (.cells #[.int .i64 a, .int .i64 b, .int .i64 c, .int .i64 d] 63)) w1) : Four w1 W.heap.size x y z u ∧ Four w1 (W.heap.size + 1) a b c d :=
  ⟨Four.below ((Four.at rfl x y z u).alloc _) hb (by simp; omega), Four.below (Four.at (by simp) a b c d) hb (by simp)⟩
theorem Four.drew {w : World} {B : Nat} {x y z u : Int} (h : Four w B x y z u) : Four w.drew B x y z u := h
theorem four_set {w : World} {B : Nat} {x y z u : Int} (h : Four w B x y z u) (a b c d : Int) : Four ((((w.setCell ⟨B, 0, none⟩ (.int .i64 a)).setCell ⟨B, 1, none⟩ (.int .i64 b)).setCell ⟨B, 2, none⟩ (.int .i64 c)).setCell ⟨B, 3, none⟩ (.int .i64 d)) B a b c d := by
  unfold Four at h ⊢
  rw [heap_setCell_same _ _ _ _ _ _ (heap_setCell_same _ _ _ _ _ _ (heap_setCell_same _ _ _ _ _ _ (heap_setCell_same _ _ _ _ _ _ h)))]
  rfl

/-- the cells of a segment -/
def Seg (w : World) (B : Nat) (x y z u : Int) : Prop := (w.cell? ⟨B, 0, none⟩ = some (.int .i64 x) ∧ w.cell? ⟨B, 1, none⟩ = some (.int .i64 y) ∧ w.cell? ⟨B, 2, none⟩ = some (.int .i64 z) ∧ w.cell? ⟨B, 3, none⟩ = some (.int .i64 u))
theorem Seg.below {w w' : World} {B : Nat} {x y z u : Int} (h : Seg w B x y z u) (hb : Below w.heap.size w w') : Seg w' B x y z u := by
  have hlt : B < w.heap.size := World.block_lt_of_cell? _ _ h.1
  exact ⟨(hb.cell (p := ⟨B, 0, none⟩) hlt).trans h.1, (hb.cell (p := ⟨B, 1, none⟩) hlt).trans h.2.1, (hb.cell (p := ⟨B, 2, none⟩) hlt).trans h.2.2.1, (hb.cell (p := ⟨B, 3, none⟩) hlt).trans h.2.2.2⟩
/-- what Cross's segments lie in -/
def CrossAt (W : World) (ax ay bx bz cx cy dx dy : Int) (v u : Value) (wx : World) : Prop :=
  ∃ B1 B2 : Nat, v = .pointer (some ⟨B1, 0, none⟩) ∧ u = .pointer (some ⟨B2, 0, none⟩) ∧ Seg wx B1 ax ay bx bz ∧ Seg wx B2 cx cy dx dy ∧ Below W.heap.size W wx

set_option maxRecDepth 100000 in
set_option maxHeartbeats 8000000 in
theorem Cross_any (ax ay bx bz cx cy dx dy : Int) (w : World) :
    Calls Try.prog 18 #[.agg #[.int .i64 ax, .int .i64 ay], .agg #[.int .i64 bx, .int .i64 bz], .agg #[.int .i64 cx, .int .i64 cy], .agg #[.int .i64 dx, .int .i64 dy]] w fun e w' => e = .returned (.int .i64 (crossV ax ay bx bz cx cy dx dy)) ∧ Below w.heap.size w w' := by
  unfold crossV
  have HL := Lib.hid (fun b cap w k => allOn4 ax ay bx bz cx cy dx dy b cap w k)
  have b0_0 := Two.at (w := w) (B := w.heap.size) (by simp) 23 (.int .i64 ax) (.int .i64 ay)
  have b1_1 := Two.at (w := (w.alloc (.cells #[.int .i64 ax, .int .i64 ay] 23))) (B := w.heap.size + 1) (by simp) 23 (.int .i64 bx) (.int .i64 bz)
  have b0_1 := b0_0.alloc (.cells #[.int .i64 bx, .int .i64 bz] 23)
  have b2_2 := Two.at (w := ((w.alloc (.cells #[.int .i64 ax, .int .i64 ay] 23)).alloc (.cells #[.int .i64 bx, .int .i64 bz] 23))) (B := w.heap.size + 1 + 1) (by simp) 23 (.int .i64 cx) (.int .i64 cy)
  have b0_2 := b0_1.alloc (.cells #[.int .i64 cx, .int .i64 cy] 23)
  have b1_2 := b1_1.alloc (.cells #[.int .i64 cx, .int .i64 cy] 23)
  have b3_3 := Two.at (w := (((w.alloc (.cells #[.int .i64 ax, .int .i64 ay] 23)).alloc (.cells #[.int .i64 bx, .int .i64 bz] 23)).alloc (.cells #[.int .i64 cx, .int .i64 cy] 23))) (B := w.heap.size + 1 + 1 + 1) (by simp) 23 (.int .i64 dx) (.int .i64 dy)
  have b0_3 := b0_2.alloc (.cells #[.int .i64 dx, .int .i64 dy] 23)
  have b1_3 := b1_2.alloc (.cells #[.int .i64 dx, .int .i64 dy] 23)
  have b2_3 := b2_2.alloc (.cells #[.int .i64 dx, .int .i64 dy] 23)
  have b0_3e := b0_3.alloc (.cells #[.int .i64 ax, .int .i64 ay, .int .i64 bx, .int .i64 bz, .int .i64 cx, .int .i64 cy, .int .i64 dx, .int .i64 dy] 23)
  have b1_3e := b1_3.alloc (.cells #[.int .i64 ax, .int .i64 ay, .int .i64 bx, .int .i64 bz, .int .i64 cx, .int .i64 cy, .int .i64 dx, .int .i64 dy] 23)
  have b2_3e := b2_3.alloc (.cells #[.int .i64 ax, .int .i64 ay, .int .i64 bx, .int .i64 bz, .int .i64 cx, .int .i64 cy, .int .i64 dx, .int .i64 dy] 23)
  have b3_3e := b3_3.alloc (.cells #[.int .i64 ax, .int .i64 ay, .int .i64 bx, .int .i64 bz, .int .i64 cx, .int .i64 cy, .int .i64 dx, .int .i64 dy] 23)
  have hb0 : Below w.heap.size w _ := ((((((Below.refl w.heap.size w).alloc (by simp <;> omega) (.cells #[.int .i64 ax, .int .i64 ay] 23)).alloc (by simp <;> omega) (.cells #[.int .i64 bx, .int .i64 bz] 23)).alloc (by simp <;> omega) (.cells #[.int .i64 cx, .int .i64 cy] 23)).alloc (by simp <;> omega) (.cells #[.int .i64 dx, .int .i64 dy] 23)).alloc (by simp <;> omega) (.cells #[.int .i64 ax, .int .i64 ay, .int .i64 bx, .int .i64 bz, .int .i64 cx, .int .i64 cy, .int .i64 dx, .int .i64 dy] 23))
  by_cases h : onP ax ay ∧ onP bx bz ∧ onP cx cy ∧ onP dx dy
  · rw [if_pos h]
    rw [decide_eq_true h] at HL
    have HA1 := Lib.hid (fun w => apart_any ax ay bx bz cx cy dx dy h.1 h.2.1 h.2.2.1 h.2.2.2 w)
    have HA2 := Lib.hid (fun w => apart_any cx cy dx dy ax ay bx bz h.2.2.1 h.2.2.2 h.1 h.2.1 w)
    have HJ1 := Lib.hid (fun w => join_any ax ay bx bz w)
    have HJ2 := Lib.hid (fun w => join_any cx cy dx dy w)
    have HH1 := Lib.hid (fun w => has_any ax ay bx bz cx cy h.1 h.2.1 h.2.2.1 w)
    have HH2 := Lib.hid (fun w => has_any ax ay bx bz dx dy h.1 h.2.1 h.2.2.2 w)
    have HH3 := Lib.hid (fun w => has_any cx cy dx dy ax ay h.2.2.1 h.2.2.2 h.1 w)
    have HH4 := Lib.hid (fun w => has_any cx cy dx dy bx bz h.2.2.1 h.2.2.2 h.2.1 w)
    clear h
    generalize apartB ax ay bx bz cx cy dx dy = A1 at *
    generalize apartB cx cy dx dy ax ay bx bz = A2 at *
    generalize hasB ax ay bx bz cx cy = H1 at *
    generalize hasB ax ay bx bz dx dy = H2 at *
    generalize hasB cx cy dx dy ax ay = H3 at *
    generalize hasB cx cy dx dy bx bz = H4 at *
    generalize hR : (if A1 = true ∧ A2 = true then (2 : Int) else if H1 = true ∨ H2 = true ∨ H3 = true ∨ H4 = true then 1 else 0) = R
    have HR := Lib.hid hR
    clear hR
    go_enter Try.func18, Try.ntmps18
    go_wp2_with fail
    refine (HL.out _ _ _ (pts4 (by simp) _ _ _ _ _ _ _ _ _)).mono ?_
    rintro r w1 ⟨rfl, hb1⟩
    have r0 := b0_3e.below hb1 b0_3e.lt
    have r1 := b1_3e.below hb1 b1_3e.lt
    have r2 := b2_3e.below hb1 b2_3e.lt
    have r3 := b3_3e.below hb1 b3_3e.lt
    have hb2 := hb0.trans (hb1.mono hb0.size)
    clear b0_0 b0_1 b1_1 b0_2 b1_2 b2_2 b0_3 b1_3 b2_3 b3_3 b0_3e b1_3e b2_3e b3_3e hb0 hb1 HL
    go_upto_region 3 with fail
    have hS : ∀ w' : World, Below w1.heap.size w1 w' → ((w'.cell? ⟨w.heap.size, 0, none⟩ = some (.int .i64 ax) ∧ w'.cell? ⟨w.heap.size, 1, none⟩ = some (.int .i64 ay)) ∧ (w'.cell? ⟨w.heap.size + 1, 0, none⟩ = some (.int .i64 bx) ∧ w'.cell? ⟨w.heap.size + 1, 1, none⟩ = some (.int .i64 bz)) ∧ (w'.cell? ⟨w.heap.size + 1 + 1, 0, none⟩ = some (.int .i64 cx) ∧ w'.cell? ⟨w.heap.size + 1 + 1, 1, none⟩ = some (.int .i64 cy)) ∧ (w'.cell? ⟨w.heap.size + 1 + 1 + 1, 0, none⟩ = some (.int .i64 dx) ∧ w'.cell? ⟨w.heap.size + 1 + 1 + 1, 1, none⟩ = some (.int .i64 dy))) ∧ Below w1.heap.size w1 w' := fun w' hb => ⟨⟨two_of r0 hb, two_of r1 hb, two_of r2 hb, two_of r3 hb⟩, hb⟩
    have hr := Below.refl w1.heap.size w1
    go_cut [9, 10] (fun v u wx => CrossAt w1 ax ay bx bz cx cy dx dy v u wx)
    case first =>
      go_region_held3 (fun w' => ((w'.cell? ⟨w.heap.size, 0, none⟩ = some (.int .i64 ax) ∧ w'.cell? ⟨w.heap.size, 1, none⟩ = some (.int .i64 ay)) ∧ (w'.cell? ⟨w.heap.size + 1, 0, none⟩ = some (.int .i64 bx) ∧ w'.cell? ⟨w.heap.size + 1, 1, none⟩ = some (.int .i64 bz)) ∧ (w'.cell? ⟨w.heap.size + 1 + 1, 0, none⟩ = some (.int .i64 cx) ∧ w'.cell? ⟨w.heap.size + 1 + 1, 1, none⟩ = some (.int .i64 cy)) ∧ (w'.cell? ⟨w.heap.size + 1 + 1 + 1, 0, none⟩ = some (.int .i64 dx) ∧ w'.cell? ⟨w.heap.size + 1 + 1 + 1, 1, none⟩ = some (.int .i64 dy))) ∧ Below w1.heap.size w1 w')
        (first | (with_reducible exact hS _ hr.drew) | (with_reducible refine hS _ ?_; (repeat (first | (with_reducible assumption) | (with_reducible refine Below.drew ?_) | (with_reducible refine Below.setCell ?_ ?_ _) | (with_reducible refine Below.alloc ?_ ?_ _))); all_goals (first | omega | (simp; omega) | simp)))
        (first
          | (go_at_call 41; have hz := hb3; refine (HJ2.out _).mono ?_; rintro r w4 ⟨rfl, hb4'⟩;
              have hb34 : Below w3.heap.size w3 w4 := (by first | exact hb4' | exact ((Below.refl w3.heap.size w3).alloc (Nat.le_refl _) _).trans (hb4'.mono (by simp)) | exact (((Below.refl w3.heap.size w3).alloc (Nat.le_refl _) _).alloc (by simp) _).trans (hb4'.mono (by simp; omega)));
              have hb4 : Below w1.heap.size w1 w4 := hb3.trans (hb34.mono hb3.size); have z4 := hb34.size;
              (try (refine cutI (p7.below hb34 p7.lt) (fun q7 => ?_); obtain ⟨⟨f1, f2, f3, f4⟩, h1, h2, h3, h4⟩ := q7.facts8; have lf := q7.lt));
              (try (refine cutI (p8.below hb34 p8.lt) (fun q8 => ?_); obtain ⟨⟨g1, g2, g3, g4⟩, i1, i2, i3, i4⟩ := q8.facts8; have lg := q8.lt));
              (first | (refine cutI (four_b4 hb4').1 (fun x7 => ?_); refine cutI (four_b4 hb4').2 (fun x8 => ?_); obtain ⟨⟨f1, f2, f3, f4⟩, h1, h2, h3, h4⟩ := x7.facts8; obtain ⟨⟨g1, g2, g3, g4⟩, i1, i2, i3, i4⟩ := x8.facts8; have lf := x7.lt; have lg := x8.lt) | (refine cutI (four_b3 hb4') (fun x7 => ?_); obtain ⟨⟨f5, f6, f7, f8⟩, h5, h6, h7, h8⟩ := x7.facts8; have lx := x7.lt) | skip))
          | (go_at_call 41; refine (HJ1.out _).mono ?_; rintro r w3 ⟨rfl, hb3'⟩;
              have hb3 : Below w1.heap.size w1 w3 := (by first | exact hr.drew.trans hb3' | exact (hr.alloc hr.size _).drew.trans (hb3'.mono (by simp)) | exact ((hr.alloc hr.size _).alloc (by simp) _).drew.trans (hb3'.mono (by simp; omega)));
              have z3 := hb3.size;
              (first | (refine cutI (four_b2 hb3').1 (fun p7 => ?_); refine cutI (four_b2 hb3').2 (fun p8 => ?_); have lp := p7.lt; have lq := p8.lt) | (refine cutI (four_b1 hb3') (fun p7 => ?_); have lp := p7.lt) | skip)))
      all_goals
        go_wp2_with fail
        go_meet
        refine ⟨_, _, rfl, rfl, ⟨?_, ?_, ?_, ?_⟩, ⟨?_, ?_, ?_, ?_⟩, ?_⟩
        iterate 8
          · go_simp
        · (repeat (first | (with_reducible assumption) | (with_reducible refine Below.drew ?_) | (with_reducible refine Below.setCell ?_ ?_ _) | (with_reducible refine Below.alloc ?_ ?_ _))); all_goals (first | omega | (simp; omega) | simp)
    case rest =>
      obtain ⟨B1, B2, rfl, rfl, sg1, sg2, hbc⟩ := hcut
      have hb3 := hb2.trans (hbc.mono hb2.size)
      have t0 := r0.below hbc r0.lt
      have t1 := r1.below hbc r1.lt
      have t2 := r2.below hbc r2.lt
      have t3 := r3.below hbc r3.lt
      clear hS hr hb2 hbc r0 r1 r2 r3 HJ1 HJ2
      cases A1 with
      | true =>
        cases A2 with
        | true =>
          obtain rfl : R = 2 := by rw [← HR.out]; simp
          clear HR
          have u11 := sg1
          have u12 := sg2
          obtain ⟨c0, c1, c2, c3⟩ := sg1
          obtain ⟨d0, d1, d2, d3⟩ := sg2
          obtain ⟨e00, e01, -, -⟩ := t0.facts
          obtain ⟨e10, e11, -, -⟩ := t1.facts
          obtain ⟨e20, e21, -, -⟩ := t2.facts
          obtain ⟨e30, e31, -, -⟩ := t3.facts
          go_wp2_with fail
          refine (HA1.out _).mono ?_
          rintro r v1 ⟨rfl, hx1⟩
          clear c0 c1 c2 c3 d0 d1 d2 d3 e00 e01 e10 e11 e20 e21 e30 e31
          have s11 := u11.below hx1
          have s12 := u12.below hx1
          have t0_1 := t0.below hx1 t0.lt
          have t1_1 := t1.below hx1 t1.lt
          have t2_1 := t2.below hx1 t2.lt
          have t3_1 := t3.below hx1 t3.lt
          have k1 := hb3.trans (hx1.mono hb3.size)
          clear u11 u12 hx1 hb3 t0 t1 t2 t3
          have u21 := s11
          have u22 := s12
          obtain ⟨c0, c1, c2, c3⟩ := s11
          obtain ⟨d0, d1, d2, d3⟩ := s12
          obtain ⟨e00, e01, -, -⟩ := t0_1.facts
          obtain ⟨e10, e11, -, -⟩ := t1_1.facts
          obtain ⟨e20, e21, -, -⟩ := t2_1.facts
          obtain ⟨e30, e31, -, -⟩ := t3_1.facts
          go_wp2_with fail
          refine (HA2.out _).mono ?_
          rintro r v2 ⟨rfl, hx2⟩
          clear c0 c1 c2 c3 d0 d1 d2 d3 e00 e01 e10 e11 e20 e21 e30 e31
          have s21 := u21.below hx2
          have s22 := u22.below hx2
          have t0_2 := t0_1.below hx2 t0_1.lt
          have t1_2 := t1_1.below hx2 t1_1.lt
          have t2_2 := t2_1.below hx2 t2_1.lt
          have t3_2 := t3_1.below hx2 t3_1.lt
          have k2 := k1.trans (hx2.mono k1.size)
          clear u21 u22 hx2 k1 t0_1 t1_1 t2_1 t3_1
          obtain ⟨c0, c1, c2, c3⟩ := s21
          obtain ⟨d0, d1, d2, d3⟩ := s22
          obtain ⟨e00, e01, -, -⟩ := t0_2.facts
          obtain ⟨e10, e11, -, -⟩ := t1_2.facts
          obtain ⟨e20, e21, -, -⟩ := t2_2.facts
          obtain ⟨e30, e31, -, -⟩ := t3_2.facts
          go_wp2_with fail
          go_ret
          exact ⟨rfl, k2⟩
        | false =>
          cases H1 with
          | true =>
            obtain rfl : R = 1 := by rw [← HR.out]; simp
            clear HR
            have u11 := sg1
            have u12 := sg2
            obtain ⟨c0, c1, c2, c3⟩ := sg1
            obtain ⟨d0, d1, d2, d3⟩ := sg2
            obtain ⟨e00, e01, -, -⟩ := t0.facts
            obtain ⟨e10, e11, -, -⟩ := t1.facts
            obtain ⟨e20, e21, -, -⟩ := t2.facts
            obtain ⟨e30, e31, -, -⟩ := t3.facts
            go_wp2_with fail
            refine (HA1.out _).mono ?_
            rintro r v1 ⟨rfl, hx1⟩
            clear c0 c1 c2 c3 d0 d1 d2 d3 e00 e01 e10 e11 e20 e21 e30 e31
            have s11 := u11.below hx1
            have s12 := u12.below hx1
            have t0_1 := t0.below hx1 t0.lt
            have t1_1 := t1.below hx1 t1.lt
            have t2_1 := t2.below hx1 t2.lt
            have t3_1 := t3.below hx1 t3.lt
            have k1 := hb3.trans (hx1.mono hb3.size)
            clear u11 u12 hx1 hb3 t0 t1 t2 t3
            have u21 := s11
            have u22 := s12
            obtain ⟨c0, c1, c2, c3⟩ := s11
            obtain ⟨d0, d1, d2, d3⟩ := s12
            obtain ⟨e00, e01, -, -⟩ := t0_1.facts
            obtain ⟨e10, e11, -, -⟩ := t1_1.facts
            obtain ⟨e20, e21, -, -⟩ := t2_1.facts
            obtain ⟨e30, e31, -, -⟩ := t3_1.facts
            go_wp2_with fail
            refine (HA2.out _).mono ?_
            rintro r v2 ⟨rfl, hx2⟩
            clear c0 c1 c2 c3 d0 d1 d2 d3 e00 e01 e10 e11 e20 e21 e30 e31
            have s21 := u21.below hx2
            have s22 := u22.below hx2
            have t0_2 := t0_1.below hx2 t0_1.lt
            have t1_2 := t1_1.below hx2 t1_1.lt
            have t2_2 := t2_1.below hx2 t2_1.lt
            have t3_2 := t3_1.below hx2 t3_1.lt
            have k2 := k1.trans (hx2.mono k1.size)
            clear u21 u22 hx2 k1 t0_1 t1_1 t2_1 t3_1
            have u31 := s21
            have u32 := s22
            obtain ⟨c0, c1, c2, c3⟩ := s21
            obtain ⟨d0, d1, d2, d3⟩ := s22
            obtain ⟨e00, e01, -, -⟩ := t0_2.facts
            obtain ⟨e10, e11, -, -⟩ := t1_2.facts
            obtain ⟨e20, e21, -, -⟩ := t2_2.facts
            obtain ⟨e30, e31, -, -⟩ := t3_2.facts
            go_wp2_with fail
            refine (HH1.out _).mono ?_
            rintro r v3 ⟨rfl, hx3⟩
            clear c0 c1 c2 c3 d0 d1 d2 d3 e00 e01 e10 e11 e20 e21 e30 e31
            have s31 := u31.below hx3
            have s32 := u32.below hx3
            have t0_3 := t0_2.below hx3 t0_2.lt
            have t1_3 := t1_2.below hx3 t1_2.lt
            have t2_3 := t2_2.below hx3 t2_2.lt
            have t3_3 := t3_2.below hx3 t3_2.lt
            have k3 := k2.trans (hx3.mono k2.size)
            clear u31 u32 hx3 k2 t0_2 t1_2 t2_2 t3_2
            obtain ⟨c0, c1, c2, c3⟩ := s31
            obtain ⟨d0, d1, d2, d3⟩ := s32
            obtain ⟨e00, e01, -, -⟩ := t0_3.facts
            obtain ⟨e10, e11, -, -⟩ := t1_3.facts
            obtain ⟨e20, e21, -, -⟩ := t2_3.facts
            obtain ⟨e30, e31, -, -⟩ := t3_3.facts
            go_wp2_with fail
            go_ret
            exact ⟨rfl, k3⟩
          | false =>
            cases H2 with
            | true =>
              obtain rfl : R = 1 := by rw [← HR.out]; simp
              clear HR
              have u11 := sg1
              have u12 := sg2
              obtain ⟨c0, c1, c2, c3⟩ := sg1
              obtain ⟨d0, d1, d2, d3⟩ := sg2
              obtain ⟨e00, e01, -, -⟩ := t0.facts
              obtain ⟨e10, e11, -, -⟩ := t1.facts
              obtain ⟨e20, e21, -, -⟩ := t2.facts
              obtain ⟨e30, e31, -, -⟩ := t3.facts
              go_wp2_with fail
              refine (HA1.out _).mono ?_
              rintro r v1 ⟨rfl, hx1⟩
              clear c0 c1 c2 c3 d0 d1 d2 d3 e00 e01 e10 e11 e20 e21 e30 e31
              have s11 := u11.below hx1
              have s12 := u12.below hx1
              have t0_1 := t0.below hx1 t0.lt
              have t1_1 := t1.below hx1 t1.lt
              have t2_1 := t2.below hx1 t2.lt
              have t3_1 := t3.below hx1 t3.lt
              have k1 := hb3.trans (hx1.mono hb3.size)
              clear u11 u12 hx1 hb3 t0 t1 t2 t3
              have u21 := s11
              have u22 := s12
              obtain ⟨c0, c1, c2, c3⟩ := s11
              obtain ⟨d0, d1, d2, d3⟩ := s12
              obtain ⟨e00, e01, -, -⟩ := t0_1.facts
              obtain ⟨e10, e11, -, -⟩ := t1_1.facts
              obtain ⟨e20, e21, -, -⟩ := t2_1.facts
              obtain ⟨e30, e31, -, -⟩ := t3_1.facts
              go_wp2_with fail
              refine (HA2.out _).mono ?_
              rintro r v2 ⟨rfl, hx2⟩
              clear c0 c1 c2 c3 d0 d1 d2 d3 e00 e01 e10 e11 e20 e21 e30 e31
              have s21 := u21.below hx2
              have s22 := u22.below hx2
              have t0_2 := t0_1.below hx2 t0_1.lt
              have t1_2 := t1_1.below hx2 t1_1.lt
              have t2_2 := t2_1.below hx2 t2_1.lt
              have t3_2 := t3_1.below hx2 t3_1.lt
              have k2 := k1.trans (hx2.mono k1.size)
              clear u21 u22 hx2 k1 t0_1 t1_1 t2_1 t3_1
              have u31 := s21
              have u32 := s22
              obtain ⟨c0, c1, c2, c3⟩ := s21
              obtain ⟨d0, d1, d2, d3⟩ := s22
              obtain ⟨e00, e01, -, -⟩ := t0_2.facts
              obtain ⟨e10, e11, -, -⟩ := t1_2.facts
              obtain ⟨e20, e21, -, -⟩ := t2_2.facts
              obtain ⟨e30, e31, -, -⟩ := t3_2.facts
              go_wp2_with fail
              refine (HH1.out _).mono ?_
              rintro r v3 ⟨rfl, hx3⟩
              clear c0 c1 c2 c3 d0 d1 d2 d3 e00 e01 e10 e11 e20 e21 e30 e31
              have s31 := u31.below hx3
              have s32 := u32.below hx3
              have t0_3 := t0_2.below hx3 t0_2.lt
              have t1_3 := t1_2.below hx3 t1_2.lt
              have t2_3 := t2_2.below hx3 t2_2.lt
              have t3_3 := t3_2.below hx3 t3_2.lt
              have k3 := k2.trans (hx3.mono k2.size)
              clear u31 u32 hx3 k2 t0_2 t1_2 t2_2 t3_2
              have u41 := s31
              have u42 := s32
              obtain ⟨c0, c1, c2, c3⟩ := s31
              obtain ⟨d0, d1, d2, d3⟩ := s32
              obtain ⟨e00, e01, -, -⟩ := t0_3.facts
              obtain ⟨e10, e11, -, -⟩ := t1_3.facts
              obtain ⟨e20, e21, -, -⟩ := t2_3.facts
              obtain ⟨e30, e31, -, -⟩ := t3_3.facts
              go_wp2_with fail
              refine (HH2.out _).mono ?_
              rintro r v4 ⟨rfl, hx4⟩
              clear c0 c1 c2 c3 d0 d1 d2 d3 e00 e01 e10 e11 e20 e21 e30 e31
              have s41 := u41.below hx4
              have s42 := u42.below hx4
              have t0_4 := t0_3.below hx4 t0_3.lt
              have t1_4 := t1_3.below hx4 t1_3.lt
              have t2_4 := t2_3.below hx4 t2_3.lt
              have t3_4 := t3_3.below hx4 t3_3.lt
              have k4 := k3.trans (hx4.mono k3.size)
              clear u41 u42 hx4 k3 t0_3 t1_3 t2_3 t3_3
              obtain ⟨c0, c1, c2, c3⟩ := s41
              obtain ⟨d0, d1, d2, d3⟩ := s42
              obtain ⟨e00, e01, -, -⟩ := t0_4.facts
              obtain ⟨e10, e11, -, -⟩ := t1_4.facts
              obtain ⟨e20, e21, -, -⟩ := t2_4.facts
              obtain ⟨e30, e31, -, -⟩ := t3_4.facts
              go_wp2_with fail
              go_ret
              exact ⟨rfl, k4⟩
            | false =>
              cases H3 with
              | true =>
                obtain rfl : R = 1 := by rw [← HR.out]; simp
                clear HR
                have u11 := sg1
                have u12 := sg2
                obtain ⟨c0, c1, c2, c3⟩ := sg1
                obtain ⟨d0, d1, d2, d3⟩ := sg2
                obtain ⟨e00, e01, -, -⟩ := t0.facts
                obtain ⟨e10, e11, -, -⟩ := t1.facts
                obtain ⟨e20, e21, -, -⟩ := t2.facts
                obtain ⟨e30, e31, -, -⟩ := t3.facts
                go_wp2_with fail
                refine (HA1.out _).mono ?_
                rintro r v1 ⟨rfl, hx1⟩
                clear c0 c1 c2 c3 d0 d1 d2 d3 e00 e01 e10 e11 e20 e21 e30 e31
                have s11 := u11.below hx1
                have s12 := u12.below hx1
                have t0_1 := t0.below hx1 t0.lt
                have t1_1 := t1.below hx1 t1.lt
                have t2_1 := t2.below hx1 t2.lt
                have t3_1 := t3.below hx1 t3.lt
                have k1 := hb3.trans (hx1.mono hb3.size)
                clear u11 u12 hx1 hb3 t0 t1 t2 t3
                have u21 := s11
                have u22 := s12
                obtain ⟨c0, c1, c2, c3⟩ := s11
                obtain ⟨d0, d1, d2, d3⟩ := s12
                obtain ⟨e00, e01, -, -⟩ := t0_1.facts
                obtain ⟨e10, e11, -, -⟩ := t1_1.facts
                obtain ⟨e20, e21, -, -⟩ := t2_1.facts
                obtain ⟨e30, e31, -, -⟩ := t3_1.facts
                go_wp2_with fail
                refine (HA2.out _).mono ?_
                rintro r v2 ⟨rfl, hx2⟩
                clear c0 c1 c2 c3 d0 d1 d2 d3 e00 e01 e10 e11 e20 e21 e30 e31
                have s21 := u21.below hx2
                have s22 := u22.below hx2
                have t0_2 := t0_1.below hx2 t0_1.lt
                have t1_2 := t1_1.below hx2 t1_1.lt
                have t2_2 := t2_1.below hx2 t2_1.lt
                have t3_2 := t3_1.below hx2 t3_1.lt
                have k2 := k1.trans (hx2.mono k1.size)
                clear u21 u22 hx2 k1 t0_1 t1_1 t2_1 t3_1
                have u31 := s21
                have u32 := s22
                obtain ⟨c0, c1, c2, c3⟩ := s21
                obtain ⟨d0, d1, d2, d3⟩ := s22
                obtain ⟨e00, e01, -, -⟩ := t0_2.facts
                obtain ⟨e10, e11, -, -⟩ := t1_2.facts
                obtain ⟨e20, e21, -, -⟩ := t2_2.facts
                obtain ⟨e30, e31, -, -⟩ := t3_2.facts
                go_wp2_with fail
                refine (HH1.out _).mono ?_
                rintro r v3 ⟨rfl, hx3⟩
                clear c0 c1 c2 c3 d0 d1 d2 d3 e00 e01 e10 e11 e20 e21 e30 e31
                have s31 := u31.below hx3
                have s32 := u32.below hx3
                have t0_3 := t0_2.below hx3 t0_2.lt
                have t1_3 := t1_2.below hx3 t1_2.lt
                have t2_3 := t2_2.below hx3 t2_2.lt
                have t3_3 := t3_2.below hx3 t3_2.lt
                have k3 := k2.trans (hx3.mono k2.size)
                clear u31 u32 hx3 k2 t0_2 t1_2 t2_2 t3_2
                have u41 := s31
                have u42 := s32
                obtain ⟨c0, c1, c2, c3⟩ := s31
                obtain ⟨d0, d1, d2, d3⟩ := s32
                obtain ⟨e00, e01, -, -⟩ := t0_3.facts
                obtain ⟨e10, e11, -, -⟩ := t1_3.facts
                obtain ⟨e20, e21, -, -⟩ := t2_3.facts
                obtain ⟨e30, e31, -, -⟩ := t3_3.facts
                go_wp2_with fail
                refine (HH2.out _).mono ?_
                rintro r v4 ⟨rfl, hx4⟩
                clear c0 c1 c2 c3 d0 d1 d2 d3 e00 e01 e10 e11 e20 e21 e30 e31
                have s41 := u41.below hx4
                have s42 := u42.below hx4
                have t0_4 := t0_3.below hx4 t0_3.lt
                have t1_4 := t1_3.below hx4 t1_3.lt
                have t2_4 := t2_3.below hx4 t2_3.lt
                have t3_4 := t3_3.below hx4 t3_3.lt
                have k4 := k3.trans (hx4.mono k3.size)
                clear u41 u42 hx4 k3 t0_3 t1_3 t2_3 t3_3
                have u51 := s41
                have u52 := s42
                obtain ⟨c0, c1, c2, c3⟩ := s41
                obtain ⟨d0, d1, d2, d3⟩ := s42
                obtain ⟨e00, e01, -, -⟩ := t0_4.facts
                obtain ⟨e10, e11, -, -⟩ := t1_4.facts
                obtain ⟨e20, e21, -, -⟩ := t2_4.facts
                obtain ⟨e30, e31, -, -⟩ := t3_4.facts
                go_wp2_with fail
                refine (HH3.out _).mono ?_
                rintro r v5 ⟨rfl, hx5⟩
                clear c0 c1 c2 c3 d0 d1 d2 d3 e00 e01 e10 e11 e20 e21 e30 e31
                have s51 := u51.below hx5
                have s52 := u52.below hx5
                have t0_5 := t0_4.below hx5 t0_4.lt
                have t1_5 := t1_4.below hx5 t1_4.lt
                have t2_5 := t2_4.below hx5 t2_4.lt
                have t3_5 := t3_4.below hx5 t3_4.lt
                have k5 := k4.trans (hx5.mono k4.size)
                clear u51 u52 hx5 k4 t0_4 t1_4 t2_4 t3_4
                obtain ⟨c0, c1, c2, c3⟩ := s51
                obtain ⟨d0, d1, d2, d3⟩ := s52
                obtain ⟨e00, e01, -, -⟩ := t0_5.facts
                obtain ⟨e10, e11, -, -⟩ := t1_5.facts
                obtain ⟨e20, e21, -, -⟩ := t2_5.facts
                obtain ⟨e30, e31, -, -⟩ := t3_5.facts
                go_wp2_with fail
                go_ret
                exact ⟨rfl, k5⟩
              | false =>
                cases H4 with
                | true =>
                  obtain rfl : R = 1 := by rw [← HR.out]; simp
                  clear HR
                  have u11 := sg1
                  have u12 := sg2
                  obtain ⟨c0, c1, c2, c3⟩ := sg1
                  obtain ⟨d0, d1, d2, d3⟩ := sg2
                  obtain ⟨e00, e01, -, -⟩ := t0.facts
                  obtain ⟨e10, e11, -, -⟩ := t1.facts
                  obtain ⟨e20, e21, -, -⟩ := t2.facts
                  obtain ⟨e30, e31, -, -⟩ := t3.facts
                  go_wp2_with fail
                  refine (HA1.out _).mono ?_
                  rintro r v1 ⟨rfl, hx1⟩
                  clear c0 c1 c2 c3 d0 d1 d2 d3 e00 e01 e10 e11 e20 e21 e30 e31
                  have s11 := u11.below hx1
                  have s12 := u12.below hx1
                  have t0_1 := t0.below hx1 t0.lt
                  have t1_1 := t1.below hx1 t1.lt
                  have t2_1 := t2.below hx1 t2.lt
                  have t3_1 := t3.below hx1 t3.lt
                  have k1 := hb3.trans (hx1.mono hb3.size)
                  clear u11 u12 hx1 hb3 t0 t1 t2 t3
                  have u21 := s11
                  have u22 := s12
                  obtain ⟨c0, c1, c2, c3⟩ := s11
                  obtain ⟨d0, d1, d2, d3⟩ := s12
                  obtain ⟨e00, e01, -, -⟩ := t0_1.facts
                  obtain ⟨e10, e11, -, -⟩ := t1_1.facts
                  obtain ⟨e20, e21, -, -⟩ := t2_1.facts
                  obtain ⟨e30, e31, -, -⟩ := t3_1.facts
                  go_wp2_with fail
                  refine (HA2.out _).mono ?_
                  rintro r v2 ⟨rfl, hx2⟩
                  clear c0 c1 c2 c3 d0 d1 d2 d3 e00 e01 e10 e11 e20 e21 e30 e31
                  have s21 := u21.below hx2
                  have s22 := u22.below hx2
                  have t0_2 := t0_1.below hx2 t0_1.lt
                  have t1_2 := t1_1.below hx2 t1_1.lt
                  have t2_2 := t2_1.below hx2 t2_1.lt
                  have t3_2 := t3_1.below hx2 t3_1.lt
                  have k2 := k1.trans (hx2.mono k1.size)
                  clear u21 u22 hx2 k1 t0_1 t1_1 t2_1 t3_1
                  have u31 := s21
                  have u32 := s22
                  obtain ⟨c0, c1, c2, c3⟩ := s21
                  obtain ⟨d0, d1, d2, d3⟩ := s22
                  obtain ⟨e00, e01, -, -⟩ := t0_2.facts
                  obtain ⟨e10, e11, -, -⟩ := t1_2.facts
                  obtain ⟨e20, e21, -, -⟩ := t2_2.facts
                  obtain ⟨e30, e31, -, -⟩ := t3_2.facts
                  go_wp2_with fail
                  refine (HH1.out _).mono ?_
                  rintro r v3 ⟨rfl, hx3⟩
                  clear c0 c1 c2 c3 d0 d1 d2 d3 e00 e01 e10 e11 e20 e21 e30 e31
                  have s31 := u31.below hx3
                  have s32 := u32.below hx3
                  have t0_3 := t0_2.below hx3 t0_2.lt
                  have t1_3 := t1_2.below hx3 t1_2.lt
                  have t2_3 := t2_2.below hx3 t2_2.lt
                  have t3_3 := t3_2.below hx3 t3_2.lt
                  have k3 := k2.trans (hx3.mono k2.size)
                  clear u31 u32 hx3 k2 t0_2 t1_2 t2_2 t3_2
                  have u41 := s31
                  have u42 := s32
                  obtain ⟨c0, c1, c2, c3⟩ := s31
                  obtain ⟨d0, d1, d2, d3⟩ := s32
                  obtain ⟨e00, e01, -, -⟩ := t0_3.facts
                  obtain ⟨e10, e11, -, -⟩ := t1_3.facts
                  obtain ⟨e20, e21, -, -⟩ := t2_3.facts
                  obtain ⟨e30, e31, -, -⟩ := t3_3.facts
                  go_wp2_with fail
                  refine (HH2.out _).mono ?_
                  rintro r v4 ⟨rfl, hx4⟩
                  clear c0 c1 c2 c3 d0 d1 d2 d3 e00 e01 e10 e11 e20 e21 e30 e31
                  have s41 := u41.below hx4
                  have s42 := u42.below hx4
                  have t0_4 := t0_3.below hx4 t0_3.lt
                  have t1_4 := t1_3.below hx4 t1_3.lt
                  have t2_4 := t2_3.below hx4 t2_3.lt
                  have t3_4 := t3_3.below hx4 t3_3.lt
                  have k4 := k3.trans (hx4.mono k3.size)
                  clear u41 u42 hx4 k3 t0_3 t1_3 t2_3 t3_3
                  have u51 := s41
                  have u52 := s42
                  obtain ⟨c0, c1, c2, c3⟩ := s41
                  obtain ⟨d0, d1, d2, d3⟩ := s42
                  obtain ⟨e00, e01, -, -⟩ := t0_4.facts
                  obtain ⟨e10, e11, -, -⟩ := t1_4.facts
                  obtain ⟨e20, e21, -, -⟩ := t2_4.facts
                  obtain ⟨e30, e31, -, -⟩ := t3_4.facts
                  go_wp2_with fail
                  refine (HH3.out _).mono ?_
                  rintro r v5 ⟨rfl, hx5⟩
                  clear c0 c1 c2 c3 d0 d1 d2 d3 e00 e01 e10 e11 e20 e21 e30 e31
                  have s51 := u51.below hx5
                  have s52 := u52.below hx5
                  have t0_5 := t0_4.below hx5 t0_4.lt
                  have t1_5 := t1_4.below hx5 t1_4.lt
                  have t2_5 := t2_4.below hx5 t2_4.lt
                  have t3_5 := t3_4.below hx5 t3_4.lt
                  have k5 := k4.trans (hx5.mono k4.size)
                  clear u51 u52 hx5 k4 t0_4 t1_4 t2_4 t3_4
                  have u61 := s51
                  have u62 := s52
                  obtain ⟨c0, c1, c2, c3⟩ := s51
                  obtain ⟨d0, d1, d2, d3⟩ := s52
                  obtain ⟨e00, e01, -, -⟩ := t0_5.facts
                  obtain ⟨e10, e11, -, -⟩ := t1_5.facts
                  obtain ⟨e20, e21, -, -⟩ := t2_5.facts
                  obtain ⟨e30, e31, -, -⟩ := t3_5.facts
                  go_wp2_with fail
                  refine (HH4.out _).mono ?_
                  rintro r v6 ⟨rfl, hx6⟩
                  clear c0 c1 c2 c3 d0 d1 d2 d3 e00 e01 e10 e11 e20 e21 e30 e31
                  have s61 := u61.below hx6
                  have s62 := u62.below hx6
                  have t0_6 := t0_5.below hx6 t0_5.lt
                  have t1_6 := t1_5.below hx6 t1_5.lt
                  have t2_6 := t2_5.below hx6 t2_5.lt
                  have t3_6 := t3_5.below hx6 t3_5.lt
                  have k6 := k5.trans (hx6.mono k5.size)
                  clear u61 u62 hx6 k5 t0_5 t1_5 t2_5 t3_5
                  obtain ⟨c0, c1, c2, c3⟩ := s61
                  obtain ⟨d0, d1, d2, d3⟩ := s62
                  obtain ⟨e00, e01, -, -⟩ := t0_6.facts
                  obtain ⟨e10, e11, -, -⟩ := t1_6.facts
                  obtain ⟨e20, e21, -, -⟩ := t2_6.facts
                  obtain ⟨e30, e31, -, -⟩ := t3_6.facts
                  go_wp2_with fail
                  go_ret
                  exact ⟨rfl, k6⟩
                | false =>
                  obtain rfl : R = 0 := by rw [← HR.out]; simp
                  clear HR
                  have u11 := sg1
                  have u12 := sg2
                  obtain ⟨c0, c1, c2, c3⟩ := sg1
                  obtain ⟨d0, d1, d2, d3⟩ := sg2
                  obtain ⟨e00, e01, -, -⟩ := t0.facts
                  obtain ⟨e10, e11, -, -⟩ := t1.facts
                  obtain ⟨e20, e21, -, -⟩ := t2.facts
                  obtain ⟨e30, e31, -, -⟩ := t3.facts
                  go_wp2_with fail
                  refine (HA1.out _).mono ?_
                  rintro r v1 ⟨rfl, hx1⟩
                  clear c0 c1 c2 c3 d0 d1 d2 d3 e00 e01 e10 e11 e20 e21 e30 e31
                  have s11 := u11.below hx1
                  have s12 := u12.below hx1
                  have t0_1 := t0.below hx1 t0.lt
                  have t1_1 := t1.below hx1 t1.lt
                  have t2_1 := t2.below hx1 t2.lt
                  have t3_1 := t3.below hx1 t3.lt
                  have k1 := hb3.trans (hx1.mono hb3.size)
                  clear u11 u12 hx1 hb3 t0 t1 t2 t3
                  have u21 := s11
                  have u22 := s12
                  obtain ⟨c0, c1, c2, c3⟩ := s11
                  obtain ⟨d0, d1, d2, d3⟩ := s12
                  obtain ⟨e00, e01, -, -⟩ := t0_1.facts
                  obtain ⟨e10, e11, -, -⟩ := t1_1.facts
                  obtain ⟨e20, e21, -, -⟩ := t2_1.facts
                  obtain ⟨e30, e31, -, -⟩ := t3_1.facts
                  go_wp2_with fail
                  refine (HA2.out _).mono ?_
                  rintro r v2 ⟨rfl, hx2⟩
                  clear c0 c1 c2 c3 d0 d1 d2 d3 e00 e01 e10 e11 e20 e21 e30 e31
                  have s21 := u21.below hx2
                  have s22 := u22.below hx2
                  have t0_2 := t0_1.below hx2 t0_1.lt
                  have t1_2 := t1_1.below hx2 t1_1.lt
                  have t2_2 := t2_1.below hx2 t2_1.lt
                  have t3_2 := t3_1.below hx2 t3_1.lt
                  have k2 := k1.trans (hx2.mono k1.size)
                  clear u21 u22 hx2 k1 t0_1 t1_1 t2_1 t3_1
                  have u31 := s21
                  have u32 := s22
                  obtain ⟨c0, c1, c2, c3⟩ := s21
                  obtain ⟨d0, d1, d2, d3⟩ := s22
                  obtain ⟨e00, e01, -, -⟩ := t0_2.facts
                  obtain ⟨e10, e11, -, -⟩ := t1_2.facts
                  obtain ⟨e20, e21, -, -⟩ := t2_2.facts
                  obtain ⟨e30, e31, -, -⟩ := t3_2.facts
                  go_wp2_with fail
                  refine (HH1.out _).mono ?_
                  rintro r v3 ⟨rfl, hx3⟩
                  clear c0 c1 c2 c3 d0 d1 d2 d3 e00 e01 e10 e11 e20 e21 e30 e31
                  have s31 := u31.below hx3
                  have s32 := u32.below hx3
                  have t0_3 := t0_2.below hx3 t0_2.lt
                  have t1_3 := t1_2.below hx3 t1_2.lt
                  have t2_3 := t2_2.below hx3 t2_2.lt
                  have t3_3 := t3_2.below hx3 t3_2.lt
                  have k3 := k2.trans (hx3.mono k2.size)
                  clear u31 u32 hx3 k2 t0_2 t1_2 t2_2 t3_2
                  have u41 := s31
                  have u42 := s32
                  obtain ⟨c0, c1, c2, c3⟩ := s31
                  obtain ⟨d0, d1, d2, d3⟩ := s32
                  obtain ⟨e00, e01, -, -⟩ := t0_3.facts
                  obtain ⟨e10, e11, -, -⟩ := t1_3.facts
                  obtain ⟨e20, e21, -, -⟩ := t2_3.facts
                  obtain ⟨e30, e31, -, -⟩ := t3_3.facts
                  go_wp2_with fail
                  refine (HH2.out _).mono ?_
                  rintro r v4 ⟨rfl, hx4⟩
                  clear c0 c1 c2 c3 d0 d1 d2 d3 e00 e01 e10 e11 e20 e21 e30 e31
                  have s41 := u41.below hx4
                  have s42 := u42.below hx4
                  have t0_4 := t0_3.below hx4 t0_3.lt
                  have t1_4 := t1_3.below hx4 t1_3.lt
                  have t2_4 := t2_3.below hx4 t2_3.lt
                  have t3_4 := t3_3.below hx4 t3_3.lt
                  have k4 := k3.trans (hx4.mono k3.size)
                  clear u41 u42 hx4 k3 t0_3 t1_3 t2_3 t3_3
                  have u51 := s41
                  have u52 := s42
                  obtain ⟨c0, c1, c2, c3⟩ := s41
                  obtain ⟨d0, d1, d2, d3⟩ := s42
                  obtain ⟨e00, e01, -, -⟩ := t0_4.facts
                  obtain ⟨e10, e11, -, -⟩ := t1_4.facts
                  obtain ⟨e20, e21, -, -⟩ := t2_4.facts
                  obtain ⟨e30, e31, -, -⟩ := t3_4.facts
                  go_wp2_with fail
                  refine (HH3.out _).mono ?_
                  rintro r v5 ⟨rfl, hx5⟩
                  clear c0 c1 c2 c3 d0 d1 d2 d3 e00 e01 e10 e11 e20 e21 e30 e31
                  have s51 := u51.below hx5
                  have s52 := u52.below hx5
                  have t0_5 := t0_4.below hx5 t0_4.lt
                  have t1_5 := t1_4.below hx5 t1_4.lt
                  have t2_5 := t2_4.below hx5 t2_4.lt
                  have t3_5 := t3_4.below hx5 t3_4.lt
                  have k5 := k4.trans (hx5.mono k4.size)
                  clear u51 u52 hx5 k4 t0_4 t1_4 t2_4 t3_4
                  have u61 := s51
                  have u62 := s52
                  obtain ⟨c0, c1, c2, c3⟩ := s51
                  obtain ⟨d0, d1, d2, d3⟩ := s52
                  obtain ⟨e00, e01, -, -⟩ := t0_5.facts
                  obtain ⟨e10, e11, -, -⟩ := t1_5.facts
                  obtain ⟨e20, e21, -, -⟩ := t2_5.facts
                  obtain ⟨e30, e31, -, -⟩ := t3_5.facts
                  go_wp2_with fail
                  refine (HH4.out _).mono ?_
                  rintro r v6 ⟨rfl, hx6⟩
                  clear c0 c1 c2 c3 d0 d1 d2 d3 e00 e01 e10 e11 e20 e21 e30 e31
                  have s61 := u61.below hx6
                  have s62 := u62.below hx6
                  have t0_6 := t0_5.below hx6 t0_5.lt
                  have t1_6 := t1_5.below hx6 t1_5.lt
                  have t2_6 := t2_5.below hx6 t2_5.lt
                  have t3_6 := t3_5.below hx6 t3_5.lt
                  have k6 := k5.trans (hx6.mono k5.size)
                  clear u61 u62 hx6 k5 t0_5 t1_5 t2_5 t3_5
                  obtain ⟨c0, c1, c2, c3⟩ := s61
                  obtain ⟨d0, d1, d2, d3⟩ := s62
                  obtain ⟨e00, e01, -, -⟩ := t0_6.facts
                  obtain ⟨e10, e11, -, -⟩ := t1_6.facts
                  obtain ⟨e20, e21, -, -⟩ := t2_6.facts
                  obtain ⟨e30, e31, -, -⟩ := t3_6.facts
                  go_wp2_with fail
                  go_ret
                  exact ⟨rfl, k6⟩
      | false =>
        cases H1 with
        | true =>
          obtain rfl : R = 1 := by rw [← HR.out]; simp
          clear HR
          have u11 := sg1
          have u12 := sg2
          obtain ⟨c0, c1, c2, c3⟩ := sg1
          obtain ⟨d0, d1, d2, d3⟩ := sg2
          obtain ⟨e00, e01, -, -⟩ := t0.facts
          obtain ⟨e10, e11, -, -⟩ := t1.facts
          obtain ⟨e20, e21, -, -⟩ := t2.facts
          obtain ⟨e30, e31, -, -⟩ := t3.facts
          go_wp2_with fail
          refine (HA1.out _).mono ?_
          rintro r v1 ⟨rfl, hx1⟩
          clear c0 c1 c2 c3 d0 d1 d2 d3 e00 e01 e10 e11 e20 e21 e30 e31
          have s11 := u11.below hx1
          have s12 := u12.below hx1
          have t0_1 := t0.below hx1 t0.lt
          have t1_1 := t1.below hx1 t1.lt
          have t2_1 := t2.below hx1 t2.lt
          have t3_1 := t3.below hx1 t3.lt
          have k1 := hb3.trans (hx1.mono hb3.size)
          clear u11 u12 hx1 hb3 t0 t1 t2 t3
          have u21 := s11
          have u22 := s12
          obtain ⟨c0, c1, c2, c3⟩ := s11
          obtain ⟨d0, d1, d2, d3⟩ := s12
          obtain ⟨e00, e01, -, -⟩ := t0_1.facts
          obtain ⟨e10, e11, -, -⟩ := t1_1.facts
          obtain ⟨e20, e21, -, -⟩ := t2_1.facts
          obtain ⟨e30, e31, -, -⟩ := t3_1.facts
          go_wp2_with fail
          refine (HH1.out _).mono ?_
          rintro r v2 ⟨rfl, hx2⟩
          clear c0 c1 c2 c3 d0 d1 d2 d3 e00 e01 e10 e11 e20 e21 e30 e31
          have s21 := u21.below hx2
          have s22 := u22.below hx2
          have t0_2 := t0_1.below hx2 t0_1.lt
          have t1_2 := t1_1.below hx2 t1_1.lt
          have t2_2 := t2_1.below hx2 t2_1.lt
          have t3_2 := t3_1.below hx2 t3_1.lt
          have k2 := k1.trans (hx2.mono k1.size)
          clear u21 u22 hx2 k1 t0_1 t1_1 t2_1 t3_1
          obtain ⟨c0, c1, c2, c3⟩ := s21
          obtain ⟨d0, d1, d2, d3⟩ := s22
          obtain ⟨e00, e01, -, -⟩ := t0_2.facts
          obtain ⟨e10, e11, -, -⟩ := t1_2.facts
          obtain ⟨e20, e21, -, -⟩ := t2_2.facts
          obtain ⟨e30, e31, -, -⟩ := t3_2.facts
          go_wp2_with fail
          go_ret
          exact ⟨rfl, k2⟩
        | false =>
          cases H2 with
          | true =>
            obtain rfl : R = 1 := by rw [← HR.out]; simp
            clear HR
            have u11 := sg1
            have u12 := sg2
            obtain ⟨c0, c1, c2, c3⟩ := sg1
            obtain ⟨d0, d1, d2, d3⟩ := sg2
            obtain ⟨e00, e01, -, -⟩ := t0.facts
            obtain ⟨e10, e11, -, -⟩ := t1.facts
            obtain ⟨e20, e21, -, -⟩ := t2.facts
            obtain ⟨e30, e31, -, -⟩ := t3.facts
            go_wp2_with fail
            refine (HA1.out _).mono ?_
            rintro r v1 ⟨rfl, hx1⟩
            clear c0 c1 c2 c3 d0 d1 d2 d3 e00 e01 e10 e11 e20 e21 e30 e31
            have s11 := u11.below hx1
            have s12 := u12.below hx1
            have t0_1 := t0.below hx1 t0.lt
            have t1_1 := t1.below hx1 t1.lt
            have t2_1 := t2.below hx1 t2.lt
            have t3_1 := t3.below hx1 t3.lt
            have k1 := hb3.trans (hx1.mono hb3.size)
            clear u11 u12 hx1 hb3 t0 t1 t2 t3
            have u21 := s11
            have u22 := s12
            obtain ⟨c0, c1, c2, c3⟩ := s11
            obtain ⟨d0, d1, d2, d3⟩ := s12
            obtain ⟨e00, e01, -, -⟩ := t0_1.facts
            obtain ⟨e10, e11, -, -⟩ := t1_1.facts
            obtain ⟨e20, e21, -, -⟩ := t2_1.facts
            obtain ⟨e30, e31, -, -⟩ := t3_1.facts
            go_wp2_with fail
            refine (HH1.out _).mono ?_
            rintro r v2 ⟨rfl, hx2⟩
            clear c0 c1 c2 c3 d0 d1 d2 d3 e00 e01 e10 e11 e20 e21 e30 e31
            have s21 := u21.below hx2
            have s22 := u22.below hx2
            have t0_2 := t0_1.below hx2 t0_1.lt
            have t1_2 := t1_1.below hx2 t1_1.lt
            have t2_2 := t2_1.below hx2 t2_1.lt
            have t3_2 := t3_1.below hx2 t3_1.lt
            have k2 := k1.trans (hx2.mono k1.size)
            clear u21 u22 hx2 k1 t0_1 t1_1 t2_1 t3_1
            have u31 := s21
            have u32 := s22
            obtain ⟨c0, c1, c2, c3⟩ := s21
            obtain ⟨d0, d1, d2, d3⟩ := s22
            obtain ⟨e00, e01, -, -⟩ := t0_2.facts
            obtain ⟨e10, e11, -, -⟩ := t1_2.facts
            obtain ⟨e20, e21, -, -⟩ := t2_2.facts
            obtain ⟨e30, e31, -, -⟩ := t3_2.facts
            go_wp2_with fail
            refine (HH2.out _).mono ?_
            rintro r v3 ⟨rfl, hx3⟩
            clear c0 c1 c2 c3 d0 d1 d2 d3 e00 e01 e10 e11 e20 e21 e30 e31
            have s31 := u31.below hx3
            have s32 := u32.below hx3
            have t0_3 := t0_2.below hx3 t0_2.lt
            have t1_3 := t1_2.below hx3 t1_2.lt
            have t2_3 := t2_2.below hx3 t2_2.lt
            have t3_3 := t3_2.below hx3 t3_2.lt
            have k3 := k2.trans (hx3.mono k2.size)
            clear u31 u32 hx3 k2 t0_2 t1_2 t2_2 t3_2
            obtain ⟨c0, c1, c2, c3⟩ := s31
            obtain ⟨d0, d1, d2, d3⟩ := s32
            obtain ⟨e00, e01, -, -⟩ := t0_3.facts
            obtain ⟨e10, e11, -, -⟩ := t1_3.facts
            obtain ⟨e20, e21, -, -⟩ := t2_3.facts
            obtain ⟨e30, e31, -, -⟩ := t3_3.facts
            go_wp2_with fail
            go_ret
            exact ⟨rfl, k3⟩
          | false =>
            cases H3 with
            | true =>
              obtain rfl : R = 1 := by rw [← HR.out]; simp
              clear HR
              have u11 := sg1
              have u12 := sg2
              obtain ⟨c0, c1, c2, c3⟩ := sg1
              obtain ⟨d0, d1, d2, d3⟩ := sg2
              obtain ⟨e00, e01, -, -⟩ := t0.facts
              obtain ⟨e10, e11, -, -⟩ := t1.facts
              obtain ⟨e20, e21, -, -⟩ := t2.facts
              obtain ⟨e30, e31, -, -⟩ := t3.facts
              go_wp2_with fail
              refine (HA1.out _).mono ?_
              rintro r v1 ⟨rfl, hx1⟩
              clear c0 c1 c2 c3 d0 d1 d2 d3 e00 e01 e10 e11 e20 e21 e30 e31
              have s11 := u11.below hx1
              have s12 := u12.below hx1
              have t0_1 := t0.below hx1 t0.lt
              have t1_1 := t1.below hx1 t1.lt
              have t2_1 := t2.below hx1 t2.lt
              have t3_1 := t3.below hx1 t3.lt
              have k1 := hb3.trans (hx1.mono hb3.size)
              clear u11 u12 hx1 hb3 t0 t1 t2 t3
              have u21 := s11
              have u22 := s12
              obtain ⟨c0, c1, c2, c3⟩ := s11
              obtain ⟨d0, d1, d2, d3⟩ := s12
              obtain ⟨e00, e01, -, -⟩ := t0_1.facts
              obtain ⟨e10, e11, -, -⟩ := t1_1.facts
              obtain ⟨e20, e21, -, -⟩ := t2_1.facts
              obtain ⟨e30, e31, -, -⟩ := t3_1.facts
              go_wp2_with fail
              refine (HH1.out _).mono ?_
              rintro r v2 ⟨rfl, hx2⟩
              clear c0 c1 c2 c3 d0 d1 d2 d3 e00 e01 e10 e11 e20 e21 e30 e31
              have s21 := u21.below hx2
              have s22 := u22.below hx2
              have t0_2 := t0_1.below hx2 t0_1.lt
              have t1_2 := t1_1.below hx2 t1_1.lt
              have t2_2 := t2_1.below hx2 t2_1.lt
              have t3_2 := t3_1.below hx2 t3_1.lt
              have k2 := k1.trans (hx2.mono k1.size)
              clear u21 u22 hx2 k1 t0_1 t1_1 t2_1 t3_1
              have u31 := s21
              have u32 := s22
              obtain ⟨c0, c1, c2, c3⟩ := s21
              obtain ⟨d0, d1, d2, d3⟩ := s22
              obtain ⟨e00, e01, -, -⟩ := t0_2.facts
              obtain ⟨e10, e11, -, -⟩ := t1_2.facts
              obtain ⟨e20, e21, -, -⟩ := t2_2.facts
              obtain ⟨e30, e31, -, -⟩ := t3_2.facts
              go_wp2_with fail
              refine (HH2.out _).mono ?_
              rintro r v3 ⟨rfl, hx3⟩
              clear c0 c1 c2 c3 d0 d1 d2 d3 e00 e01 e10 e11 e20 e21 e30 e31
              have s31 := u31.below hx3
              have s32 := u32.below hx3
              have t0_3 := t0_2.below hx3 t0_2.lt
              have t1_3 := t1_2.below hx3 t1_2.lt
              have t2_3 := t2_2.below hx3 t2_2.lt
              have t3_3 := t3_2.below hx3 t3_2.lt
              have k3 := k2.trans (hx3.mono k2.size)
              clear u31 u32 hx3 k2 t0_2 t1_2 t2_2 t3_2
              have u41 := s31
              have u42 := s32
              obtain ⟨c0, c1, c2, c3⟩ := s31
              obtain ⟨d0, d1, d2, d3⟩ := s32
              obtain ⟨e00, e01, -, -⟩ := t0_3.facts
              obtain ⟨e10, e11, -, -⟩ := t1_3.facts
              obtain ⟨e20, e21, -, -⟩ := t2_3.facts
              obtain ⟨e30, e31, -, -⟩ := t3_3.facts
              go_wp2_with fail
              refine (HH3.out _).mono ?_
              rintro r v4 ⟨rfl, hx4⟩
              clear c0 c1 c2 c3 d0 d1 d2 d3 e00 e01 e10 e11 e20 e21 e30 e31
              have s41 := u41.below hx4
              have s42 := u42.below hx4
              have t0_4 := t0_3.below hx4 t0_3.lt
              have t1_4 := t1_3.below hx4 t1_3.lt
              have t2_4 := t2_3.below hx4 t2_3.lt
              have t3_4 := t3_3.below hx4 t3_3.lt
              have k4 := k3.trans (hx4.mono k3.size)
              clear u41 u42 hx4 k3 t0_3 t1_3 t2_3 t3_3
              obtain ⟨c0, c1, c2, c3⟩ := s41
              obtain ⟨d0, d1, d2, d3⟩ := s42
              obtain ⟨e00, e01, -, -⟩ := t0_4.facts
              obtain ⟨e10, e11, -, -⟩ := t1_4.facts
              obtain ⟨e20, e21, -, -⟩ := t2_4.facts
              obtain ⟨e30, e31, -, -⟩ := t3_4.facts
              go_wp2_with fail
              go_ret
              exact ⟨rfl, k4⟩
            | false =>
              cases H4 with
              | true =>
                obtain rfl : R = 1 := by rw [← HR.out]; simp
                clear HR
                have u11 := sg1
                have u12 := sg2
                obtain ⟨c0, c1, c2, c3⟩ := sg1
                obtain ⟨d0, d1, d2, d3⟩ := sg2
                obtain ⟨e00, e01, -, -⟩ := t0.facts
                obtain ⟨e10, e11, -, -⟩ := t1.facts
                obtain ⟨e20, e21, -, -⟩ := t2.facts
                obtain ⟨e30, e31, -, -⟩ := t3.facts
                go_wp2_with fail
                refine (HA1.out _).mono ?_
                rintro r v1 ⟨rfl, hx1⟩
                clear c0 c1 c2 c3 d0 d1 d2 d3 e00 e01 e10 e11 e20 e21 e30 e31
                have s11 := u11.below hx1
                have s12 := u12.below hx1
                have t0_1 := t0.below hx1 t0.lt
                have t1_1 := t1.below hx1 t1.lt
                have t2_1 := t2.below hx1 t2.lt
                have t3_1 := t3.below hx1 t3.lt
                have k1 := hb3.trans (hx1.mono hb3.size)
                clear u11 u12 hx1 hb3 t0 t1 t2 t3
                have u21 := s11
                have u22 := s12
                obtain ⟨c0, c1, c2, c3⟩ := s11
                obtain ⟨d0, d1, d2, d3⟩ := s12
                obtain ⟨e00, e01, -, -⟩ := t0_1.facts
                obtain ⟨e10, e11, -, -⟩ := t1_1.facts
                obtain ⟨e20, e21, -, -⟩ := t2_1.facts
                obtain ⟨e30, e31, -, -⟩ := t3_1.facts
                go_wp2_with fail
                refine (HH1.out _).mono ?_
                rintro r v2 ⟨rfl, hx2⟩
                clear c0 c1 c2 c3 d0 d1 d2 d3 e00 e01 e10 e11 e20 e21 e30 e31
                have s21 := u21.below hx2
                have s22 := u22.below hx2
                have t0_2 := t0_1.below hx2 t0_1.lt
                have t1_2 := t1_1.below hx2 t1_1.lt
                have t2_2 := t2_1.below hx2 t2_1.lt
                have t3_2 := t3_1.below hx2 t3_1.lt
                have k2 := k1.trans (hx2.mono k1.size)
                clear u21 u22 hx2 k1 t0_1 t1_1 t2_1 t3_1
                have u31 := s21
                have u32 := s22
                obtain ⟨c0, c1, c2, c3⟩ := s21
                obtain ⟨d0, d1, d2, d3⟩ := s22
                obtain ⟨e00, e01, -, -⟩ := t0_2.facts
                obtain ⟨e10, e11, -, -⟩ := t1_2.facts
                obtain ⟨e20, e21, -, -⟩ := t2_2.facts
                obtain ⟨e30, e31, -, -⟩ := t3_2.facts
                go_wp2_with fail
                refine (HH2.out _).mono ?_
                rintro r v3 ⟨rfl, hx3⟩
                clear c0 c1 c2 c3 d0 d1 d2 d3 e00 e01 e10 e11 e20 e21 e30 e31
                have s31 := u31.below hx3
                have s32 := u32.below hx3
                have t0_3 := t0_2.below hx3 t0_2.lt
                have t1_3 := t1_2.below hx3 t1_2.lt
                have t2_3 := t2_2.below hx3 t2_2.lt
                have t3_3 := t3_2.below hx3 t3_2.lt
                have k3 := k2.trans (hx3.mono k2.size)
                clear u31 u32 hx3 k2 t0_2 t1_2 t2_2 t3_2
                have u41 := s31
                have u42 := s32
                obtain ⟨c0, c1, c2, c3⟩ := s31
                obtain ⟨d0, d1, d2, d3⟩ := s32
                obtain ⟨e00, e01, -, -⟩ := t0_3.facts
                obtain ⟨e10, e11, -, -⟩ := t1_3.facts
                obtain ⟨e20, e21, -, -⟩ := t2_3.facts
                obtain ⟨e30, e31, -, -⟩ := t3_3.facts
                go_wp2_with fail
                refine (HH3.out _).mono ?_
                rintro r v4 ⟨rfl, hx4⟩
                clear c0 c1 c2 c3 d0 d1 d2 d3 e00 e01 e10 e11 e20 e21 e30 e31
                have s41 := u41.below hx4
                have s42 := u42.below hx4
                have t0_4 := t0_3.below hx4 t0_3.lt
                have t1_4 := t1_3.below hx4 t1_3.lt
                have t2_4 := t2_3.below hx4 t2_3.lt
                have t3_4 := t3_3.below hx4 t3_3.lt
                have k4 := k3.trans (hx4.mono k3.size)
                clear u41 u42 hx4 k3 t0_3 t1_3 t2_3 t3_3
                have u51 := s41
                have u52 := s42
                obtain ⟨c0, c1, c2, c3⟩ := s41
                obtain ⟨d0, d1, d2, d3⟩ := s42
                obtain ⟨e00, e01, -, -⟩ := t0_4.facts
                obtain ⟨e10, e11, -, -⟩ := t1_4.facts
                obtain ⟨e20, e21, -, -⟩ := t2_4.facts
                obtain ⟨e30, e31, -, -⟩ := t3_4.facts
                go_wp2_with fail
                refine (HH4.out _).mono ?_
                rintro r v5 ⟨rfl, hx5⟩
                clear c0 c1 c2 c3 d0 d1 d2 d3 e00 e01 e10 e11 e20 e21 e30 e31
                have s51 := u51.below hx5
                have s52 := u52.below hx5
                have t0_5 := t0_4.below hx5 t0_4.lt
                have t1_5 := t1_4.below hx5 t1_4.lt
                have t2_5 := t2_4.below hx5 t2_4.lt
                have t3_5 := t3_4.below hx5 t3_4.lt
                have k5 := k4.trans (hx5.mono k4.size)
                clear u51 u52 hx5 k4 t0_4 t1_4 t2_4 t3_4
                obtain ⟨c0, c1, c2, c3⟩ := s51
                obtain ⟨d0, d1, d2, d3⟩ := s52
                obtain ⟨e00, e01, -, -⟩ := t0_5.facts
                obtain ⟨e10, e11, -, -⟩ := t1_5.facts
                obtain ⟨e20, e21, -, -⟩ := t2_5.facts
                obtain ⟨e30, e31, -, -⟩ := t3_5.facts
                go_wp2_with fail
                go_ret
                exact ⟨rfl, k5⟩
              | false =>
                obtain rfl : R = 0 := by rw [← HR.out]; simp
                clear HR
                have u11 := sg1
                have u12 := sg2
                obtain ⟨c0, c1, c2, c3⟩ := sg1
                obtain ⟨d0, d1, d2, d3⟩ := sg2
                obtain ⟨e00, e01, -, -⟩ := t0.facts
                obtain ⟨e10, e11, -, -⟩ := t1.facts
                obtain ⟨e20, e21, -, -⟩ := t2.facts
                obtain ⟨e30, e31, -, -⟩ := t3.facts
                go_wp2_with fail
                refine (HA1.out _).mono ?_
                rintro r v1 ⟨rfl, hx1⟩
                clear c0 c1 c2 c3 d0 d1 d2 d3 e00 e01 e10 e11 e20 e21 e30 e31
                have s11 := u11.below hx1
                have s12 := u12.below hx1
                have t0_1 := t0.below hx1 t0.lt
                have t1_1 := t1.below hx1 t1.lt
                have t2_1 := t2.below hx1 t2.lt
                have t3_1 := t3.below hx1 t3.lt
                have k1 := hb3.trans (hx1.mono hb3.size)
                clear u11 u12 hx1 hb3 t0 t1 t2 t3
                have u21 := s11
                have u22 := s12
                obtain ⟨c0, c1, c2, c3⟩ := s11
                obtain ⟨d0, d1, d2, d3⟩ := s12
                obtain ⟨e00, e01, -, -⟩ := t0_1.facts
                obtain ⟨e10, e11, -, -⟩ := t1_1.facts
                obtain ⟨e20, e21, -, -⟩ := t2_1.facts
                obtain ⟨e30, e31, -, -⟩ := t3_1.facts
                go_wp2_with fail
                refine (HH1.out _).mono ?_
                rintro r v2 ⟨rfl, hx2⟩
                clear c0 c1 c2 c3 d0 d1 d2 d3 e00 e01 e10 e11 e20 e21 e30 e31
                have s21 := u21.below hx2
                have s22 := u22.below hx2
                have t0_2 := t0_1.below hx2 t0_1.lt
                have t1_2 := t1_1.below hx2 t1_1.lt
                have t2_2 := t2_1.below hx2 t2_1.lt
                have t3_2 := t3_1.below hx2 t3_1.lt
                have k2 := k1.trans (hx2.mono k1.size)
                clear u21 u22 hx2 k1 t0_1 t1_1 t2_1 t3_1
                have u31 := s21
                have u32 := s22
                obtain ⟨c0, c1, c2, c3⟩ := s21
                obtain ⟨d0, d1, d2, d3⟩ := s22
                obtain ⟨e00, e01, -, -⟩ := t0_2.facts
                obtain ⟨e10, e11, -, -⟩ := t1_2.facts
                obtain ⟨e20, e21, -, -⟩ := t2_2.facts
                obtain ⟨e30, e31, -, -⟩ := t3_2.facts
                go_wp2_with fail
                refine (HH2.out _).mono ?_
                rintro r v3 ⟨rfl, hx3⟩
                clear c0 c1 c2 c3 d0 d1 d2 d3 e00 e01 e10 e11 e20 e21 e30 e31
                have s31 := u31.below hx3
                have s32 := u32.below hx3
                have t0_3 := t0_2.below hx3 t0_2.lt
                have t1_3 := t1_2.below hx3 t1_2.lt
                have t2_3 := t2_2.below hx3 t2_2.lt
                have t3_3 := t3_2.below hx3 t3_2.lt
                have k3 := k2.trans (hx3.mono k2.size)
                clear u31 u32 hx3 k2 t0_2 t1_2 t2_2 t3_2
                have u41 := s31
                have u42 := s32
                obtain ⟨c0, c1, c2, c3⟩ := s31
                obtain ⟨d0, d1, d2, d3⟩ := s32
                obtain ⟨e00, e01, -, -⟩ := t0_3.facts
                obtain ⟨e10, e11, -, -⟩ := t1_3.facts
                obtain ⟨e20, e21, -, -⟩ := t2_3.facts
                obtain ⟨e30, e31, -, -⟩ := t3_3.facts
                go_wp2_with fail
                refine (HH3.out _).mono ?_
                rintro r v4 ⟨rfl, hx4⟩
                clear c0 c1 c2 c3 d0 d1 d2 d3 e00 e01 e10 e11 e20 e21 e30 e31
                have s41 := u41.below hx4
                have s42 := u42.below hx4
                have t0_4 := t0_3.below hx4 t0_3.lt
                have t1_4 := t1_3.below hx4 t1_3.lt
                have t2_4 := t2_3.below hx4 t2_3.lt
                have t3_4 := t3_3.below hx4 t3_3.lt
                have k4 := k3.trans (hx4.mono k3.size)
                clear u41 u42 hx4 k3 t0_3 t1_3 t2_3 t3_3
                have u51 := s41
                have u52 := s42
                obtain ⟨c0, c1, c2, c3⟩ := s41
                obtain ⟨d0, d1, d2, d3⟩ := s42
                obtain ⟨e00, e01, -, -⟩ := t0_4.facts
                obtain ⟨e10, e11, -, -⟩ := t1_4.facts
                obtain ⟨e20, e21, -, -⟩ := t2_4.facts
                obtain ⟨e30, e31, -, -⟩ := t3_4.facts
                go_wp2_with fail
                refine (HH4.out _).mono ?_
                rintro r v5 ⟨rfl, hx5⟩
                clear c0 c1 c2 c3 d0 d1 d2 d3 e00 e01 e10 e11 e20 e21 e30 e31
                have s51 := u51.below hx5
                have s52 := u52.below hx5
                have t0_5 := t0_4.below hx5 t0_4.lt
                have t1_5 := t1_4.below hx5 t1_4.lt
                have t2_5 := t2_4.below hx5 t2_4.lt
                have t3_5 := t3_4.below hx5 t3_4.lt
                have k5 := k4.trans (hx5.mono k4.size)
                clear u51 u52 hx5 k4 t0_4 t1_4 t2_4 t3_4
                obtain ⟨c0, c1, c2, c3⟩ := s51
                obtain ⟨d0, d1, d2, d3⟩ := s52
                obtain ⟨e00, e01, -, -⟩ := t0_5.facts
                obtain ⟨e10, e11, -, -⟩ := t1_5.facts
                obtain ⟨e20, e21, -, -⟩ := t2_5.facts
                obtain ⟨e30, e31, -, -⟩ := t3_5.facts
                go_wp2_with fail
                go_ret
                exact ⟨rfl, k5⟩
  · rw [if_neg h]
    rw [decide_eq_false h] at HL
    clear h
    go_enter Try.func18, Try.ntmps18
    go_wp2_with fail
    refine (HL.out _ _ _ (pts4 (by simp) _ _ _ _ _ _ _ _ _)).mono ?_
    rintro r w1 ⟨rfl, hb1⟩
    go_wp2_with fail
    go_ret
    exact ⟨rfl, hb0.trans (hb1.mono hb0.size)⟩
end Go.Proofs.Ytohkmkkcblbemaa.Ge
