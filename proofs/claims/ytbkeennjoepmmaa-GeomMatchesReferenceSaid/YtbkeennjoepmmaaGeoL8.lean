/- The walk of GeomMatchesReference. -/
import Derived.Test.YtbkeennjoepmmaaGeoW5
import Derived.Test.YtbkeennjoepmmaaGeoH
import Derived.Test.YtbkeennjoepmmaaGeoR4
import Derived.Test.YtbkeennjoepmmaaGeoR5
namespace Go.Proofs.Ytbkeennjoepmmaa.Ge
set_option linter.unusedVariables false
set_option linter.unusedSimpArgs false
open Go.RowKit
open Go.Proofs.Ytbkeennjoepmmaa.Fr (Two)

set_option maxRecDepth 100000 in
set_option maxHeartbeats 8000000 in
theorem lawMatches (px py qx qy rx ry sx sy : Int) (hpx1 : -9223372036854775808 ≤ px) (hpx2 : px ≤ 9223372036854775807) (hpy1 : -9223372036854775808 ≤ py) (hpy2 : py ≤ 9223372036854775807) (hqx1 : -9223372036854775808 ≤ qx) (hqx2 : qx ≤ 9223372036854775807) (hqy1 : -9223372036854775808 ≤ qy) (hqy2 : qy ≤ 9223372036854775807) (hrx1 : -9223372036854775808 ≤ rx) (hrx2 : rx ≤ 9223372036854775807) (hry1 : -9223372036854775808 ≤ ry) (hry2 : ry ≤ 9223372036854775807) (hsx1 : -9223372036854775808 ≤ sx) (hsx2 : sx ≤ 9223372036854775807) (hsy1 : -9223372036854775808 ≤ sy) (hsy2 : sy ≤ 9223372036854775807) (w : World) :
    Calls Try.prog 3 #[.agg #[.int .i64 px, .int .i64 py], .agg #[.int .i64 qx, .int .i64 qy], .agg #[.int .i64 rx, .int .i64 ry], .agg #[.int .i64 sx, .int .i64 sy]] w fun e w' => e = .returned (.bool true) ∧ Below w.heap.size w w' := by
  have HO := Lib.hid (fun w => on_any px py w)
  have RO := Lib.hid (fun w => r_on_any px py w)
  have HT := Lib.hid (fun w => Turn_any px py qx qy rx ry w)
  have RT := Lib.hid (fun w => r_turn_any px py qx qy rx ry w)
  have HD := Lib.hid (fun w => Dist_any px py qx qy w)
  have RD := Lib.hid (fun w => r_dist_any px py qx qy w)
  have HB := Lib.hid (fun w => Between_any px py qx qy rx ry w)
  have RB := Lib.hid (fun w => r_between_any px py qx qy rx ry w)
  have HC := Lib.hid (fun w => Cross_any px py qx qy rx ry sx sy w)
  have RC := Lib.hid (fun w => r_cross_any px py qx qy rx ry sx sy w)
  have HF := Lib.hid (fun w => Foot_any px py qx qy rx ry w)
  have RF := Lib.hid (fun w => r_foot_any px py qx qy rx ry w)
  obtain ⟨N, D, M, E, er, hf⟩ : ∃ N D M E er : Int, (if onP px py ∧ onP qx qy ∧ onP rx ry then Value.tuple #[.agg #[.int .i64 (ftN px py qx qy rx ry), .int .i64 (ftD px py qx qy rx ry)], .agg #[.int .i64 (ftM px py qx qy rx ry), .int .i64 (ftE px py qx qy rx ry)], .int .i64 0] else .tuple #[.agg #[.int .i64 0, .int .i64 0], .agg #[.int .i64 0, .int .i64 0], .int .i64 1]) = .tuple #[.agg #[.int .i64 N, .int .i64 D], .agg #[.int .i64 M, .int .i64 E], .int .i64 er] := by
    by_cases h : onP px py ∧ onP qx qy ∧ onP rx ry
    · exact ⟨_, _, _, _, _, if_pos h⟩
    · exact ⟨_, _, _, _, _, if_neg h⟩
  rw [hf] at HF RF
  clear hf
  generalize decide (onP px py) = O at *
  generalize turnV px py qx qy rx ry = T at *
  generalize distV px py qx qy = S at *
  generalize betB px py qx qy rx ry = B at *
  generalize crossV px py qx qy rx ry sx sy = C at *
  have q0 : (O == O) = true := by simp
  have q1 : (T == T) = true := by simp
  have q2 : (S == S) = true := by simp
  have q3 : (B == B) = true := by simp
  have q4 : (C == C) = true := by simp
  have z0 : (N == N) = true := by simp
  have z1 : (D == D) = true := by simp
  have z2 : (M == M) = true := by simp
  have z3 : (E == E) = true := by simp
  have z4 : (er == er) = true := by simp
  have b0_0 := Two.at (w := w) (B := w.heap.size) (by simp) 23 (.int .i64 px) (.int .i64 py)
  have b1_1 := Two.at (w := (w.alloc (.cells #[.int .i64 px, .int .i64 py] 23))) (B := w.heap.size + 1) (by simp) 23 (.int .i64 qx) (.int .i64 qy)
  have b0_1 := b0_0.alloc (.cells #[.int .i64 qx, .int .i64 qy] 23)
  have b2_2 := Two.at (w := ((w.alloc (.cells #[.int .i64 px, .int .i64 py] 23)).alloc (.cells #[.int .i64 qx, .int .i64 qy] 23))) (B := w.heap.size + 1 + 1) (by simp) 23 (.int .i64 rx) (.int .i64 ry)
  have b0_2 := b0_1.alloc (.cells #[.int .i64 rx, .int .i64 ry] 23)
  have b1_2 := b1_1.alloc (.cells #[.int .i64 rx, .int .i64 ry] 23)
  have b3_3 := Two.at (w := (((w.alloc (.cells #[.int .i64 px, .int .i64 py] 23)).alloc (.cells #[.int .i64 qx, .int .i64 qy] 23)).alloc (.cells #[.int .i64 rx, .int .i64 ry] 23))) (B := w.heap.size + 1 + 1 + 1) (by simp) 23 (.int .i64 sx) (.int .i64 sy)
  have b0_3 := b0_2.alloc (.cells #[.int .i64 sx, .int .i64 sy] 23)
  have b1_3 := b1_2.alloc (.cells #[.int .i64 sx, .int .i64 sy] 23)
  have b2_3 := b2_2.alloc (.cells #[.int .i64 sx, .int .i64 sy] 23)
  have hb0 : Below w.heap.size w _ := (((((Below.refl w.heap.size w).alloc (by simp <;> omega) (.cells #[.int .i64 px, .int .i64 py] 23)).alloc (by simp <;> omega) (.cells #[.int .i64 qx, .int .i64 qy] 23)).alloc (by simp <;> omega) (.cells #[.int .i64 rx, .int .i64 ry] 23)).alloc (by simp <;> omega) (.cells #[.int .i64 sx, .int .i64 sy] 23))
  go_enter Try.func3, Try.ntmps3
  obtain ⟨f1_0, f1_1, f1_2, f1_3⟩ := b0_3.facts
  obtain ⟨f2_0, f2_1, f2_2, f2_3⟩ := b1_3.facts
  obtain ⟨f3_0, f3_1, f3_2, f3_3⟩ := b2_3.facts
  obtain ⟨f4_0, f4_1, f4_2, f4_3⟩ := b3_3.facts
  go_wp2_with fail
  refine (head_any _).mono ?_
  rintro r v1 ⟨rfl, hx1⟩
  clear f1_0 f1_1 f1_2 f1_3 f2_0 f2_1 f2_2 f2_3 f3_0 f3_1 f3_2 f3_3 f4_0 f4_1 f4_2 f4_3
  have t1_1 := b0_3.below hx1 b0_3.lt
  clear b0_3
  have t2_1 := b1_3.below hx1 b1_3.lt
  clear b1_3
  have t3_1 := b2_3.below hx1 b2_3.lt
  clear b2_3
  have t4_1 := b3_3.below hx1 b3_3.lt
  clear b3_3
  have hb1 := hb0.trans (hx1.mono hb0.size)
  clear hb0 hx1
  obtain ⟨f1_0, f1_1, f1_2, f1_3⟩ := t1_1.facts
  obtain ⟨f2_0, f2_1, f2_2, f2_3⟩ := t2_1.facts
  obtain ⟨f3_0, f3_1, f3_2, f3_3⟩ := t3_1.facts
  obtain ⟨f4_0, f4_1, f4_2, f4_3⟩ := t4_1.facts
  go_wp2_with fail
  refine (HF.out _).mono ?_
  rintro r v2 ⟨rfl, hx2⟩
  clear f1_0 f1_1 f1_2 f1_3 f2_0 f2_1 f2_2 f2_3 f3_0 f3_1 f3_2 f3_3 f4_0 f4_1 f4_2 f4_3
  have t1_2 := t1_1.below hx2 t1_1.lt
  clear t1_1
  have t2_2 := t2_1.below hx2 t2_1.lt
  clear t2_1
  have t3_2 := t3_1.below hx2 t3_1.lt
  clear t3_1
  have t4_2 := t4_1.below hx2 t4_1.lt
  clear t4_1
  have hb2 := hb1.trans (hx2.mono hb1.size)
  clear hb1 hx2
  have t1_3 := (t1_2.alloc (.cells #[.int .i64 N, .int .i64 D] 26)).alloc (.cells #[.int .i64 M, .int .i64 E] 26)
  clear t1_2
  have t2_3 := (t2_2.alloc (.cells #[.int .i64 N, .int .i64 D] 26)).alloc (.cells #[.int .i64 M, .int .i64 E] 26)
  clear t2_2
  have t3_3 := (t3_2.alloc (.cells #[.int .i64 N, .int .i64 D] 26)).alloc (.cells #[.int .i64 M, .int .i64 E] 26)
  clear t3_2
  have t4_3 := (t4_2.alloc (.cells #[.int .i64 N, .int .i64 D] 26)).alloc (.cells #[.int .i64 M, .int .i64 E] 26)
  clear t4_2
  have t5_3 := (Two.at (w := v2) (B := v2.heap.size) rfl 26 (.int .i64 N) (.int .i64 D)).alloc (.cells #[.int .i64 M, .int .i64 E] 26)
  have t6_3 := Two.at (w := v2.alloc (.cells #[.int .i64 N, .int .i64 D] 26)) (B := v2.heap.size + 1) (by simp) 26 (.int .i64 M) (.int .i64 E)
  have hb3 := (hb2.alloc hb2.size (.cells #[.int .i64 N, .int .i64 D] 26)).alloc (by have := hb2.size; simp; omega) (.cells #[.int .i64 M, .int .i64 E] 26)
  clear hb2
  obtain ⟨f1_0, f1_1, f1_2, f1_3⟩ := t1_3.facts
  obtain ⟨f2_0, f2_1, f2_2, f2_3⟩ := t2_3.facts
  obtain ⟨f3_0, f3_1, f3_2, f3_3⟩ := t3_3.facts
  obtain ⟨f4_0, f4_1, f4_2, f4_3⟩ := t4_3.facts
  obtain ⟨f5_0, f5_1, f5_2, f5_3⟩ := t5_3.facts
  obtain ⟨f6_0, f6_1, f6_2, f6_3⟩ := t6_3.facts
  go_wp2_with fail
  refine (RF.out _).mono ?_
  rintro r v4 ⟨rfl, hx4⟩
  clear f1_0 f1_1 f1_2 f1_3 f2_0 f2_1 f2_2 f2_3 f3_0 f3_1 f3_2 f3_3 f4_0 f4_1 f4_2 f4_3 f5_0 f5_1 f5_2 f5_3 f6_0 f6_1 f6_2 f6_3
  have t1_4 := t1_3.below hx4 t1_3.lt
  clear t1_3
  have t2_4 := t2_3.below hx4 t2_3.lt
  clear t2_3
  have t3_4 := t3_3.below hx4 t3_3.lt
  clear t3_3
  have t4_4 := t4_3.below hx4 t4_3.lt
  clear t4_3
  have t5_4 := t5_3.below hx4 t5_3.lt
  clear t5_3
  have t6_4 := t6_3.below hx4 t6_3.lt
  clear t6_3
  have hb4 := hb3.trans (hx4.mono hb3.size)
  clear hb3 hx4
  have t1_5 := (t1_4.alloc (.cells #[.int .i64 N, .int .i64 D] 26)).alloc (.cells #[.int .i64 M, .int .i64 E] 26)
  clear t1_4
  have t2_5 := (t2_4.alloc (.cells #[.int .i64 N, .int .i64 D] 26)).alloc (.cells #[.int .i64 M, .int .i64 E] 26)
  clear t2_4
  have t3_5 := (t3_4.alloc (.cells #[.int .i64 N, .int .i64 D] 26)).alloc (.cells #[.int .i64 M, .int .i64 E] 26)
  clear t3_4
  have t4_5 := (t4_4.alloc (.cells #[.int .i64 N, .int .i64 D] 26)).alloc (.cells #[.int .i64 M, .int .i64 E] 26)
  clear t4_4
  have t5_5 := (t5_4.alloc (.cells #[.int .i64 N, .int .i64 D] 26)).alloc (.cells #[.int .i64 M, .int .i64 E] 26)
  clear t5_4
  have t6_5 := (t6_4.alloc (.cells #[.int .i64 N, .int .i64 D] 26)).alloc (.cells #[.int .i64 M, .int .i64 E] 26)
  clear t6_4
  have t7_5 := (Two.at (w := v4) (B := v4.heap.size) rfl 26 (.int .i64 N) (.int .i64 D)).alloc (.cells #[.int .i64 M, .int .i64 E] 26)
  have t8_5 := Two.at (w := v4.alloc (.cells #[.int .i64 N, .int .i64 D] 26)) (B := v4.heap.size + 1) (by simp) 26 (.int .i64 M) (.int .i64 E)
  have hb5 := (hb4.alloc hb4.size (.cells #[.int .i64 N, .int .i64 D] 26)).alloc (by have := hb4.size; simp; omega) (.cells #[.int .i64 M, .int .i64 E] 26)
  clear hb4
  obtain ⟨f1_0, f1_1, f1_2, f1_3⟩ := t1_5.facts
  obtain ⟨f2_0, f2_1, f2_2, f2_3⟩ := t2_5.facts
  obtain ⟨f3_0, f3_1, f3_2, f3_3⟩ := t3_5.facts
  obtain ⟨f4_0, f4_1, f4_2, f4_3⟩ := t4_5.facts
  obtain ⟨f5_0, f5_1, f5_2, f5_3⟩ := t5_5.facts
  obtain ⟨f6_0, f6_1, f6_2, f6_3⟩ := t6_5.facts
  obtain ⟨f7_0, f7_1, f7_2, f7_3⟩ := t7_5.facts
  obtain ⟨f8_0, f8_1, f8_2, f8_3⟩ := t8_5.facts
  go_upto_region 4 with fail
  clear f1_0 f1_1 f1_2 f1_3 f2_0 f2_1 f2_2 f2_3 f3_0 f3_1 f3_2 f3_3 f4_0 f4_1 f4_2 f4_3 f5_0 f5_1 f5_2 f5_3 f6_0 f6_1 f6_2 f6_3 f7_0 f7_1 f7_2 f7_3 f8_0 f8_1 f8_2 f8_3
  generalize ((v4.alloc (.cells #[.int .i64 N, .int .i64 D] 26)).alloc (.cells #[.int .i64 M, .int .i64 E] 26)) = V at *
  obtain ⟨f1_0, f1_1, f1_2, f1_3⟩ := t1_5.facts
  obtain ⟨f2_0, f2_1, f2_2, f2_3⟩ := t2_5.facts
  obtain ⟨f3_0, f3_1, f3_2, f3_3⟩ := t3_5.facts
  obtain ⟨f4_0, f4_1, f4_2, f4_3⟩ := t4_5.facts
  obtain ⟨f5_0, f5_1, f5_2, f5_3⟩ := t5_5.facts
  obtain ⟨f6_0, f6_1, f6_2, f6_3⟩ := t6_5.facts
  obtain ⟨f7_0, f7_1, f7_2, f7_3⟩ := t7_5.facts
  obtain ⟨f8_0, f8_1, f8_2, f8_3⟩ := t8_5.facts
  go_upto_region 4 with fail
  clear f1_0 f1_1 f1_2 f1_3 f2_0 f2_1 f2_2 f2_3 f3_0 f3_1 f3_2 f3_3 f4_0 f4_1 f4_2 f4_3 f5_0 f5_1 f5_2 f5_3 f6_0 f6_1 f6_2 f6_3 f7_0 f7_1 f7_2 f7_3 f8_0 f8_1 f8_2 f8_3
  have hS : ∀ w' : World, Below V.heap.size V w' → (w'.cell? ⟨w.heap.size, 0, none⟩ = some (.int .i64 px) ∧ w'.cell? ⟨w.heap.size, 1, none⟩ = some (.int .i64 py)) ∧ (w'.cell? ⟨w.heap.size + 1, 0, none⟩ = some (.int .i64 qx) ∧ w'.cell? ⟨w.heap.size + 1, 1, none⟩ = some (.int .i64 qy)) ∧ (w'.cell? ⟨w.heap.size + 1 + 1, 0, none⟩ = some (.int .i64 rx) ∧ w'.cell? ⟨w.heap.size + 1 + 1, 1, none⟩ = some (.int .i64 ry)) ∧ (w'.cell? ⟨w.heap.size + 1 + 1 + 1, 0, none⟩ = some (.int .i64 sx) ∧ w'.cell? ⟨w.heap.size + 1 + 1 + 1, 1, none⟩ = some (.int .i64 sy)) := fun w' hb => ⟨two_of t1_5 hb, two_of t2_5 hb, two_of t3_5 hb, two_of t4_5 hb⟩
  have hr := Below.refl V.heap.size V
  go_region_held3 (fun w' => (w'.cell? ⟨w.heap.size, 0, none⟩ = some (.int .i64 px) ∧ w'.cell? ⟨w.heap.size, 1, none⟩ = some (.int .i64 py)) ∧ (w'.cell? ⟨w.heap.size + 1, 0, none⟩ = some (.int .i64 qx) ∧ w'.cell? ⟨w.heap.size + 1, 1, none⟩ = some (.int .i64 qy)) ∧ (w'.cell? ⟨w.heap.size + 1 + 1, 0, none⟩ = some (.int .i64 rx) ∧ w'.cell? ⟨w.heap.size + 1 + 1, 1, none⟩ = some (.int .i64 ry)) ∧ (w'.cell? ⟨w.heap.size + 1 + 1 + 1, 0, none⟩ = some (.int .i64 sx) ∧ w'.cell? ⟨w.heap.size + 1 + 1 + 1, 1, none⟩ = some (.int .i64 sy)))
    (first | (with_reducible exact hS _ hr.drew) | (with_reducible refine hS _ ?_; with_reducible assumption))
    (first
      | (go_at_call 19; have hz := hy5; refine (RD.out _).mono ?_; rintro r y6 ⟨rfl, hy6'⟩; have hy6 : Below V.heap.size V y6 := hy5.trans (hy6'.mono hy5.size))
      | (go_at_call 18; have hz := hy4; refine (HD.out _).mono ?_; rintro r y5 ⟨rfl, hy5'⟩; have hy5 : Below V.heap.size V y5 := hy4.trans (hy5'.mono hy4.size))
      | (go_at_call 17; have hz := hy3; refine (RT.out _).mono ?_; rintro r y4 ⟨rfl, hy4'⟩; have hy4 : Below V.heap.size V y4 := hy3.trans (hy4'.mono hy3.size))
      | (go_at_call 16; have hz := hy2; refine (HT.out _).mono ?_; rintro r y3 ⟨rfl, hy3'⟩; have hy3 : Below V.heap.size V y3 := hy2.trans (hy3'.mono hy2.size))
      | (go_at_call 15; have hz := hy1; refine (RO.out _).mono ?_; rintro r y2 ⟨rfl, hy2'⟩; have hy2 : Below V.heap.size V y2 := hy1.trans (hy2'.mono hy1.size))
      | (go_at_call 14; refine (HO.out _).mono ?_; rintro r y1 ⟨rfl, hy1'⟩; have hy1 : Below V.heap.size V y1 := hr.drew.trans hy1'))
  all_goals
    have t1_6 := t1_5.below hy6 t1_5.lt
    have t2_6 := t2_5.below hy6 t2_5.lt
    have t3_6 := t3_5.below hy6 t3_5.lt
    have t4_6 := t4_5.below hy6 t4_5.lt
    have t5_6 := t5_5.below hy6 t5_5.lt
    have t6_6 := t6_5.below hy6 t6_5.lt
    have t7_6 := t7_5.below hy6 t7_5.lt
    have t8_6 := t8_5.below hy6 t8_5.lt
    have hb6 := hb5.trans (hy6.mono hb5.size)
    have hU := hy6
    generalize y6 = U at *
    clear hS hr hU
    obtain ⟨f1_0, f1_1, f1_2, f1_3⟩ := t1_6.facts
    obtain ⟨f2_0, f2_1, f2_2, f2_3⟩ := t2_6.facts
    obtain ⟨f3_0, f3_1, f3_2, f3_3⟩ := t3_6.facts
    obtain ⟨f4_0, f4_1, f4_2, f4_3⟩ := t4_6.facts
    obtain ⟨f5_0, f5_1, f5_2, f5_3⟩ := t5_6.facts
    obtain ⟨f6_0, f6_1, f6_2, f6_3⟩ := t6_6.facts
    obtain ⟨f7_0, f7_1, f7_2, f7_3⟩ := t7_6.facts
    obtain ⟨f8_0, f8_1, f8_2, f8_3⟩ := t8_6.facts
    go_upto_region 5 with fail
    clear f1_0 f1_1 f1_2 f1_3 f2_0 f2_1 f2_2 f2_3 f3_0 f3_1 f3_2 f3_3 f4_0 f4_1 f4_2 f4_3 f5_0 f5_1 f5_2 f5_3 f6_0 f6_1 f6_2 f6_3 f7_0 f7_1 f7_2 f7_3 f8_0 f8_1 f8_2 f8_3
    have hS : ∀ w' : World, Below U.heap.size U w' → (w'.cell? ⟨w.heap.size, 0, none⟩ = some (.int .i64 px) ∧ w'.cell? ⟨w.heap.size, 1, none⟩ = some (.int .i64 py)) ∧ (w'.cell? ⟨w.heap.size + 1, 0, none⟩ = some (.int .i64 qx) ∧ w'.cell? ⟨w.heap.size + 1, 1, none⟩ = some (.int .i64 qy)) ∧ (w'.cell? ⟨w.heap.size + 1 + 1, 0, none⟩ = some (.int .i64 rx) ∧ w'.cell? ⟨w.heap.size + 1 + 1, 1, none⟩ = some (.int .i64 ry)) ∧ (w'.cell? ⟨w.heap.size + 1 + 1 + 1, 0, none⟩ = some (.int .i64 sx) ∧ w'.cell? ⟨w.heap.size + 1 + 1 + 1, 1, none⟩ = some (.int .i64 sy)) ∧ (w'.cell? ⟨v2.heap.size, 0, none⟩ = some (.int .i64 N) ∧ w'.cell? ⟨v2.heap.size, 1, none⟩ = some (.int .i64 D)) ∧ (w'.cell? ⟨v2.heap.size + 1, 0, none⟩ = some (.int .i64 M) ∧ w'.cell? ⟨v2.heap.size + 1, 1, none⟩ = some (.int .i64 E)) ∧ (w'.cell? ⟨v4.heap.size, 0, none⟩ = some (.int .i64 N) ∧ w'.cell? ⟨v4.heap.size, 1, none⟩ = some (.int .i64 D)) ∧ (w'.cell? ⟨v4.heap.size + 1, 0, none⟩ = some (.int .i64 M) ∧ w'.cell? ⟨v4.heap.size + 1, 1, none⟩ = some (.int .i64 E)) := fun w' hb => ⟨two_of t1_6 hb, two_of t2_6 hb, two_of t3_6 hb, two_of t4_6 hb, two_of t5_6 hb, two_of t6_6 hb, two_of t7_6 hb, two_of t8_6 hb⟩
    have hr := Below.refl U.heap.size U
    go_region_held3 (fun w' => (w'.cell? ⟨w.heap.size, 0, none⟩ = some (.int .i64 px) ∧ w'.cell? ⟨w.heap.size, 1, none⟩ = some (.int .i64 py)) ∧ (w'.cell? ⟨w.heap.size + 1, 0, none⟩ = some (.int .i64 qx) ∧ w'.cell? ⟨w.heap.size + 1, 1, none⟩ = some (.int .i64 qy)) ∧ (w'.cell? ⟨w.heap.size + 1 + 1, 0, none⟩ = some (.int .i64 rx) ∧ w'.cell? ⟨w.heap.size + 1 + 1, 1, none⟩ = some (.int .i64 ry)) ∧ (w'.cell? ⟨w.heap.size + 1 + 1 + 1, 0, none⟩ = some (.int .i64 sx) ∧ w'.cell? ⟨w.heap.size + 1 + 1 + 1, 1, none⟩ = some (.int .i64 sy)) ∧ (w'.cell? ⟨v2.heap.size, 0, none⟩ = some (.int .i64 N) ∧ w'.cell? ⟨v2.heap.size, 1, none⟩ = some (.int .i64 D)) ∧ (w'.cell? ⟨v2.heap.size + 1, 0, none⟩ = some (.int .i64 M) ∧ w'.cell? ⟨v2.heap.size + 1, 1, none⟩ = some (.int .i64 E)) ∧ (w'.cell? ⟨v4.heap.size, 0, none⟩ = some (.int .i64 N) ∧ w'.cell? ⟨v4.heap.size, 1, none⟩ = some (.int .i64 D)) ∧ (w'.cell? ⟨v4.heap.size + 1, 0, none⟩ = some (.int .i64 M) ∧ w'.cell? ⟨v4.heap.size + 1, 1, none⟩ = some (.int .i64 E)))
      (first | (with_reducible exact hS _ hr.drew) | (with_reducible refine hS _ ?_; with_reducible assumption))
      (first
        | (go_at_call 23; have hz := hy3; refine (RC.out _).mono ?_; rintro r y4 ⟨rfl, hy4'⟩; have hy4 : Below U.heap.size U y4 := hy3.trans (hy4'.mono hy3.size))
        | (go_at_call 22; have hz := hy2; refine (HC.out _).mono ?_; rintro r y3 ⟨rfl, hy3'⟩; have hy3 : Below U.heap.size U y3 := hy2.trans (hy3'.mono hy2.size))
        | (go_at_call 21; have hz := hy1; refine (RB.out _).mono ?_; rintro r y2 ⟨rfl, hy2'⟩; have hy2 : Below U.heap.size U y2 := hy1.trans (hy2'.mono hy1.size))
        | (go_at_call 20; refine (HB.out _).mono ?_; rintro r y1 ⟨rfl, hy1'⟩; have hy1 : Below U.heap.size U y1 := hr.drew.trans hy1'))
    all_goals
      have t1_7 := t1_6.below hy4 t1_6.lt
      have t2_7 := t2_6.below hy4 t2_6.lt
      have t3_7 := t3_6.below hy4 t3_6.lt
      have t4_7 := t4_6.below hy4 t4_6.lt
      have t5_7 := t5_6.below hy4 t5_6.lt
      have t6_7 := t6_6.below hy4 t6_6.lt
      have t7_7 := t7_6.below hy4 t7_6.lt
      have t8_7 := t8_6.below hy4 t8_6.lt
      have hb7 := hb6.trans (hy4.mono hb6.size)
      go_wp2_with fail
      go_ret
      exact ⟨rfl, hb7⟩
end Go.Proofs.Ytbkeennjoepmmaa.Ge
