/- Layer 7's reference: Between. -/
import Derived.Test.YtbkeennjoepmmaaGeoR1
namespace Go.Proofs.Ytbkeennjoepmmaa.Ge
set_option linter.unusedVariables false
set_option linter.unusedSimpArgs false
open Go.RowKit
open Go.Proofs.Ytbkeennjoepmmaa.Fr (Two)

set_option maxRecDepth 100000 in
set_option maxHeartbeats 4000000 in
theorem r_between_any (px py ax ay bx bz : Int) (w : World) :
    Calls Try.prog 21 #[.agg #[.int .i64 px, .int .i64 py], .agg #[.int .i64 ax, .int .i64 ay], .agg #[.int .i64 bx, .int .i64 bz]] w fun e w' => e = .returned (.bool (betB px py ax ay bx bz)) ∧ Below w.heap.size w w' := by
  by_cases h1 : onP px py
  · have HO1 := Lib.hid (fun w => r_on_yes px py h1 w)
    by_cases h2 : onP ax ay
    · have HO2 := Lib.hid (fun w => r_on_yes ax ay h2 w)
      by_cases h3 : onP bx bz
      · have HO3 := Lib.hid (fun w => r_on_yes bx bz h3 w)
        have HA := Lib.hid (fun w => r_area_any ax ay bx bz px py h2 h3 h1 w)
        have hb := box_eq h1 h2 h3
        have b0 := area_bd h2 h3 h1
        clear h1 h2 h3
        generalize areaN ax ay bx bz px py = A at *
        generalize betB px py ax ay bx bz = Q at *
        by_cases hA : A = 0
        · subst hA
          have hq : ((0 : Int) != 0) = false := by decide
          by_cases c0 : min ax bx ≤ px
          · skip
            by_cases c1 : px ≤ max ax bx
            · skip
              by_cases c2 : min ay bz ≤ py
              · skip
                by_cases c3 : py ≤ max ay bz
                · obtain rfl : Q = true := by rw [hb, decide_eq_true (rfl : (0 : Int) = 0), decide_eq_true c0, decide_eq_true c1, decide_eq_true c2, decide_eq_true c3]; rfl
                  clear hb b0
                  have b0_0 := Two.at (w := w) (B := w.heap.size) (by simp) 23 (.int .i64 px) (.int .i64 py)
                  have b1_1 := Two.at (w := (w.alloc (.cells #[.int .i64 px, .int .i64 py] 23))) (B := w.heap.size + 1) (by simp) 23 (.int .i64 ax) (.int .i64 ay)
                  have b0_1 := b0_0.alloc (.cells #[.int .i64 ax, .int .i64 ay] 23)
                  have b2_2 := Two.at (w := ((w.alloc (.cells #[.int .i64 px, .int .i64 py] 23)).alloc (.cells #[.int .i64 ax, .int .i64 ay] 23))) (B := w.heap.size + 1 + 1) (by simp) 23 (.int .i64 bx) (.int .i64 bz)
                  have b0_2 := b0_1.alloc (.cells #[.int .i64 bx, .int .i64 bz] 23)
                  have b1_2 := b1_1.alloc (.cells #[.int .i64 bx, .int .i64 bz] 23)
                  have hb0 : Below w.heap.size w _ := ((((Below.refl w.heap.size w).alloc (by simp <;> omega) (.cells #[.int .i64 px, .int .i64 py] 23)).alloc (by simp <;> omega) (.cells #[.int .i64 ax, .int .i64 ay] 23)).alloc (by simp <;> omega) (.cells #[.int .i64 bx, .int .i64 bz] 23))
                  go_enter Try.func21, Try.ntmps21
                  obtain ⟨f1_0, f1_1, f1_2, f1_3⟩ := b0_2.facts
                  obtain ⟨f2_0, f2_1, f2_2, f2_3⟩ := b1_2.facts
                  obtain ⟨f3_0, f3_1, f3_2, f3_3⟩ := b2_2.facts
                  go_wp2_with fail
                  refine (HO1.out _).mono ?_
                  rintro r v16 ⟨rfl, hx16⟩
                  clear f1_0 f1_1 f1_2 f1_3 f2_0 f2_1 f2_2 f2_3 f3_0 f3_1 f3_2 f3_3
                  have t1_16 := b0_2.below hx16 b0_2.lt
                  clear b0_2
                  have t2_16 := b1_2.below hx16 b1_2.lt
                  clear b1_2
                  have t3_16 := b2_2.below hx16 b2_2.lt
                  clear b2_2
                  have hb16 := hb0.trans (hx16.mono hb0.size)
                  clear hb0 hx16
                  obtain ⟨f1_0, f1_1, f1_2, f1_3⟩ := t1_16.facts
                  obtain ⟨f2_0, f2_1, f2_2, f2_3⟩ := t2_16.facts
                  obtain ⟨f3_0, f3_1, f3_2, f3_3⟩ := t3_16.facts
                  go_wp2_with fail
                  refine (HO2.out _).mono ?_
                  rintro r v17 ⟨rfl, hx17⟩
                  clear f1_0 f1_1 f1_2 f1_3 f2_0 f2_1 f2_2 f2_3 f3_0 f3_1 f3_2 f3_3
                  have t1_17 := t1_16.below hx17 t1_16.lt
                  clear t1_16
                  have t2_17 := t2_16.below hx17 t2_16.lt
                  clear t2_16
                  have t3_17 := t3_16.below hx17 t3_16.lt
                  clear t3_16
                  have hb17 := hb16.trans (hx17.mono hb16.size)
                  clear hb16 hx17
                  obtain ⟨f1_0, f1_1, f1_2, f1_3⟩ := t1_17.facts
                  obtain ⟨f2_0, f2_1, f2_2, f2_3⟩ := t2_17.facts
                  obtain ⟨f3_0, f3_1, f3_2, f3_3⟩ := t3_17.facts
                  go_wp2_with fail
                  refine (HO3.out _).mono ?_
                  rintro r v18 ⟨rfl, hx18⟩
                  clear f1_0 f1_1 f1_2 f1_3 f2_0 f2_1 f2_2 f2_3 f3_0 f3_1 f3_2 f3_3
                  have t1_18 := t1_17.below hx18 t1_17.lt
                  clear t1_17
                  have t2_18 := t2_17.below hx18 t2_17.lt
                  clear t2_17
                  have t3_18 := t3_17.below hx18 t3_17.lt
                  clear t3_17
                  have hb18 := hb17.trans (hx18.mono hb17.size)
                  clear hb17 hx18
                  obtain ⟨f1_0, f1_1, f1_2, f1_3⟩ := t1_18.facts
                  obtain ⟨f2_0, f2_1, f2_2, f2_3⟩ := t2_18.facts
                  obtain ⟨f3_0, f3_1, f3_2, f3_3⟩ := t3_18.facts
                  go_wp2_with fail
                  refine (HA.out _).mono ?_
                  rintro r v19 ⟨rfl, hx19⟩
                  clear f1_0 f1_1 f1_2 f1_3 f2_0 f2_1 f2_2 f2_3 f3_0 f3_1 f3_2 f3_3
                  have t1_19 := t1_18.below hx19 t1_18.lt
                  clear t1_18
                  have t2_19 := t2_18.below hx19 t2_18.lt
                  clear t2_18
                  have t3_19 := t3_18.below hx19 t3_18.lt
                  clear t3_18
                  have hb19 := hb18.trans (hx19.mono hb18.size)
                  clear hb18 hx19
                  obtain ⟨f1_0, f1_1, f1_2, f1_3⟩ := t1_19.facts
                  obtain ⟨f2_0, f2_1, f2_2, f2_3⟩ := t2_19.facts
                  obtain ⟨f3_0, f3_1, f3_2, f3_3⟩ := t3_19.facts
                  go_wp2_with fail
                  go_ret
                  exact ⟨rfl, hb19⟩
                · obtain rfl : Q = false := by rw [hb, decide_eq_true (rfl : (0 : Int) = 0), decide_eq_true c0, decide_eq_true c1, decide_eq_true c2, decide_eq_false c3]; rfl
                  clear hb b0
                  have c3b : decide (py ≤ max ay bz) = false := by simpa using c3
                  clear c3
                  have b0_0 := Two.at (w := w) (B := w.heap.size) (by simp) 23 (.int .i64 px) (.int .i64 py)
                  have b1_1 := Two.at (w := (w.alloc (.cells #[.int .i64 px, .int .i64 py] 23))) (B := w.heap.size + 1) (by simp) 23 (.int .i64 ax) (.int .i64 ay)
                  have b0_1 := b0_0.alloc (.cells #[.int .i64 ax, .int .i64 ay] 23)
                  have b2_2 := Two.at (w := ((w.alloc (.cells #[.int .i64 px, .int .i64 py] 23)).alloc (.cells #[.int .i64 ax, .int .i64 ay] 23))) (B := w.heap.size + 1 + 1) (by simp) 23 (.int .i64 bx) (.int .i64 bz)
                  have b0_2 := b0_1.alloc (.cells #[.int .i64 bx, .int .i64 bz] 23)
                  have b1_2 := b1_1.alloc (.cells #[.int .i64 bx, .int .i64 bz] 23)
                  have hb0 : Below w.heap.size w _ := ((((Below.refl w.heap.size w).alloc (by simp <;> omega) (.cells #[.int .i64 px, .int .i64 py] 23)).alloc (by simp <;> omega) (.cells #[.int .i64 ax, .int .i64 ay] 23)).alloc (by simp <;> omega) (.cells #[.int .i64 bx, .int .i64 bz] 23))
                  go_enter Try.func21, Try.ntmps21
                  obtain ⟨f1_0, f1_1, f1_2, f1_3⟩ := b0_2.facts
                  obtain ⟨f2_0, f2_1, f2_2, f2_3⟩ := b1_2.facts
                  obtain ⟨f3_0, f3_1, f3_2, f3_3⟩ := b2_2.facts
                  go_wp2_with fail
                  refine (HO1.out _).mono ?_
                  rintro r v20 ⟨rfl, hx20⟩
                  clear f1_0 f1_1 f1_2 f1_3 f2_0 f2_1 f2_2 f2_3 f3_0 f3_1 f3_2 f3_3
                  have t1_20 := b0_2.below hx20 b0_2.lt
                  clear b0_2
                  have t2_20 := b1_2.below hx20 b1_2.lt
                  clear b1_2
                  have t3_20 := b2_2.below hx20 b2_2.lt
                  clear b2_2
                  have hb20 := hb0.trans (hx20.mono hb0.size)
                  clear hb0 hx20
                  obtain ⟨f1_0, f1_1, f1_2, f1_3⟩ := t1_20.facts
                  obtain ⟨f2_0, f2_1, f2_2, f2_3⟩ := t2_20.facts
                  obtain ⟨f3_0, f3_1, f3_2, f3_3⟩ := t3_20.facts
                  go_wp2_with fail
                  refine (HO2.out _).mono ?_
                  rintro r v21 ⟨rfl, hx21⟩
                  clear f1_0 f1_1 f1_2 f1_3 f2_0 f2_1 f2_2 f2_3 f3_0 f3_1 f3_2 f3_3
                  have t1_21 := t1_20.below hx21 t1_20.lt
                  clear t1_20
                  have t2_21 := t2_20.below hx21 t2_20.lt
                  clear t2_20
                  have t3_21 := t3_20.below hx21 t3_20.lt
                  clear t3_20
                  have hb21 := hb20.trans (hx21.mono hb20.size)
                  clear hb20 hx21
                  obtain ⟨f1_0, f1_1, f1_2, f1_3⟩ := t1_21.facts
                  obtain ⟨f2_0, f2_1, f2_2, f2_3⟩ := t2_21.facts
                  obtain ⟨f3_0, f3_1, f3_2, f3_3⟩ := t3_21.facts
                  go_wp2_with fail
                  refine (HO3.out _).mono ?_
                  rintro r v22 ⟨rfl, hx22⟩
                  clear f1_0 f1_1 f1_2 f1_3 f2_0 f2_1 f2_2 f2_3 f3_0 f3_1 f3_2 f3_3
                  have t1_22 := t1_21.below hx22 t1_21.lt
                  clear t1_21
                  have t2_22 := t2_21.below hx22 t2_21.lt
                  clear t2_21
                  have t3_22 := t3_21.below hx22 t3_21.lt
                  clear t3_21
                  have hb22 := hb21.trans (hx22.mono hb21.size)
                  clear hb21 hx22
                  obtain ⟨f1_0, f1_1, f1_2, f1_3⟩ := t1_22.facts
                  obtain ⟨f2_0, f2_1, f2_2, f2_3⟩ := t2_22.facts
                  obtain ⟨f3_0, f3_1, f3_2, f3_3⟩ := t3_22.facts
                  go_wp2_with fail
                  refine (HA.out _).mono ?_
                  rintro r v23 ⟨rfl, hx23⟩
                  clear f1_0 f1_1 f1_2 f1_3 f2_0 f2_1 f2_2 f2_3 f3_0 f3_1 f3_2 f3_3
                  have t1_23 := t1_22.below hx23 t1_22.lt
                  clear t1_22
                  have t2_23 := t2_22.below hx23 t2_22.lt
                  clear t2_22
                  have t3_23 := t3_22.below hx23 t3_22.lt
                  clear t3_22
                  have hb23 := hb22.trans (hx23.mono hb22.size)
                  clear hb22 hx23
                  obtain ⟨f1_0, f1_1, f1_2, f1_3⟩ := t1_23.facts
                  obtain ⟨f2_0, f2_1, f2_2, f2_3⟩ := t2_23.facts
                  obtain ⟨f3_0, f3_1, f3_2, f3_3⟩ := t3_23.facts
                  go_wp2_with fail
                  go_ret
                  exact ⟨rfl, hb23⟩
              · obtain rfl : Q = false := by rw [hb, decide_eq_true (rfl : (0 : Int) = 0), decide_eq_true c0, decide_eq_true c1, decide_eq_false c2]; rfl
                clear hb b0
                have c2b : decide (min ay bz ≤ py) = false := by simpa using c2
                clear c2
                have b0_0 := Two.at (w := w) (B := w.heap.size) (by simp) 23 (.int .i64 px) (.int .i64 py)
                have b1_1 := Two.at (w := (w.alloc (.cells #[.int .i64 px, .int .i64 py] 23))) (B := w.heap.size + 1) (by simp) 23 (.int .i64 ax) (.int .i64 ay)
                have b0_1 := b0_0.alloc (.cells #[.int .i64 ax, .int .i64 ay] 23)
                have b2_2 := Two.at (w := ((w.alloc (.cells #[.int .i64 px, .int .i64 py] 23)).alloc (.cells #[.int .i64 ax, .int .i64 ay] 23))) (B := w.heap.size + 1 + 1) (by simp) 23 (.int .i64 bx) (.int .i64 bz)
                have b0_2 := b0_1.alloc (.cells #[.int .i64 bx, .int .i64 bz] 23)
                have b1_2 := b1_1.alloc (.cells #[.int .i64 bx, .int .i64 bz] 23)
                have hb0 : Below w.heap.size w _ := ((((Below.refl w.heap.size w).alloc (by simp <;> omega) (.cells #[.int .i64 px, .int .i64 py] 23)).alloc (by simp <;> omega) (.cells #[.int .i64 ax, .int .i64 ay] 23)).alloc (by simp <;> omega) (.cells #[.int .i64 bx, .int .i64 bz] 23))
                go_enter Try.func21, Try.ntmps21
                obtain ⟨f1_0, f1_1, f1_2, f1_3⟩ := b0_2.facts
                obtain ⟨f2_0, f2_1, f2_2, f2_3⟩ := b1_2.facts
                obtain ⟨f3_0, f3_1, f3_2, f3_3⟩ := b2_2.facts
                go_wp2_with fail
                refine (HO1.out _).mono ?_
                rintro r v24 ⟨rfl, hx24⟩
                clear f1_0 f1_1 f1_2 f1_3 f2_0 f2_1 f2_2 f2_3 f3_0 f3_1 f3_2 f3_3
                have t1_24 := b0_2.below hx24 b0_2.lt
                clear b0_2
                have t2_24 := b1_2.below hx24 b1_2.lt
                clear b1_2
                have t3_24 := b2_2.below hx24 b2_2.lt
                clear b2_2
                have hb24 := hb0.trans (hx24.mono hb0.size)
                clear hb0 hx24
                obtain ⟨f1_0, f1_1, f1_2, f1_3⟩ := t1_24.facts
                obtain ⟨f2_0, f2_1, f2_2, f2_3⟩ := t2_24.facts
                obtain ⟨f3_0, f3_1, f3_2, f3_3⟩ := t3_24.facts
                go_wp2_with fail
                refine (HO2.out _).mono ?_
                rintro r v25 ⟨rfl, hx25⟩
                clear f1_0 f1_1 f1_2 f1_3 f2_0 f2_1 f2_2 f2_3 f3_0 f3_1 f3_2 f3_3
                have t1_25 := t1_24.below hx25 t1_24.lt
                clear t1_24
                have t2_25 := t2_24.below hx25 t2_24.lt
                clear t2_24
                have t3_25 := t3_24.below hx25 t3_24.lt
                clear t3_24
                have hb25 := hb24.trans (hx25.mono hb24.size)
                clear hb24 hx25
                obtain ⟨f1_0, f1_1, f1_2, f1_3⟩ := t1_25.facts
                obtain ⟨f2_0, f2_1, f2_2, f2_3⟩ := t2_25.facts
                obtain ⟨f3_0, f3_1, f3_2, f3_3⟩ := t3_25.facts
                go_wp2_with fail
                refine (HO3.out _).mono ?_
                rintro r v26 ⟨rfl, hx26⟩
                clear f1_0 f1_1 f1_2 f1_3 f2_0 f2_1 f2_2 f2_3 f3_0 f3_1 f3_2 f3_3
                have t1_26 := t1_25.below hx26 t1_25.lt
                clear t1_25
                have t2_26 := t2_25.below hx26 t2_25.lt
                clear t2_25
                have t3_26 := t3_25.below hx26 t3_25.lt
                clear t3_25
                have hb26 := hb25.trans (hx26.mono hb25.size)
                clear hb25 hx26
                obtain ⟨f1_0, f1_1, f1_2, f1_3⟩ := t1_26.facts
                obtain ⟨f2_0, f2_1, f2_2, f2_3⟩ := t2_26.facts
                obtain ⟨f3_0, f3_1, f3_2, f3_3⟩ := t3_26.facts
                go_wp2_with fail
                refine (HA.out _).mono ?_
                rintro r v27 ⟨rfl, hx27⟩
                clear f1_0 f1_1 f1_2 f1_3 f2_0 f2_1 f2_2 f2_3 f3_0 f3_1 f3_2 f3_3
                have t1_27 := t1_26.below hx27 t1_26.lt
                clear t1_26
                have t2_27 := t2_26.below hx27 t2_26.lt
                clear t2_26
                have t3_27 := t3_26.below hx27 t3_26.lt
                clear t3_26
                have hb27 := hb26.trans (hx27.mono hb26.size)
                clear hb26 hx27
                obtain ⟨f1_0, f1_1, f1_2, f1_3⟩ := t1_27.facts
                obtain ⟨f2_0, f2_1, f2_2, f2_3⟩ := t2_27.facts
                obtain ⟨f3_0, f3_1, f3_2, f3_3⟩ := t3_27.facts
                go_wp2_with fail
                go_ret
                exact ⟨rfl, hb27⟩
            · obtain rfl : Q = false := by rw [hb, decide_eq_true (rfl : (0 : Int) = 0), decide_eq_true c0, decide_eq_false c1]; rfl
              clear hb b0
              have c1b : decide (px ≤ max ax bx) = false := by simpa using c1
              clear c1
              have b0_0 := Two.at (w := w) (B := w.heap.size) (by simp) 23 (.int .i64 px) (.int .i64 py)
              have b1_1 := Two.at (w := (w.alloc (.cells #[.int .i64 px, .int .i64 py] 23))) (B := w.heap.size + 1) (by simp) 23 (.int .i64 ax) (.int .i64 ay)
              have b0_1 := b0_0.alloc (.cells #[.int .i64 ax, .int .i64 ay] 23)
              have b2_2 := Two.at (w := ((w.alloc (.cells #[.int .i64 px, .int .i64 py] 23)).alloc (.cells #[.int .i64 ax, .int .i64 ay] 23))) (B := w.heap.size + 1 + 1) (by simp) 23 (.int .i64 bx) (.int .i64 bz)
              have b0_2 := b0_1.alloc (.cells #[.int .i64 bx, .int .i64 bz] 23)
              have b1_2 := b1_1.alloc (.cells #[.int .i64 bx, .int .i64 bz] 23)
              have hb0 : Below w.heap.size w _ := ((((Below.refl w.heap.size w).alloc (by simp <;> omega) (.cells #[.int .i64 px, .int .i64 py] 23)).alloc (by simp <;> omega) (.cells #[.int .i64 ax, .int .i64 ay] 23)).alloc (by simp <;> omega) (.cells #[.int .i64 bx, .int .i64 bz] 23))
              go_enter Try.func21, Try.ntmps21
              obtain ⟨f1_0, f1_1, f1_2, f1_3⟩ := b0_2.facts
              obtain ⟨f2_0, f2_1, f2_2, f2_3⟩ := b1_2.facts
              obtain ⟨f3_0, f3_1, f3_2, f3_3⟩ := b2_2.facts
              go_wp2_with fail
              refine (HO1.out _).mono ?_
              rintro r v28 ⟨rfl, hx28⟩
              clear f1_0 f1_1 f1_2 f1_3 f2_0 f2_1 f2_2 f2_3 f3_0 f3_1 f3_2 f3_3
              have t1_28 := b0_2.below hx28 b0_2.lt
              clear b0_2
              have t2_28 := b1_2.below hx28 b1_2.lt
              clear b1_2
              have t3_28 := b2_2.below hx28 b2_2.lt
              clear b2_2
              have hb28 := hb0.trans (hx28.mono hb0.size)
              clear hb0 hx28
              obtain ⟨f1_0, f1_1, f1_2, f1_3⟩ := t1_28.facts
              obtain ⟨f2_0, f2_1, f2_2, f2_3⟩ := t2_28.facts
              obtain ⟨f3_0, f3_1, f3_2, f3_3⟩ := t3_28.facts
              go_wp2_with fail
              refine (HO2.out _).mono ?_
              rintro r v29 ⟨rfl, hx29⟩
              clear f1_0 f1_1 f1_2 f1_3 f2_0 f2_1 f2_2 f2_3 f3_0 f3_1 f3_2 f3_3
              have t1_29 := t1_28.below hx29 t1_28.lt
              clear t1_28
              have t2_29 := t2_28.below hx29 t2_28.lt
              clear t2_28
              have t3_29 := t3_28.below hx29 t3_28.lt
              clear t3_28
              have hb29 := hb28.trans (hx29.mono hb28.size)
              clear hb28 hx29
              obtain ⟨f1_0, f1_1, f1_2, f1_3⟩ := t1_29.facts
              obtain ⟨f2_0, f2_1, f2_2, f2_3⟩ := t2_29.facts
              obtain ⟨f3_0, f3_1, f3_2, f3_3⟩ := t3_29.facts
              go_wp2_with fail
              refine (HO3.out _).mono ?_
              rintro r v30 ⟨rfl, hx30⟩
              clear f1_0 f1_1 f1_2 f1_3 f2_0 f2_1 f2_2 f2_3 f3_0 f3_1 f3_2 f3_3
              have t1_30 := t1_29.below hx30 t1_29.lt
              clear t1_29
              have t2_30 := t2_29.below hx30 t2_29.lt
              clear t2_29
              have t3_30 := t3_29.below hx30 t3_29.lt
              clear t3_29
              have hb30 := hb29.trans (hx30.mono hb29.size)
              clear hb29 hx30
              obtain ⟨f1_0, f1_1, f1_2, f1_3⟩ := t1_30.facts
              obtain ⟨f2_0, f2_1, f2_2, f2_3⟩ := t2_30.facts
              obtain ⟨f3_0, f3_1, f3_2, f3_3⟩ := t3_30.facts
              go_wp2_with fail
              refine (HA.out _).mono ?_
              rintro r v31 ⟨rfl, hx31⟩
              clear f1_0 f1_1 f1_2 f1_3 f2_0 f2_1 f2_2 f2_3 f3_0 f3_1 f3_2 f3_3
              have t1_31 := t1_30.below hx31 t1_30.lt
              clear t1_30
              have t2_31 := t2_30.below hx31 t2_30.lt
              clear t2_30
              have t3_31 := t3_30.below hx31 t3_30.lt
              clear t3_30
              have hb31 := hb30.trans (hx31.mono hb30.size)
              clear hb30 hx31
              obtain ⟨f1_0, f1_1, f1_2, f1_3⟩ := t1_31.facts
              obtain ⟨f2_0, f2_1, f2_2, f2_3⟩ := t2_31.facts
              obtain ⟨f3_0, f3_1, f3_2, f3_3⟩ := t3_31.facts
              go_wp2_with fail
              go_ret
              exact ⟨rfl, hb31⟩
          · obtain rfl : Q = false := by rw [hb, decide_eq_true (rfl : (0 : Int) = 0), decide_eq_false c0]; rfl
            clear hb b0
            have c0b : decide (min ax bx ≤ px) = false := by simpa using c0
            clear c0
            have b0_0 := Two.at (w := w) (B := w.heap.size) (by simp) 23 (.int .i64 px) (.int .i64 py)
            have b1_1 := Two.at (w := (w.alloc (.cells #[.int .i64 px, .int .i64 py] 23))) (B := w.heap.size + 1) (by simp) 23 (.int .i64 ax) (.int .i64 ay)
            have b0_1 := b0_0.alloc (.cells #[.int .i64 ax, .int .i64 ay] 23)
            have b2_2 := Two.at (w := ((w.alloc (.cells #[.int .i64 px, .int .i64 py] 23)).alloc (.cells #[.int .i64 ax, .int .i64 ay] 23))) (B := w.heap.size + 1 + 1) (by simp) 23 (.int .i64 bx) (.int .i64 bz)
            have b0_2 := b0_1.alloc (.cells #[.int .i64 bx, .int .i64 bz] 23)
            have b1_2 := b1_1.alloc (.cells #[.int .i64 bx, .int .i64 bz] 23)
            have hb0 : Below w.heap.size w _ := ((((Below.refl w.heap.size w).alloc (by simp <;> omega) (.cells #[.int .i64 px, .int .i64 py] 23)).alloc (by simp <;> omega) (.cells #[.int .i64 ax, .int .i64 ay] 23)).alloc (by simp <;> omega) (.cells #[.int .i64 bx, .int .i64 bz] 23))
            go_enter Try.func21, Try.ntmps21
            obtain ⟨f1_0, f1_1, f1_2, f1_3⟩ := b0_2.facts
            obtain ⟨f2_0, f2_1, f2_2, f2_3⟩ := b1_2.facts
            obtain ⟨f3_0, f3_1, f3_2, f3_3⟩ := b2_2.facts
            go_wp2_with fail
            refine (HO1.out _).mono ?_
            rintro r v32 ⟨rfl, hx32⟩
            clear f1_0 f1_1 f1_2 f1_3 f2_0 f2_1 f2_2 f2_3 f3_0 f3_1 f3_2 f3_3
            have t1_32 := b0_2.below hx32 b0_2.lt
            clear b0_2
            have t2_32 := b1_2.below hx32 b1_2.lt
            clear b1_2
            have t3_32 := b2_2.below hx32 b2_2.lt
            clear b2_2
            have hb32 := hb0.trans (hx32.mono hb0.size)
            clear hb0 hx32
            obtain ⟨f1_0, f1_1, f1_2, f1_3⟩ := t1_32.facts
            obtain ⟨f2_0, f2_1, f2_2, f2_3⟩ := t2_32.facts
            obtain ⟨f3_0, f3_1, f3_2, f3_3⟩ := t3_32.facts
            go_wp2_with fail
            refine (HO2.out _).mono ?_
            rintro r v33 ⟨rfl, hx33⟩
            clear f1_0 f1_1 f1_2 f1_3 f2_0 f2_1 f2_2 f2_3 f3_0 f3_1 f3_2 f3_3
            have t1_33 := t1_32.below hx33 t1_32.lt
            clear t1_32
            have t2_33 := t2_32.below hx33 t2_32.lt
            clear t2_32
            have t3_33 := t3_32.below hx33 t3_32.lt
            clear t3_32
            have hb33 := hb32.trans (hx33.mono hb32.size)
            clear hb32 hx33
            obtain ⟨f1_0, f1_1, f1_2, f1_3⟩ := t1_33.facts
            obtain ⟨f2_0, f2_1, f2_2, f2_3⟩ := t2_33.facts
            obtain ⟨f3_0, f3_1, f3_2, f3_3⟩ := t3_33.facts
            go_wp2_with fail
            refine (HO3.out _).mono ?_
            rintro r v34 ⟨rfl, hx34⟩
            clear f1_0 f1_1 f1_2 f1_3 f2_0 f2_1 f2_2 f2_3 f3_0 f3_1 f3_2 f3_3
            have t1_34 := t1_33.below hx34 t1_33.lt
            clear t1_33
            have t2_34 := t2_33.below hx34 t2_33.lt
            clear t2_33
            have t3_34 := t3_33.below hx34 t3_33.lt
            clear t3_33
            have hb34 := hb33.trans (hx34.mono hb33.size)
            clear hb33 hx34
            obtain ⟨f1_0, f1_1, f1_2, f1_3⟩ := t1_34.facts
            obtain ⟨f2_0, f2_1, f2_2, f2_3⟩ := t2_34.facts
            obtain ⟨f3_0, f3_1, f3_2, f3_3⟩ := t3_34.facts
            go_wp2_with fail
            refine (HA.out _).mono ?_
            rintro r v35 ⟨rfl, hx35⟩
            clear f1_0 f1_1 f1_2 f1_3 f2_0 f2_1 f2_2 f2_3 f3_0 f3_1 f3_2 f3_3
            have t1_35 := t1_34.below hx35 t1_34.lt
            clear t1_34
            have t2_35 := t2_34.below hx35 t2_34.lt
            clear t2_34
            have t3_35 := t3_34.below hx35 t3_34.lt
            clear t3_34
            have hb35 := hb34.trans (hx35.mono hb34.size)
            clear hb34 hx35
            obtain ⟨f1_0, f1_1, f1_2, f1_3⟩ := t1_35.facts
            obtain ⟨f2_0, f2_1, f2_2, f2_3⟩ := t2_35.facts
            obtain ⟨f3_0, f3_1, f3_2, f3_3⟩ := t3_35.facts
            go_wp2_with fail
            go_ret
            exact ⟨rfl, hb35⟩
        · have hq : (A != 0) = true := by simpa using hA
          obtain rfl : Q = false := by rw [hb, decide_eq_false hA]; rfl
          clear hb
          clear hA
          have b0_0 := Two.at (w := w) (B := w.heap.size) (by simp) 23 (.int .i64 px) (.int .i64 py)
          have b1_1 := Two.at (w := (w.alloc (.cells #[.int .i64 px, .int .i64 py] 23))) (B := w.heap.size + 1) (by simp) 23 (.int .i64 ax) (.int .i64 ay)
          have b0_1 := b0_0.alloc (.cells #[.int .i64 ax, .int .i64 ay] 23)
          have b2_2 := Two.at (w := ((w.alloc (.cells #[.int .i64 px, .int .i64 py] 23)).alloc (.cells #[.int .i64 ax, .int .i64 ay] 23))) (B := w.heap.size + 1 + 1) (by simp) 23 (.int .i64 bx) (.int .i64 bz)
          have b0_2 := b0_1.alloc (.cells #[.int .i64 bx, .int .i64 bz] 23)
          have b1_2 := b1_1.alloc (.cells #[.int .i64 bx, .int .i64 bz] 23)
          have hb0 : Below w.heap.size w _ := ((((Below.refl w.heap.size w).alloc (by simp <;> omega) (.cells #[.int .i64 px, .int .i64 py] 23)).alloc (by simp <;> omega) (.cells #[.int .i64 ax, .int .i64 ay] 23)).alloc (by simp <;> omega) (.cells #[.int .i64 bx, .int .i64 bz] 23))
          go_enter Try.func21, Try.ntmps21
          obtain ⟨f1_0, f1_1, f1_2, f1_3⟩ := b0_2.facts
          obtain ⟨f2_0, f2_1, f2_2, f2_3⟩ := b1_2.facts
          obtain ⟨f3_0, f3_1, f3_2, f3_3⟩ := b2_2.facts
          go_wp2_with fail
          refine (HO1.out _).mono ?_
          rintro r v36 ⟨rfl, hx36⟩
          clear f1_0 f1_1 f1_2 f1_3 f2_0 f2_1 f2_2 f2_3 f3_0 f3_1 f3_2 f3_3
          have t1_36 := b0_2.below hx36 b0_2.lt
          clear b0_2
          have t2_36 := b1_2.below hx36 b1_2.lt
          clear b1_2
          have t3_36 := b2_2.below hx36 b2_2.lt
          clear b2_2
          have hb36 := hb0.trans (hx36.mono hb0.size)
          clear hb0 hx36
          obtain ⟨f1_0, f1_1, f1_2, f1_3⟩ := t1_36.facts
          obtain ⟨f2_0, f2_1, f2_2, f2_3⟩ := t2_36.facts
          obtain ⟨f3_0, f3_1, f3_2, f3_3⟩ := t3_36.facts
          go_wp2_with fail
          refine (HO2.out _).mono ?_
          rintro r v37 ⟨rfl, hx37⟩
          clear f1_0 f1_1 f1_2 f1_3 f2_0 f2_1 f2_2 f2_3 f3_0 f3_1 f3_2 f3_3
          have t1_37 := t1_36.below hx37 t1_36.lt
          clear t1_36
          have t2_37 := t2_36.below hx37 t2_36.lt
          clear t2_36
          have t3_37 := t3_36.below hx37 t3_36.lt
          clear t3_36
          have hb37 := hb36.trans (hx37.mono hb36.size)
          clear hb36 hx37
          obtain ⟨f1_0, f1_1, f1_2, f1_3⟩ := t1_37.facts
          obtain ⟨f2_0, f2_1, f2_2, f2_3⟩ := t2_37.facts
          obtain ⟨f3_0, f3_1, f3_2, f3_3⟩ := t3_37.facts
          go_wp2_with fail
          refine (HO3.out _).mono ?_
          rintro r v38 ⟨rfl, hx38⟩
          clear f1_0 f1_1 f1_2 f1_3 f2_0 f2_1 f2_2 f2_3 f3_0 f3_1 f3_2 f3_3
          have t1_38 := t1_37.below hx38 t1_37.lt
          clear t1_37
          have t2_38 := t2_37.below hx38 t2_37.lt
          clear t2_37
          have t3_38 := t3_37.below hx38 t3_37.lt
          clear t3_37
          have hb38 := hb37.trans (hx38.mono hb37.size)
          clear hb37 hx38
          obtain ⟨f1_0, f1_1, f1_2, f1_3⟩ := t1_38.facts
          obtain ⟨f2_0, f2_1, f2_2, f2_3⟩ := t2_38.facts
          obtain ⟨f3_0, f3_1, f3_2, f3_3⟩ := t3_38.facts
          go_wp2_with fail
          refine (HA.out _).mono ?_
          rintro r v39 ⟨rfl, hx39⟩
          clear f1_0 f1_1 f1_2 f1_3 f2_0 f2_1 f2_2 f2_3 f3_0 f3_1 f3_2 f3_3
          have t1_39 := t1_38.below hx39 t1_38.lt
          clear t1_38
          have t2_39 := t2_38.below hx39 t2_38.lt
          clear t2_38
          have t3_39 := t3_38.below hx39 t3_38.lt
          clear t3_38
          have hb39 := hb38.trans (hx39.mono hb38.size)
          clear hb38 hx39
          obtain ⟨f1_0, f1_1, f1_2, f1_3⟩ := t1_39.facts
          obtain ⟨f2_0, f2_1, f2_2, f2_3⟩ := t2_39.facts
          obtain ⟨f3_0, f3_1, f3_2, f3_3⟩ := t3_39.facts
          go_wp2_with fail
          go_ret
          exact ⟨rfl, hb39⟩
      · have HO3 := Lib.hid (fun w => r_on_no bx bz h3 w)
        rw [show betB px py ax ay bx bz = false from decide_eq_false (fun k => h3 k.2.2.1)]
        have b0_0 := Two.at (w := w) (B := w.heap.size) (by simp) 23 (.int .i64 px) (.int .i64 py)
        have b1_1 := Two.at (w := (w.alloc (.cells #[.int .i64 px, .int .i64 py] 23))) (B := w.heap.size + 1) (by simp) 23 (.int .i64 ax) (.int .i64 ay)
        have b0_1 := b0_0.alloc (.cells #[.int .i64 ax, .int .i64 ay] 23)
        have b2_2 := Two.at (w := ((w.alloc (.cells #[.int .i64 px, .int .i64 py] 23)).alloc (.cells #[.int .i64 ax, .int .i64 ay] 23))) (B := w.heap.size + 1 + 1) (by simp) 23 (.int .i64 bx) (.int .i64 bz)
        have b0_2 := b0_1.alloc (.cells #[.int .i64 bx, .int .i64 bz] 23)
        have b1_2 := b1_1.alloc (.cells #[.int .i64 bx, .int .i64 bz] 23)
        have hb0 : Below w.heap.size w _ := ((((Below.refl w.heap.size w).alloc (by simp <;> omega) (.cells #[.int .i64 px, .int .i64 py] 23)).alloc (by simp <;> omega) (.cells #[.int .i64 ax, .int .i64 ay] 23)).alloc (by simp <;> omega) (.cells #[.int .i64 bx, .int .i64 bz] 23))
        go_enter Try.func21, Try.ntmps21
        obtain ⟨f1_0, f1_1, f1_2, f1_3⟩ := b0_2.facts
        obtain ⟨f2_0, f2_1, f2_2, f2_3⟩ := b1_2.facts
        obtain ⟨f3_0, f3_1, f3_2, f3_3⟩ := b2_2.facts
        go_wp2_with fail
        refine (HO1.out _).mono ?_
        rintro r v40 ⟨rfl, hx40⟩
        clear f1_0 f1_1 f1_2 f1_3 f2_0 f2_1 f2_2 f2_3 f3_0 f3_1 f3_2 f3_3
        have t1_40 := b0_2.below hx40 b0_2.lt
        clear b0_2
        have t2_40 := b1_2.below hx40 b1_2.lt
        clear b1_2
        have t3_40 := b2_2.below hx40 b2_2.lt
        clear b2_2
        have hb40 := hb0.trans (hx40.mono hb0.size)
        clear hb0 hx40
        obtain ⟨f1_0, f1_1, f1_2, f1_3⟩ := t1_40.facts
        obtain ⟨f2_0, f2_1, f2_2, f2_3⟩ := t2_40.facts
        obtain ⟨f3_0, f3_1, f3_2, f3_3⟩ := t3_40.facts
        go_wp2_with fail
        refine (HO2.out _).mono ?_
        rintro r v41 ⟨rfl, hx41⟩
        clear f1_0 f1_1 f1_2 f1_3 f2_0 f2_1 f2_2 f2_3 f3_0 f3_1 f3_2 f3_3
        have t1_41 := t1_40.below hx41 t1_40.lt
        clear t1_40
        have t2_41 := t2_40.below hx41 t2_40.lt
        clear t2_40
        have t3_41 := t3_40.below hx41 t3_40.lt
        clear t3_40
        have hb41 := hb40.trans (hx41.mono hb40.size)
        clear hb40 hx41
        obtain ⟨f1_0, f1_1, f1_2, f1_3⟩ := t1_41.facts
        obtain ⟨f2_0, f2_1, f2_2, f2_3⟩ := t2_41.facts
        obtain ⟨f3_0, f3_1, f3_2, f3_3⟩ := t3_41.facts
        go_wp2_with fail
        refine (HO3.out _).mono ?_
        rintro r v42 ⟨rfl, hx42⟩
        clear f1_0 f1_1 f1_2 f1_3 f2_0 f2_1 f2_2 f2_3 f3_0 f3_1 f3_2 f3_3
        have t1_42 := t1_41.below hx42 t1_41.lt
        clear t1_41
        have t2_42 := t2_41.below hx42 t2_41.lt
        clear t2_41
        have t3_42 := t3_41.below hx42 t3_41.lt
        clear t3_41
        have hb42 := hb41.trans (hx42.mono hb41.size)
        clear hb41 hx42
        go_wp2_with fail
        go_ret
        exact ⟨rfl, hb42⟩
    · have HO2 := Lib.hid (fun w => r_on_no ax ay h2 w)
      rw [show betB px py ax ay bx bz = false from decide_eq_false (fun k => h2 k.2.1)]
      have b0_0 := Two.at (w := w) (B := w.heap.size) (by simp) 23 (.int .i64 px) (.int .i64 py)
      have b1_1 := Two.at (w := (w.alloc (.cells #[.int .i64 px, .int .i64 py] 23))) (B := w.heap.size + 1) (by simp) 23 (.int .i64 ax) (.int .i64 ay)
      have b0_1 := b0_0.alloc (.cells #[.int .i64 ax, .int .i64 ay] 23)
      have b2_2 := Two.at (w := ((w.alloc (.cells #[.int .i64 px, .int .i64 py] 23)).alloc (.cells #[.int .i64 ax, .int .i64 ay] 23))) (B := w.heap.size + 1 + 1) (by simp) 23 (.int .i64 bx) (.int .i64 bz)
      have b0_2 := b0_1.alloc (.cells #[.int .i64 bx, .int .i64 bz] 23)
      have b1_2 := b1_1.alloc (.cells #[.int .i64 bx, .int .i64 bz] 23)
      have hb0 : Below w.heap.size w _ := ((((Below.refl w.heap.size w).alloc (by simp <;> omega) (.cells #[.int .i64 px, .int .i64 py] 23)).alloc (by simp <;> omega) (.cells #[.int .i64 ax, .int .i64 ay] 23)).alloc (by simp <;> omega) (.cells #[.int .i64 bx, .int .i64 bz] 23))
      go_enter Try.func21, Try.ntmps21
      obtain ⟨f1_0, f1_1, f1_2, f1_3⟩ := b0_2.facts
      obtain ⟨f2_0, f2_1, f2_2, f2_3⟩ := b1_2.facts
      obtain ⟨f3_0, f3_1, f3_2, f3_3⟩ := b2_2.facts
      go_wp2_with fail
      refine (HO1.out _).mono ?_
      rintro r v43 ⟨rfl, hx43⟩
      clear f1_0 f1_1 f1_2 f1_3 f2_0 f2_1 f2_2 f2_3 f3_0 f3_1 f3_2 f3_3
      have t1_43 := b0_2.below hx43 b0_2.lt
      clear b0_2
      have t2_43 := b1_2.below hx43 b1_2.lt
      clear b1_2
      have t3_43 := b2_2.below hx43 b2_2.lt
      clear b2_2
      have hb43 := hb0.trans (hx43.mono hb0.size)
      clear hb0 hx43
      obtain ⟨f1_0, f1_1, f1_2, f1_3⟩ := t1_43.facts
      obtain ⟨f2_0, f2_1, f2_2, f2_3⟩ := t2_43.facts
      obtain ⟨f3_0, f3_1, f3_2, f3_3⟩ := t3_43.facts
      go_wp2_with fail
      refine (HO2.out _).mono ?_
      rintro r v44 ⟨rfl, hx44⟩
      clear f1_0 f1_1 f1_2 f1_3 f2_0 f2_1 f2_2 f2_3 f3_0 f3_1 f3_2 f3_3
      have t1_44 := t1_43.below hx44 t1_43.lt
      clear t1_43
      have t2_44 := t2_43.below hx44 t2_43.lt
      clear t2_43
      have t3_44 := t3_43.below hx44 t3_43.lt
      clear t3_43
      have hb44 := hb43.trans (hx44.mono hb43.size)
      clear hb43 hx44
      go_wp2_with fail
      go_ret
      exact ⟨rfl, hb44⟩
  · have HO1 := Lib.hid (fun w => r_on_no px py h1 w)
    rw [show betB px py ax ay bx bz = false from decide_eq_false (fun k => h1 k.1)]
    have b0_0 := Two.at (w := w) (B := w.heap.size) (by simp) 23 (.int .i64 px) (.int .i64 py)
    have b1_1 := Two.at (w := (w.alloc (.cells #[.int .i64 px, .int .i64 py] 23))) (B := w.heap.size + 1) (by simp) 23 (.int .i64 ax) (.int .i64 ay)
    have b0_1 := b0_0.alloc (.cells #[.int .i64 ax, .int .i64 ay] 23)
    have b2_2 := Two.at (w := ((w.alloc (.cells #[.int .i64 px, .int .i64 py] 23)).alloc (.cells #[.int .i64 ax, .int .i64 ay] 23))) (B := w.heap.size + 1 + 1) (by simp) 23 (.int .i64 bx) (.int .i64 bz)
    have b0_2 := b0_1.alloc (.cells #[.int .i64 bx, .int .i64 bz] 23)
    have b1_2 := b1_1.alloc (.cells #[.int .i64 bx, .int .i64 bz] 23)
    have hb0 : Below w.heap.size w _ := ((((Below.refl w.heap.size w).alloc (by simp <;> omega) (.cells #[.int .i64 px, .int .i64 py] 23)).alloc (by simp <;> omega) (.cells #[.int .i64 ax, .int .i64 ay] 23)).alloc (by simp <;> omega) (.cells #[.int .i64 bx, .int .i64 bz] 23))
    go_enter Try.func21, Try.ntmps21
    obtain ⟨f1_0, f1_1, f1_2, f1_3⟩ := b0_2.facts
    obtain ⟨f2_0, f2_1, f2_2, f2_3⟩ := b1_2.facts
    obtain ⟨f3_0, f3_1, f3_2, f3_3⟩ := b2_2.facts
    go_wp2_with fail
    refine (HO1.out _).mono ?_
    rintro r v45 ⟨rfl, hx45⟩
    clear f1_0 f1_1 f1_2 f1_3 f2_0 f2_1 f2_2 f2_3 f3_0 f3_1 f3_2 f3_3
    have t1_45 := b0_2.below hx45 b0_2.lt
    clear b0_2
    have t2_45 := b1_2.below hx45 b1_2.lt
    clear b1_2
    have t3_45 := b2_2.below hx45 b2_2.lt
    clear b2_2
    have hb45 := hb0.trans (hx45.mono hb0.size)
    clear hb0 hx45
    go_wp2_with fail
    go_ret
    exact ⟨rfl, hb45⟩
end Go.Proofs.Ytbkeennjoepmmaa.Ge
