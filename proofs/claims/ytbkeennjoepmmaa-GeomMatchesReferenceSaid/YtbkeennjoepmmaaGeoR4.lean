/- Layer 7's reference: Cross. -/
import Derived.Test.YtbkeennjoepmmaaGeoR2
import Derived.Test.YtbkeennjoepmmaaRegInv
namespace Go.Proofs.Ytbkeennjoepmmaa.Ge
set_option linter.unusedVariables false
set_option linter.unusedSimpArgs false
open Go.RowKit
open Go.Proofs.Ytbkeennjoepmmaa.Fr (Two)

set_option maxRecDepth 100000 in
set_option maxHeartbeats 4000000 in
theorem r_cross_any (ax ay bx bz cx cy dx dy : Int) (w : World) :
    Calls Try.prog 23 #[.agg #[.int .i64 ax, .int .i64 ay], .agg #[.int .i64 bx, .int .i64 bz], .agg #[.int .i64 cx, .int .i64 cy], .agg #[.int .i64 dx, .int .i64 dy]] w fun e w' => e = .returned (.int .i64 (crossV ax ay bx bz cx cy dx dy)) ∧ Below w.heap.size w w' := by
  by_cases h1 : onP ax ay
  · have HO1 := Lib.hid (fun w => r_on_yes ax ay h1 w)
    by_cases h2 : onP bx bz
    · have HO2 := Lib.hid (fun w => r_on_yes bx bz h2 w)
      by_cases h3 : onP cx cy
      · have HO3 := Lib.hid (fun w => r_on_yes cx cy h3 w)
        by_cases h4 : onP dx dy
        · have HO4 := Lib.hid (fun w => r_on_yes dx dy h4 w)
          have e := cross_want h1 h2 h3 h4
          have HB1 := Lib.hid (fun w => r_between_any ax ay cx cy dx dy w)
          have HB2 := Lib.hid (fun w => r_between_any bx bz cx cy dx dy w)
          have HB3 := Lib.hid (fun w => r_between_any cx cy ax ay bx bz w)
          have HB4 := Lib.hid (fun w => r_between_any dx dy ax ay bx bz w)
          have HT1 := Lib.hid (fun w => r_turn_any ax ay bx bz cx cy w)
          have HT2 := Lib.hid (fun w => r_turn_any ax ay bx bz dx dy w)
          have HT3 := Lib.hid (fun w => r_turn_any cx cy dx dy ax ay w)
          have HT4 := Lib.hid (fun w => r_turn_any cx cy dx dy bx bz w)
          have n1 : -1 ≤ turnV ax ay bx bz cx cy ∧ turnV ax ay bx bz cx cy ≤ 1 := by rw [turn_on h1 h2 h3]; exact sgn_bd _
          have n2 : -1 ≤ turnV ax ay bx bz dx dy ∧ turnV ax ay bx bz dx dy ≤ 1 := by rw [turn_on h1 h2 h4]; exact sgn_bd _
          have n3 : -1 ≤ turnV cx cy dx dy ax ay ∧ turnV cx cy dx dy ax ay ≤ 1 := by rw [turn_on h3 h4 h1]; exact sgn_bd _
          have n4 : -1 ≤ turnV cx cy dx dy bx bz ∧ turnV cx cy dx dy bx bz ≤ 1 := by rw [turn_on h3 h4 h2]; exact sgn_bd _
          clear h1 h2 h3 h4
          generalize turnV ax ay bx bz cx cy = N1 at *
          generalize turnV ax ay bx bz dx dy = N2 at *
          generalize turnV cx cy dx dy ax ay = N3 at *
          generalize turnV cx cy dx dy bx bz = N4 at *
          generalize betB ax ay cx cy dx dy = T1 at *
          generalize betB bx bz cx cy dx dy = T2 at *
          generalize betB cx cy ax ay bx bz = T3 at *
          generalize betB dx dy ax ay bx bz = T4 at *
          generalize crossV ax ay bx bz cx cy dx dy = C at *
          have p1 := mul_bd (m := 1) (k := 1) n1.1 n1.2 n2.1 n2.2 (by decide) (by decide)
          have p2 := mul_bd (m := 1) (k := 1) n3.1 n3.2 n4.1 n4.2 (by decide) (by decide)
          have w1 : IntKind.i64.wrap (N1 * N2) = N1 * N2 := by rw [IntKind.wrap_i64]; omega
          have w2 : IntKind.i64.wrap (N3 * N4) = N3 * N4 := by rw [IntKind.wrap_i64]; omega
          clear n1 n2 n3 n4 p1 p2
          cases T1 with
          | true =>
            obtain rfl : C = 1 := by rw [e]; simp
            clear e
            have b0_0 := Two.at (w := w) (B := w.heap.size) (by simp) 23 (.int .i64 ax) (.int .i64 ay)
            have b1_1 := Two.at (w := (w.alloc (.cells #[.int .i64 ax, .int .i64 ay] 23))) (B := w.heap.size + 1) (by simp) 23 (.int .i64 bx) (.int .i64 bz)
            have b0_1 := b0_0.alloc (.cells #[.int .i64 bx, .int .i64 bz] 23)
            have b2_2 := Two.at (w := ((w.alloc (.cells #[.int .i64 ax, .int .i64 ay] 23)).alloc (.cells #[.int .i64 bx, .int .i64 bz] 23))) (B := w.heap.size + 1 + 1) (by simp) 23 (.int .i64 cx) (.int .i64 cy)
            have b0_2 := b0_1.alloc (.cells #[.int .i64 cx, .int .i64 cy] 23)
            have b1_2 := b1_1.alloc (.cells #[.int .i64 cx, .int .i64 cy] 23)
            have b3_3 := Two.at (w := (((w.alloc (.cells #[.int .i64 ax, .int .i64 ay] 23)).alloc (.cells #[.int .i64 bx, .int .i64 bz] 23)).alloc (.cells #[.int .i64 cx, .int .i64 cy] 23))) (B := w.heap.size + 1 + 1 + 1) (by simp) 23 (.int .i64 dx) (.int .i64 dy)
            have b0_3 := b0_2.alloc (.cells #[.int .i64 dx, .int .i64 dy] 23)
            have b1_3 := b1_2.alloc (.cells #[.int .i64 dx, .int .i64 dy] 23)
            have b2_3 := b2_2.alloc (.cells #[.int .i64 dx, .int .i64 dy] 23)
            have hb0 : Below w.heap.size w _ := (((((Below.refl w.heap.size w).alloc (by simp <;> omega) (.cells #[.int .i64 ax, .int .i64 ay] 23)).alloc (by simp <;> omega) (.cells #[.int .i64 bx, .int .i64 bz] 23)).alloc (by simp <;> omega) (.cells #[.int .i64 cx, .int .i64 cy] 23)).alloc (by simp <;> omega) (.cells #[.int .i64 dx, .int .i64 dy] 23))
            go_enter Try.func23, Try.ntmps23
            obtain ⟨f1_0, f1_1, f1_2, f1_3⟩ := b0_3.facts
            obtain ⟨f2_0, f2_1, f2_2, f2_3⟩ := b1_3.facts
            obtain ⟨f3_0, f3_1, f3_2, f3_3⟩ := b2_3.facts
            obtain ⟨f4_0, f4_1, f4_2, f4_3⟩ := b3_3.facts
            go_wp2_with fail
            refine (HO1.out _).mono ?_
            rintro r v46 ⟨rfl, hx46⟩
            clear f1_0 f1_1 f1_2 f1_3 f2_0 f2_1 f2_2 f2_3 f3_0 f3_1 f3_2 f3_3 f4_0 f4_1 f4_2 f4_3
            have t1_46 := b0_3.below hx46 b0_3.lt
            clear b0_3
            have t2_46 := b1_3.below hx46 b1_3.lt
            clear b1_3
            have t3_46 := b2_3.below hx46 b2_3.lt
            clear b2_3
            have t4_46 := b3_3.below hx46 b3_3.lt
            clear b3_3
            have hb46 := hb0.trans (hx46.mono hb0.size)
            clear hb0 hx46
            obtain ⟨f1_0, f1_1, f1_2, f1_3⟩ := t1_46.facts
            obtain ⟨f2_0, f2_1, f2_2, f2_3⟩ := t2_46.facts
            obtain ⟨f3_0, f3_1, f3_2, f3_3⟩ := t3_46.facts
            obtain ⟨f4_0, f4_1, f4_2, f4_3⟩ := t4_46.facts
            go_wp2_with fail
            refine (HO2.out _).mono ?_
            rintro r v47 ⟨rfl, hx47⟩
            clear f1_0 f1_1 f1_2 f1_3 f2_0 f2_1 f2_2 f2_3 f3_0 f3_1 f3_2 f3_3 f4_0 f4_1 f4_2 f4_3
            have t1_47 := t1_46.below hx47 t1_46.lt
            clear t1_46
            have t2_47 := t2_46.below hx47 t2_46.lt
            clear t2_46
            have t3_47 := t3_46.below hx47 t3_46.lt
            clear t3_46
            have t4_47 := t4_46.below hx47 t4_46.lt
            clear t4_46
            have hb47 := hb46.trans (hx47.mono hb46.size)
            clear hb46 hx47
            obtain ⟨f1_0, f1_1, f1_2, f1_3⟩ := t1_47.facts
            obtain ⟨f2_0, f2_1, f2_2, f2_3⟩ := t2_47.facts
            obtain ⟨f3_0, f3_1, f3_2, f3_3⟩ := t3_47.facts
            obtain ⟨f4_0, f4_1, f4_2, f4_3⟩ := t4_47.facts
            go_wp2_with fail
            refine (HO3.out _).mono ?_
            rintro r v48 ⟨rfl, hx48⟩
            clear f1_0 f1_1 f1_2 f1_3 f2_0 f2_1 f2_2 f2_3 f3_0 f3_1 f3_2 f3_3 f4_0 f4_1 f4_2 f4_3
            have t1_48 := t1_47.below hx48 t1_47.lt
            clear t1_47
            have t2_48 := t2_47.below hx48 t2_47.lt
            clear t2_47
            have t3_48 := t3_47.below hx48 t3_47.lt
            clear t3_47
            have t4_48 := t4_47.below hx48 t4_47.lt
            clear t4_47
            have hb48 := hb47.trans (hx48.mono hb47.size)
            clear hb47 hx48
            obtain ⟨f1_0, f1_1, f1_2, f1_3⟩ := t1_48.facts
            obtain ⟨f2_0, f2_1, f2_2, f2_3⟩ := t2_48.facts
            obtain ⟨f3_0, f3_1, f3_2, f3_3⟩ := t3_48.facts
            obtain ⟨f4_0, f4_1, f4_2, f4_3⟩ := t4_48.facts
            go_wp2_with fail
            refine (HO4.out _).mono ?_
            rintro r v49 ⟨rfl, hx49⟩
            clear f1_0 f1_1 f1_2 f1_3 f2_0 f2_1 f2_2 f2_3 f3_0 f3_1 f3_2 f3_3 f4_0 f4_1 f4_2 f4_3
            have t1_49 := t1_48.below hx49 t1_48.lt
            clear t1_48
            have t2_49 := t2_48.below hx49 t2_48.lt
            clear t2_48
            have t3_49 := t3_48.below hx49 t3_48.lt
            clear t3_48
            have t4_49 := t4_48.below hx49 t4_48.lt
            clear t4_48
            have hb49 := hb48.trans (hx49.mono hb48.size)
            clear hb48 hx49
            obtain ⟨f1_0, f1_1, f1_2, f1_3⟩ := t1_49.facts
            obtain ⟨f2_0, f2_1, f2_2, f2_3⟩ := t2_49.facts
            obtain ⟨f3_0, f3_1, f3_2, f3_3⟩ := t3_49.facts
            obtain ⟨f4_0, f4_1, f4_2, f4_3⟩ := t4_49.facts
            go_wp2_with fail
            refine (HB1.out _).mono ?_
            rintro r v50 ⟨rfl, hx50⟩
            clear f1_0 f1_1 f1_2 f1_3 f2_0 f2_1 f2_2 f2_3 f3_0 f3_1 f3_2 f3_3 f4_0 f4_1 f4_2 f4_3
            have t1_50 := t1_49.below hx50 t1_49.lt
            clear t1_49
            have t2_50 := t2_49.below hx50 t2_49.lt
            clear t2_49
            have t3_50 := t3_49.below hx50 t3_49.lt
            clear t3_49
            have t4_50 := t4_49.below hx50 t4_49.lt
            clear t4_49
            have hb50 := hb49.trans (hx50.mono hb49.size)
            clear hb49 hx50
            obtain ⟨f1_0, f1_1, f1_2, f1_3⟩ := t1_50.facts
            obtain ⟨f2_0, f2_1, f2_2, f2_3⟩ := t2_50.facts
            obtain ⟨f3_0, f3_1, f3_2, f3_3⟩ := t3_50.facts
            obtain ⟨f4_0, f4_1, f4_2, f4_3⟩ := t4_50.facts
            go_wp2_with fail
            go_ret
            exact ⟨rfl, hb50⟩
          | false =>
            cases T2 with
            | true =>
              obtain rfl : C = 1 := by rw [e]; simp
              clear e
              have b0_0 := Two.at (w := w) (B := w.heap.size) (by simp) 23 (.int .i64 ax) (.int .i64 ay)
              have b1_1 := Two.at (w := (w.alloc (.cells #[.int .i64 ax, .int .i64 ay] 23))) (B := w.heap.size + 1) (by simp) 23 (.int .i64 bx) (.int .i64 bz)
              have b0_1 := b0_0.alloc (.cells #[.int .i64 bx, .int .i64 bz] 23)
              have b2_2 := Two.at (w := ((w.alloc (.cells #[.int .i64 ax, .int .i64 ay] 23)).alloc (.cells #[.int .i64 bx, .int .i64 bz] 23))) (B := w.heap.size + 1 + 1) (by simp) 23 (.int .i64 cx) (.int .i64 cy)
              have b0_2 := b0_1.alloc (.cells #[.int .i64 cx, .int .i64 cy] 23)
              have b1_2 := b1_1.alloc (.cells #[.int .i64 cx, .int .i64 cy] 23)
              have b3_3 := Two.at (w := (((w.alloc (.cells #[.int .i64 ax, .int .i64 ay] 23)).alloc (.cells #[.int .i64 bx, .int .i64 bz] 23)).alloc (.cells #[.int .i64 cx, .int .i64 cy] 23))) (B := w.heap.size + 1 + 1 + 1) (by simp) 23 (.int .i64 dx) (.int .i64 dy)
              have b0_3 := b0_2.alloc (.cells #[.int .i64 dx, .int .i64 dy] 23)
              have b1_3 := b1_2.alloc (.cells #[.int .i64 dx, .int .i64 dy] 23)
              have b2_3 := b2_2.alloc (.cells #[.int .i64 dx, .int .i64 dy] 23)
              have hb0 : Below w.heap.size w _ := (((((Below.refl w.heap.size w).alloc (by simp <;> omega) (.cells #[.int .i64 ax, .int .i64 ay] 23)).alloc (by simp <;> omega) (.cells #[.int .i64 bx, .int .i64 bz] 23)).alloc (by simp <;> omega) (.cells #[.int .i64 cx, .int .i64 cy] 23)).alloc (by simp <;> omega) (.cells #[.int .i64 dx, .int .i64 dy] 23))
              go_enter Try.func23, Try.ntmps23
              obtain ⟨f1_0, f1_1, f1_2, f1_3⟩ := b0_3.facts
              obtain ⟨f2_0, f2_1, f2_2, f2_3⟩ := b1_3.facts
              obtain ⟨f3_0, f3_1, f3_2, f3_3⟩ := b2_3.facts
              obtain ⟨f4_0, f4_1, f4_2, f4_3⟩ := b3_3.facts
              go_wp2_with fail
              refine (HO1.out _).mono ?_
              rintro r v51 ⟨rfl, hx51⟩
              clear f1_0 f1_1 f1_2 f1_3 f2_0 f2_1 f2_2 f2_3 f3_0 f3_1 f3_2 f3_3 f4_0 f4_1 f4_2 f4_3
              have t1_51 := b0_3.below hx51 b0_3.lt
              clear b0_3
              have t2_51 := b1_3.below hx51 b1_3.lt
              clear b1_3
              have t3_51 := b2_3.below hx51 b2_3.lt
              clear b2_3
              have t4_51 := b3_3.below hx51 b3_3.lt
              clear b3_3
              have hb51 := hb0.trans (hx51.mono hb0.size)
              clear hb0 hx51
              obtain ⟨f1_0, f1_1, f1_2, f1_3⟩ := t1_51.facts
              obtain ⟨f2_0, f2_1, f2_2, f2_3⟩ := t2_51.facts
              obtain ⟨f3_0, f3_1, f3_2, f3_3⟩ := t3_51.facts
              obtain ⟨f4_0, f4_1, f4_2, f4_3⟩ := t4_51.facts
              go_wp2_with fail
              refine (HO2.out _).mono ?_
              rintro r v52 ⟨rfl, hx52⟩
              clear f1_0 f1_1 f1_2 f1_3 f2_0 f2_1 f2_2 f2_3 f3_0 f3_1 f3_2 f3_3 f4_0 f4_1 f4_2 f4_3
              have t1_52 := t1_51.below hx52 t1_51.lt
              clear t1_51
              have t2_52 := t2_51.below hx52 t2_51.lt
              clear t2_51
              have t3_52 := t3_51.below hx52 t3_51.lt
              clear t3_51
              have t4_52 := t4_51.below hx52 t4_51.lt
              clear t4_51
              have hb52 := hb51.trans (hx52.mono hb51.size)
              clear hb51 hx52
              obtain ⟨f1_0, f1_1, f1_2, f1_3⟩ := t1_52.facts
              obtain ⟨f2_0, f2_1, f2_2, f2_3⟩ := t2_52.facts
              obtain ⟨f3_0, f3_1, f3_2, f3_3⟩ := t3_52.facts
              obtain ⟨f4_0, f4_1, f4_2, f4_3⟩ := t4_52.facts
              go_wp2_with fail
              refine (HO3.out _).mono ?_
              rintro r v53 ⟨rfl, hx53⟩
              clear f1_0 f1_1 f1_2 f1_3 f2_0 f2_1 f2_2 f2_3 f3_0 f3_1 f3_2 f3_3 f4_0 f4_1 f4_2 f4_3
              have t1_53 := t1_52.below hx53 t1_52.lt
              clear t1_52
              have t2_53 := t2_52.below hx53 t2_52.lt
              clear t2_52
              have t3_53 := t3_52.below hx53 t3_52.lt
              clear t3_52
              have t4_53 := t4_52.below hx53 t4_52.lt
              clear t4_52
              have hb53 := hb52.trans (hx53.mono hb52.size)
              clear hb52 hx53
              obtain ⟨f1_0, f1_1, f1_2, f1_3⟩ := t1_53.facts
              obtain ⟨f2_0, f2_1, f2_2, f2_3⟩ := t2_53.facts
              obtain ⟨f3_0, f3_1, f3_2, f3_3⟩ := t3_53.facts
              obtain ⟨f4_0, f4_1, f4_2, f4_3⟩ := t4_53.facts
              go_wp2_with fail
              refine (HO4.out _).mono ?_
              rintro r v54 ⟨rfl, hx54⟩
              clear f1_0 f1_1 f1_2 f1_3 f2_0 f2_1 f2_2 f2_3 f3_0 f3_1 f3_2 f3_3 f4_0 f4_1 f4_2 f4_3
              have t1_54 := t1_53.below hx54 t1_53.lt
              clear t1_53
              have t2_54 := t2_53.below hx54 t2_53.lt
              clear t2_53
              have t3_54 := t3_53.below hx54 t3_53.lt
              clear t3_53
              have t4_54 := t4_53.below hx54 t4_53.lt
              clear t4_53
              have hb54 := hb53.trans (hx54.mono hb53.size)
              clear hb53 hx54
              obtain ⟨f1_0, f1_1, f1_2, f1_3⟩ := t1_54.facts
              obtain ⟨f2_0, f2_1, f2_2, f2_3⟩ := t2_54.facts
              obtain ⟨f3_0, f3_1, f3_2, f3_3⟩ := t3_54.facts
              obtain ⟨f4_0, f4_1, f4_2, f4_3⟩ := t4_54.facts
              go_wp2_with fail
              refine (HB1.out _).mono ?_
              rintro r v55 ⟨rfl, hx55⟩
              clear f1_0 f1_1 f1_2 f1_3 f2_0 f2_1 f2_2 f2_3 f3_0 f3_1 f3_2 f3_3 f4_0 f4_1 f4_2 f4_3
              have t1_55 := t1_54.below hx55 t1_54.lt
              clear t1_54
              have t2_55 := t2_54.below hx55 t2_54.lt
              clear t2_54
              have t3_55 := t3_54.below hx55 t3_54.lt
              clear t3_54
              have t4_55 := t4_54.below hx55 t4_54.lt
              clear t4_54
              have hb55 := hb54.trans (hx55.mono hb54.size)
              clear hb54 hx55
              obtain ⟨f1_0, f1_1, f1_2, f1_3⟩ := t1_55.facts
              obtain ⟨f2_0, f2_1, f2_2, f2_3⟩ := t2_55.facts
              obtain ⟨f3_0, f3_1, f3_2, f3_3⟩ := t3_55.facts
              obtain ⟨f4_0, f4_1, f4_2, f4_3⟩ := t4_55.facts
              go_wp2_with fail
              refine (HB2.out _).mono ?_
              rintro r v56 ⟨rfl, hx56⟩
              clear f1_0 f1_1 f1_2 f1_3 f2_0 f2_1 f2_2 f2_3 f3_0 f3_1 f3_2 f3_3 f4_0 f4_1 f4_2 f4_3
              have t1_56 := t1_55.below hx56 t1_55.lt
              clear t1_55
              have t2_56 := t2_55.below hx56 t2_55.lt
              clear t2_55
              have t3_56 := t3_55.below hx56 t3_55.lt
              clear t3_55
              have t4_56 := t4_55.below hx56 t4_55.lt
              clear t4_55
              have hb56 := hb55.trans (hx56.mono hb55.size)
              clear hb55 hx56
              obtain ⟨f1_0, f1_1, f1_2, f1_3⟩ := t1_56.facts
              obtain ⟨f2_0, f2_1, f2_2, f2_3⟩ := t2_56.facts
              obtain ⟨f3_0, f3_1, f3_2, f3_3⟩ := t3_56.facts
              obtain ⟨f4_0, f4_1, f4_2, f4_3⟩ := t4_56.facts
              go_wp2_with fail
              go_ret
              exact ⟨rfl, hb56⟩
            | false =>
              cases T3 with
              | true =>
                obtain rfl : C = 1 := by rw [e]; simp
                clear e
                have b0_0 := Two.at (w := w) (B := w.heap.size) (by simp) 23 (.int .i64 ax) (.int .i64 ay)
                have b1_1 := Two.at (w := (w.alloc (.cells #[.int .i64 ax, .int .i64 ay] 23))) (B := w.heap.size + 1) (by simp) 23 (.int .i64 bx) (.int .i64 bz)
                have b0_1 := b0_0.alloc (.cells #[.int .i64 bx, .int .i64 bz] 23)
                have b2_2 := Two.at (w := ((w.alloc (.cells #[.int .i64 ax, .int .i64 ay] 23)).alloc (.cells #[.int .i64 bx, .int .i64 bz] 23))) (B := w.heap.size + 1 + 1) (by simp) 23 (.int .i64 cx) (.int .i64 cy)
                have b0_2 := b0_1.alloc (.cells #[.int .i64 cx, .int .i64 cy] 23)
                have b1_2 := b1_1.alloc (.cells #[.int .i64 cx, .int .i64 cy] 23)
                have b3_3 := Two.at (w := (((w.alloc (.cells #[.int .i64 ax, .int .i64 ay] 23)).alloc (.cells #[.int .i64 bx, .int .i64 bz] 23)).alloc (.cells #[.int .i64 cx, .int .i64 cy] 23))) (B := w.heap.size + 1 + 1 + 1) (by simp) 23 (.int .i64 dx) (.int .i64 dy)
                have b0_3 := b0_2.alloc (.cells #[.int .i64 dx, .int .i64 dy] 23)
                have b1_3 := b1_2.alloc (.cells #[.int .i64 dx, .int .i64 dy] 23)
                have b2_3 := b2_2.alloc (.cells #[.int .i64 dx, .int .i64 dy] 23)
                have hb0 : Below w.heap.size w _ := (((((Below.refl w.heap.size w).alloc (by simp <;> omega) (.cells #[.int .i64 ax, .int .i64 ay] 23)).alloc (by simp <;> omega) (.cells #[.int .i64 bx, .int .i64 bz] 23)).alloc (by simp <;> omega) (.cells #[.int .i64 cx, .int .i64 cy] 23)).alloc (by simp <;> omega) (.cells #[.int .i64 dx, .int .i64 dy] 23))
                go_enter Try.func23, Try.ntmps23
                obtain ⟨f1_0, f1_1, f1_2, f1_3⟩ := b0_3.facts
                obtain ⟨f2_0, f2_1, f2_2, f2_3⟩ := b1_3.facts
                obtain ⟨f3_0, f3_1, f3_2, f3_3⟩ := b2_3.facts
                obtain ⟨f4_0, f4_1, f4_2, f4_3⟩ := b3_3.facts
                go_wp2_with fail
                refine (HO1.out _).mono ?_
                rintro r v57 ⟨rfl, hx57⟩
                clear f1_0 f1_1 f1_2 f1_3 f2_0 f2_1 f2_2 f2_3 f3_0 f3_1 f3_2 f3_3 f4_0 f4_1 f4_2 f4_3
                have t1_57 := b0_3.below hx57 b0_3.lt
                clear b0_3
                have t2_57 := b1_3.below hx57 b1_3.lt
                clear b1_3
                have t3_57 := b2_3.below hx57 b2_3.lt
                clear b2_3
                have t4_57 := b3_3.below hx57 b3_3.lt
                clear b3_3
                have hb57 := hb0.trans (hx57.mono hb0.size)
                clear hb0 hx57
                obtain ⟨f1_0, f1_1, f1_2, f1_3⟩ := t1_57.facts
                obtain ⟨f2_0, f2_1, f2_2, f2_3⟩ := t2_57.facts
                obtain ⟨f3_0, f3_1, f3_2, f3_3⟩ := t3_57.facts
                obtain ⟨f4_0, f4_1, f4_2, f4_3⟩ := t4_57.facts
                go_wp2_with fail
                refine (HO2.out _).mono ?_
                rintro r v58 ⟨rfl, hx58⟩
                clear f1_0 f1_1 f1_2 f1_3 f2_0 f2_1 f2_2 f2_3 f3_0 f3_1 f3_2 f3_3 f4_0 f4_1 f4_2 f4_3
                have t1_58 := t1_57.below hx58 t1_57.lt
                clear t1_57
                have t2_58 := t2_57.below hx58 t2_57.lt
                clear t2_57
                have t3_58 := t3_57.below hx58 t3_57.lt
                clear t3_57
                have t4_58 := t4_57.below hx58 t4_57.lt
                clear t4_57
                have hb58 := hb57.trans (hx58.mono hb57.size)
                clear hb57 hx58
                obtain ⟨f1_0, f1_1, f1_2, f1_3⟩ := t1_58.facts
                obtain ⟨f2_0, f2_1, f2_2, f2_3⟩ := t2_58.facts
                obtain ⟨f3_0, f3_1, f3_2, f3_3⟩ := t3_58.facts
                obtain ⟨f4_0, f4_1, f4_2, f4_3⟩ := t4_58.facts
                go_wp2_with fail
                refine (HO3.out _).mono ?_
                rintro r v59 ⟨rfl, hx59⟩
                clear f1_0 f1_1 f1_2 f1_3 f2_0 f2_1 f2_2 f2_3 f3_0 f3_1 f3_2 f3_3 f4_0 f4_1 f4_2 f4_3
                have t1_59 := t1_58.below hx59 t1_58.lt
                clear t1_58
                have t2_59 := t2_58.below hx59 t2_58.lt
                clear t2_58
                have t3_59 := t3_58.below hx59 t3_58.lt
                clear t3_58
                have t4_59 := t4_58.below hx59 t4_58.lt
                clear t4_58
                have hb59 := hb58.trans (hx59.mono hb58.size)
                clear hb58 hx59
                obtain ⟨f1_0, f1_1, f1_2, f1_3⟩ := t1_59.facts
                obtain ⟨f2_0, f2_1, f2_2, f2_3⟩ := t2_59.facts
                obtain ⟨f3_0, f3_1, f3_2, f3_3⟩ := t3_59.facts
                obtain ⟨f4_0, f4_1, f4_2, f4_3⟩ := t4_59.facts
                go_wp2_with fail
                refine (HO4.out _).mono ?_
                rintro r v60 ⟨rfl, hx60⟩
                clear f1_0 f1_1 f1_2 f1_3 f2_0 f2_1 f2_2 f2_3 f3_0 f3_1 f3_2 f3_3 f4_0 f4_1 f4_2 f4_3
                have t1_60 := t1_59.below hx60 t1_59.lt
                clear t1_59
                have t2_60 := t2_59.below hx60 t2_59.lt
                clear t2_59
                have t3_60 := t3_59.below hx60 t3_59.lt
                clear t3_59
                have t4_60 := t4_59.below hx60 t4_59.lt
                clear t4_59
                have hb60 := hb59.trans (hx60.mono hb59.size)
                clear hb59 hx60
                obtain ⟨f1_0, f1_1, f1_2, f1_3⟩ := t1_60.facts
                obtain ⟨f2_0, f2_1, f2_2, f2_3⟩ := t2_60.facts
                obtain ⟨f3_0, f3_1, f3_2, f3_3⟩ := t3_60.facts
                obtain ⟨f4_0, f4_1, f4_2, f4_3⟩ := t4_60.facts
                go_wp2_with fail
                refine (HB1.out _).mono ?_
                rintro r v61 ⟨rfl, hx61⟩
                clear f1_0 f1_1 f1_2 f1_3 f2_0 f2_1 f2_2 f2_3 f3_0 f3_1 f3_2 f3_3 f4_0 f4_1 f4_2 f4_3
                have t1_61 := t1_60.below hx61 t1_60.lt
                clear t1_60
                have t2_61 := t2_60.below hx61 t2_60.lt
                clear t2_60
                have t3_61 := t3_60.below hx61 t3_60.lt
                clear t3_60
                have t4_61 := t4_60.below hx61 t4_60.lt
                clear t4_60
                have hb61 := hb60.trans (hx61.mono hb60.size)
                clear hb60 hx61
                obtain ⟨f1_0, f1_1, f1_2, f1_3⟩ := t1_61.facts
                obtain ⟨f2_0, f2_1, f2_2, f2_3⟩ := t2_61.facts
                obtain ⟨f3_0, f3_1, f3_2, f3_3⟩ := t3_61.facts
                obtain ⟨f4_0, f4_1, f4_2, f4_3⟩ := t4_61.facts
                go_wp2_with fail
                refine (HB2.out _).mono ?_
                rintro r v62 ⟨rfl, hx62⟩
                clear f1_0 f1_1 f1_2 f1_3 f2_0 f2_1 f2_2 f2_3 f3_0 f3_1 f3_2 f3_3 f4_0 f4_1 f4_2 f4_3
                have t1_62 := t1_61.below hx62 t1_61.lt
                clear t1_61
                have t2_62 := t2_61.below hx62 t2_61.lt
                clear t2_61
                have t3_62 := t3_61.below hx62 t3_61.lt
                clear t3_61
                have t4_62 := t4_61.below hx62 t4_61.lt
                clear t4_61
                have hb62 := hb61.trans (hx62.mono hb61.size)
                clear hb61 hx62
                obtain ⟨f1_0, f1_1, f1_2, f1_3⟩ := t1_62.facts
                obtain ⟨f2_0, f2_1, f2_2, f2_3⟩ := t2_62.facts
                obtain ⟨f3_0, f3_1, f3_2, f3_3⟩ := t3_62.facts
                obtain ⟨f4_0, f4_1, f4_2, f4_3⟩ := t4_62.facts
                go_wp2_with fail
                refine (HB3.out _).mono ?_
                rintro r v63 ⟨rfl, hx63⟩
                clear f1_0 f1_1 f1_2 f1_3 f2_0 f2_1 f2_2 f2_3 f3_0 f3_1 f3_2 f3_3 f4_0 f4_1 f4_2 f4_3
                have t1_63 := t1_62.below hx63 t1_62.lt
                clear t1_62
                have t2_63 := t2_62.below hx63 t2_62.lt
                clear t2_62
                have t3_63 := t3_62.below hx63 t3_62.lt
                clear t3_62
                have t4_63 := t4_62.below hx63 t4_62.lt
                clear t4_62
                have hb63 := hb62.trans (hx63.mono hb62.size)
                clear hb62 hx63
                obtain ⟨f1_0, f1_1, f1_2, f1_3⟩ := t1_63.facts
                obtain ⟨f2_0, f2_1, f2_2, f2_3⟩ := t2_63.facts
                obtain ⟨f3_0, f3_1, f3_2, f3_3⟩ := t3_63.facts
                obtain ⟨f4_0, f4_1, f4_2, f4_3⟩ := t4_63.facts
                go_wp2_with fail
                go_ret
                exact ⟨rfl, hb63⟩
              | false =>
                cases T4 with
                | true =>
                  obtain rfl : C = 1 := by rw [e]; simp
                  clear e
                  have b0_0 := Two.at (w := w) (B := w.heap.size) (by simp) 23 (.int .i64 ax) (.int .i64 ay)
                  have b1_1 := Two.at (w := (w.alloc (.cells #[.int .i64 ax, .int .i64 ay] 23))) (B := w.heap.size + 1) (by simp) 23 (.int .i64 bx) (.int .i64 bz)
                  have b0_1 := b0_0.alloc (.cells #[.int .i64 bx, .int .i64 bz] 23)
                  have b2_2 := Two.at (w := ((w.alloc (.cells #[.int .i64 ax, .int .i64 ay] 23)).alloc (.cells #[.int .i64 bx, .int .i64 bz] 23))) (B := w.heap.size + 1 + 1) (by simp) 23 (.int .i64 cx) (.int .i64 cy)
                  have b0_2 := b0_1.alloc (.cells #[.int .i64 cx, .int .i64 cy] 23)
                  have b1_2 := b1_1.alloc (.cells #[.int .i64 cx, .int .i64 cy] 23)
                  have b3_3 := Two.at (w := (((w.alloc (.cells #[.int .i64 ax, .int .i64 ay] 23)).alloc (.cells #[.int .i64 bx, .int .i64 bz] 23)).alloc (.cells #[.int .i64 cx, .int .i64 cy] 23))) (B := w.heap.size + 1 + 1 + 1) (by simp) 23 (.int .i64 dx) (.int .i64 dy)
                  have b0_3 := b0_2.alloc (.cells #[.int .i64 dx, .int .i64 dy] 23)
                  have b1_3 := b1_2.alloc (.cells #[.int .i64 dx, .int .i64 dy] 23)
                  have b2_3 := b2_2.alloc (.cells #[.int .i64 dx, .int .i64 dy] 23)
                  have hb0 : Below w.heap.size w _ := (((((Below.refl w.heap.size w).alloc (by simp <;> omega) (.cells #[.int .i64 ax, .int .i64 ay] 23)).alloc (by simp <;> omega) (.cells #[.int .i64 bx, .int .i64 bz] 23)).alloc (by simp <;> omega) (.cells #[.int .i64 cx, .int .i64 cy] 23)).alloc (by simp <;> omega) (.cells #[.int .i64 dx, .int .i64 dy] 23))
                  go_enter Try.func23, Try.ntmps23
                  obtain ⟨f1_0, f1_1, f1_2, f1_3⟩ := b0_3.facts
                  obtain ⟨f2_0, f2_1, f2_2, f2_3⟩ := b1_3.facts
                  obtain ⟨f3_0, f3_1, f3_2, f3_3⟩ := b2_3.facts
                  obtain ⟨f4_0, f4_1, f4_2, f4_3⟩ := b3_3.facts
                  go_wp2_with fail
                  refine (HO1.out _).mono ?_
                  rintro r v64 ⟨rfl, hx64⟩
                  clear f1_0 f1_1 f1_2 f1_3 f2_0 f2_1 f2_2 f2_3 f3_0 f3_1 f3_2 f3_3 f4_0 f4_1 f4_2 f4_3
                  have t1_64 := b0_3.below hx64 b0_3.lt
                  clear b0_3
                  have t2_64 := b1_3.below hx64 b1_3.lt
                  clear b1_3
                  have t3_64 := b2_3.below hx64 b2_3.lt
                  clear b2_3
                  have t4_64 := b3_3.below hx64 b3_3.lt
                  clear b3_3
                  have hb64 := hb0.trans (hx64.mono hb0.size)
                  clear hb0 hx64
                  obtain ⟨f1_0, f1_1, f1_2, f1_3⟩ := t1_64.facts
                  obtain ⟨f2_0, f2_1, f2_2, f2_3⟩ := t2_64.facts
                  obtain ⟨f3_0, f3_1, f3_2, f3_3⟩ := t3_64.facts
                  obtain ⟨f4_0, f4_1, f4_2, f4_3⟩ := t4_64.facts
                  go_wp2_with fail
                  refine (HO2.out _).mono ?_
                  rintro r v65 ⟨rfl, hx65⟩
                  clear f1_0 f1_1 f1_2 f1_3 f2_0 f2_1 f2_2 f2_3 f3_0 f3_1 f3_2 f3_3 f4_0 f4_1 f4_2 f4_3
                  have t1_65 := t1_64.below hx65 t1_64.lt
                  clear t1_64
                  have t2_65 := t2_64.below hx65 t2_64.lt
                  clear t2_64
                  have t3_65 := t3_64.below hx65 t3_64.lt
                  clear t3_64
                  have t4_65 := t4_64.below hx65 t4_64.lt
                  clear t4_64
                  have hb65 := hb64.trans (hx65.mono hb64.size)
                  clear hb64 hx65
                  obtain ⟨f1_0, f1_1, f1_2, f1_3⟩ := t1_65.facts
                  obtain ⟨f2_0, f2_1, f2_2, f2_3⟩ := t2_65.facts
                  obtain ⟨f3_0, f3_1, f3_2, f3_3⟩ := t3_65.facts
                  obtain ⟨f4_0, f4_1, f4_2, f4_3⟩ := t4_65.facts
                  go_wp2_with fail
                  refine (HO3.out _).mono ?_
                  rintro r v66 ⟨rfl, hx66⟩
                  clear f1_0 f1_1 f1_2 f1_3 f2_0 f2_1 f2_2 f2_3 f3_0 f3_1 f3_2 f3_3 f4_0 f4_1 f4_2 f4_3
                  have t1_66 := t1_65.below hx66 t1_65.lt
                  clear t1_65
                  have t2_66 := t2_65.below hx66 t2_65.lt
                  clear t2_65
                  have t3_66 := t3_65.below hx66 t3_65.lt
                  clear t3_65
                  have t4_66 := t4_65.below hx66 t4_65.lt
                  clear t4_65
                  have hb66 := hb65.trans (hx66.mono hb65.size)
                  clear hb65 hx66
                  obtain ⟨f1_0, f1_1, f1_2, f1_3⟩ := t1_66.facts
                  obtain ⟨f2_0, f2_1, f2_2, f2_3⟩ := t2_66.facts
                  obtain ⟨f3_0, f3_1, f3_2, f3_3⟩ := t3_66.facts
                  obtain ⟨f4_0, f4_1, f4_2, f4_3⟩ := t4_66.facts
                  go_wp2_with fail
                  refine (HO4.out _).mono ?_
                  rintro r v67 ⟨rfl, hx67⟩
                  clear f1_0 f1_1 f1_2 f1_3 f2_0 f2_1 f2_2 f2_3 f3_0 f3_1 f3_2 f3_3 f4_0 f4_1 f4_2 f4_3
                  have t1_67 := t1_66.below hx67 t1_66.lt
                  clear t1_66
                  have t2_67 := t2_66.below hx67 t2_66.lt
                  clear t2_66
                  have t3_67 := t3_66.below hx67 t3_66.lt
                  clear t3_66
                  have t4_67 := t4_66.below hx67 t4_66.lt
                  clear t4_66
                  have hb67 := hb66.trans (hx67.mono hb66.size)
                  clear hb66 hx67
                  obtain ⟨f1_0, f1_1, f1_2, f1_3⟩ := t1_67.facts
                  obtain ⟨f2_0, f2_1, f2_2, f2_3⟩ := t2_67.facts
                  obtain ⟨f3_0, f3_1, f3_2, f3_3⟩ := t3_67.facts
                  obtain ⟨f4_0, f4_1, f4_2, f4_3⟩ := t4_67.facts
                  go_wp2_with fail
                  refine (HB1.out _).mono ?_
                  rintro r v68 ⟨rfl, hx68⟩
                  clear f1_0 f1_1 f1_2 f1_3 f2_0 f2_1 f2_2 f2_3 f3_0 f3_1 f3_2 f3_3 f4_0 f4_1 f4_2 f4_3
                  have t1_68 := t1_67.below hx68 t1_67.lt
                  clear t1_67
                  have t2_68 := t2_67.below hx68 t2_67.lt
                  clear t2_67
                  have t3_68 := t3_67.below hx68 t3_67.lt
                  clear t3_67
                  have t4_68 := t4_67.below hx68 t4_67.lt
                  clear t4_67
                  have hb68 := hb67.trans (hx68.mono hb67.size)
                  clear hb67 hx68
                  obtain ⟨f1_0, f1_1, f1_2, f1_3⟩ := t1_68.facts
                  obtain ⟨f2_0, f2_1, f2_2, f2_3⟩ := t2_68.facts
                  obtain ⟨f3_0, f3_1, f3_2, f3_3⟩ := t3_68.facts
                  obtain ⟨f4_0, f4_1, f4_2, f4_3⟩ := t4_68.facts
                  go_wp2_with fail
                  refine (HB2.out _).mono ?_
                  rintro r v69 ⟨rfl, hx69⟩
                  clear f1_0 f1_1 f1_2 f1_3 f2_0 f2_1 f2_2 f2_3 f3_0 f3_1 f3_2 f3_3 f4_0 f4_1 f4_2 f4_3
                  have t1_69 := t1_68.below hx69 t1_68.lt
                  clear t1_68
                  have t2_69 := t2_68.below hx69 t2_68.lt
                  clear t2_68
                  have t3_69 := t3_68.below hx69 t3_68.lt
                  clear t3_68
                  have t4_69 := t4_68.below hx69 t4_68.lt
                  clear t4_68
                  have hb69 := hb68.trans (hx69.mono hb68.size)
                  clear hb68 hx69
                  obtain ⟨f1_0, f1_1, f1_2, f1_3⟩ := t1_69.facts
                  obtain ⟨f2_0, f2_1, f2_2, f2_3⟩ := t2_69.facts
                  obtain ⟨f3_0, f3_1, f3_2, f3_3⟩ := t3_69.facts
                  obtain ⟨f4_0, f4_1, f4_2, f4_3⟩ := t4_69.facts
                  go_wp2_with fail
                  refine (HB3.out _).mono ?_
                  rintro r v70 ⟨rfl, hx70⟩
                  clear f1_0 f1_1 f1_2 f1_3 f2_0 f2_1 f2_2 f2_3 f3_0 f3_1 f3_2 f3_3 f4_0 f4_1 f4_2 f4_3
                  have t1_70 := t1_69.below hx70 t1_69.lt
                  clear t1_69
                  have t2_70 := t2_69.below hx70 t2_69.lt
                  clear t2_69
                  have t3_70 := t3_69.below hx70 t3_69.lt
                  clear t3_69
                  have t4_70 := t4_69.below hx70 t4_69.lt
                  clear t4_69
                  have hb70 := hb69.trans (hx70.mono hb69.size)
                  clear hb69 hx70
                  obtain ⟨f1_0, f1_1, f1_2, f1_3⟩ := t1_70.facts
                  obtain ⟨f2_0, f2_1, f2_2, f2_3⟩ := t2_70.facts
                  obtain ⟨f3_0, f3_1, f3_2, f3_3⟩ := t3_70.facts
                  obtain ⟨f4_0, f4_1, f4_2, f4_3⟩ := t4_70.facts
                  go_wp2_with fail
                  refine (HB4.out _).mono ?_
                  rintro r v71 ⟨rfl, hx71⟩
                  clear f1_0 f1_1 f1_2 f1_3 f2_0 f2_1 f2_2 f2_3 f3_0 f3_1 f3_2 f3_3 f4_0 f4_1 f4_2 f4_3
                  have t1_71 := t1_70.below hx71 t1_70.lt
                  clear t1_70
                  have t2_71 := t2_70.below hx71 t2_70.lt
                  clear t2_70
                  have t3_71 := t3_70.below hx71 t3_70.lt
                  clear t3_70
                  have t4_71 := t4_70.below hx71 t4_70.lt
                  clear t4_70
                  have hb71 := hb70.trans (hx71.mono hb70.size)
                  clear hb70 hx71
                  obtain ⟨f1_0, f1_1, f1_2, f1_3⟩ := t1_71.facts
                  obtain ⟨f2_0, f2_1, f2_2, f2_3⟩ := t2_71.facts
                  obtain ⟨f3_0, f3_1, f3_2, f3_3⟩ := t3_71.facts
                  obtain ⟨f4_0, f4_1, f4_2, f4_3⟩ := t4_71.facts
                  go_wp2_with fail
                  go_ret
                  exact ⟨rfl, hb71⟩
                | false =>
                  by_cases hP : N1 * N2 < 0
                  · have hP1 : decide (N1 * N2 < 0) = true := by simpa using hP
                    by_cases hQ : N3 * N4 < 0
                    · have hQ1 : decide (N3 * N4 < 0) = true := by simpa using hQ
                      obtain rfl : C = 2 := by rw [e, hP1, hQ1]; rfl
                      clear e hP1
                      have b0_0 := Two.at (w := w) (B := w.heap.size) (by simp) 23 (.int .i64 ax) (.int .i64 ay)
                      have b1_1 := Two.at (w := (w.alloc (.cells #[.int .i64 ax, .int .i64 ay] 23))) (B := w.heap.size + 1) (by simp) 23 (.int .i64 bx) (.int .i64 bz)
                      have b0_1 := b0_0.alloc (.cells #[.int .i64 bx, .int .i64 bz] 23)
                      have b2_2 := Two.at (w := ((w.alloc (.cells #[.int .i64 ax, .int .i64 ay] 23)).alloc (.cells #[.int .i64 bx, .int .i64 bz] 23))) (B := w.heap.size + 1 + 1) (by simp) 23 (.int .i64 cx) (.int .i64 cy)
                      have b0_2 := b0_1.alloc (.cells #[.int .i64 cx, .int .i64 cy] 23)
                      have b1_2 := b1_1.alloc (.cells #[.int .i64 cx, .int .i64 cy] 23)
                      have b3_3 := Two.at (w := (((w.alloc (.cells #[.int .i64 ax, .int .i64 ay] 23)).alloc (.cells #[.int .i64 bx, .int .i64 bz] 23)).alloc (.cells #[.int .i64 cx, .int .i64 cy] 23))) (B := w.heap.size + 1 + 1 + 1) (by simp) 23 (.int .i64 dx) (.int .i64 dy)
                      have b0_3 := b0_2.alloc (.cells #[.int .i64 dx, .int .i64 dy] 23)
                      have b1_3 := b1_2.alloc (.cells #[.int .i64 dx, .int .i64 dy] 23)
                      have b2_3 := b2_2.alloc (.cells #[.int .i64 dx, .int .i64 dy] 23)
                      have hb0 : Below w.heap.size w _ := (((((Below.refl w.heap.size w).alloc (by simp <;> omega) (.cells #[.int .i64 ax, .int .i64 ay] 23)).alloc (by simp <;> omega) (.cells #[.int .i64 bx, .int .i64 bz] 23)).alloc (by simp <;> omega) (.cells #[.int .i64 cx, .int .i64 cy] 23)).alloc (by simp <;> omega) (.cells #[.int .i64 dx, .int .i64 dy] 23))
                      go_enter Try.func23, Try.ntmps23
                      obtain ⟨f1_0, f1_1, f1_2, f1_3⟩ := b0_3.facts
                      obtain ⟨f2_0, f2_1, f2_2, f2_3⟩ := b1_3.facts
                      obtain ⟨f3_0, f3_1, f3_2, f3_3⟩ := b2_3.facts
                      obtain ⟨f4_0, f4_1, f4_2, f4_3⟩ := b3_3.facts
                      go_wp2_with fail
                      refine (HO1.out _).mono ?_
                      rintro r v72 ⟨rfl, hx72⟩
                      clear f1_0 f1_1 f1_2 f1_3 f2_0 f2_1 f2_2 f2_3 f3_0 f3_1 f3_2 f3_3 f4_0 f4_1 f4_2 f4_3
                      have t1_72 := b0_3.below hx72 b0_3.lt
                      clear b0_3
                      have t2_72 := b1_3.below hx72 b1_3.lt
                      clear b1_3
                      have t3_72 := b2_3.below hx72 b2_3.lt
                      clear b2_3
                      have t4_72 := b3_3.below hx72 b3_3.lt
                      clear b3_3
                      have hb72 := hb0.trans (hx72.mono hb0.size)
                      clear hb0 hx72
                      obtain ⟨f1_0, f1_1, f1_2, f1_3⟩ := t1_72.facts
                      obtain ⟨f2_0, f2_1, f2_2, f2_3⟩ := t2_72.facts
                      obtain ⟨f3_0, f3_1, f3_2, f3_3⟩ := t3_72.facts
                      obtain ⟨f4_0, f4_1, f4_2, f4_3⟩ := t4_72.facts
                      go_wp2_with fail
                      refine (HO2.out _).mono ?_
                      rintro r v73 ⟨rfl, hx73⟩
                      clear f1_0 f1_1 f1_2 f1_3 f2_0 f2_1 f2_2 f2_3 f3_0 f3_1 f3_2 f3_3 f4_0 f4_1 f4_2 f4_3
                      have t1_73 := t1_72.below hx73 t1_72.lt
                      clear t1_72
                      have t2_73 := t2_72.below hx73 t2_72.lt
                      clear t2_72
                      have t3_73 := t3_72.below hx73 t3_72.lt
                      clear t3_72
                      have t4_73 := t4_72.below hx73 t4_72.lt
                      clear t4_72
                      have hb73 := hb72.trans (hx73.mono hb72.size)
                      clear hb72 hx73
                      obtain ⟨f1_0, f1_1, f1_2, f1_3⟩ := t1_73.facts
                      obtain ⟨f2_0, f2_1, f2_2, f2_3⟩ := t2_73.facts
                      obtain ⟨f3_0, f3_1, f3_2, f3_3⟩ := t3_73.facts
                      obtain ⟨f4_0, f4_1, f4_2, f4_3⟩ := t4_73.facts
                      go_wp2_with fail
                      refine (HO3.out _).mono ?_
                      rintro r v74 ⟨rfl, hx74⟩
                      clear f1_0 f1_1 f1_2 f1_3 f2_0 f2_1 f2_2 f2_3 f3_0 f3_1 f3_2 f3_3 f4_0 f4_1 f4_2 f4_3
                      have t1_74 := t1_73.below hx74 t1_73.lt
                      clear t1_73
                      have t2_74 := t2_73.below hx74 t2_73.lt
                      clear t2_73
                      have t3_74 := t3_73.below hx74 t3_73.lt
                      clear t3_73
                      have t4_74 := t4_73.below hx74 t4_73.lt
                      clear t4_73
                      have hb74 := hb73.trans (hx74.mono hb73.size)
                      clear hb73 hx74
                      obtain ⟨f1_0, f1_1, f1_2, f1_3⟩ := t1_74.facts
                      obtain ⟨f2_0, f2_1, f2_2, f2_3⟩ := t2_74.facts
                      obtain ⟨f3_0, f3_1, f3_2, f3_3⟩ := t3_74.facts
                      obtain ⟨f4_0, f4_1, f4_2, f4_3⟩ := t4_74.facts
                      go_wp2_with fail
                      refine (HO4.out _).mono ?_
                      rintro r v75 ⟨rfl, hx75⟩
                      clear f1_0 f1_1 f1_2 f1_3 f2_0 f2_1 f2_2 f2_3 f3_0 f3_1 f3_2 f3_3 f4_0 f4_1 f4_2 f4_3
                      have t1_75 := t1_74.below hx75 t1_74.lt
                      clear t1_74
                      have t2_75 := t2_74.below hx75 t2_74.lt
                      clear t2_74
                      have t3_75 := t3_74.below hx75 t3_74.lt
                      clear t3_74
                      have t4_75 := t4_74.below hx75 t4_74.lt
                      clear t4_74
                      have hb75 := hb74.trans (hx75.mono hb74.size)
                      clear hb74 hx75
                      obtain ⟨f1_0, f1_1, f1_2, f1_3⟩ := t1_75.facts
                      obtain ⟨f2_0, f2_1, f2_2, f2_3⟩ := t2_75.facts
                      obtain ⟨f3_0, f3_1, f3_2, f3_3⟩ := t3_75.facts
                      obtain ⟨f4_0, f4_1, f4_2, f4_3⟩ := t4_75.facts
                      go_wp2_with fail
                      refine (HB1.out _).mono ?_
                      rintro r v76 ⟨rfl, hx76⟩
                      clear f1_0 f1_1 f1_2 f1_3 f2_0 f2_1 f2_2 f2_3 f3_0 f3_1 f3_2 f3_3 f4_0 f4_1 f4_2 f4_3
                      have t1_76 := t1_75.below hx76 t1_75.lt
                      clear t1_75
                      have t2_76 := t2_75.below hx76 t2_75.lt
                      clear t2_75
                      have t3_76 := t3_75.below hx76 t3_75.lt
                      clear t3_75
                      have t4_76 := t4_75.below hx76 t4_75.lt
                      clear t4_75
                      have hb76 := hb75.trans (hx76.mono hb75.size)
                      clear hb75 hx76
                      obtain ⟨f1_0, f1_1, f1_2, f1_3⟩ := t1_76.facts
                      obtain ⟨f2_0, f2_1, f2_2, f2_3⟩ := t2_76.facts
                      obtain ⟨f3_0, f3_1, f3_2, f3_3⟩ := t3_76.facts
                      obtain ⟨f4_0, f4_1, f4_2, f4_3⟩ := t4_76.facts
                      go_wp2_with fail
                      refine (HB2.out _).mono ?_
                      rintro r v77 ⟨rfl, hx77⟩
                      clear f1_0 f1_1 f1_2 f1_3 f2_0 f2_1 f2_2 f2_3 f3_0 f3_1 f3_2 f3_3 f4_0 f4_1 f4_2 f4_3
                      have t1_77 := t1_76.below hx77 t1_76.lt
                      clear t1_76
                      have t2_77 := t2_76.below hx77 t2_76.lt
                      clear t2_76
                      have t3_77 := t3_76.below hx77 t3_76.lt
                      clear t3_76
                      have t4_77 := t4_76.below hx77 t4_76.lt
                      clear t4_76
                      have hb77 := hb76.trans (hx77.mono hb76.size)
                      clear hb76 hx77
                      obtain ⟨f1_0, f1_1, f1_2, f1_3⟩ := t1_77.facts
                      obtain ⟨f2_0, f2_1, f2_2, f2_3⟩ := t2_77.facts
                      obtain ⟨f3_0, f3_1, f3_2, f3_3⟩ := t3_77.facts
                      obtain ⟨f4_0, f4_1, f4_2, f4_3⟩ := t4_77.facts
                      go_wp2_with fail
                      refine (HB3.out _).mono ?_
                      rintro r v78 ⟨rfl, hx78⟩
                      clear f1_0 f1_1 f1_2 f1_3 f2_0 f2_1 f2_2 f2_3 f3_0 f3_1 f3_2 f3_3 f4_0 f4_1 f4_2 f4_3
                      have t1_78 := t1_77.below hx78 t1_77.lt
                      clear t1_77
                      have t2_78 := t2_77.below hx78 t2_77.lt
                      clear t2_77
                      have t3_78 := t3_77.below hx78 t3_77.lt
                      clear t3_77
                      have t4_78 := t4_77.below hx78 t4_77.lt
                      clear t4_77
                      have hb78 := hb77.trans (hx78.mono hb77.size)
                      clear hb77 hx78
                      obtain ⟨f1_0, f1_1, f1_2, f1_3⟩ := t1_78.facts
                      obtain ⟨f2_0, f2_1, f2_2, f2_3⟩ := t2_78.facts
                      obtain ⟨f3_0, f3_1, f3_2, f3_3⟩ := t3_78.facts
                      obtain ⟨f4_0, f4_1, f4_2, f4_3⟩ := t4_78.facts
                      go_wp2_with fail
                      refine (HB4.out _).mono ?_
                      rintro r v79 ⟨rfl, hx79⟩
                      clear f1_0 f1_1 f1_2 f1_3 f2_0 f2_1 f2_2 f2_3 f3_0 f3_1 f3_2 f3_3 f4_0 f4_1 f4_2 f4_3
                      have t1_79 := t1_78.below hx79 t1_78.lt
                      clear t1_78
                      have t2_79 := t2_78.below hx79 t2_78.lt
                      clear t2_78
                      have t3_79 := t3_78.below hx79 t3_78.lt
                      clear t3_78
                      have t4_79 := t4_78.below hx79 t4_78.lt
                      clear t4_78
                      have hb79 := hb78.trans (hx79.mono hb78.size)
                      clear hb78 hx79
                      obtain ⟨f1_0, f1_1, f1_2, f1_3⟩ := t1_79.facts
                      obtain ⟨f2_0, f2_1, f2_2, f2_3⟩ := t2_79.facts
                      obtain ⟨f3_0, f3_1, f3_2, f3_3⟩ := t3_79.facts
                      obtain ⟨f4_0, f4_1, f4_2, f4_3⟩ := t4_79.facts
                      go_upto_region 5 with fail
                      clear f1_0 f1_1 f1_2 f1_3 f2_0 f2_1 f2_2 f2_3 f3_0 f3_1 f3_2 f3_3 f4_0 f4_1 f4_2 f4_3
                      have hS : ∀ w' : World, Below v79.heap.size v79 w' → (w'.cell? ⟨w.heap.size, 0, none⟩ = some (.int .i64 ax) ∧ w'.cell? ⟨w.heap.size, 1, none⟩ = some (.int .i64 ay)) ∧ (w'.cell? ⟨w.heap.size + 1, 0, none⟩ = some (.int .i64 bx) ∧ w'.cell? ⟨w.heap.size + 1, 1, none⟩ = some (.int .i64 bz)) ∧ (w'.cell? ⟨w.heap.size + 1 + 1, 0, none⟩ = some (.int .i64 cx) ∧ w'.cell? ⟨w.heap.size + 1 + 1, 1, none⟩ = some (.int .i64 cy)) ∧ (w'.cell? ⟨w.heap.size + 1 + 1 + 1, 0, none⟩ = some (.int .i64 dx) ∧ w'.cell? ⟨w.heap.size + 1 + 1 + 1, 1, none⟩ = some (.int .i64 dy)) := fun w' hb => ⟨two_of t1_79 hb, two_of t2_79 hb, two_of t3_79 hb, two_of t4_79 hb⟩
                      have hr := Below.refl v79.heap.size v79
                      go_region_held3 (fun w' => (w'.cell? ⟨w.heap.size, 0, none⟩ = some (.int .i64 ax) ∧ w'.cell? ⟨w.heap.size, 1, none⟩ = some (.int .i64 ay)) ∧ (w'.cell? ⟨w.heap.size + 1, 0, none⟩ = some (.int .i64 bx) ∧ w'.cell? ⟨w.heap.size + 1, 1, none⟩ = some (.int .i64 bz)) ∧ (w'.cell? ⟨w.heap.size + 1 + 1, 0, none⟩ = some (.int .i64 cx) ∧ w'.cell? ⟨w.heap.size + 1 + 1, 1, none⟩ = some (.int .i64 cy)) ∧ (w'.cell? ⟨w.heap.size + 1 + 1 + 1, 0, none⟩ = some (.int .i64 dx) ∧ w'.cell? ⟨w.heap.size + 1 + 1 + 1, 1, none⟩ = some (.int .i64 dy)))
                        (first | (with_reducible exact hS _ hr.drew) | (with_reducible refine hS _ ?_; with_reducible assumption))
                        (first
                          | (go_at_call 17; have hz := hy3; refine (HT4.out _).mono ?_; rintro r y4 ⟨rfl, hy4'⟩; have hy4 : Below v79.heap.size v79 y4 := hy3.trans (hy4'.mono hy3.size))
                          | (go_at_call 17; have hz := hy2; refine (HT3.out _).mono ?_; rintro r y3 ⟨rfl, hy3'⟩; have hy3 : Below v79.heap.size v79 y3 := hy2.trans (hy3'.mono hy2.size))
                          | (go_at_call 17; have hz := hy1; refine (HT2.out _).mono ?_; rintro r y2 ⟨rfl, hy2'⟩; have hy2 : Below v79.heap.size v79 y2 := hy1.trans (hy2'.mono hy1.size))
                          | (go_at_call 17; refine (HT1.out _).mono ?_; rintro r y1 ⟨rfl, hy1'⟩; have hy1 : Below v79.heap.size v79 y1 := hr.drew.trans hy1'))
                      all_goals
                        have t1_80 := t1_79.below hy4 t1_79.lt
                        have t2_80 := t2_79.below hy4 t2_79.lt
                        have t3_80 := t3_79.below hy4 t3_79.lt
                        have t4_80 := t4_79.below hy4 t4_79.lt
                        have hb80 := hb79.trans (hy4.mono hb79.size)
                        obtain ⟨f1_0, f1_1, f1_2, f1_3⟩ := t1_80.facts
                        obtain ⟨f2_0, f2_1, f2_2, f2_3⟩ := t2_80.facts
                        obtain ⟨f3_0, f3_1, f3_2, f3_3⟩ := t3_80.facts
                        obtain ⟨f4_0, f4_1, f4_2, f4_3⟩ := t4_80.facts
                        go_wp2_with fail
                        go_ret
                        exact ⟨rfl, hb80⟩
                    · have hQ1 : decide (N3 * N4 < 0) = false := by simpa using hQ
                      obtain rfl : C = 0 := by rw [e, hP1, hQ1]; rfl
                      clear e hP1
                      clear hQ
                      have b0_0 := Two.at (w := w) (B := w.heap.size) (by simp) 23 (.int .i64 ax) (.int .i64 ay)
                      have b1_1 := Two.at (w := (w.alloc (.cells #[.int .i64 ax, .int .i64 ay] 23))) (B := w.heap.size + 1) (by simp) 23 (.int .i64 bx) (.int .i64 bz)
                      have b0_1 := b0_0.alloc (.cells #[.int .i64 bx, .int .i64 bz] 23)
                      have b2_2 := Two.at (w := ((w.alloc (.cells #[.int .i64 ax, .int .i64 ay] 23)).alloc (.cells #[.int .i64 bx, .int .i64 bz] 23))) (B := w.heap.size + 1 + 1) (by simp) 23 (.int .i64 cx) (.int .i64 cy)
                      have b0_2 := b0_1.alloc (.cells #[.int .i64 cx, .int .i64 cy] 23)
                      have b1_2 := b1_1.alloc (.cells #[.int .i64 cx, .int .i64 cy] 23)
                      have b3_3 := Two.at (w := (((w.alloc (.cells #[.int .i64 ax, .int .i64 ay] 23)).alloc (.cells #[.int .i64 bx, .int .i64 bz] 23)).alloc (.cells #[.int .i64 cx, .int .i64 cy] 23))) (B := w.heap.size + 1 + 1 + 1) (by simp) 23 (.int .i64 dx) (.int .i64 dy)
                      have b0_3 := b0_2.alloc (.cells #[.int .i64 dx, .int .i64 dy] 23)
                      have b1_3 := b1_2.alloc (.cells #[.int .i64 dx, .int .i64 dy] 23)
                      have b2_3 := b2_2.alloc (.cells #[.int .i64 dx, .int .i64 dy] 23)
                      have hb0 : Below w.heap.size w _ := (((((Below.refl w.heap.size w).alloc (by simp <;> omega) (.cells #[.int .i64 ax, .int .i64 ay] 23)).alloc (by simp <;> omega) (.cells #[.int .i64 bx, .int .i64 bz] 23)).alloc (by simp <;> omega) (.cells #[.int .i64 cx, .int .i64 cy] 23)).alloc (by simp <;> omega) (.cells #[.int .i64 dx, .int .i64 dy] 23))
                      go_enter Try.func23, Try.ntmps23
                      obtain ⟨f1_0, f1_1, f1_2, f1_3⟩ := b0_3.facts
                      obtain ⟨f2_0, f2_1, f2_2, f2_3⟩ := b1_3.facts
                      obtain ⟨f3_0, f3_1, f3_2, f3_3⟩ := b2_3.facts
                      obtain ⟨f4_0, f4_1, f4_2, f4_3⟩ := b3_3.facts
                      go_wp2_with fail
                      refine (HO1.out _).mono ?_
                      rintro r v81 ⟨rfl, hx81⟩
                      clear f1_0 f1_1 f1_2 f1_3 f2_0 f2_1 f2_2 f2_3 f3_0 f3_1 f3_2 f3_3 f4_0 f4_1 f4_2 f4_3
                      have t1_81 := b0_3.below hx81 b0_3.lt
                      clear b0_3
                      have t2_81 := b1_3.below hx81 b1_3.lt
                      clear b1_3
                      have t3_81 := b2_3.below hx81 b2_3.lt
                      clear b2_3
                      have t4_81 := b3_3.below hx81 b3_3.lt
                      clear b3_3
                      have hb81 := hb0.trans (hx81.mono hb0.size)
                      clear hb0 hx81
                      obtain ⟨f1_0, f1_1, f1_2, f1_3⟩ := t1_81.facts
                      obtain ⟨f2_0, f2_1, f2_2, f2_3⟩ := t2_81.facts
                      obtain ⟨f3_0, f3_1, f3_2, f3_3⟩ := t3_81.facts
                      obtain ⟨f4_0, f4_1, f4_2, f4_3⟩ := t4_81.facts
                      go_wp2_with fail
                      refine (HO2.out _).mono ?_
                      rintro r v82 ⟨rfl, hx82⟩
                      clear f1_0 f1_1 f1_2 f1_3 f2_0 f2_1 f2_2 f2_3 f3_0 f3_1 f3_2 f3_3 f4_0 f4_1 f4_2 f4_3
                      have t1_82 := t1_81.below hx82 t1_81.lt
                      clear t1_81
                      have t2_82 := t2_81.below hx82 t2_81.lt
                      clear t2_81
                      have t3_82 := t3_81.below hx82 t3_81.lt
                      clear t3_81
                      have t4_82 := t4_81.below hx82 t4_81.lt
                      clear t4_81
                      have hb82 := hb81.trans (hx82.mono hb81.size)
                      clear hb81 hx82
                      obtain ⟨f1_0, f1_1, f1_2, f1_3⟩ := t1_82.facts
                      obtain ⟨f2_0, f2_1, f2_2, f2_3⟩ := t2_82.facts
                      obtain ⟨f3_0, f3_1, f3_2, f3_3⟩ := t3_82.facts
                      obtain ⟨f4_0, f4_1, f4_2, f4_3⟩ := t4_82.facts
                      go_wp2_with fail
                      refine (HO3.out _).mono ?_
                      rintro r v83 ⟨rfl, hx83⟩
                      clear f1_0 f1_1 f1_2 f1_3 f2_0 f2_1 f2_2 f2_3 f3_0 f3_1 f3_2 f3_3 f4_0 f4_1 f4_2 f4_3
                      have t1_83 := t1_82.below hx83 t1_82.lt
                      clear t1_82
                      have t2_83 := t2_82.below hx83 t2_82.lt
                      clear t2_82
                      have t3_83 := t3_82.below hx83 t3_82.lt
                      clear t3_82
                      have t4_83 := t4_82.below hx83 t4_82.lt
                      clear t4_82
                      have hb83 := hb82.trans (hx83.mono hb82.size)
                      clear hb82 hx83
                      obtain ⟨f1_0, f1_1, f1_2, f1_3⟩ := t1_83.facts
                      obtain ⟨f2_0, f2_1, f2_2, f2_3⟩ := t2_83.facts
                      obtain ⟨f3_0, f3_1, f3_2, f3_3⟩ := t3_83.facts
                      obtain ⟨f4_0, f4_1, f4_2, f4_3⟩ := t4_83.facts
                      go_wp2_with fail
                      refine (HO4.out _).mono ?_
                      rintro r v84 ⟨rfl, hx84⟩
                      clear f1_0 f1_1 f1_2 f1_3 f2_0 f2_1 f2_2 f2_3 f3_0 f3_1 f3_2 f3_3 f4_0 f4_1 f4_2 f4_3
                      have t1_84 := t1_83.below hx84 t1_83.lt
                      clear t1_83
                      have t2_84 := t2_83.below hx84 t2_83.lt
                      clear t2_83
                      have t3_84 := t3_83.below hx84 t3_83.lt
                      clear t3_83
                      have t4_84 := t4_83.below hx84 t4_83.lt
                      clear t4_83
                      have hb84 := hb83.trans (hx84.mono hb83.size)
                      clear hb83 hx84
                      obtain ⟨f1_0, f1_1, f1_2, f1_3⟩ := t1_84.facts
                      obtain ⟨f2_0, f2_1, f2_2, f2_3⟩ := t2_84.facts
                      obtain ⟨f3_0, f3_1, f3_2, f3_3⟩ := t3_84.facts
                      obtain ⟨f4_0, f4_1, f4_2, f4_3⟩ := t4_84.facts
                      go_wp2_with fail
                      refine (HB1.out _).mono ?_
                      rintro r v85 ⟨rfl, hx85⟩
                      clear f1_0 f1_1 f1_2 f1_3 f2_0 f2_1 f2_2 f2_3 f3_0 f3_1 f3_2 f3_3 f4_0 f4_1 f4_2 f4_3
                      have t1_85 := t1_84.below hx85 t1_84.lt
                      clear t1_84
                      have t2_85 := t2_84.below hx85 t2_84.lt
                      clear t2_84
                      have t3_85 := t3_84.below hx85 t3_84.lt
                      clear t3_84
                      have t4_85 := t4_84.below hx85 t4_84.lt
                      clear t4_84
                      have hb85 := hb84.trans (hx85.mono hb84.size)
                      clear hb84 hx85
                      obtain ⟨f1_0, f1_1, f1_2, f1_3⟩ := t1_85.facts
                      obtain ⟨f2_0, f2_1, f2_2, f2_3⟩ := t2_85.facts
                      obtain ⟨f3_0, f3_1, f3_2, f3_3⟩ := t3_85.facts
                      obtain ⟨f4_0, f4_1, f4_2, f4_3⟩ := t4_85.facts
                      go_wp2_with fail
                      refine (HB2.out _).mono ?_
                      rintro r v86 ⟨rfl, hx86⟩
                      clear f1_0 f1_1 f1_2 f1_3 f2_0 f2_1 f2_2 f2_3 f3_0 f3_1 f3_2 f3_3 f4_0 f4_1 f4_2 f4_3
                      have t1_86 := t1_85.below hx86 t1_85.lt
                      clear t1_85
                      have t2_86 := t2_85.below hx86 t2_85.lt
                      clear t2_85
                      have t3_86 := t3_85.below hx86 t3_85.lt
                      clear t3_85
                      have t4_86 := t4_85.below hx86 t4_85.lt
                      clear t4_85
                      have hb86 := hb85.trans (hx86.mono hb85.size)
                      clear hb85 hx86
                      obtain ⟨f1_0, f1_1, f1_2, f1_3⟩ := t1_86.facts
                      obtain ⟨f2_0, f2_1, f2_2, f2_3⟩ := t2_86.facts
                      obtain ⟨f3_0, f3_1, f3_2, f3_3⟩ := t3_86.facts
                      obtain ⟨f4_0, f4_1, f4_2, f4_3⟩ := t4_86.facts
                      go_wp2_with fail
                      refine (HB3.out _).mono ?_
                      rintro r v87 ⟨rfl, hx87⟩
                      clear f1_0 f1_1 f1_2 f1_3 f2_0 f2_1 f2_2 f2_3 f3_0 f3_1 f3_2 f3_3 f4_0 f4_1 f4_2 f4_3
                      have t1_87 := t1_86.below hx87 t1_86.lt
                      clear t1_86
                      have t2_87 := t2_86.below hx87 t2_86.lt
                      clear t2_86
                      have t3_87 := t3_86.below hx87 t3_86.lt
                      clear t3_86
                      have t4_87 := t4_86.below hx87 t4_86.lt
                      clear t4_86
                      have hb87 := hb86.trans (hx87.mono hb86.size)
                      clear hb86 hx87
                      obtain ⟨f1_0, f1_1, f1_2, f1_3⟩ := t1_87.facts
                      obtain ⟨f2_0, f2_1, f2_2, f2_3⟩ := t2_87.facts
                      obtain ⟨f3_0, f3_1, f3_2, f3_3⟩ := t3_87.facts
                      obtain ⟨f4_0, f4_1, f4_2, f4_3⟩ := t4_87.facts
                      go_wp2_with fail
                      refine (HB4.out _).mono ?_
                      rintro r v88 ⟨rfl, hx88⟩
                      clear f1_0 f1_1 f1_2 f1_3 f2_0 f2_1 f2_2 f2_3 f3_0 f3_1 f3_2 f3_3 f4_0 f4_1 f4_2 f4_3
                      have t1_88 := t1_87.below hx88 t1_87.lt
                      clear t1_87
                      have t2_88 := t2_87.below hx88 t2_87.lt
                      clear t2_87
                      have t3_88 := t3_87.below hx88 t3_87.lt
                      clear t3_87
                      have t4_88 := t4_87.below hx88 t4_87.lt
                      clear t4_87
                      have hb88 := hb87.trans (hx88.mono hb87.size)
                      clear hb87 hx88
                      obtain ⟨f1_0, f1_1, f1_2, f1_3⟩ := t1_88.facts
                      obtain ⟨f2_0, f2_1, f2_2, f2_3⟩ := t2_88.facts
                      obtain ⟨f3_0, f3_1, f3_2, f3_3⟩ := t3_88.facts
                      obtain ⟨f4_0, f4_1, f4_2, f4_3⟩ := t4_88.facts
                      go_upto_region 5 with fail
                      clear f1_0 f1_1 f1_2 f1_3 f2_0 f2_1 f2_2 f2_3 f3_0 f3_1 f3_2 f3_3 f4_0 f4_1 f4_2 f4_3
                      have hS : ∀ w' : World, Below v88.heap.size v88 w' → (w'.cell? ⟨w.heap.size, 0, none⟩ = some (.int .i64 ax) ∧ w'.cell? ⟨w.heap.size, 1, none⟩ = some (.int .i64 ay)) ∧ (w'.cell? ⟨w.heap.size + 1, 0, none⟩ = some (.int .i64 bx) ∧ w'.cell? ⟨w.heap.size + 1, 1, none⟩ = some (.int .i64 bz)) ∧ (w'.cell? ⟨w.heap.size + 1 + 1, 0, none⟩ = some (.int .i64 cx) ∧ w'.cell? ⟨w.heap.size + 1 + 1, 1, none⟩ = some (.int .i64 cy)) ∧ (w'.cell? ⟨w.heap.size + 1 + 1 + 1, 0, none⟩ = some (.int .i64 dx) ∧ w'.cell? ⟨w.heap.size + 1 + 1 + 1, 1, none⟩ = some (.int .i64 dy)) := fun w' hb => ⟨two_of t1_88 hb, two_of t2_88 hb, two_of t3_88 hb, two_of t4_88 hb⟩
                      have hr := Below.refl v88.heap.size v88
                      go_region_held3 (fun w' => (w'.cell? ⟨w.heap.size, 0, none⟩ = some (.int .i64 ax) ∧ w'.cell? ⟨w.heap.size, 1, none⟩ = some (.int .i64 ay)) ∧ (w'.cell? ⟨w.heap.size + 1, 0, none⟩ = some (.int .i64 bx) ∧ w'.cell? ⟨w.heap.size + 1, 1, none⟩ = some (.int .i64 bz)) ∧ (w'.cell? ⟨w.heap.size + 1 + 1, 0, none⟩ = some (.int .i64 cx) ∧ w'.cell? ⟨w.heap.size + 1 + 1, 1, none⟩ = some (.int .i64 cy)) ∧ (w'.cell? ⟨w.heap.size + 1 + 1 + 1, 0, none⟩ = some (.int .i64 dx) ∧ w'.cell? ⟨w.heap.size + 1 + 1 + 1, 1, none⟩ = some (.int .i64 dy)))
                        (first | (with_reducible exact hS _ hr.drew) | (with_reducible refine hS _ ?_; with_reducible assumption))
                        (first
                          | (go_at_call 17; have hz := hy3; refine (HT4.out _).mono ?_; rintro r y4 ⟨rfl, hy4'⟩; have hy4 : Below v88.heap.size v88 y4 := hy3.trans (hy4'.mono hy3.size))
                          | (go_at_call 17; have hz := hy2; refine (HT3.out _).mono ?_; rintro r y3 ⟨rfl, hy3'⟩; have hy3 : Below v88.heap.size v88 y3 := hy2.trans (hy3'.mono hy2.size))
                          | (go_at_call 17; have hz := hy1; refine (HT2.out _).mono ?_; rintro r y2 ⟨rfl, hy2'⟩; have hy2 : Below v88.heap.size v88 y2 := hy1.trans (hy2'.mono hy1.size))
                          | (go_at_call 17; refine (HT1.out _).mono ?_; rintro r y1 ⟨rfl, hy1'⟩; have hy1 : Below v88.heap.size v88 y1 := hr.drew.trans hy1'))
                      all_goals
                        have t1_89 := t1_88.below hy4 t1_88.lt
                        have t2_89 := t2_88.below hy4 t2_88.lt
                        have t3_89 := t3_88.below hy4 t3_88.lt
                        have t4_89 := t4_88.below hy4 t4_88.lt
                        have hb89 := hb88.trans (hy4.mono hb88.size)
                        obtain ⟨f1_0, f1_1, f1_2, f1_3⟩ := t1_89.facts
                        obtain ⟨f2_0, f2_1, f2_2, f2_3⟩ := t2_89.facts
                        obtain ⟨f3_0, f3_1, f3_2, f3_3⟩ := t3_89.facts
                        obtain ⟨f4_0, f4_1, f4_2, f4_3⟩ := t4_89.facts
                        go_wp2_with fail
                        go_ret
                        exact ⟨rfl, hb89⟩
                  · have hP1 : decide (N1 * N2 < 0) = false := by simpa using hP
                    obtain rfl : C = 0 := by rw [e, hP1]; rfl
                    clear e hP
                    have b0_0 := Two.at (w := w) (B := w.heap.size) (by simp) 23 (.int .i64 ax) (.int .i64 ay)
                    have b1_1 := Two.at (w := (w.alloc (.cells #[.int .i64 ax, .int .i64 ay] 23))) (B := w.heap.size + 1) (by simp) 23 (.int .i64 bx) (.int .i64 bz)
                    have b0_1 := b0_0.alloc (.cells #[.int .i64 bx, .int .i64 bz] 23)
                    have b2_2 := Two.at (w := ((w.alloc (.cells #[.int .i64 ax, .int .i64 ay] 23)).alloc (.cells #[.int .i64 bx, .int .i64 bz] 23))) (B := w.heap.size + 1 + 1) (by simp) 23 (.int .i64 cx) (.int .i64 cy)
                    have b0_2 := b0_1.alloc (.cells #[.int .i64 cx, .int .i64 cy] 23)
                    have b1_2 := b1_1.alloc (.cells #[.int .i64 cx, .int .i64 cy] 23)
                    have b3_3 := Two.at (w := (((w.alloc (.cells #[.int .i64 ax, .int .i64 ay] 23)).alloc (.cells #[.int .i64 bx, .int .i64 bz] 23)).alloc (.cells #[.int .i64 cx, .int .i64 cy] 23))) (B := w.heap.size + 1 + 1 + 1) (by simp) 23 (.int .i64 dx) (.int .i64 dy)
                    have b0_3 := b0_2.alloc (.cells #[.int .i64 dx, .int .i64 dy] 23)
                    have b1_3 := b1_2.alloc (.cells #[.int .i64 dx, .int .i64 dy] 23)
                    have b2_3 := b2_2.alloc (.cells #[.int .i64 dx, .int .i64 dy] 23)
                    have hb0 : Below w.heap.size w _ := (((((Below.refl w.heap.size w).alloc (by simp <;> omega) (.cells #[.int .i64 ax, .int .i64 ay] 23)).alloc (by simp <;> omega) (.cells #[.int .i64 bx, .int .i64 bz] 23)).alloc (by simp <;> omega) (.cells #[.int .i64 cx, .int .i64 cy] 23)).alloc (by simp <;> omega) (.cells #[.int .i64 dx, .int .i64 dy] 23))
                    go_enter Try.func23, Try.ntmps23
                    obtain ⟨f1_0, f1_1, f1_2, f1_3⟩ := b0_3.facts
                    obtain ⟨f2_0, f2_1, f2_2, f2_3⟩ := b1_3.facts
                    obtain ⟨f3_0, f3_1, f3_2, f3_3⟩ := b2_3.facts
                    obtain ⟨f4_0, f4_1, f4_2, f4_3⟩ := b3_3.facts
                    go_wp2_with fail
                    refine (HO1.out _).mono ?_
                    rintro r v90 ⟨rfl, hx90⟩
                    clear f1_0 f1_1 f1_2 f1_3 f2_0 f2_1 f2_2 f2_3 f3_0 f3_1 f3_2 f3_3 f4_0 f4_1 f4_2 f4_3
                    have t1_90 := b0_3.below hx90 b0_3.lt
                    clear b0_3
                    have t2_90 := b1_3.below hx90 b1_3.lt
                    clear b1_3
                    have t3_90 := b2_3.below hx90 b2_3.lt
                    clear b2_3
                    have t4_90 := b3_3.below hx90 b3_3.lt
                    clear b3_3
                    have hb90 := hb0.trans (hx90.mono hb0.size)
                    clear hb0 hx90
                    obtain ⟨f1_0, f1_1, f1_2, f1_3⟩ := t1_90.facts
                    obtain ⟨f2_0, f2_1, f2_2, f2_3⟩ := t2_90.facts
                    obtain ⟨f3_0, f3_1, f3_2, f3_3⟩ := t3_90.facts
                    obtain ⟨f4_0, f4_1, f4_2, f4_3⟩ := t4_90.facts
                    go_wp2_with fail
                    refine (HO2.out _).mono ?_
                    rintro r v91 ⟨rfl, hx91⟩
                    clear f1_0 f1_1 f1_2 f1_3 f2_0 f2_1 f2_2 f2_3 f3_0 f3_1 f3_2 f3_3 f4_0 f4_1 f4_2 f4_3
                    have t1_91 := t1_90.below hx91 t1_90.lt
                    clear t1_90
                    have t2_91 := t2_90.below hx91 t2_90.lt
                    clear t2_90
                    have t3_91 := t3_90.below hx91 t3_90.lt
                    clear t3_90
                    have t4_91 := t4_90.below hx91 t4_90.lt
                    clear t4_90
                    have hb91 := hb90.trans (hx91.mono hb90.size)
                    clear hb90 hx91
                    obtain ⟨f1_0, f1_1, f1_2, f1_3⟩ := t1_91.facts
                    obtain ⟨f2_0, f2_1, f2_2, f2_3⟩ := t2_91.facts
                    obtain ⟨f3_0, f3_1, f3_2, f3_3⟩ := t3_91.facts
                    obtain ⟨f4_0, f4_1, f4_2, f4_3⟩ := t4_91.facts
                    go_wp2_with fail
                    refine (HO3.out _).mono ?_
                    rintro r v92 ⟨rfl, hx92⟩
                    clear f1_0 f1_1 f1_2 f1_3 f2_0 f2_1 f2_2 f2_3 f3_0 f3_1 f3_2 f3_3 f4_0 f4_1 f4_2 f4_3
                    have t1_92 := t1_91.below hx92 t1_91.lt
                    clear t1_91
                    have t2_92 := t2_91.below hx92 t2_91.lt
                    clear t2_91
                    have t3_92 := t3_91.below hx92 t3_91.lt
                    clear t3_91
                    have t4_92 := t4_91.below hx92 t4_91.lt
                    clear t4_91
                    have hb92 := hb91.trans (hx92.mono hb91.size)
                    clear hb91 hx92
                    obtain ⟨f1_0, f1_1, f1_2, f1_3⟩ := t1_92.facts
                    obtain ⟨f2_0, f2_1, f2_2, f2_3⟩ := t2_92.facts
                    obtain ⟨f3_0, f3_1, f3_2, f3_3⟩ := t3_92.facts
                    obtain ⟨f4_0, f4_1, f4_2, f4_3⟩ := t4_92.facts
                    go_wp2_with fail
                    refine (HO4.out _).mono ?_
                    rintro r v93 ⟨rfl, hx93⟩
                    clear f1_0 f1_1 f1_2 f1_3 f2_0 f2_1 f2_2 f2_3 f3_0 f3_1 f3_2 f3_3 f4_0 f4_1 f4_2 f4_3
                    have t1_93 := t1_92.below hx93 t1_92.lt
                    clear t1_92
                    have t2_93 := t2_92.below hx93 t2_92.lt
                    clear t2_92
                    have t3_93 := t3_92.below hx93 t3_92.lt
                    clear t3_92
                    have t4_93 := t4_92.below hx93 t4_92.lt
                    clear t4_92
                    have hb93 := hb92.trans (hx93.mono hb92.size)
                    clear hb92 hx93
                    obtain ⟨f1_0, f1_1, f1_2, f1_3⟩ := t1_93.facts
                    obtain ⟨f2_0, f2_1, f2_2, f2_3⟩ := t2_93.facts
                    obtain ⟨f3_0, f3_1, f3_2, f3_3⟩ := t3_93.facts
                    obtain ⟨f4_0, f4_1, f4_2, f4_3⟩ := t4_93.facts
                    go_wp2_with fail
                    refine (HB1.out _).mono ?_
                    rintro r v94 ⟨rfl, hx94⟩
                    clear f1_0 f1_1 f1_2 f1_3 f2_0 f2_1 f2_2 f2_3 f3_0 f3_1 f3_2 f3_3 f4_0 f4_1 f4_2 f4_3
                    have t1_94 := t1_93.below hx94 t1_93.lt
                    clear t1_93
                    have t2_94 := t2_93.below hx94 t2_93.lt
                    clear t2_93
                    have t3_94 := t3_93.below hx94 t3_93.lt
                    clear t3_93
                    have t4_94 := t4_93.below hx94 t4_93.lt
                    clear t4_93
                    have hb94 := hb93.trans (hx94.mono hb93.size)
                    clear hb93 hx94
                    obtain ⟨f1_0, f1_1, f1_2, f1_3⟩ := t1_94.facts
                    obtain ⟨f2_0, f2_1, f2_2, f2_3⟩ := t2_94.facts
                    obtain ⟨f3_0, f3_1, f3_2, f3_3⟩ := t3_94.facts
                    obtain ⟨f4_0, f4_1, f4_2, f4_3⟩ := t4_94.facts
                    go_wp2_with fail
                    refine (HB2.out _).mono ?_
                    rintro r v95 ⟨rfl, hx95⟩
                    clear f1_0 f1_1 f1_2 f1_3 f2_0 f2_1 f2_2 f2_3 f3_0 f3_1 f3_2 f3_3 f4_0 f4_1 f4_2 f4_3
                    have t1_95 := t1_94.below hx95 t1_94.lt
                    clear t1_94
                    have t2_95 := t2_94.below hx95 t2_94.lt
                    clear t2_94
                    have t3_95 := t3_94.below hx95 t3_94.lt
                    clear t3_94
                    have t4_95 := t4_94.below hx95 t4_94.lt
                    clear t4_94
                    have hb95 := hb94.trans (hx95.mono hb94.size)
                    clear hb94 hx95
                    obtain ⟨f1_0, f1_1, f1_2, f1_3⟩ := t1_95.facts
                    obtain ⟨f2_0, f2_1, f2_2, f2_3⟩ := t2_95.facts
                    obtain ⟨f3_0, f3_1, f3_2, f3_3⟩ := t3_95.facts
                    obtain ⟨f4_0, f4_1, f4_2, f4_3⟩ := t4_95.facts
                    go_wp2_with fail
                    refine (HB3.out _).mono ?_
                    rintro r v96 ⟨rfl, hx96⟩
                    clear f1_0 f1_1 f1_2 f1_3 f2_0 f2_1 f2_2 f2_3 f3_0 f3_1 f3_2 f3_3 f4_0 f4_1 f4_2 f4_3
                    have t1_96 := t1_95.below hx96 t1_95.lt
                    clear t1_95
                    have t2_96 := t2_95.below hx96 t2_95.lt
                    clear t2_95
                    have t3_96 := t3_95.below hx96 t3_95.lt
                    clear t3_95
                    have t4_96 := t4_95.below hx96 t4_95.lt
                    clear t4_95
                    have hb96 := hb95.trans (hx96.mono hb95.size)
                    clear hb95 hx96
                    obtain ⟨f1_0, f1_1, f1_2, f1_3⟩ := t1_96.facts
                    obtain ⟨f2_0, f2_1, f2_2, f2_3⟩ := t2_96.facts
                    obtain ⟨f3_0, f3_1, f3_2, f3_3⟩ := t3_96.facts
                    obtain ⟨f4_0, f4_1, f4_2, f4_3⟩ := t4_96.facts
                    go_wp2_with fail
                    refine (HB4.out _).mono ?_
                    rintro r v97 ⟨rfl, hx97⟩
                    clear f1_0 f1_1 f1_2 f1_3 f2_0 f2_1 f2_2 f2_3 f3_0 f3_1 f3_2 f3_3 f4_0 f4_1 f4_2 f4_3
                    have t1_97 := t1_96.below hx97 t1_96.lt
                    clear t1_96
                    have t2_97 := t2_96.below hx97 t2_96.lt
                    clear t2_96
                    have t3_97 := t3_96.below hx97 t3_96.lt
                    clear t3_96
                    have t4_97 := t4_96.below hx97 t4_96.lt
                    clear t4_96
                    have hb97 := hb96.trans (hx97.mono hb96.size)
                    clear hb96 hx97
                    obtain ⟨f1_0, f1_1, f1_2, f1_3⟩ := t1_97.facts
                    obtain ⟨f2_0, f2_1, f2_2, f2_3⟩ := t2_97.facts
                    obtain ⟨f3_0, f3_1, f3_2, f3_3⟩ := t3_97.facts
                    obtain ⟨f4_0, f4_1, f4_2, f4_3⟩ := t4_97.facts
                    go_upto_region 5 with fail
                    clear f1_0 f1_1 f1_2 f1_3 f2_0 f2_1 f2_2 f2_3 f3_0 f3_1 f3_2 f3_3 f4_0 f4_1 f4_2 f4_3
                    have hS : ∀ w' : World, Below v97.heap.size v97 w' → (w'.cell? ⟨w.heap.size, 0, none⟩ = some (.int .i64 ax) ∧ w'.cell? ⟨w.heap.size, 1, none⟩ = some (.int .i64 ay)) ∧ (w'.cell? ⟨w.heap.size + 1, 0, none⟩ = some (.int .i64 bx) ∧ w'.cell? ⟨w.heap.size + 1, 1, none⟩ = some (.int .i64 bz)) ∧ (w'.cell? ⟨w.heap.size + 1 + 1, 0, none⟩ = some (.int .i64 cx) ∧ w'.cell? ⟨w.heap.size + 1 + 1, 1, none⟩ = some (.int .i64 cy)) ∧ (w'.cell? ⟨w.heap.size + 1 + 1 + 1, 0, none⟩ = some (.int .i64 dx) ∧ w'.cell? ⟨w.heap.size + 1 + 1 + 1, 1, none⟩ = some (.int .i64 dy)) := fun w' hb => ⟨two_of t1_97 hb, two_of t2_97 hb, two_of t3_97 hb, two_of t4_97 hb⟩
                    have hS0 := hS _ (Below.refl v97.heap.size v97).drew
                    refine wp_region_held_drew (S := fun w' => (w'.cell? ⟨w.heap.size, 0, none⟩ = some (.int .i64 ax) ∧ w'.cell? ⟨w.heap.size, 1, none⟩ = some (.int .i64 ay)) ∧ (w'.cell? ⟨w.heap.size + 1, 0, none⟩ = some (.int .i64 bx) ∧ w'.cell? ⟨w.heap.size + 1, 1, none⟩ = some (.int .i64 bz)) ∧ (w'.cell? ⟨w.heap.size + 1 + 1, 0, none⟩ = some (.int .i64 cx) ∧ w'.cell? ⟨w.heap.size + 1 + 1, 1, none⟩ = some (.int .i64 cy)) ∧ (w'.cell? ⟨w.heap.size + 1 + 1 + 1, 0, none⟩ = some (.int .i64 dx) ∧ w'.cell? ⟨w.heap.size + 1 + 1 + 1, 1, none⟩ = some (.int .i64 dy))) (by kernel_rfl) hS0 (fun _ => ?_)
                    refine Ri.take_d (i := 0) (v := .agg #[.int .i64 ax, .int .i64 ay]) (some 49) rfl rfl (by kernel_rfl) (by kernel_rfl) (by kernel_rfl) (fun _ _ _ h => h) (Or.inl ⟨by kernel_rfl, ?_⟩) hS0 ?_
                    · intro w' hSw; (try dsimp only at hSw); go_simp
                    simp only [Act.put, List.setIfInBounds_toArray, List.set_cons_zero, List.set_cons_succ]
                    refine Ri.take_d (i := 1) (v := .agg #[.int .i64 bx, .int .i64 bz]) (some 50) rfl rfl (by kernel_rfl) (by kernel_rfl) (by kernel_rfl) (fun _ _ _ h => h) (Or.inl ⟨by kernel_rfl, ?_⟩) hS0 ?_
                    · intro w' hSw; (try dsimp only at hSw); go_simp
                    simp only [Act.put, List.setIfInBounds_toArray, List.set_cons_zero, List.set_cons_succ]
                    refine Ri.take_d (i := 2) (v := .agg #[.int .i64 cx, .int .i64 cy]) (some 51) rfl rfl (by kernel_rfl) (by kernel_rfl) (by kernel_rfl) (fun _ _ _ h => h) (Or.inl ⟨by kernel_rfl, ?_⟩) hS0 ?_
                    · intro w' hSw; (try dsimp only at hSw); go_simp
                    simp only [Act.put, List.setIfInBounds_toArray, List.set_cons_zero, List.set_cons_succ]
                    refine Ri.take_d (i := 4) (v := .agg #[.int .i64 ax, .int .i64 ay]) (some 53) rfl rfl (by kernel_rfl) (by kernel_rfl) (by kernel_rfl) (fun _ _ _ h => h) (Or.inl ⟨by kernel_rfl, ?_⟩) hS0 ?_
                    · intro w' hSw; (try dsimp only at hSw); go_simp
                    simp only [Act.put, List.setIfInBounds_toArray, List.set_cons_zero, List.set_cons_succ]
                    refine Ri.take_d (i := 5) (v := .agg #[.int .i64 bx, .int .i64 bz]) (some 54) rfl rfl (by kernel_rfl) (by kernel_rfl) (by kernel_rfl) (fun _ _ _ h => h) (Or.inl ⟨by kernel_rfl, ?_⟩) hS0 ?_
                    · intro w' hSw; (try dsimp only at hSw); go_simp
                    simp only [Act.put, List.setIfInBounds_toArray, List.set_cons_zero, List.set_cons_succ]
                    refine Ri.take_d (i := 6) (v := .agg #[.int .i64 dx, .int .i64 dy]) (some 55) rfl rfl (by kernel_rfl) (by kernel_rfl) (by kernel_rfl) (fun _ _ _ h => h) (Or.inl ⟨by kernel_rfl, ?_⟩) hS0 ?_
                    · intro w' hSw; (try dsimp only at hSw); go_simp
                    simp only [Act.put, List.setIfInBounds_toArray, List.set_cons_zero, List.set_cons_succ]
                    refine wpAnyH_ready (rs := [3]) (by kernel_rfl) (by simp) ?_
                    refine AllReadyH.cons rfl (fun K hK => ?_) AllReadyH.nil
                    rw [if_pos (by rfl)]
                    go_simp
                    go_at_call 17
                    refine (HT1.out _).mono ?_
                    rintro r y1 ⟨rfl, hy1'⟩
                    have hy1 : Below v97.heap.size v97 y1 := (Below.refl v97.heap.size v97).drew.trans hy1'
                    have hS1 := hS _ hy1
                    refine hK.out _ _ hS1 (fun _ => ?_)
                    clear hK K
                    try simp only [Act.put, List.setIfInBounds_toArray, List.set_cons_zero, List.set_cons_succ]
                    refine wpAnyH_ready (rs := [7]) (by kernel_rfl) (by simp) ?_
                    refine AllReadyH.cons rfl (fun K hK => ?_) AllReadyH.nil
                    rw [if_pos (by rfl)]
                    go_simp
                    go_at_call 17
                    refine (HT2.out _).mono ?_
                    rintro r y2 ⟨rfl, hy2'⟩
                    have hy2 : Below v97.heap.size v97 y2 := hy1.trans (hy2'.mono hy1.size)
                    have hS2 := hS _ hy2
                    refine hK.out _ _ hS2 (fun _ => ?_)
                    clear hK K
                    try simp only [Act.put, List.setIfInBounds_toArray, List.set_cons_zero, List.set_cons_succ]
                    refine Ri.take_d (i := 8) (v := .int .i64 (N1 * N2)) (some 57) rfl rfl (by kernel_rfl) (by kernel_rfl) (by kernel_rfl) (fun _ _ _ h => h) (Or.inl ⟨by kernel_rfl, ?_⟩) hS2 ?_
                    · intro w' hSw; (try dsimp only at hSw); go_simp
                    simp only [Act.put, List.setIfInBounds_toArray, List.set_cons_zero, List.set_cons_succ]
                    refine Ri.take_d (i := 9) (v := .bool false) (some 58) rfl rfl (by kernel_rfl) (by kernel_rfl) (by kernel_rfl) (fun _ _ _ h => h) (Or.inl ⟨by kernel_rfl, ?_⟩) hS2 ?_
                    · intro w' hSw; (try dsimp only at hSw); go_simp
                    simp only [Act.put, List.setIfInBounds_toArray, List.set_cons_zero, List.set_cons_succ]
                    refine Ri.take_d (i := 10) (v := .bool false) (some 59) rfl rfl (by kernel_rfl) (by kernel_rfl) (by kernel_rfl) (fun _ _ _ h => h) (Or.inl ⟨by kernel_rfl, ?_⟩) hS2 ?_
                    · intro w' hSw; (try dsimp only at hSw); go_simp
                    simp only [Act.put, List.setIfInBounds_toArray, List.set_cons_zero, List.set_cons_succ]
                    refine Ri.take_d (i := 11) (v := undef) (some 60) rfl rfl (by kernel_rfl) (by kernel_rfl) (by kernel_rfl) (fun _ _ _ h => h) (Or.inr ⟨by kernel_rfl, rfl⟩) hS2 ?_
                    simp only [Act.put, List.setIfInBounds_toArray, List.set_cons_zero, List.set_cons_succ]
                    refine Ri.take_d (i := 12) (v := undef) (some 61) rfl rfl (by kernel_rfl) (by kernel_rfl) (by kernel_rfl) (fun _ _ _ h => h) (Or.inr ⟨by kernel_rfl, rfl⟩) hS2 ?_
                    simp only [Act.put, List.setIfInBounds_toArray, List.set_cons_zero, List.set_cons_succ]
                    refine Ri.take_d (i := 13) (v := undef) (some 62) rfl rfl (by kernel_rfl) (by kernel_rfl) (by kernel_rfl) (fun _ _ _ h => h) (Or.inr ⟨by kernel_rfl, rfl⟩) hS2 ?_
                    simp only [Act.put, List.setIfInBounds_toArray, List.set_cons_zero, List.set_cons_succ]
                    refine Ri.take_d (i := 14) (v := undef) (some 63) rfl rfl (by kernel_rfl) (by kernel_rfl) (by kernel_rfl) (fun _ _ _ h => h) (Or.inr ⟨by kernel_rfl, rfl⟩) hS2 ?_
                    simp only [Act.put, List.setIfInBounds_toArray, List.set_cons_zero, List.set_cons_succ]
                    refine Ri.take_d (i := 15) (v := undef) (some 64) rfl rfl (by kernel_rfl) (by kernel_rfl) (by kernel_rfl) (fun _ _ _ h => h) (Or.inr ⟨by kernel_rfl, rfl⟩) hS2 ?_
                    simp only [Act.put, List.setIfInBounds_toArray, List.set_cons_zero, List.set_cons_succ]
                    refine Ri.take_d (i := 16) (v := undef) (some 65) rfl rfl (by kernel_rfl) (by kernel_rfl) (by kernel_rfl) (fun _ _ _ h => h) (Or.inr ⟨by kernel_rfl, rfl⟩) hS2 ?_
                    simp only [Act.put, List.setIfInBounds_toArray, List.set_cons_zero, List.set_cons_succ]
                    refine Ri.take_d (i := 17) (v := undef) (some 66) rfl rfl (by kernel_rfl) (by kernel_rfl) (by kernel_rfl) (fun _ _ _ h => h) (Or.inr ⟨by kernel_rfl, rfl⟩) hS2 ?_
                    simp only [Act.put, List.setIfInBounds_toArray, List.set_cons_zero, List.set_cons_succ]
                    refine Ri.take_d (i := 18) (v := undef) (some 67) rfl rfl (by kernel_rfl) (by kernel_rfl) (by kernel_rfl) (fun _ _ _ h => h) (Or.inr ⟨by kernel_rfl, rfl⟩) hS2 ?_
                    simp only [Act.put, List.setIfInBounds_toArray, List.set_cons_zero, List.set_cons_succ]
                    refine Ri.take_d (i := 19) (v := undef) (some 68) rfl rfl (by kernel_rfl) (by kernel_rfl) (by kernel_rfl) (fun _ _ _ h => h) (Or.inr ⟨by kernel_rfl, rfl⟩) hS2 ?_
                    simp only [Act.put, List.setIfInBounds_toArray, List.set_cons_zero, List.set_cons_succ]
                    refine Ri.take_d (i := 20) (v := undef) (some 69) rfl rfl (by kernel_rfl) (by kernel_rfl) (by kernel_rfl) (fun _ _ _ h => h) (Or.inr ⟨by kernel_rfl, rfl⟩) hS2 ?_
                    simp only [Act.put, List.setIfInBounds_toArray, List.set_cons_zero, List.set_cons_succ]
                    refine Ri.take_d (i := 21) (v := .bool false) (some 70) rfl rfl (by kernel_rfl) (by kernel_rfl) (by kernel_rfl) (fun _ _ _ h => h) (Or.inl ⟨by kernel_rfl, ?_⟩) hS2 ?_
                    · intro w' hSw; (try dsimp only at hSw); go_simp
                    simp only [Act.put, List.setIfInBounds_toArray, List.set_cons_zero, List.set_cons_succ]
                    refine wpAnyH_done (by kernel_rfl) ?_ _
                    have t1_98 := t1_97.below hy2 t1_97.lt
                    have t2_98 := t2_97.below hy2 t2_97.lt
                    have t3_98 := t3_97.below hy2 t3_97.lt
                    have t4_98 := t4_97.below hy2 t4_97.lt
                    have hb98 := hb97.trans (hy2.mono hb97.size)
                    obtain ⟨f1_0, f1_1, f1_2, f1_3⟩ := t1_98.facts
                    obtain ⟨f2_0, f2_1, f2_2, f2_3⟩ := t2_98.facts
                    obtain ⟨f3_0, f3_1, f3_2, f3_3⟩ := t3_98.facts
                    obtain ⟨f4_0, f4_1, f4_2, f4_3⟩ := t4_98.facts
                    go_wp2_with fail
                    go_ret
                    exact ⟨rfl, hb98⟩
        · have HO4 := Lib.hid (fun w => r_on_no dx dy h4 w)
          rw [show crossV ax ay bx bz cx cy dx dy = 0 from if_neg (fun k => h4 k.2.2.2)]
          have b0_0 := Two.at (w := w) (B := w.heap.size) (by simp) 23 (.int .i64 ax) (.int .i64 ay)
          have b1_1 := Two.at (w := (w.alloc (.cells #[.int .i64 ax, .int .i64 ay] 23))) (B := w.heap.size + 1) (by simp) 23 (.int .i64 bx) (.int .i64 bz)
          have b0_1 := b0_0.alloc (.cells #[.int .i64 bx, .int .i64 bz] 23)
          have b2_2 := Two.at (w := ((w.alloc (.cells #[.int .i64 ax, .int .i64 ay] 23)).alloc (.cells #[.int .i64 bx, .int .i64 bz] 23))) (B := w.heap.size + 1 + 1) (by simp) 23 (.int .i64 cx) (.int .i64 cy)
          have b0_2 := b0_1.alloc (.cells #[.int .i64 cx, .int .i64 cy] 23)
          have b1_2 := b1_1.alloc (.cells #[.int .i64 cx, .int .i64 cy] 23)
          have b3_3 := Two.at (w := (((w.alloc (.cells #[.int .i64 ax, .int .i64 ay] 23)).alloc (.cells #[.int .i64 bx, .int .i64 bz] 23)).alloc (.cells #[.int .i64 cx, .int .i64 cy] 23))) (B := w.heap.size + 1 + 1 + 1) (by simp) 23 (.int .i64 dx) (.int .i64 dy)
          have b0_3 := b0_2.alloc (.cells #[.int .i64 dx, .int .i64 dy] 23)
          have b1_3 := b1_2.alloc (.cells #[.int .i64 dx, .int .i64 dy] 23)
          have b2_3 := b2_2.alloc (.cells #[.int .i64 dx, .int .i64 dy] 23)
          have hb0 : Below w.heap.size w _ := (((((Below.refl w.heap.size w).alloc (by simp <;> omega) (.cells #[.int .i64 ax, .int .i64 ay] 23)).alloc (by simp <;> omega) (.cells #[.int .i64 bx, .int .i64 bz] 23)).alloc (by simp <;> omega) (.cells #[.int .i64 cx, .int .i64 cy] 23)).alloc (by simp <;> omega) (.cells #[.int .i64 dx, .int .i64 dy] 23))
          go_enter Try.func23, Try.ntmps23
          obtain ⟨f1_0, f1_1, f1_2, f1_3⟩ := b0_3.facts
          obtain ⟨f2_0, f2_1, f2_2, f2_3⟩ := b1_3.facts
          obtain ⟨f3_0, f3_1, f3_2, f3_3⟩ := b2_3.facts
          obtain ⟨f4_0, f4_1, f4_2, f4_3⟩ := b3_3.facts
          go_wp2_with fail
          refine (HO1.out _).mono ?_
          rintro r v99 ⟨rfl, hx99⟩
          clear f1_0 f1_1 f1_2 f1_3 f2_0 f2_1 f2_2 f2_3 f3_0 f3_1 f3_2 f3_3 f4_0 f4_1 f4_2 f4_3
          have t1_99 := b0_3.below hx99 b0_3.lt
          clear b0_3
          have t2_99 := b1_3.below hx99 b1_3.lt
          clear b1_3
          have t3_99 := b2_3.below hx99 b2_3.lt
          clear b2_3
          have t4_99 := b3_3.below hx99 b3_3.lt
          clear b3_3
          have hb99 := hb0.trans (hx99.mono hb0.size)
          clear hb0 hx99
          obtain ⟨f1_0, f1_1, f1_2, f1_3⟩ := t1_99.facts
          obtain ⟨f2_0, f2_1, f2_2, f2_3⟩ := t2_99.facts
          obtain ⟨f3_0, f3_1, f3_2, f3_3⟩ := t3_99.facts
          obtain ⟨f4_0, f4_1, f4_2, f4_3⟩ := t4_99.facts
          go_wp2_with fail
          refine (HO2.out _).mono ?_
          rintro r v100 ⟨rfl, hx100⟩
          clear f1_0 f1_1 f1_2 f1_3 f2_0 f2_1 f2_2 f2_3 f3_0 f3_1 f3_2 f3_3 f4_0 f4_1 f4_2 f4_3
          have t1_100 := t1_99.below hx100 t1_99.lt
          clear t1_99
          have t2_100 := t2_99.below hx100 t2_99.lt
          clear t2_99
          have t3_100 := t3_99.below hx100 t3_99.lt
          clear t3_99
          have t4_100 := t4_99.below hx100 t4_99.lt
          clear t4_99
          have hb100 := hb99.trans (hx100.mono hb99.size)
          clear hb99 hx100
          obtain ⟨f1_0, f1_1, f1_2, f1_3⟩ := t1_100.facts
          obtain ⟨f2_0, f2_1, f2_2, f2_3⟩ := t2_100.facts
          obtain ⟨f3_0, f3_1, f3_2, f3_3⟩ := t3_100.facts
          obtain ⟨f4_0, f4_1, f4_2, f4_3⟩ := t4_100.facts
          go_wp2_with fail
          refine (HO3.out _).mono ?_
          rintro r v101 ⟨rfl, hx101⟩
          clear f1_0 f1_1 f1_2 f1_3 f2_0 f2_1 f2_2 f2_3 f3_0 f3_1 f3_2 f3_3 f4_0 f4_1 f4_2 f4_3
          have t1_101 := t1_100.below hx101 t1_100.lt
          clear t1_100
          have t2_101 := t2_100.below hx101 t2_100.lt
          clear t2_100
          have t3_101 := t3_100.below hx101 t3_100.lt
          clear t3_100
          have t4_101 := t4_100.below hx101 t4_100.lt
          clear t4_100
          have hb101 := hb100.trans (hx101.mono hb100.size)
          clear hb100 hx101
          obtain ⟨f1_0, f1_1, f1_2, f1_3⟩ := t1_101.facts
          obtain ⟨f2_0, f2_1, f2_2, f2_3⟩ := t2_101.facts
          obtain ⟨f3_0, f3_1, f3_2, f3_3⟩ := t3_101.facts
          obtain ⟨f4_0, f4_1, f4_2, f4_3⟩ := t4_101.facts
          go_wp2_with fail
          refine (HO4.out _).mono ?_
          rintro r v102 ⟨rfl, hx102⟩
          clear f1_0 f1_1 f1_2 f1_3 f2_0 f2_1 f2_2 f2_3 f3_0 f3_1 f3_2 f3_3 f4_0 f4_1 f4_2 f4_3
          have t1_102 := t1_101.below hx102 t1_101.lt
          clear t1_101
          have t2_102 := t2_101.below hx102 t2_101.lt
          clear t2_101
          have t3_102 := t3_101.below hx102 t3_101.lt
          clear t3_101
          have t4_102 := t4_101.below hx102 t4_101.lt
          clear t4_101
          have hb102 := hb101.trans (hx102.mono hb101.size)
          clear hb101 hx102
          go_wp2_with fail
          go_ret
          exact ⟨rfl, hb102⟩
      · have HO3 := Lib.hid (fun w => r_on_no cx cy h3 w)
        rw [show crossV ax ay bx bz cx cy dx dy = 0 from if_neg (fun k => h3 k.2.2.1)]
        have b0_0 := Two.at (w := w) (B := w.heap.size) (by simp) 23 (.int .i64 ax) (.int .i64 ay)
        have b1_1 := Two.at (w := (w.alloc (.cells #[.int .i64 ax, .int .i64 ay] 23))) (B := w.heap.size + 1) (by simp) 23 (.int .i64 bx) (.int .i64 bz)
        have b0_1 := b0_0.alloc (.cells #[.int .i64 bx, .int .i64 bz] 23)
        have b2_2 := Two.at (w := ((w.alloc (.cells #[.int .i64 ax, .int .i64 ay] 23)).alloc (.cells #[.int .i64 bx, .int .i64 bz] 23))) (B := w.heap.size + 1 + 1) (by simp) 23 (.int .i64 cx) (.int .i64 cy)
        have b0_2 := b0_1.alloc (.cells #[.int .i64 cx, .int .i64 cy] 23)
        have b1_2 := b1_1.alloc (.cells #[.int .i64 cx, .int .i64 cy] 23)
        have b3_3 := Two.at (w := (((w.alloc (.cells #[.int .i64 ax, .int .i64 ay] 23)).alloc (.cells #[.int .i64 bx, .int .i64 bz] 23)).alloc (.cells #[.int .i64 cx, .int .i64 cy] 23))) (B := w.heap.size + 1 + 1 + 1) (by simp) 23 (.int .i64 dx) (.int .i64 dy)
        have b0_3 := b0_2.alloc (.cells #[.int .i64 dx, .int .i64 dy] 23)
        have b1_3 := b1_2.alloc (.cells #[.int .i64 dx, .int .i64 dy] 23)
        have b2_3 := b2_2.alloc (.cells #[.int .i64 dx, .int .i64 dy] 23)
        have hb0 : Below w.heap.size w _ := (((((Below.refl w.heap.size w).alloc (by simp <;> omega) (.cells #[.int .i64 ax, .int .i64 ay] 23)).alloc (by simp <;> omega) (.cells #[.int .i64 bx, .int .i64 bz] 23)).alloc (by simp <;> omega) (.cells #[.int .i64 cx, .int .i64 cy] 23)).alloc (by simp <;> omega) (.cells #[.int .i64 dx, .int .i64 dy] 23))
        go_enter Try.func23, Try.ntmps23
        obtain ⟨f1_0, f1_1, f1_2, f1_3⟩ := b0_3.facts
        obtain ⟨f2_0, f2_1, f2_2, f2_3⟩ := b1_3.facts
        obtain ⟨f3_0, f3_1, f3_2, f3_3⟩ := b2_3.facts
        obtain ⟨f4_0, f4_1, f4_2, f4_3⟩ := b3_3.facts
        go_wp2_with fail
        refine (HO1.out _).mono ?_
        rintro r v103 ⟨rfl, hx103⟩
        clear f1_0 f1_1 f1_2 f1_3 f2_0 f2_1 f2_2 f2_3 f3_0 f3_1 f3_2 f3_3 f4_0 f4_1 f4_2 f4_3
        have t1_103 := b0_3.below hx103 b0_3.lt
        clear b0_3
        have t2_103 := b1_3.below hx103 b1_3.lt
        clear b1_3
        have t3_103 := b2_3.below hx103 b2_3.lt
        clear b2_3
        have t4_103 := b3_3.below hx103 b3_3.lt
        clear b3_3
        have hb103 := hb0.trans (hx103.mono hb0.size)
        clear hb0 hx103
        obtain ⟨f1_0, f1_1, f1_2, f1_3⟩ := t1_103.facts
        obtain ⟨f2_0, f2_1, f2_2, f2_3⟩ := t2_103.facts
        obtain ⟨f3_0, f3_1, f3_2, f3_3⟩ := t3_103.facts
        obtain ⟨f4_0, f4_1, f4_2, f4_3⟩ := t4_103.facts
        go_wp2_with fail
        refine (HO2.out _).mono ?_
        rintro r v104 ⟨rfl, hx104⟩
        clear f1_0 f1_1 f1_2 f1_3 f2_0 f2_1 f2_2 f2_3 f3_0 f3_1 f3_2 f3_3 f4_0 f4_1 f4_2 f4_3
        have t1_104 := t1_103.below hx104 t1_103.lt
        clear t1_103
        have t2_104 := t2_103.below hx104 t2_103.lt
        clear t2_103
        have t3_104 := t3_103.below hx104 t3_103.lt
        clear t3_103
        have t4_104 := t4_103.below hx104 t4_103.lt
        clear t4_103
        have hb104 := hb103.trans (hx104.mono hb103.size)
        clear hb103 hx104
        obtain ⟨f1_0, f1_1, f1_2, f1_3⟩ := t1_104.facts
        obtain ⟨f2_0, f2_1, f2_2, f2_3⟩ := t2_104.facts
        obtain ⟨f3_0, f3_1, f3_2, f3_3⟩ := t3_104.facts
        obtain ⟨f4_0, f4_1, f4_2, f4_3⟩ := t4_104.facts
        go_wp2_with fail
        refine (HO3.out _).mono ?_
        rintro r v105 ⟨rfl, hx105⟩
        clear f1_0 f1_1 f1_2 f1_3 f2_0 f2_1 f2_2 f2_3 f3_0 f3_1 f3_2 f3_3 f4_0 f4_1 f4_2 f4_3
        have t1_105 := t1_104.below hx105 t1_104.lt
        clear t1_104
        have t2_105 := t2_104.below hx105 t2_104.lt
        clear t2_104
        have t3_105 := t3_104.below hx105 t3_104.lt
        clear t3_104
        have t4_105 := t4_104.below hx105 t4_104.lt
        clear t4_104
        have hb105 := hb104.trans (hx105.mono hb104.size)
        clear hb104 hx105
        go_wp2_with fail
        go_ret
        exact ⟨rfl, hb105⟩
    · have HO2 := Lib.hid (fun w => r_on_no bx bz h2 w)
      rw [show crossV ax ay bx bz cx cy dx dy = 0 from if_neg (fun k => h2 k.2.1)]
      have b0_0 := Two.at (w := w) (B := w.heap.size) (by simp) 23 (.int .i64 ax) (.int .i64 ay)
      have b1_1 := Two.at (w := (w.alloc (.cells #[.int .i64 ax, .int .i64 ay] 23))) (B := w.heap.size + 1) (by simp) 23 (.int .i64 bx) (.int .i64 bz)
      have b0_1 := b0_0.alloc (.cells #[.int .i64 bx, .int .i64 bz] 23)
      have b2_2 := Two.at (w := ((w.alloc (.cells #[.int .i64 ax, .int .i64 ay] 23)).alloc (.cells #[.int .i64 bx, .int .i64 bz] 23))) (B := w.heap.size + 1 + 1) (by simp) 23 (.int .i64 cx) (.int .i64 cy)
      have b0_2 := b0_1.alloc (.cells #[.int .i64 cx, .int .i64 cy] 23)
      have b1_2 := b1_1.alloc (.cells #[.int .i64 cx, .int .i64 cy] 23)
      have b3_3 := Two.at (w := (((w.alloc (.cells #[.int .i64 ax, .int .i64 ay] 23)).alloc (.cells #[.int .i64 bx, .int .i64 bz] 23)).alloc (.cells #[.int .i64 cx, .int .i64 cy] 23))) (B := w.heap.size + 1 + 1 + 1) (by simp) 23 (.int .i64 dx) (.int .i64 dy)
      have b0_3 := b0_2.alloc (.cells #[.int .i64 dx, .int .i64 dy] 23)
      have b1_3 := b1_2.alloc (.cells #[.int .i64 dx, .int .i64 dy] 23)
      have b2_3 := b2_2.alloc (.cells #[.int .i64 dx, .int .i64 dy] 23)
      have hb0 : Below w.heap.size w _ := (((((Below.refl w.heap.size w).alloc (by simp <;> omega) (.cells #[.int .i64 ax, .int .i64 ay] 23)).alloc (by simp <;> omega) (.cells #[.int .i64 bx, .int .i64 bz] 23)).alloc (by simp <;> omega) (.cells #[.int .i64 cx, .int .i64 cy] 23)).alloc (by simp <;> omega) (.cells #[.int .i64 dx, .int .i64 dy] 23))
      go_enter Try.func23, Try.ntmps23
      obtain ⟨f1_0, f1_1, f1_2, f1_3⟩ := b0_3.facts
      obtain ⟨f2_0, f2_1, f2_2, f2_3⟩ := b1_3.facts
      obtain ⟨f3_0, f3_1, f3_2, f3_3⟩ := b2_3.facts
      obtain ⟨f4_0, f4_1, f4_2, f4_3⟩ := b3_3.facts
      go_wp2_with fail
      refine (HO1.out _).mono ?_
      rintro r v106 ⟨rfl, hx106⟩
      clear f1_0 f1_1 f1_2 f1_3 f2_0 f2_1 f2_2 f2_3 f3_0 f3_1 f3_2 f3_3 f4_0 f4_1 f4_2 f4_3
      have t1_106 := b0_3.below hx106 b0_3.lt
      clear b0_3
      have t2_106 := b1_3.below hx106 b1_3.lt
      clear b1_3
      have t3_106 := b2_3.below hx106 b2_3.lt
      clear b2_3
      have t4_106 := b3_3.below hx106 b3_3.lt
      clear b3_3
      have hb106 := hb0.trans (hx106.mono hb0.size)
      clear hb0 hx106
      obtain ⟨f1_0, f1_1, f1_2, f1_3⟩ := t1_106.facts
      obtain ⟨f2_0, f2_1, f2_2, f2_3⟩ := t2_106.facts
      obtain ⟨f3_0, f3_1, f3_2, f3_3⟩ := t3_106.facts
      obtain ⟨f4_0, f4_1, f4_2, f4_3⟩ := t4_106.facts
      go_wp2_with fail
      refine (HO2.out _).mono ?_
      rintro r v107 ⟨rfl, hx107⟩
      clear f1_0 f1_1 f1_2 f1_3 f2_0 f2_1 f2_2 f2_3 f3_0 f3_1 f3_2 f3_3 f4_0 f4_1 f4_2 f4_3
      have t1_107 := t1_106.below hx107 t1_106.lt
      clear t1_106
      have t2_107 := t2_106.below hx107 t2_106.lt
      clear t2_106
      have t3_107 := t3_106.below hx107 t3_106.lt
      clear t3_106
      have t4_107 := t4_106.below hx107 t4_106.lt
      clear t4_106
      have hb107 := hb106.trans (hx107.mono hb106.size)
      clear hb106 hx107
      go_wp2_with fail
      go_ret
      exact ⟨rfl, hb107⟩
  · have HO1 := Lib.hid (fun w => r_on_no ax ay h1 w)
    rw [show crossV ax ay bx bz cx cy dx dy = 0 from if_neg (fun k => h1 k.1)]
    have b0_0 := Two.at (w := w) (B := w.heap.size) (by simp) 23 (.int .i64 ax) (.int .i64 ay)
    have b1_1 := Two.at (w := (w.alloc (.cells #[.int .i64 ax, .int .i64 ay] 23))) (B := w.heap.size + 1) (by simp) 23 (.int .i64 bx) (.int .i64 bz)
    have b0_1 := b0_0.alloc (.cells #[.int .i64 bx, .int .i64 bz] 23)
    have b2_2 := Two.at (w := ((w.alloc (.cells #[.int .i64 ax, .int .i64 ay] 23)).alloc (.cells #[.int .i64 bx, .int .i64 bz] 23))) (B := w.heap.size + 1 + 1) (by simp) 23 (.int .i64 cx) (.int .i64 cy)
    have b0_2 := b0_1.alloc (.cells #[.int .i64 cx, .int .i64 cy] 23)
    have b1_2 := b1_1.alloc (.cells #[.int .i64 cx, .int .i64 cy] 23)
    have b3_3 := Two.at (w := (((w.alloc (.cells #[.int .i64 ax, .int .i64 ay] 23)).alloc (.cells #[.int .i64 bx, .int .i64 bz] 23)).alloc (.cells #[.int .i64 cx, .int .i64 cy] 23))) (B := w.heap.size + 1 + 1 + 1) (by simp) 23 (.int .i64 dx) (.int .i64 dy)
    have b0_3 := b0_2.alloc (.cells #[.int .i64 dx, .int .i64 dy] 23)
    have b1_3 := b1_2.alloc (.cells #[.int .i64 dx, .int .i64 dy] 23)
    have b2_3 := b2_2.alloc (.cells #[.int .i64 dx, .int .i64 dy] 23)
    have hb0 : Below w.heap.size w _ := (((((Below.refl w.heap.size w).alloc (by simp <;> omega) (.cells #[.int .i64 ax, .int .i64 ay] 23)).alloc (by simp <;> omega) (.cells #[.int .i64 bx, .int .i64 bz] 23)).alloc (by simp <;> omega) (.cells #[.int .i64 cx, .int .i64 cy] 23)).alloc (by simp <;> omega) (.cells #[.int .i64 dx, .int .i64 dy] 23))
    go_enter Try.func23, Try.ntmps23
    obtain ⟨f1_0, f1_1, f1_2, f1_3⟩ := b0_3.facts
    obtain ⟨f2_0, f2_1, f2_2, f2_3⟩ := b1_3.facts
    obtain ⟨f3_0, f3_1, f3_2, f3_3⟩ := b2_3.facts
    obtain ⟨f4_0, f4_1, f4_2, f4_3⟩ := b3_3.facts
    go_wp2_with fail
    refine (HO1.out _).mono ?_
    rintro r v108 ⟨rfl, hx108⟩
    clear f1_0 f1_1 f1_2 f1_3 f2_0 f2_1 f2_2 f2_3 f3_0 f3_1 f3_2 f3_3 f4_0 f4_1 f4_2 f4_3
    have t1_108 := b0_3.below hx108 b0_3.lt
    clear b0_3
    have t2_108 := b1_3.below hx108 b1_3.lt
    clear b1_3
    have t3_108 := b2_3.below hx108 b2_3.lt
    clear b2_3
    have t4_108 := b3_3.below hx108 b3_3.lt
    clear b3_3
    have hb108 := hb0.trans (hx108.mono hb0.size)
    clear hb0 hx108
    go_wp2_with fail
    go_ret
    exact ⟨rfl, hb108⟩
end Go.Proofs.Ytbkeennjoepmmaa.Ge
