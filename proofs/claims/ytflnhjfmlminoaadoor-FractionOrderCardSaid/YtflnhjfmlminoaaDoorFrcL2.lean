/- The walk of FractionOrder. -/
import Derived.Test.YtflnhjfmlminoaaDoorFrcH
import Derived.Test.YtflnhjfmlminoaaDoorFrcLaw
import Derived.Deep.DeepCutAuto
namespace Go.Proofs.YtflnhjfmlminoaaDoor.Fr
set_option linter.unusedVariables false
set_option linter.unusedSimpArgs false
open Go.RowKit

theorem eq_ways {n d m e : Int} (h : valP n d) (k : valP m e) : (cmpV n d m e = 0 ∧ (n == m) = true ∧ (d == e) = true) ∨ (cmpV n d m e ≠ 0 ∧ ((n == m) = false ∨ ((n == m) = true ∧ (d == e) = false))) := by
  rw [cmp_rat h k]
  by_cases hr : rat n d = rat m e
  · obtain ⟨rfl, rfl⟩ := rat_inj h k hr
    exact .inl ⟨cmpR_eq rfl, by simp, by simp⟩
  · refine .inr ⟨?_, ?_⟩
    · unfold cmpR
      rw [if_neg hr]
      split <;> omega
    · by_cases h1 : n = m
      · subst h1
        refine .inr ⟨by simp, ?_⟩
        rw [beq_eq_false_iff_ne]
        rintro rfl
        exact hr rfl
      · exact .inl (by simpa using h1)

set_option maxRecDepth 100000 in
set_option maxHeartbeats 4000000 in
theorem lawOrder (n d m e p q : Int) (hn1 : -9223372036854775808 ≤ n) (hn2 : n ≤ 9223372036854775807) (hd1 : -9223372036854775808 ≤ d) (hd2 : d ≤ 9223372036854775807) (hm1 : -9223372036854775808 ≤ m) (hm2 : m ≤ 9223372036854775807) (he1 : -9223372036854775808 ≤ e) (he2 : e ≤ 9223372036854775807) (hp1 : -9223372036854775808 ≤ p) (hp2 : p ≤ 9223372036854775807) (hq1 : -9223372036854775808 ≤ q) (hq2 : q ≤ 9223372036854775807) (w : World) (hl : Lay w) :
    Calls Tryd.prog 5 #[.agg #[.int .i64 n, .int .i64 d], .agg #[.int .i64 m, .int .i64 e], .agg #[.int .i64 p, .int .i64 q]] w fun r w' => r = .returned (.bool true) ∧ Below w.heap.size w w' := by
  by_cases hf : valP n d
  · by_cases hg : valP m e
    · by_cases hh : valP p q
      · have hW := ways (rat n d) (rat m e) (rat p q)
        rw [← cmp_rat hf hg, ← cmp_rat hg hf, ← cmp_rat hg hh, ← cmp_rat hf hh] at hW
        have hE := eq_ways hf hg
        have c1 := fun w => compare_any n d m e w
        have c2 := fun w => compare_any m e n d w
        have c3 := fun w => compare_any m e p q w
        have c4 := fun w => compare_any n d p q w
        rw [cmp_err hf hg] at c1
        rw [cmp_err hg hf] at c2
        rw [cmp_err hg hh] at c3
        rw [cmp_err hf hh] at c4
        have hA1 := fun w => add_any n d p q w
        have hA2 := fun w => add_any m e p q w
        have hA : (addE n d p q = 0 ∧ addE m e p q = 0 ∧ cmpV (addN n d p q) (addD n d p q) (addN m e p q) (addD m e p q) = cmpV n d m e ∧ cmpE (addN n d p q) (addD n d p q) (addN m e p q) (addD m e p q) = 0) ∨ addE n d p q = 9 ∨ (addE n d p q = 0 ∧ addE m e p q = 9) := by
          rcases add_terms hf hh with ⟨-, x1, x2, x3⟩ | ⟨-, x1, -, -⟩
          · rcases add_terms hg hh with ⟨-, y1, y2, y3⟩ | ⟨-, y1, -, -⟩
            · exact .inl ⟨x1, y1, by rw [cmp_rat x2 y2, x3, y3, cmpR_add, cmp_rat hf hg], cmp_err x2 y2⟩
            · exact .inr (.inr ⟨x1, y1⟩)
          · exact .inr (.inl x1)
        have hC := fun w => compare_any (addN n d p q) (addD n d p q) (addN m e p q) (addD m e p q) w
        generalize addN n d p q = xn at *
        generalize addD n d p q = xd at *
        generalize addE n d p q = xe at *
        generalize addN m e p q = yn at *
        generalize addD m e p q = yd at *
        generalize addE m e p q = ye at *
        generalize cmpV n d m e = a at *
        generalize cmpV m e n d = b at *
        generalize cmpV m e p q = c at *
        generalize cmpV n d p q = x at *
        generalize cmpV xn xd yn yd = s at *
        generalize cmpE xn xd yn yd = t at *
        have HC1 := Lib.hid c1
        have HC2 := Lib.hid c2
        have HC3 := Lib.hid c3
        have HC4 := Lib.hid c4
        have HA1 := Lib.hid hA1
        have HA2 := Lib.hid hA2
        have HC := Lib.hid hC
        have HW := Lib.hid hW
        have HE := Lib.hid hE
        have HA := Lib.hid hA
        clear c1 c2 c3 c4 hA1 hA2 hC hW hE hA
        go_enter Tryd.func5, Tryd.ntmps5
        have hB0 : Below w.heap.size w w := Below.refl w.heap.size w
        have f_1 : Two (w.alloc (.cells #[.int .i64 (n), .int .i64 (d)] 23)) (w.heap.size) 23 (.int .i64 (n)) (.int .i64 (d)) := Two.at (by simp) _ _ _
        have hBa1 : Below w.heap.size w (w.alloc (.cells #[.int .i64 (n), .int .i64 (d)] 23)) := hB0.alloc hB0.size _
        clear hB0
        have f_2 : Two ((w.alloc (.cells #[.int .i64 (n), .int .i64 (d)] 23)).alloc (.cells #[.int .i64 (m), .int .i64 (e)] 23)) (w.heap.size) 23 (.int .i64 (n)) (.int .i64 (d)) := f_1.alloc _
        clear f_1
        have g_2 : Two ((w.alloc (.cells #[.int .i64 (n), .int .i64 (d)] 23)).alloc (.cells #[.int .i64 (m), .int .i64 (e)] 23)) (w.heap.size + 1) 23 (.int .i64 (m)) (.int .i64 (e)) := Two.at (by simp) _ _ _
        have hBa2 : Below w.heap.size w ((w.alloc (.cells #[.int .i64 (n), .int .i64 (d)] 23)).alloc (.cells #[.int .i64 (m), .int .i64 (e)] 23)) := hBa1.alloc hBa1.size _
        clear hBa1
        have f_3 : Two (((w.alloc (.cells #[.int .i64 (n), .int .i64 (d)] 23)).alloc (.cells #[.int .i64 (m), .int .i64 (e)] 23)).alloc (.cells #[.int .i64 (p), .int .i64 (q)] 23)) (w.heap.size) 23 (.int .i64 (n)) (.int .i64 (d)) := f_2.alloc _
        clear f_2
        have g_3 : Two (((w.alloc (.cells #[.int .i64 (n), .int .i64 (d)] 23)).alloc (.cells #[.int .i64 (m), .int .i64 (e)] 23)).alloc (.cells #[.int .i64 (p), .int .i64 (q)] 23)) (w.heap.size + 1) 23 (.int .i64 (m)) (.int .i64 (e)) := g_2.alloc _
        clear g_2
        have h_3 : Two (((w.alloc (.cells #[.int .i64 (n), .int .i64 (d)] 23)).alloc (.cells #[.int .i64 (m), .int .i64 (e)] 23)).alloc (.cells #[.int .i64 (p), .int .i64 (q)] 23)) (w.heap.size + 1 + 1) 23 (.int .i64 (p)) (.int .i64 (q)) := Two.at (by simp) _ _ _
        have hBa3 : Below w.heap.size w (((w.alloc (.cells #[.int .i64 (n), .int .i64 (d)] 23)).alloc (.cells #[.int .i64 (m), .int .i64 (e)] 23)).alloc (.cells #[.int .i64 (p), .int .i64 (q)] 23)) := hBa2.alloc hBa2.size _
        clear hBa2
        go_wp2_with fail
        refine (head_any _ (hl.below hBa3)).mono ?_
        rintro r w1 ⟨rfl, hbc⟩
        have f_4 : Two w1 (w.heap.size) 23 (.int .i64 (n)) (.int .i64 (d)) := f_3.below hbc f_3.lt
        clear f_3
        have g_4 : Two w1 (w.heap.size + 1) 23 (.int .i64 (m)) (.int .i64 (e)) := g_3.below hbc g_3.lt
        clear g_3
        have h_4 : Two w1 (w.heap.size + 1 + 1) 23 (.int .i64 (p)) (.int .i64 (q)) := h_3.below hbc h_3.lt
        clear h_3
        have hBa4 : Below w.heap.size w w1 := hBa3.trans (hbc.mono hBa3.size)
        clear hBa3 hbc
        obtain ⟨ff0, ff1, ff2, ff3⟩ := f_4.facts
        go_wp2_with fail
        refine (valid_yes _ _ hf _).mono ?_
        rintro r w2 ⟨rfl, hbc⟩
        clear ff0
        clear ff1
        clear ff2
        clear ff3
        have f_5 : Two w2 (w.heap.size) 23 (.int .i64 (n)) (.int .i64 (d)) := f_4.below hbc f_4.lt
        clear f_4
        have g_5 : Two w2 (w.heap.size + 1) 23 (.int .i64 (m)) (.int .i64 (e)) := g_4.below hbc g_4.lt
        clear g_4
        have h_5 : Two w2 (w.heap.size + 1 + 1) 23 (.int .i64 (p)) (.int .i64 (q)) := h_4.below hbc h_4.lt
        clear h_4
        have hBa5 : Below w.heap.size w w2 := hBa4.trans (hbc.mono hBa4.size)
        clear hBa4 hbc
        obtain ⟨gf0, gf1, gf2, gf3⟩ := g_5.facts
        go_wp2_with fail
        refine (valid_yes _ _ hg _).mono ?_
        rintro r w3 ⟨rfl, hbc⟩
        clear gf0
        clear gf1
        clear gf2
        clear gf3
        have f_6 : Two w3 (w.heap.size) 23 (.int .i64 (n)) (.int .i64 (d)) := f_5.below hbc f_5.lt
        clear f_5
        have g_6 : Two w3 (w.heap.size + 1) 23 (.int .i64 (m)) (.int .i64 (e)) := g_5.below hbc g_5.lt
        clear g_5
        have h_6 : Two w3 (w.heap.size + 1 + 1) 23 (.int .i64 (p)) (.int .i64 (q)) := h_5.below hbc h_5.lt
        clear h_5
        have hBa6 : Below w.heap.size w w3 := hBa5.trans (hbc.mono hBa5.size)
        clear hBa5 hbc
        obtain ⟨hf0, hf1, hf2, hf3⟩ := h_6.facts
        go_wp2_with fail
        refine (valid_yes _ _ hh _).mono ?_
        rintro r w4 ⟨rfl, hbc⟩
        clear hf0
        clear hf1
        clear hf2
        clear hf3
        have f_7 : Two w4 (w.heap.size) 23 (.int .i64 (n)) (.int .i64 (d)) := f_6.below hbc f_6.lt
        clear f_6
        have g_7 : Two w4 (w.heap.size + 1) 23 (.int .i64 (m)) (.int .i64 (e)) := g_6.below hbc g_6.lt
        clear g_6
        have h_7 : Two w4 (w.heap.size + 1 + 1) 23 (.int .i64 (p)) (.int .i64 (q)) := h_6.below hbc h_6.lt
        clear h_6
        have hBa7 : Below w.heap.size w w4 := hBa6.trans (hbc.mono hBa6.size)
        clear hBa6 hbc
        obtain ⟨ff0, ff1, ff2, ff3⟩ := f_7.facts
        obtain ⟨gf0, gf1, gf2, gf3⟩ := g_7.facts
        go_wp2_with fail
        refine (HC1.out _).mono ?_
        rintro r w5 ⟨rfl, hbc⟩
        clear ff0
        clear ff1
        clear ff2
        clear ff3
        clear gf0
        clear gf1
        clear gf2
        clear gf3
        have f_8 : Two w5 (w.heap.size) 23 (.int .i64 (n)) (.int .i64 (d)) := f_7.below hbc f_7.lt
        clear f_7
        have g_8 : Two w5 (w.heap.size + 1) 23 (.int .i64 (m)) (.int .i64 (e)) := g_7.below hbc g_7.lt
        clear g_7
        have h_8 : Two w5 (w.heap.size + 1 + 1) 23 (.int .i64 (p)) (.int .i64 (q)) := h_7.below hbc h_7.lt
        clear h_7
        have hBa8 : Below w.heap.size w w5 := hBa7.trans (hbc.mono hBa7.size)
        clear hBa7 hbc
        obtain ⟨ff0, ff1, ff2, ff3⟩ := f_8.facts
        obtain ⟨gf0, gf1, gf2, gf3⟩ := g_8.facts
        go_wp2_with fail
        refine (HC2.out _).mono ?_
        rintro r w6 ⟨rfl, hbc⟩
        clear ff0
        clear ff1
        clear ff2
        clear ff3
        clear gf0
        clear gf1
        clear gf2
        clear gf3
        have f_9 : Two w6 (w.heap.size) 23 (.int .i64 (n)) (.int .i64 (d)) := f_8.below hbc f_8.lt
        clear f_8
        have g_9 : Two w6 (w.heap.size + 1) 23 (.int .i64 (m)) (.int .i64 (e)) := g_8.below hbc g_8.lt
        clear g_8
        have h_9 : Two w6 (w.heap.size + 1 + 1) 23 (.int .i64 (p)) (.int .i64 (q)) := h_8.below hbc h_8.lt
        clear h_8
        have hBa9 : Below w.heap.size w w6 := hBa8.trans (hbc.mono hBa8.size)
        clear hBa8 hbc
        obtain ⟨gf0, gf1, gf2, gf3⟩ := g_9.facts
        obtain ⟨hf0, hf1, hf2, hf3⟩ := h_9.facts
        go_wp2_with fail
        refine (HC3.out _).mono ?_
        rintro r w7 ⟨rfl, hbc⟩
        clear gf0
        clear gf1
        clear gf2
        clear gf3
        clear hf0
        clear hf1
        clear hf2
        clear hf3
        have f_10 : Two w7 (w.heap.size) 23 (.int .i64 (n)) (.int .i64 (d)) := f_9.below hbc f_9.lt
        clear f_9
        have g_10 : Two w7 (w.heap.size + 1) 23 (.int .i64 (m)) (.int .i64 (e)) := g_9.below hbc g_9.lt
        clear g_9
        have h_10 : Two w7 (w.heap.size + 1 + 1) 23 (.int .i64 (p)) (.int .i64 (q)) := h_9.below hbc h_9.lt
        clear h_9
        have hBa10 : Below w.heap.size w w7 := hBa9.trans (hbc.mono hBa9.size)
        clear hBa9 hbc
        obtain ⟨ff0, ff1, ff2, ff3⟩ := f_10.facts
        obtain ⟨hf0, hf1, hf2, hf3⟩ := h_10.facts
        go_wp2_with fail
        refine (HC4.out _).mono ?_
        rintro r w8 ⟨rfl, hbc⟩
        clear ff0
        clear ff1
        clear ff2
        clear ff3
        clear hf0
        clear hf1
        clear hf2
        clear hf3
        have f_11 : Two w8 (w.heap.size) 23 (.int .i64 (n)) (.int .i64 (d)) := f_10.below hbc f_10.lt
        clear f_10
        have g_11 : Two w8 (w.heap.size + 1) 23 (.int .i64 (m)) (.int .i64 (e)) := g_10.below hbc g_10.lt
        clear g_10
        have h_11 : Two w8 (w.heap.size + 1 + 1) 23 (.int .i64 (p)) (.int .i64 (q)) := h_10.below hbc h_10.lt
        clear h_10
        have hBa11 : Below w.heap.size w w8 := hBa10.trans (hbc.mono hBa10.size)
        clear hBa10 hbc
        go_upto_region 8 with fail
        go_cut [120] (fun v wx => v = .bool false ∧ w8 = wx)
        case first =>
          obtain ⟨ff0, ff1, ff2, ff3⟩ := f_11.facts
          obtain ⟨gf0, gf1, gf2, gf3⟩ := g_11.facts
          have hE := HE.out
          have hW := HW.out
          unfold Ways at hW
          clear HE HW HA
          rcases hE with ⟨e0, e1, e2⟩ | ⟨e0, e1 | ⟨e1, e2⟩⟩ <;> rcases hW with ⟨rfl, rfl, ⟨rfl, rfl⟩ | ⟨rfl, rfl⟩ | ⟨rfl, rfl | rfl | rfl⟩⟩ | ⟨rfl, rfl, ⟨rfl, rfl⟩ | ⟨rfl, rfl⟩ | ⟨rfl, rfl⟩⟩ | ⟨rfl, rfl, ⟨rfl, rfl | rfl | rfl⟩ | ⟨rfl, rfl⟩ | ⟨rfl, rfl⟩⟩
          all_goals first
            | exact absurd e0 (by decide)
            | exact absurd rfl e0
            | (clear e0; go_wp2_with fail; go_meet; exact ⟨rfl, rfl⟩)
        case rest =>
          obtain ⟨rfl, rfl⟩ := hcut
          clear HE HW
          rcases HA.out with ⟨rfl, rfl, rfl, rfl⟩ | rfl | ⟨rfl, rfl⟩
          · clear HA
            obtain ⟨ff0, ff1, ff2, ff3⟩ := f_11.facts
            obtain ⟨hf0, hf1, hf2, hf3⟩ := h_11.facts
            go_wp2_with fail
            refine (HA1.out _).mono ?_
            rintro r w9 ⟨rfl, hbc⟩
            clear ff0
            clear ff1
            clear ff2
            clear ff3
            clear hf0
            clear hf1
            clear hf2
            clear hf3
            have f_12 : Two w9 (w.heap.size) 23 (.int .i64 (n)) (.int .i64 (d)) := f_11.below hbc f_11.lt
            clear f_11
            have g_12 : Two w9 (w.heap.size + 1) 23 (.int .i64 (m)) (.int .i64 (e)) := g_11.below hbc g_11.lt
            clear g_11
            have h_12 : Two w9 (w.heap.size + 1 + 1) 23 (.int .i64 (p)) (.int .i64 (q)) := h_11.below hbc h_11.lt
            clear h_11
            have hBa12 : Below w.heap.size w w9 := hBa11.trans (hbc.mono hBa11.size)
            clear hBa11 hbc
            have f_13 : Two (w9.alloc (.cells #[.int .i64 (xn), .int .i64 (xd)] 23)) (w.heap.size) 23 (.int .i64 (n)) (.int .i64 (d)) := f_12.alloc _
            clear f_12
            have g_13 : Two (w9.alloc (.cells #[.int .i64 (xn), .int .i64 (xd)] 23)) (w.heap.size + 1) 23 (.int .i64 (m)) (.int .i64 (e)) := g_12.alloc _
            clear g_12
            have h_13 : Two (w9.alloc (.cells #[.int .i64 (xn), .int .i64 (xd)] 23)) (w.heap.size + 1 + 1) 23 (.int .i64 (p)) (.int .i64 (q)) := h_12.alloc _
            clear h_12
            have x_13 : Two (w9.alloc (.cells #[.int .i64 (xn), .int .i64 (xd)] 23)) (w9.heap.size) 23 (.int .i64 (xn)) (.int .i64 (xd)) := Two.at (by simp) _ _ _
            have hBa13 : Below w.heap.size w (w9.alloc (.cells #[.int .i64 (xn), .int .i64 (xd)] 23)) := hBa12.alloc hBa12.size _
            clear hBa12
            obtain ⟨gf0, gf1, gf2, gf3⟩ := g_13.facts
            obtain ⟨hf0, hf1, hf2, hf3⟩ := h_13.facts
            go_wp2_with fail
            refine (HA2.out _).mono ?_
            rintro r w10 ⟨rfl, hbc⟩
            clear gf0
            clear gf1
            clear gf2
            clear gf3
            clear hf0
            clear hf1
            clear hf2
            clear hf3
            have f_14 : Two w10 (w.heap.size) 23 (.int .i64 (n)) (.int .i64 (d)) := f_13.below hbc f_13.lt
            clear f_13
            have g_14 : Two w10 (w.heap.size + 1) 23 (.int .i64 (m)) (.int .i64 (e)) := g_13.below hbc g_13.lt
            clear g_13
            have h_14 : Two w10 (w.heap.size + 1 + 1) 23 (.int .i64 (p)) (.int .i64 (q)) := h_13.below hbc h_13.lt
            clear h_13
            have x_14 : Two w10 (w9.heap.size) 23 (.int .i64 (xn)) (.int .i64 (xd)) := x_13.below hbc x_13.lt
            clear x_13
            have hBa14 : Below w.heap.size w w10 := hBa13.trans (hbc.mono hBa13.size)
            clear hBa13 hbc
            have f_15 : Two (w10.alloc (.cells #[.int .i64 (yn), .int .i64 (yd)] 23)) (w.heap.size) 23 (.int .i64 (n)) (.int .i64 (d)) := f_14.alloc _
            clear f_14
            have g_15 : Two (w10.alloc (.cells #[.int .i64 (yn), .int .i64 (yd)] 23)) (w.heap.size + 1) 23 (.int .i64 (m)) (.int .i64 (e)) := g_14.alloc _
            clear g_14
            have h_15 : Two (w10.alloc (.cells #[.int .i64 (yn), .int .i64 (yd)] 23)) (w.heap.size + 1 + 1) 23 (.int .i64 (p)) (.int .i64 (q)) := h_14.alloc _
            clear h_14
            have x_15 : Two (w10.alloc (.cells #[.int .i64 (yn), .int .i64 (yd)] 23)) (w9.heap.size) 23 (.int .i64 (xn)) (.int .i64 (xd)) := x_14.alloc _
            clear x_14
            have y_15 : Two (w10.alloc (.cells #[.int .i64 (yn), .int .i64 (yd)] 23)) (w10.heap.size) 23 (.int .i64 (yn)) (.int .i64 (yd)) := Two.at (by simp) _ _ _
            have hBa15 : Below w.heap.size w (w10.alloc (.cells #[.int .i64 (yn), .int .i64 (yd)] 23)) := hBa14.alloc hBa14.size _
            clear hBa14
            obtain ⟨xf0, xf1, xf2, xf3⟩ := x_15.facts
            obtain ⟨yf0, yf1, yf2, yf3⟩ := y_15.facts
            go_wp2_with fail
            refine (HC.out _).mono ?_
            rintro r w11 ⟨rfl, hbc⟩
            clear xf0
            clear xf1
            clear xf2
            clear xf3
            clear yf0
            clear yf1
            clear yf2
            clear yf3
            have f_16 : Two w11 (w.heap.size) 23 (.int .i64 (n)) (.int .i64 (d)) := f_15.below hbc f_15.lt
            clear f_15
            have g_16 : Two w11 (w.heap.size + 1) 23 (.int .i64 (m)) (.int .i64 (e)) := g_15.below hbc g_15.lt
            clear g_15
            have h_16 : Two w11 (w.heap.size + 1 + 1) 23 (.int .i64 (p)) (.int .i64 (q)) := h_15.below hbc h_15.lt
            clear h_15
            have x_16 : Two w11 (w9.heap.size) 23 (.int .i64 (xn)) (.int .i64 (xd)) := x_15.below hbc x_15.lt
            clear x_15
            have y_16 : Two w11 (w10.heap.size) 23 (.int .i64 (yn)) (.int .i64 (yd)) := y_15.below hbc y_15.lt
            clear y_15
            have hBa16 : Below w.heap.size w w11 := hBa15.trans (hbc.mono hBa15.size)
            clear hBa15 hbc
            go_wp2_with fail
            go_ret
            exact ⟨rfl, hBa16⟩
          · clear HA
            obtain ⟨ff0, ff1, ff2, ff3⟩ := f_11.facts
            obtain ⟨hf0, hf1, hf2, hf3⟩ := h_11.facts
            go_wp2_with fail
            refine (HA1.out _).mono ?_
            rintro r w9 ⟨rfl, hbc⟩
            clear ff0
            clear ff1
            clear ff2
            clear ff3
            clear hf0
            clear hf1
            clear hf2
            clear hf3
            have f_12 : Two w9 (w.heap.size) 23 (.int .i64 (n)) (.int .i64 (d)) := f_11.below hbc f_11.lt
            clear f_11
            have g_12 : Two w9 (w.heap.size + 1) 23 (.int .i64 (m)) (.int .i64 (e)) := g_11.below hbc g_11.lt
            clear g_11
            have h_12 : Two w9 (w.heap.size + 1 + 1) 23 (.int .i64 (p)) (.int .i64 (q)) := h_11.below hbc h_11.lt
            clear h_11
            have hBa12 : Below w.heap.size w w9 := hBa11.trans (hbc.mono hBa11.size)
            clear hBa11 hbc
            have f_13 : Two (w9.alloc (.cells #[.int .i64 (xn), .int .i64 (xd)] 23)) (w.heap.size) 23 (.int .i64 (n)) (.int .i64 (d)) := f_12.alloc _
            clear f_12
            have g_13 : Two (w9.alloc (.cells #[.int .i64 (xn), .int .i64 (xd)] 23)) (w.heap.size + 1) 23 (.int .i64 (m)) (.int .i64 (e)) := g_12.alloc _
            clear g_12
            have h_13 : Two (w9.alloc (.cells #[.int .i64 (xn), .int .i64 (xd)] 23)) (w.heap.size + 1 + 1) 23 (.int .i64 (p)) (.int .i64 (q)) := h_12.alloc _
            clear h_12
            have x_13 : Two (w9.alloc (.cells #[.int .i64 (xn), .int .i64 (xd)] 23)) (w9.heap.size) 23 (.int .i64 (xn)) (.int .i64 (xd)) := Two.at (by simp) _ _ _
            have hBa13 : Below w.heap.size w (w9.alloc (.cells #[.int .i64 (xn), .int .i64 (xd)] 23)) := hBa12.alloc hBa12.size _
            clear hBa12
            obtain ⟨gf0, gf1, gf2, gf3⟩ := g_13.facts
            obtain ⟨hf0, hf1, hf2, hf3⟩ := h_13.facts
            go_wp2_with fail
            refine (HA2.out _).mono ?_
            rintro r w10 ⟨rfl, hbc⟩
            clear gf0
            clear gf1
            clear gf2
            clear gf3
            clear hf0
            clear hf1
            clear hf2
            clear hf3
            have f_14 : Two w10 (w.heap.size) 23 (.int .i64 (n)) (.int .i64 (d)) := f_13.below hbc f_13.lt
            clear f_13
            have g_14 : Two w10 (w.heap.size + 1) 23 (.int .i64 (m)) (.int .i64 (e)) := g_13.below hbc g_13.lt
            clear g_13
            have h_14 : Two w10 (w.heap.size + 1 + 1) 23 (.int .i64 (p)) (.int .i64 (q)) := h_13.below hbc h_13.lt
            clear h_13
            have x_14 : Two w10 (w9.heap.size) 23 (.int .i64 (xn)) (.int .i64 (xd)) := x_13.below hbc x_13.lt
            clear x_13
            have hBa14 : Below w.heap.size w w10 := hBa13.trans (hbc.mono hBa13.size)
            clear hBa13 hbc
            have f_15 : Two (w10.alloc (.cells #[.int .i64 (yn), .int .i64 (yd)] 23)) (w.heap.size) 23 (.int .i64 (n)) (.int .i64 (d)) := f_14.alloc _
            clear f_14
            have g_15 : Two (w10.alloc (.cells #[.int .i64 (yn), .int .i64 (yd)] 23)) (w.heap.size + 1) 23 (.int .i64 (m)) (.int .i64 (e)) := g_14.alloc _
            clear g_14
            have h_15 : Two (w10.alloc (.cells #[.int .i64 (yn), .int .i64 (yd)] 23)) (w.heap.size + 1 + 1) 23 (.int .i64 (p)) (.int .i64 (q)) := h_14.alloc _
            clear h_14
            have x_15 : Two (w10.alloc (.cells #[.int .i64 (yn), .int .i64 (yd)] 23)) (w9.heap.size) 23 (.int .i64 (xn)) (.int .i64 (xd)) := x_14.alloc _
            clear x_14
            have y_15 : Two (w10.alloc (.cells #[.int .i64 (yn), .int .i64 (yd)] 23)) (w10.heap.size) 23 (.int .i64 (yn)) (.int .i64 (yd)) := Two.at (by simp) _ _ _
            have hBa15 : Below w.heap.size w (w10.alloc (.cells #[.int .i64 (yn), .int .i64 (yd)] 23)) := hBa14.alloc hBa14.size _
            clear hBa14
            go_wp2_with fail
            go_ret
            exact ⟨rfl, hBa15⟩
          · clear HA
            obtain ⟨ff0, ff1, ff2, ff3⟩ := f_11.facts
            obtain ⟨hf0, hf1, hf2, hf3⟩ := h_11.facts
            go_wp2_with fail
            refine (HA1.out _).mono ?_
            rintro r w9 ⟨rfl, hbc⟩
            clear ff0
            clear ff1
            clear ff2
            clear ff3
            clear hf0
            clear hf1
            clear hf2
            clear hf3
            have f_12 : Two w9 (w.heap.size) 23 (.int .i64 (n)) (.int .i64 (d)) := f_11.below hbc f_11.lt
            clear f_11
            have g_12 : Two w9 (w.heap.size + 1) 23 (.int .i64 (m)) (.int .i64 (e)) := g_11.below hbc g_11.lt
            clear g_11
            have h_12 : Two w9 (w.heap.size + 1 + 1) 23 (.int .i64 (p)) (.int .i64 (q)) := h_11.below hbc h_11.lt
            clear h_11
            have hBa12 : Below w.heap.size w w9 := hBa11.trans (hbc.mono hBa11.size)
            clear hBa11 hbc
            have f_13 : Two (w9.alloc (.cells #[.int .i64 (xn), .int .i64 (xd)] 23)) (w.heap.size) 23 (.int .i64 (n)) (.int .i64 (d)) := f_12.alloc _
            clear f_12
            have g_13 : Two (w9.alloc (.cells #[.int .i64 (xn), .int .i64 (xd)] 23)) (w.heap.size + 1) 23 (.int .i64 (m)) (.int .i64 (e)) := g_12.alloc _
            clear g_12
            have h_13 : Two (w9.alloc (.cells #[.int .i64 (xn), .int .i64 (xd)] 23)) (w.heap.size + 1 + 1) 23 (.int .i64 (p)) (.int .i64 (q)) := h_12.alloc _
            clear h_12
            have x_13 : Two (w9.alloc (.cells #[.int .i64 (xn), .int .i64 (xd)] 23)) (w9.heap.size) 23 (.int .i64 (xn)) (.int .i64 (xd)) := Two.at (by simp) _ _ _
            have hBa13 : Below w.heap.size w (w9.alloc (.cells #[.int .i64 (xn), .int .i64 (xd)] 23)) := hBa12.alloc hBa12.size _
            clear hBa12
            obtain ⟨gf0, gf1, gf2, gf3⟩ := g_13.facts
            obtain ⟨hf0, hf1, hf2, hf3⟩ := h_13.facts
            go_wp2_with fail
            refine (HA2.out _).mono ?_
            rintro r w10 ⟨rfl, hbc⟩
            clear gf0
            clear gf1
            clear gf2
            clear gf3
            clear hf0
            clear hf1
            clear hf2
            clear hf3
            have f_14 : Two w10 (w.heap.size) 23 (.int .i64 (n)) (.int .i64 (d)) := f_13.below hbc f_13.lt
            clear f_13
            have g_14 : Two w10 (w.heap.size + 1) 23 (.int .i64 (m)) (.int .i64 (e)) := g_13.below hbc g_13.lt
            clear g_13
            have h_14 : Two w10 (w.heap.size + 1 + 1) 23 (.int .i64 (p)) (.int .i64 (q)) := h_13.below hbc h_13.lt
            clear h_13
            have x_14 : Two w10 (w9.heap.size) 23 (.int .i64 (xn)) (.int .i64 (xd)) := x_13.below hbc x_13.lt
            clear x_13
            have hBa14 : Below w.heap.size w w10 := hBa13.trans (hbc.mono hBa13.size)
            clear hBa13 hbc
            have f_15 : Two (w10.alloc (.cells #[.int .i64 (yn), .int .i64 (yd)] 23)) (w.heap.size) 23 (.int .i64 (n)) (.int .i64 (d)) := f_14.alloc _
            clear f_14
            have g_15 : Two (w10.alloc (.cells #[.int .i64 (yn), .int .i64 (yd)] 23)) (w.heap.size + 1) 23 (.int .i64 (m)) (.int .i64 (e)) := g_14.alloc _
            clear g_14
            have h_15 : Two (w10.alloc (.cells #[.int .i64 (yn), .int .i64 (yd)] 23)) (w.heap.size + 1 + 1) 23 (.int .i64 (p)) (.int .i64 (q)) := h_14.alloc _
            clear h_14
            have x_15 : Two (w10.alloc (.cells #[.int .i64 (yn), .int .i64 (yd)] 23)) (w9.heap.size) 23 (.int .i64 (xn)) (.int .i64 (xd)) := x_14.alloc _
            clear x_14
            have y_15 : Two (w10.alloc (.cells #[.int .i64 (yn), .int .i64 (yd)] 23)) (w10.heap.size) 23 (.int .i64 (yn)) (.int .i64 (yd)) := Two.at (by simp) _ _ _
            have hBa15 : Below w.heap.size w (w10.alloc (.cells #[.int .i64 (yn), .int .i64 (yd)] 23)) := hBa14.alloc hBa14.size _
            clear hBa14
            go_wp2_with fail
            go_ret
            exact ⟨rfl, hBa15⟩
      · go_enter Tryd.func5, Tryd.ntmps5
        have hB0 : Below w.heap.size w w := Below.refl w.heap.size w
        have f_1 : Two (w.alloc (.cells #[.int .i64 (n), .int .i64 (d)] 23)) (w.heap.size) 23 (.int .i64 (n)) (.int .i64 (d)) := Two.at (by simp) _ _ _
        have hBa1 : Below w.heap.size w (w.alloc (.cells #[.int .i64 (n), .int .i64 (d)] 23)) := hB0.alloc hB0.size _
        clear hB0
        have f_2 : Two ((w.alloc (.cells #[.int .i64 (n), .int .i64 (d)] 23)).alloc (.cells #[.int .i64 (m), .int .i64 (e)] 23)) (w.heap.size) 23 (.int .i64 (n)) (.int .i64 (d)) := f_1.alloc _
        clear f_1
        have g_2 : Two ((w.alloc (.cells #[.int .i64 (n), .int .i64 (d)] 23)).alloc (.cells #[.int .i64 (m), .int .i64 (e)] 23)) (w.heap.size + 1) 23 (.int .i64 (m)) (.int .i64 (e)) := Two.at (by simp) _ _ _
        have hBa2 : Below w.heap.size w ((w.alloc (.cells #[.int .i64 (n), .int .i64 (d)] 23)).alloc (.cells #[.int .i64 (m), .int .i64 (e)] 23)) := hBa1.alloc hBa1.size _
        clear hBa1
        have f_3 : Two (((w.alloc (.cells #[.int .i64 (n), .int .i64 (d)] 23)).alloc (.cells #[.int .i64 (m), .int .i64 (e)] 23)).alloc (.cells #[.int .i64 (p), .int .i64 (q)] 23)) (w.heap.size) 23 (.int .i64 (n)) (.int .i64 (d)) := f_2.alloc _
        clear f_2
        have g_3 : Two (((w.alloc (.cells #[.int .i64 (n), .int .i64 (d)] 23)).alloc (.cells #[.int .i64 (m), .int .i64 (e)] 23)).alloc (.cells #[.int .i64 (p), .int .i64 (q)] 23)) (w.heap.size + 1) 23 (.int .i64 (m)) (.int .i64 (e)) := g_2.alloc _
        clear g_2
        have h_3 : Two (((w.alloc (.cells #[.int .i64 (n), .int .i64 (d)] 23)).alloc (.cells #[.int .i64 (m), .int .i64 (e)] 23)).alloc (.cells #[.int .i64 (p), .int .i64 (q)] 23)) (w.heap.size + 1 + 1) 23 (.int .i64 (p)) (.int .i64 (q)) := Two.at (by simp) _ _ _
        have hBa3 : Below w.heap.size w (((w.alloc (.cells #[.int .i64 (n), .int .i64 (d)] 23)).alloc (.cells #[.int .i64 (m), .int .i64 (e)] 23)).alloc (.cells #[.int .i64 (p), .int .i64 (q)] 23)) := hBa2.alloc hBa2.size _
        clear hBa2
        go_wp2_with fail
        refine (head_any _ (hl.below hBa3)).mono ?_
        rintro r w1 ⟨rfl, hbc⟩
        have f_4 : Two w1 (w.heap.size) 23 (.int .i64 (n)) (.int .i64 (d)) := f_3.below hbc f_3.lt
        clear f_3
        have g_4 : Two w1 (w.heap.size + 1) 23 (.int .i64 (m)) (.int .i64 (e)) := g_3.below hbc g_3.lt
        clear g_3
        have h_4 : Two w1 (w.heap.size + 1 + 1) 23 (.int .i64 (p)) (.int .i64 (q)) := h_3.below hbc h_3.lt
        clear h_3
        have hBa4 : Below w.heap.size w w1 := hBa3.trans (hbc.mono hBa3.size)
        clear hBa3 hbc
        obtain ⟨ff0, ff1, ff2, ff3⟩ := f_4.facts
        go_wp2_with fail
        refine (valid_yes _ _ hf _).mono ?_
        rintro r w2 ⟨rfl, hbc⟩
        clear ff0
        clear ff1
        clear ff2
        clear ff3
        have f_5 : Two w2 (w.heap.size) 23 (.int .i64 (n)) (.int .i64 (d)) := f_4.below hbc f_4.lt
        clear f_4
        have g_5 : Two w2 (w.heap.size + 1) 23 (.int .i64 (m)) (.int .i64 (e)) := g_4.below hbc g_4.lt
        clear g_4
        have h_5 : Two w2 (w.heap.size + 1 + 1) 23 (.int .i64 (p)) (.int .i64 (q)) := h_4.below hbc h_4.lt
        clear h_4
        have hBa5 : Below w.heap.size w w2 := hBa4.trans (hbc.mono hBa4.size)
        clear hBa4 hbc
        obtain ⟨gf0, gf1, gf2, gf3⟩ := g_5.facts
        go_wp2_with fail
        refine (valid_yes _ _ hg _).mono ?_
        rintro r w3 ⟨rfl, hbc⟩
        clear gf0
        clear gf1
        clear gf2
        clear gf3
        have f_6 : Two w3 (w.heap.size) 23 (.int .i64 (n)) (.int .i64 (d)) := f_5.below hbc f_5.lt
        clear f_5
        have g_6 : Two w3 (w.heap.size + 1) 23 (.int .i64 (m)) (.int .i64 (e)) := g_5.below hbc g_5.lt
        clear g_5
        have h_6 : Two w3 (w.heap.size + 1 + 1) 23 (.int .i64 (p)) (.int .i64 (q)) := h_5.below hbc h_5.lt
        clear h_5
        have hBa6 : Below w.heap.size w w3 := hBa5.trans (hbc.mono hBa5.size)
        clear hBa5 hbc
        obtain ⟨hf0, hf1, hf2, hf3⟩ := h_6.facts
        go_wp2_with fail
        refine (valid_no _ _ hh _).mono ?_
        rintro r w4 ⟨rfl, hbc⟩
        clear hf0
        clear hf1
        clear hf2
        clear hf3
        have f_7 : Two w4 (w.heap.size) 23 (.int .i64 (n)) (.int .i64 (d)) := f_6.below hbc f_6.lt
        clear f_6
        have g_7 : Two w4 (w.heap.size + 1) 23 (.int .i64 (m)) (.int .i64 (e)) := g_6.below hbc g_6.lt
        clear g_6
        have h_7 : Two w4 (w.heap.size + 1 + 1) 23 (.int .i64 (p)) (.int .i64 (q)) := h_6.below hbc h_6.lt
        clear h_6
        have hBa7 : Below w.heap.size w w4 := hBa6.trans (hbc.mono hBa6.size)
        clear hBa6 hbc
        go_wp2_with fail
        go_ret
        exact ⟨rfl, hBa7⟩
    · go_enter Tryd.func5, Tryd.ntmps5
      have hB0 : Below w.heap.size w w := Below.refl w.heap.size w
      have f_1 : Two (w.alloc (.cells #[.int .i64 (n), .int .i64 (d)] 23)) (w.heap.size) 23 (.int .i64 (n)) (.int .i64 (d)) := Two.at (by simp) _ _ _
      have hBa1 : Below w.heap.size w (w.alloc (.cells #[.int .i64 (n), .int .i64 (d)] 23)) := hB0.alloc hB0.size _
      clear hB0
      have f_2 : Two ((w.alloc (.cells #[.int .i64 (n), .int .i64 (d)] 23)).alloc (.cells #[.int .i64 (m), .int .i64 (e)] 23)) (w.heap.size) 23 (.int .i64 (n)) (.int .i64 (d)) := f_1.alloc _
      clear f_1
      have g_2 : Two ((w.alloc (.cells #[.int .i64 (n), .int .i64 (d)] 23)).alloc (.cells #[.int .i64 (m), .int .i64 (e)] 23)) (w.heap.size + 1) 23 (.int .i64 (m)) (.int .i64 (e)) := Two.at (by simp) _ _ _
      have hBa2 : Below w.heap.size w ((w.alloc (.cells #[.int .i64 (n), .int .i64 (d)] 23)).alloc (.cells #[.int .i64 (m), .int .i64 (e)] 23)) := hBa1.alloc hBa1.size _
      clear hBa1
      have f_3 : Two (((w.alloc (.cells #[.int .i64 (n), .int .i64 (d)] 23)).alloc (.cells #[.int .i64 (m), .int .i64 (e)] 23)).alloc (.cells #[.int .i64 (p), .int .i64 (q)] 23)) (w.heap.size) 23 (.int .i64 (n)) (.int .i64 (d)) := f_2.alloc _
      clear f_2
      have g_3 : Two (((w.alloc (.cells #[.int .i64 (n), .int .i64 (d)] 23)).alloc (.cells #[.int .i64 (m), .int .i64 (e)] 23)).alloc (.cells #[.int .i64 (p), .int .i64 (q)] 23)) (w.heap.size + 1) 23 (.int .i64 (m)) (.int .i64 (e)) := g_2.alloc _
      clear g_2
      have h_3 : Two (((w.alloc (.cells #[.int .i64 (n), .int .i64 (d)] 23)).alloc (.cells #[.int .i64 (m), .int .i64 (e)] 23)).alloc (.cells #[.int .i64 (p), .int .i64 (q)] 23)) (w.heap.size + 1 + 1) 23 (.int .i64 (p)) (.int .i64 (q)) := Two.at (by simp) _ _ _
      have hBa3 : Below w.heap.size w (((w.alloc (.cells #[.int .i64 (n), .int .i64 (d)] 23)).alloc (.cells #[.int .i64 (m), .int .i64 (e)] 23)).alloc (.cells #[.int .i64 (p), .int .i64 (q)] 23)) := hBa2.alloc hBa2.size _
      clear hBa2
      go_wp2_with fail
      refine (head_any _ (hl.below hBa3)).mono ?_
      rintro r w1 ⟨rfl, hbc⟩
      have f_4 : Two w1 (w.heap.size) 23 (.int .i64 (n)) (.int .i64 (d)) := f_3.below hbc f_3.lt
      clear f_3
      have g_4 : Two w1 (w.heap.size + 1) 23 (.int .i64 (m)) (.int .i64 (e)) := g_3.below hbc g_3.lt
      clear g_3
      have h_4 : Two w1 (w.heap.size + 1 + 1) 23 (.int .i64 (p)) (.int .i64 (q)) := h_3.below hbc h_3.lt
      clear h_3
      have hBa4 : Below w.heap.size w w1 := hBa3.trans (hbc.mono hBa3.size)
      clear hBa3 hbc
      obtain ⟨ff0, ff1, ff2, ff3⟩ := f_4.facts
      go_wp2_with fail
      refine (valid_yes _ _ hf _).mono ?_
      rintro r w2 ⟨rfl, hbc⟩
      clear ff0
      clear ff1
      clear ff2
      clear ff3
      have f_5 : Two w2 (w.heap.size) 23 (.int .i64 (n)) (.int .i64 (d)) := f_4.below hbc f_4.lt
      clear f_4
      have g_5 : Two w2 (w.heap.size + 1) 23 (.int .i64 (m)) (.int .i64 (e)) := g_4.below hbc g_4.lt
      clear g_4
      have h_5 : Two w2 (w.heap.size + 1 + 1) 23 (.int .i64 (p)) (.int .i64 (q)) := h_4.below hbc h_4.lt
      clear h_4
      have hBa5 : Below w.heap.size w w2 := hBa4.trans (hbc.mono hBa4.size)
      clear hBa4 hbc
      obtain ⟨gf0, gf1, gf2, gf3⟩ := g_5.facts
      go_wp2_with fail
      refine (valid_no _ _ hg _).mono ?_
      rintro r w3 ⟨rfl, hbc⟩
      clear gf0
      clear gf1
      clear gf2
      clear gf3
      have f_6 : Two w3 (w.heap.size) 23 (.int .i64 (n)) (.int .i64 (d)) := f_5.below hbc f_5.lt
      clear f_5
      have g_6 : Two w3 (w.heap.size + 1) 23 (.int .i64 (m)) (.int .i64 (e)) := g_5.below hbc g_5.lt
      clear g_5
      have h_6 : Two w3 (w.heap.size + 1 + 1) 23 (.int .i64 (p)) (.int .i64 (q)) := h_5.below hbc h_5.lt
      clear h_5
      have hBa6 : Below w.heap.size w w3 := hBa5.trans (hbc.mono hBa5.size)
      clear hBa5 hbc
      go_wp2_with fail
      go_ret
      exact ⟨rfl, hBa6⟩
  · go_enter Tryd.func5, Tryd.ntmps5
    have hB0 : Below w.heap.size w w := Below.refl w.heap.size w
    have f_1 : Two (w.alloc (.cells #[.int .i64 (n), .int .i64 (d)] 23)) (w.heap.size) 23 (.int .i64 (n)) (.int .i64 (d)) := Two.at (by simp) _ _ _
    have hBa1 : Below w.heap.size w (w.alloc (.cells #[.int .i64 (n), .int .i64 (d)] 23)) := hB0.alloc hB0.size _
    clear hB0
    have f_2 : Two ((w.alloc (.cells #[.int .i64 (n), .int .i64 (d)] 23)).alloc (.cells #[.int .i64 (m), .int .i64 (e)] 23)) (w.heap.size) 23 (.int .i64 (n)) (.int .i64 (d)) := f_1.alloc _
    clear f_1
    have g_2 : Two ((w.alloc (.cells #[.int .i64 (n), .int .i64 (d)] 23)).alloc (.cells #[.int .i64 (m), .int .i64 (e)] 23)) (w.heap.size + 1) 23 (.int .i64 (m)) (.int .i64 (e)) := Two.at (by simp) _ _ _
    have hBa2 : Below w.heap.size w ((w.alloc (.cells #[.int .i64 (n), .int .i64 (d)] 23)).alloc (.cells #[.int .i64 (m), .int .i64 (e)] 23)) := hBa1.alloc hBa1.size _
    clear hBa1
    have f_3 : Two (((w.alloc (.cells #[.int .i64 (n), .int .i64 (d)] 23)).alloc (.cells #[.int .i64 (m), .int .i64 (e)] 23)).alloc (.cells #[.int .i64 (p), .int .i64 (q)] 23)) (w.heap.size) 23 (.int .i64 (n)) (.int .i64 (d)) := f_2.alloc _
    clear f_2
    have g_3 : Two (((w.alloc (.cells #[.int .i64 (n), .int .i64 (d)] 23)).alloc (.cells #[.int .i64 (m), .int .i64 (e)] 23)).alloc (.cells #[.int .i64 (p), .int .i64 (q)] 23)) (w.heap.size + 1) 23 (.int .i64 (m)) (.int .i64 (e)) := g_2.alloc _
    clear g_2
    have h_3 : Two (((w.alloc (.cells #[.int .i64 (n), .int .i64 (d)] 23)).alloc (.cells #[.int .i64 (m), .int .i64 (e)] 23)).alloc (.cells #[.int .i64 (p), .int .i64 (q)] 23)) (w.heap.size + 1 + 1) 23 (.int .i64 (p)) (.int .i64 (q)) := Two.at (by simp) _ _ _
    have hBa3 : Below w.heap.size w (((w.alloc (.cells #[.int .i64 (n), .int .i64 (d)] 23)).alloc (.cells #[.int .i64 (m), .int .i64 (e)] 23)).alloc (.cells #[.int .i64 (p), .int .i64 (q)] 23)) := hBa2.alloc hBa2.size _
    clear hBa2
    go_wp2_with fail
    refine (head_any _ (hl.below hBa3)).mono ?_
    rintro r w1 ⟨rfl, hbc⟩
    have f_4 : Two w1 (w.heap.size) 23 (.int .i64 (n)) (.int .i64 (d)) := f_3.below hbc f_3.lt
    clear f_3
    have g_4 : Two w1 (w.heap.size + 1) 23 (.int .i64 (m)) (.int .i64 (e)) := g_3.below hbc g_3.lt
    clear g_3
    have h_4 : Two w1 (w.heap.size + 1 + 1) 23 (.int .i64 (p)) (.int .i64 (q)) := h_3.below hbc h_3.lt
    clear h_3
    have hBa4 : Below w.heap.size w w1 := hBa3.trans (hbc.mono hBa3.size)
    clear hBa3 hbc
    obtain ⟨ff0, ff1, ff2, ff3⟩ := f_4.facts
    go_wp2_with fail
    refine (valid_no _ _ hf _).mono ?_
    rintro r w2 ⟨rfl, hbc⟩
    clear ff0
    clear ff1
    clear ff2
    clear ff3
    have f_5 : Two w2 (w.heap.size) 23 (.int .i64 (n)) (.int .i64 (d)) := f_4.below hbc f_4.lt
    clear f_4
    have g_5 : Two w2 (w.heap.size + 1) 23 (.int .i64 (m)) (.int .i64 (e)) := g_4.below hbc g_4.lt
    clear g_4
    have h_5 : Two w2 (w.heap.size + 1 + 1) 23 (.int .i64 (p)) (.int .i64 (q)) := h_4.below hbc h_4.lt
    clear h_4
    have hBa5 : Below w.heap.size w w2 := hBa4.trans (hbc.mono hBa4.size)
    clear hBa4 hbc
    go_wp2_with fail
    go_ret
    exact ⟨rfl, hBa5⟩
end Go.Proofs.YtflnhjfmlminoaaDoor.Fr
