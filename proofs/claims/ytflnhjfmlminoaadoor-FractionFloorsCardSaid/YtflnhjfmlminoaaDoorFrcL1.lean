/- The walk of FractionFloors. -/
import Derived.Test.YtflnhjfmlminoaaDoorFrcH
import Derived.Test.YtflnhjfmlminoaaDoorFrcLaw
namespace Go.Proofs.YtflnhjfmlminoaaDoor.Fr
set_option linter.unusedVariables false
set_option linter.unusedSimpArgs false
open Go.RowKit

set_option maxHeartbeats 1000000 in
theorem lawFloors (n d : Int) (hn1 : -9223372036854775808 ≤ n) (hn2 : n ≤ 9223372036854775807) (hd1 : -9223372036854775808 ≤ d) (hd2 : d ≤ 9223372036854775807) (w : World) (hl : Lay w) :
    Calls Tryd.prog 6 #[.agg #[.int .i64 n, .int .i64 d]] w fun e w' => e = .returned (.bool true) ∧ Below w.heap.size w w' := by
  by_cases h : valP n d
  · obtain ⟨hf, -, -, hone⟩ := floor_facts h
    obtain ⟨o1, o2, o3, hv⟩ := of_one hf
    have hlow := cmp_low h hv
    have hce := cmp_err hv h
    have hFe : flV n d = n / d ∧ flE n d = 0 := by unfold flV flE; rw [if_pos h, if_pos h]; exact ⟨rfl, rfl⟩
    obtain ⟨hF1, hF2⟩ := hFe
    have hhigh : (valP (n / d + 1) 1 ∧ cmpV n d (n / d + 1) 1 = -1 ∧ cmpE n d (n / d + 1) 1 = 0 ∧ ofN (n / d + 1) 1 = n / d + 1 ∧ ofD (n / d + 1) 1 = 1 ∧ ofE (n / d + 1) 1 = 0) ∨ (n / d = 4611686018427387904 ∧ ofN (n / d + 1) 1 = 0 ∧ ofD (n / d + 1) 1 = 0 ∧ ofE (n / d + 1) 1 = 9) := by
      by_cases ht : n / d + 1 ≤ 4611686018427387904
      · obtain ⟨p1, p2, p3, p4⟩ := of_one (a := n / d + 1) ⟨by omega, ht⟩
        exact .inl ⟨p4, cmp_high h p4, cmp_err h p4, p1, p2, p3⟩
      · obtain ⟨p1, p2, p3⟩ := of_one_far (a := n / d + 1) (fun k => ht k.2)
        exact .inr ⟨by omega, p1, p2, p3⟩
    have hFl := fun w => floor_any n d w hn1 hn2
    have hOf := fun w => of_any (n / d) 1 (by omega) (by omega) (by omega) (by omega) w
    have hCm := fun w => compare_any (n / d) 1 n d w
    have hOg := fun w => of_any (n / d + 1) 1 (by omega) (by omega) (by omega) (by omega) w
    have hCh := fun w => compare_any n d (n / d + 1) 1 w
    rw [hF1, hF2] at hFl
    rw [o1, o2, o3] at hOf
    rw [hce] at hCm
    generalize cmpV (n / d) 1 n d = a at *
    clear hF1 hF2 o1 o2 o3 hce
    generalize n / d = q at *
    have HFL := Lib.hid hFl
    have HOF := Lib.hid hOf
    have HCM := Lib.hid hCm
    clear hFl hOf hCm
    have hdd : (d = 1 ∧ q = n) ∨ (d == 1) = false := by
      by_cases hd : d = 1
      · exact .inl ⟨hd, hone hd⟩
      · exact .inr (by simpa using hd)
    clear hone
    rcases hhigh with ⟨p0, p1, p2, p3, p4, p5⟩ | ⟨p1, p2, p3, p4⟩
    · rw [p3, p4, p5] at hOg
      rw [p1, p2] at hCh
      have HOG := Lib.hid hOg
      have HCH := Lib.hid hCh
      clear hOg hCh p1 p2 p3 p4 p5
      rcases hdd with ⟨hd, hq⟩ | hd
      · obtain rfl := hd
        obtain rfl := hq
        go_enter Tryd.func6, Tryd.ntmps6
        have hB0 : Below w.heap.size w w := Below.refl w.heap.size w
        have f_1 : Two (w.alloc (.cells #[.int .i64 (q), .int .i64 (1)] 23)) (w.heap.size) 23 (.int .i64 (q)) (.int .i64 (1)) := Two.at (by simp) _ _ _
        have hBa1 : Below w.heap.size w (w.alloc (.cells #[.int .i64 (q), .int .i64 (1)] 23)) := hB0.alloc hB0.size _
        clear hB0
        go_wp2_with fail
        refine (head_any _ (hl.below hBa1)).mono ?_
        rintro r w1 ⟨rfl, hbc⟩
        have f_2 : Two w1 (w.heap.size) 23 (.int .i64 (q)) (.int .i64 (1)) := f_1.below hbc f_1.lt
        clear f_1
        have hBa2 : Below w.heap.size w w1 := hBa1.trans (hbc.mono hBa1.size)
        clear hBa1 hbc
        obtain ⟨ff0, ff1, ff2, ff3⟩ := f_2.facts
        go_wp2_with fail
        refine (valid_yes _ _ h _).mono ?_
        rintro r w2 ⟨rfl, hbc⟩
        clear ff0
        clear ff1
        clear ff2
        clear ff3
        have f_3 : Two w2 (w.heap.size) 23 (.int .i64 (q)) (.int .i64 (1)) := f_2.below hbc f_2.lt
        clear f_2
        have hBa3 : Below w.heap.size w w2 := hBa2.trans (hbc.mono hBa2.size)
        clear hBa2 hbc
        obtain ⟨ff0, ff1, ff2, ff3⟩ := f_3.facts
        go_wp2_with fail
        refine (HFL.out _).mono ?_
        rintro r w3 ⟨rfl, hbc⟩
        clear ff0
        clear ff1
        clear ff2
        clear ff3
        have f_4 : Two w3 (w.heap.size) 23 (.int .i64 (q)) (.int .i64 (1)) := f_3.below hbc f_3.lt
        clear f_3
        have hBa4 : Below w.heap.size w w3 := hBa3.trans (hbc.mono hBa3.size)
        clear hBa3 hbc
        go_wp2_with fail
        refine (HOF.out _).mono ?_
        rintro r w4 ⟨rfl, hbc⟩
        have f_5 : Two w4 (w.heap.size) 23 (.int .i64 (q)) (.int .i64 (1)) := f_4.below hbc f_4.lt
        clear f_4
        have hBa5 : Below w.heap.size w w4 := hBa4.trans (hbc.mono hBa4.size)
        clear hBa4 hbc
        have f_6 : Two (w4.alloc (.cells #[.int .i64 (q), .int .i64 (1)] 23)) (w.heap.size) 23 (.int .i64 (q)) (.int .i64 (1)) := f_5.alloc _
        clear f_5
        have low_6 : Two (w4.alloc (.cells #[.int .i64 (q), .int .i64 (1)] 23)) (w4.heap.size) 23 (.int .i64 (q)) (.int .i64 (1)) := Two.at (by simp) _ _ _
        have hBa6 : Below w.heap.size w (w4.alloc (.cells #[.int .i64 (q), .int .i64 (1)] 23)) := hBa5.alloc hBa5.size _
        clear hBa5
        obtain ⟨ff0, ff1, ff2, ff3⟩ := f_6.facts
        obtain ⟨lowf0, lowf1, lowf2, lowf3⟩ := low_6.facts
        go_wp2_with fail
        refine (HCM.out _).mono ?_
        rintro r w5 ⟨rfl, hbc⟩
        clear ff0
        clear ff1
        clear ff2
        clear ff3
        clear lowf0
        clear lowf1
        clear lowf2
        clear lowf3
        have f_7 : Two w5 (w.heap.size) 23 (.int .i64 (q)) (.int .i64 (1)) := f_6.below hbc f_6.lt
        clear f_6
        have low_7 : Two w5 (w4.heap.size) 23 (.int .i64 (q)) (.int .i64 (1)) := low_6.below hbc low_6.lt
        clear low_6
        have hBa7 : Below w.heap.size w w5 := hBa6.trans (hbc.mono hBa6.size)
        clear hBa6 hbc
        go_wp2_with fail
        refine (HOG.out _).mono ?_
        rintro r w6 ⟨rfl, hbc⟩
        have f_8 : Two w6 (w.heap.size) 23 (.int .i64 (q)) (.int .i64 (1)) := f_7.below hbc f_7.lt
        clear f_7
        have low_8 : Two w6 (w4.heap.size) 23 (.int .i64 (q)) (.int .i64 (1)) := low_7.below hbc low_7.lt
        clear low_7
        have hBa8 : Below w.heap.size w w6 := hBa7.trans (hbc.mono hBa7.size)
        clear hBa7 hbc
        have f_9 : Two (w6.alloc (.cells #[.int .i64 (q + 1), .int .i64 (1)] 23)) (w.heap.size) 23 (.int .i64 (q)) (.int .i64 (1)) := f_8.alloc _
        clear f_8
        have low_9 : Two (w6.alloc (.cells #[.int .i64 (q + 1), .int .i64 (1)] 23)) (w4.heap.size) 23 (.int .i64 (q)) (.int .i64 (1)) := low_8.alloc _
        clear low_8
        have high_9 : Two (w6.alloc (.cells #[.int .i64 (q + 1), .int .i64 (1)] 23)) (w6.heap.size) 23 (.int .i64 (q + 1)) (.int .i64 (1)) := Two.at (by simp) _ _ _
        have hBa9 : Below w.heap.size w (w6.alloc (.cells #[.int .i64 (q + 1), .int .i64 (1)] 23)) := hBa8.alloc hBa8.size _
        clear hBa8
        obtain ⟨ff0, ff1, ff2, ff3⟩ := f_9.facts
        obtain ⟨highf0, highf1, highf2, highf3⟩ := high_9.facts
        go_wp2_with fail
        refine (HCH.out _).mono ?_
        rintro r w7 ⟨rfl, hbc⟩
        clear ff0
        clear ff1
        clear ff2
        clear ff3
        clear highf0
        clear highf1
        clear highf2
        clear highf3
        have f_10 : Two w7 (w.heap.size) 23 (.int .i64 (q)) (.int .i64 (1)) := f_9.below hbc f_9.lt
        clear f_9
        have low_10 : Two w7 (w4.heap.size) 23 (.int .i64 (q)) (.int .i64 (1)) := low_9.below hbc low_9.lt
        clear low_9
        have high_10 : Two w7 (w6.heap.size) 23 (.int .i64 (q + 1)) (.int .i64 (1)) := high_9.below hbc high_9.lt
        clear high_9
        have hBa10 : Below w.heap.size w w7 := hBa9.trans (hbc.mono hBa9.size)
        clear hBa9 hbc
        go_wp2_with fail
        go_ret
        exact ⟨rfl, hBa10⟩
      · go_enter Tryd.func6, Tryd.ntmps6
        have hB0 : Below w.heap.size w w := Below.refl w.heap.size w
        have f_1 : Two (w.alloc (.cells #[.int .i64 (n), .int .i64 (d)] 23)) (w.heap.size) 23 (.int .i64 (n)) (.int .i64 (d)) := Two.at (by simp) _ _ _
        have hBa1 : Below w.heap.size w (w.alloc (.cells #[.int .i64 (n), .int .i64 (d)] 23)) := hB0.alloc hB0.size _
        clear hB0
        go_wp2_with fail
        refine (head_any _ (hl.below hBa1)).mono ?_
        rintro r w1 ⟨rfl, hbc⟩
        have f_2 : Two w1 (w.heap.size) 23 (.int .i64 (n)) (.int .i64 (d)) := f_1.below hbc f_1.lt
        clear f_1
        have hBa2 : Below w.heap.size w w1 := hBa1.trans (hbc.mono hBa1.size)
        clear hBa1 hbc
        obtain ⟨ff0, ff1, ff2, ff3⟩ := f_2.facts
        go_wp2_with fail
        refine (valid_yes _ _ h _).mono ?_
        rintro r w2 ⟨rfl, hbc⟩
        clear ff0
        clear ff1
        clear ff2
        clear ff3
        have f_3 : Two w2 (w.heap.size) 23 (.int .i64 (n)) (.int .i64 (d)) := f_2.below hbc f_2.lt
        clear f_2
        have hBa3 : Below w.heap.size w w2 := hBa2.trans (hbc.mono hBa2.size)
        clear hBa2 hbc
        obtain ⟨ff0, ff1, ff2, ff3⟩ := f_3.facts
        go_wp2_with fail
        refine (HFL.out _).mono ?_
        rintro r w3 ⟨rfl, hbc⟩
        clear ff0
        clear ff1
        clear ff2
        clear ff3
        have f_4 : Two w3 (w.heap.size) 23 (.int .i64 (n)) (.int .i64 (d)) := f_3.below hbc f_3.lt
        clear f_3
        have hBa4 : Below w.heap.size w w3 := hBa3.trans (hbc.mono hBa3.size)
        clear hBa3 hbc
        go_wp2_with fail
        refine (HOF.out _).mono ?_
        rintro r w4 ⟨rfl, hbc⟩
        have f_5 : Two w4 (w.heap.size) 23 (.int .i64 (n)) (.int .i64 (d)) := f_4.below hbc f_4.lt
        clear f_4
        have hBa5 : Below w.heap.size w w4 := hBa4.trans (hbc.mono hBa4.size)
        clear hBa4 hbc
        have f_6 : Two (w4.alloc (.cells #[.int .i64 (q), .int .i64 (1)] 23)) (w.heap.size) 23 (.int .i64 (n)) (.int .i64 (d)) := f_5.alloc _
        clear f_5
        have low_6 : Two (w4.alloc (.cells #[.int .i64 (q), .int .i64 (1)] 23)) (w4.heap.size) 23 (.int .i64 (q)) (.int .i64 (1)) := Two.at (by simp) _ _ _
        have hBa6 : Below w.heap.size w (w4.alloc (.cells #[.int .i64 (q), .int .i64 (1)] 23)) := hBa5.alloc hBa5.size _
        clear hBa5
        obtain ⟨ff0, ff1, ff2, ff3⟩ := f_6.facts
        obtain ⟨lowf0, lowf1, lowf2, lowf3⟩ := low_6.facts
        go_wp2_with fail
        refine (HCM.out _).mono ?_
        rintro r w5 ⟨rfl, hbc⟩
        clear ff0
        clear ff1
        clear ff2
        clear ff3
        clear lowf0
        clear lowf1
        clear lowf2
        clear lowf3
        have f_7 : Two w5 (w.heap.size) 23 (.int .i64 (n)) (.int .i64 (d)) := f_6.below hbc f_6.lt
        clear f_6
        have low_7 : Two w5 (w4.heap.size) 23 (.int .i64 (q)) (.int .i64 (1)) := low_6.below hbc low_6.lt
        clear low_6
        have hBa7 : Below w.heap.size w w5 := hBa6.trans (hbc.mono hBa6.size)
        clear hBa6 hbc
        go_wp2_with fail
        refine (HOG.out _).mono ?_
        rintro r w6 ⟨rfl, hbc⟩
        have f_8 : Two w6 (w.heap.size) 23 (.int .i64 (n)) (.int .i64 (d)) := f_7.below hbc f_7.lt
        clear f_7
        have low_8 : Two w6 (w4.heap.size) 23 (.int .i64 (q)) (.int .i64 (1)) := low_7.below hbc low_7.lt
        clear low_7
        have hBa8 : Below w.heap.size w w6 := hBa7.trans (hbc.mono hBa7.size)
        clear hBa7 hbc
        have f_9 : Two (w6.alloc (.cells #[.int .i64 (q + 1), .int .i64 (1)] 23)) (w.heap.size) 23 (.int .i64 (n)) (.int .i64 (d)) := f_8.alloc _
        clear f_8
        have low_9 : Two (w6.alloc (.cells #[.int .i64 (q + 1), .int .i64 (1)] 23)) (w4.heap.size) 23 (.int .i64 (q)) (.int .i64 (1)) := low_8.alloc _
        clear low_8
        have high_9 : Two (w6.alloc (.cells #[.int .i64 (q + 1), .int .i64 (1)] 23)) (w6.heap.size) 23 (.int .i64 (q + 1)) (.int .i64 (1)) := Two.at (by simp) _ _ _
        have hBa9 : Below w.heap.size w (w6.alloc (.cells #[.int .i64 (q + 1), .int .i64 (1)] 23)) := hBa8.alloc hBa8.size _
        clear hBa8
        obtain ⟨ff0, ff1, ff2, ff3⟩ := f_9.facts
        obtain ⟨highf0, highf1, highf2, highf3⟩ := high_9.facts
        go_wp2_with fail
        refine (HCH.out _).mono ?_
        rintro r w7 ⟨rfl, hbc⟩
        clear ff0
        clear ff1
        clear ff2
        clear ff3
        clear highf0
        clear highf1
        clear highf2
        clear highf3
        have f_10 : Two w7 (w.heap.size) 23 (.int .i64 (n)) (.int .i64 (d)) := f_9.below hbc f_9.lt
        clear f_9
        have low_10 : Two w7 (w4.heap.size) 23 (.int .i64 (q)) (.int .i64 (1)) := low_9.below hbc low_9.lt
        clear low_9
        have high_10 : Two w7 (w6.heap.size) 23 (.int .i64 (q + 1)) (.int .i64 (1)) := high_9.below hbc high_9.lt
        clear high_9
        have hBa10 : Below w.heap.size w w7 := hBa9.trans (hbc.mono hBa9.size)
        clear hBa9 hbc
        go_wp2_with fail
        go_ret
        exact ⟨rfl, hBa10⟩
    · rw [p2, p3, p4] at hOg
      have HOG := Lib.hid hOg
      have P1 : Hid ((q == 4611686018427387904) = true) := Lib.hid (by rw [p1]; decide)
      clear hOg hCh p1 p2 p3 p4
      rcases hdd with ⟨hd, hq⟩ | hd
      · obtain rfl := hd
        obtain rfl := hq
        go_enter Tryd.func6, Tryd.ntmps6
        have hB0 : Below w.heap.size w w := Below.refl w.heap.size w
        have f_1 : Two (w.alloc (.cells #[.int .i64 (q), .int .i64 (1)] 23)) (w.heap.size) 23 (.int .i64 (q)) (.int .i64 (1)) := Two.at (by simp) _ _ _
        have hBa1 : Below w.heap.size w (w.alloc (.cells #[.int .i64 (q), .int .i64 (1)] 23)) := hB0.alloc hB0.size _
        clear hB0
        go_wp2_with fail
        refine (head_any _ (hl.below hBa1)).mono ?_
        rintro r w1 ⟨rfl, hbc⟩
        have f_2 : Two w1 (w.heap.size) 23 (.int .i64 (q)) (.int .i64 (1)) := f_1.below hbc f_1.lt
        clear f_1
        have hBa2 : Below w.heap.size w w1 := hBa1.trans (hbc.mono hBa1.size)
        clear hBa1 hbc
        obtain ⟨ff0, ff1, ff2, ff3⟩ := f_2.facts
        go_wp2_with fail
        refine (valid_yes _ _ h _).mono ?_
        rintro r w2 ⟨rfl, hbc⟩
        clear ff0
        clear ff1
        clear ff2
        clear ff3
        have f_3 : Two w2 (w.heap.size) 23 (.int .i64 (q)) (.int .i64 (1)) := f_2.below hbc f_2.lt
        clear f_2
        have hBa3 : Below w.heap.size w w2 := hBa2.trans (hbc.mono hBa2.size)
        clear hBa2 hbc
        obtain ⟨ff0, ff1, ff2, ff3⟩ := f_3.facts
        go_wp2_with fail
        refine (HFL.out _).mono ?_
        rintro r w3 ⟨rfl, hbc⟩
        clear ff0
        clear ff1
        clear ff2
        clear ff3
        have f_4 : Two w3 (w.heap.size) 23 (.int .i64 (q)) (.int .i64 (1)) := f_3.below hbc f_3.lt
        clear f_3
        have hBa4 : Below w.heap.size w w3 := hBa3.trans (hbc.mono hBa3.size)
        clear hBa3 hbc
        go_wp2_with fail
        refine (HOF.out _).mono ?_
        rintro r w4 ⟨rfl, hbc⟩
        have f_5 : Two w4 (w.heap.size) 23 (.int .i64 (q)) (.int .i64 (1)) := f_4.below hbc f_4.lt
        clear f_4
        have hBa5 : Below w.heap.size w w4 := hBa4.trans (hbc.mono hBa4.size)
        clear hBa4 hbc
        have f_6 : Two (w4.alloc (.cells #[.int .i64 (q), .int .i64 (1)] 23)) (w.heap.size) 23 (.int .i64 (q)) (.int .i64 (1)) := f_5.alloc _
        clear f_5
        have low_6 : Two (w4.alloc (.cells #[.int .i64 (q), .int .i64 (1)] 23)) (w4.heap.size) 23 (.int .i64 (q)) (.int .i64 (1)) := Two.at (by simp) _ _ _
        have hBa6 : Below w.heap.size w (w4.alloc (.cells #[.int .i64 (q), .int .i64 (1)] 23)) := hBa5.alloc hBa5.size _
        clear hBa5
        obtain ⟨ff0, ff1, ff2, ff3⟩ := f_6.facts
        obtain ⟨lowf0, lowf1, lowf2, lowf3⟩ := low_6.facts
        go_wp2_with fail
        refine (HCM.out _).mono ?_
        rintro r w5 ⟨rfl, hbc⟩
        clear ff0
        clear ff1
        clear ff2
        clear ff3
        clear lowf0
        clear lowf1
        clear lowf2
        clear lowf3
        have f_7 : Two w5 (w.heap.size) 23 (.int .i64 (q)) (.int .i64 (1)) := f_6.below hbc f_6.lt
        clear f_6
        have low_7 : Two w5 (w4.heap.size) 23 (.int .i64 (q)) (.int .i64 (1)) := low_6.below hbc low_6.lt
        clear low_6
        have hBa7 : Below w.heap.size w w5 := hBa6.trans (hbc.mono hBa6.size)
        clear hBa6 hbc
        go_wp2_with fail
        refine (HOG.out _).mono ?_
        rintro r w6 ⟨rfl, hbc⟩
        have f_8 : Two w6 (w.heap.size) 23 (.int .i64 (q)) (.int .i64 (1)) := f_7.below hbc f_7.lt
        clear f_7
        have low_8 : Two w6 (w4.heap.size) 23 (.int .i64 (q)) (.int .i64 (1)) := low_7.below hbc low_7.lt
        clear low_7
        have hBa8 : Below w.heap.size w w6 := hBa7.trans (hbc.mono hBa7.size)
        clear hBa7 hbc
        have f_9 : Two (w6.alloc (.cells #[.int .i64 (0), .int .i64 (0)] 23)) (w.heap.size) 23 (.int .i64 (q)) (.int .i64 (1)) := f_8.alloc _
        clear f_8
        have low_9 : Two (w6.alloc (.cells #[.int .i64 (0), .int .i64 (0)] 23)) (w4.heap.size) 23 (.int .i64 (q)) (.int .i64 (1)) := low_8.alloc _
        clear low_8
        have hBa9 : Below w.heap.size w (w6.alloc (.cells #[.int .i64 (0), .int .i64 (0)] 23)) := hBa8.alloc hBa8.size _
        clear hBa8
        have hp1 := P1.out
        go_wp2_with fail
        go_ret
        exact ⟨rfl, hBa9⟩
      · go_enter Tryd.func6, Tryd.ntmps6
        have hB0 : Below w.heap.size w w := Below.refl w.heap.size w
        have f_1 : Two (w.alloc (.cells #[.int .i64 (n), .int .i64 (d)] 23)) (w.heap.size) 23 (.int .i64 (n)) (.int .i64 (d)) := Two.at (by simp) _ _ _
        have hBa1 : Below w.heap.size w (w.alloc (.cells #[.int .i64 (n), .int .i64 (d)] 23)) := hB0.alloc hB0.size _
        clear hB0
        go_wp2_with fail
        refine (head_any _ (hl.below hBa1)).mono ?_
        rintro r w1 ⟨rfl, hbc⟩
        have f_2 : Two w1 (w.heap.size) 23 (.int .i64 (n)) (.int .i64 (d)) := f_1.below hbc f_1.lt
        clear f_1
        have hBa2 : Below w.heap.size w w1 := hBa1.trans (hbc.mono hBa1.size)
        clear hBa1 hbc
        obtain ⟨ff0, ff1, ff2, ff3⟩ := f_2.facts
        go_wp2_with fail
        refine (valid_yes _ _ h _).mono ?_
        rintro r w2 ⟨rfl, hbc⟩
        clear ff0
        clear ff1
        clear ff2
        clear ff3
        have f_3 : Two w2 (w.heap.size) 23 (.int .i64 (n)) (.int .i64 (d)) := f_2.below hbc f_2.lt
        clear f_2
        have hBa3 : Below w.heap.size w w2 := hBa2.trans (hbc.mono hBa2.size)
        clear hBa2 hbc
        obtain ⟨ff0, ff1, ff2, ff3⟩ := f_3.facts
        go_wp2_with fail
        refine (HFL.out _).mono ?_
        rintro r w3 ⟨rfl, hbc⟩
        clear ff0
        clear ff1
        clear ff2
        clear ff3
        have f_4 : Two w3 (w.heap.size) 23 (.int .i64 (n)) (.int .i64 (d)) := f_3.below hbc f_3.lt
        clear f_3
        have hBa4 : Below w.heap.size w w3 := hBa3.trans (hbc.mono hBa3.size)
        clear hBa3 hbc
        go_wp2_with fail
        refine (HOF.out _).mono ?_
        rintro r w4 ⟨rfl, hbc⟩
        have f_5 : Two w4 (w.heap.size) 23 (.int .i64 (n)) (.int .i64 (d)) := f_4.below hbc f_4.lt
        clear f_4
        have hBa5 : Below w.heap.size w w4 := hBa4.trans (hbc.mono hBa4.size)
        clear hBa4 hbc
        have f_6 : Two (w4.alloc (.cells #[.int .i64 (q), .int .i64 (1)] 23)) (w.heap.size) 23 (.int .i64 (n)) (.int .i64 (d)) := f_5.alloc _
        clear f_5
        have low_6 : Two (w4.alloc (.cells #[.int .i64 (q), .int .i64 (1)] 23)) (w4.heap.size) 23 (.int .i64 (q)) (.int .i64 (1)) := Two.at (by simp) _ _ _
        have hBa6 : Below w.heap.size w (w4.alloc (.cells #[.int .i64 (q), .int .i64 (1)] 23)) := hBa5.alloc hBa5.size _
        clear hBa5
        obtain ⟨ff0, ff1, ff2, ff3⟩ := f_6.facts
        obtain ⟨lowf0, lowf1, lowf2, lowf3⟩ := low_6.facts
        go_wp2_with fail
        refine (HCM.out _).mono ?_
        rintro r w5 ⟨rfl, hbc⟩
        clear ff0
        clear ff1
        clear ff2
        clear ff3
        clear lowf0
        clear lowf1
        clear lowf2
        clear lowf3
        have f_7 : Two w5 (w.heap.size) 23 (.int .i64 (n)) (.int .i64 (d)) := f_6.below hbc f_6.lt
        clear f_6
        have low_7 : Two w5 (w4.heap.size) 23 (.int .i64 (q)) (.int .i64 (1)) := low_6.below hbc low_6.lt
        clear low_6
        have hBa7 : Below w.heap.size w w5 := hBa6.trans (hbc.mono hBa6.size)
        clear hBa6 hbc
        go_wp2_with fail
        refine (HOG.out _).mono ?_
        rintro r w6 ⟨rfl, hbc⟩
        have f_8 : Two w6 (w.heap.size) 23 (.int .i64 (n)) (.int .i64 (d)) := f_7.below hbc f_7.lt
        clear f_7
        have low_8 : Two w6 (w4.heap.size) 23 (.int .i64 (q)) (.int .i64 (1)) := low_7.below hbc low_7.lt
        clear low_7
        have hBa8 : Below w.heap.size w w6 := hBa7.trans (hbc.mono hBa7.size)
        clear hBa7 hbc
        have f_9 : Two (w6.alloc (.cells #[.int .i64 (0), .int .i64 (0)] 23)) (w.heap.size) 23 (.int .i64 (n)) (.int .i64 (d)) := f_8.alloc _
        clear f_8
        have low_9 : Two (w6.alloc (.cells #[.int .i64 (0), .int .i64 (0)] 23)) (w4.heap.size) 23 (.int .i64 (q)) (.int .i64 (1)) := low_8.alloc _
        clear low_8
        have hBa9 : Below w.heap.size w (w6.alloc (.cells #[.int .i64 (0), .int .i64 (0)] 23)) := hBa8.alloc hBa8.size _
        clear hBa8
        have hp1 := P1.out
        go_wp2_with fail
        go_ret
        exact ⟨rfl, hBa9⟩
  · go_enter Tryd.func6, Tryd.ntmps6
    have hB0 : Below w.heap.size w w := Below.refl w.heap.size w
    have f_1 : Two (w.alloc (.cells #[.int .i64 (n), .int .i64 (d)] 23)) (w.heap.size) 23 (.int .i64 (n)) (.int .i64 (d)) := Two.at (by simp) _ _ _
    have hBa1 : Below w.heap.size w (w.alloc (.cells #[.int .i64 (n), .int .i64 (d)] 23)) := hB0.alloc hB0.size _
    clear hB0
    go_wp2_with fail
    refine (head_any _ (hl.below hBa1)).mono ?_
    rintro r w1 ⟨rfl, hbc⟩
    have f_2 : Two w1 (w.heap.size) 23 (.int .i64 (n)) (.int .i64 (d)) := f_1.below hbc f_1.lt
    clear f_1
    have hBa2 : Below w.heap.size w w1 := hBa1.trans (hbc.mono hBa1.size)
    clear hBa1 hbc
    obtain ⟨ff0, ff1, ff2, ff3⟩ := f_2.facts
    go_wp2_with fail
    refine (valid_no _ _ h _).mono ?_
    rintro r w2 ⟨rfl, hbc⟩
    clear ff0
    clear ff1
    clear ff2
    clear ff3
    have f_3 : Two w2 (w.heap.size) 23 (.int .i64 (n)) (.int .i64 (d)) := f_2.below hbc f_2.lt
    clear f_2
    have hBa3 : Below w.heap.size w w2 := hBa2.trans (hbc.mono hBa2.size)
    clear hBa2 hbc
    go_wp2_with fail
    go_ret
    exact ⟨rfl, hBa3⟩
end Go.Proofs.YtflnhjfmlminoaaDoor.Fr
