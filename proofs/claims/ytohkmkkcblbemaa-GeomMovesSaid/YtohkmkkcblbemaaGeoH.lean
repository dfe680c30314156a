/- The head of layer 7's laws: the chapter's examples. -/
import Derived.Test.YtohkmkkcblbemaaGeoW9
namespace Go.Proofs.Ytohkmkkcblbemaa.Ge
set_option linter.unusedVariables false
set_option linter.unusedSimpArgs false
open Go.RowKit
open Go.Proofs.Ytohkmkkcblbemaa.Fr (Two)

theorem x_f0 : ftN 1 1 0 0 3 0 = 1 ∧ ftD 1 1 0 0 3 0 = 3 ∧ ftM 1 1 0 0 3 0 = 1 ∧ ftE 1 1 0 0 3 0 = 1 := by decide +kernel
theorem x_f1 : ftN 1 1 3 0 3 0 = 0 ∧ ftD 1 1 3 0 3 0 = 1 ∧ ftM 1 1 3 0 3 0 = 5 ∧ ftE 1 1 3 0 3 0 = 1 := by decide +kernel
theorem x_f2 : ftN 0 1 0 0 1 1 = 1 ∧ ftD 0 1 0 0 1 1 = 2 ∧ ftM 0 1 0 0 1 1 = 1 ∧ ftE 0 1 0 0 1 1 = 2 := by decide +kernel
theorem x_f3 : ftN 9 2 0 0 3 0 = 1 ∧ ftD 9 2 0 0 3 0 = 1 ∧ ftM 9 2 0 0 3 0 = 40 ∧ ftE 9 2 0 0 3 0 = 1 := by decide +kernel
theorem x_t0 : turnV 0 0 4 0 2 3 = 1 := by decide +kernel
theorem x_t1 : turnV 0 0 4 0 2 0 = 0 := by decide +kernel
theorem x_d : distV 0 0 3 4 = 25 := by decide +kernel
theorem x_c0 : crossV 0 0 4 4 0 4 4 0 = 2 := by decide +kernel
theorem x_c1 : crossV 0 0 4 0 2 0 2 5 = 1 := by decide +kernel
theorem x_c2 : crossV 0 0 4 0 5 0 9 0 = 0 := by decide +kernel
set_option maxRecDepth 100000 in
set_option maxHeartbeats 4000000 in
theorem head_any (w : World) :
    Calls Try.prog 12 #[] w fun e w' => e = .returned (.bool true) ∧ Below w.heap.size w w' := by
  have hf0 := fun w => Foot_any 1 1 0 0 3 0 w
  rw [if_pos (by decide), (x_f0).1, (x_f0).2.1, (x_f0).2.2.1, (x_f0).2.2.2] at hf0
  have HF0 := Lib.hid hf0
  clear hf0
  have hf1 := fun w => Foot_any 1 1 3 0 3 0 w
  rw [if_pos (by decide), (x_f1).1, (x_f1).2.1, (x_f1).2.2.1, (x_f1).2.2.2] at hf1
  have HF1 := Lib.hid hf1
  clear hf1
  have hf2 := fun w => Foot_any 0 1 0 0 1 1 w
  rw [if_pos (by decide), (x_f2).1, (x_f2).2.1, (x_f2).2.2.1, (x_f2).2.2.2] at hf2
  have HF2 := Lib.hid hf2
  clear hf2
  have hf3 := fun w => Foot_any 9 2 0 0 3 0 w
  rw [if_pos (by decide), (x_f3).1, (x_f3).2.1, (x_f3).2.2.1, (x_f3).2.2.2] at hf3
  have HF3 := Lib.hid hf3
  clear hf3
  have hf4 := fun w => Foot_any (-1) 0 0 0 3 0 w
  rw [if_neg (by decide)] at hf4
  have HF4 := Lib.hid hf4
  clear hf4
  have ht0 := fun w => Turn_any 0 0 4 0 2 3 w
  rw [x_t0] at ht0
  have HT0 := Lib.hid ht0
  clear ht0
  have ht1 := fun w => Turn_any 0 0 4 0 2 0 w
  rw [x_t1] at ht1
  have HT1 := Lib.hid ht1
  clear ht1
  have hd := fun w => Dist_any 0 0 3 4 w
  rw [x_d] at hd
  have HD := Lib.hid hd
  clear hd
  have hc0 := fun w => Cross_any 0 0 4 4 0 4 4 0 w
  rw [x_c0] at hc0
  have HC0 := Lib.hid hc0
  clear hc0
  have hc1 := fun w => Cross_any 0 0 4 0 2 0 2 5 w
  rw [x_c1] at hc1
  have HC1 := Lib.hid hc1
  clear hc1
  have hc2 := fun w => Cross_any 0 0 4 0 5 0 9 0 w
  rw [x_c2] at hc2
  have HC2 := Lib.hid hc2
  clear hc2
  have HO1 := Lib.hid (fun w => on_yes 0 32767 (by decide) w)
  have HO2 := Lib.hid (fun w => on_no 0 32768 (by decide) w)
  go_enter Try.func12, Try.ntmps12
  have hB0 : Below w.heap.size w w := Below.refl w.heap.size w
  go_wp2_with fail
  refine (at_any _ _ _).mono ?_
  rintro r w1 ⟨rfl, hbc⟩
  have hBa1 : Below w.heap.size w w1 := hB0.trans (hbc.mono hB0.size)
  clear hB0 hbc
  go_wp2_with fail
  refine (at_any _ _ _).mono ?_
  rintro r w2 ⟨rfl, hbc⟩
  have hBa2 : Below w.heap.size w w2 := hBa1.trans (hbc.mono hBa1.size)
  clear hBa1 hbc
  go_wp2_with fail
  refine (at_any _ _ _).mono ?_
  rintro r w3 ⟨rfl, hbc⟩
  have hBa3 : Below w.heap.size w w3 := hBa2.trans (hbc.mono hBa2.size)
  clear hBa2 hbc
  go_wp2_with fail
  refine (HF0.out _).mono ?_
  rintro r w4 ⟨rfl, hbc⟩
  have hBa4 : Below w.heap.size w w4 := hBa3.trans (hbc.mono hBa3.size)
  clear hBa3 hbc
  have a_5 : Two (w4.alloc (.cells #[.int .i64 (1), .int .i64 (3)] 30)) (w4.heap.size) 30 (.int .i64 (1)) (.int .i64 (3)) := Two.at (by simp) _ _ _
  have hBa5 : Below w.heap.size w (w4.alloc (.cells #[.int .i64 (1), .int .i64 (3)] 30)) := hBa4.alloc hBa4.size _
  clear hBa4
  have a_6 : Two ((w4.alloc (.cells #[.int .i64 (1), .int .i64 (3)] 30)).alloc (.cells #[.int .i64 (1), .int .i64 (1)] 30)) (w4.heap.size) 30 (.int .i64 (1)) (.int .i64 (3)) := a_5.alloc _
  clear a_5
  have b_6 : Two ((w4.alloc (.cells #[.int .i64 (1), .int .i64 (3)] 30)).alloc (.cells #[.int .i64 (1), .int .i64 (1)] 30)) (w4.heap.size + 1) 30 (.int .i64 (1)) (.int .i64 (1)) := Two.at (by simp) _ _ _
  have hBa6 : Below w.heap.size w ((w4.alloc (.cells #[.int .i64 (1), .int .i64 (3)] 30)).alloc (.cells #[.int .i64 (1), .int .i64 (1)] 30)) := hBa5.alloc hBa5.size _
  clear hBa5
  go_wp2_with fail
  refine (at_any _ _ _).mono ?_
  rintro r w5 ⟨rfl, hbc⟩
  have a_7 : Two w5 (w4.heap.size) 30 (.int .i64 (1)) (.int .i64 (3)) := a_6.below hbc a_6.lt
  clear a_6
  have b_7 : Two w5 (w4.heap.size + 1) 30 (.int .i64 (1)) (.int .i64 (1)) := b_6.below hbc b_6.lt
  clear b_6
  have hBa7 : Below w.heap.size w w5 := hBa6.trans (hbc.mono hBa6.size)
  clear hBa6 hbc
  go_wp2_with fail
  refine (at_any _ _ _).mono ?_
  rintro r w6 ⟨rfl, hbc⟩
  have a_8 : Two w6 (w4.heap.size) 30 (.int .i64 (1)) (.int .i64 (3)) := a_7.below hbc a_7.lt
  clear a_7
  have b_8 : Two w6 (w4.heap.size + 1) 30 (.int .i64 (1)) (.int .i64 (1)) := b_7.below hbc b_7.lt
  clear b_7
  have hBa8 : Below w.heap.size w w6 := hBa7.trans (hbc.mono hBa7.size)
  clear hBa7 hbc
  go_wp2_with fail
  refine (at_any _ _ _).mono ?_
  rintro r w7 ⟨rfl, hbc⟩
  have a_9 : Two w7 (w4.heap.size) 30 (.int .i64 (1)) (.int .i64 (3)) := a_8.below hbc a_8.lt
  clear a_8
  have b_9 : Two w7 (w4.heap.size + 1) 30 (.int .i64 (1)) (.int .i64 (1)) := b_8.below hbc b_8.lt
  clear b_8
  have hBa9 : Below w.heap.size w w7 := hBa8.trans (hbc.mono hBa8.size)
  clear hBa8 hbc
  go_wp2_with fail
  refine (HF1.out _).mono ?_
  rintro r w8 ⟨rfl, hbc⟩
  have a_10 : Two w8 (w4.heap.size) 30 (.int .i64 (1)) (.int .i64 (3)) := a_9.below hbc a_9.lt
  clear a_9
  have b_10 : Two w8 (w4.heap.size + 1) 30 (.int .i64 (1)) (.int .i64 (1)) := b_9.below hbc b_9.lt
  clear b_9
  have hBa10 : Below w.heap.size w w8 := hBa9.trans (hbc.mono hBa9.size)
  clear hBa9 hbc
  have a_11 : Two (w8.alloc (.cells #[.int .i64 (0), .int .i64 (1)] 30)) (w4.heap.size) 30 (.int .i64 (1)) (.int .i64 (3)) := a_10.alloc _
  clear a_10
  have b_11 : Two (w8.alloc (.cells #[.int .i64 (0), .int .i64 (1)] 30)) (w4.heap.size + 1) 30 (.int .i64 (1)) (.int .i64 (1)) := b_10.alloc _
  clear b_10
  have c_11 : Two (w8.alloc (.cells #[.int .i64 (0), .int .i64 (1)] 30)) (w8.heap.size) 30 (.int .i64 (0)) (.int .i64 (1)) := Two.at (by simp) _ _ _
  have hBa11 : Below w.heap.size w (w8.alloc (.cells #[.int .i64 (0), .int .i64 (1)] 30)) := hBa10.alloc hBa10.size _
  clear hBa10
  have a_12 : Two ((w8.alloc (.cells #[.int .i64 (0), .int .i64 (1)] 30)).alloc (.cells #[.int .i64 (5), .int .i64 (1)] 30)) (w4.heap.size) 30 (.int .i64 (1)) (.int .i64 (3)) := a_11.alloc _
  clear a_11
  have b_12 : Two ((w8.alloc (.cells #[.int .i64 (0), .int .i64 (1)] 30)).alloc (.cells #[.int .i64 (5), .int .i64 (1)] 30)) (w4.heap.size + 1) 30 (.int .i64 (1)) (.int .i64 (1)) := b_11.alloc _
  clear b_11
  have c_12 : Two ((w8.alloc (.cells #[.int .i64 (0), .int .i64 (1)] 30)).alloc (.cells #[.int .i64 (5), .int .i64 (1)] 30)) (w8.heap.size) 30 (.int .i64 (0)) (.int .i64 (1)) := c_11.alloc _
  clear c_11
  have d_12 : Two ((w8.alloc (.cells #[.int .i64 (0), .int .i64 (1)] 30)).alloc (.cells #[.int .i64 (5), .int .i64 (1)] 30)) (w8.heap.size + 1) 30 (.int .i64 (5)) (.int .i64 (1)) := Two.at (by simp) _ _ _
  have hBa12 : Below w.heap.size w ((w8.alloc (.cells #[.int .i64 (0), .int .i64 (1)] 30)).alloc (.cells #[.int .i64 (5), .int .i64 (1)] 30)) := hBa11.alloc hBa11.size _
  clear hBa11
  go_wp2_with fail
  refine (at_any _ _ _).mono ?_
  rintro r w9 ⟨rfl, hbc⟩
  have a_13 : Two w9 (w4.heap.size) 30 (.int .i64 (1)) (.int .i64 (3)) := a_12.below hbc a_12.lt
  clear a_12
  have b_13 : Two w9 (w4.heap.size + 1) 30 (.int .i64 (1)) (.int .i64 (1)) := b_12.below hbc b_12.lt
  clear b_12
  have c_13 : Two w9 (w8.heap.size) 30 (.int .i64 (0)) (.int .i64 (1)) := c_12.below hbc c_12.lt
  clear c_12
  have d_13 : Two w9 (w8.heap.size + 1) 30 (.int .i64 (5)) (.int .i64 (1)) := d_12.below hbc d_12.lt
  clear d_12
  have hBa13 : Below w.heap.size w w9 := hBa12.trans (hbc.mono hBa12.size)
  clear hBa12 hbc
  go_wp2_with fail
  refine (at_any _ _ _).mono ?_
  rintro r w10 ⟨rfl, hbc⟩
  have a_14 : Two w10 (w4.heap.size) 30 (.int .i64 (1)) (.int .i64 (3)) := a_13.below hbc a_13.lt
  clear a_13
  have b_14 : Two w10 (w4.heap.size + 1) 30 (.int .i64 (1)) (.int .i64 (1)) := b_13.below hbc b_13.lt
  clear b_13
  have c_14 : Two w10 (w8.heap.size) 30 (.int .i64 (0)) (.int .i64 (1)) := c_13.below hbc c_13.lt
  clear c_13
  have d_14 : Two w10 (w8.heap.size + 1) 30 (.int .i64 (5)) (.int .i64 (1)) := d_13.below hbc d_13.lt
  clear d_13
  have hBa14 : Below w.heap.size w w10 := hBa13.trans (hbc.mono hBa13.size)
  clear hBa13 hbc
  go_wp2_with fail
  refine (at_any _ _ _).mono ?_
  rintro r w11 ⟨rfl, hbc⟩
  have a_15 : Two w11 (w4.heap.size) 30 (.int .i64 (1)) (.int .i64 (3)) := a_14.below hbc a_14.lt
  clear a_14
  have b_15 : Two w11 (w4.heap.size + 1) 30 (.int .i64 (1)) (.int .i64 (1)) := b_14.below hbc b_14.lt
  clear b_14
  have c_15 : Two w11 (w8.heap.size) 30 (.int .i64 (0)) (.int .i64 (1)) := c_14.below hbc c_14.lt
  clear c_14
  have d_15 : Two w11 (w8.heap.size + 1) 30 (.int .i64 (5)) (.int .i64 (1)) := d_14.below hbc d_14.lt
  clear d_14
  have hBa15 : Below w.heap.size w w11 := hBa14.trans (hbc.mono hBa14.size)
  clear hBa14 hbc
  go_wp2_with fail
  refine (HF2.out _).mono ?_
  rintro r w12 ⟨rfl, hbc⟩
  have a_16 : Two w12 (w4.heap.size) 30 (.int .i64 (1)) (.int .i64 (3)) := a_15.below hbc a_15.lt
  clear a_15
  have b_16 : Two w12 (w4.heap.size + 1) 30 (.int .i64 (1)) (.int .i64 (1)) := b_15.below hbc b_15.lt
  clear b_15
  have c_16 : Two w12 (w8.heap.size) 30 (.int .i64 (0)) (.int .i64 (1)) := c_15.below hbc c_15.lt
  clear c_15
  have d_16 : Two w12 (w8.heap.size + 1) 30 (.int .i64 (5)) (.int .i64 (1)) := d_15.below hbc d_15.lt
  clear d_15
  have hBa16 : Below w.heap.size w w12 := hBa15.trans (hbc.mono hBa15.size)
  clear hBa15 hbc
  have a_17 : Two (w12.alloc (.cells #[.int .i64 (1), .int .i64 (2)] 30)) (w4.heap.size) 30 (.int .i64 (1)) (.int .i64 (3)) := a_16.alloc _
  clear a_16
  have b_17 : Two (w12.alloc (.cells #[.int .i64 (1), .int .i64 (2)] 30)) (w4.heap.size + 1) 30 (.int .i64 (1)) (.int .i64 (1)) := b_16.alloc _
  clear b_16
  have c_17 : Two (w12.alloc (.cells #[.int .i64 (1), .int .i64 (2)] 30)) (w8.heap.size) 30 (.int .i64 (0)) (.int .i64 (1)) := c_16.alloc _
  clear c_16
  have d_17 : Two (w12.alloc (.cells #[.int .i64 (1), .int .i64 (2)] 30)) (w8.heap.size + 1) 30 (.int .i64 (5)) (.int .i64 (1)) := d_16.alloc _
  clear d_16
  have g_17 : Two (w12.alloc (.cells #[.int .i64 (1), .int .i64 (2)] 30)) (w12.heap.size) 30 (.int .i64 (1)) (.int .i64 (2)) := Two.at (by simp) _ _ _
  have hBa17 : Below w.heap.size w (w12.alloc (.cells #[.int .i64 (1), .int .i64 (2)] 30)) := hBa16.alloc hBa16.size _
  clear hBa16
  have a_18 : Two ((w12.alloc (.cells #[.int .i64 (1), .int .i64 (2)] 30)).alloc (.cells #[.int .i64 (1), .int .i64 (2)] 30)) (w4.heap.size) 30 (.int .i64 (1)) (.int .i64 (3)) := a_17.alloc _
  clear a_17
  have b_18 : Two ((w12.alloc (.cells #[.int .i64 (1), .int .i64 (2)] 30)).alloc (.cells #[.int .i64 (1), .int .i64 (2)] 30)) (w4.heap.size + 1) 30 (.int .i64 (1)) (.int .i64 (1)) := b_17.alloc _
  clear b_17
  have c_18 : Two ((w12.alloc (.cells #[.int .i64 (1), .int .i64 (2)] 30)).alloc (.cells #[.int .i64 (1), .int .i64 (2)] 30)) (w8.heap.size) 30 (.int .i64 (0)) (.int .i64 (1)) := c_17.alloc _
  clear c_17
  have d_18 : Two ((w12.alloc (.cells #[.int .i64 (1), .int .i64 (2)] 30)).alloc (.cells #[.int .i64 (1), .int .i64 (2)] 30)) (w8.heap.size + 1) 30 (.int .i64 (5)) (.int .i64 (1)) := d_17.alloc _
  clear d_17
  have g_18 : Two ((w12.alloc (.cells #[.int .i64 (1), .int .i64 (2)] 30)).alloc (.cells #[.int .i64 (1), .int .i64 (2)] 30)) (w12.heap.size) 30 (.int .i64 (1)) (.int .i64 (2)) := g_17.alloc _
  clear g_17
  have h_18 : Two ((w12.alloc (.cells #[.int .i64 (1), .int .i64 (2)] 30)).alloc (.cells #[.int .i64 (1), .int .i64 (2)] 30)) (w12.heap.size + 1) 30 (.int .i64 (1)) (.int .i64 (2)) := Two.at (by simp) _ _ _
  have hBa18 : Below w.heap.size w ((w12.alloc (.cells #[.int .i64 (1), .int .i64 (2)] 30)).alloc (.cells #[.int .i64 (1), .int .i64 (2)] 30)) := hBa17.alloc hBa17.size _
  clear hBa17
  go_wp2_with fail
  refine (at_any _ _ _).mono ?_
  rintro r w13 ⟨rfl, hbc⟩
  have a_19 : Two w13 (w4.heap.size) 30 (.int .i64 (1)) (.int .i64 (3)) := a_18.below hbc a_18.lt
  clear a_18
  have b_19 : Two w13 (w4.heap.size + 1) 30 (.int .i64 (1)) (.int .i64 (1)) := b_18.below hbc b_18.lt
  clear b_18
  have c_19 : Two w13 (w8.heap.size) 30 (.int .i64 (0)) (.int .i64 (1)) := c_18.below hbc c_18.lt
  clear c_18
  have d_19 : Two w13 (w8.heap.size + 1) 30 (.int .i64 (5)) (.int .i64 (1)) := d_18.below hbc d_18.lt
  clear d_18
  have g_19 : Two w13 (w12.heap.size) 30 (.int .i64 (1)) (.int .i64 (2)) := g_18.below hbc g_18.lt
  clear g_18
  have h_19 : Two w13 (w12.heap.size + 1) 30 (.int .i64 (1)) (.int .i64 (2)) := h_18.below hbc h_18.lt
  clear h_18
  have hBa19 : Below w.heap.size w w13 := hBa18.trans (hbc.mono hBa18.size)
  clear hBa18 hbc
  go_wp2_with fail
  refine (at_any _ _ _).mono ?_
  rintro r w14 ⟨rfl, hbc⟩
  have a_20 : Two w14 (w4.heap.size) 30 (.int .i64 (1)) (.int .i64 (3)) := a_19.below hbc a_19.lt
  clear a_19
  have b_20 : Two w14 (w4.heap.size + 1) 30 (.int .i64 (1)) (.int .i64 (1)) := b_19.below hbc b_19.lt
  clear b_19
  have c_20 : Two w14 (w8.heap.size) 30 (.int .i64 (0)) (.int .i64 (1)) := c_19.below hbc c_19.lt
  clear c_19
  have d_20 : Two w14 (w8.heap.size + 1) 30 (.int .i64 (5)) (.int .i64 (1)) := d_19.below hbc d_19.lt
  clear d_19
  have g_20 : Two w14 (w12.heap.size) 30 (.int .i64 (1)) (.int .i64 (2)) := g_19.below hbc g_19.lt
  clear g_19
  have h_20 : Two w14 (w12.heap.size + 1) 30 (.int .i64 (1)) (.int .i64 (2)) := h_19.below hbc h_19.lt
  clear h_19
  have hBa20 : Below w.heap.size w w14 := hBa19.trans (hbc.mono hBa19.size)
  clear hBa19 hbc
  go_wp2_with fail
  refine (at_any _ _ _).mono ?_
  rintro r w15 ⟨rfl, hbc⟩
  have a_21 : Two w15 (w4.heap.size) 30 (.int .i64 (1)) (.int .i64 (3)) := a_20.below hbc a_20.lt
  clear a_20
  have b_21 : Two w15 (w4.heap.size + 1) 30 (.int .i64 (1)) (.int .i64 (1)) := b_20.below hbc b_20.lt
  clear b_20
  have c_21 : Two w15 (w8.heap.size) 30 (.int .i64 (0)) (.int .i64 (1)) := c_20.below hbc c_20.lt
  clear c_20
  have d_21 : Two w15 (w8.heap.size + 1) 30 (.int .i64 (5)) (.int .i64 (1)) := d_20.below hbc d_20.lt
  clear d_20
  have g_21 : Two w15 (w12.heap.size) 30 (.int .i64 (1)) (.int .i64 (2)) := g_20.below hbc g_20.lt
  clear g_20
  have h_21 : Two w15 (w12.heap.size + 1) 30 (.int .i64 (1)) (.int .i64 (2)) := h_20.below hbc h_20.lt
  clear h_20
  have hBa21 : Below w.heap.size w w15 := hBa20.trans (hbc.mono hBa20.size)
  clear hBa20 hbc
  go_wp2_with fail
  refine (HF3.out _).mono ?_
  rintro r w16 ⟨rfl, hbc⟩
  have a_22 : Two w16 (w4.heap.size) 30 (.int .i64 (1)) (.int .i64 (3)) := a_21.below hbc a_21.lt
  clear a_21
  have b_22 : Two w16 (w4.heap.size + 1) 30 (.int .i64 (1)) (.int .i64 (1)) := b_21.below hbc b_21.lt
  clear b_21
  have c_22 : Two w16 (w8.heap.size) 30 (.int .i64 (0)) (.int .i64 (1)) := c_21.below hbc c_21.lt
  clear c_21
  have d_22 : Two w16 (w8.heap.size + 1) 30 (.int .i64 (5)) (.int .i64 (1)) := d_21.below hbc d_21.lt
  clear d_21
  have g_22 : Two w16 (w12.heap.size) 30 (.int .i64 (1)) (.int .i64 (2)) := g_21.below hbc g_21.lt
  clear g_21
  have h_22 : Two w16 (w12.heap.size + 1) 30 (.int .i64 (1)) (.int .i64 (2)) := h_21.below hbc h_21.lt
  clear h_21
  have hBa22 : Below w.heap.size w w16 := hBa21.trans (hbc.mono hBa21.size)
  clear hBa21 hbc
  have a_23 : Two (w16.alloc (.cells #[.int .i64 (1), .int .i64 (1)] 30)) (w4.heap.size) 30 (.int .i64 (1)) (.int .i64 (3)) := a_22.alloc _
  clear a_22
  have b_23 : Two (w16.alloc (.cells #[.int .i64 (1), .int .i64 (1)] 30)) (w4.heap.size + 1) 30 (.int .i64 (1)) (.int .i64 (1)) := b_22.alloc _
  clear b_22
  have c_23 : Two (w16.alloc (.cells #[.int .i64 (1), .int .i64 (1)] 30)) (w8.heap.size) 30 (.int .i64 (0)) (.int .i64 (1)) := c_22.alloc _
  clear c_22
  have d_23 : Two (w16.alloc (.cells #[.int .i64 (1), .int .i64 (1)] 30)) (w8.heap.size + 1) 30 (.int .i64 (5)) (.int .i64 (1)) := d_22.alloc _
  clear d_22
  have g_23 : Two (w16.alloc (.cells #[.int .i64 (1), .int .i64 (1)] 30)) (w12.heap.size) 30 (.int .i64 (1)) (.int .i64 (2)) := g_22.alloc _
  clear g_22
  have h_23 : Two (w16.alloc (.cells #[.int .i64 (1), .int .i64 (1)] 30)) (w12.heap.size + 1) 30 (.int .i64 (1)) (.int .i64 (2)) := h_22.alloc _
  clear h_22
  have j_23 : Two (w16.alloc (.cells #[.int .i64 (1), .int .i64 (1)] 30)) (w16.heap.size) 30 (.int .i64 (1)) (.int .i64 (1)) := Two.at (by simp) _ _ _
  have hBa23 : Below w.heap.size w (w16.alloc (.cells #[.int .i64 (1), .int .i64 (1)] 30)) := hBa22.alloc hBa22.size _
  clear hBa22
  have a_24 : Two ((w16.alloc (.cells #[.int .i64 (1), .int .i64 (1)] 30)).alloc (.cells #[.int .i64 (40), .int .i64 (1)] 30)) (w4.heap.size) 30 (.int .i64 (1)) (.int .i64 (3)) := a_23.alloc _
  clear a_23
  have b_24 : Two ((w16.alloc (.cells #[.int .i64 (1), .int .i64 (1)] 30)).alloc (.cells #[.int .i64 (40), .int .i64 (1)] 30)) (w4.heap.size + 1) 30 (.int .i64 (1)) (.int .i64 (1)) := b_23.alloc _
  clear b_23
  have c_24 : Two ((w16.alloc (.cells #[.int .i64 (1), .int .i64 (1)] 30)).alloc (.cells #[.int .i64 (40), .int .i64 (1)] 30)) (w8.heap.size) 30 (.int .i64 (0)) (.int .i64 (1)) := c_23.alloc _
  clear c_23
  have d_24 : Two ((w16.alloc (.cells #[.int .i64 (1), .int .i64 (1)] 30)).alloc (.cells #[.int .i64 (40), .int .i64 (1)] 30)) (w8.heap.size + 1) 30 (.int .i64 (5)) (.int .i64 (1)) := d_23.alloc _
  clear d_23
  have g_24 : Two ((w16.alloc (.cells #[.int .i64 (1), .int .i64 (1)] 30)).alloc (.cells #[.int .i64 (40), .int .i64 (1)] 30)) (w12.heap.size) 30 (.int .i64 (1)) (.int .i64 (2)) := g_23.alloc _
  clear g_23
  have h_24 : Two ((w16.alloc (.cells #[.int .i64 (1), .int .i64 (1)] 30)).alloc (.cells #[.int .i64 (40), .int .i64 (1)] 30)) (w12.heap.size + 1) 30 (.int .i64 (1)) (.int .i64 (2)) := h_23.alloc _
  clear h_23
  have j_24 : Two ((w16.alloc (.cells #[.int .i64 (1), .int .i64 (1)] 30)).alloc (.cells #[.int .i64 (40), .int .i64 (1)] 30)) (w16.heap.size) 30 (.int .i64 (1)) (.int .i64 (1)) := j_23.alloc _
  clear j_23
  have k_24 : Two ((w16.alloc (.cells #[.int .i64 (1), .int .i64 (1)] 30)).alloc (.cells #[.int .i64 (40), .int .i64 (1)] 30)) (w16.heap.size + 1) 30 (.int .i64 (40)) (.int .i64 (1)) := Two.at (by simp) _ _ _
  have hBa24 : Below w.heap.size w ((w16.alloc (.cells #[.int .i64 (1), .int .i64 (1)] 30)).alloc (.cells #[.int .i64 (40), .int .i64 (1)] 30)) := hBa23.alloc hBa23.size _
  clear hBa23
  go_wp2_with fail
  refine (at_any _ _ _).mono ?_
  rintro r w17 ⟨rfl, hbc⟩
  have a_25 : Two w17 (w4.heap.size) 30 (.int .i64 (1)) (.int .i64 (3)) := a_24.below hbc a_24.lt
  clear a_24
  have b_25 : Two w17 (w4.heap.size + 1) 30 (.int .i64 (1)) (.int .i64 (1)) := b_24.below hbc b_24.lt
  clear b_24
  have c_25 : Two w17 (w8.heap.size) 30 (.int .i64 (0)) (.int .i64 (1)) := c_24.below hbc c_24.lt
  clear c_24
  have d_25 : Two w17 (w8.heap.size + 1) 30 (.int .i64 (5)) (.int .i64 (1)) := d_24.below hbc d_24.lt
  clear d_24
  have g_25 : Two w17 (w12.heap.size) 30 (.int .i64 (1)) (.int .i64 (2)) := g_24.below hbc g_24.lt
  clear g_24
  have h_25 : Two w17 (w12.heap.size + 1) 30 (.int .i64 (1)) (.int .i64 (2)) := h_24.below hbc h_24.lt
  clear h_24
  have j_25 : Two w17 (w16.heap.size) 30 (.int .i64 (1)) (.int .i64 (1)) := j_24.below hbc j_24.lt
  clear j_24
  have k_25 : Two w17 (w16.heap.size + 1) 30 (.int .i64 (40)) (.int .i64 (1)) := k_24.below hbc k_24.lt
  clear k_24
  have hBa25 : Below w.heap.size w w17 := hBa24.trans (hbc.mono hBa24.size)
  clear hBa24 hbc
  go_wp2_with fail
  refine (at_any _ _ _).mono ?_
  rintro r w18 ⟨rfl, hbc⟩
  have a_26 : Two w18 (w4.heap.size) 30 (.int .i64 (1)) (.int .i64 (3)) := a_25.below hbc a_25.lt
  clear a_25
  have b_26 : Two w18 (w4.heap.size + 1) 30 (.int .i64 (1)) (.int .i64 (1)) := b_25.below hbc b_25.lt
  clear b_25
  have c_26 : Two w18 (w8.heap.size) 30 (.int .i64 (0)) (.int .i64 (1)) := c_25.below hbc c_25.lt
  clear c_25
  have d_26 : Two w18 (w8.heap.size + 1) 30 (.int .i64 (5)) (.int .i64 (1)) := d_25.below hbc d_25.lt
  clear d_25
  have g_26 : Two w18 (w12.heap.size) 30 (.int .i64 (1)) (.int .i64 (2)) := g_25.below hbc g_25.lt
  clear g_25
  have h_26 : Two w18 (w12.heap.size + 1) 30 (.int .i64 (1)) (.int .i64 (2)) := h_25.below hbc h_25.lt
  clear h_25
  have j_26 : Two w18 (w16.heap.size) 30 (.int .i64 (1)) (.int .i64 (1)) := j_25.below hbc j_25.lt
  clear j_25
  have k_26 : Two w18 (w16.heap.size + 1) 30 (.int .i64 (40)) (.int .i64 (1)) := k_25.below hbc k_25.lt
  clear k_25
  have hBa26 : Below w.heap.size w w18 := hBa25.trans (hbc.mono hBa25.size)
  clear hBa25 hbc
  go_wp2_with fail
  refine (at_any _ _ _).mono ?_
  rintro r w19 ⟨rfl, hbc⟩
  have a_27 : Two w19 (w4.heap.size) 30 (.int .i64 (1)) (.int .i64 (3)) := a_26.below hbc a_26.lt
  clear a_26
  have b_27 : Two w19 (w4.heap.size + 1) 30 (.int .i64 (1)) (.int .i64 (1)) := b_26.below hbc b_26.lt
  clear b_26
  have c_27 : Two w19 (w8.heap.size) 30 (.int .i64 (0)) (.int .i64 (1)) := c_26.below hbc c_26.lt
  clear c_26
  have d_27 : Two w19 (w8.heap.size + 1) 30 (.int .i64 (5)) (.int .i64 (1)) := d_26.below hbc d_26.lt
  clear d_26
  have g_27 : Two w19 (w12.heap.size) 30 (.int .i64 (1)) (.int .i64 (2)) := g_26.below hbc g_26.lt
  clear g_26
  have h_27 : Two w19 (w12.heap.size + 1) 30 (.int .i64 (1)) (.int .i64 (2)) := h_26.below hbc h_26.lt
  clear h_26
  have j_27 : Two w19 (w16.heap.size) 30 (.int .i64 (1)) (.int .i64 (1)) := j_26.below hbc j_26.lt
  clear j_26
  have k_27 : Two w19 (w16.heap.size + 1) 30 (.int .i64 (40)) (.int .i64 (1)) := k_26.below hbc k_26.lt
  clear k_26
  have hBa27 : Below w.heap.size w w19 := hBa26.trans (hbc.mono hBa26.size)
  clear hBa26 hbc
  go_wp2_with fail
  refine (HF4.out _).mono ?_
  rintro r w20 ⟨rfl, hbc⟩
  have a_28 : Two w20 (w4.heap.size) 30 (.int .i64 (1)) (.int .i64 (3)) := a_27.below hbc a_27.lt
  clear a_27
  have b_28 : Two w20 (w4.heap.size + 1) 30 (.int .i64 (1)) (.int .i64 (1)) := b_27.below hbc b_27.lt
  clear b_27
  have c_28 : Two w20 (w8.heap.size) 30 (.int .i64 (0)) (.int .i64 (1)) := c_27.below hbc c_27.lt
  clear c_27
  have d_28 : Two w20 (w8.heap.size + 1) 30 (.int .i64 (5)) (.int .i64 (1)) := d_27.below hbc d_27.lt
  clear d_27
  have g_28 : Two w20 (w12.heap.size) 30 (.int .i64 (1)) (.int .i64 (2)) := g_27.below hbc g_27.lt
  clear g_27
  have h_28 : Two w20 (w12.heap.size + 1) 30 (.int .i64 (1)) (.int .i64 (2)) := h_27.below hbc h_27.lt
  clear h_27
  have j_28 : Two w20 (w16.heap.size) 30 (.int .i64 (1)) (.int .i64 (1)) := j_27.below hbc j_27.lt
  clear j_27
  have k_28 : Two w20 (w16.heap.size + 1) 30 (.int .i64 (40)) (.int .i64 (1)) := k_27.below hbc k_27.lt
  clear k_27
  have hBa28 : Below w.heap.size w w20 := hBa27.trans (hbc.mono hBa27.size)
  clear hBa27 hbc
  have a_29 : Two (w20.alloc (.cells #[.int .i64 (0), .int .i64 (0)] 30)) (w4.heap.size) 30 (.int .i64 (1)) (.int .i64 (3)) := a_28.alloc _
  clear a_28
  have b_29 : Two (w20.alloc (.cells #[.int .i64 (0), .int .i64 (0)] 30)) (w4.heap.size + 1) 30 (.int .i64 (1)) (.int .i64 (1)) := b_28.alloc _
  clear b_28
  have c_29 : Two (w20.alloc (.cells #[.int .i64 (0), .int .i64 (0)] 30)) (w8.heap.size) 30 (.int .i64 (0)) (.int .i64 (1)) := c_28.alloc _
  clear c_28
  have d_29 : Two (w20.alloc (.cells #[.int .i64 (0), .int .i64 (0)] 30)) (w8.heap.size + 1) 30 (.int .i64 (5)) (.int .i64 (1)) := d_28.alloc _
  clear d_28
  have g_29 : Two (w20.alloc (.cells #[.int .i64 (0), .int .i64 (0)] 30)) (w12.heap.size) 30 (.int .i64 (1)) (.int .i64 (2)) := g_28.alloc _
  clear g_28
  have h_29 : Two (w20.alloc (.cells #[.int .i64 (0), .int .i64 (0)] 30)) (w12.heap.size + 1) 30 (.int .i64 (1)) (.int .i64 (2)) := h_28.alloc _
  clear h_28
  have j_29 : Two (w20.alloc (.cells #[.int .i64 (0), .int .i64 (0)] 30)) (w16.heap.size) 30 (.int .i64 (1)) (.int .i64 (1)) := j_28.alloc _
  clear j_28
  have k_29 : Two (w20.alloc (.cells #[.int .i64 (0), .int .i64 (0)] 30)) (w16.heap.size + 1) 30 (.int .i64 (40)) (.int .i64 (1)) := k_28.alloc _
  clear k_28
  have hBa29 : Below w.heap.size w (w20.alloc (.cells #[.int .i64 (0), .int .i64 (0)] 30)) := hBa28.alloc hBa28.size _
  clear hBa28
  have a_30 : Two ((w20.alloc (.cells #[.int .i64 (0), .int .i64 (0)] 30)).alloc (.cells #[.int .i64 (0), .int .i64 (0)] 30)) (w4.heap.size) 30 (.int .i64 (1)) (.int .i64 (3)) := a_29.alloc _
  clear a_29
  have b_30 : Two ((w20.alloc (.cells #[.int .i64 (0), .int .i64 (0)] 30)).alloc (.cells #[.int .i64 (0), .int .i64 (0)] 30)) (w4.heap.size + 1) 30 (.int .i64 (1)) (.int .i64 (1)) := b_29.alloc _
  clear b_29
  have c_30 : Two ((w20.alloc (.cells #[.int .i64 (0), .int .i64 (0)] 30)).alloc (.cells #[.int .i64 (0), .int .i64 (0)] 30)) (w8.heap.size) 30 (.int .i64 (0)) (.int .i64 (1)) := c_29.alloc _
  clear c_29
  have d_30 : Two ((w20.alloc (.cells #[.int .i64 (0), .int .i64 (0)] 30)).alloc (.cells #[.int .i64 (0), .int .i64 (0)] 30)) (w8.heap.size + 1) 30 (.int .i64 (5)) (.int .i64 (1)) := d_29.alloc _
  clear d_29
  have g_30 : Two ((w20.alloc (.cells #[.int .i64 (0), .int .i64 (0)] 30)).alloc (.cells #[.int .i64 (0), .int .i64 (0)] 30)) (w12.heap.size) 30 (.int .i64 (1)) (.int .i64 (2)) := g_29.alloc _
  clear g_29
  have h_30 : Two ((w20.alloc (.cells #[.int .i64 (0), .int .i64 (0)] 30)).alloc (.cells #[.int .i64 (0), .int .i64 (0)] 30)) (w12.heap.size + 1) 30 (.int .i64 (1)) (.int .i64 (2)) := h_29.alloc _
  clear h_29
  have j_30 : Two ((w20.alloc (.cells #[.int .i64 (0), .int .i64 (0)] 30)).alloc (.cells #[.int .i64 (0), .int .i64 (0)] 30)) (w16.heap.size) 30 (.int .i64 (1)) (.int .i64 (1)) := j_29.alloc _
  clear j_29
  have k_30 : Two ((w20.alloc (.cells #[.int .i64 (0), .int .i64 (0)] 30)).alloc (.cells #[.int .i64 (0), .int .i64 (0)] 30)) (w16.heap.size + 1) 30 (.int .i64 (40)) (.int .i64 (1)) := k_29.alloc _
  clear k_29
  have hBa30 : Below w.heap.size w ((w20.alloc (.cells #[.int .i64 (0), .int .i64 (0)] 30)).alloc (.cells #[.int .i64 (0), .int .i64 (0)] 30)) := hBa29.alloc hBa29.size _
  clear hBa29
  obtain ⟨af0, af1, af2, af3⟩ := a_30.facts
  obtain ⟨bf0, bf1, bf2, bf3⟩ := b_30.facts
  obtain ⟨cf0, cf1, cf2, cf3⟩ := c_30.facts
  obtain ⟨df0, df1, df2, df3⟩ := d_30.facts
  obtain ⟨gf0, gf1, gf2, gf3⟩ := g_30.facts
  obtain ⟨hf0, hf1, hf2, hf3⟩ := h_30.facts
  obtain ⟨jf0, jf1, jf2, jf3⟩ := j_30.facts
  obtain ⟨kf0, kf1, kf2, kf3⟩ := k_30.facts
  go_wp2_with fail
  refine (at_any _ _ _).mono ?_
  rintro r w21 ⟨rfl, hbc⟩
  clear af0
  clear af1
  clear af2
  clear af3
  clear bf0
  clear bf1
  clear bf2
  clear bf3
  clear cf0
  clear cf1
  clear cf2
  clear cf3
  clear df0
  clear df1
  clear df2
  clear df3
  clear gf0
  clear gf1
  clear gf2
  clear gf3
  clear hf0
  clear hf1
  clear hf2
  clear hf3
  clear jf0
  clear jf1
  clear jf2
  clear jf3
  clear kf0
  clear kf1
  clear kf2
  clear kf3
  have a_31 : Two w21 (w4.heap.size) 30 (.int .i64 (1)) (.int .i64 (3)) := a_30.below hbc a_30.lt
  clear a_30
  have b_31 : Two w21 (w4.heap.size + 1) 30 (.int .i64 (1)) (.int .i64 (1)) := b_30.below hbc b_30.lt
  clear b_30
  have c_31 : Two w21 (w8.heap.size) 30 (.int .i64 (0)) (.int .i64 (1)) := c_30.below hbc c_30.lt
  clear c_30
  have d_31 : Two w21 (w8.heap.size + 1) 30 (.int .i64 (5)) (.int .i64 (1)) := d_30.below hbc d_30.lt
  clear d_30
  have g_31 : Two w21 (w12.heap.size) 30 (.int .i64 (1)) (.int .i64 (2)) := g_30.below hbc g_30.lt
  clear g_30
  have h_31 : Two w21 (w12.heap.size + 1) 30 (.int .i64 (1)) (.int .i64 (2)) := h_30.below hbc h_30.lt
  clear h_30
  have j_31 : Two w21 (w16.heap.size) 30 (.int .i64 (1)) (.int .i64 (1)) := j_30.below hbc j_30.lt
  clear j_30
  have k_31 : Two w21 (w16.heap.size + 1) 30 (.int .i64 (40)) (.int .i64 (1)) := k_30.below hbc k_30.lt
  clear k_30
  have hBa31 : Below w.heap.size w w21 := hBa30.trans (hbc.mono hBa30.size)
  clear hBa30 hbc
  go_wp2_with fail
  refine (at_any _ _ _).mono ?_
  rintro r w22 ⟨rfl, hbc⟩
  have a_32 : Two w22 (w4.heap.size) 30 (.int .i64 (1)) (.int .i64 (3)) := a_31.below hbc a_31.lt
  clear a_31
  have b_32 : Two w22 (w4.heap.size + 1) 30 (.int .i64 (1)) (.int .i64 (1)) := b_31.below hbc b_31.lt
  clear b_31
  have c_32 : Two w22 (w8.heap.size) 30 (.int .i64 (0)) (.int .i64 (1)) := c_31.below hbc c_31.lt
  clear c_31
  have d_32 : Two w22 (w8.heap.size + 1) 30 (.int .i64 (5)) (.int .i64 (1)) := d_31.below hbc d_31.lt
  clear d_31
  have g_32 : Two w22 (w12.heap.size) 30 (.int .i64 (1)) (.int .i64 (2)) := g_31.below hbc g_31.lt
  clear g_31
  have h_32 : Two w22 (w12.heap.size + 1) 30 (.int .i64 (1)) (.int .i64 (2)) := h_31.below hbc h_31.lt
  clear h_31
  have j_32 : Two w22 (w16.heap.size) 30 (.int .i64 (1)) (.int .i64 (1)) := j_31.below hbc j_31.lt
  clear j_31
  have k_32 : Two w22 (w16.heap.size + 1) 30 (.int .i64 (40)) (.int .i64 (1)) := k_31.below hbc k_31.lt
  clear k_31
  have hBa32 : Below w.heap.size w w22 := hBa31.trans (hbc.mono hBa31.size)
  clear hBa31 hbc
  go_wp2_with fail
  refine (at_any _ _ _).mono ?_
  rintro r w23 ⟨rfl, hbc⟩
  have a_33 : Two w23 (w4.heap.size) 30 (.int .i64 (1)) (.int .i64 (3)) := a_32.below hbc a_32.lt
  clear a_32
  have b_33 : Two w23 (w4.heap.size + 1) 30 (.int .i64 (1)) (.int .i64 (1)) := b_32.below hbc b_32.lt
  clear b_32
  have c_33 : Two w23 (w8.heap.size) 30 (.int .i64 (0)) (.int .i64 (1)) := c_32.below hbc c_32.lt
  clear c_32
  have d_33 : Two w23 (w8.heap.size + 1) 30 (.int .i64 (5)) (.int .i64 (1)) := d_32.below hbc d_32.lt
  clear d_32
  have g_33 : Two w23 (w12.heap.size) 30 (.int .i64 (1)) (.int .i64 (2)) := g_32.below hbc g_32.lt
  clear g_32
  have h_33 : Two w23 (w12.heap.size + 1) 30 (.int .i64 (1)) (.int .i64 (2)) := h_32.below hbc h_32.lt
  clear h_32
  have j_33 : Two w23 (w16.heap.size) 30 (.int .i64 (1)) (.int .i64 (1)) := j_32.below hbc j_32.lt
  clear j_32
  have k_33 : Two w23 (w16.heap.size + 1) 30 (.int .i64 (40)) (.int .i64 (1)) := k_32.below hbc k_32.lt
  clear k_32
  have hBa33 : Below w.heap.size w w23 := hBa32.trans (hbc.mono hBa32.size)
  clear hBa32 hbc
  clear a_33
  clear b_33
  clear c_33
  clear d_33
  clear g_33
  clear h_33
  clear j_33
  clear k_33
  go_wp2_with fail
  refine (HT0.out _).mono ?_
  rintro r w24 ⟨rfl, hbc⟩
  have hBa34 : Below w.heap.size w w24 := hBa33.trans (hbc.mono hBa33.size)
  clear hBa33 hbc
  go_wp2_with fail
  refine (at_any _ _ _).mono ?_
  rintro r w25 ⟨rfl, hbc⟩
  have hBa35 : Below w.heap.size w w25 := hBa34.trans (hbc.mono hBa34.size)
  clear hBa34 hbc
  go_wp2_with fail
  refine (at_any _ _ _).mono ?_
  rintro r w26 ⟨rfl, hbc⟩
  have hBa36 : Below w.heap.size w w26 := hBa35.trans (hbc.mono hBa35.size)
  clear hBa35 hbc
  go_wp2_with fail
  refine (at_any _ _ _).mono ?_
  rintro r w27 ⟨rfl, hbc⟩
  have hBa37 : Below w.heap.size w w27 := hBa36.trans (hbc.mono hBa36.size)
  clear hBa36 hbc
  go_wp2_with fail
  refine (HT1.out _).mono ?_
  rintro r w28 ⟨rfl, hbc⟩
  have hBa38 : Below w.heap.size w w28 := hBa37.trans (hbc.mono hBa37.size)
  clear hBa37 hbc
  go_wp2_with fail
  refine (at_any _ _ _).mono ?_
  rintro r w29 ⟨rfl, hbc⟩
  have hBa39 : Below w.heap.size w w29 := hBa38.trans (hbc.mono hBa38.size)
  clear hBa38 hbc
  go_wp2_with fail
  refine (at_any _ _ _).mono ?_
  rintro r w30 ⟨rfl, hbc⟩
  have hBa40 : Below w.heap.size w w30 := hBa39.trans (hbc.mono hBa39.size)
  clear hBa39 hbc
  go_wp2_with fail
  refine (HD.out _).mono ?_
  rintro r w31 ⟨rfl, hbc⟩
  have hBa41 : Below w.heap.size w w31 := hBa40.trans (hbc.mono hBa40.size)
  clear hBa40 hbc
  go_wp2_with fail
  refine (at_any _ _ _).mono ?_
  rintro r w32 ⟨rfl, hbc⟩
  have hBa42 : Below w.heap.size w w32 := hBa41.trans (hbc.mono hBa41.size)
  clear hBa41 hbc
  go_wp2_with fail
  refine (HO1.out _).mono ?_
  rintro r w33 ⟨rfl, hbc⟩
  have hBa43 : Below w.heap.size w w33 := hBa42.trans (hbc.mono hBa42.size)
  clear hBa42 hbc
  go_wp2_with fail
  refine (at_any _ _ _).mono ?_
  rintro r w34 ⟨rfl, hbc⟩
  have hBa44 : Below w.heap.size w w34 := hBa43.trans (hbc.mono hBa43.size)
  clear hBa43 hbc
  go_wp2_with fail
  refine (HO2.out _).mono ?_
  rintro r w35 ⟨rfl, hbc⟩
  have hBa45 : Below w.heap.size w w35 := hBa44.trans (hbc.mono hBa44.size)
  clear hBa44 hbc
  go_wp2_with fail
  refine (at_any _ _ _).mono ?_
  rintro r w36 ⟨rfl, hbc⟩
  have hBa46 : Below w.heap.size w w36 := hBa45.trans (hbc.mono hBa45.size)
  clear hBa45 hbc
  go_wp2_with fail
  refine (at_any _ _ _).mono ?_
  rintro r w37 ⟨rfl, hbc⟩
  have hBa47 : Below w.heap.size w w37 := hBa46.trans (hbc.mono hBa46.size)
  clear hBa46 hbc
  go_wp2_with fail
  refine (at_any _ _ _).mono ?_
  rintro r w38 ⟨rfl, hbc⟩
  have hBa48 : Below w.heap.size w w38 := hBa47.trans (hbc.mono hBa47.size)
  clear hBa47 hbc
  go_wp2_with fail
  refine (at_any _ _ _).mono ?_
  rintro r w39 ⟨rfl, hbc⟩
  have hBa49 : Below w.heap.size w w39 := hBa48.trans (hbc.mono hBa48.size)
  clear hBa48 hbc
  go_wp2_with fail
  refine (HC0.out _).mono ?_
  rintro r w40 ⟨rfl, hbc⟩
  have hBa50 : Below w.heap.size w w40 := hBa49.trans (hbc.mono hBa49.size)
  clear hBa49 hbc
  go_wp2_with fail
  refine (at_any _ _ _).mono ?_
  rintro r w41 ⟨rfl, hbc⟩
  have hBa51 : Below w.heap.size w w41 := hBa50.trans (hbc.mono hBa50.size)
  clear hBa50 hbc
  go_wp2_with fail
  refine (at_any _ _ _).mono ?_
  rintro r w42 ⟨rfl, hbc⟩
  have hBa52 : Below w.heap.size w w42 := hBa51.trans (hbc.mono hBa51.size)
  clear hBa51 hbc
  go_wp2_with fail
  refine (at_any _ _ _).mono ?_
  rintro r w43 ⟨rfl, hbc⟩
  have hBa53 : Below w.heap.size w w43 := hBa52.trans (hbc.mono hBa52.size)
  clear hBa52 hbc
  go_wp2_with fail
  refine (at_any _ _ _).mono ?_
  rintro r w44 ⟨rfl, hbc⟩
  have hBa54 : Below w.heap.size w w44 := hBa53.trans (hbc.mono hBa53.size)
  clear hBa53 hbc
  go_wp2_with fail
  refine (HC1.out _).mono ?_
  rintro r w45 ⟨rfl, hbc⟩
  have hBa55 : Below w.heap.size w w45 := hBa54.trans (hbc.mono hBa54.size)
  clear hBa54 hbc
  go_wp2_with fail
  refine (at_any _ _ _).mono ?_
  rintro r w46 ⟨rfl, hbc⟩
  have hBa56 : Below w.heap.size w w46 := hBa55.trans (hbc.mono hBa55.size)
  clear hBa55 hbc
  go_wp2_with fail
  refine (at_any _ _ _).mono ?_
  rintro r w47 ⟨rfl, hbc⟩
  have hBa57 : Below w.heap.size w w47 := hBa56.trans (hbc.mono hBa56.size)
  clear hBa56 hbc
  go_wp2_with fail
  refine (at_any _ _ _).mono ?_
  rintro r w48 ⟨rfl, hbc⟩
  have hBa58 : Below w.heap.size w w48 := hBa57.trans (hbc.mono hBa57.size)
  clear hBa57 hbc
  go_wp2_with fail
  refine (at_any _ _ _).mono ?_
  rintro r w49 ⟨rfl, hbc⟩
  have hBa59 : Below w.heap.size w w49 := hBa58.trans (hbc.mono hBa58.size)
  clear hBa58 hbc
  go_wp2_with fail
  refine (HC2.out _).mono ?_
  rintro r w50 ⟨rfl, hbc⟩
  have hBa60 : Below w.heap.size w w50 := hBa59.trans (hbc.mono hBa59.size)
  clear hBa59 hbc
  go_wp2_with fail
  go_ret
  exact ⟨rfl, hBa60⟩
end Go.Proofs.Ytohkmkkcblbemaa.Ge
