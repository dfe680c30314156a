/- The head of layer 5's laws: the chapter's examples. -/
import Derived.Test.YtflnhjfmlminoaaDoorFrcW11
import Derived.Test.YtflnhjfmlminoaaDoorFrcW14
namespace Go.Proofs.YtflnhjfmlminoaaDoor.Fr
set_option linter.unusedVariables false
set_option linter.unusedSimpArgs false
open Go.RowKit

theorem of_call (a b : Int) (w : World) :
    Calls Tryd.prog 26 #[.int .i64 a, .int .i64 b] w fun e w' => e = .returned (.agg #[.int .i64 a, .int .i64 b]) ∧ Below w.heap.size w w' := by
  go_enter Tryd.func26, Tryd.ntmps26
  go_wp2_with fail
  refine bodyPost_ret (v := .agg #[.int .i64 a, .int .i64 b]) ?_ rfl ⟨rfl, ?_⟩
  · simp [results, Tryd.results26, go_sem]
  · exact (Below.refl _ _).alloc (Nat.le_refl _) _

theorem x_of : ofN 6 (-4) = -3 ∧ ofD 6 (-4) = 2 ∧ ofE 6 (-4) = 0 := by decide +kernel
theorem x_add : addN 1 6 1 3 = 1 ∧ addD 1 6 1 3 = 2 ∧ addE 1 6 1 3 = 0 := by decide +kernel
theorem x_mul : mulN 4611686018427387904 1 2 1 = 0 ∧ mulD 4611686018427387904 1 2 1 = 0 ∧ mulE 4611686018427387904 1 2 1 = 9 := by decide +kernel
theorem x_mul2 : mulN 4611686018427387904 1 1 2 = 2305843009213693952 ∧ mulD 4611686018427387904 1 1 2 = 1 ∧ mulE 4611686018427387904 1 1 2 = 0 := by decide +kernel
theorem x_cmp : cmpV (-1) 3 (-1) 2 = 1 ∧ cmpE (-1) 3 (-1) 2 = 0 := by decide +kernel
theorem x_fl : flV (-3) 2 = -2 ∧ flE (-3) 2 = 0 := by decide +kernel
theorem x_val : valP 0 1 ∧ ¬ valP 0 2 := by decide +kernel
theorem x_tx : txL (-3) 2 = [45, 51, 47, 50] ∧ txE (-3) 2 = 0 := by
  have hv : valP (-3) 2 := by decide +kernel
  have e1 : Lib.itoa (-3) = [45, 51] := (Lib.itoa_neg 3 (by decide)).trans (by rw [Lib.decDigits_one (by decide)]; rfl)
  have e2 : Lib.itoa 2 = [50] := (Lib.itoa_nonneg 2).trans (by rw [Lib.decDigits_one (by decide)]; rfl)
  unfold txL txE
  rw [if_pos hv, if_pos hv, if_neg (show ¬ (2 : Int) = 1 by decide), e1, e2]
  exact ⟨rfl, rfl⟩
theorem x_par : parV [54, 47, 52] = (0, 0, 5) :=
  par_by (n := 6) (d := 4) (by decide) (by decide) (fun h => absurd h.1 (by decide +kernel))

set_option maxHeartbeats 1000000 in
theorem head_any (w : World) (hl : Lay w) :
    Calls Tryd.prog 9 #[] w fun e w' => e = .returned (.bool true) ∧ Below w.heap.size w w' := by
  have hV1 := fun w => valid_yes 0 1 x_val.1 w
  have hV2 := fun w => valid_no 0 2 x_val.2 w
  have hOf := fun w => of_any 6 (-4) (by omega) (by omega) (by omega) (by omega) w
  have hAdd := fun w => add_any 1 6 1 3 w
  have hMul := fun w => mul_any 4611686018427387904 1 2 1 w
  have hMul2 := fun w => mul_any 4611686018427387904 1 1 2 w
  have hCmp := fun w => compare_any (-1) 3 (-1) 2 w
  have hFl := fun w => floor_any (-3) 2 w (by omega) (by omega)
  have hTx := fun w hl => text_any (-3) 2 w hl
  have hPr := fun w hl => parse_any ⟨#[54, 47, 52]⟩ (by decide) w hl
  rw [x_of.1, x_of.2.1, x_of.2.2] at hOf
  rw [x_add.1, x_add.2.1, x_add.2.2] at hAdd
  rw [x_mul.1, x_mul.2.1, x_mul.2.2] at hMul
  rw [x_mul2.1, x_mul2.2.1, x_mul2.2.2] at hMul2
  rw [x_cmp.1, x_cmp.2] at hCmp
  rw [x_fl.1, x_fl.2] at hFl
  rw [x_tx.1, x_tx.2] at hTx
  have hp : parV (ByteArray.mk #[54, 47, 52]).data.toList = (0, 0, 5) := x_par
  rw [hp] at hPr
  clear hp
  have HV1 := Lib.hid hV1
  clear hV1
  have HV2 := Lib.hid hV2
  clear hV2
  have HOF := Lib.hid hOf
  clear hOf
  have HADD := Lib.hid hAdd
  clear hAdd
  have HMUL := Lib.hid hMul
  clear hMul
  have HMUL2 := Lib.hid hMul2
  clear hMul2
  have HCMP := Lib.hid hCmp
  clear hCmp
  have HFL := Lib.hid hFl
  clear hFl
  have HTX := Lib.hid hTx
  clear hTx
  have HPR := Lib.hid hPr
  clear hPr
  go_enter Tryd.func9, Tryd.ntmps9
  have hB0 : Below w.heap.size w w := Below.refl w.heap.size w
  go_wp2_with fail
  refine (HOF.out _).mono ?_
  rintro r w1 ⟨rfl, hbc⟩
  have hBa1 : Below w.heap.size w w1 := hB0.trans (hbc.mono hB0.size)
  clear hB0 hbc
  have a_2 : Two (w1.alloc (.cells #[.int .i64 (-3), .int .i64 (2)] 23)) (w1.heap.size) 23 (.int .i64 (-3)) (.int .i64 (2)) := Two.at (by simp) _ _ _
  have hBa2 : Below w.heap.size w (w1.alloc (.cells #[.int .i64 (-3), .int .i64 (2)] 23)) := hBa1.alloc hBa1.size _
  clear hBa1
  go_wp2_with fail
  refine (of_call _ _ _).mono ?_
  rintro r w2 ⟨rfl, hbc⟩
  have a_3 : Two w2 (w1.heap.size) 23 (.int .i64 (-3)) (.int .i64 (2)) := a_2.below hbc a_2.lt
  clear a_2
  have hBa3 : Below w.heap.size w w2 := hBa2.trans (hbc.mono hBa2.size)
  clear hBa2 hbc
  go_wp2_with fail
  refine (of_call _ _ _).mono ?_
  rintro r w3 ⟨rfl, hbc⟩
  have a_4 : Two w3 (w1.heap.size) 23 (.int .i64 (-3)) (.int .i64 (2)) := a_3.below hbc a_3.lt
  clear a_3
  have hBa4 : Below w.heap.size w w3 := hBa3.trans (hbc.mono hBa3.size)
  clear hBa3 hbc
  go_wp2_with fail
  refine (HADD.out _).mono ?_
  rintro r w4 ⟨rfl, hbc⟩
  have a_5 : Two w4 (w1.heap.size) 23 (.int .i64 (-3)) (.int .i64 (2)) := a_4.below hbc a_4.lt
  clear a_4
  have hBa5 : Below w.heap.size w w4 := hBa4.trans (hbc.mono hBa4.size)
  clear hBa4 hbc
  have a_6 : Two (w4.alloc (.cells #[.int .i64 (1), .int .i64 (2)] 23)) (w1.heap.size) 23 (.int .i64 (-3)) (.int .i64 (2)) := a_5.alloc _
  clear a_5
  have b_6 : Two (w4.alloc (.cells #[.int .i64 (1), .int .i64 (2)] 23)) (w4.heap.size) 23 (.int .i64 (1)) (.int .i64 (2)) := Two.at (by simp) _ _ _
  have hBa6 : Below w.heap.size w (w4.alloc (.cells #[.int .i64 (1), .int .i64 (2)] 23)) := hBa5.alloc hBa5.size _
  clear hBa5
  go_wp2_with fail
  refine (of_call _ _ _).mono ?_
  rintro r w5 ⟨rfl, hbc⟩
  have a_7 : Two w5 (w1.heap.size) 23 (.int .i64 (-3)) (.int .i64 (2)) := a_6.below hbc a_6.lt
  clear a_6
  have b_7 : Two w5 (w4.heap.size) 23 (.int .i64 (1)) (.int .i64 (2)) := b_6.below hbc b_6.lt
  clear b_6
  have hBa7 : Below w.heap.size w w5 := hBa6.trans (hbc.mono hBa6.size)
  clear hBa6 hbc
  go_wp2_with fail
  refine (of_call _ _ _).mono ?_
  rintro r w6 ⟨rfl, hbc⟩
  have a_8 : Two w6 (w1.heap.size) 23 (.int .i64 (-3)) (.int .i64 (2)) := a_7.below hbc a_7.lt
  clear a_7
  have b_8 : Two w6 (w4.heap.size) 23 (.int .i64 (1)) (.int .i64 (2)) := b_7.below hbc b_7.lt
  clear b_7
  have hBa8 : Below w.heap.size w w6 := hBa7.trans (hbc.mono hBa7.size)
  clear hBa7 hbc
  go_wp2_with fail
  refine (HMUL.out _).mono ?_
  rintro r w7 ⟨rfl, hbc⟩
  have a_9 : Two w7 (w1.heap.size) 23 (.int .i64 (-3)) (.int .i64 (2)) := a_8.below hbc a_8.lt
  clear a_8
  have b_9 : Two w7 (w4.heap.size) 23 (.int .i64 (1)) (.int .i64 (2)) := b_8.below hbc b_8.lt
  clear b_8
  have hBa9 : Below w.heap.size w w7 := hBa8.trans (hbc.mono hBa8.size)
  clear hBa8 hbc
  have a_10 : Two (w7.alloc (.cells #[.int .i64 (0), .int .i64 (0)] 23)) (w1.heap.size) 23 (.int .i64 (-3)) (.int .i64 (2)) := a_9.alloc _
  clear a_9
  have b_10 : Two (w7.alloc (.cells #[.int .i64 (0), .int .i64 (0)] 23)) (w4.heap.size) 23 (.int .i64 (1)) (.int .i64 (2)) := b_9.alloc _
  clear b_9
  have hBa10 : Below w.heap.size w (w7.alloc (.cells #[.int .i64 (0), .int .i64 (0)] 23)) := hBa9.alloc hBa9.size _
  clear hBa9
  go_wp2_with fail
  refine (of_call _ _ _).mono ?_
  rintro r w8 ⟨rfl, hbc⟩
  have a_11 : Two w8 (w1.heap.size) 23 (.int .i64 (-3)) (.int .i64 (2)) := a_10.below hbc a_10.lt
  clear a_10
  have b_11 : Two w8 (w4.heap.size) 23 (.int .i64 (1)) (.int .i64 (2)) := b_10.below hbc b_10.lt
  clear b_10
  have hBa11 : Below w.heap.size w w8 := hBa10.trans (hbc.mono hBa10.size)
  clear hBa10 hbc
  go_wp2_with fail
  refine (of_call _ _ _).mono ?_
  rintro r w9 ⟨rfl, hbc⟩
  have a_12 : Two w9 (w1.heap.size) 23 (.int .i64 (-3)) (.int .i64 (2)) := a_11.below hbc a_11.lt
  clear a_11
  have b_12 : Two w9 (w4.heap.size) 23 (.int .i64 (1)) (.int .i64 (2)) := b_11.below hbc b_11.lt
  clear b_11
  have hBa12 : Below w.heap.size w w9 := hBa11.trans (hbc.mono hBa11.size)
  clear hBa11 hbc
  go_wp2_with fail
  refine (HMUL2.out _).mono ?_
  rintro r w10 ⟨rfl, hbc⟩
  have a_13 : Two w10 (w1.heap.size) 23 (.int .i64 (-3)) (.int .i64 (2)) := a_12.below hbc a_12.lt
  clear a_12
  have b_13 : Two w10 (w4.heap.size) 23 (.int .i64 (1)) (.int .i64 (2)) := b_12.below hbc b_12.lt
  clear b_12
  have hBa13 : Below w.heap.size w w10 := hBa12.trans (hbc.mono hBa12.size)
  clear hBa12 hbc
  have a_14 : Two (w10.alloc (.cells #[.int .i64 (2305843009213693952), .int .i64 (1)] 23)) (w1.heap.size) 23 (.int .i64 (-3)) (.int .i64 (2)) := a_13.alloc _
  clear a_13
  have b_14 : Two (w10.alloc (.cells #[.int .i64 (2305843009213693952), .int .i64 (1)] 23)) (w4.heap.size) 23 (.int .i64 (1)) (.int .i64 (2)) := b_13.alloc _
  clear b_13
  have c_14 : Two (w10.alloc (.cells #[.int .i64 (2305843009213693952), .int .i64 (1)] 23)) (w10.heap.size) 23 (.int .i64 (2305843009213693952)) (.int .i64 (1)) := Two.at (by simp) _ _ _
  have hBa14 : Below w.heap.size w (w10.alloc (.cells #[.int .i64 (2305843009213693952), .int .i64 (1)] 23)) := hBa13.alloc hBa13.size _
  clear hBa13
  go_wp2_with fail
  refine (of_call _ _ _).mono ?_
  rintro r w11 ⟨rfl, hbc⟩
  have a_15 : Two w11 (w1.heap.size) 23 (.int .i64 (-3)) (.int .i64 (2)) := a_14.below hbc a_14.lt
  clear a_14
  have b_15 : Two w11 (w4.heap.size) 23 (.int .i64 (1)) (.int .i64 (2)) := b_14.below hbc b_14.lt
  clear b_14
  have c_15 : Two w11 (w10.heap.size) 23 (.int .i64 (2305843009213693952)) (.int .i64 (1)) := c_14.below hbc c_14.lt
  clear c_14
  have hBa15 : Below w.heap.size w w11 := hBa14.trans (hbc.mono hBa14.size)
  clear hBa14 hbc
  go_wp2_with fail
  refine (of_call _ _ _).mono ?_
  rintro r w12 ⟨rfl, hbc⟩
  have a_16 : Two w12 (w1.heap.size) 23 (.int .i64 (-3)) (.int .i64 (2)) := a_15.below hbc a_15.lt
  clear a_15
  have b_16 : Two w12 (w4.heap.size) 23 (.int .i64 (1)) (.int .i64 (2)) := b_15.below hbc b_15.lt
  clear b_15
  have c_16 : Two w12 (w10.heap.size) 23 (.int .i64 (2305843009213693952)) (.int .i64 (1)) := c_15.below hbc c_15.lt
  clear c_15
  have hBa16 : Below w.heap.size w w12 := hBa15.trans (hbc.mono hBa15.size)
  clear hBa15 hbc
  go_wp2_with fail
  refine (HCMP.out _).mono ?_
  rintro r w13 ⟨rfl, hbc⟩
  have a_17 : Two w13 (w1.heap.size) 23 (.int .i64 (-3)) (.int .i64 (2)) := a_16.below hbc a_16.lt
  clear a_16
  have b_17 : Two w13 (w4.heap.size) 23 (.int .i64 (1)) (.int .i64 (2)) := b_16.below hbc b_16.lt
  clear b_16
  have c_17 : Two w13 (w10.heap.size) 23 (.int .i64 (2305843009213693952)) (.int .i64 (1)) := c_16.below hbc c_16.lt
  clear c_16
  have hBa17 : Below w.heap.size w w13 := hBa16.trans (hbc.mono hBa16.size)
  clear hBa16 hbc
  go_wp2_with fail
  refine (of_call _ _ _).mono ?_
  rintro r w14 ⟨rfl, hbc⟩
  have a_18 : Two w14 (w1.heap.size) 23 (.int .i64 (-3)) (.int .i64 (2)) := a_17.below hbc a_17.lt
  clear a_17
  have b_18 : Two w14 (w4.heap.size) 23 (.int .i64 (1)) (.int .i64 (2)) := b_17.below hbc b_17.lt
  clear b_17
  have c_18 : Two w14 (w10.heap.size) 23 (.int .i64 (2305843009213693952)) (.int .i64 (1)) := c_17.below hbc c_17.lt
  clear c_17
  have hBa18 : Below w.heap.size w w14 := hBa17.trans (hbc.mono hBa17.size)
  clear hBa17 hbc
  go_wp2_with fail
  refine (HFL.out _).mono ?_
  rintro r w15 ⟨rfl, hbc⟩
  have a_19 : Two w15 (w1.heap.size) 23 (.int .i64 (-3)) (.int .i64 (2)) := a_18.below hbc a_18.lt
  clear a_18
  have b_19 : Two w15 (w4.heap.size) 23 (.int .i64 (1)) (.int .i64 (2)) := b_18.below hbc b_18.lt
  clear b_18
  have c_19 : Two w15 (w10.heap.size) 23 (.int .i64 (2305843009213693952)) (.int .i64 (1)) := c_18.below hbc c_18.lt
  clear c_18
  have hBa19 : Below w.heap.size w w15 := hBa18.trans (hbc.mono hBa18.size)
  clear hBa18 hbc
  go_wp2_with fail
  refine (of_call _ _ _).mono ?_
  rintro r w16 ⟨rfl, hbc⟩
  have a_20 : Two w16 (w1.heap.size) 23 (.int .i64 (-3)) (.int .i64 (2)) := a_19.below hbc a_19.lt
  clear a_19
  have b_20 : Two w16 (w4.heap.size) 23 (.int .i64 (1)) (.int .i64 (2)) := b_19.below hbc b_19.lt
  clear b_19
  have c_20 : Two w16 (w10.heap.size) 23 (.int .i64 (2305843009213693952)) (.int .i64 (1)) := c_19.below hbc c_19.lt
  clear c_19
  have hBa20 : Below w.heap.size w w16 := hBa19.trans (hbc.mono hBa19.size)
  clear hBa19 hbc
  go_wp2_with fail
  refine (HTX.out _ (hl.below hBa20)).mono ?_
  rintro r w17 ⟨rfl, hbc⟩
  have a_21 : Two w17 (w1.heap.size) 23 (.int .i64 (-3)) (.int .i64 (2)) := a_20.below hbc a_20.lt
  clear a_20
  have b_21 : Two w17 (w4.heap.size) 23 (.int .i64 (1)) (.int .i64 (2)) := b_20.below hbc b_20.lt
  clear b_20
  have c_21 : Two w17 (w10.heap.size) 23 (.int .i64 (2305843009213693952)) (.int .i64 (1)) := c_20.below hbc c_20.lt
  clear c_20
  have hBa21 : Below w.heap.size w w17 := hBa20.trans (hbc.mono hBa20.size)
  clear hBa20 hbc
  go_wp2_with fail
  refine (HPR.out _ (hl.below hBa21)).mono ?_
  rintro r w18 ⟨rfl, hbc⟩
  have a_22 : Two w18 (w1.heap.size) 23 (.int .i64 (-3)) (.int .i64 (2)) := a_21.below hbc a_21.lt
  clear a_21
  have b_22 : Two w18 (w4.heap.size) 23 (.int .i64 (1)) (.int .i64 (2)) := b_21.below hbc b_21.lt
  clear b_21
  have c_22 : Two w18 (w10.heap.size) 23 (.int .i64 (2305843009213693952)) (.int .i64 (1)) := c_21.below hbc c_21.lt
  clear c_21
  have hBa22 : Below w.heap.size w w18 := hBa21.trans (hbc.mono hBa21.size)
  clear hBa21 hbc
  have a_23 : Two (w18.alloc (.cells #[.int .i64 (0), .int .i64 (0)] 23)) (w1.heap.size) 23 (.int .i64 (-3)) (.int .i64 (2)) := a_22.alloc _
  clear a_22
  have b_23 : Two (w18.alloc (.cells #[.int .i64 (0), .int .i64 (0)] 23)) (w4.heap.size) 23 (.int .i64 (1)) (.int .i64 (2)) := b_22.alloc _
  clear b_22
  have c_23 : Two (w18.alloc (.cells #[.int .i64 (0), .int .i64 (0)] 23)) (w10.heap.size) 23 (.int .i64 (2305843009213693952)) (.int .i64 (1)) := c_22.alloc _
  clear c_22
  have hBa23 : Below w.heap.size w (w18.alloc (.cells #[.int .i64 (0), .int .i64 (0)] 23)) := hBa22.alloc hBa22.size _
  clear hBa22
  go_upto_region 9 with fail
  generalize (w18.alloc (.cells #[.int .i64 (0), .int .i64 (0)] 23)) = W at *
  have hS : ∀ w' : World, Below W.heap.size W w' → w'.cell? ⟨w1.heap.size, 0, none⟩ = some (.int .i64 (-3)) ∧ w'.cell? ⟨w1.heap.size, 1, none⟩ = some (.int .i64 (2)) ∧ w'.cell? ⟨w4.heap.size, 0, none⟩ = some (.int .i64 (1)) ∧ w'.cell? ⟨w4.heap.size, 1, none⟩ = some (.int .i64 (2)) ∧ w'.cell? ⟨w10.heap.size, 0, none⟩ = some (.int .i64 (2305843009213693952)) ∧ w'.cell? ⟨w10.heap.size, 1, none⟩ = some (.int .i64 (1)) := fun w' hb => by
    obtain ⟨a1, a2, -, -⟩ := (a_23.below hb a_23.lt).facts
    obtain ⟨b1, b2, -, -⟩ := (b_23.below hb b_23.lt).facts
    obtain ⟨c1, c2, -, -⟩ := (c_23.below hb c_23.lt).facts
    exact ⟨a1, a2, b1, b2, c1, c2⟩
  have hr := Below.refl W.heap.size W
  go_region_held3 (fun w' => w'.cell? ⟨w1.heap.size, 0, none⟩ = some (.int .i64 (-3)) ∧ w'.cell? ⟨w1.heap.size, 1, none⟩ = some (.int .i64 (2)) ∧ w'.cell? ⟨w4.heap.size, 0, none⟩ = some (.int .i64 (1)) ∧ w'.cell? ⟨w4.heap.size, 1, none⟩ = some (.int .i64 (2)) ∧ w'.cell? ⟨w10.heap.size, 0, none⟩ = some (.int .i64 (2305843009213693952)) ∧ w'.cell? ⟨w10.heap.size, 1, none⟩ = some (.int .i64 (1)))
    (first | exact hS _ hr.drew | exact hS _ (by assumption))
    (first
      | (go_at_call 26; have hz := hx2; refine (of_call _ _ _).mono ?_; rintro r x3 ⟨rfl, hx3'⟩; have hx3 : Below W.heap.size W x3 := hx2.trans (hx3'.mono hx2.size))
      | (go_at_call 26; have hz := hx1; refine (of_call _ _ _).mono ?_; rintro r x2 ⟨rfl, hx2'⟩; have hx2 : Below W.heap.size W x2 := hx1.trans (hx2'.mono hx1.size))
      | (go_at_call 26; refine (of_call _ _ _).mono ?_; rintro r x1 ⟨rfl, hx1'⟩; have hx1 : Below W.heap.size W x1 := hr.drew.trans hx1'))
  have hB := hBa23.trans (hx3.mono hBa23.size)
  go_wp2_with fail
  refine (of_call _ _ _).mono ?_
  rintro r y0 ⟨rfl, hy⟩
  have hB0 := hB.trans (hy.mono hB.size)
  clear hy
  go_wp2_with fail
  refine (HV1.out _).mono ?_
  rintro r y1 ⟨rfl, hy⟩
  have hB1 := hB0.trans (hy.mono hB0.size)
  clear hy
  go_wp2_with fail
  refine (of_call _ _ _).mono ?_
  rintro r y2 ⟨rfl, hy⟩
  have hB2 := hB1.trans (hy.mono hB1.size)
  clear hy
  go_wp2_with fail
  refine (HV2.out _).mono ?_
  rintro r y3 ⟨rfl, hy⟩
  have hB3 := hB2.trans (hy.mono hB2.size)
  clear hy
  go_wp2_with fail
  go_ret
  exact ⟨rfl, hB3⟩
end Go.Proofs.YtflnhjfmlminoaaDoor.Fr
