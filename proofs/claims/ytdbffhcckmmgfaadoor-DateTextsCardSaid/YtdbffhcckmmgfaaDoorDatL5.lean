/- The walk of DateTexts. -/
import Derived.Test.YtdbffhcckmmgfaaDoorDatH
namespace Go.Proofs.YtdbffhcckmmgfaaDoor.Dt
set_option linter.unusedVariables false
set_option linter.unusedSimpArgs false
open Go.RowKit

theorem bytesLess_eq : ∀ l m : List UInt8, Op.bytesLess l m = decide (l < m)
  | [], [] => by simp [Op.bytesLess]
  | [], _ :: _ => by simp [Op.bytesLess]
  | _ :: _, [] => by simp [Op.bytesLess]
  | a :: l, b :: m => by
    have ih := bytesLess_eq l m
    simp only [Op.bytesLess, ih]
    rw [Bool.eq_iff_iff]
    simp [List.cons_lt_cons_iff]

set_option maxRecDepth 100000 in
set_option maxHeartbeats 4000000 in
theorem lawTexts (a b : Int) (ha1 : -9223372036854775808 ≤ a) (ha2 : a ≤ 9223372036854775807) (hb1 : -9223372036854775808 ≤ b) (hb2 : b ≤ 9223372036854775807) (s : ByteArray) (hs : s.size ≤ 9223372036854775807) (w : World) (hl : LayT w) :
    Calls Tryd.prog 9 #[.int .i64 a, .int .i64 b, .string s] w fun e w' => e = .returned (.bool true) ∧ Below w.heap.size w w' := by
  by_cases hbig : 40 < s.size
  · have hbI : (40 : Int) < (s.size : Int) := by omega
    have hb0 : Below w.heap.size w w := Below.refl _ _
    go_enter Tryd.func9, Tryd.ntmps9
    go_wp2_with fail
    refine (head_any _ hl.1).mono ?_
    rintro r v1 ⟨rfl, hx1⟩
    have hb1 := hb0.trans (hx1.mono hb0.size)
    go_wp2_with fail
    go_ret
    exact ⟨rfl, hb1⟩
  have hsm : s.size ≤ 40 := by omega
  clear hbig
  -- what Parse makes of the text
  have hpar := par_cases s.data.toList
  have HP := Lib.hid (fun w hl => parse_any s (by omega) w hl)
  generalize hPD : parD s.data.toList = D at *
  have HPD := Lib.hid hPD
  clear hPD
  by_cases ha : 0 ≤ a ∧ a ≤ 100000
  · obtain ⟨a0, a1⟩ := ha
    have HA := Lib.hid (fun w hl => text_any a a0 a1 w hl)
    have hla := txN_len a0
    have hpa : parD (ByteArray.mk (txN a).toArray).data.toList = (a, 0) := par_yes a0 a1 (by simp)
    have HPA := Lib.hid (fun w hl => parse_any ⟨(txN a).toArray⟩ (by simp [ByteArray.size]; omega) w hl)
    rw [hpa] at HPA
    have hsz : (ByteArray.mk (txN a).toArray).size = 10 := by simpa [ByteArray.size] using hla
    clear hpa hla
    by_cases hb : 0 ≤ b ∧ b ≤ 100000
    · obtain ⟨b0, b1⟩ := hb
      have HB := Lib.hid (fun w hl => text_any b b0 b1 w hl)
      have hlt := txN_lt a0 a1 b0 b1
      have hlb := txN_len b0
      have hless : Op.bytesLess (ByteArray.mk (txN a).toArray).toList (ByteArray.mk (txN b).toArray).toList = decide (a < b) := by
        rw [ByteArray.toList_eq, ByteArray.toList_eq, bytesLess_eq]
        rw [decide_eq_decide]
        exact hlt
      have hk : (Op.bytesLess (ByteArray.mk (txN a).toArray).toList (ByteArray.mk (txN b).toArray).toList == decide (a < b)) = true := by
        rw [hless]
        cases decide (a < b) <;> rfl
      have hk2 : (!(Op.bytesLess (ByteArray.mk (txN a).toArray).toList (ByteArray.mk (txN b).toArray).toList == decide (a < b))) = false := by rw [hk]; rfl
      clear hless hlt hlb
      generalize ByteArray.mk (txN a).toArray = TA at *
      generalize ByteArray.mk (txN b).toArray = TB at *
      rcases hpar with ⟨n, n0, n1, hn, hD⟩ | hD
      · have hteq := bytes_eq.2 hn
        subst hD
        clear hn HPD
        have hb0 : Below w.heap.size w w := Below.refl _ _
        go_enter Tryd.func9, Tryd.ntmps9
        go_wp2_with fail
        refine (head_any _ hl.1).mono ?_
        rintro r v2 ⟨rfl, hx2⟩
        have hb2 := hb0.trans (hx2.mono hb0.size)
        go_wp2_with fail
        refine (HA.out _ (hl.below hb2).1).mono ?_
        rintro r v3 ⟨rfl, hx3⟩
        have hb3 := hb2.trans (hx3.mono hb2.size)
        go_wp2_with fail
        refine (HB.out _ (hl.below hb3).1).mono ?_
        rintro r v4 ⟨rfl, hx4⟩
        have hb4 := hb3.trans (hx4.mono hb3.size)
        go_wp2_with fail
        refine (HPA.out _ (hl.below hb4)).mono ?_
        rintro r v5 ⟨rfl, hx5⟩
        have hb5 := hb4.trans (hx5.mono hb4.size)
        go_wp2_with fail
        refine (HP.out _ (hl.below hb5)).mono ?_
        rintro r v6 ⟨rfl, hx6⟩
        have hb6 := hb5.trans (hx6.mono hb5.size)
        go_wp2_with fail
        refine (text_any n n0 n1 _ (hl.below hb6).1).mono ?_
        rintro r v7 ⟨rfl, hx7⟩
        have hb7 := hb6.trans (hx7.mono hb6.size)
        rw [hteq]
        go_wp2_with fail
        go_ret
        exact ⟨rfl, hb7⟩
      · subst hD
        clear HPD
        have hb0 : Below w.heap.size w w := Below.refl _ _
        go_enter Tryd.func9, Tryd.ntmps9
        go_wp2_with fail
        refine (head_any _ hl.1).mono ?_
        rintro r v8 ⟨rfl, hx8⟩
        have hb8 := hb0.trans (hx8.mono hb0.size)
        go_wp2_with fail
        refine (HA.out _ (hl.below hb8).1).mono ?_
        rintro r v9 ⟨rfl, hx9⟩
        have hb9 := hb8.trans (hx9.mono hb8.size)
        go_wp2_with fail
        refine (HB.out _ (hl.below hb9).1).mono ?_
        rintro r v10 ⟨rfl, hx10⟩
        have hb10 := hb9.trans (hx10.mono hb9.size)
        go_wp2_with fail
        refine (HPA.out _ (hl.below hb10)).mono ?_
        rintro r v11 ⟨rfl, hx11⟩
        have hb11 := hb10.trans (hx11.mono hb10.size)
        go_wp2_with fail
        refine (HP.out _ (hl.below hb11)).mono ?_
        rintro r v12 ⟨rfl, hx12⟩
        have hb12 := hb11.trans (hx12.mono hb11.size)
        go_wp2_with fail
        go_ret
        exact ⟨rfl, hb12⟩
    · have HB := Lib.hid (fun w => text_no b hb w)
      clear hb
      generalize ByteArray.mk (txN a).toArray = TA at *
      rcases hpar with ⟨n, n0, n1, hn, hD⟩ | hD
      · have hteq := bytes_eq.2 hn
        subst hD
        clear hn HPD
        have hb0 : Below w.heap.size w w := Below.refl _ _
        go_enter Tryd.func9, Tryd.ntmps9
        go_wp2_with fail
        refine (head_any _ hl.1).mono ?_
        rintro r v13 ⟨rfl, hx13⟩
        have hb13 := hb0.trans (hx13.mono hb0.size)
        go_wp2_with fail
        refine (HA.out _ (hl.below hb13).1).mono ?_
        rintro r v14 ⟨rfl, hx14⟩
        have hb14 := hb13.trans (hx14.mono hb13.size)
        go_wp2_with fail
        refine (HB.out _).mono ?_
        rintro r w' ⟨rfl, rfl⟩
        go_wp2_with fail
        refine (HPA.out _ (hl.below hb14)).mono ?_
        rintro r v15 ⟨rfl, hx15⟩
        have hb15 := hb14.trans (hx15.mono hb14.size)
        go_wp2_with fail
        refine (HP.out _ (hl.below hb15)).mono ?_
        rintro r v16 ⟨rfl, hx16⟩
        have hb16 := hb15.trans (hx16.mono hb15.size)
        go_wp2_with fail
        refine (text_any n n0 n1 _ (hl.below hb16).1).mono ?_
        rintro r v17 ⟨rfl, hx17⟩
        have hb17 := hb16.trans (hx17.mono hb16.size)
        rw [hteq]
        go_wp2_with fail
        go_ret
        exact ⟨rfl, hb17⟩
      · subst hD
        clear HPD
        have hb0 : Below w.heap.size w w := Below.refl _ _
        go_enter Tryd.func9, Tryd.ntmps9
        go_wp2_with fail
        refine (head_any _ hl.1).mono ?_
        rintro r v18 ⟨rfl, hx18⟩
        have hb18 := hb0.trans (hx18.mono hb0.size)
        go_wp2_with fail
        refine (HA.out _ (hl.below hb18).1).mono ?_
        rintro r v19 ⟨rfl, hx19⟩
        have hb19 := hb18.trans (hx19.mono hb18.size)
        go_wp2_with fail
        refine (HB.out _).mono ?_
        rintro r w' ⟨rfl, rfl⟩
        go_wp2_with fail
        refine (HPA.out _ (hl.below hb19)).mono ?_
        rintro r v20 ⟨rfl, hx20⟩
        have hb20 := hb19.trans (hx20.mono hb19.size)
        go_wp2_with fail
        refine (HP.out _ (hl.below hb20)).mono ?_
        rintro r v21 ⟨rfl, hx21⟩
        have hb21 := hb20.trans (hx21.mono hb20.size)
        go_wp2_with fail
        go_ret
        exact ⟨rfl, hb21⟩
  · have HA := Lib.hid (fun w => text_no a ha w)
    by_cases hb : 0 ≤ b ∧ b ≤ 100000
    · obtain ⟨b0, b1⟩ := hb
      have HB := Lib.hid (fun w hl => text_any b b0 b1 w hl)
      generalize ByteArray.mk (txN b).toArray = TB at *
      by_cases hn : a < 0
      · have hn2 : decide (0 ≤ a) = false := by simpa using hn
        clear ha hn
        rcases hpar with ⟨n, n0, n1, hn, hD⟩ | hD
        · have hteq := bytes_eq.2 hn
          subst hD
          clear hn HPD
          have hb0 : Below w.heap.size w w := Below.refl _ _
          go_enter Tryd.func9, Tryd.ntmps9
          go_wp2_with fail
          refine (head_any _ hl.1).mono ?_
          rintro r v22 ⟨rfl, hx22⟩
          have hb22 := hb0.trans (hx22.mono hb0.size)
          go_wp2_with fail
          refine (HA.out _).mono ?_
          rintro r w' ⟨rfl, rfl⟩
          go_wp2_with fail
          refine (HB.out _ (hl.below hb22).1).mono ?_
          rintro r v23 ⟨rfl, hx23⟩
          have hb23 := hb22.trans (hx23.mono hb22.size)
          go_wp2_with fail
          refine (HP.out _ (hl.below hb23)).mono ?_
          rintro r v24 ⟨rfl, hx24⟩
          have hb24 := hb23.trans (hx24.mono hb23.size)
          go_wp2_with fail
          refine (text_any n n0 n1 _ (hl.below hb24).1).mono ?_
          rintro r v25 ⟨rfl, hx25⟩
          have hb25 := hb24.trans (hx25.mono hb24.size)
          rw [hteq]
          go_wp2_with fail
          go_ret
          exact ⟨rfl, hb25⟩
        · subst hD
          clear HPD
          have hb0 : Below w.heap.size w w := Below.refl _ _
          go_enter Tryd.func9, Tryd.ntmps9
          go_wp2_with fail
          refine (head_any _ hl.1).mono ?_
          rintro r v26 ⟨rfl, hx26⟩
          have hb26 := hb0.trans (hx26.mono hb0.size)
          go_wp2_with fail
          refine (HA.out _).mono ?_
          rintro r w' ⟨rfl, rfl⟩
          go_wp2_with fail
          refine (HB.out _ (hl.below hb26).1).mono ?_
          rintro r v27 ⟨rfl, hx27⟩
          have hb27 := hb26.trans (hx27.mono hb26.size)
          go_wp2_with fail
          refine (HP.out _ (hl.below hb27)).mono ?_
          rintro r v28 ⟨rfl, hx28⟩
          have hb28 := hb27.trans (hx28.mono hb27.size)
          go_wp2_with fail
          go_ret
          exact ⟨rfl, hb28⟩
      · have hn1 : 0 ≤ a := by omega
        have hn2 : decide (a ≤ 100000) = false := by simp; omega
        clear ha hn
        rcases hpar with ⟨n, n0, n1, hn, hD⟩ | hD
        · have hteq := bytes_eq.2 hn
          subst hD
          clear hn HPD
          have hb0 : Below w.heap.size w w := Below.refl _ _
          go_enter Tryd.func9, Tryd.ntmps9
          go_wp2_with fail
          refine (head_any _ hl.1).mono ?_
          rintro r v29 ⟨rfl, hx29⟩
          have hb29 := hb0.trans (hx29.mono hb0.size)
          go_wp2_with fail
          refine (HA.out _).mono ?_
          rintro r w' ⟨rfl, rfl⟩
          go_wp2_with fail
          refine (HB.out _ (hl.below hb29).1).mono ?_
          rintro r v30 ⟨rfl, hx30⟩
          have hb30 := hb29.trans (hx30.mono hb29.size)
          go_wp2_with fail
          refine (HP.out _ (hl.below hb30)).mono ?_
          rintro r v31 ⟨rfl, hx31⟩
          have hb31 := hb30.trans (hx31.mono hb30.size)
          go_wp2_with fail
          refine (text_any n n0 n1 _ (hl.below hb31).1).mono ?_
          rintro r v32 ⟨rfl, hx32⟩
          have hb32 := hb31.trans (hx32.mono hb31.size)
          rw [hteq]
          go_wp2_with fail
          go_ret
          exact ⟨rfl, hb32⟩
        · subst hD
          clear HPD
          have hb0 : Below w.heap.size w w := Below.refl _ _
          go_enter Tryd.func9, Tryd.ntmps9
          go_wp2_with fail
          refine (head_any _ hl.1).mono ?_
          rintro r v33 ⟨rfl, hx33⟩
          have hb33 := hb0.trans (hx33.mono hb0.size)
          go_wp2_with fail
          refine (HA.out _).mono ?_
          rintro r w' ⟨rfl, rfl⟩
          go_wp2_with fail
          refine (HB.out _ (hl.below hb33).1).mono ?_
          rintro r v34 ⟨rfl, hx34⟩
          have hb34 := hb33.trans (hx34.mono hb33.size)
          go_wp2_with fail
          refine (HP.out _ (hl.below hb34)).mono ?_
          rintro r v35 ⟨rfl, hx35⟩
          have hb35 := hb34.trans (hx35.mono hb34.size)
          go_wp2_with fail
          go_ret
          exact ⟨rfl, hb35⟩
    · have HB := Lib.hid (fun w => text_no b hb w)
      clear hb
      by_cases hn : a < 0
      · have hn2 : decide (0 ≤ a) = false := by simpa using hn
        clear ha hn
        rcases hpar with ⟨n, n0, n1, hn, hD⟩ | hD
        · have hteq := bytes_eq.2 hn
          subst hD
          clear hn HPD
          have hb0 : Below w.heap.size w w := Below.refl _ _
          go_enter Tryd.func9, Tryd.ntmps9
          go_wp2_with fail
          refine (head_any _ hl.1).mono ?_
          rintro r v36 ⟨rfl, hx36⟩
          have hb36 := hb0.trans (hx36.mono hb0.size)
          go_wp2_with fail
          refine (HA.out _).mono ?_
          rintro r w' ⟨rfl, rfl⟩
          go_wp2_with fail
          refine (HB.out _).mono ?_
          rintro r w' ⟨rfl, rfl⟩
          go_wp2_with fail
          refine (HP.out _ (hl.below hb36)).mono ?_
          rintro r v37 ⟨rfl, hx37⟩
          have hb37 := hb36.trans (hx37.mono hb36.size)
          go_wp2_with fail
          refine (text_any n n0 n1 _ (hl.below hb37).1).mono ?_
          rintro r v38 ⟨rfl, hx38⟩
          have hb38 := hb37.trans (hx38.mono hb37.size)
          rw [hteq]
          go_wp2_with fail
          go_ret
          exact ⟨rfl, hb38⟩
        · subst hD
          clear HPD
          have hb0 : Below w.heap.size w w := Below.refl _ _
          go_enter Tryd.func9, Tryd.ntmps9
          go_wp2_with fail
          refine (head_any _ hl.1).mono ?_
          rintro r v39 ⟨rfl, hx39⟩
          have hb39 := hb0.trans (hx39.mono hb0.size)
          go_wp2_with fail
          refine (HA.out _).mono ?_
          rintro r w' ⟨rfl, rfl⟩
          go_wp2_with fail
          refine (HB.out _).mono ?_
          rintro r w' ⟨rfl, rfl⟩
          go_wp2_with fail
          refine (HP.out _ (hl.below hb39)).mono ?_
          rintro r v40 ⟨rfl, hx40⟩
          have hb40 := hb39.trans (hx40.mono hb39.size)
          go_wp2_with fail
          go_ret
          exact ⟨rfl, hb40⟩
      · have hn1 : 0 ≤ a := by omega
        have hn2 : decide (a ≤ 100000) = false := by simp; omega
        clear ha hn
        rcases hpar with ⟨n, n0, n1, hn, hD⟩ | hD
        · have hteq := bytes_eq.2 hn
          subst hD
          clear hn HPD
          have hb0 : Below w.heap.size w w := Below.refl _ _
          go_enter Tryd.func9, Tryd.ntmps9
          go_wp2_with fail
          refine (head_any _ hl.1).mono ?_
          rintro r v41 ⟨rfl, hx41⟩
          have hb41 := hb0.trans (hx41.mono hb0.size)
          go_wp2_with fail
          refine (HA.out _).mono ?_
          rintro r w' ⟨rfl, rfl⟩
          go_wp2_with fail
          refine (HB.out _).mono ?_
          rintro r w' ⟨rfl, rfl⟩
          go_wp2_with fail
          refine (HP.out _ (hl.below hb41)).mono ?_
          rintro r v42 ⟨rfl, hx42⟩
          have hb42 := hb41.trans (hx42.mono hb41.size)
          go_wp2_with fail
          refine (text_any n n0 n1 _ (hl.below hb42).1).mono ?_
          rintro r v43 ⟨rfl, hx43⟩
          have hb43 := hb42.trans (hx43.mono hb42.size)
          rw [hteq]
          go_wp2_with fail
          go_ret
          exact ⟨rfl, hb43⟩
        · subst hD
          clear HPD
          have hb0 : Below w.heap.size w w := Below.refl _ _
          go_enter Tryd.func9, Tryd.ntmps9
          go_wp2_with fail
          refine (head_any _ hl.1).mono ?_
          rintro r v44 ⟨rfl, hx44⟩
          have hb44 := hb0.trans (hx44.mono hb0.size)
          go_wp2_with fail
          refine (HA.out _).mono ?_
          rintro r w' ⟨rfl, rfl⟩
          go_wp2_with fail
          refine (HB.out _).mono ?_
          rintro r w' ⟨rfl, rfl⟩
          go_wp2_with fail
          refine (HP.out _ (hl.below hb44)).mono ?_
          rintro r v45 ⟨rfl, hx45⟩
          have hb45 := hb44.trans (hx45.mono hb44.size)
          go_wp2_with fail
          go_ret
          exact ⟨rfl, hb45⟩
end Go.Proofs.YtdbffhcckmmgfaaDoor.Dt
