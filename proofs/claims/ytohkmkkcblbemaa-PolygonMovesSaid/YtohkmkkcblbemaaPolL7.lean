/- The walk of PolygonMoves. -/
import Derived.Test.YtohkmkkcblbemaaPolL7a
namespace Go.Proofs.Ytohkmkkcblbemaa.Ge
set_option linter.unusedVariables false
set_option linter.unusedSimpArgs false
open Go.RowKit
open Go.Proofs.Ytohkmkkcblbemaa.Fr (Two)

theorem moved_any (v : Value) (r : List Pt) (x y : Int) (ex : Bool) (hr : onL r) (hx : -32768 ≤ x ∧ x ≤ 32767) (hy : -32768 ≤ y ∧ y ≤ 32767) (hl : 1 ≤ r.length ∧ r.length ≤ 1000) (w : World) (hv : PtSl w v r) :
    Calls Try.prog 38 #[v, .int .i64 x, .int .i64 y, .bool ex] w fun e w' => ∃ u, e = .returned u ∧ OwnPt w' w.heap.size u (if ex = true then r.reverse.map gX else r.map (gT x y)) ∧ Below w.heap.size w w' := by
  cases ex with
  | true => exact moved_X v r x y hl w hv
  | false => exact moved_T v r x y hr hx hy hl w hv

set_option maxRecDepth 100000 in
set_option maxHeartbeats 8000000 in
theorem lawMoves_false (va vb : Value) (ra rb : List Pt) (px py nx ny : Int) (hx0 : -32768 ≤ nx) (hx1 : nx ≤ 32767) (hy0 : -32768 ≤ ny) (hy1 : ny ≤ 32767) (w : World) (ha : PtSl w va ra) (hb : PtSl w vb rb) :
    Calls Try.prog 10 #[va, vb, .agg #[.int .i64 px, .int .i64 py], .int .i16 nx, .int .i16 ny, .bool false] w fun e w' => e = .returned (.bool true) ∧ Below w.heap.size w w' := by
  have tp := Two.new w 23 (.int .i64 px) (.int .i64 py)
  have hB := (Below.refl w.heap.size w).alloc (Nat.le_refl _) (.cells #[.int .i64 px, .int .i64 py] 23)
  have Ha := ha.below hB
  have Hb := hb.below hB
  obtain ⟨a1, a2, rfl⟩ := ha.form
  obtain ⟨b1, b2, rfl⟩ := hb.form
  clear ha hb
  have HA := Lib.hid Ha
  have HB := Lib.hid Hb
  clear Ha Hb
  go_enter Try.func10, Try.ntmps10
  go_wp2_with fail
  generalize w.alloc (.cells #[.int .i64 px, .int .i64 py] 23) = W0 at *
  refine (head8_any _).mono ?_
  rintro e w1 ⟨rfl, hb1⟩
  have hB1 := hB.trans (hb1.mono hB.size)
  have HA1 := Lib.hid (HA.out.below hb1)
  have HB1 := Lib.hid (HB.out.below hb1)
  have tp1 := tp.below hb1 tp.lt
  clear HA HB tp hB hb1
  go_wp2_with fail
  refine (few8_any _ _ ra rb _ HA1.out HB1.out).mono ?_
  rintro e w2 ⟨rfl, rfl⟩
  by_cases hfew : ¬ (ra.length ≤ 50 ∧ rb.length ≤ 50)
  · rw [show (decide (ra.length ≤ 50) && decide (rb.length ≤ 50)) = false by rw [Bool.eq_false_iff]; simp only [ne_eq, Bool.and_eq_true, decide_eq_true_eq]; exact hfew]
    go_wp2_with fail
    go_ret
    exact ⟨rfl, hB1⟩
  have hfew := Classical.not_not.1 hfew
  rw [decide_eq_true hfew.1, decide_eq_true hfew.2]
  clear hfew
  have HV := Lib.hid (Valid_any _ ra w2 HA1.out)
  cases hva : validB ra with
  | false =>
    rw [hva] at HV
    clear hva
    go_wp2_with fail
    refine HV.out.mono ?_
    rintro e w3 ⟨rfl, hb3⟩
    have hB3 := hB1.trans (hb3.mono hB1.size)
    go_wp2_with fail
    go_ret
    exact ⟨rfl, hB3⟩
  | true =>
  rw [hva] at HV
  have Hva := Lib.hid hva
  clear hva
  go_wp2_with fail
  refine HV.out.mono ?_
  rintro e w3 ⟨rfl, hb3⟩
  have hB3 := hB1.trans (hb3.mono hB1.size)
  have HA3 := Lib.hid (HA1.out.below hb3)
  have HB3 := Lib.hid (HB1.out.below hb3)
  have tp3 := tp1.below hb3 tp1.lt
  clear HV HA1 HB1 tp1 hB1 hb3
  have HV := Lib.hid (Valid_any _ rb w3 HB3.out)
  cases hvb : validB rb with
  | false =>
    rw [hvb] at HV
    clear hvb
    go_wp2_with fail
    refine HV.out.mono ?_
    rintro e w4 ⟨rfl, hb4⟩
    have hB4 := hB3.trans (hb4.mono hB3.size)
    go_wp2_with fail
    go_ret
    exact ⟨rfl, hB4⟩
  | true =>
  rw [hvb] at HV
  have Hvb := Lib.hid hvb
  clear hvb
  go_wp2_with fail
  refine HV.out.mono ?_
  rintro e w4 ⟨rfl, hb4⟩
  have hB4 := hB3.trans (hb4.mono hB3.size)
  have HA4 := Lib.hid (HA3.out.below hb4)
  have HB4 := Lib.hid (HB3.out.below hb4)
  have tp4 := tp3.below hb4 tp3.lt
  clear HV HA3 HB3 tp3 hB3 hb4
  obtain ⟨f1, f2, f3, f4⟩ := tp4.facts
  go_wp2_with fail
  refine (On_any px py _).mono ?_
  rintro e w5 ⟨rfl, hb5⟩
  clear f1 f2 f3 f4
  have hB5 := hB4.trans (hb5.mono hB4.size)
  by_cases hon : ¬ onP px py
  · rw [decide_eq_false hon]
    go_wp2_with fail
    go_ret
    exact ⟨rfl, hB5⟩
  have hon := Classical.not_not.1 hon
  rw [decide_eq_true hon]
  have HA5 := Lib.hid (HA4.out.below hb5)
  have HB5 := Lib.hid (HB4.out.below hb5)
  have tp5 := tp4.below hb5 tp4.lt
  clear HA4 HB4 tp4 hB4 hb5
  have la := valid_len Hva.out
  have lb := valid_len Hvb.out
  have HMA := Lib.hid (moved_any _ ra nx ny false (valid_on Hva.out) ⟨hx0, hx1⟩ ⟨hy0, hy1⟩ (by omega) w5 HA5.out)
  have HMB := Lib.hid (fun (w' : World) (h : Below w5.heap.size w5 w') => moved_any _ rb nx ny false (valid_on Hvb.out) ⟨hx0, hx1⟩ ⟨hy0, hy1⟩ (by omega) w' (HB5.out.below h))
  rw [if_neg (by decide)] at HMA
  rw [if_neg (show ¬ (false = true) by decide)] at HMB
  have Hon := Lib.hid hon
  obtain ⟨⟨o1, o2⟩, o3, o4⟩ := hon
  have k1 : IntKind.i64.wrap (px + nx) = px + nx := by rw [IntKind.wrap_i64]; omega
  have k2 : IntKind.i64.wrap (py + ny) = py + ny := by rw [IntKind.wrap_i64]; omega
  go_wp2_with fail
  refine HMA.out.mono ?_
  rintro e w6 ⟨u, rfl, own, hb6⟩
  have HC6 := Lib.hid own.sl
  obtain ⟨c1, c2, rfl⟩ := own.form
  clear own HMA
  have ec : (ra.map (gT nx ny)).length = ra.length := by simp
  have ed : (rb.map (gT nx ny)).length = rb.length := by simp
  rw [ec] at HC6
  rw [ec]
  go_wp2_with fail
  refine (HMB.out _ hb6).mono ?_
  rintro e w7 ⟨u, rfl, own, hb7⟩
  have HD7 := Lib.hid own.sl
  obtain ⟨d1, d2, rfl⟩ := own.form
  clear own HMB
  rw [ed] at HD7
  rw [ed]
  have hb67 := hb6.trans (hb7.mono hb6.size)
  have HC7 := Lib.hid (HC6.out.below hb7)
  have HA7 := Lib.hid (HA5.out.below hb67)
  have HB7 := Lib.hid (HB5.out.below hb67)
  have tp7 := tp5.below hb67 tp5.lt
  have hB7 := hB5.trans (hb67.mono hB5.size)
  clear HC6 HA5 HB5 tp5 hB5 hb6 hb7 hb67
  obtain ⟨f1, f2, f3, f4⟩ := tp7.facts
  have s0 := hB7.size
  have s1 := tp7.lt
  go_upto_region 9 with fail
  have tq8 := Two.new w7 23 (.int .i64 (px + nx)) (.int .i64 (py + ny))
  have tp8 := tp7.alloc (.cells #[.int .i64 (px + nx), .int .i64 (py + ny)] 23)
  have hb8 := (Below.refl w7.heap.size w7).alloc (Nat.le_refl _) (.cells #[.int .i64 (px + nx), .int .i64 (py + ny)] 23)
  clear f1 f2 f3 f4 tp7
  obtain ⟨w8, hw8⟩ : ∃ x, w7.alloc (.cells #[.int .i64 (px + nx), .int .i64 (py + ny)] 23) = x := ⟨_, rfl⟩
  rw [hw8] at tq8 tp8 hb8 ⊢
  clear hw8
  have HC8 := Lib.hid (HC7.out.below hb8)
  have HD8 := Lib.hid (HD7.out.below hb8)
  have HA8 := Lib.hid (HA7.out.below hb8)
  have HB8 := Lib.hid (HB7.out.below hb8)
  have hB8 := hB7.trans (hb8.mono hB7.size)
  clear HC7 HD7 HA7 HB7 hB7 hb8
  generalize w7.heap.size = BQ at *
  have HOC := Lib.hid (on8_any _ (ra.map (gT nx ny)) w8 HC8.out (by simp; omega))
  have HOD := Lib.hid (fun (w' : World) (h : Below w8.heap.size w8 w') => on8_any _ (rb.map (gT nx ny)) w' (HD8.out.below h) (by simp; omega))
  go_wp2_with fail
  refine HOC.out.mono ?_
  rintro e w9 ⟨rfl, hb9⟩
  have hB9 := hB8.trans (hb9.mono hB8.size)
  by_cases hoc : ¬ onL (ra.map (gT nx ny))
  · rw [decide_eq_false hoc]
    go_wp2_with fail
    go_ret
    exact ⟨rfl, hB9⟩
  have hoc := Classical.not_not.1 hoc
  rw [decide_eq_true hoc]
  go_wp2_with fail
  refine (HOD.out _ hb9).mono ?_
  rintro e w10 ⟨rfl, hb10⟩
  have hx10 := hb9.trans (hb10.mono hb9.size)
  have hB10 := hB8.trans (hx10.mono hB8.size)
  by_cases hod : ¬ onL (rb.map (gT nx ny))
  · rw [decide_eq_false hod]
    go_wp2_with fail
    go_ret
    exact ⟨rfl, hB10⟩
  have hod := Classical.not_not.1 hod
  rw [decide_eq_true hod]
  have tq10 := tq8.below hx10 tq8.lt
  obtain ⟨g1, g2, g3, g4⟩ := tq10.facts
  go_wp2_with fail
  refine (On_any (px + nx) (py + ny) _).mono ?_
  rintro e w11 ⟨rfl, hb11⟩
  clear g1 g2 g3 g4
  have hx11 := hx10.trans (hb11.mono hx10.size)
  have hB11 := hB8.trans (hx11.mono hB8.size)
  by_cases hoq : ¬ onP (px + nx) (py + ny)
  · rw [decide_eq_false hoq]
    go_wp2_with fail
    go_ret
    exact ⟨rfl, hB11⟩
  have hoq := Classical.not_not.1 hoq
  rw [decide_eq_true hoq]
  have HS8 := Lib.hid (same_T Hva.out Hvb.out hoc hod Hon.out hoq)
  clear hoc hod hoq
  clear HOC HOD hx10 hb10 hb9 hb11 tq10
  have tq11 := tq8.below hx11 tq8.lt
  have tp11 := tp8.below hx11 tp8.lt
  have HVC := Lib.hid (fun (w' : World) (h : Below w8.heap.size w8 w') => Valid_any _ (ra.map (gT nx ny)) w' (HC8.out.below h))
  have HVD := Lib.hid (fun (w' : World) (h : Below w8.heap.size w8 w') => Valid_any _ (rb.map (gT nx ny)) w' (HD8.out.below h))
  have HTA := Lib.hid (fun (w' : World) (h : Below w8.heap.size w8 w') => Twice_any _ ra w' (HA8.out.below h))
  have HTC := Lib.hid (fun (w' : World) (h : Below w8.heap.size w8 w') => Twice_any _ (ra.map (gT nx ny)) w' (HC8.out.below h))
  have HWA := Lib.hid (fun (w' : World) (h : Below w8.heap.size w8 w') => Where_any _ ra px py w' (HA8.out.below h))
  have HWC := Lib.hid (fun (w' : World) (h : Below w8.heap.size w8 w') => Where_any _ (ra.map (gT nx ny)) (px + nx) (py + ny) w' (HC8.out.below h))
  have HIA := Lib.hid (fun (w' : World) (h : Below w8.heap.size w8 w') => Within_any _ _ ra rb w' (HA8.out.below h) (HB8.out.below h))
  have HIC := Lib.hid (fun (w' : World) (h : Below w8.heap.size w8 w') => Within_any _ _ (ra.map (gT nx ny)) (rb.map (gT nx ny)) w' (HC8.out.below h) (HD8.out.below h))
  have HPA := Lib.hid (fun (w' : World) (h : Below w8.heap.size w8 w') => Apart_any _ _ ra rb w' (HA8.out.below h) (HB8.out.below h))
  have HPC := Lib.hid (fun (w' : World) (h : Below w8.heap.size w8 w') => Apart_any _ _ (ra.map (gT nx ny)) (rb.map (gT nx ny)) w' (HC8.out.below h) (HD8.out.below h))
  rw [HS8.out.va] at HVC
  rw [HS8.out.vb] at HVD
  rw [HS8.out.tw] at HTC
  rw [HS8.out.wh] at HWC
  rw [HS8.out.wi] at HIC
  rw [HS8.out.ap] at HPC
  clear HS8 HC8 HD8 HA8 HB8 Hva Hvb Hon tq8 tp8 ec ed
  generalize twiceV ra = qt at *
  generalize whereV ra px py = qw at *
  generalize withinB ra rb = qi at *
  generalize apartR ra rb = qp at *
  have e2 : (qt == qt) = true := by simp
  have e3 : (qw == qw) = true := by simp
  have e9 : (qi == qi) = true := by simp
  have e11 : (qp == qp) = true := by simp
  go_upto_region 11 with fail
  have hS : ∀ w' : World, Below w11.heap.size w11 w' → (w'.cell? ⟨w.heap.size, 0, none⟩ = some (.int .i64 px) ∧ w'.cell? ⟨w.heap.size, 1, none⟩ = some (.int .i64 py)) ∧ (w'.cell? ⟨BQ, 0, none⟩ = some (.int .i64 (px + nx)) ∧ w'.cell? ⟨BQ, 1, none⟩ = some (.int .i64 (py + ny))) := fun w' hb => ⟨two_of tp11 hb, two_of tq11 hb⟩
  have hr := Below.refl w11.heap.size w11
  go_region_held3 (fun w' => (w'.cell? ⟨w.heap.size, 0, none⟩ = some (.int .i64 px) ∧ w'.cell? ⟨w.heap.size, 1, none⟩ = some (.int .i64 py)) ∧ (w'.cell? ⟨BQ, 0, none⟩ = some (.int .i64 (px + nx)) ∧ w'.cell? ⟨BQ, 1, none⟩ = some (.int .i64 (py + ny))))
    (first | (with_reducible exact hS _ hr.drew) | (with_reducible refine hS _ ?_; with_reducible assumption))
    (first
      | (go_at_call 27; have hz := y5; refine (HWC.out _ (hx11.trans ((y5).mono hx11.size))).mono ?_; rintro r yw6 ⟨rfl, yx6⟩; have y6 : Below w11.heap.size w11 yw6 := (y5).trans (yx6.mono (y5).size); clear yx6)
      | (go_at_call 27; have hz := y4; refine (HWA.out _ (hx11.trans ((y4).mono hx11.size))).mono ?_; rintro r yw5 ⟨rfl, yx5⟩; have y5 : Below w11.heap.size w11 yw5 := (y4).trans (yx5.mono (y4).size); clear yx5)
      | (go_at_call 25; have hz := y3; refine (HTC.out _ (hx11.trans ((y3).mono hx11.size))).mono ?_; rintro r yw4 ⟨rfl, yx4⟩; have y4 : Below w11.heap.size w11 yw4 := (y3).trans (yx4.mono (y3).size); clear yx4)
      | (go_at_call 25; have hz := y2; refine (HTA.out _ (hx11.trans ((y2).mono hx11.size))).mono ?_; rintro r yw3 ⟨rfl, yx3⟩; have y3 : Below w11.heap.size w11 yw3 := (y2).trans (yx3.mono (y2).size); clear yx3)
      | (go_at_call 23; have hz := y1; refine (HVD.out _ (hx11.trans ((y1).mono hx11.size))).mono ?_; rintro r yw2 ⟨rfl, yx2⟩; have y2 : Below w11.heap.size w11 yw2 := (y1).trans (yx2.mono (y1).size); clear yx2)
      | (go_at_call 23; refine (HVC.out _ (hx11.trans ((hr.drew).mono hx11.size))).mono ?_; rintro r yw1 ⟨rfl, yx1⟩; have y1 : Below w11.heap.size w11 yw1 := (hr.drew).trans (yx1.mono (hr.drew).size); clear yx1))
  have hb12 := hx11.trans (y6.mono hx11.size)
  have hB12 := hB11.trans (y6.mono hB11.size)
  clear y1 y2 y3 y4 y5 y6 hr hS hx11 hB11 tp11 tq11
  go_wp2_with fail
  refine (HIA.out _ hb12).mono ?_
  rintro e w13 ⟨rfl, x13⟩
  have hb13 := hb12.trans (x13.mono hb12.size)
  have hB13 := hB12.trans (x13.mono hB12.size)
  clear hb12 hB12 x13
  go_wp2_with fail
  refine (HIC.out _ hb13).mono ?_
  rintro e w14 ⟨rfl, x14⟩
  have hb14 := hb13.trans (x14.mono hb13.size)
  have hB14 := hB13.trans (x14.mono hB13.size)
  clear hb13 hB13 x14
  go_wp2_with fail
  refine (HPA.out _ hb14).mono ?_
  rintro e w15 ⟨rfl, x15⟩
  have hb15 := hb14.trans (x15.mono hb14.size)
  have hB15 := hB14.trans (x15.mono hB14.size)
  clear hb14 hB14 x15
  go_wp2_with fail
  refine (HPC.out _ hb15).mono ?_
  rintro e w16 ⟨rfl, x16⟩
  have hb16 := hb15.trans (x16.mono hb15.size)
  have hB16 := hB15.trans (x16.mono hB15.size)
  clear hb15 hB15 x16
  go_wp2_with fail
  go_ret
  exact ⟨rfl, hB16⟩

set_option maxRecDepth 100000 in
set_option maxHeartbeats 8000000 in
theorem lawMoves_true (va vb : Value) (ra rb : List Pt) (px py nx ny : Int) (hx0 : -32768 ≤ nx) (hx1 : nx ≤ 32767) (hy0 : -32768 ≤ ny) (hy1 : ny ≤ 32767) (w : World) (ha : PtSl w va ra) (hb : PtSl w vb rb) :
    Calls Try.prog 10 #[va, vb, .agg #[.int .i64 px, .int .i64 py], .int .i16 nx, .int .i16 ny, .bool true] w fun e w' => e = .returned (.bool true) ∧ Below w.heap.size w w' := by
  have tp := Two.new w 23 (.int .i64 px) (.int .i64 py)
  have hB := (Below.refl w.heap.size w).alloc (Nat.le_refl _) (.cells #[.int .i64 px, .int .i64 py] 23)
  have Ha := ha.below hB
  have Hb := hb.below hB
  obtain ⟨a1, a2, rfl⟩ := ha.form
  obtain ⟨b1, b2, rfl⟩ := hb.form
  clear ha hb
  have HA := Lib.hid Ha
  have HB := Lib.hid Hb
  clear Ha Hb
  go_enter Try.func10, Try.ntmps10
  go_wp2_with fail
  generalize w.alloc (.cells #[.int .i64 px, .int .i64 py] 23) = W0 at *
  refine (head8_any _).mono ?_
  rintro e w1 ⟨rfl, hb1⟩
  have hB1 := hB.trans (hb1.mono hB.size)
  have HA1 := Lib.hid (HA.out.below hb1)
  have HB1 := Lib.hid (HB.out.below hb1)
  have tp1 := tp.below hb1 tp.lt
  clear HA HB tp hB hb1
  go_wp2_with fail
  refine (few8_any _ _ ra rb _ HA1.out HB1.out).mono ?_
  rintro e w2 ⟨rfl, rfl⟩
  by_cases hfew : ¬ (ra.length ≤ 50 ∧ rb.length ≤ 50)
  · rw [show (decide (ra.length ≤ 50) && decide (rb.length ≤ 50)) = false by rw [Bool.eq_false_iff]; simp only [ne_eq, Bool.and_eq_true, decide_eq_true_eq]; exact hfew]
    go_wp2_with fail
    go_ret
    exact ⟨rfl, hB1⟩
  have hfew := Classical.not_not.1 hfew
  rw [decide_eq_true hfew.1, decide_eq_true hfew.2]
  clear hfew
  have HV := Lib.hid (Valid_any _ ra w2 HA1.out)
  cases hva : validB ra with
  | false =>
    rw [hva] at HV
    clear hva
    go_wp2_with fail
    refine HV.out.mono ?_
    rintro e w3 ⟨rfl, hb3⟩
    have hB3 := hB1.trans (hb3.mono hB1.size)
    go_wp2_with fail
    go_ret
    exact ⟨rfl, hB3⟩
  | true =>
  rw [hva] at HV
  have Hva := Lib.hid hva
  clear hva
  go_wp2_with fail
  refine HV.out.mono ?_
  rintro e w3 ⟨rfl, hb3⟩
  have hB3 := hB1.trans (hb3.mono hB1.size)
  have HA3 := Lib.hid (HA1.out.below hb3)
  have HB3 := Lib.hid (HB1.out.below hb3)
  have tp3 := tp1.below hb3 tp1.lt
  clear HV HA1 HB1 tp1 hB1 hb3
  have HV := Lib.hid (Valid_any _ rb w3 HB3.out)
  cases hvb : validB rb with
  | false =>
    rw [hvb] at HV
    clear hvb
    go_wp2_with fail
    refine HV.out.mono ?_
    rintro e w4 ⟨rfl, hb4⟩
    have hB4 := hB3.trans (hb4.mono hB3.size)
    go_wp2_with fail
    go_ret
    exact ⟨rfl, hB4⟩
  | true =>
  rw [hvb] at HV
  have Hvb := Lib.hid hvb
  clear hvb
  go_wp2_with fail
  refine HV.out.mono ?_
  rintro e w4 ⟨rfl, hb4⟩
  have hB4 := hB3.trans (hb4.mono hB3.size)
  have HA4 := Lib.hid (HA3.out.below hb4)
  have HB4 := Lib.hid (HB3.out.below hb4)
  have tp4 := tp3.below hb4 tp3.lt
  clear HV HA3 HB3 tp3 hB3 hb4
  obtain ⟨f1, f2, f3, f4⟩ := tp4.facts
  go_wp2_with fail
  refine (On_any px py _).mono ?_
  rintro e w5 ⟨rfl, hb5⟩
  clear f1 f2 f3 f4
  have hB5 := hB4.trans (hb5.mono hB4.size)
  by_cases hon : ¬ onP px py
  · rw [decide_eq_false hon]
    go_wp2_with fail
    go_ret
    exact ⟨rfl, hB5⟩
  have hon := Classical.not_not.1 hon
  rw [decide_eq_true hon]
  have HA5 := Lib.hid (HA4.out.below hb5)
  have HB5 := Lib.hid (HB4.out.below hb5)
  have tp5 := tp4.below hb5 tp4.lt
  clear HA4 HB4 tp4 hB4 hb5
  have la := valid_len Hva.out
  have lb := valid_len Hvb.out
  have HMA := Lib.hid (moved_any _ ra nx ny true (valid_on Hva.out) ⟨hx0, hx1⟩ ⟨hy0, hy1⟩ (by omega) w5 HA5.out)
  have HMB := Lib.hid (fun (w' : World) (h : Below w5.heap.size w5 w') => moved_any _ rb nx ny true (valid_on Hvb.out) ⟨hx0, hx1⟩ ⟨hy0, hy1⟩ (by omega) w' (HB5.out.below h))
  rw [if_pos rfl] at HMA
  rw [if_pos (show true = true from rfl)] at HMB
  have Hon := Lib.hid hon
  obtain ⟨⟨o1, o2⟩, o3, o4⟩ := hon
  have k1 : IntKind.i64.wrap (px + nx) = px + nx := by rw [IntKind.wrap_i64]; omega
  have k2 : IntKind.i64.wrap (py + ny) = py + ny := by rw [IntKind.wrap_i64]; omega
  go_wp2_with fail
  refine HMA.out.mono ?_
  rintro e w6 ⟨u, rfl, own, hb6⟩
  have HC6 := Lib.hid own.sl
  obtain ⟨c1, c2, rfl⟩ := own.form
  clear own HMA
  have ec : (ra.reverse.map gX).length = ra.length := by simp
  have ed : (rb.reverse.map gX).length = rb.length := by simp
  rw [ec] at HC6
  rw [ec]
  go_wp2_with fail
  refine (HMB.out _ hb6).mono ?_
  rintro e w7 ⟨u, rfl, own, hb7⟩
  have HD7 := Lib.hid own.sl
  obtain ⟨d1, d2, rfl⟩ := own.form
  clear own HMB
  rw [ed] at HD7
  rw [ed]
  have hb67 := hb6.trans (hb7.mono hb6.size)
  have HC7 := Lib.hid (HC6.out.below hb7)
  have HA7 := Lib.hid (HA5.out.below hb67)
  have HB7 := Lib.hid (HB5.out.below hb67)
  have tp7 := tp5.below hb67 tp5.lt
  have hB7 := hB5.trans (hb67.mono hB5.size)
  clear HC6 HA5 HB5 tp5 hB5 hb6 hb7 hb67
  obtain ⟨f1, f2, f3, f4⟩ := tp7.facts
  have s0 := hB7.size
  have s1 := tp7.lt
  have tq7 := Two.new w7 23 (.int .i64 (px + nx)) (.int .i64 (py + ny))
  have tp7b := tp7.alloc (.cells #[.int .i64 (px + nx), .int .i64 (py + ny)] 23)
  have hb7b := (Below.refl w7.heap.size w7).alloc (Nat.le_refl _) (.cells #[.int .i64 (px + nx), .int .i64 (py + ny)] 23)
  go_upto_region 7 with fail
  clear f1 f2 f3 f4 tp7
  obtain ⟨w8a, hw8⟩ : ∃ x, w7.alloc (.cells #[.int .i64 (px + nx), .int .i64 (py + ny)] 23) = x := ⟨_, rfl⟩
  rw [hw8] at tq7 tp7b hb7b ⊢
  clear hw8
  obtain ⟨f1, f2, f3, f4⟩ := tp7b.facts
  obtain ⟨g1, g2, g3, g4⟩ := tq7.facts
  have tq8 := two_set2 tq7 (.int .i64 py) (.int .i64 px)
  have tp8 := pt_keep2 (C := w7.heap.size) tp7b (.int .i64 py) (.int .i64 px) (by omega)
  have hb8 := set2_below hb7b (Nat.le_refl _) (.int .i64 py) (.int .i64 px)
  go_upto_region 9 with fail
  clear f1 f2 f3 f4 g1 g2 g3 g4 tq7 tp7b hb7b
  obtain ⟨w8, hw8⟩ : ∃ x, (w8a.setCell ⟨w7.heap.size, 0, none⟩ (.int .i64 py)).setCell ⟨w7.heap.size, 1, none⟩ (.int .i64 px) = x := ⟨_, rfl⟩
  rw [hw8] at tq8 tp8 hb8 ⊢
  clear hw8
  have HC8 := Lib.hid (HC7.out.below hb8)
  have HD8 := Lib.hid (HD7.out.below hb8)
  have HA8 := Lib.hid (HA7.out.below hb8)
  have HB8 := Lib.hid (HB7.out.below hb8)
  have hB8 := hB7.trans (hb8.mono hB7.size)
  clear HC7 HD7 HA7 HB7 hB7 hb8
  generalize w7.heap.size = BQ at *
  have HOC := Lib.hid (on8_any _ (ra.reverse.map gX) w8 HC8.out (by simp; omega))
  have HOD := Lib.hid (fun (w' : World) (h : Below w8.heap.size w8 w') => on8_any _ (rb.reverse.map gX) w' (HD8.out.below h) (by simp; omega))
  rw [decide_eq_true (onL_X (valid_on Hva.out))] at HOC
  rw [decide_eq_true (onL_X (valid_on Hvb.out))] at HOD
  go_wp2_with fail
  refine HOC.out.mono ?_
  rintro e w9 ⟨rfl, hb9⟩
  go_wp2_with fail
  refine (HOD.out _ hb9).mono ?_
  rintro e w10 ⟨rfl, hb10⟩
  have hx10 := hb9.trans (hb10.mono hb9.size)
  have tq10 := tq8.below hx10 tq8.lt
  obtain ⟨g1, g2, g3, g4⟩ := tq10.facts
  go_wp2_with fail
  refine (On_any py px _).mono ?_
  rintro e w11 ⟨rfl, hb11⟩
  clear g1 g2 g3 g4
  have hx11 := hx10.trans (hb11.mono hx10.size)
  have hB11 := hB8.trans (hx11.mono hB8.size)
  rw [decide_eq_true (show onP py px from ⟨⟨o3, o4⟩, o1, o2⟩)]
  have HS8 := Lib.hid (same_X Hva.out Hvb.out Hon.out)
  clear HOC HOD hx10 hb10 hb9 hb11 tq10
  have tq11 := tq8.below hx11 tq8.lt
  have tp11 := tp8.below hx11 tp8.lt
  have HVC := Lib.hid (fun (w' : World) (h : Below w8.heap.size w8 w') => Valid_any _ (ra.reverse.map gX) w' (HC8.out.below h))
  have HVD := Lib.hid (fun (w' : World) (h : Below w8.heap.size w8 w') => Valid_any _ (rb.reverse.map gX) w' (HD8.out.below h))
  have HTA := Lib.hid (fun (w' : World) (h : Below w8.heap.size w8 w') => Twice_any _ ra w' (HA8.out.below h))
  have HTC := Lib.hid (fun (w' : World) (h : Below w8.heap.size w8 w') => Twice_any _ (ra.reverse.map gX) w' (HC8.out.below h))
  have HWA := Lib.hid (fun (w' : World) (h : Below w8.heap.size w8 w') => Where_any _ ra px py w' (HA8.out.below h))
  have HWC := Lib.hid (fun (w' : World) (h : Below w8.heap.size w8 w') => Where_any _ (ra.reverse.map gX) py px w' (HC8.out.below h))
  have HIA := Lib.hid (fun (w' : World) (h : Below w8.heap.size w8 w') => Within_any _ _ ra rb w' (HA8.out.below h) (HB8.out.below h))
  have HIC := Lib.hid (fun (w' : World) (h : Below w8.heap.size w8 w') => Within_any _ _ (ra.reverse.map gX) (rb.reverse.map gX) w' (HC8.out.below h) (HD8.out.below h))
  have HPA := Lib.hid (fun (w' : World) (h : Below w8.heap.size w8 w') => Apart_any _ _ ra rb w' (HA8.out.below h) (HB8.out.below h))
  have HPC := Lib.hid (fun (w' : World) (h : Below w8.heap.size w8 w') => Apart_any _ _ (ra.reverse.map gX) (rb.reverse.map gX) w' (HC8.out.below h) (HD8.out.below h))
  rw [HS8.out.va] at HVC
  rw [HS8.out.vb] at HVD
  rw [HS8.out.tw] at HTC
  rw [HS8.out.wh] at HWC
  rw [HS8.out.wi] at HIC
  rw [HS8.out.ap] at HPC
  clear HS8 HC8 HD8 HA8 HB8 Hva Hvb Hon tq8 tp8 ec ed
  generalize twiceV ra = qt at *
  generalize whereV ra px py = qw at *
  generalize withinB ra rb = qi at *
  generalize apartR ra rb = qp at *
  have e2 : (qt == qt) = true := by simp
  have e3 : (qw == qw) = true := by simp
  have e9 : (qi == qi) = true := by simp
  have e11 : (qp == qp) = true := by simp
  go_upto_region 11 with fail
  have hS : ∀ w' : World, Below w11.heap.size w11 w' → (w'.cell? ⟨w.heap.size, 0, none⟩ = some (.int .i64 px) ∧ w'.cell? ⟨w.heap.size, 1, none⟩ = some (.int .i64 py)) ∧ (w'.cell? ⟨BQ, 0, none⟩ = some (.int .i64 py) ∧ w'.cell? ⟨BQ, 1, none⟩ = some (.int .i64 px)) := fun w' hb => ⟨two_of tp11 hb, two_of tq11 hb⟩
  have hr := Below.refl w11.heap.size w11
  go_region_held3 (fun w' => (w'.cell? ⟨w.heap.size, 0, none⟩ = some (.int .i64 px) ∧ w'.cell? ⟨w.heap.size, 1, none⟩ = some (.int .i64 py)) ∧ (w'.cell? ⟨BQ, 0, none⟩ = some (.int .i64 py) ∧ w'.cell? ⟨BQ, 1, none⟩ = some (.int .i64 px)))
    (first | (with_reducible exact hS _ hr.drew) | (with_reducible refine hS _ ?_; with_reducible assumption))
    (first
      | (go_at_call 27; have hz := y5; refine (HWC.out _ (hx11.trans ((y5).mono hx11.size))).mono ?_; rintro r yw6 ⟨rfl, yx6⟩; have y6 : Below w11.heap.size w11 yw6 := (y5).trans (yx6.mono (y5).size); clear yx6)
      | (go_at_call 27; have hz := y4; refine (HWA.out _ (hx11.trans ((y4).mono hx11.size))).mono ?_; rintro r yw5 ⟨rfl, yx5⟩; have y5 : Below w11.heap.size w11 yw5 := (y4).trans (yx5.mono (y4).size); clear yx5)
      | (go_at_call 25; have hz := y3; refine (HTC.out _ (hx11.trans ((y3).mono hx11.size))).mono ?_; rintro r yw4 ⟨rfl, yx4⟩; have y4 : Below w11.heap.size w11 yw4 := (y3).trans (yx4.mono (y3).size); clear yx4)
      | (go_at_call 25; have hz := y2; refine (HTA.out _ (hx11.trans ((y2).mono hx11.size))).mono ?_; rintro r yw3 ⟨rfl, yx3⟩; have y3 : Below w11.heap.size w11 yw3 := (y2).trans (yx3.mono (y2).size); clear yx3)
      | (go_at_call 23; have hz := y1; refine (HVD.out _ (hx11.trans ((y1).mono hx11.size))).mono ?_; rintro r yw2 ⟨rfl, yx2⟩; have y2 : Below w11.heap.size w11 yw2 := (y1).trans (yx2.mono (y1).size); clear yx2)
      | (go_at_call 23; refine (HVC.out _ (hx11.trans ((hr.drew).mono hx11.size))).mono ?_; rintro r yw1 ⟨rfl, yx1⟩; have y1 : Below w11.heap.size w11 yw1 := (hr.drew).trans (yx1.mono (hr.drew).size); clear yx1))
  have hb12 := hx11.trans (y6.mono hx11.size)
  have hB12 := hB11.trans (y6.mono hB11.size)
  clear y1 y2 y3 y4 y5 y6 hr hS hx11 hB11 tp11 tq11
  go_wp2_with fail
  refine (HIA.out _ hb12).mono ?_
  rintro e w13 ⟨rfl, x13⟩
  have hb13 := hb12.trans (x13.mono hb12.size)
  have hB13 := hB12.trans (x13.mono hB12.size)
  clear hb12 hB12 x13
  go_wp2_with fail
  refine (HIC.out _ hb13).mono ?_
  rintro e w14 ⟨rfl, x14⟩
  have hb14 := hb13.trans (x14.mono hb13.size)
  have hB14 := hB13.trans (x14.mono hB13.size)
  clear hb13 hB13 x14
  go_wp2_with fail
  refine (HPA.out _ hb14).mono ?_
  rintro e w15 ⟨rfl, x15⟩
  have hb15 := hb14.trans (x15.mono hb14.size)
  have hB15 := hB14.trans (x15.mono hB14.size)
  clear hb14 hB14 x15
  go_wp2_with fail
  refine (HPC.out _ hb15).mono ?_
  rintro e w16 ⟨rfl, x16⟩
  have hb16 := hb15.trans (x16.mono hb15.size)
  have hB16 := hB15.trans (x16.mono hB15.size)
  clear hb15 hB15 x16
  go_wp2_with fail
  go_ret
  exact ⟨rfl, hB16⟩
theorem lawMoves (va vb : Value) (ra rb : List Pt) (px py nx ny : Int) (ex : Bool) (hx0 : -32768 ≤ nx) (hx1 : nx ≤ 32767) (hy0 : -32768 ≤ ny) (hy1 : ny ≤ 32767) (w : World) (ha : PtSl w va ra) (hb : PtSl w vb rb) :
    Calls Try.prog 10 #[va, vb, .agg #[.int .i64 px, .int .i64 py], .int .i16 nx, .int .i16 ny, .bool ex] w fun e w' => e = .returned (.bool true) ∧ Below w.heap.size w w' := by
  cases ex with
  | true => exact lawMoves_true va vb ra rb px py nx ny hx0 hx1 hy0 hy1 w ha hb
  | false => exact lawMoves_false va vb ra rb px py nx ny hx0 hx1 hy0 hy1 w ha hb
end Go.Proofs.Ytohkmkkcblbemaa.Ge
