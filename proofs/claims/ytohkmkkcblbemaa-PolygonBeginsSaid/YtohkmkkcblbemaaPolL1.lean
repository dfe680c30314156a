/- The walk of PolygonBegins. -/
import Derived.Test.YtohkmkkcblbemaaPolL1a
namespace Go.Proofs.Ytohkmkkcblbemaa.Ge
set_option linter.unusedVariables false
set_option linter.unusedSimpArgs false
open Go.RowKit
open Go.Proofs.Ytohkmkkcblbemaa.Fr (Two)

theorem err_rot {l : List Pt} {k : Nat} (hk : k ≤ l.length) : errB (rotL k l) = errB l := by unfold errB; rw [valid_rot hk]
theorem index_at (n : Int) (len : Nat) (h : 0 < len) (hn : 0 ≤ n) : ∃ i : Nat, i < len ∧ n % (len : Int) = (i : Int) := by
  have h1 := Int.emod_nonneg n (show (len : Int) ≠ 0 by omega)
  have h2 := Int.emod_lt_of_pos n (show (0 : Int) < (len : Int) by omega)
  exact ⟨(n % (len : Int)).toNat, by omega, by omega⟩
theorem few_any (va vb : Value) (ra rb : List Pt) (w : World) (ha : PtSl w va ra) (hb : PtSl w vb rb) :
    Calls Try.prog 20 #[va, vb] w fun e w' => e = .returned (.bool (decide (ra.length ≤ 50) && decide (rb.length ≤ 50))) ∧ w' = w := by
  obtain ⟨a1, a2, rfl⟩ := ha.form
  obtain ⟨b1, b2, rfl⟩ := hb.form
  by_cases h1 : ra.length ≤ 50
  · have h1' : (ra.length : Int) ≤ 50 := by omega
    by_cases h2 : rb.length ≤ 50
    · have h2' : (rb.length : Int) ≤ 50 := by omega
      rw [decide_eq_true h1, decide_eq_true h2]
      go_enter Try.func20, Try.ntmps20
      go_wp2_with fail
      go_ret
      exact ⟨rfl, rfl⟩
    · have h2' : ¬ (rb.length : Int) ≤ 50 := by omega
      rw [decide_eq_true h1, decide_eq_false h2]
      go_enter Try.func20, Try.ntmps20
      go_wp2_with fail
      go_ret
      exact ⟨rfl, rfl⟩
  · have h1' : ¬ (ra.length : Int) ≤ 50 := by omega
    rw [decide_eq_false h1, Bool.false_and]
    go_enter Try.func20, Try.ntmps20
    go_wp2_with fail
    go_ret
    exact ⟨rfl, rfl⟩

set_option maxRecDepth 100000 in
set_option maxHeartbeats 4000000 in
theorem lawBegins (va vb : Value) (ra rb : List Pt) (px py n : Int) (hn0 : 0 ≤ n) (hn1 : n ≤ 255) (w : World) (ha : PtSl w va ra) (hb : PtSl w vb rb) :
    Calls Try.prog 5 #[va, vb, .agg #[.int .i64 px, .int .i64 py], .int .u8 n] w fun e w' => e = .returned (.bool true) ∧ Below w.heap.size w w' := by
  have tp := Two.new w 23 (.int .i64 px) (.int .i64 py)
  have hB := (Below.refl w.heap.size w).alloc (Nat.le_refl _) (.cells #[.int .i64 px, .int .i64 py] 23)
  have Ha := ha.below hB
  have Hb := hb.below hB
  obtain ⟨a1, a2, rfl⟩ := ha.form
  obtain ⟨b1, b2, rfl⟩ := hb.form
  clear ha hb
  have HA := Lib.hid Ha
  have HB := Lib.hid Hb
  clear Ha Hb
  go_enter Try.func5, Try.ntmps5
  go_wp2_with fail
  generalize w.alloc (.cells #[.int .i64 px, .int .i64 py] 23) = W0 at *
  refine (head8_any _).mono ?_
  rintro e w1 ⟨rfl, hb1⟩
  have hB1 := hB.trans (hb1.mono hB.size)
  have HA1 := Lib.hid (HA.out.below hb1)
  have HB1 := Lib.hid (HB.out.below hb1)
  have tp1 := tp.below hb1 tp.lt
  clear HA HB tp hB hb1
  go_wp2_with fail
  refine (few_any _ _ ra rb _ HA1.out HB1.out).mono ?_
  rintro e w2 ⟨rfl, rfl⟩
  by_cases hfew : ¬ (ra.length ≤ 50 ∧ rb.length ≤ 50)
  · rw [show (decide (ra.length ≤ 50) && decide (rb.length ≤ 50)) = false by rw [Bool.eq_false_iff]; simp only [ne_eq, Bool.and_eq_true, decide_eq_true_eq]; exact hfew]
    go_wp2_with fail
    go_ret
    exact ⟨rfl, hB1⟩
  have hfew := Classical.not_not.1 hfew
  rw [decide_eq_true hfew.1, decide_eq_true hfew.2]
  by_cases h0 : ra.length = 0
  · rw [h0]
    go_wp2_with fail
    go_ret
    exact ⟨rfl, hB1⟩
  have hlz : ((ra.length : Int) == 0) = false := by rw [beq_eq_false_iff_ne]; omega
  have hl50 := hfew.1
  clear hfew
  obtain ⟨k, hk, hi⟩ := index_at n ra.length (by omega) hn0
  have hkl : k ≤ ra.length := by omega
  have hkk : (0 : Int) ≤ (ra.length : Int) := by omega
  have HTU := Lib.hid (turned_any _ ra k hk (by omega) w2 HA1.out)
  go_upto_region 4 with fail
  go_wp2_with fail
  refine (HTU.out).mono ?_
  rintro e w3 ⟨u, rfl, own, hb3⟩
  clear HTU hi
  have HC3 := Lib.hid own.sl
  obtain ⟨u1, u2, rfl⟩ := own.form
  clear own
  rw [rot_len] at HC3
  rw [rot_len]
  have hB3 := hB1.trans (hb3.mono hB1.size)
  have HA3 := Lib.hid (HA1.out.below hb3)
  have HB3 := Lib.hid (HB1.out.below hb3)
  have tp3 := tp1.below hb3 tp1.lt
  clear HA1 HB1 tp1 hB1 hb3
  -- what all calls return
  have HVA := Lib.hid (fun (w' : World) (h : Below w3.heap.size w3 w') => Valid_any _ ra w' (HA3.out.below h))
  have HVC := Lib.hid (fun (w' : World) (h : Below w3.heap.size w3 w') => Valid_any _ (rotL k ra) w' (HC3.out.below h))
  have HTA := Lib.hid (fun (w' : World) (h : Below w3.heap.size w3 w') => Twice_any _ ra w' (HA3.out.below h))
  have HTC := Lib.hid (fun (w' : World) (h : Below w3.heap.size w3 w') => Twice_any _ (rotL k ra) w' (HC3.out.below h))
  have HWA := Lib.hid (fun (w' : World) (h : Below w3.heap.size w3 w') => Where_any _ ra px py w' (HA3.out.below h))
  have HWC := Lib.hid (fun (w' : World) (h : Below w3.heap.size w3 w') => Where_any _ (rotL k ra) px py w' (HC3.out.below h))
  have HBA := Lib.hid (fun (w' : World) (h : Below w3.heap.size w3 w') => Box_any _ ra w' (HA3.out.below h))
  have HBC := Lib.hid (fun (w' : World) (h : Below w3.heap.size w3 w') => Box_any _ (rotL k ra) w' (HC3.out.below h))
  have HIA := Lib.hid (fun (w' : World) (h : Below w3.heap.size w3 w') => Within_any _ _ ra rb w' (HA3.out.below h) (HB3.out.below h))
  have HIC := Lib.hid (fun (w' : World) (h : Below w3.heap.size w3 w') => Within_any _ _ (rotL k ra) rb w' (HC3.out.below h) (HB3.out.below h))
  have HJA := Lib.hid (fun (w' : World) (h : Below w3.heap.size w3 w') => Within_any _ _ rb ra w' (HB3.out.below h) (HA3.out.below h))
  have HJC := Lib.hid (fun (w' : World) (h : Below w3.heap.size w3 w') => Within_any _ _ rb (rotL k ra) w' (HB3.out.below h) (HC3.out.below h))
  have HPA := Lib.hid (fun (w' : World) (h : Below w3.heap.size w3 w') => Apart_any _ _ ra rb w' (HA3.out.below h) (HB3.out.below h))
  have HPC := Lib.hid (fun (w' : World) (h : Below w3.heap.size w3 w') => Apart_any _ _ (rotL k ra) rb w' (HC3.out.below h) (HB3.out.below h))
  rw [valid_rot hkl] at HVC
  rw [twice_rot hkl] at HTC
  rw [where_rot hkl] at HWC
  rw [(box_rot hkl).1, (box_rot hkl).2, err_rot hkl] at HBC
  rw [(within_rot hkl).1] at HIC
  rw [(within_rot hkl).2.1] at HJC
  rw [(within_rot hkl).2.2] at HPC
  clear HA3 HB3 HC3
  generalize validB ra = qv at *
  generalize twiceV ra = qt at *
  generalize whereV ra px py = qw at *
  generalize (lowP ra).1 = lx at *
  generalize (lowP ra).2 = ly at *
  generalize (highP ra).1 = hx at *
  generalize (highP ra).2 = hy at *
  generalize errB ra = qe at *
  generalize withinB ra rb = qi at *
  generalize withinB rb ra = qj at *
  generalize apartR ra rb = qp at *
  have e1 : (qv == qv) = true := by simp
  have e2 : (qt == qt) = true := by simp
  have e3 : (qw == qw) = true := by simp
  have e4 : (lx == lx) = true := by simp
  have e5 : (ly == ly) = true := by simp
  have e6 : (hx == hx) = true := by simp
  have e7 : (hy == hy) = true := by simp
  have e8 : (qe == qe) = true := by simp
  have e9 : (qi == qi) = true := by simp
  have e10 : (qj == qj) = true := by simp
  have e11 : (qp == qp) = true := by simp
  have r0 := Below.refl w3.heap.size w3
  go_upto_region 5 with fail
  go_wp2_with fail
  refine (HBA.out _ r0).mono ?_
  rintro e w4 ⟨rfl, hb4⟩
  have tp4 := ((tp3.below hb4 tp3.lt).alloc (.cells #[.int .i64 lx, .int .i64 ly] 23)).alloc (.cells #[.int .i64 hx, .int .i64 hy] 23)
  have tl4 := (Two.new w4 23 (.int .i64 lx) (.int .i64 ly)).alloc (.cells #[.int .i64 hx, .int .i64 hy] 23)
  have th4 := Two.new (w4.alloc (.cells #[.int .i64 lx, .int .i64 ly] 23)) 23 (.int .i64 hx) (.int .i64 hy)
  have hb4' := (hb4.alloc hb4.size (.cells #[.int .i64 lx, .int .i64 ly] 23)).alloc (hb4.alloc hb4.size (.cells #[.int .i64 lx, .int .i64 ly] 23)).size (.cells #[.int .i64 hx, .int .i64 hy] 23)
  have hB4 := hB3.trans (hb4'.mono hB3.size)
  clear hb4 tp3
  go_upto_region 6 with fail
  obtain ⟨w5, hw5⟩ : ∃ x, (w4.alloc (.cells #[.int .i64 lx, .int .i64 ly] 23)).alloc (.cells #[.int .i64 hx, .int .i64 hy] 23) = x := ⟨_, rfl⟩
  rw [hw5] at tp4 tl4 th4 hb4' hB4 ⊢
  simp only [World.size_alloc] at th4 ⊢
  have g4 : w4.heap.size + 1 < w5.heap.size := by rw [← hw5]; simp
  clear hw5
  generalize w4.heap.size = BL at *
  have g5 : w3.heap.size ≤ w5.heap.size := hb4'.size
  go_wp2_with fail
  refine (HBC.out _ hb4').mono ?_
  rintro e w6 ⟨rfl, hb6⟩
  have tp6 := ((tp4.below hb6 tp4.lt).alloc (.cells #[.int .i64 lx, .int .i64 ly] 23)).alloc (.cells #[.int .i64 hx, .int .i64 hy] 23)
  have tl6 := ((tl4.below hb6 tl4.lt).alloc (.cells #[.int .i64 lx, .int .i64 ly] 23)).alloc (.cells #[.int .i64 hx, .int .i64 hy] 23)
  have th6 := ((th4.below hb6 th4.lt).alloc (.cells #[.int .i64 lx, .int .i64 ly] 23)).alloc (.cells #[.int .i64 hx, .int .i64 hy] 23)
  have tm6 := (Two.new w6 23 (.int .i64 lx) (.int .i64 ly)).alloc (.cells #[.int .i64 hx, .int .i64 hy] 23)
  have tn6 := Two.new (w6.alloc (.cells #[.int .i64 lx, .int .i64 ly] 23)) 23 (.int .i64 hx) (.int .i64 hy)
  have hb6'' := hb4'.trans (hb6.mono hb4'.size)
  have hb6' := (hb6''.alloc hb6''.size (.cells #[.int .i64 lx, .int .i64 ly] 23)).alloc (hb6''.alloc hb6''.size (.cells #[.int .i64 lx, .int .i64 ly] 23)).size (.cells #[.int .i64 hx, .int .i64 hy] 23)
  have hB6 := hB3.trans (hb6'.mono hB3.size)
  clear hb6 hb6'' tp4 tl4 th4 hB4 hB3 hb4'
  go_upto_region 7 with fail
  obtain ⟨w7, hw7⟩ : ∃ x, (w6.alloc (.cells #[.int .i64 lx, .int .i64 ly] 23)).alloc (.cells #[.int .i64 hx, .int .i64 hy] 23) = x := ⟨_, rfl⟩
  rw [hw7] at tp6 tl6 th6 tm6 tn6 hb6' hB6 ⊢
  simp only [World.size_alloc] at tn6 ⊢
  clear hw7
  generalize w6.heap.size = BM at *
  have hS : ∀ w' : World, Below w7.heap.size w7 w' → (w'.cell? ⟨w.heap.size, 0, none⟩ = some (.int .i64 px) ∧ w'.cell? ⟨w.heap.size, 1, none⟩ = some (.int .i64 py)) ∧ (w'.cell? ⟨BL, 0, none⟩ = some (.int .i64 lx) ∧ w'.cell? ⟨BL, 1, none⟩ = some (.int .i64 ly)) ∧ (w'.cell? ⟨(BL + 1), 0, none⟩ = some (.int .i64 hx) ∧ w'.cell? ⟨(BL + 1), 1, none⟩ = some (.int .i64 hy)) ∧ (w'.cell? ⟨BM, 0, none⟩ = some (.int .i64 lx) ∧ w'.cell? ⟨BM, 1, none⟩ = some (.int .i64 ly)) ∧ (w'.cell? ⟨(BM + 1), 0, none⟩ = some (.int .i64 hx) ∧ w'.cell? ⟨(BM + 1), 1, none⟩ = some (.int .i64 hy)) := fun w' hb => ⟨two_of tp6 hb, two_of tl6 hb, two_of th6 hb, two_of tm6 hb, two_of tn6 hb⟩
  have hr := Below.refl w7.heap.size w7
  go_region_held3 (fun w' => (w'.cell? ⟨w.heap.size, 0, none⟩ = some (.int .i64 px) ∧ w'.cell? ⟨w.heap.size, 1, none⟩ = some (.int .i64 py)) ∧ (w'.cell? ⟨BL, 0, none⟩ = some (.int .i64 lx) ∧ w'.cell? ⟨BL, 1, none⟩ = some (.int .i64 ly)) ∧ (w'.cell? ⟨(BL + 1), 0, none⟩ = some (.int .i64 hx) ∧ w'.cell? ⟨(BL + 1), 1, none⟩ = some (.int .i64 hy)) ∧ (w'.cell? ⟨BM, 0, none⟩ = some (.int .i64 lx) ∧ w'.cell? ⟨BM, 1, none⟩ = some (.int .i64 ly)) ∧ (w'.cell? ⟨(BM + 1), 0, none⟩ = some (.int .i64 hx) ∧ w'.cell? ⟨(BM + 1), 1, none⟩ = some (.int .i64 hy)))
    (first | (with_reducible exact hS _ hr.drew) | (with_reducible refine hS _ ?_; with_reducible assumption))
    (first
      | (go_at_call 27; have hz := y5; refine (HWC.out _ (hb6'.trans ((y5).mono hb6'.size))).mono ?_; rintro r yw6 ⟨rfl, yx6⟩; have y6 : Below w7.heap.size w7 yw6 := (y5).trans (yx6.mono (y5).size); clear yx6)
      | (go_at_call 27; have hz := y4; refine (HWA.out _ (hb6'.trans ((y4).mono hb6'.size))).mono ?_; rintro r yw5 ⟨rfl, yx5⟩; have y5 : Below w7.heap.size w7 yw5 := (y4).trans (yx5.mono (y4).size); clear yx5)
      | (go_at_call 25; have hz := y3; refine (HTC.out _ (hb6'.trans ((y3).mono hb6'.size))).mono ?_; rintro r yw4 ⟨rfl, yx4⟩; have y4 : Below w7.heap.size w7 yw4 := (y3).trans (yx4.mono (y3).size); clear yx4)
      | (go_at_call 25; have hz := y2; refine (HTA.out _ (hb6'.trans ((y2).mono hb6'.size))).mono ?_; rintro r yw3 ⟨rfl, yx3⟩; have y3 : Below w7.heap.size w7 yw3 := (y2).trans (yx3.mono (y2).size); clear yx3)
      | (go_at_call 23; have hz := y1; refine (HVC.out _ (hb6'.trans ((y1).mono hb6'.size))).mono ?_; rintro r yw2 ⟨rfl, yx2⟩; have y2 : Below w7.heap.size w7 yw2 := (y1).trans (yx2.mono (y1).size); clear yx2)
      | (go_at_call 23; refine (HVA.out _ (hb6'.trans ((hr.drew).mono hb6'.size))).mono ?_; rintro r yw1 ⟨rfl, yx1⟩; have y1 : Below w7.heap.size w7 yw1 := (hr.drew).trans (yx1.mono (hr.drew).size); clear yx1))
  have hb8 := hb6'.trans (y6.mono hb6'.size)
  have hB8 := hB6.trans (y6.mono hB6.size)
  clear y1 y2 y3 y4 y5 y6 hr hS hb6' hB6 tp6 tl6 th6 tm6 tn6
  go_wp2_with fail
  refine (HIA.out _ hb8).mono ?_
  rintro e w9 ⟨rfl, x9⟩
  have hb9 := hb8.trans (x9.mono hb8.size)
  have hB9 := hB8.trans (x9.mono hB8.size)
  clear hb8 hB8 x9
  go_wp2_with fail
  refine (HIC.out _ hb9).mono ?_
  rintro e w10 ⟨rfl, x10⟩
  have hb10 := hb9.trans (x10.mono hb9.size)
  have hB10 := hB9.trans (x10.mono hB9.size)
  clear hb9 hB9 x10
  go_wp2_with fail
  refine (HJA.out _ hb10).mono ?_
  rintro e w11 ⟨rfl, x11⟩
  have hb11 := hb10.trans (x11.mono hb10.size)
  have hB11 := hB10.trans (x11.mono hB10.size)
  clear hb10 hB10 x11
  go_wp2_with fail
  refine (HJC.out _ hb11).mono ?_
  rintro e w12 ⟨rfl, x12⟩
  have hb12 := hb11.trans (x12.mono hb11.size)
  have hB12 := hB11.trans (x12.mono hB11.size)
  clear hb11 hB11 x12
  go_wp2_with fail
  refine (HPA.out _ hb12).mono ?_
  rintro e w13 ⟨rfl, x13⟩
  have hb13 := hb12.trans (x13.mono hb12.size)
  have hB13 := hB12.trans (x13.mono hB12.size)
  clear hb12 hB12 x13
  go_wp2_with fail
  refine (HPC.out _ hb13).mono ?_
  rintro e w14 ⟨rfl, x14⟩
  have hb14 := hb13.trans (x14.mono hb13.size)
  have hB14 := hB13.trans (x14.mono hB13.size)
  clear hb13 hB13 x14
  go_wp2_with fail
  go_ret
  exact ⟨rfl, hB14⟩
end Go.Proofs.Ytohkmkkcblbemaa.Ge
