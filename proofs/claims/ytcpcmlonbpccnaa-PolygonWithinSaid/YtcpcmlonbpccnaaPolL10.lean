/- The walk of PolygonWithin. -/
import Derived.Test.YtcpcmlonbpccnaaPolSm
import Derived.Test.YtcpcmlonbpccnaaBdP21
namespace Go.Proofs.Ytcpcmlonbpccnaa.Ge
set_option linter.unusedVariables false
set_option linter.unusedSimpArgs false
open Go.RowKit
open Go.Proofs.Ytcpcmlonbpccnaa.Fr (Two)

set_option maxRecDepth 100000 in
set_option maxHeartbeats 16000000 in
theorem lawWithin (va vb vc : Value) (a b c : List Pt) (px py : Int) (W : World) (ha : PtSl W va a) (hb : PtSl W vb b) (hc : PtSl W vc c) :
    Calls Try.prog 11 #[va, vb, vc, .agg #[.int .i64 px, .int .i64 py]] W fun e W' => e = .returned (.bool true) ∧ Below W.heap.size W W' := by
  have hbV : Below W.heap.size W (W.alloc (.cells #[.int .i64 px, .int .i64 py] 24)) := (Below.refl _ W).alloc (Nat.le_refl _) _
  obtain ⟨V, hV⟩ : ∃ V, W.alloc (.cells #[.int .i64 px, .int .i64 py] 24) = V := ⟨_, rfl⟩
  have gp0 := Two.new W 24 (.int .i64 px) (.int .i64 py)
  rw [hV] at hbV gp0
  have gp := Lib.hid (fun (w : World) (h : Below V.heap.size V w) => gp0.below h gp0.lt)
  have HA := Lib.hid (fun (w : World) (h : Below V.heap.size V w) => (ha.below hbV).below h)
  have HB := Lib.hid (fun (w : World) (h : Below V.heap.size V w) => (hb.below hbV).below h)
  have HC := Lib.hid (fun (w : World) (h : Below V.heap.size V w) => (hc.below hbV).below h)
  have hr := Below.refl V.heap.size V
  obtain ⟨aa, ca, rfl⟩ := ha.form
  obtain ⟨ab, cb, rfl⟩ := hb.form
  obtain ⟨ac, cc, rfl⟩ := hc.form
  clear ha hb hc gp0
  go_enter Try.func11, Try.ntmps11
  go_wp2_with fail
  clear hV
  refine (head8_any _).mono ?_
  rintro e w0 ⟨rfl, hc0⟩
  have hb0 := hr.trans (hc0.mono hr.size)
  obtain ⟨a1, a2, a3, a4⟩ := (gp.out _ hb0).facts
  go_wp2_with fail
  refine (few_two _ _ a b _ (HA.out _ hb0) (HB.out _ hb0)).mono ?_
  rintro e _ ⟨rfl, rfl⟩
  clear a1 a2 a3 a4
  obtain ⟨f1, e1⟩ : ∃ f, (decide (a.length ≤ 50) && decide (b.length ≤ 50)) = f := ⟨_, rfl⟩
  rw [e1]
  cases f1 with
  | false =>
    clear e1
    obtain ⟨a1, a2, a3, a4⟩ := (gp.out _ hb0).facts
    go_wp2
    go_ret
    exact ⟨rfl, hbV.trans (hb0.mono hbV.size)⟩
  | true =>
    have HSM := Lib.hid (fun (w : World) (h : Below V.heap.size V w) => same_any _ _ a b w (HA.out w h) (HB.out w h) (by rw [Bool.and_eq_true, decide_eq_true_iff] at e1; omega))
    clear e1
    obtain ⟨a1, a2, a3, a4⟩ := (gp.out _ hb0).facts
    go_wp2_with fail
    refine (few_two _ _ c [] _ (HC.out _ hb0) (.inl ⟨rfl, _, _, rfl⟩)).mono ?_
    rintro e _ ⟨rfl, rfl⟩
    clear a1 a2 a3 a4
    obtain ⟨f2, e2⟩ : ∃ f, (decide (c.length ≤ 50) && decide (([] : List Pt).length ≤ 50)) = f := ⟨_, rfl⟩
    rw [e2]
    clear e2
    cases f2 with
    | false =>
      obtain ⟨a1, a2, a3, a4⟩ := (gp.out _ hb0).facts
      go_wp2
      go_ret
      exact ⟨rfl, hbV.trans (hb0.mono hbV.size)⟩
    | true =>
      obtain ⟨a1, a2, a3, a4⟩ := (gp.out _ hb0).facts
      go_wp2_with fail
      refine (Within_any _ _ a a _ (HA.out _ hb0) (HA.out _ hb0)).mono ?_
      rintro e w3 ⟨rfl, hc3⟩
      have hb3 := hb0.trans (hc3.mono hb0.size)
      clear a1 a2 a3 a4
      rw [within_self]
      obtain ⟨a1, a2, a3, a4⟩ := (gp.out _ hb3).facts
      go_wp2_with fail
      refine (Valid_any _ a _ (HA.out _ hb3)).mono ?_
      rintro e w4 ⟨rfl, hc4⟩
      have hb4 := hb3.trans (hc4.mono hb3.size)
      clear a1 a2 a3 a4
      generalize validB a = v
      have hvv : (v != v) = false := by simp
      have hvv2 : (v == v) = true := by simp
      obtain ⟨a1, a2, a3, a4⟩ := (gp.out _ hb4).facts
      go_wp2_with fail
      refine (Within_any _ _ a b _ (HA.out _ hb4) (HB.out _ hb4)).mono ?_
      rintro e w5 ⟨rfl, hc5⟩
      have hb5 := hb4.trans (hc5.mono hb4.size)
      clear a1 a2 a3 a4
      clear hvv hvv2
      cases hw : withinB a b with
      | false =>
        obtain ⟨a1, a2, a3, a4⟩ := (gp.out _ hb5).facts
        go_wp2
        go_ret
        exact ⟨rfl, hbV.trans (hb5.mono hbV.size)⟩
      | true =>
        obtain ⟨hva, hvb⟩ := within_valid hw
        have ht := within_twice hw
        have hp := within_where hw px py
        obtain ⟨hk1, hk2⟩ := within_back hw
        have HTR := Lib.hid (fun (k : withinB b c = true) => within_trans hw k)
        have HVA := Lib.hid (fun (w : World) (h : Below V.heap.size V w) => Valid_any _ a w (HA.out w h))
        have HVB := Lib.hid (fun (w : World) (h : Below V.heap.size V w) => Valid_any _ b w (HB.out w h))
        rw [hva] at HVA
        rw [hvb] at HVB
        have HTA := Lib.hid (fun (w : World) (h : Below V.heap.size V w) => Twice_any _ a w (HA.out w h))
        have HWA := Lib.hid (fun (w : World) (h : Below V.heap.size V w) => Where_any _ a px py w (HA.out w h))
        have HTB := Lib.hid (fun (w : World) (h : Below V.heap.size V w) => Twice_any _ b w (HB.out w h))
        have HWB := Lib.hid (fun (w : World) (h : Below V.heap.size V w) => Where_any _ b px py w (HB.out w h))
        have HIBC := Lib.hid (fun (w : World) (h : Below V.heap.size V w) => Within_any _ _ b c w (HB.out w h) (HC.out w h))
        have HIAC := Lib.hid (fun (w : World) (h : Below V.heap.size V w) => Within_any _ _ a c w (HA.out w h) (HC.out w h))
        have HIBA := Lib.hid (fun (w : World) (h : Below V.heap.size V w) => Within_any _ _ b a w (HB.out w h) (HA.out w h))
        have HE := Lib.hid (show withinB b a = true → twiceV a = twiceV b from fun h => hk2.2 (hk1.1 h))
        have HNE := Lib.hid (show withinB b a = false → twiceV a ≠ twiceV b from fun h k => by rw [hk1.2 (hk2.1 k)] at h; cases h)
        have HF := Lib.hid (show ∀ f : Bool, (f = true ↔ sameP a b) → f = withinB b a from fun f h => by rw [Bool.eq_iff_iff]; exact h.trans hk1.symm)
        clear hva hvb hk1 hk2 hw
        generalize twiceV a = ta at *
        generalize twiceV b = tb at *
        generalize whereV a px py = xa at *
        generalize whereV b px py = xb at *
        generalize withinB b a = ua at *
        have dt : decide (ta > tb) = false := decide_eq_false (by omega)
        have dt2 : decide (tb < ta) = false := decide_eq_false (by omega)
        have dx : decide (xa > xb) = false := decide_eq_false (by omega)
        have dx2 : decide (xb < xa) = false := decide_eq_false (by omega)
        clear ht hp
        cases hbc : withinB b c with
        | false =>
          rw [hbc] at HIBC
          clear HTR hbc
          obtain ⟨a1, a2, a3, a4⟩ := (gp.out _ hb5).facts
          go_upto_region 8 with fail
          have hS : ∀ w' : World, Below w5.heap.size w5 w' → w'.cell? ⟨W.heap.size, 0, none⟩ = some (.int .i64 px) ∧ w'.cell? ⟨W.heap.size, 1, none⟩ = some (.int .i64 py) := fun w' h => two_of (gp.out _ hb5) h
          have hq := Below.refl w5.heap.size w5
          clear a1 a2 a3 a4
          have y0 := hq.drew
          have hS0 := hS _ y0
          refine wp_region_held_drew (S := (fun w' => w'.cell? ⟨W.heap.size, 0, none⟩ = some (.int .i64 px) ∧ w'.cell? ⟨W.heap.size, 1, none⟩ = some (.int .i64 py))) (by kernel_rfl) hS0 (fun _ => ?_)
          refine Ri.take_d (i := 0) (v := .slice aa a.length ca) (some 32) rfl rfl (by kernel_rfl) (by kernel_rfl) (by kernel_rfl) (fun _ _ _ h => h) (Or.inl ⟨by kernel_rfl, ?_⟩) hS0 ?_
          · intro w' hSw; obtain ⟨z0, z1⟩ := hSw; go_simp
          simp only [Act.put, List.setIfInBounds_toArray, List.set_cons_zero, List.set_cons_succ]
          refine wpAnyH_ready (rs := [1]) (by kernel_rfl) (by simp) ?_
          refine AllReadyH.cons rfl (fun K hK => ?_) AllReadyH.nil
          go_simp
          go_at_call 37
          refine (HVA.out _ (hb5.trans (y0.mono hb5.size))).mono ?_
          rintro r yw1 ⟨rfl, yx1⟩
          have y1 : Below w5.heap.size w5 yw1 := y0.trans (yx1.mono y0.size)
          have hS1 := hS _ y1
          clear yx1
          refine hK.out _ _ hS1 (fun _ => ?_)
          clear hK K
          try simp only [Act.put, List.setIfInBounds_toArray, List.set_cons_zero, List.set_cons_succ]
          refine Ri.take_d (i := 2) (v := .bool false) (some 34) rfl rfl (by kernel_rfl) (by kernel_rfl) (by kernel_rfl) (fun _ _ _ h => h) (Or.inl ⟨by kernel_rfl, ?_⟩) hS1 ?_
          · intro w' hSw; obtain ⟨z0, z1⟩ := hSw; go_simp
          simp only [Act.put, List.setIfInBounds_toArray, List.set_cons_zero, List.set_cons_succ]
          refine Ri.take_d (i := 3) (v := .bool false) (some 35) rfl rfl (by kernel_rfl) (by kernel_rfl) (by kernel_rfl) (fun _ _ _ h => h) (Or.inl ⟨by kernel_rfl, ?_⟩) hS1 ?_
          · intro w' hSw; obtain ⟨z0, z1⟩ := hSw; go_simp
          simp only [Act.put, List.setIfInBounds_toArray, List.set_cons_zero, List.set_cons_succ]
          refine Ri.take_d (i := 4) (v := .slice ab b.length cb) (some 36) rfl rfl (by kernel_rfl) (by kernel_rfl) (by kernel_rfl) (fun _ _ _ h => h) (Or.inl ⟨by kernel_rfl, ?_⟩) hS1 ?_
          · intro w' hSw; obtain ⟨z0, z1⟩ := hSw; go_simp
          simp only [Act.put, List.setIfInBounds_toArray, List.set_cons_zero, List.set_cons_succ]
          refine wpAnyH_ready (rs := [5]) (by kernel_rfl) (by simp) ?_
          refine AllReadyH.cons rfl (fun K hK => ?_) AllReadyH.nil
          go_simp
          go_at_call 37
          refine (HVB.out _ (hb5.trans (y1.mono hb5.size))).mono ?_
          rintro r yw2 ⟨rfl, yx2⟩
          have y2 : Below w5.heap.size w5 yw2 := y1.trans (yx2.mono y1.size)
          have hS2 := hS _ y2
          clear yx2
          refine hK.out _ _ hS2 (fun _ => ?_)
          clear hK K
          try simp only [Act.put, List.setIfInBounds_toArray, List.set_cons_zero, List.set_cons_succ]
          refine Ri.take_d (i := 6) (v := .bool false) (some 38) rfl rfl (by kernel_rfl) (by kernel_rfl) (by kernel_rfl) (fun _ _ _ h => h) (Or.inl ⟨by kernel_rfl, ?_⟩) hS2 ?_
          · intro w' hSw; obtain ⟨z0, z1⟩ := hSw; go_simp
          simp only [Act.put, List.setIfInBounds_toArray, List.set_cons_zero, List.set_cons_succ]
          refine Ri.take_d (i := 7) (v := .bool false) (some 39) rfl rfl (by kernel_rfl) (by kernel_rfl) (by kernel_rfl) (fun _ _ _ h => h) (Or.inl ⟨by kernel_rfl, ?_⟩) hS2 ?_
          · intro w' hSw; obtain ⟨z0, z1⟩ := hSw; go_simp
          simp only [Act.put, List.setIfInBounds_toArray, List.set_cons_zero, List.set_cons_succ]
          refine Ri.take_d (i := 8) (v := .bool false) (some 40) rfl rfl (by kernel_rfl) (by kernel_rfl) (by kernel_rfl) (fun _ _ _ h => h) (Or.inl ⟨by kernel_rfl, ?_⟩) hS2 ?_
          · intro w' hSw; obtain ⟨z0, z1⟩ := hSw; go_simp
          simp only [Act.put, List.setIfInBounds_toArray, List.set_cons_zero, List.set_cons_succ]
          refine Ri.take_d (i := 9) (v := .slice aa a.length ca) (some 41) rfl rfl (by kernel_rfl) (by kernel_rfl) (by kernel_rfl) (fun _ _ _ h => h) (Or.inl ⟨by kernel_rfl, ?_⟩) hS2 ?_
          · intro w' hSw; obtain ⟨z0, z1⟩ := hSw; go_simp
          simp only [Act.put, List.setIfInBounds_toArray, List.set_cons_zero, List.set_cons_succ]
          refine Ri.take_d (i := 11) (v := .slice ab b.length cb) (some 43) rfl rfl (by kernel_rfl) (by kernel_rfl) (by kernel_rfl) (fun _ _ _ h => h) (Or.inl ⟨by kernel_rfl, ?_⟩) hS2 ?_
          · intro w' hSw; obtain ⟨z0, z1⟩ := hSw; go_simp
          simp only [Act.put, List.setIfInBounds_toArray, List.set_cons_zero, List.set_cons_succ]
          refine wpAnyH_ready (rs := [10]) (by kernel_rfl) (by simp) ?_
          refine AllReadyH.cons rfl (fun K hK => ?_) AllReadyH.nil
          go_simp
          go_at_call 39
          refine (HTA.out _ (hb5.trans (y2.mono hb5.size))).mono ?_
          rintro r yw3 ⟨rfl, yx3⟩
          have y3 : Below w5.heap.size w5 yw3 := y2.trans (yx3.mono y2.size)
          have hS3 := hS _ y3
          clear yx3
          refine hK.out _ _ hS3 (fun _ => ?_)
          clear hK K
          try simp only [Act.put, List.setIfInBounds_toArray, List.set_cons_zero, List.set_cons_succ]
          refine wpAnyH_ready (rs := [12]) (by kernel_rfl) (by simp) ?_
          refine AllReadyH.cons rfl (fun K hK => ?_) AllReadyH.nil
          go_simp
          go_at_call 39
          refine (HTB.out _ (hb5.trans (y3.mono hb5.size))).mono ?_
          rintro r yw4 ⟨rfl, yx4⟩
          have y4 : Below w5.heap.size w5 yw4 := y3.trans (yx4.mono y3.size)
          have hS4 := hS _ y4
          clear yx4
          refine hK.out _ _ hS4 (fun _ => ?_)
          clear hK K
          try simp only [Act.put, List.setIfInBounds_toArray, List.set_cons_zero, List.set_cons_succ]
          refine Ri.take_d (i := 13) (v := .bool false) (some 45) rfl rfl (by kernel_rfl) (by kernel_rfl) (by kernel_rfl) (fun _ _ _ h => h) (Or.inl ⟨by kernel_rfl, ?_⟩) hS4 ?_
          · intro w' hSw; obtain ⟨z0, z1⟩ := hSw; go_simp
          simp only [Act.put, List.setIfInBounds_toArray, List.set_cons_zero, List.set_cons_succ]
          refine Ri.take_d (i := 14) (v := .bool false) (some 46) rfl rfl (by kernel_rfl) (by kernel_rfl) (by kernel_rfl) (fun _ _ _ h => h) (Or.inl ⟨by kernel_rfl, ?_⟩) hS4 ?_
          · intro w' hSw; obtain ⟨z0, z1⟩ := hSw; go_simp
          simp only [Act.put, List.setIfInBounds_toArray, List.set_cons_zero, List.set_cons_succ]
          refine Ri.take_d (i := 15) (v := .bool false) (some 47) rfl rfl (by kernel_rfl) (by kernel_rfl) (by kernel_rfl) (fun _ _ _ h => h) (Or.inl ⟨by kernel_rfl, ?_⟩) hS4 ?_
          · intro w' hSw; obtain ⟨z0, z1⟩ := hSw; go_simp
          simp only [Act.put, List.setIfInBounds_toArray, List.set_cons_zero, List.set_cons_succ]
          refine Ri.take_d (i := 16) (v := .slice aa a.length ca) (some 48) rfl rfl (by kernel_rfl) (by kernel_rfl) (by kernel_rfl) (fun _ _ _ h => h) (Or.inl ⟨by kernel_rfl, ?_⟩) hS4 ?_
          · intro w' hSw; obtain ⟨z0, z1⟩ := hSw; go_simp
          simp only [Act.put, List.setIfInBounds_toArray, List.set_cons_zero, List.set_cons_succ]
          refine Ri.take_d (i := 17) (v := .agg #[.int .i64 px, .int .i64 py]) (some 49) rfl rfl (by kernel_rfl) (by kernel_rfl) (by kernel_rfl) (fun _ _ _ h => h) (Or.inl ⟨by kernel_rfl, ?_⟩) hS4 ?_
          · intro w' hSw; obtain ⟨z0, z1⟩ := hSw; go_simp
          simp only [Act.put, List.setIfInBounds_toArray, List.set_cons_zero, List.set_cons_succ]
          refine Ri.take_d (i := 19) (v := .slice ab b.length cb) (some 51) rfl rfl (by kernel_rfl) (by kernel_rfl) (by kernel_rfl) (fun _ _ _ h => h) (Or.inl ⟨by kernel_rfl, ?_⟩) hS4 ?_
          · intro w' hSw; obtain ⟨z0, z1⟩ := hSw; go_simp
          simp only [Act.put, List.setIfInBounds_toArray, List.set_cons_zero, List.set_cons_succ]
          refine Ri.take_d (i := 20) (v := .agg #[.int .i64 px, .int .i64 py]) (some 52) rfl rfl (by kernel_rfl) (by kernel_rfl) (by kernel_rfl) (fun _ _ _ h => h) (Or.inl ⟨by kernel_rfl, ?_⟩) hS4 ?_
          · intro w' hSw; obtain ⟨z0, z1⟩ := hSw; go_simp
          simp only [Act.put, List.setIfInBounds_toArray, List.set_cons_zero, List.set_cons_succ]
          refine wpAnyH_ready (rs := [18]) (by kernel_rfl) (by simp) ?_
          refine AllReadyH.cons rfl (fun K hK => ?_) AllReadyH.nil
          go_simp
          go_at_call 41
          refine (HWA.out _ (hb5.trans (y4.mono hb5.size))).mono ?_
          rintro r yw5 ⟨rfl, yx5⟩
          have y5 : Below w5.heap.size w5 yw5 := y4.trans (yx5.mono y4.size)
          have hS5 := hS _ y5
          clear yx5
          refine hK.out _ _ hS5 (fun _ => ?_)
          clear hK K
          try simp only [Act.put, List.setIfInBounds_toArray, List.set_cons_zero, List.set_cons_succ]
          refine wpAnyH_ready (rs := [21]) (by kernel_rfl) (by simp) ?_
          refine AllReadyH.cons rfl (fun K hK => ?_) AllReadyH.nil
          go_simp
          go_at_call 41
          refine (HWB.out _ (hb5.trans (y5.mono hb5.size))).mono ?_
          rintro r yw6 ⟨rfl, yx6⟩
          have y6 : Below w5.heap.size w5 yw6 := y5.trans (yx6.mono y5.size)
          have hS6 := hS _ y6
          clear yx6
          refine hK.out _ _ hS6 (fun _ => ?_)
          clear hK K
          try simp only [Act.put, List.setIfInBounds_toArray, List.set_cons_zero, List.set_cons_succ]
          refine Ri.take_d (i := 22) (v := .bool false) (some 54) rfl rfl (by kernel_rfl) (by kernel_rfl) (by kernel_rfl) (fun _ _ _ h => h) (Or.inl ⟨by kernel_rfl, ?_⟩) hS6 ?_
          · intro w' hSw; obtain ⟨z0, z1⟩ := hSw; go_simp
          simp only [Act.put, List.setIfInBounds_toArray, List.set_cons_zero, List.set_cons_succ]
          refine Ri.take_d (i := 23) (v := .bool false) (some 55) rfl rfl (by kernel_rfl) (by kernel_rfl) (by kernel_rfl) (fun _ _ _ h => h) (Or.inl ⟨by kernel_rfl, ?_⟩) hS6 ?_
          · intro w' hSw; obtain ⟨z0, z1⟩ := hSw; go_simp
          simp only [Act.put, List.setIfInBounds_toArray, List.set_cons_zero, List.set_cons_succ]
          refine Ri.take_d (i := 24) (v := .bool false) (some 56) rfl rfl (by kernel_rfl) (by kernel_rfl) (by kernel_rfl) (fun _ _ _ h => h) (Or.inl ⟨by kernel_rfl, ?_⟩) hS6 ?_
          · intro w' hSw; obtain ⟨z0, z1⟩ := hSw; go_simp
          simp only [Act.put, List.setIfInBounds_toArray, List.set_cons_zero, List.set_cons_succ]
          refine Ri.take_d (i := 25) (v := .slice ab b.length cb) (some 57) rfl rfl (by kernel_rfl) (by kernel_rfl) (by kernel_rfl) (fun _ _ _ h => h) (Or.inl ⟨by kernel_rfl, ?_⟩) hS6 ?_
          · intro w' hSw; obtain ⟨z0, z1⟩ := hSw; go_simp
          simp only [Act.put, List.setIfInBounds_toArray, List.set_cons_zero, List.set_cons_succ]
          refine Ri.take_d (i := 26) (v := .slice ac c.length cc) (some 58) rfl rfl (by kernel_rfl) (by kernel_rfl) (by kernel_rfl) (fun _ _ _ h => h) (Or.inl ⟨by kernel_rfl, ?_⟩) hS6 ?_
          · intro w' hSw; obtain ⟨z0, z1⟩ := hSw; go_simp
          simp only [Act.put, List.setIfInBounds_toArray, List.set_cons_zero, List.set_cons_succ]
          refine wpAnyH_ready (rs := [27]) (by kernel_rfl) (by simp) ?_
          refine AllReadyH.cons rfl (fun K hK => ?_) AllReadyH.nil
          go_simp
          go_at_call 43
          refine (HIBC.out _ (hb5.trans (y6.mono hb5.size))).mono ?_
          rintro r yw7 ⟨rfl, yx7⟩
          have y7 : Below w5.heap.size w5 yw7 := y6.trans (yx7.mono y6.size)
          have hS7 := hS _ y7
          clear yx7
          refine hK.out _ _ hS7 (fun _ => ?_)
          clear hK K
          try simp only [Act.put, List.setIfInBounds_toArray, List.set_cons_zero, List.set_cons_succ]
          refine Ri.take_d (i := 28) (v := .bool false) (some 60) rfl rfl (by kernel_rfl) (by kernel_rfl) (by kernel_rfl) (fun _ _ _ h => h) (Or.inl ⟨by kernel_rfl, ?_⟩) hS7 ?_
          · intro w' hSw; obtain ⟨z0, z1⟩ := hSw; go_simp
          simp only [Act.put, List.setIfInBounds_toArray, List.set_cons_zero, List.set_cons_succ]
          refine Ri.take_d (i := 29) (v := undef) (some 61) rfl rfl (by kernel_rfl) (by kernel_rfl) (by kernel_rfl) (fun _ _ _ h => h) (Or.inr ⟨by kernel_rfl, rfl⟩) hS7 ?_
          simp only [Act.put, List.setIfInBounds_toArray, List.set_cons_zero, List.set_cons_succ]
          refine Ri.take_d (i := 30) (v := undef) (some 62) rfl rfl (by kernel_rfl) (by kernel_rfl) (by kernel_rfl) (fun _ _ _ h => h) (Or.inr ⟨by kernel_rfl, rfl⟩) hS7 ?_
          simp only [Act.put, List.setIfInBounds_toArray, List.set_cons_zero, List.set_cons_succ]
          refine Ri.take_d (i := 31) (v := undef) (some 63) rfl rfl (by kernel_rfl) (by kernel_rfl) (by kernel_rfl) (fun _ _ _ h => h) (Or.inr ⟨by kernel_rfl, rfl⟩) hS7 ?_
          simp only [Act.put, List.setIfInBounds_toArray, List.set_cons_zero, List.set_cons_succ]
          refine Ri.take_d (i := 32) (v := undef) (some 64) rfl rfl (by kernel_rfl) (by kernel_rfl) (by kernel_rfl) (fun _ _ _ h => h) (Or.inr ⟨by kernel_rfl, rfl⟩) hS7 ?_
          simp only [Act.put, List.setIfInBounds_toArray, List.set_cons_zero, List.set_cons_succ]
          refine Ri.take_d (i := 33) (v := .bool false) (some 65) rfl rfl (by kernel_rfl) (by kernel_rfl) (by kernel_rfl) (fun _ _ _ h => h) (Or.inl ⟨by kernel_rfl, ?_⟩) hS7 ?_
          · intro w' hSw; obtain ⟨z0, z1⟩ := hSw; go_simp
          simp only [Act.put, List.setIfInBounds_toArray, List.set_cons_zero, List.set_cons_succ]
          refine Ri.take_d (i := 34) (v := .bool false) (some 66) rfl rfl (by kernel_rfl) (by kernel_rfl) (by kernel_rfl) (fun _ _ _ h => h) (Or.inl ⟨by kernel_rfl, ?_⟩) hS7 ?_
          · intro w' hSw; obtain ⟨z0, z1⟩ := hSw; go_simp
          simp only [Act.put, List.setIfInBounds_toArray, List.set_cons_zero, List.set_cons_succ]
          refine wpAnyH_done (by kernel_rfl) ?_ _
          have hbY := hb5.trans (y7.mono hb5.size)
          clear hS hq y0 hS0 y1 hS1 y2 hS2 y3 hS3 y4 hS4 y5 hS5 y6 hS6 y7 hS7
          cases hu : ua with
          | true =>
            have he := HE.out hu
            have e5 : (ta == tb) = true := by rw [beq_iff_eq]; exact he
            have e6 : decide (ta = tb) = true := decide_eq_true he
            clear he
            obtain ⟨a1, a2, a3, a4⟩ := (gp.out _ hbY).facts
            go_wp2_with fail
            refine (HIBA.out _ hbY).mono ?_
            rintro e w6 ⟨rfl, hc6⟩
            have hb6 := hbY.trans (hc6.mono hbY.size)
            clear a1 a2 a3 a4
            obtain ⟨a1, a2, a3, a4⟩ := (gp.out _ hb6).facts
            go_wp2_with fail
            refine (HSM.out _ hb6).mono ?_
            rintro e w7 ⟨⟨f, hf, rfl⟩, hc7⟩
            have hb7 := hb6.trans (hc7.mono hb6.size)
            clear a1 a2 a3 a4
            have hfe := HF.out f hf
            rw [hu] at hfe
            subst hfe
            clear hf
            obtain ⟨a1, a2, a3, a4⟩ := (gp.out _ hb7).facts
            go_wp2_with fail
            refine (HTA.out _ hb7).mono ?_
            rintro e w8 ⟨rfl, hc8⟩
            have hb8 := hb7.trans (hc8.mono hb7.size)
            clear a1 a2 a3 a4
            obtain ⟨a1, a2, a3, a4⟩ := (gp.out _ hb8).facts
            go_wp2_with fail
            refine (HTB.out _ hb8).mono ?_
            rintro e w9 ⟨rfl, hc9⟩
            have hb9 := hb8.trans (hc9.mono hb8.size)
            clear a1 a2 a3 a4
            obtain ⟨a1, a2, a3, a4⟩ := (gp.out _ hb9).facts
            go_wp2_with fail
            refine (HSM.out _ hb9).mono ?_
            rintro e w10 ⟨⟨f, hf, rfl⟩, hc10⟩
            have hb10 := hb9.trans (hc10.mono hb9.size)
            clear a1 a2 a3 a4
            have hfe := HF.out f hf
            rw [hu] at hfe
            subst hfe
            clear hf
            obtain ⟨a1, a2, a3, a4⟩ := (gp.out _ hb10).facts
            go_wp2
            go_ret
            exact ⟨rfl, hbV.trans (hb10.mono hbV.size)⟩
          | false =>
            have he := HNE.out hu
            have e5 : (ta == tb) = false := by rw [beq_eq_false_iff_ne]; exact he
            have e6 : decide (ta = tb) = false := decide_eq_false he
            clear he
            obtain ⟨a1, a2, a3, a4⟩ := (gp.out _ hbY).facts
            go_wp2_with fail
            refine (HIBA.out _ hbY).mono ?_
            rintro e w11 ⟨rfl, hc11⟩
            have hb11 := hbY.trans (hc11.mono hbY.size)
            clear a1 a2 a3 a4
            obtain ⟨a1, a2, a3, a4⟩ := (gp.out _ hb11).facts
            go_wp2_with fail
            refine (HSM.out _ hb11).mono ?_
            rintro e w12 ⟨⟨f, hf, rfl⟩, hc12⟩
            have hb12 := hb11.trans (hc12.mono hb11.size)
            clear a1 a2 a3 a4
            have hfe := HF.out f hf
            rw [hu] at hfe
            subst hfe
            clear hf
            obtain ⟨a1, a2, a3, a4⟩ := (gp.out _ hb12).facts
            go_wp2_with fail
            refine (HTA.out _ hb12).mono ?_
            rintro e w13 ⟨rfl, hc13⟩
            have hb13 := hb12.trans (hc13.mono hb12.size)
            clear a1 a2 a3 a4
            obtain ⟨a1, a2, a3, a4⟩ := (gp.out _ hb13).facts
            go_wp2_with fail
            refine (HTB.out _ hb13).mono ?_
            rintro e w14 ⟨rfl, hc14⟩
            have hb14 := hb13.trans (hc14.mono hb13.size)
            clear a1 a2 a3 a4
            obtain ⟨a1, a2, a3, a4⟩ := (gp.out _ hb14).facts
            go_wp2_with fail
            refine (HSM.out _ hb14).mono ?_
            rintro e w15 ⟨⟨f, hf, rfl⟩, hc15⟩
            have hb15 := hb14.trans (hc15.mono hb14.size)
            clear a1 a2 a3 a4
            have hfe := HF.out f hf
            rw [hu] at hfe
            subst hfe
            clear hf
            obtain ⟨a1, a2, a3, a4⟩ := (gp.out _ hb15).facts
            go_wp2
            go_ret
            exact ⟨rfl, hbV.trans (hb15.mono hbV.size)⟩
        | true =>
          rw [hbc] at HIBC
          rw [HTR.out hbc] at HIAC
          clear HTR hbc
          obtain ⟨a1, a2, a3, a4⟩ := (gp.out _ hb5).facts
          go_upto_region 8 with fail
          have hS : ∀ w' : World, Below w5.heap.size w5 w' → w'.cell? ⟨W.heap.size, 0, none⟩ = some (.int .i64 px) ∧ w'.cell? ⟨W.heap.size, 1, none⟩ = some (.int .i64 py) := fun w' h => two_of (gp.out _ hb5) h
          have hq := Below.refl w5.heap.size w5
          clear a1 a2 a3 a4
          go_region_held3 (fun w' => w'.cell? ⟨W.heap.size, 0, none⟩ = some (.int .i64 px) ∧ w'.cell? ⟨W.heap.size, 1, none⟩ = some (.int .i64 py))
            (first | (with_reducible exact hS _ hq.drew) | (with_reducible refine hS _ ?_; with_reducible assumption))
            (first
              | (go_at_call 43; have hz := y7; refine (HIAC.out _ (hb5.trans ((y7).mono hb5.size))).mono ?_; rintro r yw8 ⟨rfl, yx8⟩; have y8 : Below w5.heap.size w5 yw8 := (y7).trans (yx8.mono (y7).size); clear yx8)
              | (go_at_call 43; have hz := y6; refine (HIBC.out _ (hb5.trans ((y6).mono hb5.size))).mono ?_; rintro r yw7 ⟨rfl, yx7⟩; have y7 : Below w5.heap.size w5 yw7 := (y6).trans (yx7.mono (y6).size); clear yx7)
              | (go_at_call 41; have hz := y5; refine (HWB.out _ (hb5.trans ((y5).mono hb5.size))).mono ?_; rintro r yw6 ⟨rfl, yx6⟩; have y6 : Below w5.heap.size w5 yw6 := (y5).trans (yx6.mono (y5).size); clear yx6)
              | (go_at_call 41; have hz := y4; refine (HWA.out _ (hb5.trans ((y4).mono hb5.size))).mono ?_; rintro r yw5 ⟨rfl, yx5⟩; have y5 : Below w5.heap.size w5 yw5 := (y4).trans (yx5.mono (y4).size); clear yx5)
              | (go_at_call 39; have hz := y3; refine (HTB.out _ (hb5.trans ((y3).mono hb5.size))).mono ?_; rintro r yw4 ⟨rfl, yx4⟩; have y4 : Below w5.heap.size w5 yw4 := (y3).trans (yx4.mono (y3).size); clear yx4)
              | (go_at_call 39; have hz := y2; refine (HTA.out _ (hb5.trans ((y2).mono hb5.size))).mono ?_; rintro r yw3 ⟨rfl, yx3⟩; have y3 : Below w5.heap.size w5 yw3 := (y2).trans (yx3.mono (y2).size); clear yx3)
              | (go_at_call 37; have hz := y1; refine (HVB.out _ (hb5.trans ((y1).mono hb5.size))).mono ?_; rintro r yw2 ⟨rfl, yx2⟩; have y2 : Below w5.heap.size w5 yw2 := (y1).trans (yx2.mono (y1).size); clear yx2)
              | (go_at_call 37; refine (HVA.out _ (hb5.trans ((hq.drew).mono hb5.size))).mono ?_; rintro r yw1 ⟨rfl, yx1⟩; have y1 : Below w5.heap.size w5 yw1 := (hq.drew).trans (yx1.mono (hq.drew).size); clear yx1))
          all_goals
            have hbY := hb5.trans (y8.mono hb5.size)
            clear hS hq y1 y2 y3 y4 y5 y6 y7 y8
            cases hu : ua with
            | true =>
              have he := HE.out hu
              have e5 : (ta == tb) = true := by rw [beq_iff_eq]; exact he
              have e6 : decide (ta = tb) = true := decide_eq_true he
              clear he
              obtain ⟨a1, a2, a3, a4⟩ := (gp.out _ hbY).facts
              go_wp2_with fail
              refine (HIBA.out _ hbY).mono ?_
              rintro e w16 ⟨rfl, hc16⟩
              have hb16 := hbY.trans (hc16.mono hbY.size)
              clear a1 a2 a3 a4
              obtain ⟨a1, a2, a3, a4⟩ := (gp.out _ hb16).facts
              go_wp2_with fail
              refine (HSM.out _ hb16).mono ?_
              rintro e w17 ⟨⟨f, hf, rfl⟩, hc17⟩
              have hb17 := hb16.trans (hc17.mono hb16.size)
              clear a1 a2 a3 a4
              have hfe := HF.out f hf
              rw [hu] at hfe
              subst hfe
              clear hf
              obtain ⟨a1, a2, a3, a4⟩ := (gp.out _ hb17).facts
              go_wp2_with fail
              refine (HTA.out _ hb17).mono ?_
              rintro e w18 ⟨rfl, hc18⟩
              have hb18 := hb17.trans (hc18.mono hb17.size)
              clear a1 a2 a3 a4
              obtain ⟨a1, a2, a3, a4⟩ := (gp.out _ hb18).facts
              go_wp2_with fail
              refine (HTB.out _ hb18).mono ?_
              rintro e w19 ⟨rfl, hc19⟩
              have hb19 := hb18.trans (hc19.mono hb18.size)
              clear a1 a2 a3 a4
              obtain ⟨a1, a2, a3, a4⟩ := (gp.out _ hb19).facts
              go_wp2_with fail
              refine (HSM.out _ hb19).mono ?_
              rintro e w20 ⟨⟨f, hf, rfl⟩, hc20⟩
              have hb20 := hb19.trans (hc20.mono hb19.size)
              clear a1 a2 a3 a4
              have hfe := HF.out f hf
              rw [hu] at hfe
              subst hfe
              clear hf
              obtain ⟨a1, a2, a3, a4⟩ := (gp.out _ hb20).facts
              go_wp2
              go_ret
              exact ⟨rfl, hbV.trans (hb20.mono hbV.size)⟩
            | false =>
              have he := HNE.out hu
              have e5 : (ta == tb) = false := by rw [beq_eq_false_iff_ne]; exact he
              have e6 : decide (ta = tb) = false := decide_eq_false he
              clear he
              obtain ⟨a1, a2, a3, a4⟩ := (gp.out _ hbY).facts
              go_wp2_with fail
              refine (HIBA.out _ hbY).mono ?_
              rintro e w21 ⟨rfl, hc21⟩
              have hb21 := hbY.trans (hc21.mono hbY.size)
              clear a1 a2 a3 a4
              obtain ⟨a1, a2, a3, a4⟩ := (gp.out _ hb21).facts
              go_wp2_with fail
              refine (HSM.out _ hb21).mono ?_
              rintro e w22 ⟨⟨f, hf, rfl⟩, hc22⟩
              have hb22 := hb21.trans (hc22.mono hb21.size)
              clear a1 a2 a3 a4
              have hfe := HF.out f hf
              rw [hu] at hfe
              subst hfe
              clear hf
              obtain ⟨a1, a2, a3, a4⟩ := (gp.out _ hb22).facts
              go_wp2_with fail
              refine (HTA.out _ hb22).mono ?_
              rintro e w23 ⟨rfl, hc23⟩
              have hb23 := hb22.trans (hc23.mono hb22.size)
              clear a1 a2 a3 a4
              obtain ⟨a1, a2, a3, a4⟩ := (gp.out _ hb23).facts
              go_wp2_with fail
              refine (HTB.out _ hb23).mono ?_
              rintro e w24 ⟨rfl, hc24⟩
              have hb24 := hb23.trans (hc24.mono hb23.size)
              clear a1 a2 a3 a4
              obtain ⟨a1, a2, a3, a4⟩ := (gp.out _ hb24).facts
              go_wp2_with fail
              refine (HSM.out _ hb24).mono ?_
              rintro e w25 ⟨⟨f, hf, rfl⟩, hc25⟩
              have hb25 := hb24.trans (hc25.mono hb24.size)
              clear a1 a2 a3 a4
              have hfe := HF.out f hf
              rw [hu] at hfe
              subst hfe
              clear hf
              obtain ⟨a1, a2, a3, a4⟩ := (gp.out _ hb25).facts
              go_wp2
              go_ret
              exact ⟨rfl, hbV.trans (hb25.mono hbV.size)⟩
end Go.Proofs.Ytcpcmlonbpccnaa.Ge
