/- The walk of PolygonApart. -/
import Derived.Test.YtcpcmlonbpccnaaBdP6
import Derived.Test.YtcpcmlonbpccnaaBdP21
namespace Go.Proofs.Ytcpcmlonbpccnaa.Ge
set_option linter.unusedVariables false
set_option linter.unusedSimpArgs false
open Go.RowKit
open Go.Proofs.Ytcpcmlonbpccnaa.Fr (Two)

set_option maxRecDepth 100000 in
set_option maxHeartbeats 8000000 in
theorem lawApart (va vb vc : Value) (a b c : List Pt) (px py : Int) (W : World) (ha : PtSl W va a) (hb : PtSl W vb b) (hc : PtSl W vc c) :
    Calls Try.prog 12 #[va, vb, vc, .agg #[.int .i64 px, .int .i64 py]] W fun e W' => e = .returned (.bool true) ∧ Below W.heap.size W W' := by
  have hbV : Below W.heap.size W (W.alloc (.cells #[.int .i64 px, .int .i64 py] 24)) := (Below.refl _ W).alloc (Nat.le_refl _) _
  obtain ⟨V, hV⟩ : ∃ V, W.alloc (.cells #[.int .i64 px, .int .i64 py] 24) = V := ⟨_, rfl⟩
  have gp0 := Two.new W 24 (.int .i64 px) (.int .i64 py)
  rw [hV] at hbV gp0
  have gp := Lib.hid (fun (w : World) (h : Below V.heap.size V w) => gp0.below h gp0.lt)
  have HA := Lib.hid (fun (w : World) (h : Below V.heap.size V w) => (ha.below hbV).below h)
  have HB := Lib.hid (fun (w : World) (h : Below V.heap.size V w) => (hb.below hbV).below h)
  have HC := Lib.hid (fun (w : World) (h : Below V.heap.size V w) => (hc.below hbV).below h)
  have hr := Below.refl V.heap.size V
  obtain ⟨aa, ca, rfl⟩ := ha.form
  obtain ⟨ab, cb, rfl⟩ := hb.form
  obtain ⟨ac, cc, rfl⟩ := hc.form
  clear ha hb hc gp0
  go_enter Try.func12, Try.ntmps12
  go_wp2_with fail
  clear hV
  refine (head8_any _).mono ?_
  rintro e w0 ⟨rfl, hc0⟩
  have hb0 := hr.trans (hc0.mono hr.size)
  obtain ⟨a1, a2, a3, a4⟩ := (gp.out _ hb0).facts
  go_wp2_with fail
  refine (few_two _ _ a b _ (HA.out _ hb0) (HB.out _ hb0)).mono ?_
  rintro e _ ⟨rfl, rfl⟩
  clear a1 a2 a3 a4
  obtain ⟨f1, e1⟩ : ∃ f, (decide (a.length ≤ 50) && decide (b.length ≤ 50)) = f := ⟨_, rfl⟩
  rw [e1]
  clear e1
  cases f1 with
  | false =>
    obtain ⟨a1, a2, a3, a4⟩ := (gp.out _ hb0).facts
    go_wp2
    go_ret
    exact ⟨rfl, hbV.trans (hb0.mono hbV.size)⟩
  | true =>
    obtain ⟨a1, a2, a3, a4⟩ := (gp.out _ hb0).facts
    go_wp2_with fail
    refine (few_two _ _ c [] _ (HC.out _ hb0) (.inl ⟨rfl, _, _, rfl⟩)).mono ?_
    rintro e _ ⟨rfl, rfl⟩
    clear a1 a2 a3 a4
    obtain ⟨f2, e2⟩ : ∃ f, (decide (c.length ≤ 50) && decide (([] : List Pt).length ≤ 50)) = f := ⟨_, rfl⟩
    rw [e2]
    clear e2
    cases f2 with
    | false =>
      obtain ⟨a1, a2, a3, a4⟩ := (gp.out _ hb0).facts
      go_wp2
      go_ret
      exact ⟨rfl, hbV.trans (hb0.mono hbV.size)⟩
    | true =>
      obtain ⟨a1, a2, a3, a4⟩ := (gp.out _ hb0).facts
      go_wp2_with fail
      refine (Valid_any _ a _ (HA.out _ hb0)).mono ?_
      rintro e w3 ⟨rfl, hc3⟩
      have hb3 := hb0.trans (hc3.mono hb0.size)
      clear a1 a2 a3 a4
      cases hva : validB a with
      | false =>
        obtain ⟨a1, a2, a3, a4⟩ := (gp.out _ hb3).facts
        go_wp2
        go_ret
        exact ⟨rfl, hbV.trans (hb3.mono hbV.size)⟩
      | true =>
        obtain ⟨a1, a2, a3, a4⟩ := (gp.out _ hb3).facts
        go_wp2_with fail
        refine (Valid_any _ b _ (HB.out _ hb3)).mono ?_
        rintro e w4 ⟨rfl, hc4⟩
        have hb4 := hb3.trans (hc4.mono hb3.size)
        clear a1 a2 a3 a4
        cases hvb : validB b with
        | false =>
          obtain ⟨a1, a2, a3, a4⟩ := (gp.out _ hb4).facts
          go_wp2
          go_ret
          exact ⟨rfl, hbV.trans (hb4.mono hbV.size)⟩
        | true =>
          obtain ⟨a1, a2, a3, a4⟩ := (gp.out _ hb4).facts
          go_wp2_with fail
          refine (Valid_any _ c _ (HC.out _ hb4)).mono ?_
          rintro e w5 ⟨rfl, hc5⟩
          have hb5 := hb4.trans (hc5.mono hb4.size)
          clear a1 a2 a3 a4
          cases hvc : validB c with
          | false =>
            obtain ⟨a1, a2, a3, a4⟩ := (gp.out _ hb5).facts
            go_wp2
            go_ret
            exact ⟨rfl, hbV.trans (hb5.mono hbV.size)⟩
          | true =>
            have HS := Lib.hid (apart_symm hva hvb)
            have HW := Lib.hid (fun (h : apartR a b = true) => apart_where hva hvb h px py)
            have HI := Lib.hid (fun (h : withinB a b = true) => within_apart hva hvb h)
            have HT := Lib.hid (fun (h : withinB a b = true) (k : apartR b c = true) => within_third hva hvb hvc h k)
            clear hva hvb hvc
            obtain ⟨a1, a2, a3, a4⟩ := (gp.out _ hb5).facts
            go_wp2_with fail
            refine (Apart_any _ _ a b _ (HA.out _ hb5) (HB.out _ hb5)).mono ?_
            rintro e w6 ⟨rfl, hc6⟩
            have hb6 := hb5.trans (hc6.mono hb5.size)
            clear a1 a2 a3 a4
            obtain ⟨a1, a2, a3, a4⟩ := (gp.out _ hb6).facts
            go_wp2_with fail
            refine (Apart_any _ _ b a _ (HB.out _ hb6) (HA.out _ hb6)).mono ?_
            rintro e w7 ⟨rfl, hc7⟩
            have hb7 := hb6.trans (hc7.mono hb6.size)
            clear a1 a2 a3 a4
            rw [← HS.out]
            clear HS
            cases hA : apartR a b with
            | true =>
              have hw2 := HW.out hA
              obtain ⟨a1, a2, a3, a4⟩ := (gp.out _ hb7).facts
              go_wp2_with fail
              refine (Where_any _ a px py _ (HA.out _ hb7)).mono ?_
              rintro e w8 ⟨rfl, hc8⟩
              have hb8 := hb7.trans (hc8.mono hb7.size)
              clear a1 a2 a3 a4
              by_cases hx : whereV a px py = 1
              · have hy : (whereV b px py == 1) = false := by rw [beq_eq_false_iff_ne]; exact fun y => hw2 ⟨hx, y⟩
                rw [hx]
                clear hx hw2
                obtain ⟨a1, a2, a3, a4⟩ := (gp.out _ hb8).facts
                go_wp2_with fail
                refine (Where_any _ b px py _ (HB.out _ hb8)).mono ?_
                rintro e w9 ⟨rfl, hc9⟩
                have hb9 := hb8.trans (hc9.mono hb8.size)
                clear a1 a2 a3 a4
                generalize whereV b px py = y at *
                obtain ⟨a1, a2, a3, a4⟩ := (gp.out _ hb9).facts
                go_wp2_with fail
                refine (Within_any _ _ a b _ (HA.out _ hb9) (HB.out _ hb9)).mono ?_
                rintro e w10 ⟨rfl, hc10⟩
                have hb10 := hb9.trans (hc10.mono hb9.size)
                clear a1 a2 a3 a4
                cases hw : withinB a b with
                | false =>
                  obtain ⟨a1, a2, a3, a4⟩ := (gp.out _ hb10).facts
                  go_wp2
                  go_ret
                  exact ⟨rfl, hbV.trans (hb10.mono hbV.size)⟩
                | true =>
                  have := HI.out hw
                  rw [hA] at this
                  cases this
              · have hy : (whereV a px py == 1) = false := by rw [beq_eq_false_iff_ne]; exact hx
                clear hx hw2
                generalize whereV a px py = y at *
                obtain ⟨a1, a2, a3, a4⟩ := (gp.out _ hb8).facts
                go_wp2_with fail
                refine (Within_any _ _ a b _ (HA.out _ hb8) (HB.out _ hb8)).mono ?_
                rintro e w11 ⟨rfl, hc11⟩
                have hb11 := hb8.trans (hc11.mono hb8.size)
                clear a1 a2 a3 a4
                cases hw : withinB a b with
                | false =>
                  obtain ⟨a1, a2, a3, a4⟩ := (gp.out _ hb11).facts
                  go_wp2
                  go_ret
                  exact ⟨rfl, hbV.trans (hb11.mono hbV.size)⟩
                | true =>
                  have := HI.out hw
                  rw [hA] at this
                  cases this
            | false =>
              obtain ⟨a1, a2, a3, a4⟩ := (gp.out _ hb7).facts
              go_wp2_with fail
              refine (Within_any _ _ a b _ (HA.out _ hb7) (HB.out _ hb7)).mono ?_
              rintro e w12 ⟨rfl, hc12⟩
              have hb12 := hb7.trans (hc12.mono hb7.size)
              clear a1 a2 a3 a4
              cases hw : withinB a b with
              | false =>
                obtain ⟨a1, a2, a3, a4⟩ := (gp.out _ hb12).facts
                go_wp2
                go_ret
                exact ⟨rfl, hbV.trans (hb12.mono hbV.size)⟩
              | true =>
                obtain ⟨a1, a2, a3, a4⟩ := (gp.out _ hb12).facts
                go_wp2_with fail
                refine (Apart_any _ _ b c _ (HB.out _ hb12) (HC.out _ hb12)).mono ?_
                rintro e w13 ⟨rfl, hc13⟩
                have hb13 := hb12.trans (hc13.mono hb12.size)
                clear a1 a2 a3 a4
                cases hk : apartR b c with
                | false =>
                  obtain ⟨a1, a2, a3, a4⟩ := (gp.out _ hb13).facts
                  go_wp2
                  go_ret
                  exact ⟨rfl, hbV.trans (hb13.mono hbV.size)⟩
                | true =>
                  have h3 := HT.out hw hk
                  obtain ⟨a1, a2, a3, a4⟩ := (gp.out _ hb13).facts
                  go_wp2_with fail
                  refine (Apart_any _ _ a c _ (HA.out _ hb13) (HC.out _ hb13)).mono ?_
                  rintro e w14 ⟨rfl, hc14⟩
                  have hb14 := hb13.trans (hc14.mono hb13.size)
                  clear a1 a2 a3 a4
                  rw [h3]
                  obtain ⟨a1, a2, a3, a4⟩ := (gp.out _ hb14).facts
                  go_wp2
                  go_ret
                  exact ⟨rfl, hbV.trans (hb14.mono hbV.size)⟩
end Go.Proofs.Ytcpcmlonbpccnaa.Ge
