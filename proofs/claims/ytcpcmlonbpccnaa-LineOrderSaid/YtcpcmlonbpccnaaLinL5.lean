/- The walk of LineOrder. -/
import Derived.Test.YtcpcmlonbpccnaaBdA19
import Derived.Test.YtcpcmlonbpccnaaBdA18
import Derived.Test.YtcpcmlonbpccnaaLinR1
namespace Go.Proofs.Ytcpcmlonbpccnaa.Ge
set_option linter.unusedVariables false
set_option linter.unusedSimpArgs false
open Go.RowKit
open Go.Proofs.Ytcpcmlonbpccnaa.Fr

set_option maxRecDepth 100000 in
set_option maxHeartbeats 8000000 in
theorem lawOrder (a b c : Sp) (w : World) :
    Calls Try.prog 7 #[spV a, spV b, spV c] w fun e w' => e = .returned (.bool true) ∧ Below w.heap.size w w' := by
  have HAB := Lib.hid (fun w => Before_any a b w)
  have HBC := Lib.hid (fun w => Before_any b c w)
  have HAC := Lib.hid (fun w => Before_any a c w)
  have HBA := Lib.hid (fun w => Before_any b a w)
  have HAA := Lib.hid (fun w => Before_any a a w)
  have HFA := Lib.hid (fun w => rformed_any a w)
  have HFB := Lib.hid (fun w => rformed_any b w)
  have HFC := Lib.hid (fun w => rformed_any c w)
  rw [bef_swap a b] at HBA
  rw [bef_self a] at HAA
  have hx := bef_bd a b
  have hy := bef_bd b c
  have hz := bef_bd a c
  have HT := Lib.hid (fun (h : formP a) (k : formP b) (l : formP c) => bef_trans h k l)
  have HS := Lib.hid (fun (h : formP a) (k : formP b) => bef_seg h k)
  obtain ⟨x, ex⟩ : ∃ x, befV a b = x := ⟨_, rfl⟩
  obtain ⟨y, ey⟩ : ∃ y, befV b c = y := ⟨_, rfl⟩
  obtain ⟨z, ez⟩ : ∃ z, befV a c = z := ⟨_, rfl⟩
  rw [ex] at HAB HBA HT HS hx
  rw [ey] at HBC HT hy
  rw [ez] at HAC HT hz
  clear ex ey ez
  have hb0 : Below w.heap.size w (((w.alloc (.cells #[.int .i64 a.1, .int .i64 a.2.1.1, .int .i64 a.2.1.2, .int .i64 a.2.2.1, .int .i64 a.2.2.2.1, .int .i64 a.2.2.2.2] 28)).alloc (.cells #[.int .i64 b.1, .int .i64 b.2.1.1, .int .i64 b.2.1.2, .int .i64 b.2.2.1, .int .i64 b.2.2.2.1, .int .i64 b.2.2.2.2] 28)).alloc (.cells #[.int .i64 c.1, .int .i64 c.2.1.1, .int .i64 c.2.1.2, .int .i64 c.2.2.1, .int .i64 c.2.2.2.1, .int .i64 c.2.2.2.2] 28)) := (((Below.refl _ w).alloc (Nat.le_refl _) _).alloc (by simp) _).alloc (by simp; omega) _
  have ga := ((SpAt.new w a).alloc (.cells #[.int .i64 b.1, .int .i64 b.2.1.1, .int .i64 b.2.1.2, .int .i64 b.2.2.1, .int .i64 b.2.2.2.1, .int .i64 b.2.2.2.2] 28)).alloc (.cells #[.int .i64 c.1, .int .i64 c.2.1.1, .int .i64 c.2.1.2, .int .i64 c.2.2.1, .int .i64 c.2.2.2.1, .int .i64 c.2.2.2.2] 28)
  have gb : SpAt (((w.alloc (.cells #[.int .i64 a.1, .int .i64 a.2.1.1, .int .i64 a.2.1.2, .int .i64 a.2.2.1, .int .i64 a.2.2.2.1, .int .i64 a.2.2.2.2] 28)).alloc (.cells #[.int .i64 b.1, .int .i64 b.2.1.1, .int .i64 b.2.1.2, .int .i64 b.2.2.1, .int .i64 b.2.2.2.1, .int .i64 b.2.2.2.2] 28)).alloc (.cells #[.int .i64 c.1, .int .i64 c.2.1.1, .int .i64 c.2.1.2, .int .i64 c.2.2.1, .int .i64 c.2.2.2.1, .int .i64 c.2.2.2.2] 28)) (w.heap.size + 1) b := by
    have h := (SpAt.new (w.alloc (.cells #[.int .i64 a.1, .int .i64 a.2.1.1, .int .i64 a.2.1.2, .int .i64 a.2.2.1, .int .i64 a.2.2.2.1, .int .i64 a.2.2.2.2] 28)) b).alloc (.cells #[.int .i64 c.1, .int .i64 c.2.1.1, .int .i64 c.2.1.2, .int .i64 c.2.2.1, .int .i64 c.2.2.2.1, .int .i64 c.2.2.2.2] 28)
    simp only [World.size_alloc] at h
    exact h
  have gc : SpAt (((w.alloc (.cells #[.int .i64 a.1, .int .i64 a.2.1.1, .int .i64 a.2.1.2, .int .i64 a.2.2.1, .int .i64 a.2.2.2.1, .int .i64 a.2.2.2.2] 28)).alloc (.cells #[.int .i64 b.1, .int .i64 b.2.1.1, .int .i64 b.2.1.2, .int .i64 b.2.2.1, .int .i64 b.2.2.2.1, .int .i64 b.2.2.2.2] 28)).alloc (.cells #[.int .i64 c.1, .int .i64 c.2.1.1, .int .i64 c.2.1.2, .int .i64 c.2.2.1, .int .i64 c.2.2.2.1, .int .i64 c.2.2.2.2] 28)) (w.heap.size + 1 + 1) c := by
    have h := SpAt.new ((w.alloc (.cells #[.int .i64 a.1, .int .i64 a.2.1.1, .int .i64 a.2.1.2, .int .i64 a.2.2.1, .int .i64 a.2.2.2.1, .int .i64 a.2.2.2.2] 28)).alloc (.cells #[.int .i64 b.1, .int .i64 b.2.1.1, .int .i64 b.2.1.2, .int .i64 b.2.2.1, .int .i64 b.2.2.2.1, .int .i64 b.2.2.2.2] 28)) c
    simp only [World.size_alloc] at h
    exact h
  unfold spV at *
  go_enter Try.func7, Try.ntmps7
  go_wp2_with fail
  refine (head9_any _).mono ?_
  rintro e w1 ⟨rfl, hc1⟩
  have ga1 := ga.below hc1 ga.lt
  have gb1 := gb.below hc1 gb.lt
  have gc1 := gc.below hc1 gc.lt
  have hb1 := hb0.trans (hc1.mono hb0.size)
  clear ga gb gc hb0 hc1
  obtain ⟨⟨a0, a1, a2, a3, a4, a5⟩, -⟩ := ga1.facts
  obtain ⟨⟨b0, b1, b2, b3, b4, b5⟩, -⟩ := gb1.facts
  obtain ⟨⟨c0, c1, c2, c3, c4, c5⟩, -⟩ := gc1.facts
  go_wp2_with fail
  refine (HAB.out _).mono ?_
  rintro e w2 ⟨rfl, hc2⟩
  have ga2 := ga1.below hc2 ga1.lt
  have gb2 := gb1.below hc2 gb1.lt
  have gc2 := gc1.below hc2 gc1.lt
  have hb2 := hb1.trans (hc2.mono hb1.size)
  clear a0 a1 a2 a3 a4 a5 b0 b1 b2 b3 b4 b5 c0 c1 c2 c3 c4 c5
  clear ga1 gb1 gc1 hb1 hc2
  obtain ⟨⟨a0, a1, a2, a3, a4, a5⟩, -⟩ := ga2.facts
  obtain ⟨⟨b0, b1, b2, b3, b4, b5⟩, -⟩ := gb2.facts
  obtain ⟨⟨c0, c1, c2, c3, c4, c5⟩, -⟩ := gc2.facts
  go_wp2_with fail
  refine (HBC.out _).mono ?_
  rintro e w3 ⟨rfl, hc3⟩
  have ga3 := ga2.below hc3 ga2.lt
  have gb3 := gb2.below hc3 gb2.lt
  have gc3 := gc2.below hc3 gc2.lt
  have hb3 := hb2.trans (hc3.mono hb2.size)
  clear a0 a1 a2 a3 a4 a5 b0 b1 b2 b3 b4 b5 c0 c1 c2 c3 c4 c5
  clear ga2 gb2 gc2 hb2 hc3
  obtain ⟨⟨a0, a1, a2, a3, a4, a5⟩, -⟩ := ga3.facts
  obtain ⟨⟨b0, b1, b2, b3, b4, b5⟩, -⟩ := gb3.facts
  obtain ⟨⟨c0, c1, c2, c3, c4, c5⟩, -⟩ := gc3.facts
  go_wp2_with fail
  refine (HAC.out _).mono ?_
  rintro e w4 ⟨rfl, hc4⟩
  have ga4 := ga3.below hc4 ga3.lt
  have gb4 := gb3.below hc4 gb3.lt
  have gc4 := gc3.below hc4 gc3.lt
  have hb4 := hb3.trans (hc4.mono hb3.size)
  clear a0 a1 a2 a3 a4 a5 b0 b1 b2 b3 b4 b5 c0 c1 c2 c3 c4 c5
  clear ga3 gb3 gc3 hb3 hc4
  obtain ⟨⟨a0, a1, a2, a3, a4, a5⟩, -⟩ := ga4.facts
  obtain ⟨⟨b0, b1, b2, b3, b4, b5⟩, -⟩ := gb4.facts
  obtain ⟨⟨c0, c1, c2, c3, c4, c5⟩, -⟩ := gc4.facts
  have hw : IntKind.i64.wrap (-x) = -x := by rw [IntKind.wrap_i64]; omega
  have k1 : (-x != -x) = false := by simp
  have k2 : decide (x < -1) = false := by simp; omega
  have k3 : decide (1 < x) = false := by simp; omega
  go_wp2_with fail
  refine (HBA.out _).mono ?_
  rintro e w5 ⟨rfl, hc5⟩
  have ga5 := ga4.below hc5 ga4.lt
  have gb5 := gb4.below hc5 gb4.lt
  have gc5 := gc4.below hc5 gc4.lt
  have hb5 := hb4.trans (hc5.mono hb4.size)
  clear a0 a1 a2 a3 a4 a5 b0 b1 b2 b3 b4 b5 c0 c1 c2 c3 c4 c5
  clear ga4 gb4 gc4 hb4 hc5
  obtain ⟨⟨a0, a1, a2, a3, a4, a5⟩, -⟩ := ga5.facts
  obtain ⟨⟨b0, b1, b2, b3, b4, b5⟩, -⟩ := gb5.facts
  obtain ⟨⟨c0, c1, c2, c3, c4, c5⟩, -⟩ := gc5.facts
  go_wp2_with fail
  refine (HAA.out _).mono ?_
  rintro e w6 ⟨rfl, hc6⟩
  have ga6 := ga5.below hc6 ga5.lt
  have gb6 := gb5.below hc6 gb5.lt
  have gc6 := gc5.below hc6 gc5.lt
  have hb6 := hb5.trans (hc6.mono hb5.size)
  clear a0 a1 a2 a3 a4 a5 b0 b1 b2 b3 b4 b5 c0 c1 c2 c3 c4 c5
  clear ga5 gb5 gc5 hb5 hc6
  obtain ⟨⟨a0, a1, a2, a3, a4, a5⟩, -⟩ := ga6.facts
  obtain ⟨⟨b0, b1, b2, b3, b4, b5⟩, -⟩ := gb6.facts
  obtain ⟨⟨c0, c1, c2, c3, c4, c5⟩, -⟩ := gc6.facts
  clear hw k1 k2 k3
  cases hfa : decide (formP a) with
  | false =>
    rw [hfa] at HFA
    go_wp2_with fail
    refine (HFA.out _).mono ?_
    rintro e w7 ⟨rfl, hc7⟩
    have ga7 := ga6.below hc7 ga6.lt
    have gb7 := gb6.below hc7 gb6.lt
    have gc7 := gc6.below hc7 gc6.lt
    have hb7 := hb6.trans (hc7.mono hb6.size)
    clear a0 a1 a2 a3 a4 a5 b0 b1 b2 b3 b4 b5 c0 c1 c2 c3 c4 c5
    clear ga6 gb6 gc6 hb6 hc7
    obtain ⟨⟨a0, a1, a2, a3, a4, a5⟩, -⟩ := ga7.facts
    obtain ⟨⟨b0, b1, b2, b3, b4, b5⟩, -⟩ := gb7.facts
    obtain ⟨⟨c0, c1, c2, c3, c4, c5⟩, -⟩ := gc7.facts
    go_wp2
    go_ret
    exact ⟨rfl, hb7⟩
  | true =>
    rw [hfa] at HFA
    go_wp2_with fail
    refine (HFA.out _).mono ?_
    rintro e w7 ⟨rfl, hc7⟩
    have ga7 := ga6.below hc7 ga6.lt
    have gb7 := gb6.below hc7 gb6.lt
    have gc7 := gc6.below hc7 gc6.lt
    have hb7 := hb6.trans (hc7.mono hb6.size)
    clear a0 a1 a2 a3 a4 a5 b0 b1 b2 b3 b4 b5 c0 c1 c2 c3 c4 c5
    clear ga6 gb6 gc6 hb6 hc7
    obtain ⟨⟨a0, a1, a2, a3, a4, a5⟩, -⟩ := ga7.facts
    obtain ⟨⟨b0, b1, b2, b3, b4, b5⟩, -⟩ := gb7.facts
    obtain ⟨⟨c0, c1, c2, c3, c4, c5⟩, -⟩ := gc7.facts
    cases hfb : decide (formP b) with
    | false =>
      rw [hfb] at HFB
      go_wp2_with fail
      refine (HFB.out _).mono ?_
      rintro e w8 ⟨rfl, hc8⟩
      have ga8 := ga7.below hc8 ga7.lt
      have gb8 := gb7.below hc8 gb7.lt
      have gc8 := gc7.below hc8 gc7.lt
      have hb8 := hb7.trans (hc8.mono hb7.size)
      clear a0 a1 a2 a3 a4 a5 b0 b1 b2 b3 b4 b5 c0 c1 c2 c3 c4 c5
      clear ga7 gb7 gc7 hb7 hc8
      obtain ⟨⟨a0, a1, a2, a3, a4, a5⟩, -⟩ := ga8.facts
      obtain ⟨⟨b0, b1, b2, b3, b4, b5⟩, -⟩ := gb8.facts
      obtain ⟨⟨c0, c1, c2, c3, c4, c5⟩, -⟩ := gc8.facts
      go_wp2
      go_ret
      exact ⟨rfl, hb8⟩
    | true =>
      rw [hfb] at HFB
      go_wp2_with fail
      refine (HFB.out _).mono ?_
      rintro e w8 ⟨rfl, hc8⟩
      have ga8 := ga7.below hc8 ga7.lt
      have gb8 := gb7.below hc8 gb7.lt
      have gc8 := gc7.below hc8 gc7.lt
      have hb8 := hb7.trans (hc8.mono hb7.size)
      clear a0 a1 a2 a3 a4 a5 b0 b1 b2 b3 b4 b5 c0 c1 c2 c3 c4 c5
      clear ga7 gb7 gc7 hb7 hc8
      obtain ⟨⟨a0, a1, a2, a3, a4, a5⟩, -⟩ := ga8.facts
      obtain ⟨⟨b0, b1, b2, b3, b4, b5⟩, -⟩ := gb8.facts
      obtain ⟨⟨c0, c1, c2, c3, c4, c5⟩, -⟩ := gc8.facts
      cases hfc : decide (formP c) with
      | false =>
        rw [hfc] at HFC
        go_wp2_with fail
        refine (HFC.out _).mono ?_
        rintro e w9 ⟨rfl, hc9⟩
        have ga9 := ga8.below hc9 ga8.lt
        have gb9 := gb8.below hc9 gb8.lt
        have gc9 := gc8.below hc9 gc8.lt
        have hb9 := hb8.trans (hc9.mono hb8.size)
        clear a0 a1 a2 a3 a4 a5 b0 b1 b2 b3 b4 b5 c0 c1 c2 c3 c4 c5
        clear ga8 gb8 gc8 hb8 hc9
        obtain ⟨⟨a0, a1, a2, a3, a4, a5⟩, -⟩ := ga9.facts
        obtain ⟨⟨b0, b1, b2, b3, b4, b5⟩, -⟩ := gb9.facts
        obtain ⟨⟨c0, c1, c2, c3, c4, c5⟩, -⟩ := gc9.facts
        go_wp2
        go_ret
        exact ⟨rfl, hb9⟩
      | true =>
        rw [hfc] at HFC
        go_wp2_with fail
        refine (HFC.out _).mono ?_
        rintro e w9 ⟨rfl, hc9⟩
        have ga9 := ga8.below hc9 ga8.lt
        have gb9 := gb8.below hc9 gb8.lt
        have gc9 := gc8.below hc9 gc8.lt
        have hb9 := hb8.trans (hc9.mono hb8.size)
        clear a0 a1 a2 a3 a4 a5 b0 b1 b2 b3 b4 b5 c0 c1 c2 c3 c4 c5
        clear ga8 gb8 gc8 hb8 hc9
        obtain ⟨⟨a0, a1, a2, a3, a4, a5⟩, -⟩ := ga9.facts
        obtain ⟨⟨b0, b1, b2, b3, b4, b5⟩, -⟩ := gb9.facts
        obtain ⟨⟨c0, c1, c2, c3, c4, c5⟩, -⟩ := gc9.facts
        have ht := HT.out (of_decide_eq_true hfa) (of_decide_eq_true hfb) (of_decide_eq_true hfc)
        have hs := HS.out (of_decide_eq_true hfa) (of_decide_eq_true hfb)
        by_cases hseg : a.1 < b.1
        · have kseg : decide (b.1 ≤ a.1) = false := by simp; omega
          have hx0 := hs hseg
          clear HT HS hs hfa hfb hfc hseg
          rcases hx with rfl | rfl | rfl <;> rcases hy with rfl | rfl | rfl <;> rcases hz with rfl | rfl | rfl <;> first | (exfalso; omega) | (clear ht hx0; go_wp2; go_ret; exact ⟨rfl, hb9⟩)
        · have kseg : decide (b.1 ≤ a.1) = true := by simp; omega
          clear HT HS hs hfa hfb hfc hseg
          rcases hx with rfl | rfl | rfl <;> rcases hy with rfl | rfl | rfl <;> rcases hz with rfl | rfl | rfl <;> first | (exfalso; omega) | (clear ht; go_wp2; go_ret; exact ⟨rfl, hb9⟩)
end Go.Proofs.Ytcpcmlonbpccnaa.Ge
