/- The walk of PolygonCounts. -/
import Derived.Test.YtohkmkkcblbemaaPolL3
import Derived.BigRegion
namespace Go.Proofs.Ytohkmkkcblbemaa.Ge
set_option linter.unusedVariables false
set_option linter.unusedSimpArgs false
open Go.RowKit
open Go.Proofs.Ytohkmkkcblbemaa.Fr (Two)

set_option maxRecDepth 100000 in
set_option maxHeartbeats 4000000 in
theorem small_any (v : Value) (r : List Pt) (w : World) (hv : PtSl w v r) (hva : validB r = true) :
    Calls Try.prog 35 #[v] w fun e w' => e = .returned (.tuple #[.agg #[.int .i64 (lowP r).1, .int .i64 (lowP r).2], .agg #[.int .i64 (highP r).1, .int .i64 (highP r).2], .bool (decide ((highP r).1 - (lowP r).1 ≤ 24) && decide ((highP r).2 - (lowP r).2 ≤ 24))]) ∧ Below w.heap.size w w' := by
  have hbd := box_bd hva
  have hee : errB r = 0 := by unfold errB; rw [if_pos hva]
  have HB := Lib.hid (fun (w' : World) (h : Below w.heap.size w w') => Box_any v r w' (hv.below h))
  rw [hee] at HB
  clear hva hee
  generalize (lowP r).1 = lx at *
  generalize (lowP r).2 = ly at *
  generalize (highP r).1 = ux at *
  generalize (highP r).2 = uy at *
  obtain ⟨⟨b1, b2, b3⟩, b4, b5, b6⟩ := hbd
  obtain ⟨B, hB⟩ : ∃ B, (decide (ux - lx ≤ 24) && decide (uy - ly ≤ 24)) = B := ⟨_, rfl⟩
  rw [hB]
  have HBB := Lib.hid hB
  clear hB
  obtain ⟨a, cap, rfl⟩ := hv.form
  have z0 := (Two.new w 23 (.int .i64 0) (.int .i64 0)).alloc (.cells #[.int .i64 0, .int .i64 0] 23)
  have z1 := Two.at (w := w.alloc (.cells #[.int .i64 0, .int .i64 0] 23)) (B := w.heap.size + 1) (by simp) 23 (.int .i64 0) (.int .i64 0)
  have hb0 := ((Below.refl w.heap.size w).alloc (Nat.le_refl _) (.cells #[.int .i64 0, .int .i64 0] 23)).alloc (by simp) (.cells #[.int .i64 0, .int .i64 0] 23)
  go_enter Try.func35, Try.ntmps35
  go_wp2_with fail
  refine (HB.out _ hb0).mono ?_
  rintro e w1 ⟨rfl, hb1⟩
  have y0 := z0.below hb1 z0.lt
  have y1 := z1.below hb1 z1.lt
  have hbw := hb0.trans (hb1.mono hb0.size)
  clear z0 z1 hb0 hb1 HB
  have x0 := (y0.alloc (.cells #[.int .i64 lx, .int .i64 ly] 23)).alloc (.cells #[.int .i64 ux, .int .i64 uy] 23)
  have x1 := (y1.alloc (.cells #[.int .i64 lx, .int .i64 ly] 23)).alloc (.cells #[.int .i64 ux, .int .i64 uy] 23)
  have tl := (Two.new w1 23 (.int .i64 lx) (.int .i64 ly)).alloc (.cells #[.int .i64 ux, .int .i64 uy] 23)
  have th := Two.at (w := w1.alloc (.cells #[.int .i64 lx, .int .i64 ly] 23)) (B := w1.heap.size + 1) (by simp) 23 (.int .i64 ux) (.int .i64 uy)
  have hbx := (hbw.alloc hbw.size (.cells #[.int .i64 lx, .int .i64 ly] 23)).alloc (Nat.le_trans hbw.size (by simp)) (.cells #[.int .i64 ux, .int .i64 uy] 23)
  have s0 := y0.lt
  have s1 := y1.lt
  clear y0 y1 hbw
  go_upto_region 2 with fail
  obtain ⟨W, hW⟩ : ∃ x, (w1.alloc (.cells #[.int .i64 lx, .int .i64 ly] 23)).alloc (.cells #[.int .i64 ux, .int .i64 uy] 23) = x := ⟨_, rfl⟩
  rw [hW] at x0 x1 tl th hbx ⊢
  clear hW
  generalize w1.heap.size = BL at *
  obtain ⟨f1, f2, f3, f4⟩ := x0.facts
  obtain ⟨g1, g2, g3, g4⟩ := x1.facts
  obtain ⟨p1, p2, p3, p4⟩ := tl.facts
  obtain ⟨k1, k2, k3, k4⟩ := th.facts
  have q1 : IntKind.i64.wrap (ux - lx) = ux - lx := by rw [IntKind.wrap_i64]; omega
  have q2 : IntKind.i64.wrap (uy - ly) = uy - ly := by rw [IntKind.wrap_i64]; omega
  by_cases c1 : ux - lx ≤ 24
  · by_cases c2 : uy - ly ≤ 24
    · obtain rfl : B = true := by rw [← HBB.out, decide_eq_true c1, decide_eq_true c2]; rfl
      clear HBB
      go_region
      go_wp2_with fail
      refine bodyPost_ret (v := .tuple #[.agg #[.int .i64 lx, .int .i64 ly], .agg #[.int .i64 ux, .int .i64 uy], .bool true]) ?_ rfl ⟨rfl, ?_⟩
      · simp [results, Try.results35, go_sem, f1, f2, g1, g2]
      · exact ((((hbx.setCell (p := ⟨w.heap.size, 0, none⟩) (Nat.le_refl _) _).setCell (p := ⟨w.heap.size, 1, none⟩) (Nat.le_refl _) _).setCell (p := ⟨w.heap.size + 1, 0, none⟩) (Nat.le_succ _) _).setCell (p := ⟨w.heap.size + 1, 1, none⟩) (Nat.le_succ _) _).drew
    · obtain rfl : B = false := by rw [← HBB.out, decide_eq_true c1, decide_eq_false c2]; rfl
      clear HBB
      go_region
      go_wp2_with fail
      refine bodyPost_ret (v := .tuple #[.agg #[.int .i64 lx, .int .i64 ly], .agg #[.int .i64 ux, .int .i64 uy], .bool false]) ?_ rfl ⟨rfl, ?_⟩
      · simp [results, Try.results35, go_sem, f1, f2, g1, g2]
      · exact ((((hbx.setCell (p := ⟨w.heap.size, 0, none⟩) (Nat.le_refl _) _).setCell (p := ⟨w.heap.size, 1, none⟩) (Nat.le_refl _) _).setCell (p := ⟨w.heap.size + 1, 0, none⟩) (Nat.le_succ _) _).setCell (p := ⟨w.heap.size + 1, 1, none⟩) (Nat.le_succ _) _).drew
  · obtain rfl : B = false := by rw [← HBB.out, decide_eq_false c1]; rfl
    clear HBB
    go_region
    go_wp2_with fail
    refine bodyPost_ret (v := .tuple #[.agg #[.int .i64 lx, .int .i64 ly], .agg #[.int .i64 ux, .int .i64 uy], .bool false]) ?_ rfl ⟨rfl, ?_⟩
    · simp [results, Try.results35, go_sem, f1, f2, g1, g2]
    · exact ((((hbx.setCell (p := ⟨w.heap.size, 0, none⟩) (Nat.le_refl _) _).setCell (p := ⟨w.heap.size, 1, none⟩) (Nat.le_refl _) _).setCell (p := ⟨w.heap.size + 1, 0, none⟩) (Nat.le_succ _) _).setCell (p := ⟨w.heap.size + 1, 1, none⟩) (Nat.le_succ _) _).drew
end Go.Proofs.Ytohkmkkcblbemaa.Ge

/- The walk of PolygonCounts: both loops. -/
namespace Go.Proofs.Ytohkmkkcblbemaa.Ge
set_option linter.unusedVariables false
set_option linter.unusedSimpArgs false
open Go.RowKit
open Go.Proofs.Ytohkmkkcblbemaa.Fr (Two)

theorem whereV_bd (l : List Pt) (x y : Int) : -1 ≤ whereV l x y ∧ whereV l x y ≤ 1 := by
  unfold whereV
  split
  · unfold whereP
    split
    · omega
    · split <;> omega
  · omega
/-- what one column, and a part of it, adds -/
def colS (l : List Pt) (t s : Nat) : Int := Jr.sm (fun s => whereV l ((lowP l).1 + (t : Int)) ((lowP l).2 + (s : Int)) + 1) s
def allS (l : List Pt) (t : Nat) : Int := Jr.sm (fun t => colS l t (hgN l)) t
theorem sm_bd (f : Nat → Int) (c : Int) (h : ∀ j, 0 ≤ f j ∧ f j ≤ c) : ∀ k, 0 ≤ Jr.sm f k ∧ Jr.sm f k ≤ c * k
  | 0 => by simp [Jr.sm]
  | k + 1 => by
    have h1 := sm_bd f c h k
    have h2 := h k
    have e : c * ((k + 1 : Nat) : Int) = c * k + c := by rw [Int.natCast_add, Int.mul_add]; omega
    rw [Jr.sm, e]
    omega
theorem colS_bd (l : List Pt) (t s : Nat) : 0 ≤ colS l t s ∧ colS l t s ≤ 2 * s :=
  sm_bd _ 2 (fun j => by have := whereV_bd l ((lowP l).1 + (t : Int)) ((lowP l).2 + (j : Int)); omega) s
theorem colS_succ (l : List Pt) (t s : Nat) : colS l t (s + 1) = colS l t s + (whereV l ((lowP l).1 + (t : Int)) ((lowP l).2 + (s : Int)) + 1) := rfl
theorem allS_succ (l : List Pt) (t : Nat) : allS l (t + 1) = allS l t + colS l t (hgN l) := rfl
theorem allS_bd (l : List Pt) (h : hgN l ≤ 25) (t : Nat) : 0 ≤ allS l t ∧ allS l t ≤ 50 * t :=
  sm_bd _ 50 (fun j => by have := colS_bd l j (hgN l); omega) t
theorem allS_all {l : List Pt} (h : validB l = true) : allS l (wdN l) = twiceV l + 2 := count_all h

set_option maxRecDepth 100000 in
set_option maxHeartbeats 8000000 in
theorem lawCounts (va : Value) (ra : List Pt) (w : World) (ha : PtSl w va ra) :
    Calls Try.prog 7 #[va] w fun e w' => e = .returned (.bool true) ∧ Below w.heap.size w w' := by
  have HA := Lib.hid ha
  obtain ⟨a1, a2, rfl⟩ := ha.form
  clear ha
  go_enter Try.func7, Try.ntmps7
  go_wp2_with fail
  refine (head8_any _).mono ?_
  rintro e w1 ⟨rfl, hb1⟩
  have HA1 := Lib.hid (HA.out.below hb1)
  clear HA
  go_wp2_with fail
  refine (few_two _ _ ra [] _ HA1.out (.inl ⟨rfl, none, 0, rfl⟩)).mono ?_
  rintro e w2 ⟨rfl, rfl⟩
  rw [show decide (([] : List Pt).length ≤ 50) = true from rfl, Bool.and_true]
  by_cases hfew : ¬ ra.length ≤ 50
  · rw [decide_eq_false hfew]
    go_wp2_with fail
    go_ret
    exact ⟨rfl, hb1⟩
  have hfew := Classical.not_not.1 hfew
  rw [decide_eq_true hfew]
  clear hfew
  have HV := Lib.hid (Valid_any _ ra w2 HA1.out)
  cases hva : validB ra with
  | false =>
    rw [hva] at HV
    clear hva
    go_wp2_with fail
    refine HV.out.mono ?_
    rintro e w3 ⟨rfl, hb3⟩
    have hB3 := hb1.trans (hb3.mono hb1.size)
    go_wp2_with fail
    go_ret
    exact ⟨rfl, hB3⟩
  | true =>
  rw [hva] at HV
  have hbd := box_bd hva
  have HALL := Lib.hid (allS_all hva)
  have HSM := Lib.hid (fun (w' : World) (h : Below w2.heap.size w2 w') => small_any _ ra w' (HA1.out.below h) hva)
  have HW := Lib.hid (fun (x y : Int) (w' : World) (h : Below w2.heap.size w2 w') => Where_any _ ra x y w' (HA1.out.below h))
  have HT := Lib.hid (fun (w' : World) (h : Below w2.heap.size w2 w') => Twice_any _ ra w' (HA1.out.below h))
  have HWB := Lib.hid (whereV_bd ra)
  have HCB := Lib.hid (colS_bd ra)
  have HCS := Lib.hid (colS_succ ra)
  have HAS := Lib.hid (allS_succ ra)
  have HAB := Lib.hid (allS_bd ra)
  have hw0 : ((wdN ra : Nat) : Int) = (highP ra).1 - (lowP ra).1 + 1 := by unfold wdN; omega
  have hh0 : ((hgN ra : Nat) : Int) = (highP ra).2 - (lowP ra).2 + 1 := by unfold hgN; omega
  clear hva
  generalize (lowP ra).1 = lx at *
  generalize (lowP ra).2 = ly at *
  generalize (highP ra).1 = ux at *
  generalize (highP ra).2 = uy at *
  generalize hgN ra = hg at *
  generalize wdN ra = wd at *
  generalize twiceV ra = tw at *
  generalize whereV ra = wv at *
  generalize allS ra = al at *
  generalize colS ra = co at *
  obtain ⟨⟨b1, b2, b3⟩, b4, b5, b6⟩ := hbd
  go_wp2_with fail
  refine HV.out.mono ?_
  rintro e w3 ⟨rfl, hb3⟩
  clear HV
  go_wp2_with fail
  refine (HSM.out _ hb3).mono ?_
  rintro e w4 ⟨rfl, hb4⟩
  have hx4 := hb3.trans (hb4.mono hb3.size)
  have tl := (Two.new w4 23 (.int .i64 lx) (.int .i64 ly)).alloc (.cells #[.int .i64 ux, .int .i64 uy] 23)
  have th := Two.at (w := w4.alloc (.cells #[.int .i64 lx, .int .i64 ly] 23)) (B := w4.heap.size + 1) (by simp) 23 (.int .i64 ux) (.int .i64 uy)
  have hx6 := (hx4.alloc hx4.size (.cells #[.int .i64 lx, .int .i64 ly] 23)).alloc (Nat.le_trans hx4.size (by simp)) (.cells #[.int .i64 ux, .int .i64 uy] 23)
  have hB6 := hb1.trans (hx6.mono hb1.size)
  clear HSM hb3 hb4 hx4
  go_upto_region 5 with fail
  obtain ⟨W, hW⟩ : ∃ x, (w4.alloc (.cells #[.int .i64 lx, .int .i64 ly] 23)).alloc (.cells #[.int .i64 ux, .int .i64 uy] 23) = x := ⟨_, rfl⟩
  rw [hW] at tl th hx6 hB6 ⊢
  clear hW
  generalize w4.heap.size = BL at *
  by_cases hsm : ¬ (ux - lx ≤ 24 ∧ uy - ly ≤ 24)
  · rw [show (decide (ux - lx ≤ 24) && decide (uy - ly ≤ 24)) = false by rw [Bool.eq_false_iff]; simp only [ne_eq, Bool.and_eq_true, decide_eq_true_eq]; exact hsm]
    go_wp2_with fail
    go_ret
    exact ⟨rfl, hB6⟩
  have hsm := Classical.not_not.1 hsm
  rw [show (decide (ux - lx ≤ 24) && decide (uy - ly ≤ 24)) = true by rw [decide_eq_true hsm.1, decide_eq_true hsm.2]; rfl]
  obtain ⟨c1, c2⟩ := hsm
  have hg25 : hg ≤ 25 := by omega
  have wd25 : wd ≤ 25 := by omega
  obtain ⟨f1, f2, f3, f4⟩ := tl.facts
  obtain ⟨k1, k2, k3, k4⟩ := th.facts
  go_wp2_with fail
  go_loopw [7, 8] (fun nv xv wr => ∃ t : Nat, t ≤ wd ∧ xv = .int .i64 (lx + (t : Int)) ∧ nv = .int .i64 (-2 + al t) ∧ Below W.heap.size W wr) (fun _ xv _ => wd - (intOf xv - lx).toNat)
  case atStart =>
    refine ⟨0, Nat.zero_le _, by congr 1; omega, ?_, Below.refl _ _⟩
    have := HAB.out hg25 0
    have e : al 0 = 0 := by omega
    rw [e]
    rfl
  case round =>
    obtain ⟨t, ht, rfl, rfl, hbel⟩ := hrel
    clear f1 f2 f3 f4 k1 k2 k3 k4
    have tl1 := tl.below hbel tl.lt
    have th1 := th.below hbel th.lt
    obtain ⟨f1, f2, f3, f4⟩ := tl1.facts
    obtain ⟨k1, k2, k3, k4⟩ := th1.facts
    by_cases hlt : t < wd
    · have d1 : decide (lx + (t : Int) ≤ ux) = true := decide_eq_true (by omega)
      have hA := HAB.out hg25 t
      generalize wr = w9 at *
      go_wp2_with fail
      go_loopw [7, 9] (fun nv yv wr => ∃ s : Nat, s ≤ hg ∧ yv = .int .i64 (ly + (s : Int)) ∧ nv = .int .i64 (-2 + al t + co t s) ∧ Below W.heap.size W wr) (fun _ yv _ => hg - (intOf yv - ly).toNat)
      case atStart =>
        refine ⟨0, Nat.zero_le _, by congr 1; omega, ?_, hbel⟩
        have := HCB.out t 0
        have e : co t 0 = 0 := by omega
        rw [e, Int.add_zero]
      case round =>
        obtain ⟨s, hs, rfl, rfl, hbes⟩ := hrel
        clear f1 f2 f3 f4 k1 k2 k3 k4
        have tl2 := tl.below hbes tl.lt
        have th2 := th.below hbes th.lt
        obtain ⟨f1, f2, f3, f4⟩ := tl2.facts
        obtain ⟨k1, k2, k3, k4⟩ := th2.facts
        by_cases hls : s < hg
        · have d2 : decide (ly + (s : Int) ≤ uy) = true := decide_eq_true (by omega)
          have hC := HCB.out t s
          have hWb := HWB.out (lx + (t : Int)) (ly + (s : Int))
          have hC2 := HCS.out t s
          have hWc := Lib.hid (HW.out (lx + (t : Int)) (ly + (s : Int)))
          generalize wv (lx + (t : Int)) (ly + (s : Int)) = v at *
          have r1 : IntKind.i64.wrap (v + 1) = v + 1 := by rw [IntKind.wrap_i64]; omega
          have r2 : IntKind.i64.wrap (-2 + al t + co t s + (v + 1)) = -2 + al t + co t s + (v + 1) := by rw [IntKind.wrap_i64]; omega
          have r3 : IntKind.i64.wrap (ly + (s : Int) + 1) = ly + (s : Int) + 1 := by rw [IntKind.wrap_i64]; omega
          go_wp2_with fail
          refine (hWc.out _ (hx6.trans (hbes.mono hx6.size))).mono ?_
          rintro e w10 ⟨rfl, hb10⟩
          go_wp2_with fail
          go_roundw
          case rel => exact ⟨s + 1, by omega, by congr 1; omega, by rw [hC2]; congr 1; omega, hbes.trans (hb10.mono hbes.size)⟩
          case measure => simp [intOf]; omega
        · obtain rfl : s = hg := by omega
          have d2 : decide (ly + (s : Int) ≤ uy) = false := decide_eq_false (by omega)
          have hA2 := HAS.out t
          have hC := HCB.out t s
          have r3 : IntKind.i64.wrap (lx + (t : Int) + 1) = lx + (t : Int) + 1 := by rw [IntKind.wrap_i64]; omega
          go_wp2_with fail
          go_roundw
          case rel => exact ⟨t + 1, by omega, by congr 1; omega, by rw [hA2]; congr 1; omega, hbes⟩
          case measure => simp [intOf]; omega
    · obtain rfl : t = wd := by omega
      have d1 : decide (lx + (t : Int) ≤ ux) = false := decide_eq_false (by omega)
      have e1 : -2 + al t = tw := by have := HALL.out; omega
      rw [e1]
      have e2 : (tw == tw) = true := by simp
      go_wp2_with fail
      refine (HT.out _ (hx6.trans (hbel.mono hx6.size))).mono ?_
      rintro e w10 ⟨rfl, hb10⟩
      go_wp2_with fail
      go_ret
      exact ⟨rfl, (hB6.trans (hbel.mono hB6.size)).trans (hb10.mono (hB6.trans (hbel.mono hB6.size)).size)⟩
end Go.Proofs.Ytohkmkkcblbemaa.Ge
