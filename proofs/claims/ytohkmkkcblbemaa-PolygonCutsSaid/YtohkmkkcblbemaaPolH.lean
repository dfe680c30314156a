/- The head of layer 8's laws: the chapter's examples. -/
import Derived.Test.YtohkmkkcblbemaaPolW16
namespace Go.Proofs.Ytohkmkkcblbemaa.Ge
set_option linter.unusedVariables false
set_option linter.unusedSimpArgs false
open Go.RowKit
open Go.Proofs.Ytohkmkkcblbemaa.Fr (Two)

def rA : List Pt := [(0, 0), (4, 0), (4, 4), (0, 4)]
def rB : List Pt := [(0, 0), (4, 0), (4, 4), (2, 2), (0, 4)]
def rC : List Pt := [(0, 4), (2, 2), (4, 4)]
def rD : List Pt := [(0, 4), (4, 4), (4, 0), (0, 0)]
def rE : List Pt := [(0, 0), (2, 0), (4, 0), (4, 4)]
theorem Pts.sl {w : World} {b : Nat} {l : List Pt} (h : Pts w b l) (h0 : 0 < l.length) (h1 : l.length ≤ 1000) : PtSl w (.slice (some ⟨b, 0, none⟩) l.length l.length) l :=
  .inr ⟨b, 0, l.length, rfl, h0, h.1, ⟨Nat.le_refl _, by unfold maxLen; omega⟩, fun i hi => by rw [Nat.zero_add]; exact h.2 i hi⟩
theorem rA_sl (w : World) : PtSl (w.alloc (.cells #[.int .i64 0, .int .i64 0, .int .i64 4, .int .i64 0, .int .i64 4, .int .i64 4, .int .i64 0, .int .i64 4] 23)) (.slice (some ⟨w.heap.size, 0, none⟩) 4 4) rA := by
  refine Pts.sl (l := rA) (pts_new rfl _ _ _ fun i hi => ?_) (by decide) (by decide)
  have hi : i < 4 := hi
  obtain rfl | rfl | rfl | rfl : i = 0 ∨ i = 1 ∨ i = 2 ∨ i = 3 := by omega
  all_goals exact ⟨rfl, rfl⟩
theorem rB_sl (w : World) : PtSl (w.alloc (.cells #[.int .i64 0, .int .i64 0, .int .i64 4, .int .i64 0, .int .i64 4, .int .i64 4, .int .i64 2, .int .i64 2, .int .i64 0, .int .i64 4] 23)) (.slice (some ⟨w.heap.size, 0, none⟩) 5 5) rB := by
  refine Pts.sl (l := rB) (pts_new rfl _ _ _ fun i hi => ?_) (by decide) (by decide)
  have hi : i < 5 := hi
  obtain rfl | rfl | rfl | rfl | rfl : i = 0 ∨ i = 1 ∨ i = 2 ∨ i = 3 ∨ i = 4 := by omega
  all_goals exact ⟨rfl, rfl⟩
theorem rC_sl (w : World) : PtSl (w.alloc (.cells #[.int .i64 0, .int .i64 4, .int .i64 2, .int .i64 2, .int .i64 4, .int .i64 4] 23)) (.slice (some ⟨w.heap.size, 0, none⟩) 3 3) rC := by
  refine Pts.sl (l := rC) (pts_new rfl _ _ _ fun i hi => ?_) (by decide) (by decide)
  have hi : i < 3 := hi
  obtain rfl | rfl | rfl : i = 0 ∨ i = 1 ∨ i = 2 := by omega
  all_goals exact ⟨rfl, rfl⟩
theorem rD_sl (w : World) : PtSl (w.alloc (.cells #[.int .i64 0, .int .i64 4, .int .i64 4, .int .i64 4, .int .i64 4, .int .i64 0, .int .i64 0, .int .i64 0] 23)) (.slice (some ⟨w.heap.size, 0, none⟩) 4 4) rD := by
  refine Pts.sl (l := rD) (pts_new rfl _ _ _ fun i hi => ?_) (by decide) (by decide)
  have hi : i < 4 := hi
  obtain rfl | rfl | rfl | rfl : i = 0 ∨ i = 1 ∨ i = 2 ∨ i = 3 := by omega
  all_goals exact ⟨rfl, rfl⟩
theorem rE_sl (w : World) : PtSl (w.alloc (.cells #[.int .i64 0, .int .i64 0, .int .i64 2, .int .i64 0, .int .i64 4, .int .i64 0, .int .i64 4, .int .i64 4] 23)) (.slice (some ⟨w.heap.size, 0, none⟩) 4 4) rE := by
  refine Pts.sl (l := rE) (pts_new rfl _ _ _ fun i hi => ?_) (by decide) (by decide)
  have hi : i < 4 := hi
  obtain rfl | rfl | rfl | rfl : i = 0 ∨ i = 1 ∨ i = 2 ∨ i = 3 := by omega
  all_goals exact ⟨rfl, rfl⟩
theorem square_any (w : World) :
    Calls Try.prog 48 #[] w fun e w' => e = .returned (.slice (some ⟨w.heap.size, 0, none⟩) 4 4) ∧ w' = w.alloc (.cells #[.int .i64 0, .int .i64 0, .int .i64 4, .int .i64 0, .int .i64 4, .int .i64 4, .int .i64 0, .int .i64 4] 23) := by
  go_enter Try.func48, Try.ntmps48
  go_wp2_with fail
  go_ret
  exact ⟨rfl, rfl⟩

set_option maxRecDepth 100000 in
set_option maxHeartbeats 8000000 in
theorem head8_any (w : World) :
    Calls Try.prog 19 #[] w fun e w' => e = .returned (.bool true) ∧ Below w.heap.size w w' := by
  have HBX := Lib.hid (fun (v : Value) (w : World) (h : PtSl w v rB) => Box_any v rB  w h)
  rw [show lowP rB = (0, 0) by decide +kernel] at HBX
  rw [show highP rB = (4, 4) by decide +kernel] at HBX
  rw [show errB rB = 0 by decide +kernel] at HBX
  have HTA := Lib.hid (fun (v : Value) (w : World) (h : PtSl w v rA) => Twice_any v rA  w h)
  rw [show twiceV rA = 32 by decide +kernel] at HTA
  have HTB := Lib.hid (fun (v : Value) (w : World) (h : PtSl w v rB) => Twice_any v rB  w h)
  rw [show twiceV rB = 24 by decide +kernel] at HTB
  have HWA := Lib.hid (fun (v : Value) (w : World) (h : PtSl w v rA) => Where_any v rA 2 3 w h)
  rw [show whereV rA 2 3 = 1 by decide +kernel] at HWA
  have HWB := Lib.hid (fun (v : Value) (w : World) (h : PtSl w v rB) => Where_any v rB 2 3 w h)
  rw [show whereV rB 2 3 = -1 by decide +kernel] at HWB
  have HWC := Lib.hid (fun (v : Value) (w : World) (h : PtSl w v rB) => Where_any v rB 2 2 w h)
  rw [show whereV rB 2 2 = 0 by decide +kernel] at HWC
  have HWD := Lib.hid (fun (v : Value) (w : World) (h : PtSl w v rA) => Where_any v rA 5 5 w h)
  rw [show whereV rA 5 5 = -1 by decide +kernel] at HWD
  have HVD := Lib.hid (fun (v : Value) (w : World) (h : PtSl w v rD) => Valid_any v rD  w h)
  rw [show validB rD = false by decide +kernel] at HVD
  have HVE := Lib.hid (fun (v : Value) (w : World) (h : PtSl w v rE) => Valid_any v rE  w h)
  rw [show validB rE = false by decide +kernel] at HVE
  have HI1 := Lib.hid (fun (v u : Value) (w : World) (h : PtSl w v rB) (k : PtSl w u rA) => Within_any v u rB rA w h k)
  rw [show withinB rB rA = true by decide +kernel] at HI1
  have HI2 := Lib.hid (fun (v u : Value) (w : World) (h : PtSl w v rA) (k : PtSl w u rB) => Within_any v u rA rB w h k)
  rw [show withinB rA rB = false by decide +kernel] at HI2
  have HP1 := Lib.hid (fun (v u : Value) (w : World) (h : PtSl w v rB) (k : PtSl w u rC) => Apart_any v u rB rC w h k)
  rw [show apartR rB rC = true by decide +kernel] at HP1
  have HP2 := Lib.hid (fun (v u : Value) (w : World) (h : PtSl w v rA) (k : PtSl w u rC) => Apart_any v u rA rC w h k)
  rw [show apartR rA rC = false by decide +kernel] at HP2
  dsimp only at HBX
  go_enter Try.func19, Try.ntmps19
  go_wp2_with fail
  refine (square_any _).mono ?_
  rintro e w1 ⟨rfl, rfl⟩
  have a0 := rA_sl w
  have q0 := (Below.refl w.heap.size w).alloc (Nat.le_refl _) (.cells #[.int .i64 0, .int .i64 0, .int .i64 4, .int .i64 0, .int .i64 4, .int .i64 4, .int .i64 0, .int .i64 4] 23)
  generalize hW : w.alloc (.cells #[.int .i64 0, .int .i64 0, .int .i64 4, .int .i64 0, .int .i64 4, .int .i64 4, .int .i64 0, .int .i64 4] 23) = V at *
  have hsz : V.heap.size = w.heap.size + 1 := by rw [← hW]; simp
  clear hW
  have b0 := rB_sl V
  have c0 := rC_sl (V.alloc (.cells #[.int .i64 0, .int .i64 0, .int .i64 4, .int .i64 0, .int .i64 4, .int .i64 4, .int .i64 2, .int .i64 2, .int .i64 0, .int .i64 4] 23))
  have z1 := (Below.refl V.heap.size V).alloc (Nat.le_refl _) (.cells #[.int .i64 0, .int .i64 0, .int .i64 4, .int .i64 0, .int .i64 4, .int .i64 4, .int .i64 2, .int .i64 2, .int .i64 0, .int .i64 4] 23)
  have z2 := (Below.refl (V.alloc (.cells #[.int .i64 0, .int .i64 0, .int .i64 4, .int .i64 0, .int .i64 4, .int .i64 4, .int .i64 2, .int .i64 2, .int .i64 0, .int .i64 4] 23)).heap.size (V.alloc (.cells #[.int .i64 0, .int .i64 0, .int .i64 4, .int .i64 0, .int .i64 4, .int .i64 4, .int .i64 2, .int .i64 2, .int .i64 0, .int .i64 4] 23))).alloc (Nat.le_refl _) (.cells #[.int .i64 0, .int .i64 4, .int .i64 2, .int .i64 2, .int .i64 4, .int .i64 4] 23)
  have a1 := (a0.below z1).below z2
  have b1 := b0.below z2
  have c1 := c0
  have q1 := (q0.trans (z1.mono q0.size)).trans (z2.mono (q0.trans (z1.mono q0.size)).size)
  clear a0 b0 c0 q0 z1 z2
  simp only [World.size_alloc] at c1
  rw [hsz] at b1 c1
  go_wp2_with fail
  refine (HBX.out _ _ b1).mono ?_
  rintro e v2 ⟨rfl, x2⟩
  have a2 := a1.below x2
  clear a1
  have b2 := b1.below x2
  clear b1
  have c2 := c1.below x2
  clear c1
  have q2 := q1.trans (x2.mono q1.size)
  clear q1 x2
  have y1 := (Below.refl v2.heap.size v2).alloc (Nat.le_refl _) (.cells #[.int .i64 0, .int .i64 0] 23)
  have y2 := (Below.refl (v2.alloc (.cells #[.int .i64 0, .int .i64 0] 23)).heap.size (v2.alloc (.cells #[.int .i64 0, .int .i64 0] 23))).alloc (Nat.le_refl _) (.cells #[.int .i64 4, .int .i64 4] 23)
  have tl3 := (Two.new v2 23 (.int .i64 0) (.int .i64 0)).alloc (.cells #[.int .i64 4, .int .i64 4] 23)
  have th3 := Two.at (w := v2.alloc (.cells #[.int .i64 0, .int .i64 0] 23)) (B := v2.heap.size + 1) (by simp) 23 (.int .i64 4) (.int .i64 4)
  have a3 := (a2.below y1).below y2
  clear a2
  have b3 := (b2.below y1).below y2
  clear b2
  have c3 := (c2.below y1).below y2
  clear c2
  have q3 := (q2.trans (y1.mono q2.size)).trans (y2.mono (q2.trans (y1.mono q2.size)).size)
  clear q2 y1 y2
  obtain ⟨fl1, fl2, fl3, fl4⟩ := tl3.facts
  obtain ⟨fh1, fh2, fh3, fh4⟩ := th3.facts
  go_wp2_with fail
  clear fl1 fl2 fl3 fl4 fh1 fh2 fh3 fh4
  refine (HTA.out _ _ a3).mono ?_
  rintro e v4 ⟨rfl, x4⟩
  have a4 := a3.below x4
  clear a3
  have b4 := b3.below x4
  clear b3
  have c4 := c3.below x4
  clear c3
  have tl4 := tl3.below x4 tl3.lt
  clear tl3
  have th4 := th3.below x4 th3.lt
  clear th3
  have q4 := q3.trans (x4.mono q3.size)
  clear q3 x4
  obtain ⟨fl1, fl2, fl3, fl4⟩ := tl4.facts
  obtain ⟨fh1, fh2, fh3, fh4⟩ := th4.facts
  go_wp2_with fail
  clear fl1 fl2 fl3 fl4 fh1 fh2 fh3 fh4
  refine (HTB.out _ _ b4).mono ?_
  rintro e v5 ⟨rfl, x5⟩
  have a5 := a4.below x5
  clear a4
  have b5 := b4.below x5
  clear b4
  have c5 := c4.below x5
  clear c4
  have tl5 := tl4.below x5 tl4.lt
  clear tl4
  have th5 := th4.below x5 th4.lt
  clear th4
  have q5 := q4.trans (x5.mono q4.size)
  clear q4 x5
  obtain ⟨fl1, fl2, fl3, fl4⟩ := tl5.facts
  obtain ⟨fh1, fh2, fh3, fh4⟩ := th5.facts
  go_wp2_with fail
  clear fl1 fl2 fl3 fl4 fh1 fh2 fh3 fh4
  refine (HWA.out _ _ a5).mono ?_
  rintro e v6 ⟨rfl, x6⟩
  have a6 := a5.below x6
  clear a5
  have b6 := b5.below x6
  clear b5
  have c6 := c5.below x6
  clear c5
  have tl6 := tl5.below x6 tl5.lt
  clear tl5
  have th6 := th5.below x6 th5.lt
  clear th5
  have q6 := q5.trans (x6.mono q5.size)
  clear q5 x6
  obtain ⟨fl1, fl2, fl3, fl4⟩ := tl6.facts
  obtain ⟨fh1, fh2, fh3, fh4⟩ := th6.facts
  go_wp2_with fail
  clear fl1 fl2 fl3 fl4 fh1 fh2 fh3 fh4
  refine (HWB.out _ _ b6).mono ?_
  rintro e v7 ⟨rfl, x7⟩
  have a7 := a6.below x7
  clear a6
  have b7 := b6.below x7
  clear b6
  have c7 := c6.below x7
  clear c6
  have tl7 := tl6.below x7 tl6.lt
  clear tl6
  have th7 := th6.below x7 th6.lt
  clear th6
  have q7 := q6.trans (x7.mono q6.size)
  clear q6 x7
  obtain ⟨fl1, fl2, fl3, fl4⟩ := tl7.facts
  obtain ⟨fh1, fh2, fh3, fh4⟩ := th7.facts
  go_wp2_with fail
  clear fl1 fl2 fl3 fl4 fh1 fh2 fh3 fh4
  refine (HWC.out _ _ b7).mono ?_
  rintro e v8 ⟨rfl, x8⟩
  have a8 := a7.below x8
  clear a7
  have b8 := b7.below x8
  clear b7
  have c8 := c7.below x8
  clear c7
  have tl8 := tl7.below x8 tl7.lt
  clear tl7
  have th8 := th7.below x8 th7.lt
  clear th7
  have q8 := q7.trans (x8.mono q7.size)
  clear q7 x8
  obtain ⟨fl1, fl2, fl3, fl4⟩ := tl8.facts
  obtain ⟨fh1, fh2, fh3, fh4⟩ := th8.facts
  go_wp2_with fail
  clear fl1 fl2 fl3 fl4 fh1 fh2 fh3 fh4
  refine (HWD.out _ _ a8).mono ?_
  rintro e v9 ⟨rfl, x9⟩
  have a9 := a8.below x9
  clear a8
  have b9 := b8.below x9
  clear b8
  have c9 := c8.below x9
  clear c8
  have tl9 := tl8.below x9 tl8.lt
  clear tl8
  have th9 := th8.below x9 th8.lt
  clear th8
  have q9 := q8.trans (x9.mono q8.size)
  clear q8 x9
  obtain ⟨fl1, fl2, fl3, fl4⟩ := tl9.facts
  obtain ⟨fh1, fh2, fh3, fh4⟩ := th9.facts
  go_wp2_with fail
  clear fl1 fl2 fl3 fl4 fh1 fh2 fh3 fh4
  refine (HI1.out _ _ _ b9 a9).mono ?_
  rintro e v10 ⟨rfl, x10⟩
  have a10 := a9.below x10
  clear a9
  have b10 := b9.below x10
  clear b9
  have c10 := c9.below x10
  clear c9
  have tl10 := tl9.below x10 tl9.lt
  clear tl9
  have th10 := th9.below x10 th9.lt
  clear th9
  have q10 := q9.trans (x10.mono q9.size)
  clear q9 x10
  obtain ⟨fl1, fl2, fl3, fl4⟩ := tl10.facts
  obtain ⟨fh1, fh2, fh3, fh4⟩ := th10.facts
  go_wp2_with fail
  clear fl1 fl2 fl3 fl4 fh1 fh2 fh3 fh4
  refine (HI2.out _ _ _ a10 b10).mono ?_
  rintro e v11 ⟨rfl, x11⟩
  have a11 := a10.below x11
  clear a10
  have b11 := b10.below x11
  clear b10
  have c11 := c10.below x11
  clear c10
  have tl11 := tl10.below x11 tl10.lt
  clear tl10
  have th11 := th10.below x11 th10.lt
  clear th10
  have q11 := q10.trans (x11.mono q10.size)
  clear q10 x11
  obtain ⟨fl1, fl2, fl3, fl4⟩ := tl11.facts
  obtain ⟨fh1, fh2, fh3, fh4⟩ := th11.facts
  go_wp2_with fail
  clear fl1 fl2 fl3 fl4 fh1 fh2 fh3 fh4
  refine (HP1.out _ _ _ b11 c11).mono ?_
  rintro e v12 ⟨rfl, x12⟩
  have a12 := a11.below x12
  clear a11
  have b12 := b11.below x12
  clear b11
  have c12 := c11.below x12
  clear c11
  have tl12 := tl11.below x12 tl11.lt
  clear tl11
  have th12 := th11.below x12 th11.lt
  clear th11
  have q12 := q11.trans (x12.mono q11.size)
  clear q11 x12
  obtain ⟨fl1, fl2, fl3, fl4⟩ := tl12.facts
  obtain ⟨fh1, fh2, fh3, fh4⟩ := th12.facts
  go_wp2_with fail
  clear fl1 fl2 fl3 fl4 fh1 fh2 fh3 fh4
  refine (HP2.out _ _ _ a12 c12).mono ?_
  rintro e v13 ⟨rfl, x13⟩
  have a13 := a12.below x13
  clear a12
  have b13 := b12.below x13
  clear b12
  have c13 := c12.below x13
  clear c12
  have tl13 := tl12.below x13 tl12.lt
  clear tl12
  have th13 := th12.below x13 th12.lt
  clear th12
  have q13 := q12.trans (x13.mono q12.size)
  clear q12 x13
  obtain ⟨fl1, fl2, fl3, fl4⟩ := tl13.facts
  obtain ⟨fh1, fh2, fh3, fh4⟩ := th13.facts
  go_wp2_with fail
  clear fl1 fl2 fl3 fl4 fh1 fh2 fh3 fh4
  have d0 := rD_sl v13
  have y1 := (Below.refl v13.heap.size v13).alloc (Nat.le_refl _) (.cells #[.int .i64 0, .int .i64 4, .int .i64 4, .int .i64 4, .int .i64 4, .int .i64 0, .int .i64 0, .int .i64 0] 23)
  clear a13
  clear b13
  clear c13
  have tl14 := tl13.alloc (.cells #[.int .i64 0, .int .i64 4, .int .i64 4, .int .i64 4, .int .i64 4, .int .i64 0, .int .i64 0, .int .i64 0] 23)
  clear tl13
  have th14 := th13.alloc (.cells #[.int .i64 0, .int .i64 4, .int .i64 4, .int .i64 4, .int .i64 4, .int .i64 0, .int .i64 0, .int .i64 0] 23)
  clear th13
  have q14 := q13.trans (y1.mono q13.size)
  clear q13 y1
  refine (HVD.out _ _ d0).mono ?_
  rintro e v15 ⟨rfl, x15⟩
  have tl15 := tl14.below x15 tl14.lt
  clear tl14
  have th15 := th14.below x15 th14.lt
  clear th14
  have q15 := q14.trans (x15.mono q14.size)
  clear q14 x15
  clear d0
  obtain ⟨fl1, fl2, fl3, fl4⟩ := tl15.facts
  obtain ⟨fh1, fh2, fh3, fh4⟩ := th15.facts
  go_wp2_with fail
  clear fl1 fl2 fl3 fl4 fh1 fh2 fh3 fh4
  have d0 := rE_sl v15
  have y1 := (Below.refl v15.heap.size v15).alloc (Nat.le_refl _) (.cells #[.int .i64 0, .int .i64 0, .int .i64 2, .int .i64 0, .int .i64 4, .int .i64 0, .int .i64 4, .int .i64 4] 23)
  have tl16 := tl15.alloc (.cells #[.int .i64 0, .int .i64 0, .int .i64 2, .int .i64 0, .int .i64 4, .int .i64 0, .int .i64 4, .int .i64 4] 23)
  clear tl15
  have th16 := th15.alloc (.cells #[.int .i64 0, .int .i64 0, .int .i64 2, .int .i64 0, .int .i64 4, .int .i64 0, .int .i64 4, .int .i64 4] 23)
  clear th15
  have q16 := q15.trans (y1.mono q15.size)
  clear q15 y1
  refine (HVE.out _ _ d0).mono ?_
  rintro e v17 ⟨rfl, x17⟩
  have tl17 := tl16.below x17 tl16.lt
  clear tl16
  have th17 := th16.below x17 th16.lt
  clear th16
  have q17 := q16.trans (x17.mono q16.size)
  clear q16 x17
  clear d0
  obtain ⟨fl1, fl2, fl3, fl4⟩ := tl17.facts
  obtain ⟨fh1, fh2, fh3, fh4⟩ := th17.facts
  go_wp2_with fail
  go_ret
  exact ⟨rfl, q17⟩
end Go.Proofs.Ytohkmkkcblbemaa.Ge
