/- Layer 7's reference: On, Area, sign, Turn, Dist. -/
import Derived.Test.YtbkeennjoepmmaaGeoLaw
import Derived.Test.YtbkeennjoepmmaaGeoW9
namespace Go.Proofs.Ytbkeennjoepmmaa.Ge
set_option linter.unusedVariables false
set_option linter.unusedSimpArgs false
open Go.RowKit
open Go.Proofs.Ytbkeennjoepmmaa.Fr (Two)

theorem r_on_yes (x y : Int) (h : onP x y) (w : World) :
    Calls Try.prog 15 #[.agg #[.int .i64 x, .int .i64 y]] w fun e w' => e = .returned (.bool true) ∧ Below w.heap.size w w' := by
  obtain ⟨⟨h1, h2⟩, h3, h4⟩ := h
  go_enter Try.func15, Try.ntmps15
  go_wp2_with fail
  go_ret
  exact ⟨rfl, (Below.refl _ _).alloc (Nat.le_refl _) _⟩
theorem r_on_no (x y : Int) (h : ¬ onP x y) (w : World) :
    Calls Try.prog 15 #[.agg #[.int .i64 x, .int .i64 y]] w fun e w' => e = .returned (.bool false) ∧ Below w.heap.size w w' := by
  unfold onP at h
  by_cases h1 : 0 ≤ x
  · by_cases h2 : x ≤ 32767
    · by_cases h3 : 0 ≤ y
      · have h4 : decide (y ≤ 32767) = false := by simp; omega
        clear h
        go_enter Try.func15, Try.ntmps15
        go_wp2_with fail
        go_ret
        exact ⟨rfl, (Below.refl _ _).alloc (Nat.le_refl _) _⟩
      · have h4 : decide (0 ≤ y) = false := by simpa using h3
        clear h
        go_enter Try.func15, Try.ntmps15
        go_wp2_with fail
        go_ret
        exact ⟨rfl, (Below.refl _ _).alloc (Nat.le_refl _) _⟩
    · have h4 : decide (x ≤ 32767) = false := by simpa using h2
      clear h
      go_enter Try.func15, Try.ntmps15
      go_wp2_with fail
      go_ret
      exact ⟨rfl, (Below.refl _ _).alloc (Nat.le_refl _) _⟩
  · have h4 : decide (0 ≤ x) = false := by simpa using h1
    clear h
    go_enter Try.func15, Try.ntmps15
    go_wp2_with fail
    go_ret
    exact ⟨rfl, (Below.refl _ _).alloc (Nat.le_refl _) _⟩
theorem r_on_any (x y : Int) (w : World) :
    Calls Try.prog 15 #[.agg #[.int .i64 x, .int .i64 y]] w fun e w' => e = .returned (.bool (decide (onP x y))) ∧ Below w.heap.size w w' := by
  by_cases h : onP x y
  · rw [decide_eq_true h]; exact r_on_yes x y h w
  · rw [decide_eq_false h]; exact r_on_no x y h w

theorem r_area_any (ax ay bx bz cx cy : Int) (ha : onP ax ay) (hb : onP bx bz) (hc : onP cx cy) (w : World) :
    Calls Try.prog 34 #[.agg #[.int .i64 ax, .int .i64 ay], .agg #[.int .i64 bx, .int .i64 bz], .agg #[.int .i64 cx, .int .i64 cy]] w fun e w' => e = .returned (.int .i64 (areaN ax ay bx bz cx cy)) ∧ Below w.heap.size w w' := by
  obtain ⟨⟨a1, a2⟩, a3, a4⟩ := ha
  obtain ⟨⟨b1, b2⟩, b3, b4⟩ := hb
  obtain ⟨⟨c1, c2⟩, c3, c4⟩ := hc
  have h1 := p_bd (d_bd a1 a2 b1 b2) (d_bd a3 a4 c3 c4)
  have h2 := p_bd (d_bd a3 a4 b3 b4) (d_bd a1 a2 c1 c2)
  go_enter Try.func34, Try.ntmps34
  go_wp2_with fail
  go_ret
  exact ⟨rfl, (((Below.refl _ _).alloc (Nat.le_refl _) _).alloc (by simp) _).alloc (by simp; omega) _⟩
theorem r_sign_any (n : Int) (w : World) :
    Calls Try.prog 36 #[.int .i64 n] w fun e w' => e = .returned (.int .i64 (sgnI n)) ∧ w = w' := by
  unfold sgnI
  by_cases h1 : n < 0
  · rw [if_pos h1]
    have h2 : decide (0 < n) = false := by simp; omega
    go_enter Try.func36, Try.ntmps36
    go_wp2_with fail
    go_ret
    exact ⟨rfl, rfl⟩
  · rw [if_neg h1]
    have h2 : decide (n < 0) = false := by simpa using h1
    by_cases h3 : 0 < n
    · rw [if_pos h3]
      clear h1
      go_enter Try.func36, Try.ntmps36
      go_wp2_with fail
      go_ret
      exact ⟨rfl, rfl⟩
    · rw [if_neg h3]
      have h4 : decide (0 < n) = false := by simpa using h3
      clear h1 h3
      go_enter Try.func36, Try.ntmps36
      go_wp2_with fail
      go_ret
      exact ⟨rfl, rfl⟩
set_option maxRecDepth 100000 in
set_option maxHeartbeats 4000000 in
theorem r_turn_any (ax ay bx bz cx cy : Int) (w : World) :
    Calls Try.prog 17 #[.agg #[.int .i64 ax, .int .i64 ay], .agg #[.int .i64 bx, .int .i64 bz], .agg #[.int .i64 cx, .int .i64 cy]] w fun e w' => e = .returned (.int .i64 (turnV ax ay bx bz cx cy)) ∧ Below w.heap.size w w' := by
  by_cases h1 : onP ax ay
  · have HO1 := Lib.hid (fun w => r_on_yes ax ay h1 w)
    by_cases h2 : onP bx bz
    · have HO2 := Lib.hid (fun w => r_on_yes bx bz h2 w)
      by_cases h3 : onP cx cy
      · have HO3 := Lib.hid (fun w => r_on_yes cx cy h3 w)
        rw [turn_on h1 h2 h3]
        have HA := Lib.hid (fun w => r_area_any ax ay bx bz cx cy h1 h2 h3 w)
        have b0_0 := Two.at (w := w) (B := w.heap.size) (by simp) 23 (.int .i64 ax) (.int .i64 ay)
        have b1_1 := Two.at (w := (w.alloc (.cells #[.int .i64 ax, .int .i64 ay] 23))) (B := w.heap.size + 1) (by simp) 23 (.int .i64 bx) (.int .i64 bz)
        have b0_1 := b0_0.alloc (.cells #[.int .i64 bx, .int .i64 bz] 23)
        have b2_2 := Two.at (w := ((w.alloc (.cells #[.int .i64 ax, .int .i64 ay] 23)).alloc (.cells #[.int .i64 bx, .int .i64 bz] 23))) (B := w.heap.size + 1 + 1) (by simp) 23 (.int .i64 cx) (.int .i64 cy)
        have b0_2 := b0_1.alloc (.cells #[.int .i64 cx, .int .i64 cy] 23)
        have b1_2 := b1_1.alloc (.cells #[.int .i64 cx, .int .i64 cy] 23)
        have hb0 : Below w.heap.size w _ := ((((Below.refl w.heap.size w).alloc (by simp <;> omega) (.cells #[.int .i64 ax, .int .i64 ay] 23)).alloc (by simp <;> omega) (.cells #[.int .i64 bx, .int .i64 bz] 23)).alloc (by simp <;> omega) (.cells #[.int .i64 cx, .int .i64 cy] 23))
        go_enter Try.func17, Try.ntmps17
        obtain ⟨f1_0, f1_1, f1_2, f1_3⟩ := b0_2.facts
        obtain ⟨f2_0, f2_1, f2_2, f2_3⟩ := b1_2.facts
        obtain ⟨f3_0, f3_1, f3_2, f3_3⟩ := b2_2.facts
        go_wp2_with fail
        refine (HO1.out _).mono ?_
        rintro r v1 ⟨rfl, hx1⟩
        clear f1_0 f1_1 f1_2 f1_3 f2_0 f2_1 f2_2 f2_3 f3_0 f3_1 f3_2 f3_3
        have t1_1 := b0_2.below hx1 b0_2.lt
        clear b0_2
        have t2_1 := b1_2.below hx1 b1_2.lt
        clear b1_2
        have t3_1 := b2_2.below hx1 b2_2.lt
        clear b2_2
        have hb1 := hb0.trans (hx1.mono hb0.size)
        clear hb0 hx1
        obtain ⟨f1_0, f1_1, f1_2, f1_3⟩ := t1_1.facts
        obtain ⟨f2_0, f2_1, f2_2, f2_3⟩ := t2_1.facts
        obtain ⟨f3_0, f3_1, f3_2, f3_3⟩ := t3_1.facts
        go_wp2_with fail
        refine (HO2.out _).mono ?_
        rintro r v2 ⟨rfl, hx2⟩
        clear f1_0 f1_1 f1_2 f1_3 f2_0 f2_1 f2_2 f2_3 f3_0 f3_1 f3_2 f3_3
        have t1_2 := t1_1.below hx2 t1_1.lt
        clear t1_1
        have t2_2 := t2_1.below hx2 t2_1.lt
        clear t2_1
        have t3_2 := t3_1.below hx2 t3_1.lt
        clear t3_1
        have hb2 := hb1.trans (hx2.mono hb1.size)
        clear hb1 hx2
        obtain ⟨f1_0, f1_1, f1_2, f1_3⟩ := t1_2.facts
        obtain ⟨f2_0, f2_1, f2_2, f2_3⟩ := t2_2.facts
        obtain ⟨f3_0, f3_1, f3_2, f3_3⟩ := t3_2.facts
        go_wp2_with fail
        refine (HO3.out _).mono ?_
        rintro r v3 ⟨rfl, hx3⟩
        clear f1_0 f1_1 f1_2 f1_3 f2_0 f2_1 f2_2 f2_3 f3_0 f3_1 f3_2 f3_3
        have t1_3 := t1_2.below hx3 t1_2.lt
        clear t1_2
        have t2_3 := t2_2.below hx3 t2_2.lt
        clear t2_2
        have t3_3 := t3_2.below hx3 t3_2.lt
        clear t3_2
        have hb3 := hb2.trans (hx3.mono hb2.size)
        clear hb2 hx3
        obtain ⟨f1_0, f1_1, f1_2, f1_3⟩ := t1_3.facts
        obtain ⟨f2_0, f2_1, f2_2, f2_3⟩ := t2_3.facts
        obtain ⟨f3_0, f3_1, f3_2, f3_3⟩ := t3_3.facts
        go_wp2_with fail
        refine (HA.out _).mono ?_
        rintro r v4 ⟨rfl, hx4⟩
        clear f1_0 f1_1 f1_2 f1_3 f2_0 f2_1 f2_2 f2_3 f3_0 f3_1 f3_2 f3_3
        have t1_4 := t1_3.below hx4 t1_3.lt
        clear t1_3
        have t2_4 := t2_3.below hx4 t2_3.lt
        clear t2_3
        have t3_4 := t3_3.below hx4 t3_3.lt
        clear t3_3
        have hb4 := hb3.trans (hx4.mono hb3.size)
        clear hb3 hx4
        go_wp2_with fail
        refine (r_sign_any _ _).mono ?_
        rintro r w' ⟨rfl, rfl⟩
        go_wp2_with fail
        go_ret
        exact ⟨rfl, hb4⟩
      · have HO3 := Lib.hid (fun w => r_on_no cx cy h3 w)
        rw [show turnV ax ay bx bz cx cy = 0 from if_neg (fun k => h3 k.2.2)]
        have b0_0 := Two.at (w := w) (B := w.heap.size) (by simp) 23 (.int .i64 ax) (.int .i64 ay)
        have b1_1 := Two.at (w := (w.alloc (.cells #[.int .i64 ax, .int .i64 ay] 23))) (B := w.heap.size + 1) (by simp) 23 (.int .i64 bx) (.int .i64 bz)
        have b0_1 := b0_0.alloc (.cells #[.int .i64 bx, .int .i64 bz] 23)
        have b2_2 := Two.at (w := ((w.alloc (.cells #[.int .i64 ax, .int .i64 ay] 23)).alloc (.cells #[.int .i64 bx, .int .i64 bz] 23))) (B := w.heap.size + 1 + 1) (by simp) 23 (.int .i64 cx) (.int .i64 cy)
        have b0_2 := b0_1.alloc (.cells #[.int .i64 cx, .int .i64 cy] 23)
        have b1_2 := b1_1.alloc (.cells #[.int .i64 cx, .int .i64 cy] 23)
        have hb0 : Below w.heap.size w _ := ((((Below.refl w.heap.size w).alloc (by simp <;> omega) (.cells #[.int .i64 ax, .int .i64 ay] 23)).alloc (by simp <;> omega) (.cells #[.int .i64 bx, .int .i64 bz] 23)).alloc (by simp <;> omega) (.cells #[.int .i64 cx, .int .i64 cy] 23))
        go_enter Try.func17, Try.ntmps17
        obtain ⟨f1_0, f1_1, f1_2, f1_3⟩ := b0_2.facts
        obtain ⟨f2_0, f2_1, f2_2, f2_3⟩ := b1_2.facts
        obtain ⟨f3_0, f3_1, f3_2, f3_3⟩ := b2_2.facts
        go_wp2_with fail
        refine (HO1.out _).mono ?_
        rintro r v5 ⟨rfl, hx5⟩
        clear f1_0 f1_1 f1_2 f1_3 f2_0 f2_1 f2_2 f2_3 f3_0 f3_1 f3_2 f3_3
        have t1_5 := b0_2.below hx5 b0_2.lt
        clear b0_2
        have t2_5 := b1_2.below hx5 b1_2.lt
        clear b1_2
        have t3_5 := b2_2.below hx5 b2_2.lt
        clear b2_2
        have hb5 := hb0.trans (hx5.mono hb0.size)
        clear hb0 hx5
        obtain ⟨f1_0, f1_1, f1_2, f1_3⟩ := t1_5.facts
        obtain ⟨f2_0, f2_1, f2_2, f2_3⟩ := t2_5.facts
        obtain ⟨f3_0, f3_1, f3_2, f3_3⟩ := t3_5.facts
        go_wp2_with fail
        refine (HO2.out _).mono ?_
        rintro r v6 ⟨rfl, hx6⟩
        clear f1_0 f1_1 f1_2 f1_3 f2_0 f2_1 f2_2 f2_3 f3_0 f3_1 f3_2 f3_3
        have t1_6 := t1_5.below hx6 t1_5.lt
        clear t1_5
        have t2_6 := t2_5.below hx6 t2_5.lt
        clear t2_5
        have t3_6 := t3_5.below hx6 t3_5.lt
        clear t3_5
        have hb6 := hb5.trans (hx6.mono hb5.size)
        clear hb5 hx6
        obtain ⟨f1_0, f1_1, f1_2, f1_3⟩ := t1_6.facts
        obtain ⟨f2_0, f2_1, f2_2, f2_3⟩ := t2_6.facts
        obtain ⟨f3_0, f3_1, f3_2, f3_3⟩ := t3_6.facts
        go_wp2_with fail
        refine (HO3.out _).mono ?_
        rintro r v7 ⟨rfl, hx7⟩
        clear f1_0 f1_1 f1_2 f1_3 f2_0 f2_1 f2_2 f2_3 f3_0 f3_1 f3_2 f3_3
        have t1_7 := t1_6.below hx7 t1_6.lt
        clear t1_6
        have t2_7 := t2_6.below hx7 t2_6.lt
        clear t2_6
        have t3_7 := t3_6.below hx7 t3_6.lt
        clear t3_6
        have hb7 := hb6.trans (hx7.mono hb6.size)
        clear hb6 hx7
        go_wp2_with fail
        go_ret
        exact ⟨rfl, hb7⟩
    · have HO2 := Lib.hid (fun w => r_on_no bx bz h2 w)
      rw [show turnV ax ay bx bz cx cy = 0 from if_neg (fun k => h2 k.2.1)]
      have b0_0 := Two.at (w := w) (B := w.heap.size) (by simp) 23 (.int .i64 ax) (.int .i64 ay)
      have b1_1 := Two.at (w := (w.alloc (.cells #[.int .i64 ax, .int .i64 ay] 23))) (B := w.heap.size + 1) (by simp) 23 (.int .i64 bx) (.int .i64 bz)
      have b0_1 := b0_0.alloc (.cells #[.int .i64 bx, .int .i64 bz] 23)
      have b2_2 := Two.at (w := ((w.alloc (.cells #[.int .i64 ax, .int .i64 ay] 23)).alloc (.cells #[.int .i64 bx, .int .i64 bz] 23))) (B := w.heap.size + 1 + 1) (by simp) 23 (.int .i64 cx) (.int .i64 cy)
      have b0_2 := b0_1.alloc (.cells #[.int .i64 cx, .int .i64 cy] 23)
      have b1_2 := b1_1.alloc (.cells #[.int .i64 cx, .int .i64 cy] 23)
      have hb0 : Below w.heap.size w _ := ((((Below.refl w.heap.size w).alloc (by simp <;> omega) (.cells #[.int .i64 ax, .int .i64 ay] 23)).alloc (by simp <;> omega) (.cells #[.int .i64 bx, .int .i64 bz] 23)).alloc (by simp <;> omega) (.cells #[.int .i64 cx, .int .i64 cy] 23))
      go_enter Try.func17, Try.ntmps17
      obtain ⟨f1_0, f1_1, f1_2, f1_3⟩ := b0_2.facts
      obtain ⟨f2_0, f2_1, f2_2, f2_3⟩ := b1_2.facts
      obtain ⟨f3_0, f3_1, f3_2, f3_3⟩ := b2_2.facts
      go_wp2_with fail
      refine (HO1.out _).mono ?_
      rintro r v8 ⟨rfl, hx8⟩
      clear f1_0 f1_1 f1_2 f1_3 f2_0 f2_1 f2_2 f2_3 f3_0 f3_1 f3_2 f3_3
      have t1_8 := b0_2.below hx8 b0_2.lt
      clear b0_2
      have t2_8 := b1_2.below hx8 b1_2.lt
      clear b1_2
      have t3_8 := b2_2.below hx8 b2_2.lt
      clear b2_2
      have hb8 := hb0.trans (hx8.mono hb0.size)
      clear hb0 hx8
      obtain ⟨f1_0, f1_1, f1_2, f1_3⟩ := t1_8.facts
      obtain ⟨f2_0, f2_1, f2_2, f2_3⟩ := t2_8.facts
      obtain ⟨f3_0, f3_1, f3_2, f3_3⟩ := t3_8.facts
      go_wp2_with fail
      refine (HO2.out _).mono ?_
      rintro r v9 ⟨rfl, hx9⟩
      clear f1_0 f1_1 f1_2 f1_3 f2_0 f2_1 f2_2 f2_3 f3_0 f3_1 f3_2 f3_3
      have t1_9 := t1_8.below hx9 t1_8.lt
      clear t1_8
      have t2_9 := t2_8.below hx9 t2_8.lt
      clear t2_8
      have t3_9 := t3_8.below hx9 t3_8.lt
      clear t3_8
      have hb9 := hb8.trans (hx9.mono hb8.size)
      clear hb8 hx9
      go_wp2_with fail
      go_ret
      exact ⟨rfl, hb9⟩
  · have HO1 := Lib.hid (fun w => r_on_no ax ay h1 w)
    rw [show turnV ax ay bx bz cx cy = 0 from if_neg (fun k => h1 k.1)]
    have b0_0 := Two.at (w := w) (B := w.heap.size) (by simp) 23 (.int .i64 ax) (.int .i64 ay)
    have b1_1 := Two.at (w := (w.alloc (.cells #[.int .i64 ax, .int .i64 ay] 23))) (B := w.heap.size + 1) (by simp) 23 (.int .i64 bx) (.int .i64 bz)
    have b0_1 := b0_0.alloc (.cells #[.int .i64 bx, .int .i64 bz] 23)
    have b2_2 := Two.at (w := ((w.alloc (.cells #[.int .i64 ax, .int .i64 ay] 23)).alloc (.cells #[.int .i64 bx, .int .i64 bz] 23))) (B := w.heap.size + 1 + 1) (by simp) 23 (.int .i64 cx) (.int .i64 cy)
    have b0_2 := b0_1.alloc (.cells #[.int .i64 cx, .int .i64 cy] 23)
    have b1_2 := b1_1.alloc (.cells #[.int .i64 cx, .int .i64 cy] 23)
    have hb0 : Below w.heap.size w _ := ((((Below.refl w.heap.size w).alloc (by simp <;> omega) (.cells #[.int .i64 ax, .int .i64 ay] 23)).alloc (by simp <;> omega) (.cells #[.int .i64 bx, .int .i64 bz] 23)).alloc (by simp <;> omega) (.cells #[.int .i64 cx, .int .i64 cy] 23))
    go_enter Try.func17, Try.ntmps17
    obtain ⟨f1_0, f1_1, f1_2, f1_3⟩ := b0_2.facts
    obtain ⟨f2_0, f2_1, f2_2, f2_3⟩ := b1_2.facts
    obtain ⟨f3_0, f3_1, f3_2, f3_3⟩ := b2_2.facts
    go_wp2_with fail
    refine (HO1.out _).mono ?_
    rintro r v10 ⟨rfl, hx10⟩
    clear f1_0 f1_1 f1_2 f1_3 f2_0 f2_1 f2_2 f2_3 f3_0 f3_1 f3_2 f3_3
    have t1_10 := b0_2.below hx10 b0_2.lt
    clear b0_2
    have t2_10 := b1_2.below hx10 b1_2.lt
    clear b1_2
    have t3_10 := b2_2.below hx10 b2_2.lt
    clear b2_2
    have hb10 := hb0.trans (hx10.mono hb0.size)
    clear hb0 hx10
    go_wp2_with fail
    go_ret
    exact ⟨rfl, hb10⟩
theorem dist_ref (ax ay bx bz : Int) : (ax - bx) * (ax - bx) + (ay - bz) * (ay - bz) = distN ax ay bx bz := by unfold distN alongN; grind
set_option maxRecDepth 100000 in
set_option maxHeartbeats 4000000 in
theorem r_dist_any (ax ay bx bz : Int) (w : World) :
    Calls Try.prog 19 #[.agg #[.int .i64 ax, .int .i64 ay], .agg #[.int .i64 bx, .int .i64 bz]] w fun e w' => e = .returned (.int .i64 (distV ax ay bx bz)) ∧ Below w.heap.size w w' := by
  by_cases h1 : onP ax ay
  · have HO1 := Lib.hid (fun w => r_on_yes ax ay h1 w)
    by_cases h2 : onP bx bz
    · have HO2 := Lib.hid (fun w => r_on_yes bx bz h2 w)
      rw [dist_on h1 h2, ← dist_ref]
      have m1 := p_bd (d_bd h2.1.1 h2.1.2 h1.1.1 h1.1.2) (d_bd h2.1.1 h2.1.2 h1.1.1 h1.1.2)
      have m2 := p_bd (d_bd h2.2.1 h2.2.2 h1.2.1 h1.2.2) (d_bd h2.2.1 h2.2.2 h1.2.1 h1.2.2)
      obtain ⟨⟨a1, a2⟩, a3, a4⟩ := h1
      obtain ⟨⟨b1, b2⟩, b3, b4⟩ := h2
      have b0_0 := Two.at (w := w) (B := w.heap.size) (by simp) 23 (.int .i64 ax) (.int .i64 ay)
      have b1_1 := Two.at (w := (w.alloc (.cells #[.int .i64 ax, .int .i64 ay] 23))) (B := w.heap.size + 1) (by simp) 23 (.int .i64 bx) (.int .i64 bz)
      have b0_1 := b0_0.alloc (.cells #[.int .i64 bx, .int .i64 bz] 23)
      have hb0 : Below w.heap.size w _ := (((Below.refl w.heap.size w).alloc (by simp <;> omega) (.cells #[.int .i64 ax, .int .i64 ay] 23)).alloc (by simp <;> omega) (.cells #[.int .i64 bx, .int .i64 bz] 23))
      go_enter Try.func19, Try.ntmps19
      obtain ⟨f1_0, f1_1, f1_2, f1_3⟩ := b0_1.facts
      obtain ⟨f2_0, f2_1, f2_2, f2_3⟩ := b1_1.facts
      go_wp2_with fail
      refine (HO1.out _).mono ?_
      rintro r v11 ⟨rfl, hx11⟩
      clear f1_0 f1_1 f1_2 f1_3 f2_0 f2_1 f2_2 f2_3
      have t1_11 := b0_1.below hx11 b0_1.lt
      clear b0_1
      have t2_11 := b1_1.below hx11 b1_1.lt
      clear b1_1
      have hb11 := hb0.trans (hx11.mono hb0.size)
      clear hb0 hx11
      obtain ⟨f1_0, f1_1, f1_2, f1_3⟩ := t1_11.facts
      obtain ⟨f2_0, f2_1, f2_2, f2_3⟩ := t2_11.facts
      go_wp2_with fail
      refine (HO2.out _).mono ?_
      rintro r v12 ⟨rfl, hx12⟩
      clear f1_0 f1_1 f1_2 f1_3 f2_0 f2_1 f2_2 f2_3
      have t1_12 := t1_11.below hx12 t1_11.lt
      clear t1_11
      have t2_12 := t2_11.below hx12 t2_11.lt
      clear t2_11
      have hb12 := hb11.trans (hx12.mono hb11.size)
      clear hb11 hx12
      obtain ⟨f1_0, f1_1, f1_2, f1_3⟩ := t1_12.facts
      obtain ⟨f2_0, f2_1, f2_2, f2_3⟩ := t2_12.facts
      go_wp2_with fail
      go_ret
      exact ⟨rfl, hb12⟩
    · have HO2 := Lib.hid (fun w => r_on_no bx bz h2 w)
      rw [show distV ax ay bx bz = 0 from if_neg (fun k => h2 k.2)]
      have b0_0 := Two.at (w := w) (B := w.heap.size) (by simp) 23 (.int .i64 ax) (.int .i64 ay)
      have b1_1 := Two.at (w := (w.alloc (.cells #[.int .i64 ax, .int .i64 ay] 23))) (B := w.heap.size + 1) (by simp) 23 (.int .i64 bx) (.int .i64 bz)
      have b0_1 := b0_0.alloc (.cells #[.int .i64 bx, .int .i64 bz] 23)
      have hb0 : Below w.heap.size w _ := (((Below.refl w.heap.size w).alloc (by simp <;> omega) (.cells #[.int .i64 ax, .int .i64 ay] 23)).alloc (by simp <;> omega) (.cells #[.int .i64 bx, .int .i64 bz] 23))
      go_enter Try.func19, Try.ntmps19
      obtain ⟨f1_0, f1_1, f1_2, f1_3⟩ := b0_1.facts
      obtain ⟨f2_0, f2_1, f2_2, f2_3⟩ := b1_1.facts
      go_wp2_with fail
      refine (HO1.out _).mono ?_
      rintro r v13 ⟨rfl, hx13⟩
      clear f1_0 f1_1 f1_2 f1_3 f2_0 f2_1 f2_2 f2_3
      have t1_13 := b0_1.below hx13 b0_1.lt
      clear b0_1
      have t2_13 := b1_1.below hx13 b1_1.lt
      clear b1_1
      have hb13 := hb0.trans (hx13.mono hb0.size)
      clear hb0 hx13
      obtain ⟨f1_0, f1_1, f1_2, f1_3⟩ := t1_13.facts
      obtain ⟨f2_0, f2_1, f2_2, f2_3⟩ := t2_13.facts
      go_wp2_with fail
      refine (HO2.out _).mono ?_
      rintro r v14 ⟨rfl, hx14⟩
      clear f1_0 f1_1 f1_2 f1_3 f2_0 f2_1 f2_2 f2_3
      have t1_14 := t1_13.below hx14 t1_13.lt
      clear t1_13
      have t2_14 := t2_13.below hx14 t2_13.lt
      clear t2_13
      have hb14 := hb13.trans (hx14.mono hb13.size)
      clear hb13 hx14
      go_wp2_with fail
      go_ret
      exact ⟨rfl, hb14⟩
  · have HO1 := Lib.hid (fun w => r_on_no ax ay h1 w)
    rw [show distV ax ay bx bz = 0 from if_neg (fun k => h1 k.1)]
    have b0_0 := Two.at (w := w) (B := w.heap.size) (by simp) 23 (.int .i64 ax) (.int .i64 ay)
    have b1_1 := Two.at (w := (w.alloc (.cells #[.int .i64 ax, .int .i64 ay] 23))) (B := w.heap.size + 1) (by simp) 23 (.int .i64 bx) (.int .i64 bz)
    have b0_1 := b0_0.alloc (.cells #[.int .i64 bx, .int .i64 bz] 23)
    have hb0 : Below w.heap.size w _ := (((Below.refl w.heap.size w).alloc (by simp <;> omega) (.cells #[.int .i64 ax, .int .i64 ay] 23)).alloc (by simp <;> omega) (.cells #[.int .i64 bx, .int .i64 bz] 23))
    go_enter Try.func19, Try.ntmps19
    obtain ⟨f1_0, f1_1, f1_2, f1_3⟩ := b0_1.facts
    obtain ⟨f2_0, f2_1, f2_2, f2_3⟩ := b1_1.facts
    go_wp2_with fail
    refine (HO1.out _).mono ?_
    rintro r v15 ⟨rfl, hx15⟩
    clear f1_0 f1_1 f1_2 f1_3 f2_0 f2_1 f2_2 f2_3
    have t1_15 := b0_1.below hx15 b0_1.lt
    clear b0_1
    have t2_15 := b1_1.below hx15 b1_1.lt
    clear b1_1
    have hb15 := hb0.trans (hx15.mono hb0.size)
    clear hb0 hx15
    go_wp2_with fail
    go_ret
    exact ⟨rfl, hb15⟩
end Go.Proofs.Ytbkeennjoepmmaa.Ge
