/- Walks over layer 6's reference: end, until, Proper, Covers, Common. Written by wip/tools/datr4.py. -/
import Derived.Test.YtdbffhcckmmgfaaDoorDatR1
import Derived.Test.YtdbffhcckmmgfaaDoorDatW5
namespace Go.Proofs.YtdbffhcckmmgfaaDoor.Dt
set_option linter.unusedVariables false
set_option linter.unusedSimpArgs false
open Go.RowKit

theorem rend_any (f u : Int) (w : World) :
    Calls Tryd.prog 49 #[.agg #[.int .i64 f, .int .i64 u]] w fun e w' => e = .returned (.int .i64 (endP (f, u))) ∧ Below w.heap.size w w' := by
  unfold endP
  by_cases h : u = -1
  · subst h
    go_enter Tryd.func49, Tryd.ntmps49
    go_wp2_with fail
    go_ret
    exact ⟨rfl, (Below.refl _ _).alloc (Nat.le_refl _) _⟩
  · rw [if_neg h]
    have h1 : (u == -1) = false := by simpa using h
    clear h
    go_enter Tryd.func49, Tryd.ntmps49
    go_wp2_with fail
    go_ret
    exact ⟨rfl, (Below.refl _ _).alloc (Nat.le_refl _) _⟩
theorem rproper_yes (f u : Int) (h : propP (f, u)) (w : World) :
    Calls Tryd.prog 30 #[.agg #[.int .i64 f, .int .i64 u]] w fun r w' => r = .returned (.bool true) ∧ Below w.heap.size w w' := by
  obtain ⟨⟨h0, h1⟩, h2⟩ := h
  simp only at h0 h1 h2
  rcases h2 with rfl | ⟨⟨h3, h4⟩, h5⟩
  · go_enter Tryd.func30, Tryd.ntmps30
    go_wp2_with (go_at_call 40; refine (rIs_yes _ (by assumption) (by assumption) _).mono ?_; rintro r w' ⟨rfl, rfl⟩)
    go_ret
    exact ⟨rfl, (Below.refl _ _).alloc (Nat.le_refl _) _⟩
  · have k1 : (u == -1) = false := by simp; omega
    go_enter Tryd.func30, Tryd.ntmps30
    go_wp2_with (go_at_call 40; refine (rIs_yes _ (by assumption) (by assumption) _).mono ?_; rintro r w' ⟨rfl, rfl⟩)
    go_ret
    exact ⟨rfl, (Below.refl _ _).alloc (Nat.le_refl _) _⟩
theorem rproper_no (f u : Int) (h : ¬ propP (f, u)) (w : World) :
    Calls Tryd.prog 30 #[.agg #[.int .i64 f, .int .i64 u]] w fun r w' => r = .returned (.bool false) ∧ Below w.heap.size w w' := by
  unfold propP at h
  simp only at h
  by_cases hf : 0 ≤ f ∧ f ≤ 100000
  · obtain ⟨f0, f1⟩ := hf
    have k1 : (u == -1) = false := by simp; omega
    by_cases hu : 0 ≤ u ∧ u ≤ 100000
    · have hle : decide (f < u) = false := by simp; omega
      obtain ⟨u0, u1⟩ := hu
      clear h
      go_enter Tryd.func30, Tryd.ntmps30
      go_wp2_with (go_at_call 40; refine (rIs_yes _ (by assumption) (by assumption) _).mono ?_; rintro r w' ⟨rfl, rfl⟩)
      go_ret
      exact ⟨rfl, (Below.refl _ _).alloc (Nat.le_refl _) _⟩
    · have HN := Lib.hid (fun w => rIs_no u hu w)
      clear h hu
      go_enter Tryd.func30, Tryd.ntmps30
      go_wp2_with fail
      refine (rIs_yes _ f0 f1 _).mono ?_
      rintro r w' ⟨rfl, rfl⟩
      go_wp2_with fail
      refine (HN.out _).mono ?_
      rintro r w' ⟨rfl, rfl⟩
      go_wp2_with fail
      go_ret
      exact ⟨rfl, (Below.refl _ _).alloc (Nat.le_refl _) _⟩
  · have HN := Lib.hid (fun w => rIs_no f hf w)
    clear h hf
    go_enter Tryd.func30, Tryd.ntmps30
    go_wp2_with fail
    refine (HN.out _).mono ?_
    rintro r w' ⟨rfl, rfl⟩
    go_wp2_with fail
    go_ret
    exact ⟨rfl, (Below.refl _ _).alloc (Nat.le_refl _) _⟩

theorem runtil_any (e : Int) (w : World) :
    Calls Tryd.prog 50 #[.int .i64 e] w fun r w' => r = .returned (.int .i64 (if 100000 < e then -1 else e)) ∧ w = w' := by
  by_cases h : 100000 < e
  · rw [if_pos h]
    go_enter Tryd.func50, Tryd.ntmps50
    go_wp2_with fail
    go_ret
    exact ⟨rfl, rfl⟩
  · rw [if_neg h]
    go_enter Tryd.func50, Tryd.ntmps50
    go_wp2_with fail
    go_ret
    exact ⟨rfl, rfl⟩

theorem rcovers_any (f u x : Int) (w : World) :
    Calls Tryd.prog 32 #[.agg #[.int .i64 f, .int .i64 u], .int .i64 x] w fun r w' => r = .returned (.bool (decide (inP (f, u) x))) ∧ Below w.heap.size w w' := by
  have t1 := Two.new w 35 (.int .i64 f) (.int .i64 u)
  have hb0 : Below w.heap.size w (w.alloc (.cells #[.int .i64 f, .int .i64 u] 35)) := (Below.refl w.heap.size w).alloc (Nat.le_refl _) _
  by_cases hp : propP (f, u)
  · have HP := Lib.hid (fun w => rproper_yes f u hp w)
    have hin : decide (inP (f, u) x) = decide (f ≤ x ∧ x < endP (f, u)) := by unfold inP; simp [hp]
    have hbd := end_bd hp
    have hf0 := hp.1
    have hu := hp.2
    simp only at hbd hf0 hu
    unfold endP at hin hbd
    simp only at hin hbd
    by_cases hx : 0 ≤ x ∧ x ≤ 100000
    · have HI := Lib.hid (fun w => rIs_yes x hx.1 hx.2 w)
      by_cases h1 : f ≤ x
      · by_cases h2 : u = -1
        · subst h2
          rw [hin, if_pos rfl, decide_eq_true ⟨h1, by omega⟩]
          clear hin hbd hf0 hu hp hx
          go_enter Tryd.func32, Tryd.ntmps32
          go_wp2_with fail
          refine (HP.out _).mono ?_
          rintro r w1 ⟨rfl, hb1⟩
          obtain ⟨c1, c2, c3, c4⟩ := (t1.below hb1 t1.lt).facts
          go_wp2_with fail
          refine (HI.out _).mono ?_
          rintro r w' ⟨rfl, rfl⟩
          go_wp2_with fail
          go_ret
          exact ⟨rfl, hb0.trans (hb1.mono hb0.size)⟩
        · rw [if_neg h2] at hin
          rw [hin]
          have h3 : (u == -1) = false := by simpa using h2
          by_cases h4 : x < u
          · rw [decide_eq_true ⟨h1, h4⟩]
            clear hin hbd hf0 hu hp hx h2
            go_enter Tryd.func32, Tryd.ntmps32
            go_wp2_with fail
            refine (HP.out _).mono ?_
            rintro r w1 ⟨rfl, hb1⟩
            obtain ⟨c1, c2, c3, c4⟩ := (t1.below hb1 t1.lt).facts
            go_wp2_with fail
            refine (HI.out _).mono ?_
            rintro r w' ⟨rfl, rfl⟩
            go_wp2_with fail
            go_ret
            exact ⟨rfl, hb0.trans (hb1.mono hb0.size)⟩
          · rw [decide_eq_false (fun k => h4 k.2)]
            have h5 : decide (x < u) = false := by simpa using h4
            clear hin hbd hf0 hu hp hx h2 h4
            go_enter Tryd.func32, Tryd.ntmps32
            go_wp2_with fail
            refine (HP.out _).mono ?_
            rintro r w1 ⟨rfl, hb1⟩
            obtain ⟨c1, c2, c3, c4⟩ := (t1.below hb1 t1.lt).facts
            go_wp2_with fail
            refine (HI.out _).mono ?_
            rintro r w' ⟨rfl, rfl⟩
            go_wp2_with fail
            go_ret
            exact ⟨rfl, hb0.trans (hb1.mono hb0.size)⟩
      · rw [hin, decide_eq_false (fun k => h1 k.1)]
        have h5 : decide (f ≤ x) = false := by simpa using h1
        clear hin hbd hf0 hu hp hx h1
        go_enter Tryd.func32, Tryd.ntmps32
        go_wp2_with fail
        refine (HP.out _).mono ?_
        rintro r w1 ⟨rfl, hb1⟩
        obtain ⟨c1, c2, c3, c4⟩ := (t1.below hb1 t1.lt).facts
        go_wp2_with fail
        refine (HI.out _).mono ?_
        rintro r w' ⟨rfl, rfl⟩
        go_wp2_with fail
        go_ret
        exact ⟨rfl, hb0.trans (hb1.mono hb0.size)⟩
    · have hne : ¬ (f ≤ x ∧ x < if u = -1 then 100001 else u) := by
        intro k
        refine hx ⟨by omega, ?_⟩
        have := k.2
        split at this <;> omega
      rw [hin, decide_eq_false hne]
      have HI := Lib.hid (fun w => rIs_no x hx w)
      clear hin hbd hf0 hu hp hx hne
      go_enter Tryd.func32, Tryd.ntmps32
      go_wp2_with fail
      refine (HP.out _).mono ?_
      rintro r w1 ⟨rfl, hb1⟩
      obtain ⟨c1, c2, c3, c4⟩ := (t1.below hb1 t1.lt).facts
      go_wp2_with fail
      refine (HI.out _).mono ?_
      rintro r w' ⟨rfl, rfl⟩
      go_wp2_with fail
      go_ret
      exact ⟨rfl, hb0.trans (hb1.mono hb0.size)⟩
  · have hn : decide (inP (f, u) x) = false := by unfold inP; simp [hp]
    have HP := Lib.hid (fun w => rproper_no f u hp w)
    rw [hn]
    clear hn hp
    go_enter Tryd.func32, Tryd.ntmps32
    go_wp2_with fail
    refine (HP.out _).mono ?_
    rintro r w1 ⟨rfl, hb1⟩
    obtain ⟨c1, c2, c3, c4⟩ := (t1.below hb1 t1.lt).facts
    go_wp2_with fail
    go_ret
    exact ⟨rfl, hb0.trans (hb1.mono hb0.size)⟩

set_option maxHeartbeats 1000000 in
theorem rcommon_any (f u g v : Int) (w : World) :
    Calls Tryd.prog 26 #[.agg #[.int .i64 f, .int .i64 u], .agg #[.int .i64 g, .int .i64 v]] w fun r w' => r = .returned (.tuple #[.agg #[.int .i64 (comV (f, u) (g, v)).1.1, .int .i64 (comV (f, u) (g, v)).1.2], .bool (comV (f, u) (g, v)).2]) ∧ Below w.heap.size w w' := by
  obtain ⟨t1, t2, t3, hb0⟩ := boxed_facts f u g v w
  by_cases hp : propP (f, u)
  · have HP := Lib.hid (fun w => rproper_yes f u hp w)
    by_cases hq : propP (g, v)
    · have HQ := Lib.hid (fun w => rproper_yes g v hq w)
      have E1 := Lib.hid (fun w => rend_any f u w)
      have E2 := Lib.hid (fun w => rend_any g v w)
      have hc : comV (f, u) (g, v) = if max f g < min (endP (f, u)) (endP (g, v)) then (btw (max f g) (min (endP (f, u)) (endP (g, v))), true) else ((0, 0), false) := by
        unfold comV
        simp only [hp, hq, true_and]
      generalize comV (f, u) (g, v) = C at *
      generalize endP (f, u) = a at *
      generalize endP (g, v) = b at *
      clear hp hq
      by_cases hgf : f < g
      · by_cases hba : b < a
        · by_cases hlt : g < b
          · have hmax : max f g = g := by omega
            have hmin : min a b = b := by omega
            rw [hmax, hmin] at hc
            clear hmax hmin
            rw [if_pos hlt] at hc
            have hlt2 : decide (b ≤ g) = false := by simp; omega
            have HU := Lib.hid (fun w => runtil_any b w)
            unfold btw at hc
            generalize (if 100000 < b then (-1 : Int) else b) = U at *
            subst hc
            clear hlt
            go_enter Tryd.func26, Tryd.ntmps26
            go_upto_region 1 with fail
            change Code.wp _ _ _ _ (boxed f u g v w)
            generalize boxed f u g v w = W at *
            obtain ⟨c1, c2, c3, c4⟩ := t1.facts
            obtain ⟨d1, d2, d3, d4⟩ := t2.facts
            obtain ⟨e1, e2, e3, e4⟩ := t3.facts
            go_wp2_with fail
            refine (HP.out _).mono ?_
            rintro r w1 ⟨rfl, hx1⟩
            clear c1 c2 c3 c4 d1 d2 d3 d4 e1 e2 e3 e4
            have r11 := t1.below hx1 t1.lt
            have r21 := t2.below hx1 t2.lt
            have r31 := t3.below hx1 t3.lt
            have hb1 := hb0.trans (hx1.mono hb0.size)
            obtain ⟨c1, c2, c3, c4⟩ := r11.facts
            obtain ⟨d1, d2, d3, d4⟩ := r21.facts
            obtain ⟨e1, e2, e3, e4⟩ := r31.facts
            go_wp2_with fail
            refine (HQ.out _).mono ?_
            rintro r w2 ⟨rfl, hx2⟩
            clear c1 c2 c3 c4 d1 d2 d3 d4 e1 e2 e3 e4
            have r12 := r11.below hx2 r11.lt
            have r22 := r21.below hx2 r21.lt
            have r32 := r31.below hx2 r31.lt
            have hb2 := hb1.trans (hx2.mono hb1.size)
            obtain ⟨c1, c2, c3, c4⟩ := r12.facts
            obtain ⟨d1, d2, d3, d4⟩ := r22.facts
            obtain ⟨e1, e2, e3, e4⟩ := r32.facts
            go_wp2_with fail
            refine (E1.out _).mono ?_
            rintro r w3 ⟨rfl, hx3⟩
            clear c1 c2 c3 c4 d1 d2 d3 d4 e1 e2 e3 e4
            have r13 := r12.below hx3 r12.lt
            have r23 := r22.below hx3 r22.lt
            have r33 := r32.below hx3 r32.lt
            have hb3 := hb2.trans (hx3.mono hb2.size)
            obtain ⟨c1, c2, c3, c4⟩ := r13.facts
            obtain ⟨d1, d2, d3, d4⟩ := r23.facts
            obtain ⟨e1, e2, e3, e4⟩ := r33.facts
            go_wp2_with fail
            refine (E2.out _).mono ?_
            rintro r w4 ⟨rfl, hx4⟩
            clear c1 c2 c3 c4 d1 d2 d3 d4 e1 e2 e3 e4
            have r14 := r13.below hx4 r13.lt
            have r24 := r23.below hx4 r23.lt
            have r34 := r33.below hx4 r33.lt
            have hb4 := hb3.trans (hx4.mono hb3.size)
            obtain ⟨c1, c2, c3, c4⟩ := r14.facts
            obtain ⟨d1, d2, d3, d4⟩ := r24.facts
            obtain ⟨e1, e2, e3, e4⟩ := r34.facts
            go_wp2_with fail
            refine (E2.out _).mono ?_
            rintro r w5 ⟨rfl, hx5⟩
            clear c1 c2 c3 c4 d1 d2 d3 d4 e1 e2 e3 e4
            have r15 := r14.below hx5 r14.lt
            have r25 := r24.below hx5 r24.lt
            have r35 := r34.below hx5 r34.lt
            have hb5 := hb4.trans (hx5.mono hb4.size)
            obtain ⟨c1, c2, c3, c4⟩ := r15.facts
            obtain ⟨d1, d2, d3, d4⟩ := r25.facts
            obtain ⟨e1, e2, e3, e4⟩ := r35.facts
            go_wp2_with fail
            refine (HU.out _).mono ?_
            rintro r w' ⟨rfl, rfl⟩
            have hB2 : w.heap.size ≤ w.heap.size + 1 + 1 := by omega
            go_wp2_with fail
            refine bodyPost_ret (v := .tuple #[.agg #[.int .i64 g, .int .i64 U], .bool true]) ?_ rfl ⟨rfl, ?_⟩
            · simp [results, Tryd.results26, go_sem, e1, e2]
            · exact set2_below hb5 hB2 _ _
          · have hmax : max f g = g := by omega
            have hmin : min a b = b := by omega
            rw [hmax, hmin] at hc
            clear hmax hmin
            rw [if_neg hlt] at hc
            have hlt2 : decide (b ≤ g) = true := by simp; omega
            subst hc
            clear hlt
            go_enter Tryd.func26, Tryd.ntmps26
            go_upto_region 1 with fail
            change Code.wp _ _ _ _ (boxed f u g v w)
            generalize boxed f u g v w = W at *
            obtain ⟨c1, c2, c3, c4⟩ := t1.facts
            obtain ⟨d1, d2, d3, d4⟩ := t2.facts
            obtain ⟨e1, e2, e3, e4⟩ := t3.facts
            go_wp2_with fail
            refine (HP.out _).mono ?_
            rintro r w1 ⟨rfl, hx1⟩
            clear c1 c2 c3 c4 d1 d2 d3 d4 e1 e2 e3 e4
            have r11 := t1.below hx1 t1.lt
            have r21 := t2.below hx1 t2.lt
            have r31 := t3.below hx1 t3.lt
            have hb1 := hb0.trans (hx1.mono hb0.size)
            obtain ⟨c1, c2, c3, c4⟩ := r11.facts
            obtain ⟨d1, d2, d3, d4⟩ := r21.facts
            obtain ⟨e1, e2, e3, e4⟩ := r31.facts
            go_wp2_with fail
            refine (HQ.out _).mono ?_
            rintro r w2 ⟨rfl, hx2⟩
            clear c1 c2 c3 c4 d1 d2 d3 d4 e1 e2 e3 e4
            have r12 := r11.below hx2 r11.lt
            have r22 := r21.below hx2 r21.lt
            have r32 := r31.below hx2 r31.lt
            have hb2 := hb1.trans (hx2.mono hb1.size)
            obtain ⟨c1, c2, c3, c4⟩ := r12.facts
            obtain ⟨d1, d2, d3, d4⟩ := r22.facts
            obtain ⟨e1, e2, e3, e4⟩ := r32.facts
            go_wp2_with fail
            refine (E1.out _).mono ?_
            rintro r w3 ⟨rfl, hx3⟩
            clear c1 c2 c3 c4 d1 d2 d3 d4 e1 e2 e3 e4
            have r13 := r12.below hx3 r12.lt
            have r23 := r22.below hx3 r22.lt
            have r33 := r32.below hx3 r32.lt
            have hb3 := hb2.trans (hx3.mono hb2.size)
            obtain ⟨c1, c2, c3, c4⟩ := r13.facts
            obtain ⟨d1, d2, d3, d4⟩ := r23.facts
            obtain ⟨e1, e2, e3, e4⟩ := r33.facts
            go_wp2_with fail
            refine (E2.out _).mono ?_
            rintro r w4 ⟨rfl, hx4⟩
            clear c1 c2 c3 c4 d1 d2 d3 d4 e1 e2 e3 e4
            have r14 := r13.below hx4 r13.lt
            have r24 := r23.below hx4 r23.lt
            have r34 := r33.below hx4 r33.lt
            have hb4 := hb3.trans (hx4.mono hb3.size)
            obtain ⟨c1, c2, c3, c4⟩ := r14.facts
            obtain ⟨d1, d2, d3, d4⟩ := r24.facts
            obtain ⟨e1, e2, e3, e4⟩ := r34.facts
            go_wp2_with fail
            refine (E2.out _).mono ?_
            rintro r w5 ⟨rfl, hx5⟩
            clear c1 c2 c3 c4 d1 d2 d3 d4 e1 e2 e3 e4
            have r15 := r14.below hx5 r14.lt
            have r25 := r24.below hx5 r24.lt
            have r35 := r34.below hx5 r34.lt
            have hb5 := hb4.trans (hx5.mono hb4.size)
            obtain ⟨c1, c2, c3, c4⟩ := r15.facts
            obtain ⟨d1, d2, d3, d4⟩ := r25.facts
            obtain ⟨e1, e2, e3, e4⟩ := r35.facts
            have hB2 : w.heap.size ≤ w.heap.size + 1 + 1 := by omega
            go_wp2_with fail
            refine bodyPost_ret (v := .tuple #[.agg #[.int .i64 0, .int .i64 0], .bool false]) ?_ rfl ⟨rfl, ?_⟩
            · simp [results, Tryd.results26, go_sem, e1, e2]
            · exact set2_below hb5 hB2 _ _
        · have hba2 : decide (b < a) = false := by simpa using hba
          by_cases hlt : g < a
          · have hmax : max f g = g := by omega
            have hmin : min a b = a := by omega
            rw [hmax, hmin] at hc
            clear hmax hmin
            rw [if_pos hlt] at hc
            have hlt2 : decide (a ≤ g) = false := by simp; omega
            have HU := Lib.hid (fun w => runtil_any a w)
            unfold btw at hc
            generalize (if 100000 < a then (-1 : Int) else a) = U at *
            subst hc
            clear hlt
            go_enter Tryd.func26, Tryd.ntmps26
            go_upto_region 1 with fail
            change Code.wp _ _ _ _ (boxed f u g v w)
            generalize boxed f u g v w = W at *
            obtain ⟨c1, c2, c3, c4⟩ := t1.facts
            obtain ⟨d1, d2, d3, d4⟩ := t2.facts
            obtain ⟨e1, e2, e3, e4⟩ := t3.facts
            go_wp2_with fail
            refine (HP.out _).mono ?_
            rintro r w1 ⟨rfl, hx1⟩
            clear c1 c2 c3 c4 d1 d2 d3 d4 e1 e2 e3 e4
            have r11 := t1.below hx1 t1.lt
            have r21 := t2.below hx1 t2.lt
            have r31 := t3.below hx1 t3.lt
            have hb1 := hb0.trans (hx1.mono hb0.size)
            obtain ⟨c1, c2, c3, c4⟩ := r11.facts
            obtain ⟨d1, d2, d3, d4⟩ := r21.facts
            obtain ⟨e1, e2, e3, e4⟩ := r31.facts
            go_wp2_with fail
            refine (HQ.out _).mono ?_
            rintro r w2 ⟨rfl, hx2⟩
            clear c1 c2 c3 c4 d1 d2 d3 d4 e1 e2 e3 e4
            have r12 := r11.below hx2 r11.lt
            have r22 := r21.below hx2 r21.lt
            have r32 := r31.below hx2 r31.lt
            have hb2 := hb1.trans (hx2.mono hb1.size)
            obtain ⟨c1, c2, c3, c4⟩ := r12.facts
            obtain ⟨d1, d2, d3, d4⟩ := r22.facts
            obtain ⟨e1, e2, e3, e4⟩ := r32.facts
            go_wp2_with fail
            refine (E1.out _).mono ?_
            rintro r w3 ⟨rfl, hx3⟩
            clear c1 c2 c3 c4 d1 d2 d3 d4 e1 e2 e3 e4
            have r13 := r12.below hx3 r12.lt
            have r23 := r22.below hx3 r22.lt
            have r33 := r32.below hx3 r32.lt
            have hb3 := hb2.trans (hx3.mono hb2.size)
            obtain ⟨c1, c2, c3, c4⟩ := r13.facts
            obtain ⟨d1, d2, d3, d4⟩ := r23.facts
            obtain ⟨e1, e2, e3, e4⟩ := r33.facts
            go_wp2_with fail
            refine (E2.out _).mono ?_
            rintro r w4 ⟨rfl, hx4⟩
            clear c1 c2 c3 c4 d1 d2 d3 d4 e1 e2 e3 e4
            have r14 := r13.below hx4 r13.lt
            have r24 := r23.below hx4 r23.lt
            have r34 := r33.below hx4 r33.lt
            have hb4 := hb3.trans (hx4.mono hb3.size)
            obtain ⟨c1, c2, c3, c4⟩ := r14.facts
            obtain ⟨d1, d2, d3, d4⟩ := r24.facts
            obtain ⟨e1, e2, e3, e4⟩ := r34.facts
            go_wp2_with fail
            refine (HU.out _).mono ?_
            rintro r w' ⟨rfl, rfl⟩
            have hB2 : w.heap.size ≤ w.heap.size + 1 + 1 := by omega
            go_wp2_with fail
            refine bodyPost_ret (v := .tuple #[.agg #[.int .i64 g, .int .i64 U], .bool true]) ?_ rfl ⟨rfl, ?_⟩
            · simp [results, Tryd.results26, go_sem, e1, e2]
            · exact set2_below hb4 hB2 _ _
          · have hmax : max f g = g := by omega
            have hmin : min a b = a := by omega
            rw [hmax, hmin] at hc
            clear hmax hmin
            rw [if_neg hlt] at hc
            have hlt2 : decide (a ≤ g) = true := by simp; omega
            subst hc
            clear hlt
            go_enter Tryd.func26, Tryd.ntmps26
            go_upto_region 1 with fail
            change Code.wp _ _ _ _ (boxed f u g v w)
            generalize boxed f u g v w = W at *
            obtain ⟨c1, c2, c3, c4⟩ := t1.facts
            obtain ⟨d1, d2, d3, d4⟩ := t2.facts
            obtain ⟨e1, e2, e3, e4⟩ := t3.facts
            go_wp2_with fail
            refine (HP.out _).mono ?_
            rintro r w1 ⟨rfl, hx1⟩
            clear c1 c2 c3 c4 d1 d2 d3 d4 e1 e2 e3 e4
            have r11 := t1.below hx1 t1.lt
            have r21 := t2.below hx1 t2.lt
            have r31 := t3.below hx1 t3.lt
            have hb1 := hb0.trans (hx1.mono hb0.size)
            obtain ⟨c1, c2, c3, c4⟩ := r11.facts
            obtain ⟨d1, d2, d3, d4⟩ := r21.facts
            obtain ⟨e1, e2, e3, e4⟩ := r31.facts
            go_wp2_with fail
            refine (HQ.out _).mono ?_
            rintro r w2 ⟨rfl, hx2⟩
            clear c1 c2 c3 c4 d1 d2 d3 d4 e1 e2 e3 e4
            have r12 := r11.below hx2 r11.lt
            have r22 := r21.below hx2 r21.lt
            have r32 := r31.below hx2 r31.lt
            have hb2 := hb1.trans (hx2.mono hb1.size)
            obtain ⟨c1, c2, c3, c4⟩ := r12.facts
            obtain ⟨d1, d2, d3, d4⟩ := r22.facts
            obtain ⟨e1, e2, e3, e4⟩ := r32.facts
            go_wp2_with fail
            refine (E1.out _).mono ?_
            rintro r w3 ⟨rfl, hx3⟩
            clear c1 c2 c3 c4 d1 d2 d3 d4 e1 e2 e3 e4
            have r13 := r12.below hx3 r12.lt
            have r23 := r22.below hx3 r22.lt
            have r33 := r32.below hx3 r32.lt
            have hb3 := hb2.trans (hx3.mono hb2.size)
            obtain ⟨c1, c2, c3, c4⟩ := r13.facts
            obtain ⟨d1, d2, d3, d4⟩ := r23.facts
            obtain ⟨e1, e2, e3, e4⟩ := r33.facts
            go_wp2_with fail
            refine (E2.out _).mono ?_
            rintro r w4 ⟨rfl, hx4⟩
            clear c1 c2 c3 c4 d1 d2 d3 d4 e1 e2 e3 e4
            have r14 := r13.below hx4 r13.lt
            have r24 := r23.below hx4 r23.lt
            have r34 := r33.below hx4 r33.lt
            have hb4 := hb3.trans (hx4.mono hb3.size)
            obtain ⟨c1, c2, c3, c4⟩ := r14.facts
            obtain ⟨d1, d2, d3, d4⟩ := r24.facts
            obtain ⟨e1, e2, e3, e4⟩ := r34.facts
            have hB2 : w.heap.size ≤ w.heap.size + 1 + 1 := by omega
            go_wp2_with fail
            refine bodyPost_ret (v := .tuple #[.agg #[.int .i64 0, .int .i64 0], .bool false]) ?_ rfl ⟨rfl, ?_⟩
            · simp [results, Tryd.results26, go_sem, e1, e2]
            · exact set2_below hb4 hB2 _ _
      · have hgf2 : decide (f < g) = false := by simpa using hgf
        by_cases hba : b < a
        · by_cases hlt : f < b
          · have hmax : max f g = f := by omega
            have hmin : min a b = b := by omega
            rw [hmax, hmin] at hc
            clear hmax hmin
            rw [if_pos hlt] at hc
            have hlt2 : decide (b ≤ f) = false := by simp; omega
            have HU := Lib.hid (fun w => runtil_any b w)
            unfold btw at hc
            generalize (if 100000 < b then (-1 : Int) else b) = U at *
            subst hc
            clear hlt
            go_enter Tryd.func26, Tryd.ntmps26
            go_upto_region 1 with fail
            change Code.wp _ _ _ _ (boxed f u g v w)
            generalize boxed f u g v w = W at *
            obtain ⟨c1, c2, c3, c4⟩ := t1.facts
            obtain ⟨d1, d2, d3, d4⟩ := t2.facts
            obtain ⟨e1, e2, e3, e4⟩ := t3.facts
            go_wp2_with fail
            refine (HP.out _).mono ?_
            rintro r w1 ⟨rfl, hx1⟩
            clear c1 c2 c3 c4 d1 d2 d3 d4 e1 e2 e3 e4
            have r11 := t1.below hx1 t1.lt
            have r21 := t2.below hx1 t2.lt
            have r31 := t3.below hx1 t3.lt
            have hb1 := hb0.trans (hx1.mono hb0.size)
            obtain ⟨c1, c2, c3, c4⟩ := r11.facts
            obtain ⟨d1, d2, d3, d4⟩ := r21.facts
            obtain ⟨e1, e2, e3, e4⟩ := r31.facts
            go_wp2_with fail
            refine (HQ.out _).mono ?_
            rintro r w2 ⟨rfl, hx2⟩
            clear c1 c2 c3 c4 d1 d2 d3 d4 e1 e2 e3 e4
            have r12 := r11.below hx2 r11.lt
            have r22 := r21.below hx2 r21.lt
            have r32 := r31.below hx2 r31.lt
            have hb2 := hb1.trans (hx2.mono hb1.size)
            obtain ⟨c1, c2, c3, c4⟩ := r12.facts
            obtain ⟨d1, d2, d3, d4⟩ := r22.facts
            obtain ⟨e1, e2, e3, e4⟩ := r32.facts
            go_wp2_with fail
            refine (E1.out _).mono ?_
            rintro r w3 ⟨rfl, hx3⟩
            clear c1 c2 c3 c4 d1 d2 d3 d4 e1 e2 e3 e4
            have r13 := r12.below hx3 r12.lt
            have r23 := r22.below hx3 r22.lt
            have r33 := r32.below hx3 r32.lt
            have hb3 := hb2.trans (hx3.mono hb2.size)
            obtain ⟨c1, c2, c3, c4⟩ := r13.facts
            obtain ⟨d1, d2, d3, d4⟩ := r23.facts
            obtain ⟨e1, e2, e3, e4⟩ := r33.facts
            go_wp2_with fail
            refine (E2.out _).mono ?_
            rintro r w4 ⟨rfl, hx4⟩
            clear c1 c2 c3 c4 d1 d2 d3 d4 e1 e2 e3 e4
            have r14 := r13.below hx4 r13.lt
            have r24 := r23.below hx4 r23.lt
            have r34 := r33.below hx4 r33.lt
            have hb4 := hb3.trans (hx4.mono hb3.size)
            obtain ⟨c1, c2, c3, c4⟩ := r14.facts
            obtain ⟨d1, d2, d3, d4⟩ := r24.facts
            obtain ⟨e1, e2, e3, e4⟩ := r34.facts
            go_wp2_with fail
            refine (E2.out _).mono ?_
            rintro r w5 ⟨rfl, hx5⟩
            clear c1 c2 c3 c4 d1 d2 d3 d4 e1 e2 e3 e4
            have r15 := r14.below hx5 r14.lt
            have r25 := r24.below hx5 r24.lt
            have r35 := r34.below hx5 r34.lt
            have hb5 := hb4.trans (hx5.mono hb4.size)
            obtain ⟨c1, c2, c3, c4⟩ := r15.facts
            obtain ⟨d1, d2, d3, d4⟩ := r25.facts
            obtain ⟨e1, e2, e3, e4⟩ := r35.facts
            go_wp2_with fail
            refine (HU.out _).mono ?_
            rintro r w' ⟨rfl, rfl⟩
            have hB2 : w.heap.size ≤ w.heap.size + 1 + 1 := by omega
            go_wp2_with fail
            refine bodyPost_ret (v := .tuple #[.agg #[.int .i64 f, .int .i64 U], .bool true]) ?_ rfl ⟨rfl, ?_⟩
            · simp [results, Tryd.results26, go_sem, e1, e2]
            · exact set2_below hb5 hB2 _ _
          · have hmax : max f g = f := by omega
            have hmin : min a b = b := by omega
            rw [hmax, hmin] at hc
            clear hmax hmin
            rw [if_neg hlt] at hc
            have hlt2 : decide (b ≤ f) = true := by simp; omega
            subst hc
            clear hlt
            go_enter Tryd.func26, Tryd.ntmps26
            go_upto_region 1 with fail
            change Code.wp _ _ _ _ (boxed f u g v w)
            generalize boxed f u g v w = W at *
            obtain ⟨c1, c2, c3, c4⟩ := t1.facts
            obtain ⟨d1, d2, d3, d4⟩ := t2.facts
            obtain ⟨e1, e2, e3, e4⟩ := t3.facts
            go_wp2_with fail
            refine (HP.out _).mono ?_
            rintro r w1 ⟨rfl, hx1⟩
            clear c1 c2 c3 c4 d1 d2 d3 d4 e1 e2 e3 e4
            have r11 := t1.below hx1 t1.lt
            have r21 := t2.below hx1 t2.lt
            have r31 := t3.below hx1 t3.lt
            have hb1 := hb0.trans (hx1.mono hb0.size)
            obtain ⟨c1, c2, c3, c4⟩ := r11.facts
            obtain ⟨d1, d2, d3, d4⟩ := r21.facts
            obtain ⟨e1, e2, e3, e4⟩ := r31.facts
            go_wp2_with fail
            refine (HQ.out _).mono ?_
            rintro r w2 ⟨rfl, hx2⟩
            clear c1 c2 c3 c4 d1 d2 d3 d4 e1 e2 e3 e4
            have r12 := r11.below hx2 r11.lt
            have r22 := r21.below hx2 r21.lt
            have r32 := r31.below hx2 r31.lt
            have hb2 := hb1.trans (hx2.mono hb1.size)
            obtain ⟨c1, c2, c3, c4⟩ := r12.facts
            obtain ⟨d1, d2, d3, d4⟩ := r22.facts
            obtain ⟨e1, e2, e3, e4⟩ := r32.facts
            go_wp2_with fail
            refine (E1.out _).mono ?_
            rintro r w3 ⟨rfl, hx3⟩
            clear c1 c2 c3 c4 d1 d2 d3 d4 e1 e2 e3 e4
            have r13 := r12.below hx3 r12.lt
            have r23 := r22.below hx3 r22.lt
            have r33 := r32.below hx3 r32.lt
            have hb3 := hb2.trans (hx3.mono hb2.size)
            obtain ⟨c1, c2, c3, c4⟩ := r13.facts
            obtain ⟨d1, d2, d3, d4⟩ := r23.facts
            obtain ⟨e1, e2, e3, e4⟩ := r33.facts
            go_wp2_with fail
            refine (E2.out _).mono ?_
            rintro r w4 ⟨rfl, hx4⟩
            clear c1 c2 c3 c4 d1 d2 d3 d4 e1 e2 e3 e4
            have r14 := r13.below hx4 r13.lt
            have r24 := r23.below hx4 r23.lt
            have r34 := r33.below hx4 r33.lt
            have hb4 := hb3.trans (hx4.mono hb3.size)
            obtain ⟨c1, c2, c3, c4⟩ := r14.facts
            obtain ⟨d1, d2, d3, d4⟩ := r24.facts
            obtain ⟨e1, e2, e3, e4⟩ := r34.facts
            go_wp2_with fail
            refine (E2.out _).mono ?_
            rintro r w5 ⟨rfl, hx5⟩
            clear c1 c2 c3 c4 d1 d2 d3 d4 e1 e2 e3 e4
            have r15 := r14.below hx5 r14.lt
            have r25 := r24.below hx5 r24.lt
            have r35 := r34.below hx5 r34.lt
            have hb5 := hb4.trans (hx5.mono hb4.size)
            obtain ⟨c1, c2, c3, c4⟩ := r15.facts
            obtain ⟨d1, d2, d3, d4⟩ := r25.facts
            obtain ⟨e1, e2, e3, e4⟩ := r35.facts
            have hB2 : w.heap.size ≤ w.heap.size + 1 + 1 := by omega
            go_wp2_with fail
            refine bodyPost_ret (v := .tuple #[.agg #[.int .i64 0, .int .i64 0], .bool false]) ?_ rfl ⟨rfl, ?_⟩
            · simp [results, Tryd.results26, go_sem, e1, e2]
            · exact set2_below hb5 hB2 _ _
        · have hba2 : decide (b < a) = false := by simpa using hba
          by_cases hlt : f < a
          · have hmax : max f g = f := by omega
            have hmin : min a b = a := by omega
            rw [hmax, hmin] at hc
            clear hmax hmin
            rw [if_pos hlt] at hc
            have hlt2 : decide (a ≤ f) = false := by simp; omega
            have HU := Lib.hid (fun w => runtil_any a w)
            unfold btw at hc
            generalize (if 100000 < a then (-1 : Int) else a) = U at *
            subst hc
            clear hlt
            go_enter Tryd.func26, Tryd.ntmps26
            go_upto_region 1 with fail
            change Code.wp _ _ _ _ (boxed f u g v w)
            generalize boxed f u g v w = W at *
            obtain ⟨c1, c2, c3, c4⟩ := t1.facts
            obtain ⟨d1, d2, d3, d4⟩ := t2.facts
            obtain ⟨e1, e2, e3, e4⟩ := t3.facts
            go_wp2_with fail
            refine (HP.out _).mono ?_
            rintro r w1 ⟨rfl, hx1⟩
            clear c1 c2 c3 c4 d1 d2 d3 d4 e1 e2 e3 e4
            have r11 := t1.below hx1 t1.lt
            have r21 := t2.below hx1 t2.lt
            have r31 := t3.below hx1 t3.lt
            have hb1 := hb0.trans (hx1.mono hb0.size)
            obtain ⟨c1, c2, c3, c4⟩ := r11.facts
            obtain ⟨d1, d2, d3, d4⟩ := r21.facts
            obtain ⟨e1, e2, e3, e4⟩ := r31.facts
            go_wp2_with fail
            refine (HQ.out _).mono ?_
            rintro r w2 ⟨rfl, hx2⟩
            clear c1 c2 c3 c4 d1 d2 d3 d4 e1 e2 e3 e4
            have r12 := r11.below hx2 r11.lt
            have r22 := r21.below hx2 r21.lt
            have r32 := r31.below hx2 r31.lt
            have hb2 := hb1.trans (hx2.mono hb1.size)
            obtain ⟨c1, c2, c3, c4⟩ := r12.facts
            obtain ⟨d1, d2, d3, d4⟩ := r22.facts
            obtain ⟨e1, e2, e3, e4⟩ := r32.facts
            go_wp2_with fail
            refine (E1.out _).mono ?_
            rintro r w3 ⟨rfl, hx3⟩
            clear c1 c2 c3 c4 d1 d2 d3 d4 e1 e2 e3 e4
            have r13 := r12.below hx3 r12.lt
            have r23 := r22.below hx3 r22.lt
            have r33 := r32.below hx3 r32.lt
            have hb3 := hb2.trans (hx3.mono hb2.size)
            obtain ⟨c1, c2, c3, c4⟩ := r13.facts
            obtain ⟨d1, d2, d3, d4⟩ := r23.facts
            obtain ⟨e1, e2, e3, e4⟩ := r33.facts
            go_wp2_with fail
            refine (E2.out _).mono ?_
            rintro r w4 ⟨rfl, hx4⟩
            clear c1 c2 c3 c4 d1 d2 d3 d4 e1 e2 e3 e4
            have r14 := r13.below hx4 r13.lt
            have r24 := r23.below hx4 r23.lt
            have r34 := r33.below hx4 r33.lt
            have hb4 := hb3.trans (hx4.mono hb3.size)
            obtain ⟨c1, c2, c3, c4⟩ := r14.facts
            obtain ⟨d1, d2, d3, d4⟩ := r24.facts
            obtain ⟨e1, e2, e3, e4⟩ := r34.facts
            go_wp2_with fail
            refine (HU.out _).mono ?_
            rintro r w' ⟨rfl, rfl⟩
            have hB2 : w.heap.size ≤ w.heap.size + 1 + 1 := by omega
            go_wp2_with fail
            refine bodyPost_ret (v := .tuple #[.agg #[.int .i64 f, .int .i64 U], .bool true]) ?_ rfl ⟨rfl, ?_⟩
            · simp [results, Tryd.results26, go_sem, e1, e2]
            · exact set2_below hb4 hB2 _ _
          · have hmax : max f g = f := by omega
            have hmin : min a b = a := by omega
            rw [hmax, hmin] at hc
            clear hmax hmin
            rw [if_neg hlt] at hc
            have hlt2 : decide (a ≤ f) = true := by simp; omega
            subst hc
            clear hlt
            go_enter Tryd.func26, Tryd.ntmps26
            go_upto_region 1 with fail
            change Code.wp _ _ _ _ (boxed f u g v w)
            generalize boxed f u g v w = W at *
            obtain ⟨c1, c2, c3, c4⟩ := t1.facts
            obtain ⟨d1, d2, d3, d4⟩ := t2.facts
            obtain ⟨e1, e2, e3, e4⟩ := t3.facts
            go_wp2_with fail
            refine (HP.out _).mono ?_
            rintro r w1 ⟨rfl, hx1⟩
            clear c1 c2 c3 c4 d1 d2 d3 d4 e1 e2 e3 e4
            have r11 := t1.below hx1 t1.lt
            have r21 := t2.below hx1 t2.lt
            have r31 := t3.below hx1 t3.lt
            have hb1 := hb0.trans (hx1.mono hb0.size)
            obtain ⟨c1, c2, c3, c4⟩ := r11.facts
            obtain ⟨d1, d2, d3, d4⟩ := r21.facts
            obtain ⟨e1, e2, e3, e4⟩ := r31.facts
            go_wp2_with fail
            refine (HQ.out _).mono ?_
            rintro r w2 ⟨rfl, hx2⟩
            clear c1 c2 c3 c4 d1 d2 d3 d4 e1 e2 e3 e4
            have r12 := r11.below hx2 r11.lt
            have r22 := r21.below hx2 r21.lt
            have r32 := r31.below hx2 r31.lt
            have hb2 := hb1.trans (hx2.mono hb1.size)
            obtain ⟨c1, c2, c3, c4⟩ := r12.facts
            obtain ⟨d1, d2, d3, d4⟩ := r22.facts
            obtain ⟨e1, e2, e3, e4⟩ := r32.facts
            go_wp2_with fail
            refine (E1.out _).mono ?_
            rintro r w3 ⟨rfl, hx3⟩
            clear c1 c2 c3 c4 d1 d2 d3 d4 e1 e2 e3 e4
            have r13 := r12.below hx3 r12.lt
            have r23 := r22.below hx3 r22.lt
            have r33 := r32.below hx3 r32.lt
            have hb3 := hb2.trans (hx3.mono hb2.size)
            obtain ⟨c1, c2, c3, c4⟩ := r13.facts
            obtain ⟨d1, d2, d3, d4⟩ := r23.facts
            obtain ⟨e1, e2, e3, e4⟩ := r33.facts
            go_wp2_with fail
            refine (E2.out _).mono ?_
            rintro r w4 ⟨rfl, hx4⟩
            clear c1 c2 c3 c4 d1 d2 d3 d4 e1 e2 e3 e4
            have r14 := r13.below hx4 r13.lt
            have r24 := r23.below hx4 r23.lt
            have r34 := r33.below hx4 r33.lt
            have hb4 := hb3.trans (hx4.mono hb3.size)
            obtain ⟨c1, c2, c3, c4⟩ := r14.facts
            obtain ⟨d1, d2, d3, d4⟩ := r24.facts
            obtain ⟨e1, e2, e3, e4⟩ := r34.facts
            have hB2 : w.heap.size ≤ w.heap.size + 1 + 1 := by omega
            go_wp2_with fail
            refine bodyPost_ret (v := .tuple #[.agg #[.int .i64 0, .int .i64 0], .bool false]) ?_ rfl ⟨rfl, ?_⟩
            · simp [results, Tryd.results26, go_sem, e1, e2]
            · exact set2_below hb4 hB2 _ _
    · rw [com_no (fun k => hq k.2.1)]
      have HQ := Lib.hid (fun w => rproper_no g v hq w)
      clear hp hq
      go_enter Tryd.func26, Tryd.ntmps26
      go_upto_region 1 with fail
      change Code.wp _ _ _ _ (boxed f u g v w)
      generalize boxed f u g v w = W at *
      obtain ⟨c1, c2, c3, c4⟩ := t1.facts
      obtain ⟨d1, d2, d3, d4⟩ := t2.facts
      obtain ⟨e1, e2, e3, e4⟩ := t3.facts
      go_wp2_with fail
      refine (HP.out _).mono ?_
      rintro r w1 ⟨rfl, hx1⟩
      clear c1 c2 c3 c4 d1 d2 d3 d4 e1 e2 e3 e4
      have r11 := t1.below hx1 t1.lt
      have r21 := t2.below hx1 t2.lt
      have r31 := t3.below hx1 t3.lt
      have hb1 := hb0.trans (hx1.mono hb0.size)
      obtain ⟨c1, c2, c3, c4⟩ := r11.facts
      obtain ⟨d1, d2, d3, d4⟩ := r21.facts
      obtain ⟨e1, e2, e3, e4⟩ := r31.facts
      go_wp2_with fail
      refine (HQ.out _).mono ?_
      rintro r w2 ⟨rfl, hx2⟩
      clear c1 c2 c3 c4 d1 d2 d3 d4 e1 e2 e3 e4
      have r12 := r11.below hx2 r11.lt
      have r22 := r21.below hx2 r21.lt
      have r32 := r31.below hx2 r31.lt
      have hb2 := hb1.trans (hx2.mono hb1.size)
      obtain ⟨c1, c2, c3, c4⟩ := r12.facts
      obtain ⟨d1, d2, d3, d4⟩ := r22.facts
      obtain ⟨e1, e2, e3, e4⟩ := r32.facts
      have hB2 : w.heap.size ≤ w.heap.size + 1 + 1 := by omega
      go_wp2_with fail
      refine bodyPost_ret (v := .tuple #[.agg #[.int .i64 0, .int .i64 0], .bool false]) ?_ rfl ⟨rfl, ?_⟩
      · simp [results, Tryd.results26, go_sem, e1, e2]
      · exact set2_below hb2 hB2 _ _
  · rw [com_no (fun k => hp k.1)]
    have HP := Lib.hid (fun w => rproper_no f u hp w)
    clear hp
    go_enter Tryd.func26, Tryd.ntmps26
    go_upto_region 1 with fail
    change Code.wp _ _ _ _ (boxed f u g v w)
    generalize boxed f u g v w = W at *
    obtain ⟨c1, c2, c3, c4⟩ := t1.facts
    obtain ⟨d1, d2, d3, d4⟩ := t2.facts
    obtain ⟨e1, e2, e3, e4⟩ := t3.facts
    go_wp2_with fail
    refine (HP.out _).mono ?_
    rintro r w1 ⟨rfl, hx1⟩
    clear c1 c2 c3 c4 d1 d2 d3 d4 e1 e2 e3 e4
    have r11 := t1.below hx1 t1.lt
    have r21 := t2.below hx1 t2.lt
    have r31 := t3.below hx1 t3.lt
    have hb1 := hb0.trans (hx1.mono hb0.size)
    obtain ⟨c1, c2, c3, c4⟩ := r11.facts
    obtain ⟨d1, d2, d3, d4⟩ := r21.facts
    obtain ⟨e1, e2, e3, e4⟩ := r31.facts
    have hB2 : w.heap.size ≤ w.heap.size + 1 + 1 := by omega
    go_wp2_with fail
    refine bodyPost_ret (v := .tuple #[.agg #[.int .i64 0, .int .i64 0], .bool false]) ?_ rfl ⟨rfl, ?_⟩
    · simp [results, Tryd.results26, go_sem, e1, e2]
    · exact set2_below hb1 hB2 _ _
end Go.Proofs.YtdbffhcckmmgfaaDoor.Dt
