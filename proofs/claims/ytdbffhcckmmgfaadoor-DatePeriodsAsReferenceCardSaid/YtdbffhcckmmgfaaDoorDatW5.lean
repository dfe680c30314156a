/- Walks over package date: Common. -/
import Derived.Test.YtdbffhcckmmgfaaDoorDatW4
namespace Go.Proofs.YtdbffhcckmmgfaaDoor.Dt
set_option linter.unusedVariables false
set_option linter.unusedSimpArgs false
open Go.RowKit

/-- the world at the head of a function of two periods that returns one -/
def boxed (f u g v : Int) (w : World) : World := ((w.alloc (.cells #[.int .i64 f, .int .i64 u] 35)).alloc (.cells #[.int .i64 g, .int .i64 v] 35)).alloc (.cells #[.int .i64 0, .int .i64 0] 35)
theorem boxed_facts (f u g v : Int) (w : World) : Two (boxed f u g v w) w.heap.size 35 (.int .i64 f) (.int .i64 u) ∧ Two (boxed f u g v w) (w.heap.size + 1) 35 (.int .i64 g) (.int .i64 v) ∧ Two (boxed f u g v w) (w.heap.size + 1 + 1) 35 (.int .i64 0) (.int .i64 0) ∧ Below w.heap.size w (boxed f u g v w) :=
  ⟨((Two.new _ _ _ _).alloc _).alloc _, (Two.at (by simp) _ _ _).alloc _, Two.at (by simp) _ _ _, (((Below.refl _ _).alloc (Nat.le_refl _) _).alloc (by simp) _).alloc (by simp; omega) _⟩
theorem com_no {p q : Per} (h : ¬ (propP p ∧ propP q ∧ max p.1 q.1 < min (endP p) (endP q))) : comV p q = ((0, 0), false) := by unfold comV; rw [if_neg h]

set_option maxHeartbeats 1000000 in
theorem common_any (f u g v : Int) (w : World) :
    Calls Tryd.prog 25 #[.agg #[.int .i64 f, .int .i64 u], .agg #[.int .i64 g, .int .i64 v]] w fun r w' => r = .returned (.tuple #[.agg #[.int .i64 (comV (f, u) (g, v)).1.1, .int .i64 (comV (f, u) (g, v)).1.2], .bool (comV (f, u) (g, v)).2]) ∧ Below w.heap.size w w' := by
  obtain ⟨t1, t2, t3, hb0⟩ := boxed_facts f u g v w
  by_cases hp : propP (f, u)
  · have HP := Lib.hid (fun w => proper_yes f u hp w)
    by_cases hq : propP (g, v)
    · have HQ := Lib.hid (fun w => proper_yes g v hq w)
      have E1 := Lib.hid (fun w => end_any f u w)
      have E2 := Lib.hid (fun w => end_any g v w)
      have HB := Lib.hid (fun w => between_any (max f g) (min (endP (f, u)) (endP (g, v))) w)
      have hc : comV (f, u) (g, v) = if max f g < min (endP (f, u)) (endP (g, v)) then (btw (max f g) (min (endP (f, u)) (endP (g, v))), true) else ((0, 0), false) := by
        unfold comV
        simp only [hp, hq, true_and]
      generalize comV (f, u) (g, v) = C at *
      generalize endP (f, u) = a at *
      generalize endP (g, v) = b at *
      have HC := Lib.hid hc
      clear hc
      go_enter Tryd.func25, Tryd.ntmps25
      go_upto_region 1 with fail
      change Code.wp _ _ _ _ (boxed f u g v w)
      generalize boxed f u g v w = W at *
      clear hp hq
      obtain ⟨c1, c2, c3, c4⟩ := t1.facts
      obtain ⟨d1, d2, d3, d4⟩ := t2.facts
      go_wp2_with fail
      refine (HP.out _).mono ?_
      rintro r w1 ⟨rfl, hb1⟩
      clear c1 c2 c3 c4 d1 d2 d3 d4
      have s1 := t1.below hb1 t1.lt
      have s2 := t2.below hb1 t2.lt
      have s3 := t3.below hb1 t3.lt
      have hb2 := hb0.trans (hb1.mono hb0.size)
      obtain ⟨c1, c2, c3, c4⟩ := s1.facts
      obtain ⟨d1, d2, d3, d4⟩ := s2.facts
      go_wp2_with fail
      refine (HQ.out _).mono ?_
      rintro r w2 ⟨rfl, hb3⟩
      clear c1 c2 c3 c4 d1 d2 d3 d4
      have r1 := s1.below hb3 s1.lt
      have r2 := s2.below hb3 s2.lt
      have r3 := s3.below hb3 s3.lt
      have hb4 := hb2.trans (hb3.mono hb2.size)
      clear t1 t2 t3 s1 s2 s3 hb0 hb1 hb2 hb3
      obtain ⟨c1, c2, c3, c4⟩ := r1.facts
      obtain ⟨d1, d2, d3, d4⟩ := r2.facts
      go_upto_region 3 with fail
      have hS : ∀ w' : World, Below w2.heap.size w2 w' → w'.cell? ⟨w.heap.size, 0, none⟩ = some (.int .i64 f) ∧ w'.cell? ⟨w.heap.size, 1, none⟩ = some (.int .i64 u) ∧ w'.cell? ⟨w.heap.size + 1, 0, none⟩ = some (.int .i64 g) ∧ w'.cell? ⟨w.heap.size + 1, 1, none⟩ = some (.int .i64 v) := fun w' hb => by
        obtain ⟨a1, a2, -, -⟩ := (r1.below hb r1.lt).facts
        obtain ⟨b1, b2, -, -⟩ := (r2.below hb r2.lt).facts
        exact ⟨a1, a2, b1, b2⟩
      have hr := Below.refl w2.heap.size w2
      clear c1 c2 c3 c4 d1 d2 d3 d4
      go_region_held3 (fun w' => w'.cell? ⟨w.heap.size, 0, none⟩ = some (.int .i64 f) ∧ w'.cell? ⟨w.heap.size, 1, none⟩ = some (.int .i64 u) ∧ w'.cell? ⟨w.heap.size + 1, 0, none⟩ = some (.int .i64 g) ∧ w'.cell? ⟨w.heap.size + 1, 1, none⟩ = some (.int .i64 v))
        (first | exact hS _ hr.drew | exact hS _ (by assumption))
        (first
          | (go_at_call 47; have hz := hx1; refine (E2.out _).mono ?_; rintro r x2 ⟨rfl, hx2'⟩; have hx2 : Below w2.heap.size w2 x2 := hx1.trans (hx2'.mono hx1.size))
          | (go_at_call 47; refine (E1.out _).mono ?_; rintro r x1 ⟨rfl, hx1'⟩; have hx1 : Below w2.heap.size w2 x1 := hr.drew.trans hx1'))
      all_goals
        have q3 := r3.below hx2 r3.lt
        have hb5 := hb4.trans (hx2.mono hb4.size)
        have hC := HC.out
        clear HC
        obtain ⟨e1, e2, e3, e4⟩ := q3.facts
        have hB2 : w.heap.size ≤ w.heap.size + 1 + 1 := by omega
        by_cases hlt : max f g < min a b
        · rw [if_pos hlt] at hC
          generalize btw (max f g) (min a b) = M at *
          subst hC
          have hlt2 : decide (min a b ≤ max f g) = false := by simp; omega
          clear hlt
          go_wp2_with fail
          refine (HB.out _).mono ?_
          rintro r w3 ⟨rfl, hb6⟩
          have p3 := q3.below hb6 q3.lt
          have hb7 := hb5.trans (hb6.mono hb5.size)
          clear e1 e2 e3 e4
          obtain ⟨e1, e2, e3, e4⟩ := p3.facts
          go_wp2_with fail
          refine bodyPost_ret (v := .tuple #[.agg #[.int .i64 M.1, .int .i64 M.2], .bool true]) ?_ rfl ⟨rfl, ?_⟩
          · simp [results, Tryd.results25, go_sem, e1, e2]
          · exact set2_below hb7 hB2 _ _
        · rw [if_neg hlt] at hC
          subst hC
          have hlt2 : decide (min a b ≤ max f g) = true := by simp; omega
          clear hlt
          go_wp2_with fail
          refine bodyPost_ret (v := .tuple #[.agg #[.int .i64 0, .int .i64 0], .bool false]) ?_ rfl ⟨rfl, ?_⟩
          · simp [results, Tryd.results25, go_sem, e1, e2]
          · exact set2_below hb5 hB2 _ _
    · rw [com_no (fun k => hq k.2.1)]
      have HQ := Lib.hid (fun w => proper_no g v hq w)
      go_enter Tryd.func25, Tryd.ntmps25
      go_upto_region 1 with fail
      change Code.wp _ _ _ _ (boxed f u g v w)
      generalize boxed f u g v w = W at *
      clear hp hq
      obtain ⟨c1, c2, c3, c4⟩ := t1.facts
      obtain ⟨d1, d2, d3, d4⟩ := t2.facts
      go_wp2_with fail
      refine (HP.out _).mono ?_
      rintro r w1 ⟨rfl, hb1⟩
      clear c1 c2 c3 c4 d1 d2 d3 d4
      have s2 := t2.below hb1 t2.lt
      have s3 := t3.below hb1 t3.lt
      have hb2 := hb0.trans (hb1.mono hb0.size)
      obtain ⟨d1, d2, d3, d4⟩ := s2.facts
      go_wp2_with fail
      refine (HQ.out _).mono ?_
      rintro r w2 ⟨rfl, hb3⟩
      clear d1 d2 d3 d4
      have r3 := s3.below hb3 s3.lt
      have hb4 := hb2.trans (hb3.mono hb2.size)
      obtain ⟨e1, e2, e3, e4⟩ := r3.facts
      have hB2 : w.heap.size ≤ w.heap.size + 1 + 1 := by omega
      go_wp2_with fail
      refine bodyPost_ret (v := .tuple #[.agg #[.int .i64 0, .int .i64 0], .bool false]) ?_ rfl ⟨rfl, ?_⟩
      · simp [results, Tryd.results25, go_sem, e1, e2]
      · exact set2_below hb4 hB2 _ _
  · rw [com_no (fun k => hp k.1)]
    have HP := Lib.hid (fun w => proper_no f u hp w)
    go_enter Tryd.func25, Tryd.ntmps25
    go_upto_region 1 with fail
    change Code.wp _ _ _ _ (boxed f u g v w)
    generalize boxed f u g v w = W at *
    clear hp
    obtain ⟨c1, c2, c3, c4⟩ := t1.facts
    go_wp2_with fail
    refine (HP.out _).mono ?_
    rintro r w1 ⟨rfl, hb1⟩
    clear c1 c2 c3 c4
    have s3 := t3.below hb1 t3.lt
    have hb2 := hb0.trans (hb1.mono hb0.size)
    obtain ⟨e1, e2, e3, e4⟩ := s3.facts
    have hB2 : w.heap.size ≤ w.heap.size + 1 + 1 := by omega
    go_wp2_with fail
    refine bodyPost_ret (v := .tuple #[.agg #[.int .i64 0, .int .i64 0], .bool false]) ?_ rfl ⟨rfl, ?_⟩
    · simp [results, Tryd.results25, go_sem, e1, e2]
    · exact set2_below hb2 hB2 _ _
end Go.Proofs.YtdbffhcckmmgfaaDoor.Dt
