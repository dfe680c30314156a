/- The walk of DateCommon. -/
import Derived.Test.YtdbffhcckmmgfaaDoorDatH
namespace Go.Proofs.YtdbffhcckmmgfaaDoor.Dt
set_option linter.unusedVariables false
set_option linter.unusedSimpArgs false
open Go.RowKit

set_option maxRecDepth 100000 in
set_option maxHeartbeats 4000000 in
theorem lawCommon (f u g v x : Int) (w : World) (hl : Lay w) :
    Calls Tryd.prog 10 #[.agg #[.int .i64 f, .int .i64 u], .agg #[.int .i64 g, .int .i64 v], .int .i64 x] w fun e w' => e = .returned (.bool true) ∧ Below w.heap.size w w' := by
  have C1 := Lib.hid (fun w => common_any f u g v w)
  have C2 := Lib.hid (fun w => common_any g v f u w)
  rw [com_comm (g, v) (f, u)] at C2
  have hiff := com_iff (f, u) (g, v) x
  have hsome := com_some (f, u) (g, v)
  have hcase : ((comV (f, u) (g, v)).2 = true ∧ propP (comV (f, u) (g, v)).1) ∨ comV (f, u) (g, v) = ((0, 0), false) := by
    by_cases h : propP (f, u) ∧ propP (g, v) ∧ max f g < min (endP (f, u)) (endP (g, v))
    · obtain ⟨e, a, -⟩ := com_yes (p := (f, u)) (q := (g, v)) h
      rw [e]
      exact .inl ⟨rfl, a⟩
    · exact .inr (com_no (p := (f, u)) (q := (g, v)) h)
  have P1 := Lib.hid (fun w => covers_any f u x w)
  have P2 := Lib.hid (fun w => covers_any g v x w)
  have R1 := Lib.hid (fun w => covers_any f u (max f g) w)
  have R2 := Lib.hid (fun w => covers_any g v (max f g) w)
  change _ ↔ inP (f, u) (max f g) ∧ inP (g, v) (max f g) at hsome
  generalize comV (f, u) (g, v) = C at *
  obtain ⟨⟨c, e⟩, is⟩ := C
  simp only at C1 C2 hiff hsome hcase
  rcases hcase with ⟨hi, hprop⟩ | hz
  · subst hi
    obtain ⟨hr1, hr2⟩ := hsome.1 rfl
    rw [decide_eq_true hr1] at R1
    rw [decide_eq_true hr2] at R2
    have HQ := Lib.hid (fun w => proper_yes c e hprop w)
    have PC := Lib.hid (fun w => covers_any c e x w)
    have hcc : (c == c) = true := by simp
    have hee : (e == e) = true := by simp
    by_cases h1 : inP (f, u) x
    · by_cases h2 : inP (g, v) x
      · have h3 := (hiff.1 ⟨h1, h2⟩).2
        rw [decide_eq_true h1] at P1
        rw [decide_eq_true h2] at P2
        rw [decide_eq_true h3] at PC
        clear hr1 hr2 hsome hiff hprop h1 h2 h3
        go_enter Tryd.func10, Tryd.ntmps10
        have hB0 : Below w.heap.size w w := Below.refl w.heap.size w
        have p_1 : Two (w.alloc (.cells #[.int .i64 (f), .int .i64 (u)] 35)) (w.heap.size) 35 (.int .i64 (f)) (.int .i64 (u)) := Two.at (by simp) _ _ _
        have hBa1 : Below w.heap.size w (w.alloc (.cells #[.int .i64 (f), .int .i64 (u)] 35)) := hB0.alloc hB0.size _
        clear hB0
        have p_2 : Two ((w.alloc (.cells #[.int .i64 (f), .int .i64 (u)] 35)).alloc (.cells #[.int .i64 (g), .int .i64 (v)] 35)) (w.heap.size) 35 (.int .i64 (f)) (.int .i64 (u)) := p_1.alloc _
        clear p_1
        have q_2 : Two ((w.alloc (.cells #[.int .i64 (f), .int .i64 (u)] 35)).alloc (.cells #[.int .i64 (g), .int .i64 (v)] 35)) (w.heap.size + 1) 35 (.int .i64 (g)) (.int .i64 (v)) := Two.at (by simp) _ _ _
        have hBa2 : Below w.heap.size w ((w.alloc (.cells #[.int .i64 (f), .int .i64 (u)] 35)).alloc (.cells #[.int .i64 (g), .int .i64 (v)] 35)) := hBa1.alloc hBa1.size _
        clear hBa1
        go_wp2_with fail
        refine (head_any _ (hl.below hBa2)).mono ?_
        rintro r w1 ⟨rfl, hbc⟩
        have p_3 : Two w1 (w.heap.size) 35 (.int .i64 (f)) (.int .i64 (u)) := p_2.below hbc p_2.lt
        clear p_2
        have q_3 : Two w1 (w.heap.size + 1) 35 (.int .i64 (g)) (.int .i64 (v)) := q_2.below hbc q_2.lt
        clear q_2
        have hBa3 : Below w.heap.size w w1 := hBa2.trans (hbc.mono hBa2.size)
        clear hBa2 hbc
        obtain ⟨pf0, pf1, pf2, pf3⟩ := p_3.facts
        obtain ⟨qf0, qf1, qf2, qf3⟩ := q_3.facts
        go_wp2_with fail
        refine (C1.out _).mono ?_
        rintro r w2 ⟨rfl, hbc⟩
        clear pf0
        clear pf1
        clear pf2
        clear pf3
        clear qf0
        clear qf1
        clear qf2
        clear qf3
        have p_4 : Two w2 (w.heap.size) 35 (.int .i64 (f)) (.int .i64 (u)) := p_3.below hbc p_3.lt
        clear p_3
        have q_4 : Two w2 (w.heap.size + 1) 35 (.int .i64 (g)) (.int .i64 (v)) := q_3.below hbc q_3.lt
        clear q_3
        have hBa4 : Below w.heap.size w w2 := hBa3.trans (hbc.mono hBa3.size)
        clear hBa3 hbc
        have p_5 : Two (w2.alloc (.cells #[.int .i64 (c), .int .i64 (e)] 35)) (w.heap.size) 35 (.int .i64 (f)) (.int .i64 (u)) := p_4.alloc _
        clear p_4
        have q_5 : Two (w2.alloc (.cells #[.int .i64 (c), .int .i64 (e)] 35)) (w.heap.size + 1) 35 (.int .i64 (g)) (.int .i64 (v)) := q_4.alloc _
        clear q_4
        have c_5 : Two (w2.alloc (.cells #[.int .i64 (c), .int .i64 (e)] 35)) (w2.heap.size) 35 (.int .i64 (c)) (.int .i64 (e)) := Two.at (by simp) _ _ _
        have hBa5 : Below w.heap.size w (w2.alloc (.cells #[.int .i64 (c), .int .i64 (e)] 35)) := hBa4.alloc hBa4.size _
        clear hBa4
        obtain ⟨pf0, pf1, pf2, pf3⟩ := p_5.facts
        obtain ⟨qf0, qf1, qf2, qf3⟩ := q_5.facts
        obtain ⟨cf0, cf1, cf2, cf3⟩ := c_5.facts
        go_wp2_with fail
        refine (C2.out _).mono ?_
        rintro r w3 ⟨rfl, hbc⟩
        clear pf0
        clear pf1
        clear pf2
        clear pf3
        clear qf0
        clear qf1
        clear qf2
        clear qf3
        clear cf0
        clear cf1
        clear cf2
        clear cf3
        have p_6 : Two w3 (w.heap.size) 35 (.int .i64 (f)) (.int .i64 (u)) := p_5.below hbc p_5.lt
        clear p_5
        have q_6 : Two w3 (w.heap.size + 1) 35 (.int .i64 (g)) (.int .i64 (v)) := q_5.below hbc q_5.lt
        clear q_5
        have c_6 : Two w3 (w2.heap.size) 35 (.int .i64 (c)) (.int .i64 (e)) := c_5.below hbc c_5.lt
        clear c_5
        have hBa6 : Below w.heap.size w w3 := hBa5.trans (hbc.mono hBa5.size)
        clear hBa5 hbc
        have p_7 : Two (w3.alloc (.cells #[.int .i64 (c), .int .i64 (e)] 35)) (w.heap.size) 35 (.int .i64 (f)) (.int .i64 (u)) := p_6.alloc _
        clear p_6
        have q_7 : Two (w3.alloc (.cells #[.int .i64 (c), .int .i64 (e)] 35)) (w.heap.size + 1) 35 (.int .i64 (g)) (.int .i64 (v)) := q_6.alloc _
        clear q_6
        have c_7 : Two (w3.alloc (.cells #[.int .i64 (c), .int .i64 (e)] 35)) (w2.heap.size) 35 (.int .i64 (c)) (.int .i64 (e)) := c_6.alloc _
        clear c_6
        have d_7 : Two (w3.alloc (.cells #[.int .i64 (c), .int .i64 (e)] 35)) (w3.heap.size) 35 (.int .i64 (c)) (.int .i64 (e)) := Two.at (by simp) _ _ _
        have hBa7 : Below w.heap.size w (w3.alloc (.cells #[.int .i64 (c), .int .i64 (e)] 35)) := hBa6.alloc hBa6.size _
        clear hBa6
        obtain ⟨pf0, pf1, pf2, pf3⟩ := p_7.facts
        obtain ⟨qf0, qf1, qf2, qf3⟩ := q_7.facts
        obtain ⟨cf0, cf1, cf2, cf3⟩ := c_7.facts
        obtain ⟨df0, df1, df2, df3⟩ := d_7.facts
        go_wp2_with fail
        refine (HQ.out _).mono ?_
        rintro r w4 ⟨rfl, hbc⟩
        clear pf0
        clear pf1
        clear pf2
        clear pf3
        clear qf0
        clear qf1
        clear qf2
        clear qf3
        clear cf0
        clear cf1
        clear cf2
        clear cf3
        clear df0
        clear df1
        clear df2
        clear df3
        have p_8 : Two w4 (w.heap.size) 35 (.int .i64 (f)) (.int .i64 (u)) := p_7.below hbc p_7.lt
        clear p_7
        have q_8 : Two w4 (w.heap.size + 1) 35 (.int .i64 (g)) (.int .i64 (v)) := q_7.below hbc q_7.lt
        clear q_7
        have c_8 : Two w4 (w2.heap.size) 35 (.int .i64 (c)) (.int .i64 (e)) := c_7.below hbc c_7.lt
        clear c_7
        have d_8 : Two w4 (w3.heap.size) 35 (.int .i64 (c)) (.int .i64 (e)) := d_7.below hbc d_7.lt
        clear d_7
        have hBa8 : Below w.heap.size w w4 := hBa7.trans (hbc.mono hBa7.size)
        clear hBa7 hbc
        obtain ⟨pf0, pf1, pf2, pf3⟩ := p_8.facts
        obtain ⟨qf0, qf1, qf2, qf3⟩ := q_8.facts
        obtain ⟨cf0, cf1, cf2, cf3⟩ := c_8.facts
        obtain ⟨df0, df1, df2, df3⟩ := d_8.facts
        go_wp2_with fail
        refine (P1.out _).mono ?_
        rintro r w5 ⟨rfl, hbc⟩
        clear pf0
        clear pf1
        clear pf2
        clear pf3
        clear qf0
        clear qf1
        clear qf2
        clear qf3
        clear cf0
        clear cf1
        clear cf2
        clear cf3
        clear df0
        clear df1
        clear df2
        clear df3
        have p_9 : Two w5 (w.heap.size) 35 (.int .i64 (f)) (.int .i64 (u)) := p_8.below hbc p_8.lt
        clear p_8
        have q_9 : Two w5 (w.heap.size + 1) 35 (.int .i64 (g)) (.int .i64 (v)) := q_8.below hbc q_8.lt
        clear q_8
        have c_9 : Two w5 (w2.heap.size) 35 (.int .i64 (c)) (.int .i64 (e)) := c_8.below hbc c_8.lt
        clear c_8
        have d_9 : Two w5 (w3.heap.size) 35 (.int .i64 (c)) (.int .i64 (e)) := d_8.below hbc d_8.lt
        clear d_8
        have hBa9 : Below w.heap.size w w5 := hBa8.trans (hbc.mono hBa8.size)
        clear hBa8 hbc
        obtain ⟨pf0, pf1, pf2, pf3⟩ := p_9.facts
        obtain ⟨qf0, qf1, qf2, qf3⟩ := q_9.facts
        obtain ⟨cf0, cf1, cf2, cf3⟩ := c_9.facts
        obtain ⟨df0, df1, df2, df3⟩ := d_9.facts
        go_wp2_with fail
        refine (P2.out _).mono ?_
        rintro r w6 ⟨rfl, hbc⟩
        clear pf0
        clear pf1
        clear pf2
        clear pf3
        clear qf0
        clear qf1
        clear qf2
        clear qf3
        clear cf0
        clear cf1
        clear cf2
        clear cf3
        clear df0
        clear df1
        clear df2
        clear df3
        have p_10 : Two w6 (w.heap.size) 35 (.int .i64 (f)) (.int .i64 (u)) := p_9.below hbc p_9.lt
        clear p_9
        have q_10 : Two w6 (w.heap.size + 1) 35 (.int .i64 (g)) (.int .i64 (v)) := q_9.below hbc q_9.lt
        clear q_9
        have c_10 : Two w6 (w2.heap.size) 35 (.int .i64 (c)) (.int .i64 (e)) := c_9.below hbc c_9.lt
        clear c_9
        have d_10 : Two w6 (w3.heap.size) 35 (.int .i64 (c)) (.int .i64 (e)) := d_9.below hbc d_9.lt
        clear d_9
        have hBa10 : Below w.heap.size w w6 := hBa9.trans (hbc.mono hBa9.size)
        clear hBa9 hbc
        obtain ⟨pf0, pf1, pf2, pf3⟩ := p_10.facts
        obtain ⟨qf0, qf1, qf2, qf3⟩ := q_10.facts
        obtain ⟨cf0, cf1, cf2, cf3⟩ := c_10.facts
        obtain ⟨df0, df1, df2, df3⟩ := d_10.facts
        go_wp2_with fail
        refine (PC.out _).mono ?_
        rintro r w7 ⟨rfl, hbc⟩
        clear pf0
        clear pf1
        clear pf2
        clear pf3
        clear qf0
        clear qf1
        clear qf2
        clear qf3
        clear cf0
        clear cf1
        clear cf2
        clear cf3
        clear df0
        clear df1
        clear df2
        clear df3
        have p_11 : Two w7 (w.heap.size) 35 (.int .i64 (f)) (.int .i64 (u)) := p_10.below hbc p_10.lt
        clear p_10
        have q_11 : Two w7 (w.heap.size + 1) 35 (.int .i64 (g)) (.int .i64 (v)) := q_10.below hbc q_10.lt
        clear q_10
        have c_11 : Two w7 (w2.heap.size) 35 (.int .i64 (c)) (.int .i64 (e)) := c_10.below hbc c_10.lt
        clear c_10
        have d_11 : Two w7 (w3.heap.size) 35 (.int .i64 (c)) (.int .i64 (e)) := d_10.below hbc d_10.lt
        clear d_10
        have hBa11 : Below w.heap.size w w7 := hBa10.trans (hbc.mono hBa10.size)
        clear hBa10 hbc
        obtain ⟨pf0, pf1, pf2, pf3⟩ := p_11.facts
        obtain ⟨qf0, qf1, qf2, qf3⟩ := q_11.facts
        obtain ⟨cf0, cf1, cf2, cf3⟩ := c_11.facts
        obtain ⟨df0, df1, df2, df3⟩ := d_11.facts
        go_wp2_with fail
        refine (R1.out _).mono ?_
        rintro r w8 ⟨rfl, hbc⟩
        clear pf0
        clear pf1
        clear pf2
        clear pf3
        clear qf0
        clear qf1
        clear qf2
        clear qf3
        clear cf0
        clear cf1
        clear cf2
        clear cf3
        clear df0
        clear df1
        clear df2
        clear df3
        have p_12 : Two w8 (w.heap.size) 35 (.int .i64 (f)) (.int .i64 (u)) := p_11.below hbc p_11.lt
        clear p_11
        have q_12 : Two w8 (w.heap.size + 1) 35 (.int .i64 (g)) (.int .i64 (v)) := q_11.below hbc q_11.lt
        clear q_11
        have c_12 : Two w8 (w2.heap.size) 35 (.int .i64 (c)) (.int .i64 (e)) := c_11.below hbc c_11.lt
        clear c_11
        have d_12 : Two w8 (w3.heap.size) 35 (.int .i64 (c)) (.int .i64 (e)) := d_11.below hbc d_11.lt
        clear d_11
        have hBa12 : Below w.heap.size w w8 := hBa11.trans (hbc.mono hBa11.size)
        clear hBa11 hbc
        obtain ⟨pf0, pf1, pf2, pf3⟩ := p_12.facts
        obtain ⟨qf0, qf1, qf2, qf3⟩ := q_12.facts
        obtain ⟨cf0, cf1, cf2, cf3⟩ := c_12.facts
        obtain ⟨df0, df1, df2, df3⟩ := d_12.facts
        go_wp2_with fail
        refine (R2.out _).mono ?_
        rintro r w9 ⟨rfl, hbc⟩
        clear pf0
        clear pf1
        clear pf2
        clear pf3
        clear qf0
        clear qf1
        clear qf2
        clear qf3
        clear cf0
        clear cf1
        clear cf2
        clear cf3
        clear df0
        clear df1
        clear df2
        clear df3
        have p_13 : Two w9 (w.heap.size) 35 (.int .i64 (f)) (.int .i64 (u)) := p_12.below hbc p_12.lt
        clear p_12
        have q_13 : Two w9 (w.heap.size + 1) 35 (.int .i64 (g)) (.int .i64 (v)) := q_12.below hbc q_12.lt
        clear q_12
        have c_13 : Two w9 (w2.heap.size) 35 (.int .i64 (c)) (.int .i64 (e)) := c_12.below hbc c_12.lt
        clear c_12
        have d_13 : Two w9 (w3.heap.size) 35 (.int .i64 (c)) (.int .i64 (e)) := d_12.below hbc d_12.lt
        clear d_12
        have hBa13 : Below w.heap.size w w9 := hBa12.trans (hbc.mono hBa12.size)
        clear hBa12 hbc
        obtain ⟨pf0, pf1, pf2, pf3⟩ := p_13.facts
        obtain ⟨qf0, qf1, qf2, qf3⟩ := q_13.facts
        obtain ⟨cf0, cf1, cf2, cf3⟩ := c_13.facts
        obtain ⟨df0, df1, df2, df3⟩ := d_13.facts
        go_wp2_with fail
        go_ret
        exact ⟨rfl, hBa13⟩
      · have h3 : ¬ inP (c, e) x := fun k => h2 (hiff.2 ⟨rfl, k⟩).2
        rw [decide_eq_true h1] at P1
        rw [decide_eq_false h2] at P2
        rw [decide_eq_false h3] at PC
        clear hr1 hr2 hsome hiff hprop h1 h2 h3
        go_enter Tryd.func10, Tryd.ntmps10
        have hB0 : Below w.heap.size w w := Below.refl w.heap.size w
        have p_1 : Two (w.alloc (.cells #[.int .i64 (f), .int .i64 (u)] 35)) (w.heap.size) 35 (.int .i64 (f)) (.int .i64 (u)) := Two.at (by simp) _ _ _
        have hBa1 : Below w.heap.size w (w.alloc (.cells #[.int .i64 (f), .int .i64 (u)] 35)) := hB0.alloc hB0.size _
        clear hB0
        have p_2 : Two ((w.alloc (.cells #[.int .i64 (f), .int .i64 (u)] 35)).alloc (.cells #[.int .i64 (g), .int .i64 (v)] 35)) (w.heap.size) 35 (.int .i64 (f)) (.int .i64 (u)) := p_1.alloc _
        clear p_1
        have q_2 : Two ((w.alloc (.cells #[.int .i64 (f), .int .i64 (u)] 35)).alloc (.cells #[.int .i64 (g), .int .i64 (v)] 35)) (w.heap.size + 1) 35 (.int .i64 (g)) (.int .i64 (v)) := Two.at (by simp) _ _ _
        have hBa2 : Below w.heap.size w ((w.alloc (.cells #[.int .i64 (f), .int .i64 (u)] 35)).alloc (.cells #[.int .i64 (g), .int .i64 (v)] 35)) := hBa1.alloc hBa1.size _
        clear hBa1
        go_wp2_with fail
        refine (head_any _ (hl.below hBa2)).mono ?_
        rintro r w1 ⟨rfl, hbc⟩
        have p_3 : Two w1 (w.heap.size) 35 (.int .i64 (f)) (.int .i64 (u)) := p_2.below hbc p_2.lt
        clear p_2
        have q_3 : Two w1 (w.heap.size + 1) 35 (.int .i64 (g)) (.int .i64 (v)) := q_2.below hbc q_2.lt
        clear q_2
        have hBa3 : Below w.heap.size w w1 := hBa2.trans (hbc.mono hBa2.size)
        clear hBa2 hbc
        obtain ⟨pf0, pf1, pf2, pf3⟩ := p_3.facts
        obtain ⟨qf0, qf1, qf2, qf3⟩ := q_3.facts
        go_wp2_with fail
        refine (C1.out _).mono ?_
        rintro r w2 ⟨rfl, hbc⟩
        clear pf0
        clear pf1
        clear pf2
        clear pf3
        clear qf0
        clear qf1
        clear qf2
        clear qf3
        have p_4 : Two w2 (w.heap.size) 35 (.int .i64 (f)) (.int .i64 (u)) := p_3.below hbc p_3.lt
        clear p_3
        have q_4 : Two w2 (w.heap.size + 1) 35 (.int .i64 (g)) (.int .i64 (v)) := q_3.below hbc q_3.lt
        clear q_3
        have hBa4 : Below w.heap.size w w2 := hBa3.trans (hbc.mono hBa3.size)
        clear hBa3 hbc
        have p_5 : Two (w2.alloc (.cells #[.int .i64 (c), .int .i64 (e)] 35)) (w.heap.size) 35 (.int .i64 (f)) (.int .i64 (u)) := p_4.alloc _
        clear p_4
        have q_5 : Two (w2.alloc (.cells #[.int .i64 (c), .int .i64 (e)] 35)) (w.heap.size + 1) 35 (.int .i64 (g)) (.int .i64 (v)) := q_4.alloc _
        clear q_4
        have c_5 : Two (w2.alloc (.cells #[.int .i64 (c), .int .i64 (e)] 35)) (w2.heap.size) 35 (.int .i64 (c)) (.int .i64 (e)) := Two.at (by simp) _ _ _
        have hBa5 : Below w.heap.size w (w2.alloc (.cells #[.int .i64 (c), .int .i64 (e)] 35)) := hBa4.alloc hBa4.size _
        clear hBa4
        obtain ⟨pf0, pf1, pf2, pf3⟩ := p_5.facts
        obtain ⟨qf0, qf1, qf2, qf3⟩ := q_5.facts
        obtain ⟨cf0, cf1, cf2, cf3⟩ := c_5.facts
        go_wp2_with fail
        refine (C2.out _).mono ?_
        rintro r w3 ⟨rfl, hbc⟩
        clear pf0
        clear pf1
        clear pf2
        clear pf3
        clear qf0
        clear qf1
        clear qf2
        clear qf3
        clear cf0
        clear cf1
        clear cf2
        clear cf3
        have p_6 : Two w3 (w.heap.size) 35 (.int .i64 (f)) (.int .i64 (u)) := p_5.below hbc p_5.lt
        clear p_5
        have q_6 : Two w3 (w.heap.size + 1) 35 (.int .i64 (g)) (.int .i64 (v)) := q_5.below hbc q_5.lt
        clear q_5
        have c_6 : Two w3 (w2.heap.size) 35 (.int .i64 (c)) (.int .i64 (e)) := c_5.below hbc c_5.lt
        clear c_5
        have hBa6 : Below w.heap.size w w3 := hBa5.trans (hbc.mono hBa5.size)
        clear hBa5 hbc
        have p_7 : Two (w3.alloc (.cells #[.int .i64 (c), .int .i64 (e)] 35)) (w.heap.size) 35 (.int .i64 (f)) (.int .i64 (u)) := p_6.alloc _
        clear p_6
        have q_7 : Two (w3.alloc (.cells #[.int .i64 (c), .int .i64 (e)] 35)) (w.heap.size + 1) 35 (.int .i64 (g)) (.int .i64 (v)) := q_6.alloc _
        clear q_6
        have c_7 : Two (w3.alloc (.cells #[.int .i64 (c), .int .i64 (e)] 35)) (w2.heap.size) 35 (.int .i64 (c)) (.int .i64 (e)) := c_6.alloc _
        clear c_6
        have d_7 : Two (w3.alloc (.cells #[.int .i64 (c), .int .i64 (e)] 35)) (w3.heap.size) 35 (.int .i64 (c)) (.int .i64 (e)) := Two.at (by simp) _ _ _
        have hBa7 : Below w.heap.size w (w3.alloc (.cells #[.int .i64 (c), .int .i64 (e)] 35)) := hBa6.alloc hBa6.size _
        clear hBa6
        obtain ⟨pf0, pf1, pf2, pf3⟩ := p_7.facts
        obtain ⟨qf0, qf1, qf2, qf3⟩ := q_7.facts
        obtain ⟨cf0, cf1, cf2, cf3⟩ := c_7.facts
        obtain ⟨df0, df1, df2, df3⟩ := d_7.facts
        go_wp2_with fail
        refine (HQ.out _).mono ?_
        rintro r w4 ⟨rfl, hbc⟩
        clear pf0
        clear pf1
        clear pf2
        clear pf3
        clear qf0
        clear qf1
        clear qf2
        clear qf3
        clear cf0
        clear cf1
        clear cf2
        clear cf3
        clear df0
        clear df1
        clear df2
        clear df3
        have p_8 : Two w4 (w.heap.size) 35 (.int .i64 (f)) (.int .i64 (u)) := p_7.below hbc p_7.lt
        clear p_7
        have q_8 : Two w4 (w.heap.size + 1) 35 (.int .i64 (g)) (.int .i64 (v)) := q_7.below hbc q_7.lt
        clear q_7
        have c_8 : Two w4 (w2.heap.size) 35 (.int .i64 (c)) (.int .i64 (e)) := c_7.below hbc c_7.lt
        clear c_7
        have d_8 : Two w4 (w3.heap.size) 35 (.int .i64 (c)) (.int .i64 (e)) := d_7.below hbc d_7.lt
        clear d_7
        have hBa8 : Below w.heap.size w w4 := hBa7.trans (hbc.mono hBa7.size)
        clear hBa7 hbc
        obtain ⟨pf0, pf1, pf2, pf3⟩ := p_8.facts
        obtain ⟨qf0, qf1, qf2, qf3⟩ := q_8.facts
        obtain ⟨cf0, cf1, cf2, cf3⟩ := c_8.facts
        obtain ⟨df0, df1, df2, df3⟩ := d_8.facts
        go_wp2_with fail
        refine (P1.out _).mono ?_
        rintro r w5 ⟨rfl, hbc⟩
        clear pf0
        clear pf1
        clear pf2
        clear pf3
        clear qf0
        clear qf1
        clear qf2
        clear qf3
        clear cf0
        clear cf1
        clear cf2
        clear cf3
        clear df0
        clear df1
        clear df2
        clear df3
        have p_9 : Two w5 (w.heap.size) 35 (.int .i64 (f)) (.int .i64 (u)) := p_8.below hbc p_8.lt
        clear p_8
        have q_9 : Two w5 (w.heap.size + 1) 35 (.int .i64 (g)) (.int .i64 (v)) := q_8.below hbc q_8.lt
        clear q_8
        have c_9 : Two w5 (w2.heap.size) 35 (.int .i64 (c)) (.int .i64 (e)) := c_8.below hbc c_8.lt
        clear c_8
        have d_9 : Two w5 (w3.heap.size) 35 (.int .i64 (c)) (.int .i64 (e)) := d_8.below hbc d_8.lt
        clear d_8
        have hBa9 : Below w.heap.size w w5 := hBa8.trans (hbc.mono hBa8.size)
        clear hBa8 hbc
        obtain ⟨pf0, pf1, pf2, pf3⟩ := p_9.facts
        obtain ⟨qf0, qf1, qf2, qf3⟩ := q_9.facts
        obtain ⟨cf0, cf1, cf2, cf3⟩ := c_9.facts
        obtain ⟨df0, df1, df2, df3⟩ := d_9.facts
        go_wp2_with fail
        refine (P2.out _).mono ?_
        rintro r w6 ⟨rfl, hbc⟩
        clear pf0
        clear pf1
        clear pf2
        clear pf3
        clear qf0
        clear qf1
        clear qf2
        clear qf3
        clear cf0
        clear cf1
        clear cf2
        clear cf3
        clear df0
        clear df1
        clear df2
        clear df3
        have p_10 : Two w6 (w.heap.size) 35 (.int .i64 (f)) (.int .i64 (u)) := p_9.below hbc p_9.lt
        clear p_9
        have q_10 : Two w6 (w.heap.size + 1) 35 (.int .i64 (g)) (.int .i64 (v)) := q_9.below hbc q_9.lt
        clear q_9
        have c_10 : Two w6 (w2.heap.size) 35 (.int .i64 (c)) (.int .i64 (e)) := c_9.below hbc c_9.lt
        clear c_9
        have d_10 : Two w6 (w3.heap.size) 35 (.int .i64 (c)) (.int .i64 (e)) := d_9.below hbc d_9.lt
        clear d_9
        have hBa10 : Below w.heap.size w w6 := hBa9.trans (hbc.mono hBa9.size)
        clear hBa9 hbc
        obtain ⟨pf0, pf1, pf2, pf3⟩ := p_10.facts
        obtain ⟨qf0, qf1, qf2, qf3⟩ := q_10.facts
        obtain ⟨cf0, cf1, cf2, cf3⟩ := c_10.facts
        obtain ⟨df0, df1, df2, df3⟩ := d_10.facts
        go_wp2_with fail
        refine (PC.out _).mono ?_
        rintro r w7 ⟨rfl, hbc⟩
        clear pf0
        clear pf1
        clear pf2
        clear pf3
        clear qf0
        clear qf1
        clear qf2
        clear qf3
        clear cf0
        clear cf1
        clear cf2
        clear cf3
        clear df0
        clear df1
        clear df2
        clear df3
        have p_11 : Two w7 (w.heap.size) 35 (.int .i64 (f)) (.int .i64 (u)) := p_10.below hbc p_10.lt
        clear p_10
        have q_11 : Two w7 (w.heap.size + 1) 35 (.int .i64 (g)) (.int .i64 (v)) := q_10.below hbc q_10.lt
        clear q_10
        have c_11 : Two w7 (w2.heap.size) 35 (.int .i64 (c)) (.int .i64 (e)) := c_10.below hbc c_10.lt
        clear c_10
        have d_11 : Two w7 (w3.heap.size) 35 (.int .i64 (c)) (.int .i64 (e)) := d_10.below hbc d_10.lt
        clear d_10
        have hBa11 : Below w.heap.size w w7 := hBa10.trans (hbc.mono hBa10.size)
        clear hBa10 hbc
        obtain ⟨pf0, pf1, pf2, pf3⟩ := p_11.facts
        obtain ⟨qf0, qf1, qf2, qf3⟩ := q_11.facts
        obtain ⟨cf0, cf1, cf2, cf3⟩ := c_11.facts
        obtain ⟨df0, df1, df2, df3⟩ := d_11.facts
        go_wp2_with fail
        refine (R1.out _).mono ?_
        rintro r w8 ⟨rfl, hbc⟩
        clear pf0
        clear pf1
        clear pf2
        clear pf3
        clear qf0
        clear qf1
        clear qf2
        clear qf3
        clear cf0
        clear cf1
        clear cf2
        clear cf3
        clear df0
        clear df1
        clear df2
        clear df3
        have p_12 : Two w8 (w.heap.size) 35 (.int .i64 (f)) (.int .i64 (u)) := p_11.below hbc p_11.lt
        clear p_11
        have q_12 : Two w8 (w.heap.size + 1) 35 (.int .i64 (g)) (.int .i64 (v)) := q_11.below hbc q_11.lt
        clear q_11
        have c_12 : Two w8 (w2.heap.size) 35 (.int .i64 (c)) (.int .i64 (e)) := c_11.below hbc c_11.lt
        clear c_11
        have d_12 : Two w8 (w3.heap.size) 35 (.int .i64 (c)) (.int .i64 (e)) := d_11.below hbc d_11.lt
        clear d_11
        have hBa12 : Below w.heap.size w w8 := hBa11.trans (hbc.mono hBa11.size)
        clear hBa11 hbc
        obtain ⟨pf0, pf1, pf2, pf3⟩ := p_12.facts
        obtain ⟨qf0, qf1, qf2, qf3⟩ := q_12.facts
        obtain ⟨cf0, cf1, cf2, cf3⟩ := c_12.facts
        obtain ⟨df0, df1, df2, df3⟩ := d_12.facts
        go_wp2_with fail
        refine (R2.out _).mono ?_
        rintro r w9 ⟨rfl, hbc⟩
        clear pf0
        clear pf1
        clear pf2
        clear pf3
        clear qf0
        clear qf1
        clear qf2
        clear qf3
        clear cf0
        clear cf1
        clear cf2
        clear cf3
        clear df0
        clear df1
        clear df2
        clear df3
        have p_13 : Two w9 (w.heap.size) 35 (.int .i64 (f)) (.int .i64 (u)) := p_12.below hbc p_12.lt
        clear p_12
        have q_13 : Two w9 (w.heap.size + 1) 35 (.int .i64 (g)) (.int .i64 (v)) := q_12.below hbc q_12.lt
        clear q_12
        have c_13 : Two w9 (w2.heap.size) 35 (.int .i64 (c)) (.int .i64 (e)) := c_12.below hbc c_12.lt
        clear c_12
        have d_13 : Two w9 (w3.heap.size) 35 (.int .i64 (c)) (.int .i64 (e)) := d_12.below hbc d_12.lt
        clear d_12
        have hBa13 : Below w.heap.size w w9 := hBa12.trans (hbc.mono hBa12.size)
        clear hBa12 hbc
        obtain ⟨pf0, pf1, pf2, pf3⟩ := p_13.facts
        obtain ⟨qf0, qf1, qf2, qf3⟩ := q_13.facts
        obtain ⟨cf0, cf1, cf2, cf3⟩ := c_13.facts
        obtain ⟨df0, df1, df2, df3⟩ := d_13.facts
        go_wp2_with fail
        go_ret
        exact ⟨rfl, hBa13⟩
    · have h3 : ¬ inP (c, e) x := fun k => h1 (hiff.2 ⟨rfl, k⟩).1
      rw [decide_eq_false h1] at P1
      rw [decide_eq_false h3] at PC
      clear hr1 hr2 hsome hiff hprop h1 h3
      go_enter Tryd.func10, Tryd.ntmps10
      have hB0 : Below w.heap.size w w := Below.refl w.heap.size w
      have p_1 : Two (w.alloc (.cells #[.int .i64 (f), .int .i64 (u)] 35)) (w.heap.size) 35 (.int .i64 (f)) (.int .i64 (u)) := Two.at (by simp) _ _ _
      have hBa1 : Below w.heap.size w (w.alloc (.cells #[.int .i64 (f), .int .i64 (u)] 35)) := hB0.alloc hB0.size _
      clear hB0
      have p_2 : Two ((w.alloc (.cells #[.int .i64 (f), .int .i64 (u)] 35)).alloc (.cells #[.int .i64 (g), .int .i64 (v)] 35)) (w.heap.size) 35 (.int .i64 (f)) (.int .i64 (u)) := p_1.alloc _
      clear p_1
      have q_2 : Two ((w.alloc (.cells #[.int .i64 (f), .int .i64 (u)] 35)).alloc (.cells #[.int .i64 (g), .int .i64 (v)] 35)) (w.heap.size + 1) 35 (.int .i64 (g)) (.int .i64 (v)) := Two.at (by simp) _ _ _
      have hBa2 : Below w.heap.size w ((w.alloc (.cells #[.int .i64 (f), .int .i64 (u)] 35)).alloc (.cells #[.int .i64 (g), .int .i64 (v)] 35)) := hBa1.alloc hBa1.size _
      clear hBa1
      go_wp2_with fail
      refine (head_any _ (hl.below hBa2)).mono ?_
      rintro r w1 ⟨rfl, hbc⟩
      have p_3 : Two w1 (w.heap.size) 35 (.int .i64 (f)) (.int .i64 (u)) := p_2.below hbc p_2.lt
      clear p_2
      have q_3 : Two w1 (w.heap.size + 1) 35 (.int .i64 (g)) (.int .i64 (v)) := q_2.below hbc q_2.lt
      clear q_2
      have hBa3 : Below w.heap.size w w1 := hBa2.trans (hbc.mono hBa2.size)
      clear hBa2 hbc
      obtain ⟨pf0, pf1, pf2, pf3⟩ := p_3.facts
      obtain ⟨qf0, qf1, qf2, qf3⟩ := q_3.facts
      go_wp2_with fail
      refine (C1.out _).mono ?_
      rintro r w2 ⟨rfl, hbc⟩
      clear pf0
      clear pf1
      clear pf2
      clear pf3
      clear qf0
      clear qf1
      clear qf2
      clear qf3
      have p_4 : Two w2 (w.heap.size) 35 (.int .i64 (f)) (.int .i64 (u)) := p_3.below hbc p_3.lt
      clear p_3
      have q_4 : Two w2 (w.heap.size + 1) 35 (.int .i64 (g)) (.int .i64 (v)) := q_3.below hbc q_3.lt
      clear q_3
      have hBa4 : Below w.heap.size w w2 := hBa3.trans (hbc.mono hBa3.size)
      clear hBa3 hbc
      have p_5 : Two (w2.alloc (.cells #[.int .i64 (c), .int .i64 (e)] 35)) (w.heap.size) 35 (.int .i64 (f)) (.int .i64 (u)) := p_4.alloc _
      clear p_4
      have q_5 : Two (w2.alloc (.cells #[.int .i64 (c), .int .i64 (e)] 35)) (w.heap.size + 1) 35 (.int .i64 (g)) (.int .i64 (v)) := q_4.alloc _
      clear q_4
      have c_5 : Two (w2.alloc (.cells #[.int .i64 (c), .int .i64 (e)] 35)) (w2.heap.size) 35 (.int .i64 (c)) (.int .i64 (e)) := Two.at (by simp) _ _ _
      have hBa5 : Below w.heap.size w (w2.alloc (.cells #[.int .i64 (c), .int .i64 (e)] 35)) := hBa4.alloc hBa4.size _
      clear hBa4
      obtain ⟨pf0, pf1, pf2, pf3⟩ := p_5.facts
      obtain ⟨qf0, qf1, qf2, qf3⟩ := q_5.facts
      obtain ⟨cf0, cf1, cf2, cf3⟩ := c_5.facts
      go_wp2_with fail
      refine (C2.out _).mono ?_
      rintro r w3 ⟨rfl, hbc⟩
      clear pf0
      clear pf1
      clear pf2
      clear pf3
      clear qf0
      clear qf1
      clear qf2
      clear qf3
      clear cf0
      clear cf1
      clear cf2
      clear cf3
      have p_6 : Two w3 (w.heap.size) 35 (.int .i64 (f)) (.int .i64 (u)) := p_5.below hbc p_5.lt
      clear p_5
      have q_6 : Two w3 (w.heap.size + 1) 35 (.int .i64 (g)) (.int .i64 (v)) := q_5.below hbc q_5.lt
      clear q_5
      have c_6 : Two w3 (w2.heap.size) 35 (.int .i64 (c)) (.int .i64 (e)) := c_5.below hbc c_5.lt
      clear c_5
      have hBa6 : Below w.heap.size w w3 := hBa5.trans (hbc.mono hBa5.size)
      clear hBa5 hbc
      have p_7 : Two (w3.alloc (.cells #[.int .i64 (c), .int .i64 (e)] 35)) (w.heap.size) 35 (.int .i64 (f)) (.int .i64 (u)) := p_6.alloc _
      clear p_6
      have q_7 : Two (w3.alloc (.cells #[.int .i64 (c), .int .i64 (e)] 35)) (w.heap.size + 1) 35 (.int .i64 (g)) (.int .i64 (v)) := q_6.alloc _
      clear q_6
      have c_7 : Two (w3.alloc (.cells #[.int .i64 (c), .int .i64 (e)] 35)) (w2.heap.size) 35 (.int .i64 (c)) (.int .i64 (e)) := c_6.alloc _
      clear c_6
      have d_7 : Two (w3.alloc (.cells #[.int .i64 (c), .int .i64 (e)] 35)) (w3.heap.size) 35 (.int .i64 (c)) (.int .i64 (e)) := Two.at (by simp) _ _ _
      have hBa7 : Below w.heap.size w (w3.alloc (.cells #[.int .i64 (c), .int .i64 (e)] 35)) := hBa6.alloc hBa6.size _
      clear hBa6
      obtain ⟨pf0, pf1, pf2, pf3⟩ := p_7.facts
      obtain ⟨qf0, qf1, qf2, qf3⟩ := q_7.facts
      obtain ⟨cf0, cf1, cf2, cf3⟩ := c_7.facts
      obtain ⟨df0, df1, df2, df3⟩ := d_7.facts
      go_wp2_with fail
      refine (HQ.out _).mono ?_
      rintro r w4 ⟨rfl, hbc⟩
      clear pf0
      clear pf1
      clear pf2
      clear pf3
      clear qf0
      clear qf1
      clear qf2
      clear qf3
      clear cf0
      clear cf1
      clear cf2
      clear cf3
      clear df0
      clear df1
      clear df2
      clear df3
      have p_8 : Two w4 (w.heap.size) 35 (.int .i64 (f)) (.int .i64 (u)) := p_7.below hbc p_7.lt
      clear p_7
      have q_8 : Two w4 (w.heap.size + 1) 35 (.int .i64 (g)) (.int .i64 (v)) := q_7.below hbc q_7.lt
      clear q_7
      have c_8 : Two w4 (w2.heap.size) 35 (.int .i64 (c)) (.int .i64 (e)) := c_7.below hbc c_7.lt
      clear c_7
      have d_8 : Two w4 (w3.heap.size) 35 (.int .i64 (c)) (.int .i64 (e)) := d_7.below hbc d_7.lt
      clear d_7
      have hBa8 : Below w.heap.size w w4 := hBa7.trans (hbc.mono hBa7.size)
      clear hBa7 hbc
      obtain ⟨pf0, pf1, pf2, pf3⟩ := p_8.facts
      obtain ⟨qf0, qf1, qf2, qf3⟩ := q_8.facts
      obtain ⟨cf0, cf1, cf2, cf3⟩ := c_8.facts
      obtain ⟨df0, df1, df2, df3⟩ := d_8.facts
      go_wp2_with fail
      refine (P1.out _).mono ?_
      rintro r w5 ⟨rfl, hbc⟩
      clear pf0
      clear pf1
      clear pf2
      clear pf3
      clear qf0
      clear qf1
      clear qf2
      clear qf3
      clear cf0
      clear cf1
      clear cf2
      clear cf3
      clear df0
      clear df1
      clear df2
      clear df3
      have p_9 : Two w5 (w.heap.size) 35 (.int .i64 (f)) (.int .i64 (u)) := p_8.below hbc p_8.lt
      clear p_8
      have q_9 : Two w5 (w.heap.size + 1) 35 (.int .i64 (g)) (.int .i64 (v)) := q_8.below hbc q_8.lt
      clear q_8
      have c_9 : Two w5 (w2.heap.size) 35 (.int .i64 (c)) (.int .i64 (e)) := c_8.below hbc c_8.lt
      clear c_8
      have d_9 : Two w5 (w3.heap.size) 35 (.int .i64 (c)) (.int .i64 (e)) := d_8.below hbc d_8.lt
      clear d_8
      have hBa9 : Below w.heap.size w w5 := hBa8.trans (hbc.mono hBa8.size)
      clear hBa8 hbc
      obtain ⟨pf0, pf1, pf2, pf3⟩ := p_9.facts
      obtain ⟨qf0, qf1, qf2, qf3⟩ := q_9.facts
      obtain ⟨cf0, cf1, cf2, cf3⟩ := c_9.facts
      obtain ⟨df0, df1, df2, df3⟩ := d_9.facts
      go_wp2_with fail
      refine (PC.out _).mono ?_
      rintro r w6 ⟨rfl, hbc⟩
      clear pf0
      clear pf1
      clear pf2
      clear pf3
      clear qf0
      clear qf1
      clear qf2
      clear qf3
      clear cf0
      clear cf1
      clear cf2
      clear cf3
      clear df0
      clear df1
      clear df2
      clear df3
      have p_10 : Two w6 (w.heap.size) 35 (.int .i64 (f)) (.int .i64 (u)) := p_9.below hbc p_9.lt
      clear p_9
      have q_10 : Two w6 (w.heap.size + 1) 35 (.int .i64 (g)) (.int .i64 (v)) := q_9.below hbc q_9.lt
      clear q_9
      have c_10 : Two w6 (w2.heap.size) 35 (.int .i64 (c)) (.int .i64 (e)) := c_9.below hbc c_9.lt
      clear c_9
      have d_10 : Two w6 (w3.heap.size) 35 (.int .i64 (c)) (.int .i64 (e)) := d_9.below hbc d_9.lt
      clear d_9
      have hBa10 : Below w.heap.size w w6 := hBa9.trans (hbc.mono hBa9.size)
      clear hBa9 hbc
      obtain ⟨pf0, pf1, pf2, pf3⟩ := p_10.facts
      obtain ⟨qf0, qf1, qf2, qf3⟩ := q_10.facts
      obtain ⟨cf0, cf1, cf2, cf3⟩ := c_10.facts
      obtain ⟨df0, df1, df2, df3⟩ := d_10.facts
      go_wp2_with fail
      refine (R1.out _).mono ?_
      rintro r w7 ⟨rfl, hbc⟩
      clear pf0
      clear pf1
      clear pf2
      clear pf3
      clear qf0
      clear qf1
      clear qf2
      clear qf3
      clear cf0
      clear cf1
      clear cf2
      clear cf3
      clear df0
      clear df1
      clear df2
      clear df3
      have p_11 : Two w7 (w.heap.size) 35 (.int .i64 (f)) (.int .i64 (u)) := p_10.below hbc p_10.lt
      clear p_10
      have q_11 : Two w7 (w.heap.size + 1) 35 (.int .i64 (g)) (.int .i64 (v)) := q_10.below hbc q_10.lt
      clear q_10
      have c_11 : Two w7 (w2.heap.size) 35 (.int .i64 (c)) (.int .i64 (e)) := c_10.below hbc c_10.lt
      clear c_10
      have d_11 : Two w7 (w3.heap.size) 35 (.int .i64 (c)) (.int .i64 (e)) := d_10.below hbc d_10.lt
      clear d_10
      have hBa11 : Below w.heap.size w w7 := hBa10.trans (hbc.mono hBa10.size)
      clear hBa10 hbc
      obtain ⟨pf0, pf1, pf2, pf3⟩ := p_11.facts
      obtain ⟨qf0, qf1, qf2, qf3⟩ := q_11.facts
      obtain ⟨cf0, cf1, cf2, cf3⟩ := c_11.facts
      obtain ⟨df0, df1, df2, df3⟩ := d_11.facts
      go_wp2_with fail
      refine (R2.out _).mono ?_
      rintro r w8 ⟨rfl, hbc⟩
      clear pf0
      clear pf1
      clear pf2
      clear pf3
      clear qf0
      clear qf1
      clear qf2
      clear qf3
      clear cf0
      clear cf1
      clear cf2
      clear cf3
      clear df0
      clear df1
      clear df2
      clear df3
      have p_12 : Two w8 (w.heap.size) 35 (.int .i64 (f)) (.int .i64 (u)) := p_11.below hbc p_11.lt
      clear p_11
      have q_12 : Two w8 (w.heap.size + 1) 35 (.int .i64 (g)) (.int .i64 (v)) := q_11.below hbc q_11.lt
      clear q_11
      have c_12 : Two w8 (w2.heap.size) 35 (.int .i64 (c)) (.int .i64 (e)) := c_11.below hbc c_11.lt
      clear c_11
      have d_12 : Two w8 (w3.heap.size) 35 (.int .i64 (c)) (.int .i64 (e)) := d_11.below hbc d_11.lt
      clear d_11
      have hBa12 : Below w.heap.size w w8 := hBa11.trans (hbc.mono hBa11.size)
      clear hBa11 hbc
      obtain ⟨pf0, pf1, pf2, pf3⟩ := p_12.facts
      obtain ⟨qf0, qf1, qf2, qf3⟩ := q_12.facts
      obtain ⟨cf0, cf1, cf2, cf3⟩ := c_12.facts
      obtain ⟨df0, df1, df2, df3⟩ := d_12.facts
      go_wp2_with fail
      go_ret
      exact ⟨rfl, hBa12⟩
  · simp only [Prod.mk.injEq] at hz
    obtain ⟨⟨rfl, rfl⟩, rfl⟩ := hz
    by_cases h1 : inP (f, u) x
    · have h2 : ¬ inP (g, v) x := fun k => by have := (hiff.1 ⟨h1, k⟩).1; cases this
      rw [decide_eq_true h1] at P1
      rw [decide_eq_false h2] at P2
      by_cases k1 : inP (f, u) (max f g)
      · have k2 : ¬ inP (g, v) (max f g) := fun k => by have := hsome.2 ⟨k1, k⟩; cases this
        rw [decide_eq_true k1] at R1
        rw [decide_eq_false k2] at R2
        clear hsome hiff h1 h2 k1 k2
        go_enter Tryd.func10, Tryd.ntmps10
        have hB0 : Below w.heap.size w w := Below.refl w.heap.size w
        have p_1 : Two (w.alloc (.cells #[.int .i64 (f), .int .i64 (u)] 35)) (w.heap.size) 35 (.int .i64 (f)) (.int .i64 (u)) := Two.at (by simp) _ _ _
        have hBa1 : Below w.heap.size w (w.alloc (.cells #[.int .i64 (f), .int .i64 (u)] 35)) := hB0.alloc hB0.size _
        clear hB0
        have p_2 : Two ((w.alloc (.cells #[.int .i64 (f), .int .i64 (u)] 35)).alloc (.cells #[.int .i64 (g), .int .i64 (v)] 35)) (w.heap.size) 35 (.int .i64 (f)) (.int .i64 (u)) := p_1.alloc _
        clear p_1
        have q_2 : Two ((w.alloc (.cells #[.int .i64 (f), .int .i64 (u)] 35)).alloc (.cells #[.int .i64 (g), .int .i64 (v)] 35)) (w.heap.size + 1) 35 (.int .i64 (g)) (.int .i64 (v)) := Two.at (by simp) _ _ _
        have hBa2 : Below w.heap.size w ((w.alloc (.cells #[.int .i64 (f), .int .i64 (u)] 35)).alloc (.cells #[.int .i64 (g), .int .i64 (v)] 35)) := hBa1.alloc hBa1.size _
        clear hBa1
        go_wp2_with fail
        refine (head_any _ (hl.below hBa2)).mono ?_
        rintro r w1 ⟨rfl, hbc⟩
        have p_3 : Two w1 (w.heap.size) 35 (.int .i64 (f)) (.int .i64 (u)) := p_2.below hbc p_2.lt
        clear p_2
        have q_3 : Two w1 (w.heap.size + 1) 35 (.int .i64 (g)) (.int .i64 (v)) := q_2.below hbc q_2.lt
        clear q_2
        have hBa3 : Below w.heap.size w w1 := hBa2.trans (hbc.mono hBa2.size)
        clear hBa2 hbc
        obtain ⟨pf0, pf1, pf2, pf3⟩ := p_3.facts
        obtain ⟨qf0, qf1, qf2, qf3⟩ := q_3.facts
        go_wp2_with fail
        refine (C1.out _).mono ?_
        rintro r w2 ⟨rfl, hbc⟩
        clear pf0
        clear pf1
        clear pf2
        clear pf3
        clear qf0
        clear qf1
        clear qf2
        clear qf3
        have p_4 : Two w2 (w.heap.size) 35 (.int .i64 (f)) (.int .i64 (u)) := p_3.below hbc p_3.lt
        clear p_3
        have q_4 : Two w2 (w.heap.size + 1) 35 (.int .i64 (g)) (.int .i64 (v)) := q_3.below hbc q_3.lt
        clear q_3
        have hBa4 : Below w.heap.size w w2 := hBa3.trans (hbc.mono hBa3.size)
        clear hBa3 hbc
        have p_5 : Two (w2.alloc (.cells #[.int .i64 (0), .int .i64 (0)] 35)) (w.heap.size) 35 (.int .i64 (f)) (.int .i64 (u)) := p_4.alloc _
        clear p_4
        have q_5 : Two (w2.alloc (.cells #[.int .i64 (0), .int .i64 (0)] 35)) (w.heap.size + 1) 35 (.int .i64 (g)) (.int .i64 (v)) := q_4.alloc _
        clear q_4
        have c_5 : Two (w2.alloc (.cells #[.int .i64 (0), .int .i64 (0)] 35)) (w2.heap.size) 35 (.int .i64 (0)) (.int .i64 (0)) := Two.at (by simp) _ _ _
        have hBa5 : Below w.heap.size w (w2.alloc (.cells #[.int .i64 (0), .int .i64 (0)] 35)) := hBa4.alloc hBa4.size _
        clear hBa4
        obtain ⟨pf0, pf1, pf2, pf3⟩ := p_5.facts
        obtain ⟨qf0, qf1, qf2, qf3⟩ := q_5.facts
        obtain ⟨cf0, cf1, cf2, cf3⟩ := c_5.facts
        go_wp2_with fail
        refine (C2.out _).mono ?_
        rintro r w3 ⟨rfl, hbc⟩
        clear pf0
        clear pf1
        clear pf2
        clear pf3
        clear qf0
        clear qf1
        clear qf2
        clear qf3
        clear cf0
        clear cf1
        clear cf2
        clear cf3
        have p_6 : Two w3 (w.heap.size) 35 (.int .i64 (f)) (.int .i64 (u)) := p_5.below hbc p_5.lt
        clear p_5
        have q_6 : Two w3 (w.heap.size + 1) 35 (.int .i64 (g)) (.int .i64 (v)) := q_5.below hbc q_5.lt
        clear q_5
        have c_6 : Two w3 (w2.heap.size) 35 (.int .i64 (0)) (.int .i64 (0)) := c_5.below hbc c_5.lt
        clear c_5
        have hBa6 : Below w.heap.size w w3 := hBa5.trans (hbc.mono hBa5.size)
        clear hBa5 hbc
        have p_7 : Two (w3.alloc (.cells #[.int .i64 (0), .int .i64 (0)] 35)) (w.heap.size) 35 (.int .i64 (f)) (.int .i64 (u)) := p_6.alloc _
        clear p_6
        have q_7 : Two (w3.alloc (.cells #[.int .i64 (0), .int .i64 (0)] 35)) (w.heap.size + 1) 35 (.int .i64 (g)) (.int .i64 (v)) := q_6.alloc _
        clear q_6
        have c_7 : Two (w3.alloc (.cells #[.int .i64 (0), .int .i64 (0)] 35)) (w2.heap.size) 35 (.int .i64 (0)) (.int .i64 (0)) := c_6.alloc _
        clear c_6
        have d_7 : Two (w3.alloc (.cells #[.int .i64 (0), .int .i64 (0)] 35)) (w3.heap.size) 35 (.int .i64 (0)) (.int .i64 (0)) := Two.at (by simp) _ _ _
        have hBa7 : Below w.heap.size w (w3.alloc (.cells #[.int .i64 (0), .int .i64 (0)] 35)) := hBa6.alloc hBa6.size _
        clear hBa6
        obtain ⟨pf0, pf1, pf2, pf3⟩ := p_7.facts
        obtain ⟨qf0, qf1, qf2, qf3⟩ := q_7.facts
        obtain ⟨cf0, cf1, cf2, cf3⟩ := c_7.facts
        obtain ⟨df0, df1, df2, df3⟩ := d_7.facts
        go_wp2_with fail
        refine (P1.out _).mono ?_
        rintro r w4 ⟨rfl, hbc⟩
        clear pf0
        clear pf1
        clear pf2
        clear pf3
        clear qf0
        clear qf1
        clear qf2
        clear qf3
        clear cf0
        clear cf1
        clear cf2
        clear cf3
        clear df0
        clear df1
        clear df2
        clear df3
        have p_8 : Two w4 (w.heap.size) 35 (.int .i64 (f)) (.int .i64 (u)) := p_7.below hbc p_7.lt
        clear p_7
        have q_8 : Two w4 (w.heap.size + 1) 35 (.int .i64 (g)) (.int .i64 (v)) := q_7.below hbc q_7.lt
        clear q_7
        have c_8 : Two w4 (w2.heap.size) 35 (.int .i64 (0)) (.int .i64 (0)) := c_7.below hbc c_7.lt
        clear c_7
        have d_8 : Two w4 (w3.heap.size) 35 (.int .i64 (0)) (.int .i64 (0)) := d_7.below hbc d_7.lt
        clear d_7
        have hBa8 : Below w.heap.size w w4 := hBa7.trans (hbc.mono hBa7.size)
        clear hBa7 hbc
        obtain ⟨pf0, pf1, pf2, pf3⟩ := p_8.facts
        obtain ⟨qf0, qf1, qf2, qf3⟩ := q_8.facts
        obtain ⟨cf0, cf1, cf2, cf3⟩ := c_8.facts
        obtain ⟨df0, df1, df2, df3⟩ := d_8.facts
        go_wp2_with fail
        refine (P2.out _).mono ?_
        rintro r w5 ⟨rfl, hbc⟩
        clear pf0
        clear pf1
        clear pf2
        clear pf3
        clear qf0
        clear qf1
        clear qf2
        clear qf3
        clear cf0
        clear cf1
        clear cf2
        clear cf3
        clear df0
        clear df1
        clear df2
        clear df3
        have p_9 : Two w5 (w.heap.size) 35 (.int .i64 (f)) (.int .i64 (u)) := p_8.below hbc p_8.lt
        clear p_8
        have q_9 : Two w5 (w.heap.size + 1) 35 (.int .i64 (g)) (.int .i64 (v)) := q_8.below hbc q_8.lt
        clear q_8
        have c_9 : Two w5 (w2.heap.size) 35 (.int .i64 (0)) (.int .i64 (0)) := c_8.below hbc c_8.lt
        clear c_8
        have d_9 : Two w5 (w3.heap.size) 35 (.int .i64 (0)) (.int .i64 (0)) := d_8.below hbc d_8.lt
        clear d_8
        have hBa9 : Below w.heap.size w w5 := hBa8.trans (hbc.mono hBa8.size)
        clear hBa8 hbc
        obtain ⟨pf0, pf1, pf2, pf3⟩ := p_9.facts
        obtain ⟨qf0, qf1, qf2, qf3⟩ := q_9.facts
        obtain ⟨cf0, cf1, cf2, cf3⟩ := c_9.facts
        obtain ⟨df0, df1, df2, df3⟩ := d_9.facts
        go_wp2_with fail
        refine (R1.out _).mono ?_
        rintro r w6 ⟨rfl, hbc⟩
        clear pf0
        clear pf1
        clear pf2
        clear pf3
        clear qf0
        clear qf1
        clear qf2
        clear qf3
        clear cf0
        clear cf1
        clear cf2
        clear cf3
        clear df0
        clear df1
        clear df2
        clear df3
        have p_10 : Two w6 (w.heap.size) 35 (.int .i64 (f)) (.int .i64 (u)) := p_9.below hbc p_9.lt
        clear p_9
        have q_10 : Two w6 (w.heap.size + 1) 35 (.int .i64 (g)) (.int .i64 (v)) := q_9.below hbc q_9.lt
        clear q_9
        have c_10 : Two w6 (w2.heap.size) 35 (.int .i64 (0)) (.int .i64 (0)) := c_9.below hbc c_9.lt
        clear c_9
        have d_10 : Two w6 (w3.heap.size) 35 (.int .i64 (0)) (.int .i64 (0)) := d_9.below hbc d_9.lt
        clear d_9
        have hBa10 : Below w.heap.size w w6 := hBa9.trans (hbc.mono hBa9.size)
        clear hBa9 hbc
        obtain ⟨pf0, pf1, pf2, pf3⟩ := p_10.facts
        obtain ⟨qf0, qf1, qf2, qf3⟩ := q_10.facts
        obtain ⟨cf0, cf1, cf2, cf3⟩ := c_10.facts
        obtain ⟨df0, df1, df2, df3⟩ := d_10.facts
        go_wp2_with fail
        refine (R2.out _).mono ?_
        rintro r w7 ⟨rfl, hbc⟩
        clear pf0
        clear pf1
        clear pf2
        clear pf3
        clear qf0
        clear qf1
        clear qf2
        clear qf3
        clear cf0
        clear cf1
        clear cf2
        clear cf3
        clear df0
        clear df1
        clear df2
        clear df3
        have p_11 : Two w7 (w.heap.size) 35 (.int .i64 (f)) (.int .i64 (u)) := p_10.below hbc p_10.lt
        clear p_10
        have q_11 : Two w7 (w.heap.size + 1) 35 (.int .i64 (g)) (.int .i64 (v)) := q_10.below hbc q_10.lt
        clear q_10
        have c_11 : Two w7 (w2.heap.size) 35 (.int .i64 (0)) (.int .i64 (0)) := c_10.below hbc c_10.lt
        clear c_10
        have d_11 : Two w7 (w3.heap.size) 35 (.int .i64 (0)) (.int .i64 (0)) := d_10.below hbc d_10.lt
        clear d_10
        have hBa11 : Below w.heap.size w w7 := hBa10.trans (hbc.mono hBa10.size)
        clear hBa10 hbc
        obtain ⟨pf0, pf1, pf2, pf3⟩ := p_11.facts
        obtain ⟨qf0, qf1, qf2, qf3⟩ := q_11.facts
        obtain ⟨cf0, cf1, cf2, cf3⟩ := c_11.facts
        obtain ⟨df0, df1, df2, df3⟩ := d_11.facts
        go_wp2_with fail
        go_ret
        exact ⟨rfl, hBa11⟩
      · rw [decide_eq_false k1] at R1
        clear hsome hiff h1 h2 k1
        go_enter Tryd.func10, Tryd.ntmps10
        have hB0 : Below w.heap.size w w := Below.refl w.heap.size w
        have p_1 : Two (w.alloc (.cells #[.int .i64 (f), .int .i64 (u)] 35)) (w.heap.size) 35 (.int .i64 (f)) (.int .i64 (u)) := Two.at (by simp) _ _ _
        have hBa1 : Below w.heap.size w (w.alloc (.cells #[.int .i64 (f), .int .i64 (u)] 35)) := hB0.alloc hB0.size _
        clear hB0
        have p_2 : Two ((w.alloc (.cells #[.int .i64 (f), .int .i64 (u)] 35)).alloc (.cells #[.int .i64 (g), .int .i64 (v)] 35)) (w.heap.size) 35 (.int .i64 (f)) (.int .i64 (u)) := p_1.alloc _
        clear p_1
        have q_2 : Two ((w.alloc (.cells #[.int .i64 (f), .int .i64 (u)] 35)).alloc (.cells #[.int .i64 (g), .int .i64 (v)] 35)) (w.heap.size + 1) 35 (.int .i64 (g)) (.int .i64 (v)) := Two.at (by simp) _ _ _
        have hBa2 : Below w.heap.size w ((w.alloc (.cells #[.int .i64 (f), .int .i64 (u)] 35)).alloc (.cells #[.int .i64 (g), .int .i64 (v)] 35)) := hBa1.alloc hBa1.size _
        clear hBa1
        go_wp2_with fail
        refine (head_any _ (hl.below hBa2)).mono ?_
        rintro r w1 ⟨rfl, hbc⟩
        have p_3 : Two w1 (w.heap.size) 35 (.int .i64 (f)) (.int .i64 (u)) := p_2.below hbc p_2.lt
        clear p_2
        have q_3 : Two w1 (w.heap.size + 1) 35 (.int .i64 (g)) (.int .i64 (v)) := q_2.below hbc q_2.lt
        clear q_2
        have hBa3 : Below w.heap.size w w1 := hBa2.trans (hbc.mono hBa2.size)
        clear hBa2 hbc
        obtain ⟨pf0, pf1, pf2, pf3⟩ := p_3.facts
        obtain ⟨qf0, qf1, qf2, qf3⟩ := q_3.facts
        go_wp2_with fail
        refine (C1.out _).mono ?_
        rintro r w2 ⟨rfl, hbc⟩
        clear pf0
        clear pf1
        clear pf2
        clear pf3
        clear qf0
        clear qf1
        clear qf2
        clear qf3
        have p_4 : Two w2 (w.heap.size) 35 (.int .i64 (f)) (.int .i64 (u)) := p_3.below hbc p_3.lt
        clear p_3
        have q_4 : Two w2 (w.heap.size + 1) 35 (.int .i64 (g)) (.int .i64 (v)) := q_3.below hbc q_3.lt
        clear q_3
        have hBa4 : Below w.heap.size w w2 := hBa3.trans (hbc.mono hBa3.size)
        clear hBa3 hbc
        have p_5 : Two (w2.alloc (.cells #[.int .i64 (0), .int .i64 (0)] 35)) (w.heap.size) 35 (.int .i64 (f)) (.int .i64 (u)) := p_4.alloc _
        clear p_4
        have q_5 : Two (w2.alloc (.cells #[.int .i64 (0), .int .i64 (0)] 35)) (w.heap.size + 1) 35 (.int .i64 (g)) (.int .i64 (v)) := q_4.alloc _
        clear q_4
        have c_5 : Two (w2.alloc (.cells #[.int .i64 (0), .int .i64 (0)] 35)) (w2.heap.size) 35 (.int .i64 (0)) (.int .i64 (0)) := Two.at (by simp) _ _ _
        have hBa5 : Below w.heap.size w (w2.alloc (.cells #[.int .i64 (0), .int .i64 (0)] 35)) := hBa4.alloc hBa4.size _
        clear hBa4
        obtain ⟨pf0, pf1, pf2, pf3⟩ := p_5.facts
        obtain ⟨qf0, qf1, qf2, qf3⟩ := q_5.facts
        obtain ⟨cf0, cf1, cf2, cf3⟩ := c_5.facts
        go_wp2_with fail
        refine (C2.out _).mono ?_
        rintro r w3 ⟨rfl, hbc⟩
        clear pf0
        clear pf1
        clear pf2
        clear pf3
        clear qf0
        clear qf1
        clear qf2
        clear qf3
        clear cf0
        clear cf1
        clear cf2
        clear cf3
        have p_6 : Two w3 (w.heap.size) 35 (.int .i64 (f)) (.int .i64 (u)) := p_5.below hbc p_5.lt
        clear p_5
        have q_6 : Two w3 (w.heap.size + 1) 35 (.int .i64 (g)) (.int .i64 (v)) := q_5.below hbc q_5.lt
        clear q_5
        have c_6 : Two w3 (w2.heap.size) 35 (.int .i64 (0)) (.int .i64 (0)) := c_5.below hbc c_5.lt
        clear c_5
        have hBa6 : Below w.heap.size w w3 := hBa5.trans (hbc.mono hBa5.size)
        clear hBa5 hbc
        have p_7 : Two (w3.alloc (.cells #[.int .i64 (0), .int .i64 (0)] 35)) (w.heap.size) 35 (.int .i64 (f)) (.int .i64 (u)) := p_6.alloc _
        clear p_6
        have q_7 : Two (w3.alloc (.cells #[.int .i64 (0), .int .i64 (0)] 35)) (w.heap.size + 1) 35 (.int .i64 (g)) (.int .i64 (v)) := q_6.alloc _
        clear q_6
        have c_7 : Two (w3.alloc (.cells #[.int .i64 (0), .int .i64 (0)] 35)) (w2.heap.size) 35 (.int .i64 (0)) (.int .i64 (0)) := c_6.alloc _
        clear c_6
        have d_7 : Two (w3.alloc (.cells #[.int .i64 (0), .int .i64 (0)] 35)) (w3.heap.size) 35 (.int .i64 (0)) (.int .i64 (0)) := Two.at (by simp) _ _ _
        have hBa7 : Below w.heap.size w (w3.alloc (.cells #[.int .i64 (0), .int .i64 (0)] 35)) := hBa6.alloc hBa6.size _
        clear hBa6
        obtain ⟨pf0, pf1, pf2, pf3⟩ := p_7.facts
        obtain ⟨qf0, qf1, qf2, qf3⟩ := q_7.facts
        obtain ⟨cf0, cf1, cf2, cf3⟩ := c_7.facts
        obtain ⟨df0, df1, df2, df3⟩ := d_7.facts
        go_wp2_with fail
        refine (P1.out _).mono ?_
        rintro r w4 ⟨rfl, hbc⟩
        clear pf0
        clear pf1
        clear pf2
        clear pf3
        clear qf0
        clear qf1
        clear qf2
        clear qf3
        clear cf0
        clear cf1
        clear cf2
        clear cf3
        clear df0
        clear df1
        clear df2
        clear df3
        have p_8 : Two w4 (w.heap.size) 35 (.int .i64 (f)) (.int .i64 (u)) := p_7.below hbc p_7.lt
        clear p_7
        have q_8 : Two w4 (w.heap.size + 1) 35 (.int .i64 (g)) (.int .i64 (v)) := q_7.below hbc q_7.lt
        clear q_7
        have c_8 : Two w4 (w2.heap.size) 35 (.int .i64 (0)) (.int .i64 (0)) := c_7.below hbc c_7.lt
        clear c_7
        have d_8 : Two w4 (w3.heap.size) 35 (.int .i64 (0)) (.int .i64 (0)) := d_7.below hbc d_7.lt
        clear d_7
        have hBa8 : Below w.heap.size w w4 := hBa7.trans (hbc.mono hBa7.size)
        clear hBa7 hbc
        obtain ⟨pf0, pf1, pf2, pf3⟩ := p_8.facts
        obtain ⟨qf0, qf1, qf2, qf3⟩ := q_8.facts
        obtain ⟨cf0, cf1, cf2, cf3⟩ := c_8.facts
        obtain ⟨df0, df1, df2, df3⟩ := d_8.facts
        go_wp2_with fail
        refine (P2.out _).mono ?_
        rintro r w5 ⟨rfl, hbc⟩
        clear pf0
        clear pf1
        clear pf2
        clear pf3
        clear qf0
        clear qf1
        clear qf2
        clear qf3
        clear cf0
        clear cf1
        clear cf2
        clear cf3
        clear df0
        clear df1
        clear df2
        clear df3
        have p_9 : Two w5 (w.heap.size) 35 (.int .i64 (f)) (.int .i64 (u)) := p_8.below hbc p_8.lt
        clear p_8
        have q_9 : Two w5 (w.heap.size + 1) 35 (.int .i64 (g)) (.int .i64 (v)) := q_8.below hbc q_8.lt
        clear q_8
        have c_9 : Two w5 (w2.heap.size) 35 (.int .i64 (0)) (.int .i64 (0)) := c_8.below hbc c_8.lt
        clear c_8
        have d_9 : Two w5 (w3.heap.size) 35 (.int .i64 (0)) (.int .i64 (0)) := d_8.below hbc d_8.lt
        clear d_8
        have hBa9 : Below w.heap.size w w5 := hBa8.trans (hbc.mono hBa8.size)
        clear hBa8 hbc
        obtain ⟨pf0, pf1, pf2, pf3⟩ := p_9.facts
        obtain ⟨qf0, qf1, qf2, qf3⟩ := q_9.facts
        obtain ⟨cf0, cf1, cf2, cf3⟩ := c_9.facts
        obtain ⟨df0, df1, df2, df3⟩ := d_9.facts
        go_wp2_with fail
        refine (R1.out _).mono ?_
        rintro r w6 ⟨rfl, hbc⟩
        clear pf0
        clear pf1
        clear pf2
        clear pf3
        clear qf0
        clear qf1
        clear qf2
        clear qf3
        clear cf0
        clear cf1
        clear cf2
        clear cf3
        clear df0
        clear df1
        clear df2
        clear df3
        have p_10 : Two w6 (w.heap.size) 35 (.int .i64 (f)) (.int .i64 (u)) := p_9.below hbc p_9.lt
        clear p_9
        have q_10 : Two w6 (w.heap.size + 1) 35 (.int .i64 (g)) (.int .i64 (v)) := q_9.below hbc q_9.lt
        clear q_9
        have c_10 : Two w6 (w2.heap.size) 35 (.int .i64 (0)) (.int .i64 (0)) := c_9.below hbc c_9.lt
        clear c_9
        have d_10 : Two w6 (w3.heap.size) 35 (.int .i64 (0)) (.int .i64 (0)) := d_9.below hbc d_9.lt
        clear d_9
        have hBa10 : Below w.heap.size w w6 := hBa9.trans (hbc.mono hBa9.size)
        clear hBa9 hbc
        obtain ⟨pf0, pf1, pf2, pf3⟩ := p_10.facts
        obtain ⟨qf0, qf1, qf2, qf3⟩ := q_10.facts
        obtain ⟨cf0, cf1, cf2, cf3⟩ := c_10.facts
        obtain ⟨df0, df1, df2, df3⟩ := d_10.facts
        go_wp2_with fail
        go_ret
        exact ⟨rfl, hBa10⟩
    · rw [decide_eq_false h1] at P1
      by_cases k1 : inP (f, u) (max f g)
      · have k2 : ¬ inP (g, v) (max f g) := fun k => by have := hsome.2 ⟨k1, k⟩; cases this
        rw [decide_eq_true k1] at R1
        rw [decide_eq_false k2] at R2
        clear hsome hiff h1 k1 k2
        go_enter Tryd.func10, Tryd.ntmps10
        have hB0 : Below w.heap.size w w := Below.refl w.heap.size w
        have p_1 : Two (w.alloc (.cells #[.int .i64 (f), .int .i64 (u)] 35)) (w.heap.size) 35 (.int .i64 (f)) (.int .i64 (u)) := Two.at (by simp) _ _ _
        have hBa1 : Below w.heap.size w (w.alloc (.cells #[.int .i64 (f), .int .i64 (u)] 35)) := hB0.alloc hB0.size _
        clear hB0
        have p_2 : Two ((w.alloc (.cells #[.int .i64 (f), .int .i64 (u)] 35)).alloc (.cells #[.int .i64 (g), .int .i64 (v)] 35)) (w.heap.size) 35 (.int .i64 (f)) (.int .i64 (u)) := p_1.alloc _
        clear p_1
        have q_2 : Two ((w.alloc (.cells #[.int .i64 (f), .int .i64 (u)] 35)).alloc (.cells #[.int .i64 (g), .int .i64 (v)] 35)) (w.heap.size + 1) 35 (.int .i64 (g)) (.int .i64 (v)) := Two.at (by simp) _ _ _
        have hBa2 : Below w.heap.size w ((w.alloc (.cells #[.int .i64 (f), .int .i64 (u)] 35)).alloc (.cells #[.int .i64 (g), .int .i64 (v)] 35)) := hBa1.alloc hBa1.size _
        clear hBa1
        go_wp2_with fail
        refine (head_any _ (hl.below hBa2)).mono ?_
        rintro r w1 ⟨rfl, hbc⟩
        have p_3 : Two w1 (w.heap.size) 35 (.int .i64 (f)) (.int .i64 (u)) := p_2.below hbc p_2.lt
        clear p_2
        have q_3 : Two w1 (w.heap.size + 1) 35 (.int .i64 (g)) (.int .i64 (v)) := q_2.below hbc q_2.lt
        clear q_2
        have hBa3 : Below w.heap.size w w1 := hBa2.trans (hbc.mono hBa2.size)
        clear hBa2 hbc
        obtain ⟨pf0, pf1, pf2, pf3⟩ := p_3.facts
        obtain ⟨qf0, qf1, qf2, qf3⟩ := q_3.facts
        go_wp2_with fail
        refine (C1.out _).mono ?_
        rintro r w2 ⟨rfl, hbc⟩
        clear pf0
        clear pf1
        clear pf2
        clear pf3
        clear qf0
        clear qf1
        clear qf2
        clear qf3
        have p_4 : Two w2 (w.heap.size) 35 (.int .i64 (f)) (.int .i64 (u)) := p_3.below hbc p_3.lt
        clear p_3
        have q_4 : Two w2 (w.heap.size + 1) 35 (.int .i64 (g)) (.int .i64 (v)) := q_3.below hbc q_3.lt
        clear q_3
        have hBa4 : Below w.heap.size w w2 := hBa3.trans (hbc.mono hBa3.size)
        clear hBa3 hbc
        have p_5 : Two (w2.alloc (.cells #[.int .i64 (0), .int .i64 (0)] 35)) (w.heap.size) 35 (.int .i64 (f)) (.int .i64 (u)) := p_4.alloc _
        clear p_4
        have q_5 : Two (w2.alloc (.cells #[.int .i64 (0), .int .i64 (0)] 35)) (w.heap.size + 1) 35 (.int .i64 (g)) (.int .i64 (v)) := q_4.alloc _
        clear q_4
        have c_5 : Two (w2.alloc (.cells #[.int .i64 (0), .int .i64 (0)] 35)) (w2.heap.size) 35 (.int .i64 (0)) (.int .i64 (0)) := Two.at (by simp) _ _ _
        have hBa5 : Below w.heap.size w (w2.alloc (.cells #[.int .i64 (0), .int .i64 (0)] 35)) := hBa4.alloc hBa4.size _
        clear hBa4
        obtain ⟨pf0, pf1, pf2, pf3⟩ := p_5.facts
        obtain ⟨qf0, qf1, qf2, qf3⟩ := q_5.facts
        obtain ⟨cf0, cf1, cf2, cf3⟩ := c_5.facts
        go_wp2_with fail
        refine (C2.out _).mono ?_
        rintro r w3 ⟨rfl, hbc⟩
        clear pf0
        clear pf1
        clear pf2
        clear pf3
        clear qf0
        clear qf1
        clear qf2
        clear qf3
        clear cf0
        clear cf1
        clear cf2
        clear cf3
        have p_6 : Two w3 (w.heap.size) 35 (.int .i64 (f)) (.int .i64 (u)) := p_5.below hbc p_5.lt
        clear p_5
        have q_6 : Two w3 (w.heap.size + 1) 35 (.int .i64 (g)) (.int .i64 (v)) := q_5.below hbc q_5.lt
        clear q_5
        have c_6 : Two w3 (w2.heap.size) 35 (.int .i64 (0)) (.int .i64 (0)) := c_5.below hbc c_5.lt
        clear c_5
        have hBa6 : Below w.heap.size w w3 := hBa5.trans (hbc.mono hBa5.size)
        clear hBa5 hbc
        have p_7 : Two (w3.alloc (.cells #[.int .i64 (0), .int .i64 (0)] 35)) (w.heap.size) 35 (.int .i64 (f)) (.int .i64 (u)) := p_6.alloc _
        clear p_6
        have q_7 : Two (w3.alloc (.cells #[.int .i64 (0), .int .i64 (0)] 35)) (w.heap.size + 1) 35 (.int .i64 (g)) (.int .i64 (v)) := q_6.alloc _
        clear q_6
        have c_7 : Two (w3.alloc (.cells #[.int .i64 (0), .int .i64 (0)] 35)) (w2.heap.size) 35 (.int .i64 (0)) (.int .i64 (0)) := c_6.alloc _
        clear c_6
        have d_7 : Two (w3.alloc (.cells #[.int .i64 (0), .int .i64 (0)] 35)) (w3.heap.size) 35 (.int .i64 (0)) (.int .i64 (0)) := Two.at (by simp) _ _ _
        have hBa7 : Below w.heap.size w (w3.alloc (.cells #[.int .i64 (0), .int .i64 (0)] 35)) := hBa6.alloc hBa6.size _
        clear hBa6
        obtain ⟨pf0, pf1, pf2, pf3⟩ := p_7.facts
        obtain ⟨qf0, qf1, qf2, qf3⟩ := q_7.facts
        obtain ⟨cf0, cf1, cf2, cf3⟩ := c_7.facts
        obtain ⟨df0, df1, df2, df3⟩ := d_7.facts
        go_wp2_with fail
        refine (P1.out _).mono ?_
        rintro r w4 ⟨rfl, hbc⟩
        clear pf0
        clear pf1
        clear pf2
        clear pf3
        clear qf0
        clear qf1
        clear qf2
        clear qf3
        clear cf0
        clear cf1
        clear cf2
        clear cf3
        clear df0
        clear df1
        clear df2
        clear df3
        have p_8 : Two w4 (w.heap.size) 35 (.int .i64 (f)) (.int .i64 (u)) := p_7.below hbc p_7.lt
        clear p_7
        have q_8 : Two w4 (w.heap.size + 1) 35 (.int .i64 (g)) (.int .i64 (v)) := q_7.below hbc q_7.lt
        clear q_7
        have c_8 : Two w4 (w2.heap.size) 35 (.int .i64 (0)) (.int .i64 (0)) := c_7.below hbc c_7.lt
        clear c_7
        have d_8 : Two w4 (w3.heap.size) 35 (.int .i64 (0)) (.int .i64 (0)) := d_7.below hbc d_7.lt
        clear d_7
        have hBa8 : Below w.heap.size w w4 := hBa7.trans (hbc.mono hBa7.size)
        clear hBa7 hbc
        obtain ⟨pf0, pf1, pf2, pf3⟩ := p_8.facts
        obtain ⟨qf0, qf1, qf2, qf3⟩ := q_8.facts
        obtain ⟨cf0, cf1, cf2, cf3⟩ := c_8.facts
        obtain ⟨df0, df1, df2, df3⟩ := d_8.facts
        go_wp2_with fail
        refine (R1.out _).mono ?_
        rintro r w5 ⟨rfl, hbc⟩
        clear pf0
        clear pf1
        clear pf2
        clear pf3
        clear qf0
        clear qf1
        clear qf2
        clear qf3
        clear cf0
        clear cf1
        clear cf2
        clear cf3
        clear df0
        clear df1
        clear df2
        clear df3
        have p_9 : Two w5 (w.heap.size) 35 (.int .i64 (f)) (.int .i64 (u)) := p_8.below hbc p_8.lt
        clear p_8
        have q_9 : Two w5 (w.heap.size + 1) 35 (.int .i64 (g)) (.int .i64 (v)) := q_8.below hbc q_8.lt
        clear q_8
        have c_9 : Two w5 (w2.heap.size) 35 (.int .i64 (0)) (.int .i64 (0)) := c_8.below hbc c_8.lt
        clear c_8
        have d_9 : Two w5 (w3.heap.size) 35 (.int .i64 (0)) (.int .i64 (0)) := d_8.below hbc d_8.lt
        clear d_8
        have hBa9 : Below w.heap.size w w5 := hBa8.trans (hbc.mono hBa8.size)
        clear hBa8 hbc
        obtain ⟨pf0, pf1, pf2, pf3⟩ := p_9.facts
        obtain ⟨qf0, qf1, qf2, qf3⟩ := q_9.facts
        obtain ⟨cf0, cf1, cf2, cf3⟩ := c_9.facts
        obtain ⟨df0, df1, df2, df3⟩ := d_9.facts
        go_wp2_with fail
        refine (R2.out _).mono ?_
        rintro r w6 ⟨rfl, hbc⟩
        clear pf0
        clear pf1
        clear pf2
        clear pf3
        clear qf0
        clear qf1
        clear qf2
        clear qf3
        clear cf0
        clear cf1
        clear cf2
        clear cf3
        clear df0
        clear df1
        clear df2
        clear df3
        have p_10 : Two w6 (w.heap.size) 35 (.int .i64 (f)) (.int .i64 (u)) := p_9.below hbc p_9.lt
        clear p_9
        have q_10 : Two w6 (w.heap.size + 1) 35 (.int .i64 (g)) (.int .i64 (v)) := q_9.below hbc q_9.lt
        clear q_9
        have c_10 : Two w6 (w2.heap.size) 35 (.int .i64 (0)) (.int .i64 (0)) := c_9.below hbc c_9.lt
        clear c_9
        have d_10 : Two w6 (w3.heap.size) 35 (.int .i64 (0)) (.int .i64 (0)) := d_9.below hbc d_9.lt
        clear d_9
        have hBa10 : Below w.heap.size w w6 := hBa9.trans (hbc.mono hBa9.size)
        clear hBa9 hbc
        obtain ⟨pf0, pf1, pf2, pf3⟩ := p_10.facts
        obtain ⟨qf0, qf1, qf2, qf3⟩ := q_10.facts
        obtain ⟨cf0, cf1, cf2, cf3⟩ := c_10.facts
        obtain ⟨df0, df1, df2, df3⟩ := d_10.facts
        go_wp2_with fail
        go_ret
        exact ⟨rfl, hBa10⟩
      · rw [decide_eq_false k1] at R1
        clear hsome hiff h1 k1
        go_enter Tryd.func10, Tryd.ntmps10
        have hB0 : Below w.heap.size w w := Below.refl w.heap.size w
        have p_1 : Two (w.alloc (.cells #[.int .i64 (f), .int .i64 (u)] 35)) (w.heap.size) 35 (.int .i64 (f)) (.int .i64 (u)) := Two.at (by simp) _ _ _
        have hBa1 : Below w.heap.size w (w.alloc (.cells #[.int .i64 (f), .int .i64 (u)] 35)) := hB0.alloc hB0.size _
        clear hB0
        have p_2 : Two ((w.alloc (.cells #[.int .i64 (f), .int .i64 (u)] 35)).alloc (.cells #[.int .i64 (g), .int .i64 (v)] 35)) (w.heap.size) 35 (.int .i64 (f)) (.int .i64 (u)) := p_1.alloc _
        clear p_1
        have q_2 : Two ((w.alloc (.cells #[.int .i64 (f), .int .i64 (u)] 35)).alloc (.cells #[.int .i64 (g), .int .i64 (v)] 35)) (w.heap.size + 1) 35 (.int .i64 (g)) (.int .i64 (v)) := Two.at (by simp) _ _ _
        have hBa2 : Below w.heap.size w ((w.alloc (.cells #[.int .i64 (f), .int .i64 (u)] 35)).alloc (.cells #[.int .i64 (g), .int .i64 (v)] 35)) := hBa1.alloc hBa1.size _
        clear hBa1
        go_wp2_with fail
        refine (head_any _ (hl.below hBa2)).mono ?_
        rintro r w1 ⟨rfl, hbc⟩
        have p_3 : Two w1 (w.heap.size) 35 (.int .i64 (f)) (.int .i64 (u)) := p_2.below hbc p_2.lt
        clear p_2
        have q_3 : Two w1 (w.heap.size + 1) 35 (.int .i64 (g)) (.int .i64 (v)) := q_2.below hbc q_2.lt
        clear q_2
        have hBa3 : Below w.heap.size w w1 := hBa2.trans (hbc.mono hBa2.size)
        clear hBa2 hbc
        obtain ⟨pf0, pf1, pf2, pf3⟩ := p_3.facts
        obtain ⟨qf0, qf1, qf2, qf3⟩ := q_3.facts
        go_wp2_with fail
        refine (C1.out _).mono ?_
        rintro r w2 ⟨rfl, hbc⟩
        clear pf0
        clear pf1
        clear pf2
        clear pf3
        clear qf0
        clear qf1
        clear qf2
        clear qf3
        have p_4 : Two w2 (w.heap.size) 35 (.int .i64 (f)) (.int .i64 (u)) := p_3.below hbc p_3.lt
        clear p_3
        have q_4 : Two w2 (w.heap.size + 1) 35 (.int .i64 (g)) (.int .i64 (v)) := q_3.below hbc q_3.lt
        clear q_3
        have hBa4 : Below w.heap.size w w2 := hBa3.trans (hbc.mono hBa3.size)
        clear hBa3 hbc
        have p_5 : Two (w2.alloc (.cells #[.int .i64 (0), .int .i64 (0)] 35)) (w.heap.size) 35 (.int .i64 (f)) (.int .i64 (u)) := p_4.alloc _
        clear p_4
        have q_5 : Two (w2.alloc (.cells #[.int .i64 (0), .int .i64 (0)] 35)) (w.heap.size + 1) 35 (.int .i64 (g)) (.int .i64 (v)) := q_4.alloc _
        clear q_4
        have c_5 : Two (w2.alloc (.cells #[.int .i64 (0), .int .i64 (0)] 35)) (w2.heap.size) 35 (.int .i64 (0)) (.int .i64 (0)) := Two.at (by simp) _ _ _
        have hBa5 : Below w.heap.size w (w2.alloc (.cells #[.int .i64 (0), .int .i64 (0)] 35)) := hBa4.alloc hBa4.size _
        clear hBa4
        obtain ⟨pf0, pf1, pf2, pf3⟩ := p_5.facts
        obtain ⟨qf0, qf1, qf2, qf3⟩ := q_5.facts
        obtain ⟨cf0, cf1, cf2, cf3⟩ := c_5.facts
        go_wp2_with fail
        refine (C2.out _).mono ?_
        rintro r w3 ⟨rfl, hbc⟩
        clear pf0
        clear pf1
        clear pf2
        clear pf3
        clear qf0
        clear qf1
        clear qf2
        clear qf3
        clear cf0
        clear cf1
        clear cf2
        clear cf3
        have p_6 : Two w3 (w.heap.size) 35 (.int .i64 (f)) (.int .i64 (u)) := p_5.below hbc p_5.lt
        clear p_5
        have q_6 : Two w3 (w.heap.size + 1) 35 (.int .i64 (g)) (.int .i64 (v)) := q_5.below hbc q_5.lt
        clear q_5
        have c_6 : Two w3 (w2.heap.size) 35 (.int .i64 (0)) (.int .i64 (0)) := c_5.below hbc c_5.lt
        clear c_5
        have hBa6 : Below w.heap.size w w3 := hBa5.trans (hbc.mono hBa5.size)
        clear hBa5 hbc
        have p_7 : Two (w3.alloc (.cells #[.int .i64 (0), .int .i64 (0)] 35)) (w.heap.size) 35 (.int .i64 (f)) (.int .i64 (u)) := p_6.alloc _
        clear p_6
        have q_7 : Two (w3.alloc (.cells #[.int .i64 (0), .int .i64 (0)] 35)) (w.heap.size + 1) 35 (.int .i64 (g)) (.int .i64 (v)) := q_6.alloc _
        clear q_6
        have c_7 : Two (w3.alloc (.cells #[.int .i64 (0), .int .i64 (0)] 35)) (w2.heap.size) 35 (.int .i64 (0)) (.int .i64 (0)) := c_6.alloc _
        clear c_6
        have d_7 : Two (w3.alloc (.cells #[.int .i64 (0), .int .i64 (0)] 35)) (w3.heap.size) 35 (.int .i64 (0)) (.int .i64 (0)) := Two.at (by simp) _ _ _
        have hBa7 : Below w.heap.size w (w3.alloc (.cells #[.int .i64 (0), .int .i64 (0)] 35)) := hBa6.alloc hBa6.size _
        clear hBa6
        obtain ⟨pf0, pf1, pf2, pf3⟩ := p_7.facts
        obtain ⟨qf0, qf1, qf2, qf3⟩ := q_7.facts
        obtain ⟨cf0, cf1, cf2, cf3⟩ := c_7.facts
        obtain ⟨df0, df1, df2, df3⟩ := d_7.facts
        go_wp2_with fail
        refine (P1.out _).mono ?_
        rintro r w4 ⟨rfl, hbc⟩
        clear pf0
        clear pf1
        clear pf2
        clear pf3
        clear qf0
        clear qf1
        clear qf2
        clear qf3
        clear cf0
        clear cf1
        clear cf2
        clear cf3
        clear df0
        clear df1
        clear df2
        clear df3
        have p_8 : Two w4 (w.heap.size) 35 (.int .i64 (f)) (.int .i64 (u)) := p_7.below hbc p_7.lt
        clear p_7
        have q_8 : Two w4 (w.heap.size + 1) 35 (.int .i64 (g)) (.int .i64 (v)) := q_7.below hbc q_7.lt
        clear q_7
        have c_8 : Two w4 (w2.heap.size) 35 (.int .i64 (0)) (.int .i64 (0)) := c_7.below hbc c_7.lt
        clear c_7
        have d_8 : Two w4 (w3.heap.size) 35 (.int .i64 (0)) (.int .i64 (0)) := d_7.below hbc d_7.lt
        clear d_7
        have hBa8 : Below w.heap.size w w4 := hBa7.trans (hbc.mono hBa7.size)
        clear hBa7 hbc
        obtain ⟨pf0, pf1, pf2, pf3⟩ := p_8.facts
        obtain ⟨qf0, qf1, qf2, qf3⟩ := q_8.facts
        obtain ⟨cf0, cf1, cf2, cf3⟩ := c_8.facts
        obtain ⟨df0, df1, df2, df3⟩ := d_8.facts
        go_wp2_with fail
        refine (R1.out _).mono ?_
        rintro r w5 ⟨rfl, hbc⟩
        clear pf0
        clear pf1
        clear pf2
        clear pf3
        clear qf0
        clear qf1
        clear qf2
        clear qf3
        clear cf0
        clear cf1
        clear cf2
        clear cf3
        clear df0
        clear df1
        clear df2
        clear df3
        have p_9 : Two w5 (w.heap.size) 35 (.int .i64 (f)) (.int .i64 (u)) := p_8.below hbc p_8.lt
        clear p_8
        have q_9 : Two w5 (w.heap.size + 1) 35 (.int .i64 (g)) (.int .i64 (v)) := q_8.below hbc q_8.lt
        clear q_8
        have c_9 : Two w5 (w2.heap.size) 35 (.int .i64 (0)) (.int .i64 (0)) := c_8.below hbc c_8.lt
        clear c_8
        have d_9 : Two w5 (w3.heap.size) 35 (.int .i64 (0)) (.int .i64 (0)) := d_8.below hbc d_8.lt
        clear d_8
        have hBa9 : Below w.heap.size w w5 := hBa8.trans (hbc.mono hBa8.size)
        clear hBa8 hbc
        obtain ⟨pf0, pf1, pf2, pf3⟩ := p_9.facts
        obtain ⟨qf0, qf1, qf2, qf3⟩ := q_9.facts
        obtain ⟨cf0, cf1, cf2, cf3⟩ := c_9.facts
        obtain ⟨df0, df1, df2, df3⟩ := d_9.facts
        go_wp2_with fail
        go_ret
        exact ⟨rfl, hBa9⟩
end Go.Proofs.YtdbffhcckmmgfaaDoor.Dt
