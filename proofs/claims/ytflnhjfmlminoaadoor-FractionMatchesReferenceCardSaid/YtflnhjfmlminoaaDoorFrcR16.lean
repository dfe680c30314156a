/- Walks over layer 5's reference: Mul, Add of fractions that are not valid. Written by wip/tools/frno.py. -/
import Derived.Test.YtflnhjfmlminoaaDoorFrcR15
namespace Go.Proofs.YtflnhjfmlminoaaDoor.Fr
set_option linter.unusedVariables false
set_option linter.unusedSimpArgs false
open Go.RowKit

set_option maxRecDepth 100000 in
theorem rmul_no1 (n d m e : Int) (hf : ¬ valP n d) (hg : True) (w : World) :
    Calls Tryd.prog 15 #[.agg #[.int .i64 n, .int .i64 d], .agg #[.int .i64 m, .int .i64 e]] w fun r w' => r = .returned (.tuple #[.agg #[.int .i64 0, .int .i64 0], .int .i64 1]) ∧ Below w.heap.size w w' := by
  have V1 := Lib.hid (fun w => rvalid_any n d w)
  have V2 := Lib.hid (fun w => rvalid_any m e w)
  rw [valB_false hf] at V1
  clear V2
  clear hf hg
  have p0 : Two (((w.alloc (.cells #[.int .i64 n, .int .i64 d] 23)).alloc (.cells #[.int .i64 m, .int .i64 e] 23)).alloc (.cells #[.int .i64 0, .int .i64 0] 23)) w.heap.size 23 (.int .i64 n) (.int .i64 d) := ((Two.new _ _ _ _).alloc _).alloc _
  have q0 : Two (((w.alloc (.cells #[.int .i64 n, .int .i64 d] 23)).alloc (.cells #[.int .i64 m, .int .i64 e] 23)).alloc (.cells #[.int .i64 0, .int .i64 0] 23)) (w.heap.size + 1) 23 (.int .i64 m) (.int .i64 e) := (Two.at (by simp) _ _ _).alloc _
  have r0 : Two (((w.alloc (.cells #[.int .i64 n, .int .i64 d] 23)).alloc (.cells #[.int .i64 m, .int .i64 e] 23)).alloc (.cells #[.int .i64 0, .int .i64 0] 23)) (w.heap.size + 1 + 1) 23 (.int .i64 0) (.int .i64 0) := Two.at (by simp) _ _ _
  have hB : Below w.heap.size w (((w.alloc (.cells #[.int .i64 n, .int .i64 d] 23)).alloc (.cells #[.int .i64 m, .int .i64 e] 23)).alloc (.cells #[.int .i64 0, .int .i64 0] 23)) := (((Below.refl _ _).alloc (Nat.le_refl _) _).alloc (by simp) _).alloc (by simp; omega) _
  go_enter Tryd.func15, Tryd.ntmps15
  go_wp2_with fail
  refine (V1.out _).mono ?_
  rintro r y1 ⟨rfl, hx⟩
  have q1 := q0.below hx q0.lt
  have r1 := r0.below hx r0.lt
  have hb1 := hB.trans (hx.mono hB.size)
  clear p0 q0 r0 hB hx
  obtain ⟨a3, a4, -, -⟩ := q1.facts
  have hb2 := hb1
  obtain ⟨m1, m2, m3, m4⟩ := r1.facts
  go_wp2_with fail
  refine bodyPost_ret (v := .tuple #[.agg #[.int .i64 0, .int .i64 0], .int .i64 1]) ?_ rfl ⟨rfl, ?_⟩
  · simp [results, Tryd.results15, go_sem, m1, m2, m3, m4]
  · exact (hb2.setCell (p := ⟨w.heap.size + 1 + 1, 0, none⟩) (by show w.heap.size ≤ w.heap.size + 1 + 1; omega) _).setCell (p := ⟨w.heap.size + 1 + 1, 1, none⟩) (by show w.heap.size ≤ w.heap.size + 1 + 1; omega) _

set_option maxRecDepth 100000 in
theorem rmul_no2 (n d m e : Int) (hf : valP n d) (hg : ¬ valP m e) (w : World) :
    Calls Tryd.prog 15 #[.agg #[.int .i64 n, .int .i64 d], .agg #[.int .i64 m, .int .i64 e]] w fun r w' => r = .returned (.tuple #[.agg #[.int .i64 0, .int .i64 0], .int .i64 1]) ∧ Below w.heap.size w w' := by
  have V1 := Lib.hid (fun w => rvalid_any n d w)
  have V2 := Lib.hid (fun w => rvalid_any m e w)
  rw [valB_iff.2 hf] at V1
  rw [valB_false hg] at V2
  clear hf hg
  have p0 : Two (((w.alloc (.cells #[.int .i64 n, .int .i64 d] 23)).alloc (.cells #[.int .i64 m, .int .i64 e] 23)).alloc (.cells #[.int .i64 0, .int .i64 0] 23)) w.heap.size 23 (.int .i64 n) (.int .i64 d) := ((Two.new _ _ _ _).alloc _).alloc _
  have q0 : Two (((w.alloc (.cells #[.int .i64 n, .int .i64 d] 23)).alloc (.cells #[.int .i64 m, .int .i64 e] 23)).alloc (.cells #[.int .i64 0, .int .i64 0] 23)) (w.heap.size + 1) 23 (.int .i64 m) (.int .i64 e) := (Two.at (by simp) _ _ _).alloc _
  have r0 : Two (((w.alloc (.cells #[.int .i64 n, .int .i64 d] 23)).alloc (.cells #[.int .i64 m, .int .i64 e] 23)).alloc (.cells #[.int .i64 0, .int .i64 0] 23)) (w.heap.size + 1 + 1) 23 (.int .i64 0) (.int .i64 0) := Two.at (by simp) _ _ _
  have hB : Below w.heap.size w (((w.alloc (.cells #[.int .i64 n, .int .i64 d] 23)).alloc (.cells #[.int .i64 m, .int .i64 e] 23)).alloc (.cells #[.int .i64 0, .int .i64 0] 23)) := (((Below.refl _ _).alloc (Nat.le_refl _) _).alloc (by simp) _).alloc (by simp; omega) _
  go_enter Tryd.func15, Tryd.ntmps15
  go_wp2_with fail
  refine (V1.out _).mono ?_
  rintro r y1 ⟨rfl, hx⟩
  have q1 := q0.below hx q0.lt
  have r1 := r0.below hx r0.lt
  have hb1 := hB.trans (hx.mono hB.size)
  clear p0 q0 r0 hB hx
  obtain ⟨a3, a4, -, -⟩ := q1.facts
  go_wp2_with fail
  refine (V2.out _).mono ?_
  rintro r y2 ⟨rfl, hx⟩
  have r2 := r1.below hx r1.lt
  have hb2 := hb1.trans (hx.mono hb1.size)
  obtain ⟨m1, m2, m3, m4⟩ := r2.facts
  go_wp2_with fail
  refine bodyPost_ret (v := .tuple #[.agg #[.int .i64 0, .int .i64 0], .int .i64 1]) ?_ rfl ⟨rfl, ?_⟩
  · simp [results, Tryd.results15, go_sem, m1, m2, m3, m4]
  · exact (hb2.setCell (p := ⟨w.heap.size + 1 + 1, 0, none⟩) (by show w.heap.size ≤ w.heap.size + 1 + 1; omega) _).setCell (p := ⟨w.heap.size + 1 + 1, 1, none⟩) (by show w.heap.size ≤ w.heap.size + 1 + 1; omega) _

set_option maxRecDepth 100000 in
theorem radd_no1 (n d m e : Int) (hf : ¬ valP n d) (hg : True) (w : World) :
    Calls Tryd.prog 13 #[.agg #[.int .i64 n, .int .i64 d], .agg #[.int .i64 m, .int .i64 e]] w fun r w' => r = .returned (.tuple #[.agg #[.int .i64 0, .int .i64 0], .int .i64 1]) ∧ Below w.heap.size w w' := by
  have V1 := Lib.hid (fun w => rvalid_any n d w)
  have V2 := Lib.hid (fun w => rvalid_any m e w)
  rw [valB_false hf] at V1
  clear V2
  clear hf hg
  have p0 : Two (((w.alloc (.cells #[.int .i64 n, .int .i64 d] 23)).alloc (.cells #[.int .i64 m, .int .i64 e] 23)).alloc (.cells #[.int .i64 0, .int .i64 0] 23)) w.heap.size 23 (.int .i64 n) (.int .i64 d) := ((Two.new _ _ _ _).alloc _).alloc _
  have q0 : Two (((w.alloc (.cells #[.int .i64 n, .int .i64 d] 23)).alloc (.cells #[.int .i64 m, .int .i64 e] 23)).alloc (.cells #[.int .i64 0, .int .i64 0] 23)) (w.heap.size + 1) 23 (.int .i64 m) (.int .i64 e) := (Two.at (by simp) _ _ _).alloc _
  have r0 : Two (((w.alloc (.cells #[.int .i64 n, .int .i64 d] 23)).alloc (.cells #[.int .i64 m, .int .i64 e] 23)).alloc (.cells #[.int .i64 0, .int .i64 0] 23)) (w.heap.size + 1 + 1) 23 (.int .i64 0) (.int .i64 0) := Two.at (by simp) _ _ _
  have hB : Below w.heap.size w (((w.alloc (.cells #[.int .i64 n, .int .i64 d] 23)).alloc (.cells #[.int .i64 m, .int .i64 e] 23)).alloc (.cells #[.int .i64 0, .int .i64 0] 23)) := (((Below.refl _ _).alloc (Nat.le_refl _) _).alloc (by simp) _).alloc (by simp; omega) _
  go_enter Tryd.func13, Tryd.ntmps13
  go_wp2_with fail
  refine (V1.out _).mono ?_
  rintro r y1 ⟨rfl, hx⟩
  have q1 := q0.below hx q0.lt
  have r1 := r0.below hx r0.lt
  have hb1 := hB.trans (hx.mono hB.size)
  clear p0 q0 r0 hB hx
  obtain ⟨a3, a4, -, -⟩ := q1.facts
  have hb2 := hb1
  obtain ⟨m1, m2, m3, m4⟩ := r1.facts
  go_wp2_with fail
  refine bodyPost_ret (v := .tuple #[.agg #[.int .i64 0, .int .i64 0], .int .i64 1]) ?_ rfl ⟨rfl, ?_⟩
  · simp [results, Tryd.results13, go_sem, m1, m2, m3, m4]
  · exact (hb2.setCell (p := ⟨w.heap.size + 1 + 1, 0, none⟩) (by show w.heap.size ≤ w.heap.size + 1 + 1; omega) _).setCell (p := ⟨w.heap.size + 1 + 1, 1, none⟩) (by show w.heap.size ≤ w.heap.size + 1 + 1; omega) _

set_option maxRecDepth 100000 in
theorem radd_no2 (n d m e : Int) (hf : valP n d) (hg : ¬ valP m e) (w : World) :
    Calls Tryd.prog 13 #[.agg #[.int .i64 n, .int .i64 d], .agg #[.int .i64 m, .int .i64 e]] w fun r w' => r = .returned (.tuple #[.agg #[.int .i64 0, .int .i64 0], .int .i64 1]) ∧ Below w.heap.size w w' := by
  have V1 := Lib.hid (fun w => rvalid_any n d w)
  have V2 := Lib.hid (fun w => rvalid_any m e w)
  rw [valB_iff.2 hf] at V1
  rw [valB_false hg] at V2
  clear hf hg
  have p0 : Two (((w.alloc (.cells #[.int .i64 n, .int .i64 d] 23)).alloc (.cells #[.int .i64 m, .int .i64 e] 23)).alloc (.cells #[.int .i64 0, .int .i64 0] 23)) w.heap.size 23 (.int .i64 n) (.int .i64 d) := ((Two.new _ _ _ _).alloc _).alloc _
  have q0 : Two (((w.alloc (.cells #[.int .i64 n, .int .i64 d] 23)).alloc (.cells #[.int .i64 m, .int .i64 e] 23)).alloc (.cells #[.int .i64 0, .int .i64 0] 23)) (w.heap.size + 1) 23 (.int .i64 m) (.int .i64 e) := (Two.at (by simp) _ _ _).alloc _
  have r0 : Two (((w.alloc (.cells #[.int .i64 n, .int .i64 d] 23)).alloc (.cells #[.int .i64 m, .int .i64 e] 23)).alloc (.cells #[.int .i64 0, .int .i64 0] 23)) (w.heap.size + 1 + 1) 23 (.int .i64 0) (.int .i64 0) := Two.at (by simp) _ _ _
  have hB : Below w.heap.size w (((w.alloc (.cells #[.int .i64 n, .int .i64 d] 23)).alloc (.cells #[.int .i64 m, .int .i64 e] 23)).alloc (.cells #[.int .i64 0, .int .i64 0] 23)) := (((Below.refl _ _).alloc (Nat.le_refl _) _).alloc (by simp) _).alloc (by simp; omega) _
  go_enter Tryd.func13, Tryd.ntmps13
  go_wp2_with fail
  refine (V1.out _).mono ?_
  rintro r y1 ⟨rfl, hx⟩
  have q1 := q0.below hx q0.lt
  have r1 := r0.below hx r0.lt
  have hb1 := hB.trans (hx.mono hB.size)
  clear p0 q0 r0 hB hx
  obtain ⟨a3, a4, -, -⟩ := q1.facts
  go_wp2_with fail
  refine (V2.out _).mono ?_
  rintro r y2 ⟨rfl, hx⟩
  have r2 := r1.below hx r1.lt
  have hb2 := hb1.trans (hx.mono hb1.size)
  obtain ⟨m1, m2, m3, m4⟩ := r2.facts
  go_wp2_with fail
  refine bodyPost_ret (v := .tuple #[.agg #[.int .i64 0, .int .i64 0], .int .i64 1]) ?_ rfl ⟨rfl, ?_⟩
  · simp [results, Tryd.results13, go_sem, m1, m2, m3, m4]
  · exact (hb2.setCell (p := ⟨w.heap.size + 1 + 1, 0, none⟩) (by show w.heap.size ≤ w.heap.size + 1 + 1; omega) _).setCell (p := ⟨w.heap.size + 1 + 1, 1, none⟩) (by show w.heap.size ≤ w.heap.size + 1 + 1; omega) _

theorem rmul_any (n d m e : Int) (w : World) :
    Calls Tryd.prog 15 #[.agg #[.int .i64 n, .int .i64 d], .agg #[.int .i64 m, .int .i64 e]] w fun r w' => r = .returned (.tuple #[.agg #[.int .i64 (mulN n d m e), .int .i64 (mulD n d m e)], .int .i64 (mulE n d m e)]) ∧ Below w.heap.size w w' := by
  by_cases hf : valP n d
  · by_cases hg : valP m e
    · exact rmul_ok n d m e hf hg w
    · unfold mulN mulD mulE
      rw [if_neg (fun k => hg k.2), if_neg (fun k => hg k.2), if_neg (fun k => hg k.2)]
      exact rmul_no2 n d m e hf hg w
  · unfold mulN mulD mulE
    rw [if_neg (fun k => hf k.1), if_neg (fun k => hf k.1), if_neg (fun k => hf k.1)]
    exact rmul_no1 n d m e hf trivial w
end Go.Proofs.YtflnhjfmlminoaaDoor.Fr
