/- The walk of DatePeriodsAsReference. -/
import Derived.Test.YtdbffhcckmmgfaaDoorDatH
import Derived.Test.YtdbffhcckmmgfaaDoorDatR5
import Derived.Test.YtdbffhcckmmgfaaDoorDatR6
import Derived.Test.YtdbffhcckmmgfaaDoorDatW8
namespace Go.Proofs.YtdbffhcckmmgfaaDoor.Dt
set_option linter.unusedVariables false
set_option linter.unusedSimpArgs false
open Go.RowKit

theorem proper_both (f u : Int) : ∃ Z : Bool, (∀ w : World, Calls Tryd.prog 29 #[.agg #[.int .i64 f, .int .i64 u]] w fun r w' => r = .returned (.bool Z) ∧ Below w.heap.size w w') ∧
    (∀ w : World, Calls Tryd.prog 30 #[.agg #[.int .i64 f, .int .i64 u]] w fun r w' => r = .returned (.bool Z) ∧ Below w.heap.size w w') := by
  by_cases h : propP (f, u)
  · exact ⟨true, proper_yes f u h, rproper_yes f u h⟩
  · exact ⟨false, proper_no f u h, rproper_no f u h⟩
theorem rsame_selfB (w : World) (v u : Value) (A : List Per) (hA : PerSl w v A) (hB : PerSl w u A) (hl : A.length ≤ 100000) :
    Calls Tryd.prog 33 #[v, u] w fun e w' => e = .returned (.bool true) ∧ Below w.heap.size w w' := by
  refine (rsame_any w v u A A hA hB hl hl).mono ?_
  rintro r w' ⟨rfl, h⟩
  exact ⟨by simp, h⟩

theorem lawPeriods_long (f u g v x : Int) (s : Value) (l : List Per) (w : World) (hsl : PerSl w s l) (hlen : 30 < l.length) (hl : Lay w) :
    Calls Tryd.prog 4 #[.agg #[.int .i64 f, .int .i64 u], .agg #[.int .i64 g, .int .i64 v], .int .i64 x, s] w fun e w' => e = .returned (.bool true) ∧ Below w.heap.size w w' := by
  obtain ⟨a0, cap0, rfl⟩ := hsl.form
  have hI : (30 : Int) < (l.length : Int) := by omega
  clear hsl
  go_enter Tryd.func4, Tryd.ntmps4
  have p0 : Two ((w.alloc (.cells #[.int .i64 f, .int .i64 u] 35)).alloc (.cells #[.int .i64 g, .int .i64 v] 35)) w.heap.size 35 (.int .i64 f) (.int .i64 u) := (Two.new _ _ _ _).alloc _
  have q0 : Two ((w.alloc (.cells #[.int .i64 f, .int .i64 u] 35)).alloc (.cells #[.int .i64 g, .int .i64 v] 35)) (w.heap.size + 1) 35 (.int .i64 g) (.int .i64 v) := Two.at (by simp) _ _ _
  have hB : Below w.heap.size w ((w.alloc (.cells #[.int .i64 f, .int .i64 u] 35)).alloc (.cells #[.int .i64 g, .int .i64 v] 35)) := ((Below.refl _ _).alloc (Nat.le_refl _) _).alloc (by simp) _
  go_wp2_with fail
  refine (head_any _ (hl.below hB)).mono ?_
  rintro r w1 ⟨rfl, hx⟩
  have p1 := p0.below hx p0.lt
  have q1 := q0.below hx q0.lt
  have hb1 := hB.trans (hx.mono hB.size)
  clear p0 q0 hB hx
  go_wp2_with fail
  go_ret
  exact ⟨rfl, hb1⟩

set_option maxRecDepth 100000 in
set_option maxHeartbeats 4000000 in
theorem lawPeriods_ok (f u g v x : Int) (s : Value) (l : List Per) (w : World) (hsl : PerSl w s l) (hlen : l.length ≤ 30) (hp : ∀ p ∈ l, propP p) (hl : Lay w) :
    Calls Tryd.prog 4 #[.agg #[.int .i64 f, .int .i64 u], .agg #[.int .i64 g, .int .i64 v], .int .i64 x, s] w fun e w' => e = .returned (.bool true) ∧ Below w.heap.size w w' := by
  obtain ⟨a0, cap0, rfl⟩ := hsl.form
  have HSL := Lib.hid hsl
  have C1 := Lib.hid (fun w => common_any f u g v w)
  have C2 := Lib.hid (fun w => rcommon_any f u g v w)
  have V1 := Lib.hid (fun w => covers_any f u x w)
  have V2 := Lib.hid (fun w => rcovers_any f u x w)
  obtain ⟨Z, Z1, Z2⟩ := proper_both f u
  have P1 := Lib.hid Z1
  have P2 := Lib.hid Z2
  have U1 := Lib.hid (fun w h => union_ok w (.slice a0 l.length cap0) l h (by omega) hp)
  have U2 := Lib.hid (fun w h => runion_any w (.slice a0 l.length cap0) l h (by omega))
  have HP := Lib.hid hp
  clear hsl Z1 Z2 hp
  generalize comV (f, u) (g, v) = C at *
  generalize decide (inP (f, u) x) = D at *
  obtain ⟨⟨c, e⟩, is⟩ := C
  have hcc : (c == c) = true := by simp
  have hee : (e == e) = true := by simp
  simp only at C1 C2
  go_enter Tryd.func4, Tryd.ntmps4
  have p0 : Two ((w.alloc (.cells #[.int .i64 f, .int .i64 u] 35)).alloc (.cells #[.int .i64 g, .int .i64 v] 35)) w.heap.size 35 (.int .i64 f) (.int .i64 u) := (Two.new _ _ _ _).alloc _
  have q0 : Two ((w.alloc (.cells #[.int .i64 f, .int .i64 u] 35)).alloc (.cells #[.int .i64 g, .int .i64 v] 35)) (w.heap.size + 1) 35 (.int .i64 g) (.int .i64 v) := Two.at (by simp) _ _ _
  have hB : Below w.heap.size w ((w.alloc (.cells #[.int .i64 f, .int .i64 u] 35)).alloc (.cells #[.int .i64 g, .int .i64 v] 35)) := ((Below.refl _ _).alloc (Nat.le_refl _) _).alloc (by simp) _
  go_wp2_with fail
  refine (head_any _ (hl.below hB)).mono ?_
  rintro r w1 ⟨rfl, hx⟩
  have p1 := p0.below hx p0.lt
  have q1 := q0.below hx q0.lt
  have hb1 := hB.trans (hx.mono hB.size)
  clear p0 q0 hB hx
  obtain ⟨pf0, pf1, pf2, pf3⟩ := p1.facts
  obtain ⟨qf0, qf1, qf2, qf3⟩ := q1.facts
  go_wp2_with fail
  refine (C1.out _).mono ?_
  rintro r w2 ⟨rfl, hx⟩
  clear pf0 pf1 pf2 pf3 qf0 qf1 qf2 qf3
  have p2 := (p1.below hx p1.lt).alloc (.cells #[.int .i64 c, .int .i64 e] 35)
  have q2 := (q1.below hx q1.lt).alloc (.cells #[.int .i64 c, .int .i64 e] 35)
  have a2 := Two.new w2 35 (.int .i64 c) (.int .i64 e)
  have hb2 := (hb1.trans (hx.mono hb1.size)).alloc (hb1.trans (hx.mono hb1.size)).size (.cells #[.int .i64 c, .int .i64 e] 35)
  clear p1 q1 hb1 hx
  obtain ⟨pf0, pf1, pf2, pf3⟩ := p2.facts
  obtain ⟨qf0, qf1, qf2, qf3⟩ := q2.facts
  go_wp2_with fail
  refine (C2.out _).mono ?_
  rintro r w3 ⟨rfl, hx⟩
  clear pf0 pf1 pf2 pf3 qf0 qf1 qf2 qf3
  have p3 := (p2.below hx p2.lt).alloc (.cells #[.int .i64 c, .int .i64 e] 35)
  have a3 := (a2.below hx a2.lt).alloc (.cells #[.int .i64 c, .int .i64 e] 35)
  have b3 := Two.new w3 35 (.int .i64 c) (.int .i64 e)
  have hb3 := (hb2.trans (hx.mono hb2.size)).alloc (hb2.trans (hx.mono hb2.size)).size (.cells #[.int .i64 c, .int .i64 e] 35)
  clear p2 q2 a2 hb2 hx
  go_wp2_with fail
  refine (U1.out _ (HSL.out.below hb3)).mono ?_
  rintro r w4 ⟨y1, Y, rfl, hY, hYl, hYs, hx⟩
  obtain ⟨b1, cap1, rfl⟩ := hYs.form
  have p4 := p3.below hx p3.lt
  have a4 := a3.below hx a3.lt
  have b4 := b3.below hx b3.lt
  have hb4 := hb3.trans (hx.mono hb3.size)
  clear p3 a3 b3 hb3 hx
  have HYS := Lib.hid hYs
  have HY := Lib.hid hY
  clear hYs hY
  go_wp2_with fail
  refine (U2.out _ (HSL.out.below hb4)).mono ?_
  rintro r w5 (⟨⟨y2, Y2, rfl, hY2, hYl2, hYs2, hx⟩, -⟩ | ⟨-, -, hno⟩)
  rotate_left
  · exact absurd HP.out hno
  obtain rfl : Y = Y2 := HY.out.unique hY2 (fun _ => Iff.rfl)
  obtain ⟨b2, cap2, rfl⟩ := hYs2.form
  have p5 := p4.below hx p4.lt
  have a5 := a4.below hx a4.lt
  have b5 := b4.below hx b4.lt
  have hb5 := hb4.trans (hx.mono hb4.size)
  have HS1 := Lib.hid (HYS.out.below hx)
  have HS2 := Lib.hid hYs2
  have hY30 : Y.length ≤ 100000 := by omega
  clear p4 a4 b4 hb4 hx hYs2 hY2 HYS HY hYl hYl2
  have hcells : ∀ w' : World, Below w5.heap.size w5 w' → (fun w' => w'.cell? ⟨w.heap.size, 0, none⟩ = some (.int .i64 f) ∧ w'.cell? ⟨w.heap.size, 1, none⟩ = some (.int .i64 u) ∧ w'.cell? ⟨w2.heap.size, 0, none⟩ = some (.int .i64 c) ∧ w'.cell? ⟨w2.heap.size, 1, none⟩ = some (.int .i64 e) ∧ w'.cell? ⟨w3.heap.size, 0, none⟩ = some (.int .i64 c) ∧ w'.cell? ⟨w3.heap.size, 1, none⟩ = some (.int .i64 e)) w' := fun w' hb => by
    obtain ⟨m1, m2, -, -⟩ := (p5.below hb p5.lt).facts
    obtain ⟨m3, m4, -, -⟩ := (a5.below hb a5.lt).facts
    obtain ⟨m5, m6, -, -⟩ := (b5.below hb b5.lt).facts
    exact ⟨m1, m2, m3, m4, m5, m6⟩
  have hr := Below.refl w5.heap.size w5
  have hZZ : (Z == Z) = true := by simp
  have hDD : (D == D) = true := by simp
  have hII : (is == is) = true := by simp
  clear p5 a5 b5
  go_wp2_with fail
  go_region_held3 (fun w' => w'.cell? ⟨w.heap.size, 0, none⟩ = some (.int .i64 f) ∧ w'.cell? ⟨w.heap.size, 1, none⟩ = some (.int .i64 u) ∧ w'.cell? ⟨w2.heap.size, 0, none⟩ = some (.int .i64 c) ∧ w'.cell? ⟨w2.heap.size, 1, none⟩ = some (.int .i64 e) ∧ w'.cell? ⟨w3.heap.size, 0, none⟩ = some (.int .i64 c) ∧ w'.cell? ⟨w3.heap.size, 1, none⟩ = some (.int .i64 e))
    (first | exact hcells _ hr.drew | exact hcells _ (by assumption))
    (first
      | (go_at_call 29; refine (P1.out _).mono ?_; rintro r x1 ⟨rfl, hx1'⟩; have hx1 : Below w5.heap.size w5 x1 := hr.drew.trans hx1')
      | (go_at_call 30; refine (P2.out _).mono ?_; rintro r x2 ⟨rfl, hx2'⟩; have hx2 : Below w5.heap.size w5 x2 := hx1.trans (hx2'.mono hx1.size))
      | (go_at_call 31; refine (V1.out _).mono ?_; rintro r x3 ⟨rfl, hx3'⟩; have hx3 : Below w5.heap.size w5 x3 := hx2.trans (hx3'.mono hx2.size))
      | (go_at_call 32; refine (V2.out _).mono ?_; rintro r x4 ⟨rfl, hx4'⟩; have hx4 : Below w5.heap.size w5 x4 := hx3.trans (hx4'.mono hx3.size))
      | (go_at_call 33; refine (rsame_selfB _ _ _ Y (HS1.out.below hx4) (HS2.out.below hx4) hY30).mono ?_; rintro r x5 ⟨rfl, hx5'⟩; have hx5 : Below w5.heap.size w5 x5 := hx4.trans (hx5'.mono hx4.size)))
  all_goals
    go_wp2_with fail
    go_ret
    exact ⟨rfl, hb5.trans (hx5.mono hb5.size)⟩
set_option maxRecDepth 100000 in
set_option maxHeartbeats 4000000 in
theorem lawPeriods_bad (f u g v x : Int) (s : Value) (l : List Per) (w : World) (hsl : PerSl w s l) (hlen : l.length ≤ 30) (hp : ¬ ∀ p ∈ l, propP p) (hl : Lay w) :
    Calls Tryd.prog 4 #[.agg #[.int .i64 f, .int .i64 u], .agg #[.int .i64 g, .int .i64 v], .int .i64 x, s] w fun e w' => e = .returned (.bool true) ∧ Below w.heap.size w w' := by
  obtain ⟨a0, cap0, rfl⟩ := hsl.form
  have HSL := Lib.hid hsl
  have C1 := Lib.hid (fun w => common_any f u g v w)
  have C2 := Lib.hid (fun w => rcommon_any f u g v w)
  have V1 := Lib.hid (fun w => covers_any f u x w)
  have V2 := Lib.hid (fun w => rcovers_any f u x w)
  obtain ⟨Z, Z1, Z2⟩ := proper_both f u
  have P1 := Lib.hid Z1
  have P2 := Lib.hid Z2
  have U1 := Lib.hid (fun w h => union_bad w (.slice a0 l.length cap0) l h (by omega) hp)
  have U2 := Lib.hid (fun w h => runion_any w (.slice a0 l.length cap0) l h (by omega))
  have HP := Lib.hid hp
  clear hsl Z1 Z2 hp
  generalize comV (f, u) (g, v) = C at *
  generalize decide (inP (f, u) x) = D at *
  obtain ⟨⟨c, e⟩, is⟩ := C
  have hcc : (c == c) = true := by simp
  have hee : (e == e) = true := by simp
  simp only at C1 C2
  go_enter Tryd.func4, Tryd.ntmps4
  have p0 : Two ((w.alloc (.cells #[.int .i64 f, .int .i64 u] 35)).alloc (.cells #[.int .i64 g, .int .i64 v] 35)) w.heap.size 35 (.int .i64 f) (.int .i64 u) := (Two.new _ _ _ _).alloc _
  have q0 : Two ((w.alloc (.cells #[.int .i64 f, .int .i64 u] 35)).alloc (.cells #[.int .i64 g, .int .i64 v] 35)) (w.heap.size + 1) 35 (.int .i64 g) (.int .i64 v) := Two.at (by simp) _ _ _
  have hB : Below w.heap.size w ((w.alloc (.cells #[.int .i64 f, .int .i64 u] 35)).alloc (.cells #[.int .i64 g, .int .i64 v] 35)) := ((Below.refl _ _).alloc (Nat.le_refl _) _).alloc (by simp) _
  go_wp2_with fail
  refine (head_any _ (hl.below hB)).mono ?_
  rintro r w1 ⟨rfl, hx⟩
  have p1 := p0.below hx p0.lt
  have q1 := q0.below hx q0.lt
  have hb1 := hB.trans (hx.mono hB.size)
  clear p0 q0 hB hx
  obtain ⟨pf0, pf1, pf2, pf3⟩ := p1.facts
  obtain ⟨qf0, qf1, qf2, qf3⟩ := q1.facts
  go_wp2_with fail
  refine (C1.out _).mono ?_
  rintro r w2 ⟨rfl, hx⟩
  clear pf0 pf1 pf2 pf3 qf0 qf1 qf2 qf3
  have p2 := (p1.below hx p1.lt).alloc (.cells #[.int .i64 c, .int .i64 e] 35)
  have q2 := (q1.below hx q1.lt).alloc (.cells #[.int .i64 c, .int .i64 e] 35)
  have a2 := Two.new w2 35 (.int .i64 c) (.int .i64 e)
  have hb2 := (hb1.trans (hx.mono hb1.size)).alloc (hb1.trans (hx.mono hb1.size)).size (.cells #[.int .i64 c, .int .i64 e] 35)
  clear p1 q1 hb1 hx
  obtain ⟨pf0, pf1, pf2, pf3⟩ := p2.facts
  obtain ⟨qf0, qf1, qf2, qf3⟩ := q2.facts
  go_wp2_with fail
  refine (C2.out _).mono ?_
  rintro r w3 ⟨rfl, hx⟩
  clear pf0 pf1 pf2 pf3 qf0 qf1 qf2 qf3
  have p3 := (p2.below hx p2.lt).alloc (.cells #[.int .i64 c, .int .i64 e] 35)
  have a3 := (a2.below hx a2.lt).alloc (.cells #[.int .i64 c, .int .i64 e] 35)
  have b3 := Two.new w3 35 (.int .i64 c) (.int .i64 e)
  have hb3 := (hb2.trans (hx.mono hb2.size)).alloc (hb2.trans (hx.mono hb2.size)).size (.cells #[.int .i64 c, .int .i64 e] 35)
  clear p2 q2 a2 hb2 hx
  go_wp2_with fail
  refine (U1.out _ (HSL.out.below hb3)).mono ?_
  rintro r w4 ⟨rfl, hx⟩
  have p4 := p3.below hx p3.lt
  have a4 := a3.below hx a3.lt
  have b4 := b3.below hx b3.lt
  have hb4 := hb3.trans (hx.mono hb3.size)
  clear p3 a3 b3 hb3 hx
  go_wp2_with fail
  refine (U2.out _ (HSL.out.below hb4)).mono ?_
  rintro r w5 (⟨-, hyes⟩ | ⟨rfl, hx, -⟩)
  · exact absurd hyes HP.out
  have p5 := p4.below hx p4.lt
  have a5 := a4.below hx a4.lt
  have b5 := b4.below hx b4.lt
  have hb5 := hb4.trans (hx.mono hb4.size)
  have HS1 := Lib.hid (show ∀ w : World, PerSl w (.slice none 0 0) [] from fun w => Or.inl ⟨rfl, none, 0, rfl⟩)
  clear p4 a4 b4 hb4 hx
  have hcells : ∀ w' : World, Below w5.heap.size w5 w' → (fun w' => w'.cell? ⟨w.heap.size, 0, none⟩ = some (.int .i64 f) ∧ w'.cell? ⟨w.heap.size, 1, none⟩ = some (.int .i64 u) ∧ w'.cell? ⟨w2.heap.size, 0, none⟩ = some (.int .i64 c) ∧ w'.cell? ⟨w2.heap.size, 1, none⟩ = some (.int .i64 e) ∧ w'.cell? ⟨w3.heap.size, 0, none⟩ = some (.int .i64 c) ∧ w'.cell? ⟨w3.heap.size, 1, none⟩ = some (.int .i64 e)) w' := fun w' hb => by
    obtain ⟨m1, m2, -, -⟩ := (p5.below hb p5.lt).facts
    obtain ⟨m3, m4, -, -⟩ := (a5.below hb a5.lt).facts
    obtain ⟨m5, m6, -, -⟩ := (b5.below hb b5.lt).facts
    exact ⟨m1, m2, m3, m4, m5, m6⟩
  have hr := Below.refl w5.heap.size w5
  have hZZ : (Z == Z) = true := by simp
  have hDD : (D == D) = true := by simp
  have hII : (is == is) = true := by simp
  clear p5 a5 b5
  go_wp2_with fail
  go_region_held3 (fun w' => w'.cell? ⟨w.heap.size, 0, none⟩ = some (.int .i64 f) ∧ w'.cell? ⟨w.heap.size, 1, none⟩ = some (.int .i64 u) ∧ w'.cell? ⟨w2.heap.size, 0, none⟩ = some (.int .i64 c) ∧ w'.cell? ⟨w2.heap.size, 1, none⟩ = some (.int .i64 e) ∧ w'.cell? ⟨w3.heap.size, 0, none⟩ = some (.int .i64 c) ∧ w'.cell? ⟨w3.heap.size, 1, none⟩ = some (.int .i64 e))
    (first | exact hcells _ hr.drew | exact hcells _ (by assumption))
    (first
      | (go_at_call 29; refine (P1.out _).mono ?_; rintro r x1 ⟨rfl, hx1'⟩; have hx1 : Below w5.heap.size w5 x1 := hr.drew.trans hx1')
      | (go_at_call 30; refine (P2.out _).mono ?_; rintro r x2 ⟨rfl, hx2'⟩; have hx2 : Below w5.heap.size w5 x2 := hx1.trans (hx2'.mono hx1.size))
      | (go_at_call 31; refine (V1.out _).mono ?_; rintro r x3 ⟨rfl, hx3'⟩; have hx3 : Below w5.heap.size w5 x3 := hx2.trans (hx3'.mono hx2.size))
      | (go_at_call 32; refine (V2.out _).mono ?_; rintro r x4 ⟨rfl, hx4'⟩; have hx4 : Below w5.heap.size w5 x4 := hx3.trans (hx4'.mono hx3.size))
      | (go_at_call 33; refine (rsame_selfB _ _ _ [] (HS1.out _) (HS1.out _) (by simp)).mono ?_; rintro r x5 ⟨rfl, hx5'⟩; have hx5 : Below w5.heap.size w5 x5 := hx4.trans (hx5'.mono hx4.size)))
  all_goals
    go_wp2_with fail
    go_ret
    exact ⟨rfl, hb5.trans (hx5.mono hb5.size)⟩

theorem lawPeriods (f u g v x : Int) (s : Value) (l : List Per) (w : World) (hsl : PerSl w s l) (hl : Lay w) :
    Calls Tryd.prog 4 #[.agg #[.int .i64 f, .int .i64 u], .agg #[.int .i64 g, .int .i64 v], .int .i64 x, s] w fun e w' => e = .returned (.bool true) ∧ Below w.heap.size w w' := by
  by_cases hlen : l.length ≤ 30
  · by_cases hp : ∀ p ∈ l, propP p
    · exact lawPeriods_ok f u g v x s l w hsl hlen hp hl
    · exact lawPeriods_bad f u g v x s l w hsl hlen hp hl
  · exact lawPeriods_long f u g v x s l w hsl (by omega) hl
end Go.Proofs.YtdbffhcckmmgfaaDoor.Dt
