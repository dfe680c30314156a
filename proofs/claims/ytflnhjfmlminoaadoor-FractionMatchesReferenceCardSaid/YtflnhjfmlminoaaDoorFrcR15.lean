/- Walks over layer 5's reference: Mul. -/
import Derived.Test.YtflnhjfmlminoaaDoorFrcR14
namespace Go.Proofs.YtflnhjfmlminoaaDoor.Fr
set_option linter.unusedVariables false
set_option linter.unusedSimpArgs false
open Go.RowKit

theorem far4 {w : World} {B : Nat} {n d m e : Int} (h : w.cell? ⟨B, 0, none⟩ = some (.int .i64 n) ∧ w.cell? ⟨B, 1, none⟩ = some (.int .i64 d) ∧ w.cell? ⟨B + 1, 0, none⟩ = some (.int .i64 m) ∧ w.cell? ⟨B + 1, 1, none⟩ = some (.int .i64 e)) (x y : Value) :
    ((w.setCell ⟨B + 1 + 1, 0, none⟩ x).setCell ⟨B + 1 + 1, 1, none⟩ y).cell? ⟨B, 0, none⟩ = some (.int .i64 n) ∧ ((w.setCell ⟨B + 1 + 1, 0, none⟩ x).setCell ⟨B + 1 + 1, 1, none⟩ y).cell? ⟨B, 1, none⟩ = some (.int .i64 d) ∧ ((w.setCell ⟨B + 1 + 1, 0, none⟩ x).setCell ⟨B + 1 + 1, 1, none⟩ y).cell? ⟨B + 1, 0, none⟩ = some (.int .i64 m) ∧ ((w.setCell ⟨B + 1 + 1, 0, none⟩ x).setCell ⟨B + 1 + 1, 1, none⟩ y).cell? ⟨B + 1, 1, none⟩ = some (.int .i64 e) := by
  obtain ⟨a, b, c, f⟩ := h
  refine ⟨?_, ?_, ?_, ?_⟩ <;> rw [World.cell?_setCell_far _ _ _ _ (by simp; try omega), World.cell?_setCell_far _ _ _ _ (by simp; try omega)] <;> assumption

set_option maxRecDepth 100000 in
set_option maxHeartbeats 4000000 in
theorem rmul_ok (n d m e : Int) (hf : valP n d) (hg : valP m e) (w : World) :
    Calls Tryd.prog 15 #[.agg #[.int .i64 n, .int .i64 d], .agg #[.int .i64 m, .int .i64 e]] w fun r w' => r = .returned (.tuple #[.agg #[.int .i64 (mulN n d m e), .int .i64 (mulD n d m e)], .int .i64 (mulE n d m e)]) ∧ Below w.heap.size w w' := by
  have V1 := Lib.hid (fun w => rvalid_any n d w)
  have V2 := Lib.hid (fun w => rvalid_any m e w)
  rw [valB_iff.2 hf] at V1
  rw [valB_iff.2 hg] at V2
  have hd0 : 0 < d.natAbs * e.natAbs := Nat.mul_pos (by have := hf.2.2.1; omega) (by have := hg.2.2.1; omega)
  obtain ⟨r1, r2, r3⟩ := low_rat (decide (n < 0) != decide (m < 0)) (n.natAbs * m.natAbs) (d.natAbs * e.natAbs) hd0 (mulQ n d m e) (mul_sgn hf hg)
  unfold mulN mulD mulE
  rw [if_pos ⟨hf, hg⟩, if_pos ⟨hf, hg⟩, if_pos ⟨hf, hg⟩, ← r1, ← r2, ← r3]
  obtain ⟨f1, f2, f3, f4, -⟩ := hf
  obtain ⟨g1, g2, g3, g4, -⟩ := hg
  have small : ∀ z : Int, -4611686018427387904 ≤ z → z ≤ 4611686018427387904 → z.natAbs < 2 ^ 63 := fun z a b => by omega
  have l1 := small n f1 f2
  have l2 := small m g1 g2
  have l3 := small d (by omega) f4
  have l4 := small e (by omega) g4
  have lp : ∀ a b : Nat, a < 2 ^ 63 → b < 2 ^ 63 → (bin (a * b)).length ≤ 400 := fun a b ha hb => by
    have h : a * b < 2 ^ 126 := by
      have h1 : a * b ≤ a * 2 ^ 63 := Nat.mul_le_mul_left a (Nat.le_of_lt hb)
      have h2 : a * 2 ^ 63 < 2 ^ 63 * 2 ^ 63 := (Nat.mul_lt_mul_right (by decide)).2 ha
      have h3 : (2 : Nat) ^ 63 * 2 ^ 63 = 2 ^ 126 := by decide
      omega
    exact Nat.le_trans (bin_length_le h) (by omega)
  have ls : ∀ a : Nat, a < 2 ^ 63 → (bin a).length ≤ 1000 := fun a ha => Nat.le_trans (bin_length_le (k := 63) ha) (by omega)
  have D1 := Lib.hid (fun w => digits_any n (by omega) (by omega) w)
  have D2 := Lib.hid (fun w => digits_any m (by omega) (by omega) w)
  have D3 := Lib.hid (fun w => digits_any d (by omega) (by omega) w)
  have D4 := Lib.hid (fun w => digits_any e (by omega) (by omega) w)
  have T1 := Lib.hid (fun v u w hv hu => times_any v u n.natAbs m.natAbs (ls _ l1) (ls _ l2) w hv hu)
  have T2 := Lib.hid (fun v u w hv hu => times_any v u d.natAbs e.natAbs (ls _ l3) (ls _ l4) w hv hu)
  obtain ⟨b1, k1⟩ : ∃ b, decide (n < 0) = b := ⟨_, rfl⟩
  obtain ⟨b2, k2⟩ : ∃ b, decide (m < 0) = b := ⟨_, rfl⟩
  rw [k1, k2]
  obtain ⟨N, hN⟩ : ∃ N, lowN (b1 != b2) (n.natAbs * m.natAbs) (d.natAbs * e.natAbs) = N := ⟨_, rfl⟩
  obtain ⟨D, hD⟩ : ∃ D, lowD (n.natAbs * m.natAbs) (d.natAbs * e.natAbs) = D := ⟨_, rfl⟩
  obtain ⟨E, hE⟩ : ∃ E, lowE (n.natAbs * m.natAbs) (d.natAbs * e.natAbs) = E := ⟨_, rfl⟩
  rw [hN, hD, hE]
  have LO := Lib.hid (fun v u w hv hu => lowest_any (b1 != b2) v u (n.natAbs * m.natAbs) (d.natAbs * e.natAbs) hd0 (lp _ _ l1 l2) (lp _ _ l3 l4) w hv hu)
  rw [hN, hD, hE] at LO
  clear hN hD hE r1 r2 r3 f1 f2 f3 f4 g1 g2 g3 g4 small l1 l2 l3 l4 lp ls hd0
  have p0 : Two (((w.alloc (.cells #[.int .i64 n, .int .i64 d] 23)).alloc (.cells #[.int .i64 m, .int .i64 e] 23)).alloc (.cells #[.int .i64 0, .int .i64 0] 23)) w.heap.size 23 (.int .i64 n) (.int .i64 d) := ((Two.new _ _ _ _).alloc _).alloc _
  have q0 : Two (((w.alloc (.cells #[.int .i64 n, .int .i64 d] 23)).alloc (.cells #[.int .i64 m, .int .i64 e] 23)).alloc (.cells #[.int .i64 0, .int .i64 0] 23)) (w.heap.size + 1) 23 (.int .i64 m) (.int .i64 e) := (Two.at (by simp) _ _ _).alloc _
  have r0 : Two (((w.alloc (.cells #[.int .i64 n, .int .i64 d] 23)).alloc (.cells #[.int .i64 m, .int .i64 e] 23)).alloc (.cells #[.int .i64 0, .int .i64 0] 23)) (w.heap.size + 1 + 1) 23 (.int .i64 0) (.int .i64 0) := Two.at (by simp) _ _ _
  have hB : Below w.heap.size w (((w.alloc (.cells #[.int .i64 n, .int .i64 d] 23)).alloc (.cells #[.int .i64 m, .int .i64 e] 23)).alloc (.cells #[.int .i64 0, .int .i64 0] 23)) := (((Below.refl _ _).alloc (Nat.le_refl _) _).alloc (by simp) _).alloc (by simp; omega) _
  cases b1 <;> cases b2
  all_goals
    simp only [bne_self_eq_false, Bool.true_bne, Bool.false_bne, Bool.not_true, Bool.not_false] at LO
    go_enter Tryd.func15, Tryd.ntmps15
    go_wp2_with fail
    refine (V1.out _).mono ?_
    rintro r y1 ⟨rfl, hx⟩
    have p1 := p0.below hx p0.lt
    have q1 := q0.below hx q0.lt
    have r1 := r0.below hx r0.lt
    have hb1 := hB.trans (hx.mono hB.size)
    clear p0 q0 r0 hB hx
    obtain ⟨a1, a2, -, -⟩ := p1.facts
    obtain ⟨a3, a4, -, -⟩ := q1.facts
    go_wp2_with fail
    refine (V2.out _).mono ?_
    rintro r y2 ⟨rfl, hx⟩
    have p2 := p1.below hx p1.lt
    have q2 := q1.below hx q1.lt
    have r2 := r1.below hx r1.lt
    have hb2 := hb1.trans (hx.mono hb1.size)
    clear a1 a2 a3 a4 p1 q1 r1 hb1 hx
    have hcells : ∀ w' : World, Below y2.heap.size y2 w' → (fun w' => w'.cell? ⟨w.heap.size, 0, none⟩ = some (.int .i64 n) ∧ w'.cell? ⟨w.heap.size, 1, none⟩ = some (.int .i64 d) ∧ w'.cell? ⟨w.heap.size + 1, 0, none⟩ = some (.int .i64 m) ∧ w'.cell? ⟨w.heap.size + 1, 1, none⟩ = some (.int .i64 e)) w' := fun w' hb => by
      obtain ⟨a1, a2, -, -⟩ := (p2.below hb p2.lt).facts
      obtain ⟨a3, a4, -, -⟩ := (q2.below hb q2.lt).facts
      exact ⟨a1, a2, a3, a4⟩
    have hr := Below.refl y2.heap.size y2
    go_wp2_with fail
    go_region_held3 (fun w' => w'.cell? ⟨w.heap.size, 0, none⟩ = some (.int .i64 n) ∧ w'.cell? ⟨w.heap.size, 1, none⟩ = some (.int .i64 d) ∧ w'.cell? ⟨w.heap.size + 1, 0, none⟩ = some (.int .i64 m) ∧ w'.cell? ⟨w.heap.size + 1, 1, none⟩ = some (.int .i64 e))
      (first | exact hcells _ hr.drew | exact hcells _ (by assumption) | exact far4 (hcells _ hx7) _ _)
      (first
        | (go_at_call 31; have hz := hx6; refine (LO.out _ _ _ ((((hi3.below hx4').below hx5').below hx6')) hi6).mono ?_; rintro r x7 ⟨rfl, hx7'⟩; have hx7 : Below y2.heap.size y2 x7 := hx6.trans (hx7'.mono hx6.size); have t7 := r2.below hx7 r2.lt; obtain ⟨m1, m2, m3, m4⟩ := t7.facts)
        | (go_at_call 36; have hz := hx5; refine (T2.out _ _ _ (hi4.below hx5') hi5).mono ?_; rintro r x6 ⟨u6, rfl, hi6, hx6', _⟩; have hx6 : Below y2.heap.size y2 x6 := hx5.trans (hx6'.mono hx5.size))
        | (go_at_call 32; have hz := hx4; refine (D4.out _).mono ?_; rintro r x5 ⟨u5, rfl, hi5, hx5', _⟩; have hx5 : Below y2.heap.size y2 x5 := hx4.trans (hx5'.mono hx4.size))
        | (go_at_call 32; have hz := hx3; refine (D3.out _).mono ?_; rintro r x4 ⟨u4, rfl, hi4, hx4', _⟩; have hx4 : Below y2.heap.size y2 x4 := hx3.trans (hx4'.mono hx3.size))
        | (go_at_call 36; have hz := hx2; refine (T1.out _ _ _ (hi1.below hx2') hi2).mono ?_; rintro r x3 ⟨u3, rfl, hi3, hx3', _⟩; have hx3 : Below y2.heap.size y2 x3 := hx2.trans (hx3'.mono hx2.size))
        | (go_at_call 32; have hz := hx1; refine (D2.out _).mono ?_; rintro r x2 ⟨u2, rfl, hi2, hx2', _⟩; have hx2 : Below y2.heap.size y2 x2 := hx1.trans (hx2'.mono hx1.size))
        | (go_at_call 32; refine (D1.out _).mono ?_; rintro r x1 ⟨u1, rfl, hi1, hx1', _⟩; have hx1 : Below y2.heap.size y2 x1 := hr.drew.trans hx1'))
    all_goals
      have hb7 := hb2.trans (hx7.mono hb2.size)
      go_wp2_with fail
      refine bodyPost_ret (v := .tuple #[.agg #[.int .i64 N, .int .i64 D], .int .i64 E]) ?_ rfl ⟨rfl, ?_⟩
      · simp [results, Tryd.results15, go_sem, m1, m2, m3, m4]
      · exact (hb7.setCell (p := ⟨w.heap.size + 1 + 1, 0, none⟩) (by show w.heap.size ≤ w.heap.size + 1 + 1; omega) _).setCell (p := ⟨w.heap.size + 1 + 1, 1, none⟩) (by show w.heap.size ≤ w.heap.size + 1 + 1; omega) _
end Go.Proofs.YtflnhjfmlminoaaDoor.Fr
