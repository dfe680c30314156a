/- Walks over package fraction: Mul, Add. -/
import Derived.Test.YtflnhjfmlminoaaDoorFrcW9
namespace Go.Proofs.YtflnhjfmlminoaaDoor.Fr
set_option linter.unusedVariables false
set_option linter.unusedSimpArgs false
open Go.RowKit

theorem gcd_den (n e : Int) (h1 : 1 ≤ e) (h2 : e ≤ 4611686018427387904) :
    0 < Nat.gcd n.natAbs e.natAbs ∧ ((Nat.gcd n.natAbs e.natAbs : Nat) : Int) ≤ 4611686018427387904 ∧ ((Nat.gcd n.natAbs e.natAbs : Nat) : Int) ∣ n ∧ ((Nat.gcd n.natAbs e.natAbs : Nat) : Int) ∣ e := by
  have hle : Nat.gcd n.natAbs e.natAbs ≤ e.natAbs := Nat.gcd_le_right _ (by omega)
  exact ⟨Nat.gcd_pos_of_pos_right _ (by omega), by omega, Int.ofNat_dvd_left.2 (Nat.gcd_dvd_left ..), Int.ofNat_dvd_left.2 (Nat.gcd_dvd_right ..)⟩

theorem mul_val (n d m e : Int) (h : valP n d) (k : valP m e) (w : World) :
    Calls Tryd.prog 14 #[.agg #[.int .i64 n, .int .i64 d], .agg #[.int .i64 m, .int .i64 e]] w fun r w' => r = .returned (.tuple #[.agg #[.int .i64 (rN (mulQ n d m e)), .int .i64 (rD (mulQ n d m e))], .int .i64 (rE (mulQ n d m e))]) ∧ Below w.heap.size w w' := by
  obtain ⟨q1, q2⟩ := mul_int h k
  have hV := fun w => valid_yes n d h w
  have hV2 := fun w => valid_yes m e k w
  obtain ⟨n1, n2, d1, d2, -⟩ := h
  obtain ⟨m1, m2, e1, e2, -⟩ := k
  obtain ⟨p1, p2, p3, p4⟩ := gcd_den n e e1 e2
  obtain ⟨s1, s2, s3, s4⟩ := gcd_den m d d1 d2
  obtain ⟨u1, u2, u3, u4⟩ := red_small n _ p1 p2 p3 (by omega) (by omega)
  obtain ⟨v1, v2, v3, v4⟩ := red_small e _ p1 p2 p4 (by omega) (by omega)
  obtain ⟨x1, x2, x3, x4⟩ := red_small m _ s1 s2 s3 (by omega) (by omega)
  obtain ⟨y1, y2, y3, y4⟩ := red_small d _ s1 s2 s4 (by omega) (by omega)
  have hR1 := fun w => reduced_any n e _ (by omega) (by omega) (by omega) (by omega) u1 (by omega) _ _ u2 v2 w
  have hR2 := fun w => reduced_any m d _ (by omega) (by omega) (by omega) (by omega) x1 (by omega) _ _ x2 y2 w
  clear u1 u2 v1 v2 x1 x2 y1 y2 p1 p2 p3 p4 s1 s2 s3 s4
  generalize n / ((Nat.gcd n.natAbs e.natAbs : Nat) : Int) = A at *
  generalize e / ((Nat.gcd n.natAbs e.natAbs : Nat) : Int) = B at *
  generalize m / ((Nat.gcd m.natAbs d.natAbs : Nat) : Int) = C at *
  generalize d / ((Nat.gcd m.natAbs d.natAbs : Nat) : Int) = D at *
  have hQ := fun w => result_q (mulQ n d m e) (A * C) (D * B) q1 (by rw [q2, Int.mul_comm]) w
  generalize mulQ n d m e = q at *
  have HQ := Lib.hid hQ
  have HR1 := Lib.hid hR1
  have HR2 := Lib.hid hR2
  have HV := Lib.hid hV
  have HV2 := Lib.hid hV2
  clear q1 q2 hQ hR1 hR2 hV hV2
  have t1 := ((Two.new w 23 (.int .i64 n) (.int .i64 d)).alloc (.cells #[.int .i64 m, .int .i64 e] 23)).alloc (.cells #[.int .i64 0, .int .i64 0] 23)
  have s1 := (Two.at (w := w.alloc (.cells #[.int .i64 n, .int .i64 d] 23)) (B := w.heap.size + 1) (by simp) 23 (.int .i64 m) (.int .i64 e)).alloc (.cells #[.int .i64 0, .int .i64 0] 23)
  have r1 := Two.at (w := (w.alloc (.cells #[.int .i64 n, .int .i64 d] 23)).alloc (.cells #[.int .i64 m, .int .i64 e] 23)) (B := w.heap.size + 1 + 1) (by simp) 23 (.int .i64 0) (.int .i64 0)
  go_enter Tryd.func14, Tryd.ntmps14
  go_wp2_with fail
  refine (HV.out _).mono ?_
  rintro r w1 ⟨rfl, hb1⟩
  obtain ⟨c1, c2, c3, c4⟩ := (s1.below hb1 s1.lt).facts
  go_wp2_with fail
  refine (HV2.out _).mono ?_
  rintro r w2 ⟨rfl, hb2'⟩
  have hb2 := hb1.trans (hb2'.mono hb1.size)
  clear c1 c2 c3 c4
  obtain ⟨c1, c2, c3, c4⟩ := (s1.below hb2 s1.lt).facts
  obtain ⟨f1, f2, f3, f4⟩ := (t1.below hb2 t1.lt).facts
  go_wp2_with fail
  refine (HR1.out _).mono ?_
  rintro r w3 ⟨rfl, hb3'⟩
  have hb3 := hb2.trans (hb3'.mono hb2.size)
  clear c1 c2 c3 c4 f1 f2 f3 f4
  obtain ⟨c1, c2, c3, c4⟩ := (s1.below hb3 s1.lt).facts
  obtain ⟨f1, f2, f3, f4⟩ := (t1.below hb3 t1.lt).facts
  go_wp2_with fail
  refine (HR2.out _).mono ?_
  rintro r w4 ⟨rfl, hb4'⟩
  have hb4 := hb3.trans (hb4'.mono hb3.size)
  go_wp2_with fail
  refine (product_any A C (by omega) (by omega) (by omega) (by omega) _).mono ?_
  rintro r w5 ⟨rfl, hb5'⟩
  have hb5 := hb4.trans (hb5'.mono hb4.size)
  go_wp2_with fail
  refine (product_any D B (by omega) (by omega) (by omega) (by omega) _).mono ?_
  rintro r w6 ⟨rfl, hb6'⟩
  have hb6 := hb5.trans (hb6'.mono hb5.size)
  go_wp2_with fail
  refine (HQ.out _).mono ?_
  rintro r w7 ⟨rfl, hb7'⟩
  have hb7 := hb6.trans (hb7'.mono hb6.size)
  clear c1 c2 c3 c4 f1 f2 f3 f4
  obtain ⟨c1, c2, c3, c4⟩ := (r1.below hb7 r1.lt).facts
  go_wp2_with fail
  refine bodyPost_ret (v := .tuple #[.agg #[.int .i64 (rN q), .int .i64 (rD q)], .int .i64 (rE q)]) ?_ rfl ⟨rfl, ?_⟩
  · simp [results, Tryd.results14, go_sem, c1, c2]
  · exact ((((((Below.refl w.heap.size w).alloc (Nat.le_refl _) _).alloc (by simp) _).alloc (by simp; omega) _).trans (hb7.mono (by simp; omega))).setCell (by show w.heap.size ≤ w.heap.size + 1 + 1; omega) _).setCell (by show w.heap.size ≤ w.heap.size + 1 + 1; omega) _

theorem mul_any (n d m e : Int) (w : World) :
    Calls Tryd.prog 14 #[.agg #[.int .i64 n, .int .i64 d], .agg #[.int .i64 m, .int .i64 e]] w fun r w' => r = .returned (.tuple #[.agg #[.int .i64 (mulN n d m e), .int .i64 (mulD n d m e)], .int .i64 (mulE n d m e)]) ∧ Below w.heap.size w w' := by
  unfold mulN mulD mulE
  by_cases hk : valP n d ∧ valP m e
  · rw [if_pos hk, if_pos hk, if_pos hk]
    exact mul_val n d m e hk.1 hk.2 w
  · rw [if_neg hk, if_neg hk, if_neg hk]
    have r1 := Two.at (w := (w.alloc (.cells #[.int .i64 n, .int .i64 d] 23)).alloc (.cells #[.int .i64 m, .int .i64 e] 23)) (B := w.heap.size + 1 + 1) (by simp) 23 (.int .i64 0) (.int .i64 0)
    by_cases h : valP n d
    · have k : ¬ valP m e := fun k => hk ⟨h, k⟩
      have s1 := (Two.at (w := w.alloc (.cells #[.int .i64 n, .int .i64 d] 23)) (B := w.heap.size + 1) (by simp) 23 (.int .i64 m) (.int .i64 e)).alloc (.cells #[.int .i64 0, .int .i64 0] 23)
      go_enter Tryd.func14, Tryd.ntmps14
      go_wp2_with fail
      refine (valid_yes n d h _).mono ?_
      rintro r w1 ⟨rfl, hb1⟩
      obtain ⟨c1, c2, c3, c4⟩ := (s1.below hb1 s1.lt).facts
      go_wp2_with fail
      refine (valid_no m e k _).mono ?_
      rintro r w2 ⟨rfl, hb2'⟩
      have hb2 := hb1.trans (hb2'.mono hb1.size)
      clear c1 c2 c3 c4
      obtain ⟨c1, c2, c3, c4⟩ := (r1.below hb2 r1.lt).facts
      go_wp2_with fail
      refine bodyPost_ret (v := .tuple #[.agg #[.int .i64 0, .int .i64 0], .int .i64 1]) ?_ rfl ⟨rfl, ?_⟩
      · simp [results, Tryd.results14, go_sem, c1, c2]
      · exact ((((((Below.refl w.heap.size w).alloc (Nat.le_refl _) _).alloc (by simp) _).alloc (by simp; omega) _).trans (hb2.mono (by simp; omega))).setCell (by show w.heap.size ≤ w.heap.size + 1 + 1; omega) _).setCell (by show w.heap.size ≤ w.heap.size + 1 + 1; omega) _
    · go_enter Tryd.func14, Tryd.ntmps14
      go_wp2_with fail
      refine (valid_no n d h _).mono ?_
      rintro r w1 ⟨rfl, hb2⟩
      obtain ⟨c1, c2, c3, c4⟩ := (r1.below hb2 r1.lt).facts
      go_wp2_with fail
      refine bodyPost_ret (v := .tuple #[.agg #[.int .i64 0, .int .i64 0], .int .i64 1]) ?_ rfl ⟨rfl, ?_⟩
      · simp [results, Tryd.results14, go_sem, c1, c2]
      · exact ((((((Below.refl w.heap.size w).alloc (Nat.le_refl _) _).alloc (by simp) _).alloc (by simp; omega) _).trans (hb2.mono (by simp; omega))).setCell (by show w.heap.size ≤ w.heap.size + 1 + 1; omega) _).setCell (by show w.heap.size ≤ w.heap.size + 1 + 1; omega) _
end Go.Proofs.YtflnhjfmlminoaaDoor.Fr
