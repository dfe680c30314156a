/- Walks over package fraction: the order of two fractions. -/
import Derived.Test.YtflnhjfmlminoaaDoorFrcW7
namespace Go.Proofs.YtflnhjfmlminoaaDoor.Fr
set_option linter.unusedVariables false
set_option linter.unusedSimpArgs false
open Go.RowKit

theorem two_b1 {W w1 : World} {t : TypeId} {x y : Value} (hb : Below (W.alloc (.cells #[x, y] t)).drew.heap.size (W.alloc (.cells #[x, y] t)).drew w1) : Two w1 W.heap.size t x y :=
  Two.below (w := (W.alloc (.cells #[x, y] t)).drew) (Two.new W t x y) hb (by simp)
theorem two_b2 {W w1 : World} {t s : TypeId} {x y a b : Value} (hb : Below ((W.alloc (.cells #[x, y] t)).alloc (.cells #[a, b] s)).drew.heap.size ((W.alloc (.cells #[x, y] t)).alloc (.cells #[a, b] s)).drew w1) : Two w1 W.heap.size t x y ∧ Two w1 (W.heap.size + 1) s a b :=
  ⟨Two.below (w := ((W.alloc (.cells #[x, y] t)).alloc (.cells #[a, b] s)).drew) ((Two.new W t x y).alloc _) hb (by simp; omega), Two.below (w := ((W.alloc (.cells #[x, y] t)).alloc (.cells #[a, b] s)).drew) (Two.at (by simp) s a b) hb (by simp)⟩
theorem two_b3 {W w1 : World} {t : TypeId} {x y : Value} (hb : Below (W.alloc (.cells #[x, y] t)).heap.size (W.alloc (.cells #[x, y] t)) w1) : Two w1 W.heap.size t x y :=
  Two.below (Two.new W t x y) hb (by simp)
theorem two_b4 {W w1 : World} {t s : TypeId} {x y a b : Value} (hb : Below ((W.alloc (.cells #[x, y] t)).alloc (.cells #[a, b] s)).heap.size ((W.alloc (.cells #[x, y] t)).alloc (.cells #[a, b] s)) w1) : Two w1 W.heap.size t x y ∧ Two w1 (W.heap.size + 1) s a b :=
  ⟨Two.below ((Two.new W t x y).alloc _) hb (by simp; omega), Two.below (Two.at (by simp) s a b) hb (by simp)⟩

/-- what the region of Compare leaves -/
def CmpAt (W : World) (P Q : Int) (v u : Value) (wx : World) : Prop :=
  ∃ B1 B2 : Nat, v = .pointer (some ⟨B1, 0, none⟩) ∧ u = .pointer (some ⟨B2, 0, none⟩) ∧ (wx.cell? ⟨B1, 0, none⟩ = some (.int .i64 (hiW P)) ∧ wx.cell? ⟨B1, 1, none⟩ = some (.int .u64 (loW P))) ∧
    (wx.cell? ⟨B2, 0, none⟩ = some (.int .i64 (hiW Q)) ∧ wx.cell? ⟨B2, 1, none⟩ = some (.int .u64 (loW Q))) ∧ Below W.heap.size W wx

set_option maxRecDepth 100000 in
set_option maxHeartbeats 4000000 in
theorem compare_val (n d m e : Int) (h : valP n d) (k : valP m e) (w : World) :
    Calls Tryd.prog 18 #[.agg #[.int .i64 n, .int .i64 d], .agg #[.int .i64 m, .int .i64 e]] w fun r w' => r = .returned (.tuple #[.int .i64 (if n * e = m * d then 0 else if n * e < m * d then -1 else 1), .int .i64 0]) ∧ Below w.heap.size w w' := by
  generalize hR : (if n * e = m * d then (0 : Int) else if n * e < m * d then -1 else 1) = R
  have HR := Lib.hid hR
  clear hR
  have t1 := (Two.new w 23 (.int .i64 n) (.int .i64 d)).alloc (.cells #[.int .i64 m, .int .i64 e] 23)
  have s1 := Two.at (w := w.alloc (.cells #[.int .i64 n, .int .i64 d] 23)) (B := w.heap.size + 1) (by simp) 23 (.int .i64 m) (.int .i64 e)
  go_enter Tryd.func18, Tryd.ntmps18
  go_wp2_with fail
  refine (valid_yes n d h _).mono ?_
  rintro r w1 ⟨rfl, hb1⟩
  have t2 := t1.below hb1 t1.lt
  have s2 := s1.below hb1 s1.lt
  obtain ⟨c1, c2, c3, c4⟩ := s2.facts
  go_wp2_with fail
  refine (valid_yes m e k _).mono ?_
  rintro r w2 ⟨rfl, hb2⟩
  have t3 := t2.below hb2 t2.lt
  have s3 := s2.below hb2 s2.lt
  have hB : Below w.heap.size w w2 := ((((Below.refl _ _).alloc (Nat.le_refl _) _).alloc (by simp) _).trans (hb1.mono (by simp; omega))).trans (hb2.mono (by have := t2.lt; omega))
  clear t1 s1 t2 s2 c1 c2 c3 c4 hb1 hb2
  obtain ⟨n1, n2, d1, d2, -⟩ := h
  obtain ⟨m1, m2, e1, e2, -⟩ := k
  go_upto_region 3 with fail
  have hS : ∀ w' : World, Below w2.heap.size w2 w' → ((w'.cell? ⟨w.heap.size, 0, none⟩ = some (.int .i64 n) ∧ w'.cell? ⟨w.heap.size, 1, none⟩ = some (.int .i64 d)) ∧ w'.cell? ⟨w.heap.size + 1, 0, none⟩ = some (.int .i64 m) ∧ w'.cell? ⟨w.heap.size + 1, 1, none⟩ = some (.int .i64 e)) ∧ Below w2.heap.size w2 w' := fun w' hb =>
    ⟨⟨⟨(t3.below hb t3.lt).facts.1, (t3.below hb t3.lt).facts.2.1⟩, (s3.below hb s3.lt).facts.1, (s3.below hb s3.lt).facts.2.1⟩, hb⟩
  have hr := Below.refl w2.heap.size w2
  go_cut [6, 7] (fun v u wx => CmpAt w2 (n * e) (m * d) v u wx)
  case first =>
    go_region_held3 (fun w' => ((w'.cell? ⟨w.heap.size, 0, none⟩ = some (.int .i64 n) ∧ w'.cell? ⟨w.heap.size, 1, none⟩ = some (.int .i64 d)) ∧ w'.cell? ⟨w.heap.size + 1, 0, none⟩ = some (.int .i64 m) ∧ w'.cell? ⟨w.heap.size + 1, 1, none⟩ = some (.int .i64 e)) ∧ Below w2.heap.size w2 w')
      (first | exact hS _ hr.drew | exact hS _ (by assumption) | (refine hS _ ?_; (repeat (first | assumption | (refine Below.drew ?_) | (refine Below.setCell ?_ ?_ _) | (refine Below.alloc ?_ ?_ _))); all_goals (first | omega | (simp; omega) | simp)))
      (first
        | (go_at_call 30; have hz := hb3; refine (product_any m d (by omega) (by omega) (by omega) (by omega) _).mono ?_; rintro r w4 ⟨rfl, hb4'⟩;
            have hb34 : Below w3.heap.size w3 w4 := (by first | exact hb4' | exact ((Below.refl w3.heap.size w3).alloc (Nat.le_refl _) _).trans (hb4'.mono (by simp)) | exact (((Below.refl w3.heap.size w3).alloc (Nat.le_refl _) _).alloc (by simp) _).trans (hb4'.mono (by simp; omega)));
            have hb4 : Below w2.heap.size w2 w4 := hb3.trans (hb34.mono hb3.size); have z4 := hb34.size;
            (try (refine cutI (p7.below hb34 p7.lt) (fun q7 => ?_); obtain ⟨f1, f2, f3, f4⟩ := q7.facts; have lf := q7.lt));
            (try (refine cutI (p8.below hb34 p8.lt) (fun q8 => ?_); obtain ⟨g1, g2, g3, g4⟩ := q8.facts; have lg := q8.lt));
            (first | (refine cutI (two_b4 hb4').1 (fun x7 => ?_); refine cutI (two_b4 hb4').2 (fun x8 => ?_); obtain ⟨f1, f2, f3, f4⟩ := x7.facts; obtain ⟨g1, g2, g3, g4⟩ := x8.facts; have lf := x7.lt; have lg := x8.lt) | (refine cutI (two_b3 hb4') (fun x7 => ?_); obtain ⟨f5, f6, f7, f8⟩ := x7.facts; have lx := x7.lt) | skip))
        | (go_at_call 30; refine (product_any n e (by omega) (by omega) (by omega) (by omega) _).mono ?_; rintro r w3 ⟨rfl, hb3'⟩;
            have hb3 : Below w2.heap.size w2 w3 := (by first | exact hr.drew.trans hb3' | exact (hr.alloc hr.size _).drew.trans (hb3'.mono (by simp)) | exact ((hr.alloc hr.size _).alloc (by simp) _).drew.trans (hb3'.mono (by simp; omega)));
            have z3 := hb3.size;
            (first | (refine cutI (two_b2 hb3').1 (fun p7 => ?_); refine cutI (two_b2 hb3').2 (fun p8 => ?_); have lp := p7.lt; have lq := p8.lt) | (refine cutI (two_b1 hb3') (fun p7 => ?_); have lp := p7.lt) | skip)))
    all_goals
      go_wp2_with fail
      go_meet
      refine ⟨_, _, rfl, rfl, ⟨?_, ?_⟩, ⟨?_, ?_⟩, ?_⟩
      · go_simp
      · go_simp
      · go_simp
      · go_simp
      · (repeat (first | assumption | (refine Below.drew ?_) | (refine Below.setCell ?_ ?_ _) | (refine Below.alloc ?_ ?_ _))); all_goals (first | omega | (simp; omega) | simp)
  case rest =>
    obtain ⟨B1, B2, rfl, rfl, ⟨p1, p2⟩, ⟨q1, q2⟩, hbc⟩ := hcut
    have hBc := hB.trans (hbc.mono hB.size)
    have hR := HR.out
    clear HR
    have hP := hi_bd n e (by omega) (by omega) (by omega) (by omega)
    have hQ := hi_bd m d (by omega) (by omega) (by omega) (by omega)
    generalize n * e = P at *
    generalize m * d = Q at *
    by_cases hPQ : P = Q
    · rw [if_pos hPQ] at hR
      subst hPQ
      subst hR
      go_wp2_with fail
      go_ret2
      exact ⟨rfl, hBc⟩
    · rw [if_neg hPQ] at hR
      have hne : ((hiW P == hiW Q) = false) ∨ ((hiW P == hiW Q) = true ∧ (loW P == loW Q) = false) := by
        by_cases h1 : hiW P = hiW Q
        · right
          refine ⟨by simpa using h1, ?_⟩
          simp only [beq_eq_false_iff_ne, ne_eq]
          exact fun h2 => hPQ ((wide_eq P Q).2 ⟨h1, h2⟩)
        · left
          simpa using h1
      have hlq : P < Q ∨ Q ≤ P := by omega
      rcases hlq with hlt | hle
      · rw [if_pos hlt] at hR
        subst hR
        rcases hne with hn1 | ⟨hn1, hn2⟩
        all_goals
          go_wp2_with (go_at_call 42; refine (less_yes P Q hlt _).mono ?_; rintro r w5 ⟨rfl, hb5⟩)
          go_ret2
          exact ⟨rfl, hBc.trans (hb5.mono hBc.size)⟩
      · rw [if_neg (by omega)] at hR
        subst hR
        rcases hne with hn1 | ⟨hn1, hn2⟩
        all_goals
          go_wp2_with (go_at_call 42; refine (less_no P Q hle _).mono ?_; rintro r w5 ⟨rfl, hb5⟩)
          go_ret2
          exact ⟨rfl, hBc.trans (hb5.mono hBc.size)⟩
end Go.Proofs.YtflnhjfmlminoaaDoor.Fr
