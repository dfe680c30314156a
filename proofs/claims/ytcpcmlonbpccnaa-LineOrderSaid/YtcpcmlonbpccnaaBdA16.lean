/- Walks over package fraction: the order of two fractions. -/
import Derived.Test.YtcpcmlonbpccnaaBdA6
import Derived.Test.YtcpcmlonbpccnaaBdA2
import Derived.Test.YtcpcmlonbpccnaaBdA11
namespace Go.Proofs.Ytcpcmlonbpccnaa.Fr
set_option linter.unusedVariables false
set_option linter.unusedSimpArgs false
open Go.RowKit

theorem two_b1 {W w1 : World} {t : TypeId} {x y : Value} (hb : Below (W.alloc (.cells #[x, y] t)).drew.heap.size (W.alloc (.cells #[x, y] t)).drew w1) : Two w1 W.heap.size t x y :=
  Two.below (w := (W.alloc (.cells #[x, y] t)).drew) (Two.new W t x y) hb (by simp)
theorem two_b2 {W w1 : World} {t s : TypeId} {x y a b : Value} (hb : Below ((W.alloc (.cells #[x, y] t)).alloc (.cells #[a, b] s)).drew.heap.size ((W.alloc (.cells #[x, y] t)).alloc (.cells #[a, b] s)).drew w1) : Two w1 W.heap.size t x y ∧ Two w1 (W.heap.size + 1) s a b :=
  ⟨Two.below (w := ((W.alloc (.cells #[x, y] t)).alloc (.cells #[a, b] s)).drew) ((Two.new W t x y).alloc _) hb (by simp; omega), Two.below (w := ((W.alloc (.cells #[x, y] t)).alloc (.cells #[a, b] s)).drew) (Two.at (by simp) s a b) hb (by simp)⟩
theorem two_b3 {W w1 : World} {t : TypeId} {x y : Value} (hb : Below (W.alloc (.cells #[x, y] t)).heap.size (W.alloc (.cells #[x, y] t)) w1) : Two w1 W.heap.size t x y :=
  Two.below (Two.new W t x y) hb (by simp)
theorem two_b4 {W w1 : World} {t s : TypeId} {x y a b : Value} (hb : Below ((W.alloc (.cells #[x, y] t)).alloc (.cells #[a, b] s)).heap.size ((W.alloc (.cells #[x, y] t)).alloc (.cells #[a, b] s)) w1) : Two w1 W.heap.size t x y ∧ Two w1 (W.heap.size + 1) s a b :=
  ⟨Two.below ((Two.new W t x y).alloc _) hb (by simp; omega), Two.below (Two.at (by simp) s a b) hb (by simp)⟩

/-- what the region of Compare leaves -/
def CmpAt (W : World) (P Q : Int) (v u : Value) (wx : World) : Prop :=
  ∃ B1 B2 : Nat, v = .pointer (some ⟨B1, 0, none⟩) ∧ u = .pointer (some ⟨B2, 0, none⟩) ∧ (wx.cell? ⟨B1, 0, none⟩ = some (.int .i64 (hiW P)) ∧ wx.cell? ⟨B1, 1, none⟩ = some (.int .u64 (loW P))) ∧
    (wx.cell? ⟨B2, 0, none⟩ = some (.int .i64 (hiW Q)) ∧ wx.cell? ⟨B2, 1, none⟩ = some (.int .u64 (loW Q))) ∧ Below W.heap.size W wx

set_option maxRecDepth 100000 in
set_option maxHeartbeats 4000000 in
theorem compare_val (n d m e : Int) (h : valP n d) (k : valP m e) (w : World) :
    Calls Try.prog 29 #[.agg #[.int .i64 n, .int .i64 d], .agg #[.int .i64 m, .int .i64 e]] w fun r w' => r = .returned (.tuple #[.int .i64 (if n * e = m * d then 0 else if n * e < m * d then -1 else 1), .int .i64 0]) ∧ Below w.heap.size w w' := by
  generalize hR : (if n * e = m * d then (0 : Int) else if n * e < m * d then -1 else 1) = R
  have HR := Lib.hid hR
  clear hR
  have t1 := (Two.new w 26 (.int .i64 n) (.int .i64 d)).alloc (.cells #[.int .i64 m, .int .i64 e] 26)
  have s1 := Two.at (w := w.alloc (.cells #[.int .i64 n, .int .i64 d] 26)) (B := w.heap.size + 1) (by simp) 26 (.int .i64 m) (.int .i64 e)
  go_enter Try.func29, Try.ntmps29
  go_wp2_with fail
  refine (valid_yes n d h _).mono ?_
  rintro r w1 ⟨rfl, hb1⟩
  have t2 := t1.below hb1 t1.lt
  have s2 := s1.below hb1 s1.lt
  obtain ⟨c1, c2, c3, c4⟩ := s2.facts
  go_wp2_with fail
  refine (valid_yes m e k _).mono ?_
  rintro r w2 ⟨rfl, hb2⟩
  have t3 := t2.below hb2 t2.lt
  have s3 := s2.below hb2 s2.lt
  have hB : Below w.heap.size w w2 := ((((Below.refl _ _).alloc (Nat.le_refl _) _).alloc (by simp) _).trans (hb1.mono (by simp; omega))).trans (hb2.mono (by have := t2.lt; omega))
  clear t1 s1 t2 s2 c1 c2 c3 c4 hb1 hb2
  obtain ⟨n1, n2, d1, d2, -⟩ := h
  obtain ⟨m1, m2, e1, e2, -⟩ := k
  go_upto_region 3 with fail
  have hS : ∀ w' : World, Below w2.heap.size w2 w' → ((w'.cell? ⟨w.heap.size, 0, none⟩ = some (.int .i64 n) ∧ w'.cell? ⟨w.heap.size, 1, none⟩ = some (.int .i64 d)) ∧ w'.cell? ⟨w.heap.size + 1, 0, none⟩ = some (.int .i64 m) ∧ w'.cell? ⟨w.heap.size + 1, 1, none⟩ = some (.int .i64 e)) ∧ Below w2.heap.size w2 w' := fun w' hb =>
    ⟨⟨⟨(t3.below hb t3.lt).facts.1, (t3.below hb t3.lt).facts.2.1⟩, (s3.below hb s3.lt).facts.1, (s3.below hb s3.lt).facts.2.1⟩, hb⟩
  have hr := Below.refl w2.heap.size w2
  go_cut [6, 7] (fun v u wx => CmpAt w2 (n * e) (m * d) v u wx)
  case first =>
    go_region_held3 (fun w' => ((w'.cell? ⟨w.heap.size, 0, none⟩ = some (.int .i64 n) ∧ w'.cell? ⟨w.heap.size, 1, none⟩ = some (.int .i64 d)) ∧ w'.cell? ⟨w.heap.size + 1, 0, none⟩ = some (.int .i64 m) ∧ w'.cell? ⟨w.heap.size + 1, 1, none⟩ = some (.int .i64 e)) ∧ Below w2.heap.size w2 w')
      (first | exact hS _ hr.drew | exact hS _ (by assumption) | (refine hS _ ?_; (repeat (first | assumption | (refine Below.drew ?_) | (refine Below.setCell ?_ ?_ _) | (refine Below.alloc ?_ ?_ _))); all_goals (first | omega | (simp; omega) | simp)))
      (first
        | (go_at_call 69; have hz := hb3; refine (product_any m d (by omega) (by omega) (by omega) (by omega) _).mono ?_; rintro r w4 ⟨rfl, hb4'⟩;
            have hb34 : Below w3.heap.size w3 w4 := (by first | exact hb4' | exact ((Below.refl w3.heap.size w3).alloc (Nat.le_refl _) _).trans (hb4'.mono (by simp)) | exact (((Below.refl w3.heap.size w3).alloc (Nat.le_refl _) _).alloc (by simp) _).trans (hb4'.mono (by simp; omega)));
            have hb4 : Below w2.heap.size w2 w4 := hb3.trans (hb34.mono hb3.size); have z4 := hb34.size;
            (try (refine cutI (p7.below hb34 p7.lt) (fun q7 => ?_); obtain ⟨f1, f2, f3, f4⟩ := q7.facts; have lf := q7.lt));
            (try (refine cutI (p8.below hb34 p8.lt) (fun q8 => ?_); obtain ⟨g1, g2, g3, g4⟩ := q8.facts; have lg := q8.lt));
            (first | (refine cutI (two_b4 hb4').1 (fun x7 => ?_); refine cutI (two_b4 hb4').2 (fun x8 => ?_); obtain ⟨f1, f2, f3, f4⟩ := x7.facts; obtain ⟨g1, g2, g3, g4⟩ := x8.facts; have lf := x7.lt; have lg := x8.lt) | (refine cutI (two_b3 hb4') (fun x7 => ?_); obtain ⟨f5, f6, f7, f8⟩ := x7.facts; have lx := x7.lt) | skip))
        | (go_at_call 69; refine (product_any n e (by omega) (by omega) (by omega) (by omega) _).mono ?_; rintro r w3 ⟨rfl, hb3'⟩;
            have hb3 : Below w2.heap.size w2 w3 := (by first | exact hr.drew.trans hb3' | exact (hr.alloc hr.size _).drew.trans (hb3'.mono (by simp)) | exact ((hr.alloc hr.size _).alloc (by simp) _).drew.trans (hb3'.mono (by simp; omega)));
            have z3 := hb3.size;
            (first | (refine cutI (two_b2 hb3').1 (fun p7 => ?_); refine cutI (two_b2 hb3').2 (fun p8 => ?_); have lp := p7.lt; have lq := p8.lt) | (refine cutI (two_b1 hb3') (fun p7 => ?_); have lp := p7.lt) | skip)))
    all_goals
      go_wp2_with fail
      go_meet
      refine ⟨_, _, rfl, rfl, ⟨?_, ?_⟩, ⟨?_, ?_⟩, ?_⟩
      · go_simp
      · go_simp
      · go_simp
      · go_simp
      · (repeat (first | assumption | (refine Below.drew ?_) | (refine Below.setCell ?_ ?_ _) | (refine Below.alloc ?_ ?_ _))); all_goals (first | omega | (simp; omega) | simp)
  case rest =>
    obtain ⟨B1, B2, rfl, rfl, ⟨p1, p2⟩, ⟨q1, q2⟩, hbc⟩ := hcut
    have hBc := hB.trans (hbc.mono hB.size)
    have hR := HR.out
    clear HR
    have hP := hi_bd n e (by omega) (by omega) (by omega) (by omega)
    have hQ := hi_bd m d (by omega) (by omega) (by omega) (by omega)
    generalize n * e = P at *
    generalize m * d = Q at *
    by_cases hPQ : P = Q
    · rw [if_pos hPQ] at hR
      subst hPQ
      subst hR
      go_wp2_with fail
      go_ret2
      exact ⟨rfl, hBc⟩
    · rw [if_neg hPQ] at hR
      have hne : ((hiW P == hiW Q) = false) ∨ ((hiW P == hiW Q) = true ∧ (loW P == loW Q) = false) := by
        by_cases h1 : hiW P = hiW Q
        · right
          refine ⟨by simpa using h1, ?_⟩
          simp only [beq_eq_false_iff_ne, ne_eq]
          exact fun h2 => hPQ ((wide_eq P Q).2 ⟨h1, h2⟩)
        · left
          simpa using h1
      have hlq : P < Q ∨ Q ≤ P := by omega
      rcases hlq with hlt | hle
      · rw [if_pos hlt] at hR
        subst hR
        rcases hne with hn1 | ⟨hn1, hn2⟩
        all_goals
          go_wp2_with (go_at_call 70; refine (less_yes P Q hlt _).mono ?_; rintro r w5 ⟨rfl, hb5⟩)
          go_ret2
          exact ⟨rfl, hBc.trans (hb5.mono hBc.size)⟩
      · rw [if_neg (by omega)] at hR
        subst hR
        rcases hne with hn1 | ⟨hn1, hn2⟩
        all_goals
          go_wp2_with (go_at_call 70; refine (less_no P Q hle _).mono ?_; rintro r w5 ⟨rfl, hb5⟩)
          go_ret2
          exact ⟨rfl, hBc.trans (hb5.mono hBc.size)⟩
end Go.Proofs.Ytcpcmlonbpccnaa.Fr

/- Walks over package fraction: Compare, Of, Mul at all arguments. -/
namespace Go.Proofs.Ytcpcmlonbpccnaa.Fr
set_option linter.unusedVariables false
set_option linter.unusedSimpArgs false
open Go.RowKit

theorem compare_any (n d m e : Int) (w : World) :
    Calls Try.prog 29 #[.agg #[.int .i64 n, .int .i64 d], .agg #[.int .i64 m, .int .i64 e]] w fun r w' => r = .returned (.tuple #[.int .i64 (cmpV n d m e), .int .i64 (cmpE n d m e)]) ∧ Below w.heap.size w w' := by
  unfold cmpV cmpE
  by_cases h : valP n d
  · by_cases k : valP m e
    · rw [if_pos (show valP n d ∧ valP m e from ⟨h, k⟩), if_pos (show valP n d ∧ valP m e from ⟨h, k⟩)]
      exact compare_val n d m e h k w
    · rw [if_neg (show ¬ (valP n d ∧ valP m e) from fun x => k x.2), if_neg (show ¬ (valP n d ∧ valP m e) from fun x => k x.2)]
      have s1 := Two.at (w := w.alloc (.cells #[.int .i64 n, .int .i64 d] 26)) (B := w.heap.size + 1) (by simp) 26 (.int .i64 m) (.int .i64 e)
      go_enter Try.func29, Try.ntmps29
      go_wp2_with fail
      refine (valid_yes n d h _).mono ?_
      rintro r w1 ⟨rfl, hb1⟩
      have s2 := s1.below hb1 s1.lt
      obtain ⟨c1, c2, c3, c4⟩ := s2.facts
      go_wp2_with fail
      refine (valid_no m e k _).mono ?_
      rintro r w2 ⟨rfl, hb2⟩
      go_wp2_with fail
      go_ret2
      exact ⟨rfl, ((((Below.refl _ _).alloc (Nat.le_refl _) _).alloc (by simp) _).trans (hb1.mono (by simp; omega))).trans (hb2.mono (by have := s2.lt; omega))⟩
  · rw [if_neg (show ¬ (valP n d ∧ valP m e) from fun x => h x.1), if_neg (show ¬ (valP n d ∧ valP m e) from fun x => h x.1)]
    go_enter Try.func29, Try.ntmps29
    go_wp2_with fail
    refine (valid_no n d h _).mono ?_
    rintro r w1 ⟨rfl, hb1⟩
    go_wp2_with fail
    go_ret2
    exact ⟨rfl, ((((Below.refl _ _).alloc (Nat.le_refl _) _).alloc (by simp) _).trans (hb1.mono (by simp; omega)))⟩

theorem isT_iff (P : Int) : isT P = true ↔ -4611686018427387904 ≤ P ∧ P ≤ 4611686018427387904 := by unfold isT; exact decide_eq_true_iff
theorem res_of {q : Rat} {P Q : Int} (h1 : q.num = P) (h2 : (q.den : Int) = Q) :
    (if isT P && isT Q then P else 0) = rN q ∧ (if isT P && isT Q then Q else 0) = rD q ∧ (if isT P && isT Q then (0 : Int) else 9) = rE q := by
  subst h1 h2
  have hd := q.den_pos
  by_cases hf : fitP q
  · have hb : (isT q.num && isT (q.den : Int)) = true := by
      rw [Bool.and_eq_true, isT_iff, isT_iff]
      exact ⟨⟨hf.1, hf.2.1⟩, by omega, hf.2.2⟩
    obtain ⟨a, b, c⟩ := r_fit hf
    rw [a, b, c, hb]
    exact ⟨rfl, rfl, rfl⟩
  · have hb : (isT q.num && isT (q.den : Int)) = false := by
      rw [Bool.eq_false_iff]
      intro hb
      rw [Bool.and_eq_true, isT_iff, isT_iff] at hb
      exact hf ⟨hb.1.1, hb.1.2, hb.2.2⟩
    obtain ⟨a, b, c⟩ := r_far hf
    rw [a, b, c, hb]
    exact ⟨rfl, rfl, rfl⟩
theorem result_q (q : Rat) (P Q : Int) (h1 : q.num = P) (h2 : (q.den : Int) = Q) (w : World) :
    Calls Try.prog 75 #[.agg #[.int .i64 (hiW P), .int .u64 (loW P)], .agg #[.int .i64 (hiW Q), .int .u64 (loW Q)]] w fun e w' => e = .returned (.tuple #[.agg #[.int .i64 (rN q), .int .i64 (rD q)], .int .i64 (rE q)]) ∧ Below w.heap.size w w' := by
  obtain ⟨a, b, c⟩ := res_of h1 h2
  rw [← a, ← b, ← c]
  exact result_any P Q w

theorem red_small (a : Int) (G : Nat) (hG : 0 < G) (hG2 : (G : Int) ≤ 4611686018427387904) (hga : (G : Int) ∣ a) (h1 : -9223372036854775808 ≤ a) (h2 : a ≤ 9223372036854775807) :
    IntKind.i64.wrap (G : Int) = (G : Int) ∧ IntKind.i64.wrap (a.tdiv (G : Int)) = a / (G : Int) ∧ -9223372036854775808 ≤ a / (G : Int) ∧ a / (G : Int) ≤ 9223372036854775807 := by
  have hb := tdiv_small a (G : Int) (by omega) h1 h2
  rw [Int.tdiv_eq_ediv_of_dvd hga] at hb ⊢
  exact ⟨IntWalk.i64_in _ (by omega), IntWalk.i64_in _ hb, hb.1, hb.2⟩
theorem red_facts (a b : Int) (hb0 : b ≠ 0) (ha : -9223372036854775808 ≤ a) (ha2 : a ≤ 9223372036854775807) (hb : -9223372036854775808 ≤ b) (hb2 : b ≤ 9223372036854775807) :
    ∃ (σ x y g : Int), (σ = 1 ∨ σ = -1) ∧ IntKind.i64.wrap ((Nat.gcd a.natAbs b.natAbs : Nat) : Int) = g ∧ g ≠ 0 ∧ IntKind.i64.wrap (a.tdiv g) = x ∧ IntKind.i64.wrap (b.tdiv g) = y ∧
      x = σ * (a / ((Nat.gcd a.natAbs b.natAbs : Nat) : Int)) ∧ y = σ * (b / ((Nat.gcd a.natAbs b.natAbs : Nat) : Int)) ∧ (-9223372036854775808 ≤ x ∧ x ≤ 9223372036854775807) ∧ (-9223372036854775808 ≤ y ∧ y ≤ 9223372036854775807) := by
  have hgp : 0 < Nat.gcd a.natAbs b.natAbs := Nat.gcd_pos_of_pos_right _ (by omega)
  have hga : ((Nat.gcd a.natAbs b.natAbs : Nat) : Int) ∣ a := Int.ofNat_dvd_left.2 (Nat.gcd_dvd_left ..)
  have hgb : ((Nat.gcd a.natAbs b.natAbs : Nat) : Int) ∣ b := Int.ofNat_dvd_left.2 (Nat.gcd_dvd_right ..)
  have hle : Nat.gcd a.natAbs b.natAbs ≤ b.natAbs := Nat.gcd_le_right _ (by omega)
  generalize Nat.gcd a.natAbs b.natAbs = G at *
  by_cases hG : (G : Int) ≤ 9223372036854775807
  · have bx := tdiv_small a (G : Int) (by omega) ha ha2
    have bz := tdiv_small b (G : Int) (by omega) hb hb2
    rw [Int.tdiv_eq_ediv_of_dvd hga] at bx
    rw [Int.tdiv_eq_ediv_of_dvd hgb] at bz
    refine ⟨1, a / (G : Int), b / (G : Int), (G : Int), .inl rfl, IntWalk.i64_in _ (by omega), by omega, ?_, ?_, by omega, by omega, bx, bz⟩
    · rw [Int.tdiv_eq_ediv_of_dvd hga]
      exact IntWalk.i64_in _ bx
    · rw [Int.tdiv_eq_ediv_of_dvd hgb]
      exact IntWalk.i64_in _ bz
  · have hG2 : (G : Int) = 9223372036854775808 := by omega
    have hw : IntKind.i64.wrap (G : Int) = -9223372036854775808 := by
      rw [hG2, IntKind.wrap_i64]
      omega
    rw [hG2] at hga hgb
    have ha3 : a = 0 ∨ a = -9223372036854775808 := by omega
    have hb3 : b = -9223372036854775808 := by omega
    rw [hG2] at *
    refine ⟨-1, -1 * (a / 9223372036854775808), -1 * (b / 9223372036854775808), -9223372036854775808, .inr rfl, hw, by omega, ?_, ?_, rfl, rfl, by omega, by omega⟩
    · rcases ha3 with rfl | rfl <;> decide
    · subst hb3
      decide

theorem of_any (a b : Int) (ha : -9223372036854775808 ≤ a) (ha2 : a ≤ 9223372036854775807) (hb : -9223372036854775808 ≤ b) (hb2 : b ≤ 9223372036854775807) (w : World) :
    Calls Try.prog 103 #[.int .i64 a, .int .i64 b] w fun e w' => e = .returned (.tuple #[.agg #[.int .i64 (ofN a b), .int .i64 (ofD a b)], .int .i64 (ofE a b)]) ∧ Below w.heap.size w w' := by
  unfold ofN ofD ofE
  by_cases hz : b = 0
  · subst hz
    rw [if_pos rfl, if_pos rfl, if_pos rfl]
    go_enter Try.func103, Try.ntmps103
    go_wp2_with fail
    refine bodyPost_ret (v := .tuple #[.agg #[.int .i64 0, .int .i64 0], .int .i64 14]) ?_ rfl ⟨rfl, ?_⟩
    · simp [results, Try.results103, go_sem]
    · exact (Below.refl _ _).alloc (Nat.le_refl _) _
  · rw [if_neg hz, if_neg hz, if_neg hz]
    obtain ⟨σ, x, y, g, hσ, hg, hg0, hx, hy, hxe, hye, ⟨bx1, bx2⟩, ⟨by1, by2⟩⟩ := red_facts a b hz ha ha2 hb hb2
    have hbz : (b == 0) = false := by simpa using hz
    obtain ⟨s, hs⟩ : ∃ s : Int, s = if y < 0 then -1 else 1 := ⟨_, rfl⟩
    obtain ⟨q1, q2⟩ := of_int a b x y s _ hz rfl σ hσ hxe hye hs
    have hR := fun w => reduced_any a b g ha ha2 hb hb2 hg hg0 x y hx hy w
    have HR := Lib.hid hR
    clear hg hg0 hx hy hxe hye hR hz
    have t4 := Two.new w 26 (.int .i64 0) (.int .i64 0)
    by_cases hy0 : y < 0
    · rw [if_pos hy0] at hs
      subst hs
      have hQ := fun w => result_q (ofQ a b) (-x) (-y) (by rw [q1]; omega) (by rw [q2]; omega) w
      generalize ofQ a b = q at *
      have HQ := Lib.hid hQ
      clear q1 q2 hQ
      go_enter Try.func103, Try.ntmps103
      go_wp2_with fail
      refine (HR.out _).mono ?_
      rintro r w1 ⟨rfl, hb1⟩
      go_wp2_with fail
      refine (product_any x _ (by omega) (by omega) (by omega) (by omega) _).mono ?_
      rintro r w2 ⟨rfl, hb2⟩
      go_wp2_with fail
      refine (product_any y _ (by omega) (by omega) (by omega) (by omega) _).mono ?_
      rintro r w3 ⟨rfl, hb3⟩
      go_wp2_with fail
      refine (HQ.out _).mono ?_
      rintro r w4 ⟨rfl, hb4⟩
      have hb2' := hb1.trans (hb2.mono hb1.size)
      have hb3' := hb2'.trans (hb3.mono hb2'.size)
      have hb4' := hb3'.trans (hb4.mono hb3'.size)
      have t5 := t4.below hb4' t4.lt
      obtain ⟨c1, c2, c3, c4⟩ := t5.facts
      clear hb1 hb2 hb3 hb4 hb2' hb3'
      go_wp2_with fail
      refine bodyPost_ret (v := .tuple #[.agg #[.int .i64 (rN q), .int .i64 (rD q)], .int .i64 (rE q)]) ?_ rfl ⟨rfl, ?_⟩
      · simp [results, Try.results103, go_sem, c1, c2]
      · exact ((((Below.refl _ _).alloc (Nat.le_refl _) _).trans (hb4'.mono (by simp))).setCell (by simp) _).setCell (by simp) _
    · rw [if_neg hy0] at hs
      subst hs
      have hQ := fun w => result_q (ofQ a b) x y (by rw [q1]; omega) (by rw [q2]; omega) w
      generalize ofQ a b = q at *
      have HQ := Lib.hid hQ
      clear q1 q2 hQ
      go_enter Try.func103, Try.ntmps103
      go_wp2_with fail
      refine (HR.out _).mono ?_
      rintro r w1 ⟨rfl, hb1⟩
      go_wp2_with fail
      refine (product_any x _ (by omega) (by omega) (by omega) (by omega) _).mono ?_
      rintro r w2 ⟨rfl, hb2⟩
      go_wp2_with fail
      refine (product_any y _ (by omega) (by omega) (by omega) (by omega) _).mono ?_
      rintro r w3 ⟨rfl, hb3⟩
      go_wp2_with fail
      refine (HQ.out _).mono ?_
      rintro r w4 ⟨rfl, hb4⟩
      have hb2' := hb1.trans (hb2.mono hb1.size)
      have hb3' := hb2'.trans (hb3.mono hb2'.size)
      have hb4' := hb3'.trans (hb4.mono hb3'.size)
      have t5 := t4.below hb4' t4.lt
      obtain ⟨c1, c2, c3, c4⟩ := t5.facts
      clear hb1 hb2 hb3 hb4 hb2' hb3'
      go_wp2_with fail
      refine bodyPost_ret (v := .tuple #[.agg #[.int .i64 (rN q), .int .i64 (rD q)], .int .i64 (rE q)]) ?_ rfl ⟨rfl, ?_⟩
      · simp [results, Try.results103, go_sem, c1, c2]
      · exact ((((Below.refl _ _).alloc (Nat.le_refl _) _).trans (hb4'.mono (by simp))).setCell (by simp) _).setCell (by simp) _
end Go.Proofs.Ytcpcmlonbpccnaa.Fr

/- Walks over package geom: quotients. -/
namespace Go.Proofs.Ytcpcmlonbpccnaa.Ge
set_option linter.unusedVariables false
set_option linter.unusedSimpArgs false
open Go.RowKit
open Go.Proofs.Ytcpcmlonbpccnaa.Fr (Two of_any)

theorem quo_any (a b : Int) (ha : 0 ≤ a) (hb : 1 ≤ b) (ha2 : a ≤ 4611686018427387904) (hb2 : b ≤ 4611686018427387904) (w : World) :
    Calls Try.prog 66 #[.int .i64 a, .int .i64 b] w fun e w' => e = .returned (.agg #[.int .i64 (qN a b), .int .i64 (qD a b)]) ∧ Below w.heap.size w w' := by
  have HO := Lib.hid (fun w => of_any a b (by omega) (by omega) (by omega) (by omega) w)
  obtain ⟨e1, e2, e3⟩ := of_quo ha hb ha2 hb2
  rw [e1, e2, e3] at HO
  clear e1 e2 e3
  generalize qN a b = N at *
  generalize qD a b = D at *
  have o1 := Two.new w 26 (.int .i64 0) (.int .i64 0)
  have hb0 := (Below.refl w.heap.size w).alloc (Nat.le_refl _) (.cells #[.int .i64 0, .int .i64 0] 26)
  go_enter Try.func66, Try.ntmps66
  go_wp2_with fail
  refine (HO.out _).mono ?_
  rintro r w1 ⟨rfl, hx1⟩
  have o2 := o1.below hx1 o1.lt
  have hb1 := hb0.trans (hx1.mono hb0.size)
  have lt := o2.lt
  obtain ⟨c1, c2, c3, c4⟩ := o2.facts
  go_wp2_with fail
  have o4 := (two_set2 o2 (.int .i64 N) (.int .i64 D)).alloc (.cells #[.int .i64 N, .int .i64 D] 26)
  obtain ⟨d1, d2, -, -⟩ := o4.facts
  refine bodyPost_ret (v := .agg #[.int .i64 N, .int .i64 D]) ?_ rfl ⟨rfl, ?_⟩
  · simp [results, Try.results66, go_sem, d1, d2]
  · have s := set2_below hb1 (Nat.le_refl _) (.int .i64 N) (.int .i64 D)
    exact s.alloc s.size _
end Go.Proofs.Ytcpcmlonbpccnaa.Ge

/- Walks over package geom: Foot. -/
namespace Go.Proofs.Ytcpcmlonbpccnaa.Ge
set_option linter.unusedVariables false
set_option linter.unusedSimpArgs false
open Go.RowKit
open Go.Proofs.Ytcpcmlonbpccnaa.Fr (Two)

theorem two_keep2 {w : World} {B C : Nat} {t : TypeId} {x y : Value} (h : Two w B t x y) (a b : Value) (hne : B ≠ C) : Two ((w.setCell ⟨C, 0, none⟩ a).setCell ⟨C, 1, none⟩ b) B t x y := by
  unfold Two at h ⊢
  rw [heap_setCell_other _ _ _ _ hne, heap_setCell_other _ _ _ _ hne]
  exact h
set_option maxRecDepth 100000 in
set_option maxHeartbeats 8000000 in
theorem Foot_any (px py ax ay bx bz : Int) (w : World) :
    Calls Try.prog 27 #[.agg #[.int .i64 px, .int .i64 py], .agg #[.int .i64 ax, .int .i64 ay], .agg #[.int .i64 bx, .int .i64 bz]] w fun e w' => e = .returned (if onP px py ∧ onP ax ay ∧ onP bx bz then .tuple #[.agg #[.int .i64 (ftN px py ax ay bx bz), .int .i64 (ftD px py ax ay bx bz)], .agg #[.int .i64 (ftM px py ax ay bx bz), .int .i64 (ftE px py ax ay bx bz)], .int .i64 0] else .tuple #[.agg #[.int .i64 0, .int .i64 0], .agg #[.int .i64 0, .int .i64 0], .int .i64 1]) ∧ Below w.heap.size w w' := by
  have HL := Lib.hid (fun b cap w k => allOn3 px py ax ay bx bz b cap w k)
  have b0_0 := Two.at (w := w) (B := w.heap.size) (by simp) 24 (.int .i64 px) (.int .i64 py)
  have b1_1 := Two.at (w := (w.alloc (.cells #[.int .i64 px, .int .i64 py] 24))) (B := w.heap.size + 1) (by simp) 24 (.int .i64 ax) (.int .i64 ay)
  have b0_1 := b0_0.alloc (.cells #[.int .i64 ax, .int .i64 ay] 24)
  have b2_2 := Two.at (w := ((w.alloc (.cells #[.int .i64 px, .int .i64 py] 24)).alloc (.cells #[.int .i64 ax, .int .i64 ay] 24))) (B := w.heap.size + 1 + 1) (by simp) 24 (.int .i64 bx) (.int .i64 bz)
  have b0_2 := b0_1.alloc (.cells #[.int .i64 bx, .int .i64 bz] 24)
  have b1_2 := b1_1.alloc (.cells #[.int .i64 bx, .int .i64 bz] 24)
  have b0_2e := b0_2.alloc (.cells #[.int .i64 0, .int .i64 0] 26)
  have b1_2e := b1_2.alloc (.cells #[.int .i64 0, .int .i64 0] 26)
  have b2_2e := b2_2.alloc (.cells #[.int .i64 0, .int .i64 0] 26)
  have b0_2ee := b0_2e.alloc (.cells #[.int .i64 0, .int .i64 0] 26)
  have b1_2ee := b1_2e.alloc (.cells #[.int .i64 0, .int .i64 0] 26)
  have b2_2ee := b2_2e.alloc (.cells #[.int .i64 0, .int .i64 0] 26)
  have b0_2eee := b0_2ee.alloc (.cells #[.int .i64 px, .int .i64 py, .int .i64 ax, .int .i64 ay, .int .i64 bx, .int .i64 bz] 24)
  have b1_2eee := b1_2ee.alloc (.cells #[.int .i64 px, .int .i64 py, .int .i64 ax, .int .i64 ay, .int .i64 bx, .int .i64 bz] 24)
  have b2_2eee := b2_2ee.alloc (.cells #[.int .i64 px, .int .i64 py, .int .i64 ax, .int .i64 ay, .int .i64 bx, .int .i64 bz] 24)
  have hb0 : Below w.heap.size w _ := (((((((Below.refl w.heap.size w).alloc (by simp <;> omega) (.cells #[.int .i64 px, .int .i64 py] 24)).alloc (by simp <;> omega) (.cells #[.int .i64 ax, .int .i64 ay] 24)).alloc (by simp <;> omega) (.cells #[.int .i64 bx, .int .i64 bz] 24)).alloc (by simp <;> omega) (.cells #[.int .i64 0, .int .i64 0] 26)).alloc (by simp <;> omega) (.cells #[.int .i64 0, .int .i64 0] 26)).alloc (by simp <;> omega) (.cells #[.int .i64 px, .int .i64 py, .int .i64 ax, .int .i64 ay, .int .i64 bx, .int .i64 bz] 24))
  have v3 := ((Two.at (w := (((w.alloc (.cells #[.int .i64 px, .int .i64 py] 24)).alloc (.cells #[.int .i64 ax, .int .i64 ay] 24)).alloc (.cells #[.int .i64 bx, .int .i64 bz] 24))) (B := w.heap.size + 1 + 1 + 1) (by simp) 26 (.int .i64 0) (.int .i64 0)).alloc (.cells #[.int .i64 0, .int .i64 0] 26)).alloc (.cells #[.int .i64 px, .int .i64 py, .int .i64 ax, .int .i64 ay, .int .i64 bx, .int .i64 bz] 24)
  have v4 := (Two.at (w := (((w.alloc (.cells #[.int .i64 px, .int .i64 py] 24)).alloc (.cells #[.int .i64 ax, .int .i64 ay] 24)).alloc (.cells #[.int .i64 bx, .int .i64 bz] 24)).alloc (.cells #[.int .i64 0, .int .i64 0] 26)) (B := w.heap.size + 1 + 1 + 1 + 1) (by simp) 26 (.int .i64 0) (.int .i64 0)).alloc (.cells #[.int .i64 px, .int .i64 py, .int .i64 ax, .int .i64 ay, .int .i64 bx, .int .i64 bz] 24)
  by_cases h : onP px py ∧ onP ax ay ∧ onP bx bz
  · rw [if_pos h]
    rw [decide_eq_true h] at HL
    obtain ⟨hp, ha, hb⟩ := h
    unfold ftN ftD ftM ftE
    have HJ := Lib.hid (fun w => join_any ax ay bx bz w)
    have HA := Lib.hid (fun w => along_any ax ay bx bz px py ha hb hp w)
    have HT := Lib.hid (fun w => turn_any ax ay bx bz px py ha hb hp w)
    have HD := Lib.hid (fun w => Dist_any ax ay bx bz w)
    have HD1 := Lib.hid (fun w => Dist_any px py ax ay w)
    have HD2 := Lib.hid (fun w => Dist_any px py bx bz w)
    have e1 : distV ax ay bx bz = distN ax ay bx bz := if_pos ⟨ha, hb⟩
    have e2 : distV px py ax ay = distN px py ax ay := if_pos ⟨hp, ha⟩
    have e3 : distV px py bx bz = distN px py bx bz := if_pos ⟨hp, hb⟩
    rw [e1] at HD
    rw [e2] at HD1
    rw [e3] at HD2
    have bd0 := along_bd ha hb hp
    have bd1 := dist_bd ha hb
    have bd2 := dist_bd hp ha
    have bd3 := dist_bd hp hb
    have bd4 := area_bd ha hb hp
    clear e1 e2 e3 hp ha hb
    generalize alongN ax ay bx bz px py = L at *
    generalize distN ax ay bx bz = S at *
    generalize areaN ax ay bx bz px py = T at *
    generalize distN px py ax ay = X at *
    generalize distN px py bx bz = Y at *
    generalize hv1 : (if L ≤ 0 then (0 : Int) else if S ≤ L then 1 else qN L S) = vN
    generalize hv2 : (if L ≤ 0 then (1 : Int) else if S ≤ L then 1 else qD L S) = vD
    generalize hv3 : (if L ≤ 0 then X else if S ≤ L then Y else qN (T * T) S) = vM
    generalize hv4 : (if L ≤ 0 then (1 : Int) else if S ≤ L then 1 else qD (T * T) S) = vE
    have HR := Lib.hid (And.intro hv1 (And.intro hv2 (And.intro hv3 hv4)))
    clear hv1 hv2 hv3 hv4
    go_enter Try.func27, Try.ntmps27
    go_wp2_with fail
    refine (HL.out _ _ _ (pts3 (by simp) _ _ _ _ _ _ _)).mono ?_
    rintro r w1 ⟨rfl, hb1⟩
    have r0 := b0_2eee.below hb1 b0_2eee.lt
    have r1 := b1_2eee.below hb1 b1_2eee.lt
    have r2 := b2_2eee.below hb1 b2_2eee.lt
    have r3 := v3.below hb1 v3.lt
    have r4 := v4.below hb1 v4.lt
    have hb2 := hb0.trans (hb1.mono hb0.size)
    clear b0_0 b0_1 b1_1 b0_2 b1_2 b2_2 b0_2e b1_2e b2_2e b0_2ee b1_2ee b2_2ee b0_2eee b1_2eee b2_2eee v3 v4 hb0 hb1 HL
    obtain ⟨e00, e01, -, -⟩ := r0.facts
    obtain ⟨e10, e11, -, -⟩ := r1.facts
    obtain ⟨e20, e21, -, -⟩ := r2.facts
    go_wp2_with fail
    refine (HJ.out _).mono ?_
    rintro r w2 ⟨rfl, hx2⟩
    clear e00 e01 e10 e11 e20 e21
    have s0 := (r0.below hx2 r0.lt).alloc (.cells #[.int .i64 ax, .int .i64 ay, .int .i64 bx, .int .i64 bz] 85)
    have s1 := (r1.below hx2 r1.lt).alloc (.cells #[.int .i64 ax, .int .i64 ay, .int .i64 bx, .int .i64 bz] 85)
    have s2 := (r2.below hx2 r2.lt).alloc (.cells #[.int .i64 ax, .int .i64 ay, .int .i64 bx, .int .i64 bz] 85)
    have s3 := (r3.below hx2 r3.lt).alloc (.cells #[.int .i64 ax, .int .i64 ay, .int .i64 bx, .int .i64 bz] 85)
    have s4 := (r4.below hx2 r4.lt).alloc (.cells #[.int .i64 ax, .int .i64 ay, .int .i64 bx, .int .i64 bz] 85)
    have sg := Four.at (w := w2) (B := w2.heap.size) rfl ax ay bx bz
    have hb3 := hb2.trans (hx2.mono hb2.size)
    have hb4 := hb3.alloc hb3.size (.cells #[.int .i64 ax, .int .i64 ay, .int .i64 bx, .int .i64 bz] 85)
    clear r0 r1 r2 r3 r4 hb2 hx2 hb3 HJ
    go_upto_region 4 with fail
    generalize hWW : w2.alloc (.cells #[.int .i64 ax, .int .i64 ay, .int .i64 bx, .int .i64 bz] 85) = W at *
    clear hWW
    have hS : ∀ w' : World, Below W.heap.size W w' → (w'.cell? ⟨w.heap.size, 0, none⟩ = some (.int .i64 px) ∧ w'.cell? ⟨w.heap.size, 1, none⟩ = some (.int .i64 py)) ∧ (w'.cell? ⟨w.heap.size + 1, 0, none⟩ = some (.int .i64 ax) ∧ w'.cell? ⟨w.heap.size + 1, 1, none⟩ = some (.int .i64 ay)) ∧ (w'.cell? ⟨w.heap.size + 1 + 1, 0, none⟩ = some (.int .i64 bx) ∧ w'.cell? ⟨w.heap.size + 1 + 1, 1, none⟩ = some (.int .i64 bz)) ∧ (w'.cell? ⟨w2.heap.size, 0, none⟩ = some (.int .i64 ax) ∧ w'.cell? ⟨w2.heap.size, 1, none⟩ = some (.int .i64 ay) ∧ w'.cell? ⟨w2.heap.size, 2, none⟩ = some (.int .i64 bx) ∧ w'.cell? ⟨w2.heap.size, 3, none⟩ = some (.int .i64 bz)) := fun w' hb => ⟨two_of s0 hb, two_of s1 hb, two_of s2 hb, four_of sg hb⟩
    have hr := Below.refl W.heap.size W
    go_region_held3 (fun w' => (w'.cell? ⟨w.heap.size, 0, none⟩ = some (.int .i64 px) ∧ w'.cell? ⟨w.heap.size, 1, none⟩ = some (.int .i64 py)) ∧ (w'.cell? ⟨w.heap.size + 1, 0, none⟩ = some (.int .i64 ax) ∧ w'.cell? ⟨w.heap.size + 1, 1, none⟩ = some (.int .i64 ay)) ∧ (w'.cell? ⟨w.heap.size + 1 + 1, 0, none⟩ = some (.int .i64 bx) ∧ w'.cell? ⟨w.heap.size + 1 + 1, 1, none⟩ = some (.int .i64 bz)) ∧ (w'.cell? ⟨w2.heap.size, 0, none⟩ = some (.int .i64 ax) ∧ w'.cell? ⟨w2.heap.size, 1, none⟩ = some (.int .i64 ay) ∧ w'.cell? ⟨w2.heap.size, 2, none⟩ = some (.int .i64 bx) ∧ w'.cell? ⟨w2.heap.size, 3, none⟩ = some (.int .i64 bz)))
      (first | (with_reducible exact hS _ hr.drew) | (with_reducible refine hS _ ?_; (repeat (first | (with_reducible assumption) | (with_reducible refine Below.drew ?_) | (with_reducible refine Below.setCell ?_ ?_ _) | (with_reducible refine Below.alloc ?_ ?_ _))); all_goals (first | omega | (simp; omega) | simp)))
      (first
        | (go_at_call 63; refine (HA.out _).mono ?_; rintro r x1 ⟨rfl, hx1'⟩; have hx1 : Below W.heap.size W x1 := hr.drew.trans hx1')
        | (go_at_call 64; refine (HD.out _).mono ?_; rintro r x2 ⟨rfl, hx2'⟩; have hx2 : Below W.heap.size W x2 := hx1.trans (hx2'.mono hx1.size))
        | (go_at_call 65; refine (HT.out _).mono ?_; rintro r x3 ⟨rfl, hx3'⟩; have hx3 : Below W.heap.size W x3 := hx2.trans (hx3'.mono hx2.size)))
    all_goals
      have t0 := s0.below hx3 s0.lt
      have t1 := s1.below hx3 s1.lt
      have t2 := s2.below hx3 s2.lt
      have t3 := s3.below hx3 s3.lt
      have t4 := s4.below hx3 s4.lt
      have hb5 := hb4.trans (hx3.mono hb4.size)
      clear hS hr s0 s1 s2 s3 s4 sg hb4 hx1 hx1' hx2 hx2' hx3 hx3'
      generalize x3 = Z at *
      have lt0 := t4.lt
      have hr := Below.refl (w.heap.size + 1 + 1 + 1) Z
      by_cases h1 : L ≤ 0
      · obtain ⟨i1, i2, i3, i4⟩ := HR.out
        rw [if_pos h1] at i1 i2 i3 i4
        subst i1 i2 i3 i4
        clear HR
        have HQ1 := Lib.hid (fun w => quo_any 0 1 (by omega) (by omega) (by omega) (by omega) w)
        have HQ2 := Lib.hid (fun w => quo_any X 1 (by omega) (by omega) (by omega) (by omega) w)
        rw [(q_one 0).1, (q_one 0).2] at HQ1
        rw [(q_one X).1, (q_one X).2] at HQ2
        go_upto_region 6 with fail
        have hS : ∀ w' : World, Below (w.heap.size + 1 + 1 + 1) Z w' → (w'.cell? ⟨w.heap.size, 0, none⟩ = some (.int .i64 px) ∧ w'.cell? ⟨w.heap.size, 1, none⟩ = some (.int .i64 py)) ∧ (w'.cell? ⟨w.heap.size + 1, 0, none⟩ = some (.int .i64 ax) ∧ w'.cell? ⟨w.heap.size + 1, 1, none⟩ = some (.int .i64 ay)) := fun w' hb => ⟨⟨(t0.below hb (by omega)).facts.1, (t0.below hb (by omega)).facts.2.1⟩, (t1.below hb (by omega)).facts.1, (t1.below hb (by omega)).facts.2.1⟩
        go_region_held3 (fun w' => (w'.cell? ⟨w.heap.size, 0, none⟩ = some (.int .i64 px) ∧ w'.cell? ⟨w.heap.size, 1, none⟩ = some (.int .i64 py)) ∧ (w'.cell? ⟨w.heap.size + 1, 0, none⟩ = some (.int .i64 ax) ∧ w'.cell? ⟨w.heap.size + 1, 1, none⟩ = some (.int .i64 ay)))
          (first | (with_reducible exact hS _ hr.drew) | (with_reducible refine hS _ ?_; (repeat (first | (with_reducible assumption) | (with_reducible refine Below.drew ?_) | (with_reducible refine Below.setCell ?_ ?_ _) | (with_reducible refine Below.alloc ?_ ?_ _))); all_goals (first | omega | (simp; omega) | simp)))
          (first
            | (go_at_call 66; have hz := hy2; refine (HQ2.out _).mono ?_; rintro r y3 ⟨rfl, hy3'⟩; have hy3 : Below (w.heap.size + 1 + 1 + 1) Z y3 := hy2.trans (hy3'.mono (by omega)); have lt3 := hy3'.size; have q3 := p3.below hy3' p3.lt; have q4 := p4.below hy3' p4.lt; obtain ⟨c1, c2, c3, c4⟩ := q3.facts; obtain ⟨d1, d2, d3, d4⟩ := q4.facts; have hb8 := hb7.trans (hy3'.mono hb7.size))
            | (go_at_call 64; have hz := hy1; refine (HD1.out _).mono ?_; rintro r y2 ⟨rfl, hy2'⟩; have hy2 : Below (w.heap.size + 1 + 1 + 1) Z y2 := hy1.trans (hy2'.mono (by omega)); have lt2 := hy2'.size; have p3 := o3.below hy2' o3.lt; have p4 := o4.below hy2' o4.lt; have hb7 := hb6.trans (hy2'.mono hb6.size))
            | (go_at_call 66; refine (HQ1.out _).mono ?_; rintro r y1 ⟨rfl, hy1'⟩; have hy1 : Below (w.heap.size + 1 + 1 + 1) Z y1 := hr.drew.trans (hy1'.mono (by show _ ≤ Z.heap.size; omega)); have lt1 : Z.heap.size ≤ y1.heap.size := hy1'.size; have o3 := t3.below (Below.trans (Below.refl Z.heap.size Z).drew hy1') t3.lt; have o4 := t4.below (Below.trans (Below.refl Z.heap.size Z).drew hy1') t4.lt; have hb6 := hb5.trans ((Below.trans (Below.refl Z.heap.size Z).drew hy1').mono hb5.size)))
        all_goals
          go_wp2_with fail
          have g6 := two_keep2 (C := w.heap.size + 1 + 1 + 1 + 1) (two_set2 q3 (.int .i64 0) (.int .i64 1)) (.int .i64 X) (.int .i64 1) (by omega)
          have g7 := two_set2 (two_keep2 (C := w.heap.size + 1 + 1 + 1) q4 (.int .i64 0) (.int .i64 1) (by omega)) (.int .i64 X) (.int .i64 1)
          obtain ⟨j1, j2, -, -⟩ := g6.facts
          obtain ⟨k1, k2, -, -⟩ := g7.facts
          refine bodyPost_ret (v := .tuple #[.agg #[.int .i64 0, .int .i64 1], .agg #[.int .i64 X, .int .i64 1], .int .i64 0]) ?_ rfl ⟨rfl, ?_⟩
          · simp [results, Try.results27, go_sem, j1, j2, k1, k2]
          · exact set2_below (set2_below hb8 (by omega) _ _) (by omega) _ _
      · obtain ⟨i1, i2, i3, i4⟩ := HR.out
        rw [if_neg h1] at i1 i2 i3 i4
        clear HR
        have h2 : decide (L ≤ 0) = false := by simpa using h1
        by_cases h3 : S ≤ L
        · rw [if_pos h3] at i1 i2 i3 i4
          subst i1 i2 i3 i4
          have HQ1 := Lib.hid (fun w => quo_any 1 1 (by omega) (by omega) (by omega) (by omega) w)
          have HQ2 := Lib.hid (fun w => quo_any Y 1 (by omega) (by omega) (by omega) (by omega) w)
          rw [(q_one 1).1, (q_one 1).2] at HQ1
          rw [(q_one Y).1, (q_one Y).2] at HQ2
          go_upto_region 8 with fail
          have hS : ∀ w' : World, Below (w.heap.size + 1 + 1 + 1) Z w' → (w'.cell? ⟨w.heap.size, 0, none⟩ = some (.int .i64 px) ∧ w'.cell? ⟨w.heap.size, 1, none⟩ = some (.int .i64 py)) ∧ (w'.cell? ⟨w.heap.size + 1 + 1, 0, none⟩ = some (.int .i64 bx) ∧ w'.cell? ⟨w.heap.size + 1 + 1, 1, none⟩ = some (.int .i64 bz)) := fun w' hb => ⟨⟨(t0.below hb (by omega)).facts.1, (t0.below hb (by omega)).facts.2.1⟩, (t2.below hb (by omega)).facts.1, (t2.below hb (by omega)).facts.2.1⟩
          go_region_held3 (fun w' => (w'.cell? ⟨w.heap.size, 0, none⟩ = some (.int .i64 px) ∧ w'.cell? ⟨w.heap.size, 1, none⟩ = some (.int .i64 py)) ∧ (w'.cell? ⟨w.heap.size + 1 + 1, 0, none⟩ = some (.int .i64 bx) ∧ w'.cell? ⟨w.heap.size + 1 + 1, 1, none⟩ = some (.int .i64 bz)))
            (first | (with_reducible exact hS _ hr.drew) | (with_reducible refine hS _ ?_; (repeat (first | (with_reducible assumption) | (with_reducible refine Below.drew ?_) | (with_reducible refine Below.setCell ?_ ?_ _) | (with_reducible refine Below.alloc ?_ ?_ _))); all_goals (first | omega | (simp; omega) | simp)))
            (first
              | (go_at_call 66; have hz := hy2; refine (HQ2.out _).mono ?_; rintro r y3 ⟨rfl, hy3'⟩; have hy3 : Below (w.heap.size + 1 + 1 + 1) Z y3 := hy2.trans (hy3'.mono (by omega)); have lt3 := hy3'.size; have q3 := p3.below hy3' p3.lt; have q4 := p4.below hy3' p4.lt; obtain ⟨c1, c2, c3, c4⟩ := q3.facts; obtain ⟨d1, d2, d3, d4⟩ := q4.facts; have hb8 := hb7.trans (hy3'.mono hb7.size))
              | (go_at_call 64; have hz := hy1; refine (HD2.out _).mono ?_; rintro r y2 ⟨rfl, hy2'⟩; have hy2 : Below (w.heap.size + 1 + 1 + 1) Z y2 := hy1.trans (hy2'.mono (by omega)); have lt2 := hy2'.size; have p3 := o3.below hy2' o3.lt; have p4 := o4.below hy2' o4.lt; have hb7 := hb6.trans (hy2'.mono hb6.size))
              | (go_at_call 66; refine (HQ1.out _).mono ?_; rintro r y1 ⟨rfl, hy1'⟩; have hy1 : Below (w.heap.size + 1 + 1 + 1) Z y1 := hr.drew.trans (hy1'.mono (by show _ ≤ Z.heap.size; omega)); have lt1 : Z.heap.size ≤ y1.heap.size := hy1'.size; have o3 := t3.below (Below.trans (Below.refl Z.heap.size Z).drew hy1') t3.lt; have o4 := t4.below (Below.trans (Below.refl Z.heap.size Z).drew hy1') t4.lt; have hb6 := hb5.trans ((Below.trans (Below.refl Z.heap.size Z).drew hy1').mono hb5.size)))
          all_goals
            go_wp2_with fail
            have g6 := two_keep2 (C := w.heap.size + 1 + 1 + 1 + 1) (two_set2 q3 (.int .i64 1) (.int .i64 1)) (.int .i64 Y) (.int .i64 1) (by omega)
            have g7 := two_set2 (two_keep2 (C := w.heap.size + 1 + 1 + 1) q4 (.int .i64 1) (.int .i64 1) (by omega)) (.int .i64 Y) (.int .i64 1)
            obtain ⟨j1, j2, -, -⟩ := g6.facts
            obtain ⟨k1, k2, -, -⟩ := g7.facts
            refine bodyPost_ret (v := .tuple #[.agg #[.int .i64 1, .int .i64 1], .agg #[.int .i64 Y, .int .i64 1], .int .i64 0]) ?_ rfl ⟨rfl, ?_⟩
            · simp [results, Try.results27, go_sem, j1, j2, k1, k2]
            · exact set2_below (set2_below hb8 (by omega) _ _) (by omega) _ _
        · rw [if_neg h3] at i1 i2 i3 i4
          have h4 : decide (S ≤ L) = false := by simpa using h3
          have hm := mul_bd (a := T) (b := T) (m := 2147352578) (k := 2147352578) bd4.1 bd4.2 bd4.1 bd4.2 (by decide) (by decide)
          have hm0 := sq_nonneg T
          have hw : IntKind.i64.wrap (T * T) = T * T := by rw [IntKind.wrap_i64]; omega
          have HQ1 := Lib.hid (fun w => quo_any L S (by omega) (by omega) (by omega) (by omega) w)
          have HQ2 := Lib.hid (fun w => quo_any (T * T) S (by omega) (by omega) (by omega) (by omega) w)
          rw [i1, i2] at HQ1
          rw [i3, i4] at HQ2
          clear i1 i2 i3 i4
          go_wp2_with fail
          refine (HQ1.out _).mono ?_
          rintro r y1 ⟨rfl, hy1⟩
          have q3 := t3.below hy1 t3.lt
          have q4 := t4.below hy1 t4.lt
          have hb6 := hb5.trans (hy1.mono hb5.size)
          go_wp2_with fail
          refine (HQ2.out _).mono ?_
          rintro r y2 ⟨rfl, hy2⟩
          have o3 := q3.below hy2 q3.lt
          have o4 := q4.below hy2 q4.lt
          have hb7 := hb6.trans (hy2.mono hb6.size)
          obtain ⟨c1, c2, c3, c4⟩ := o3.facts
          obtain ⟨d1, d2, d3, d4⟩ := o4.facts
          go_wp2_with fail
          have g6 := two_keep2 (C := w.heap.size + 1 + 1 + 1 + 1) (two_set2 o3 (.int .i64 vN) (.int .i64 vD)) (.int .i64 vM) (.int .i64 vE) (by omega)
          have g7 := two_set2 (two_keep2 (C := w.heap.size + 1 + 1 + 1) o4 (.int .i64 vN) (.int .i64 vD) (by omega)) (.int .i64 vM) (.int .i64 vE)
          obtain ⟨j1, j2, -, -⟩ := g6.facts
          obtain ⟨k1, k2, -, -⟩ := g7.facts
          refine bodyPost_ret (v := .tuple #[.agg #[.int .i64 vN, .int .i64 vD], .agg #[.int .i64 vM, .int .i64 vE], .int .i64 0]) ?_ rfl ⟨rfl, ?_⟩
          · simp [results, Try.results27, go_sem, j1, j2, k1, k2]
          · exact set2_below (set2_below hb7 (by omega) _ _) (by omega) _ _
  · rw [if_neg h]
    rw [decide_eq_false h] at HL
    go_enter Try.func27, Try.ntmps27
    go_wp2_with fail
    refine (HL.out _ _ _ (pts3 (by simp) _ _ _ _ _ _ _)).mono ?_
    rintro r w1 ⟨rfl, hb1⟩
    have o3 := v3.below hb1 v3.lt
    have o4 := v4.below hb1 v4.lt
    obtain ⟨c1, c2, c3, c4⟩ := o3.facts
    obtain ⟨d1, d2, d3, d4⟩ := o4.facts
    have hb2 := hb0.trans (hb1.mono hb0.size)
    go_wp2_with fail
    have g6 := two_keep2 (C := w.heap.size + 1 + 1 + 1 + 1) (two_set2 o3 (.int .i64 0) (.int .i64 0)) (.int .i64 0) (.int .i64 0) (by omega)
    have g7 := two_set2 (two_keep2 (C := w.heap.size + 1 + 1 + 1) o4 (.int .i64 0) (.int .i64 0) (by omega)) (.int .i64 0) (.int .i64 0)
    obtain ⟨j1, j2, -, -⟩ := g6.facts
    obtain ⟨k1, k2, -, -⟩ := g7.facts
    refine bodyPost_ret (v := .tuple #[.agg #[.int .i64 0, .int .i64 0], .agg #[.int .i64 0, .int .i64 0], .int .i64 1]) ?_ rfl ⟨rfl, ?_⟩
    · simp [results, Try.results27, go_sem, j1, j2, k1, k2]
    · exact set2_below (set2_below hb2 (by omega) _ _) (by omega) _ _
end Go.Proofs.Ytcpcmlonbpccnaa.Ge

/- Walks over package fraction: Mul, Add. -/
namespace Go.Proofs.Ytcpcmlonbpccnaa.Fr
set_option linter.unusedVariables false
set_option linter.unusedSimpArgs false
open Go.RowKit

theorem gcd_den (n e : Int) (h1 : 1 ≤ e) (h2 : e ≤ 4611686018427387904) :
    0 < Nat.gcd n.natAbs e.natAbs ∧ ((Nat.gcd n.natAbs e.natAbs : Nat) : Int) ≤ 4611686018427387904 ∧ ((Nat.gcd n.natAbs e.natAbs : Nat) : Int) ∣ n ∧ ((Nat.gcd n.natAbs e.natAbs : Nat) : Int) ∣ e := by
  have hle : Nat.gcd n.natAbs e.natAbs ≤ e.natAbs := Nat.gcd_le_right _ (by omega)
  exact ⟨Nat.gcd_pos_of_pos_right _ (by omega), by omega, Int.ofNat_dvd_left.2 (Nat.gcd_dvd_left ..), Int.ofNat_dvd_left.2 (Nat.gcd_dvd_right ..)⟩

end Go.Proofs.Ytcpcmlonbpccnaa.Fr

/- Walks over package fraction: Add. -/
namespace Go.Proofs.Ytcpcmlonbpccnaa.Fr
set_option linter.unusedVariables false
set_option linter.unusedSimpArgs false
open Go.RowKit

theorem hi_term (a b : Int) (ha : -4611686018427387904 ≤ a) (ha2 : a ≤ 4611686018427387904) (hb : -4611686018427387904 ≤ b) (hb2 : b ≤ 4611686018427387904) :
    -1152921504606846976 ≤ hiW (a * b) ∧ hiW (a * b) ≤ 1152921504606846976 := by
  have h1 : (a * b).natAbs ≤ 4611686018427387904 * 4611686018427387904 := by
    rw [Int.natAbs_mul]
    exact Nat.mul_le_mul (by omega) (by omega)
  unfold hiW
  omega
/-- what the region of Add leaves: a number of 128 bits in a block of its own -/
def WideAt (W : World) (P : Int) (v : Value) (wx : World) : Prop :=
  ∃ B : Nat, v = .pointer (some ⟨B, 0, none⟩) ∧ (wx.cell? ⟨B, 0, none⟩ = some (.int .i64 (hiW P)) ∧ wx.cell? ⟨B, 1, none⟩ = some (.int .u64 (loW P))) ∧ B < wx.heap.size ∧ Below W.heap.size W wx
theorem ediv_term (a b : Int) (h0 : 1 ≤ b) (h1 : 1 ≤ a) (h2 : a ≤ 4611686018427387904) : 0 ≤ a / b ∧ a / b ≤ 4611686018427387904 :=
  ⟨Int.ediv_nonneg (by omega) (by omega), Int.le_trans (Int.ediv_le_self b (by omega)) h2⟩

set_option maxRecDepth 100000 in
set_option maxHeartbeats 4000000 in
theorem add_val (n d m e : Int) (h : valP n d) (k : valP m e) (w : World) :
    Calls Try.prog 31 #[.agg #[.int .i64 n, .int .i64 d], .agg #[.int .i64 m, .int .i64 e]] w fun r w' => r = .returned (.tuple #[.agg #[.int .i64 (rN (addQ n d m e)), .int .i64 (rD (addQ n d m e))], .int .i64 (rE (addQ n d m e))]) ∧ Below w.heap.size w w' := by
  obtain ⟨q1, q2⟩ := add_int h k
  have hV := fun w => valid_yes n d h w
  have hV2 := fun w => valid_yes m e k w
  obtain ⟨n1, n2, d1, d2, -⟩ := h
  obtain ⟨m1, m2, e1, e2, -⟩ := k
  obtain ⟨p1, p2, p3, p4⟩ := gcd_den d e e1 e2
  obtain ⟨v1, v2, v3, v4⟩ := red_small e _ p1 p2 p4 (by omega) (by omega)
  obtain ⟨y1, y2, y3, y4⟩ := red_small d _ p1 p2 p3 (by omega) (by omega)
  have be := ediv_term e ((Nat.gcd d.natAbs e.natAbs : Nat) : Int) (by omega) e1 e2
  have bd := ediv_term d ((Nat.gcd d.natAbs e.natAbs : Nat) : Int) (by omega) d1 d2
  have hG1 := fun w => divisor_any d e (by omega) (by omega) (by omega) (by omega) w
  have hS : sumS n d m e = n * (e / ((Nat.gcd d.natAbs e.natAbs : Nat) : Int)) + m * (d / ((Nat.gcd d.natAbs e.natAbs : Nat) : Int)) := rfl
  have hrest := gcd_rest (sumS n d m e) (Nat.gcd d.natAbs e.natAbs) p1
  have hc : Nat.gcd d.natAbs e.natAbs ∣ e.natAbs := Nat.gcd_dvd_right ..
  generalize Nat.gcd d.natAbs e.natAbs = c at *
  have hlp : 0 < Nat.gcd (sumS n d m e).natAbs c := Nat.gcd_pos_of_pos_right _ p1
  have hlc : Nat.gcd (sumS n d m e).natAbs c ≤ c := Nat.gcd_le_right _ p1
  have hle : ((Nat.gcd (sumS n d m e).natAbs c : Nat) : Int) ∣ e := Int.ofNat_dvd_left.2 (Nat.dvd_trans (Nat.gcd_dvd_right ..) hc)
  obtain ⟨l1, l2, l3, l4⟩ := red_small e _ hlp (by omega) hle (by omega) (by omega)
  have bl := ediv_term e ((Nat.gcd (sumS n d m e).natAbs c : Nat) : Int) (by omega) e1 e2
  have hr0 := Int.emod_nonneg (sumS n d m e) (show (c : Int) ≠ 0 by omega)
  have hr1 := Int.emod_lt_of_pos (sumS n d m e) (show (0 : Int) < (c : Int) by omega)
  have hG2 := fun w => divisor_any (sumS n d m e % (c : Int)) (c : Int) (by omega) (by omega) (by omega) (by omega) w
  have ecc : (c : Int).natAbs = c := Int.natAbs_natCast c
  rw [ecc, hrest] at hG2
  generalize sumS n d m e = S at *
  generalize Nat.gcd S.natAbs c = l at *
  generalize e / (c : Int) = E at *
  generalize d / (c : Int) = D at *
  generalize e / (l : Int) = L at *
  have hP := hi_term n E (by omega) (by omega) (by omega) (by omega)
  have hQ0 := hi_term m D (by omega) (by omega) (by omega) (by omega)
  have hSh : -4611686018427387904 ≤ hiW S ∧ hiW S ≤ 4611686018427387903 := by
    obtain ⟨a, b⟩ := wide_add (n * E) (m * D)
    rw [hS, a]
    have := lo_bd (n * E)
    have := lo_bd (m * D)
    omega
  have hQ := fun w => result_q (addQ n d m e) (S / (l : Int)) (D * L) q1 q2 w
  generalize addQ n d m e = q at *
  have HQ := Lib.hid hQ
  have HG1 := Lib.hid hG1
  have HG2 := Lib.hid hG2
  have HV := Lib.hid hV
  have HV2 := Lib.hid hV2
  have HS := Lib.hid hS
  clear q1 q2 hQ hG1 hG2 hV hV2 hS hrest hc hle ecc
  have t1 := ((Two.new w 26 (.int .i64 n) (.int .i64 d)).alloc (.cells #[.int .i64 m, .int .i64 e] 26)).alloc (.cells #[.int .i64 0, .int .i64 0] 26)
  have s1 := (Two.at (w := w.alloc (.cells #[.int .i64 n, .int .i64 d] 26)) (B := w.heap.size + 1) (by simp) 26 (.int .i64 m) (.int .i64 e)).alloc (.cells #[.int .i64 0, .int .i64 0] 26)
  have r1 := Two.at (w := (w.alloc (.cells #[.int .i64 n, .int .i64 d] 26)).alloc (.cells #[.int .i64 m, .int .i64 e] 26)) (B := w.heap.size + 1 + 1) (by simp) 26 (.int .i64 0) (.int .i64 0)
  have hB0 : Below w.heap.size w (((w.alloc (.cells #[.int .i64 n, .int .i64 d] 26)).alloc (.cells #[.int .i64 m, .int .i64 e] 26)).alloc (.cells #[.int .i64 0, .int .i64 0] 26)) := (((Below.refl w.heap.size w).alloc (Nat.le_refl _) _).alloc (by simp) _).alloc (by simp; omega) _
  go_enter Try.func31, Try.ntmps31
  go_wp2_with fail
  refine (HV.out _).mono ?_
  rintro r w1 ⟨rfl, hb1⟩
  obtain ⟨c1, c2, c3, c4⟩ := (s1.below hb1 s1.lt).facts
  go_wp2_with fail
  refine (HV2.out _).mono ?_
  rintro r w2 ⟨rfl, hb2'⟩
  have hb2 := hb1.trans (hb2'.mono hb1.size)
  clear c1 c2 c3 c4
  obtain ⟨c1, c2, c3, c4⟩ := (s1.below hb2 s1.lt).facts
  obtain ⟨f1, f2, f3, f4⟩ := (t1.below hb2 t1.lt).facts
  go_wp2_with fail
  refine (HG1.out _).mono ?_
  rintro r w3 ⟨rfl, hb3'⟩
  have hb3 := hb2.trans (hb3'.mono hb2.size)
  clear c1 c2 c3 c4 f1 f2 f3 f4
  have t3 := t1.below hb3 t1.lt
  have s3 := s1.below hb3 s1.lt
  have r3 := r1.below hb3 r1.lt
  have hB3 := hB0.trans (hb3.mono hB0.size)
  clear t1 s1 r1 hb1 hb2 hb2' hb3 hb3' hB0
  go_upto_region 4 with fail
  have hSx : ∀ w' : World, Below w3.heap.size w3 w' → ((w'.cell? ⟨w.heap.size, 0, none⟩ = some (.int .i64 n) ∧ w'.cell? ⟨w.heap.size, 1, none⟩ = some (.int .i64 d)) ∧ w'.cell? ⟨w.heap.size + 1, 0, none⟩ = some (.int .i64 m) ∧ w'.cell? ⟨w.heap.size + 1, 1, none⟩ = some (.int .i64 e)) ∧ Below w3.heap.size w3 w' := fun w' hb =>
    ⟨⟨⟨(t3.below hb t3.lt).facts.1, (t3.below hb t3.lt).facts.2.1⟩, (s3.below hb s3.lt).facts.1, (s3.below hb s3.lt).facts.2.1⟩, hb⟩
  have hr := Below.refl w3.heap.size w3
  have hc0 : ((c : Int) == 0) = false := by simp; omega
  have hc1 : (c == 0) = false := by simp; omega
  have hc2 : ¬ c = 0 := by omega
  go_cut [7] (fun v wx => WideAt w3 S v wx)
  case first =>
    go_region_held3 (fun w' => ((w'.cell? ⟨w.heap.size, 0, none⟩ = some (.int .i64 n) ∧ w'.cell? ⟨w.heap.size, 1, none⟩ = some (.int .i64 d)) ∧ w'.cell? ⟨w.heap.size + 1, 0, none⟩ = some (.int .i64 m) ∧ w'.cell? ⟨w.heap.size + 1, 1, none⟩ = some (.int .i64 e)) ∧ Below w3.heap.size w3 w')
      (first | exact hSx _ hr.drew | exact hSx _ (by assumption) | (refine hSx _ ?_; (repeat (first | assumption | (refine Below.drew ?_) | (refine Below.setCell ?_ ?_ _) | (refine Below.alloc ?_ ?_ _))); all_goals (first | omega | (simp; omega) | simp)))
      (first
        | (go_at_call 69; have hz := hb4; refine (product_any m D (by omega) (by omega) (by omega) (by omega) _).mono ?_; rintro r w5 ⟨rfl, hb5'⟩;
            have hb45 : Below w4.heap.size w4 w5 := (by first | exact hb5' | exact ((Below.refl w4.heap.size w4).alloc (Nat.le_refl _) _).trans (hb5'.mono (by simp)));
            have hb5 : Below w3.heap.size w3 w5 := hb4.trans (hb45.mono hb4.size); have z5 := hb45.size;
            (try (refine cutI (p7.below hb45 p7.lt) (fun q7 => ?_)));
            (try (refine cutI (two_b3 hb5') (fun q7 => ?_))))
        | (go_at_call 69; refine (product_any n E (by omega) (by omega) (by omega) (by omega) _).mono ?_; rintro r w4 ⟨rfl, hb4'⟩;
            have hb4 : Below w3.heap.size w3 w4 := (by first | exact hr.drew.trans hb4' | exact (hr.alloc hr.size _).drew.trans (hb4'.mono (by simp)));
            have z4 := hb4.size;
            (try (refine cutI (two_b1 hb4') (fun p7 => ?_))))
        | (go_at_call 73; refine (plus_any (n * E) (m * D) (by omega) (by omega) _).mono ?_; rintro r w6 ⟨rfl, hb6'⟩;
            have hb56 : Below w5.heap.size w5 w6 := (by first | exact hb6' | exact ((Below.refl w5.heap.size w5).alloc (Nat.le_refl _) _).trans (hb6'.mono (by simp)));
            have hb6 : Below w3.heap.size w3 w6 := hb5.trans (hb56.mono hb5.size); have z6 := hb56.size; rw [← HS.out];
            (try (refine cutI (q7.below hb56 q7.lt) (fun x7 => ?_); obtain ⟨f1, f2, f3, f4⟩ := x7.facts; have lx := x7.lt));
            (try (refine cutI (two_b3 hb6') (fun x7 => ?_); obtain ⟨f1, f2, f3, f4⟩ := x7.facts; have lx := x7.lt))))
    all_goals
      go_wp2_with fail
      go_meet
      refine ⟨_, rfl, ⟨?_, ?_⟩, ?_, ?_⟩
      · go_simp
      · go_simp
      · first | omega | (simp; omega) | simp
      · (repeat (first | assumption | (refine Below.drew ?_) | (refine Below.setCell ?_ ?_ _) | (refine Below.alloc ?_ ?_ _))); all_goals (first | omega | (simp; omega) | simp)
  case rest =>
    obtain ⟨B, rfl, ⟨p1, p2⟩, hlt, hbc⟩ := hcut
    clear hSx hr
    go_wp2_with fail
    refine (wdivide_any S c (by omega) (by omega) (by omega) (by omega) _).mono ?_
    rintro r w4 ⟨rfl, hb4⟩
    have k1 := (hb4.cell (p := ⟨B, 0, none⟩) hlt).trans p1
    have k2 := (hb4.cell (p := ⟨B, 1, none⟩) hlt).trans p2
    clear p1 p2
    have hlt4 := Nat.lt_of_lt_of_le hlt hb4.size
    have hbc4 := hbc.trans (hb4.mono hbc.size)
    go_wp2_with fail
    refine (HG2.out _).mono ?_
    rintro r w5 ⟨rfl, hb5⟩
    have k3 : w5.cell? ⟨B, 0, none⟩ = some (.int .i64 (hiW S)) := by rw [hb5.cell (p := ⟨B, 0, none⟩) (by simp; omega), World.cell?_alloc_past _ _ _ hlt4, k1]
    have k4 : w5.cell? ⟨B, 1, none⟩ = some (.int .u64 (loW S)) := by rw [hb5.cell (p := ⟨B, 1, none⟩) (by simp; omega), World.cell?_alloc_past _ _ _ hlt4, k2]
    clear k1 k2
    have hbc5 := (hbc4.alloc hbc4.size (.cells #[.int .i64 (hiW (S / (c : Int))), .int .u64 (loW (S / (c : Int)))] 93)).trans (hb5.mono (by have := hbc4.size; simp; omega))
    have hlt5 : B < w5.heap.size := by have := hb5.size; simp at this; omega
    go_wp2_with fail
    refine (wdivide_any S l (by omega) (by omega) (by omega) (by omega) _).mono ?_
    rintro r w6 ⟨rfl, hb6⟩
    have hbc6 := hbc5.trans (hb6.mono hbc5.size)
    clear k3 k4
    have hl0 : ((l : Int) == 0) = false := by simp; omega
    have hl1 : (l == 0) = false := by simp; omega
    have hl2 : ¬ l = 0 := by omega
    have t6 := (t3.below hbc6 t3.lt).alloc (.cells #[.int .i64 (hiW (S / (l : Int))), .int .u64 (loW (S / (l : Int)))] 93)
    have s6 := (s3.below hbc6 s3.lt).alloc (.cells #[.int .i64 (hiW (S / (l : Int))), .int .u64 (loW (S / (l : Int)))] 93)
    have r6 := (r3.below hbc6 r3.lt).alloc (.cells #[.int .i64 (hiW (S / (l : Int))), .int .u64 (loW (S / (l : Int)))] 93)
    have x6 := Two.new w6 93 (.int .i64 (hiW (S / (l : Int)))) (.int .u64 (loW (S / (l : Int))))
    have hB6 := (hB3.trans (hbc6.mono hB3.size)).alloc (hB3.trans (hbc6.mono hB3.size)).size (.cells #[.int .i64 (hiW (S / (l : Int))), .int .u64 (loW (S / (l : Int)))] 93)
    go_upto_region 8 with fail
    generalize w6.alloc (.cells #[.int .i64 (hiW (S / (l : Int))), .int .u64 (loW (S / (l : Int)))] 93) = W at t6 s6 r6 x6 hB6 ⊢
    have hSy : ∀ w' : World, Below W.heap.size W w' → ((w'.cell? ⟨w6.heap.size, 0, none⟩ = some (.int .i64 (hiW (S / (l : Int)))) ∧ w'.cell? ⟨w6.heap.size, 1, none⟩ = some (.int .u64 (loW (S / (l : Int))))) ∧ w'.cell? ⟨w.heap.size, 1, none⟩ = some (.int .i64 d) ∧ w'.cell? ⟨w.heap.size + 1, 1, none⟩ = some (.int .i64 e)) := fun w' hb =>
      ⟨⟨(x6.below hb x6.lt).facts.1, (x6.below hb x6.lt).facts.2.1⟩, (t6.below hb t6.lt).facts.2.1, (s6.below hb s6.lt).facts.2.1⟩
    have hge : w.heap.size + 1 + 1 < w6.heap.size := (r3.below hbc6 r3.lt).lt
    have hSz : ∀ (w' : World) (o : Nat) (v : Value), ((w'.cell? ⟨w6.heap.size, 0, none⟩ = some (.int .i64 (hiW (S / (l : Int)))) ∧ w'.cell? ⟨w6.heap.size, 1, none⟩ = some (.int .u64 (loW (S / (l : Int))))) ∧ w'.cell? ⟨w.heap.size, 1, none⟩ = some (.int .i64 d) ∧ w'.cell? ⟨w.heap.size + 1, 1, none⟩ = some (.int .i64 e)) → (((w'.setCell ⟨w.heap.size + 1 + 1, o, none⟩ v).cell? ⟨w6.heap.size, 0, none⟩ = some (.int .i64 (hiW (S / (l : Int)))) ∧ (w'.setCell ⟨w.heap.size + 1 + 1, o, none⟩ v).cell? ⟨w6.heap.size, 1, none⟩ = some (.int .u64 (loW (S / (l : Int))))) ∧ (w'.setCell ⟨w.heap.size + 1 + 1, o, none⟩ v).cell? ⟨w.heap.size, 1, none⟩ = some (.int .i64 d) ∧ (w'.setCell ⟨w.heap.size + 1 + 1, o, none⟩ v).cell? ⟨w.heap.size + 1, 1, none⟩ = some (.int .i64 e)) := fun w' o v h =>
      ⟨⟨(World.cell?_of_block (w := w') (Below.heap_setCell _ _ _ _ (by show w6.heap.size ≠ w.heap.size + 1 + 1; omega))).trans h.1.1, (World.cell?_of_block (w := w') (Below.heap_setCell _ _ _ _ (by show w6.heap.size ≠ w.heap.size + 1 + 1; omega))).trans h.1.2⟩,
        (World.cell?_of_block (w := w') (Below.heap_setCell _ _ _ _ (by show w.heap.size ≠ w.heap.size + 1 + 1; omega))).trans h.2.1, (World.cell?_of_block (w := w') (Below.heap_setCell _ _ _ _ (by show w.heap.size + 1 ≠ w.heap.size + 1 + 1; omega))).trans h.2.2⟩
    have hr := Below.refl W.heap.size W
    go_region_held3 (fun w' => ((w'.cell? ⟨w6.heap.size, 0, none⟩ = some (.int .i64 (hiW (S / (l : Int)))) ∧ w'.cell? ⟨w6.heap.size, 1, none⟩ = some (.int .u64 (loW (S / (l : Int))))) ∧ w'.cell? ⟨w.heap.size, 1, none⟩ = some (.int .i64 d) ∧ w'.cell? ⟨w.heap.size + 1, 1, none⟩ = some (.int .i64 e)))
      (first | exact hSy _ hr.drew | exact hSy _ (by assumption) | exact hSz _ _ _ (hSz _ _ _ (hSy _ (by assumption))))
      (first
        | (go_at_call 69; refine (product_any D L (by omega) (by omega) (by omega) (by omega) _).mono ?_; rintro r w7 ⟨rfl, hb7'⟩; have hb7 : Below W.heap.size W w7 := hr.drew.trans hb7')
        | (go_at_call 75; refine (HQ.out _).mono ?_; rintro r w8 ⟨rfl, hb8'⟩; have hb8 : Below W.heap.size W w8 := hb7.trans (hb8'.mono hb7.size); obtain ⟨f1, f2, f3, f4⟩ := (r6.below hb8 r6.lt).facts))
    go_wp2_with fail
    refine bodyPost_ret (v := .tuple #[.agg #[.int .i64 (rN q), .int .i64 (rD q)], .int .i64 (rE q)]) ?_ rfl ⟨rfl, ?_⟩
    · simp [results, Try.results31, go_sem, f1, f2]
    · exact ((hB6.trans (hb8.mono hB6.size)).setCell (by show w.heap.size ≤ w.heap.size + 1 + 1; omega) _).setCell (by show w.heap.size ≤ w.heap.size + 1 + 1; omega) _

theorem add_any (n d m e : Int) (w : World) :
    Calls Try.prog 31 #[.agg #[.int .i64 n, .int .i64 d], .agg #[.int .i64 m, .int .i64 e]] w fun r w' => r = .returned (.tuple #[.agg #[.int .i64 (addN n d m e), .int .i64 (addD n d m e)], .int .i64 (addE n d m e)]) ∧ Below w.heap.size w w' := by
  unfold addN addD addE
  by_cases hk : valP n d ∧ valP m e
  · rw [if_pos hk, if_pos hk, if_pos hk]
    exact add_val n d m e hk.1 hk.2 w
  · rw [if_neg hk, if_neg hk, if_neg hk]
    have r1 := Two.at (w := (w.alloc (.cells #[.int .i64 n, .int .i64 d] 26)).alloc (.cells #[.int .i64 m, .int .i64 e] 26)) (B := w.heap.size + 1 + 1) (by simp) 26 (.int .i64 0) (.int .i64 0)
    by_cases h : valP n d
    · have k : ¬ valP m e := fun k => hk ⟨h, k⟩
      have s1 := (Two.at (w := w.alloc (.cells #[.int .i64 n, .int .i64 d] 26)) (B := w.heap.size + 1) (by simp) 26 (.int .i64 m) (.int .i64 e)).alloc (.cells #[.int .i64 0, .int .i64 0] 26)
      go_enter Try.func31, Try.ntmps31
      go_wp2_with fail
      refine (valid_yes n d h _).mono ?_
      rintro r w1 ⟨rfl, hb1⟩
      obtain ⟨c1, c2, c3, c4⟩ := (s1.below hb1 s1.lt).facts
      go_wp2_with fail
      refine (valid_no m e k _).mono ?_
      rintro r w2 ⟨rfl, hb2'⟩
      have hb2 := hb1.trans (hb2'.mono hb1.size)
      clear c1 c2 c3 c4
      obtain ⟨c1, c2, c3, c4⟩ := (r1.below hb2 r1.lt).facts
      go_wp2_with fail
      refine bodyPost_ret (v := .tuple #[.agg #[.int .i64 0, .int .i64 0], .int .i64 1]) ?_ rfl ⟨rfl, ?_⟩
      · simp [results, Try.results31, go_sem, c1, c2]
      · exact ((((((Below.refl w.heap.size w).alloc (Nat.le_refl _) _).alloc (by simp) _).alloc (by simp; omega) _).trans (hb2.mono (by simp; omega))).setCell (by show w.heap.size ≤ w.heap.size + 1 + 1; omega) _).setCell (by show w.heap.size ≤ w.heap.size + 1 + 1; omega) _
    · go_enter Try.func31, Try.ntmps31
      go_wp2_with fail
      refine (valid_no n d h _).mono ?_
      rintro r w1 ⟨rfl, hb2⟩
      obtain ⟨c1, c2, c3, c4⟩ := (r1.below hb2 r1.lt).facts
      go_wp2_with fail
      refine bodyPost_ret (v := .tuple #[.agg #[.int .i64 0, .int .i64 0], .int .i64 1]) ?_ rfl ⟨rfl, ?_⟩
      · simp [results, Try.results31, go_sem, c1, c2]
      · exact ((((((Below.refl w.heap.size w).alloc (Nat.le_refl _) _).alloc (by simp) _).alloc (by simp; omega) _).trans (hb2.mono (by simp; omega))).setCell (by show w.heap.size ≤ w.heap.size + 1 + 1; omega) _).setCell (by show w.heap.size ≤ w.heap.size + 1 + 1; omega) _
end Go.Proofs.Ytcpcmlonbpccnaa.Fr
