/- Walks over package fraction: Compare, Of, Mul at all arguments. -/
import Derived.Test.YtflnhjfmlminoaaDoorFrcW8
import Derived.Test.YtflnhjfmlminoaaDoorFrcMath2
namespace Go.Proofs.YtflnhjfmlminoaaDoor.Fr
set_option linter.unusedVariables false
set_option linter.unusedSimpArgs false
open Go.RowKit

theorem compare_any (n d m e : Int) (w : World) :
    Calls Tryd.prog 18 #[.agg #[.int .i64 n, .int .i64 d], .agg #[.int .i64 m, .int .i64 e]] w fun r w' => r = .returned (.tuple #[.int .i64 (cmpV n d m e), .int .i64 (cmpE n d m e)]) ∧ Below w.heap.size w w' := by
  unfold cmpV cmpE
  by_cases h : valP n d
  · by_cases k : valP m e
    · rw [if_pos (show valP n d ∧ valP m e from ⟨h, k⟩), if_pos (show valP n d ∧ valP m e from ⟨h, k⟩)]
      exact compare_val n d m e h k w
    · rw [if_neg (show ¬ (valP n d ∧ valP m e) from fun x => k x.2), if_neg (show ¬ (valP n d ∧ valP m e) from fun x => k x.2)]
      have s1 := Two.at (w := w.alloc (.cells #[.int .i64 n, .int .i64 d] 23)) (B := w.heap.size + 1) (by simp) 23 (.int .i64 m) (.int .i64 e)
      go_enter Tryd.func18, Tryd.ntmps18
      go_wp2_with fail
      refine (valid_yes n d h _).mono ?_
      rintro r w1 ⟨rfl, hb1⟩
      have s2 := s1.below hb1 s1.lt
      obtain ⟨c1, c2, c3, c4⟩ := s2.facts
      go_wp2_with fail
      refine (valid_no m e k _).mono ?_
      rintro r w2 ⟨rfl, hb2⟩
      go_wp2_with fail
      go_ret2
      exact ⟨rfl, ((((Below.refl _ _).alloc (Nat.le_refl _) _).alloc (by simp) _).trans (hb1.mono (by simp; omega))).trans (hb2.mono (by have := s2.lt; omega))⟩
  · rw [if_neg (show ¬ (valP n d ∧ valP m e) from fun x => h x.1), if_neg (show ¬ (valP n d ∧ valP m e) from fun x => h x.1)]
    go_enter Tryd.func18, Tryd.ntmps18
    go_wp2_with fail
    refine (valid_no n d h _).mono ?_
    rintro r w1 ⟨rfl, hb1⟩
    go_wp2_with fail
    go_ret2
    exact ⟨rfl, ((((Below.refl _ _).alloc (Nat.le_refl _) _).alloc (by simp) _).trans (hb1.mono (by simp; omega)))⟩

theorem isT_iff (P : Int) : isT P = true ↔ -4611686018427387904 ≤ P ∧ P ≤ 4611686018427387904 := by unfold isT; exact decide_eq_true_iff
theorem res_of {q : Rat} {P Q : Int} (h1 : q.num = P) (h2 : (q.den : Int) = Q) :
    (if isT P && isT Q then P else 0) = rN q ∧ (if isT P && isT Q then Q else 0) = rD q ∧ (if isT P && isT Q then (0 : Int) else 9) = rE q := by
  subst h1 h2
  have hd := q.den_pos
  by_cases hf : fitP q
  · have hb : (isT q.num && isT (q.den : Int)) = true := by
      rw [Bool.and_eq_true, isT_iff, isT_iff]
      exact ⟨⟨hf.1, hf.2.1⟩, by omega, hf.2.2⟩
    obtain ⟨a, b, c⟩ := r_fit hf
    rw [a, b, c, hb]
    exact ⟨rfl, rfl, rfl⟩
  · have hb : (isT q.num && isT (q.den : Int)) = false := by
      rw [Bool.eq_false_iff]
      intro hb
      rw [Bool.and_eq_true, isT_iff, isT_iff] at hb
      exact hf ⟨hb.1.1, hb.1.2, hb.2.2⟩
    obtain ⟨a, b, c⟩ := r_far hf
    rw [a, b, c, hb]
    exact ⟨rfl, rfl, rfl⟩
theorem result_q (q : Rat) (P Q : Int) (h1 : q.num = P) (h2 : (q.den : Int) = Q) (w : World) :
    Calls Tryd.prog 29 #[.agg #[.int .i64 (hiW P), .int .u64 (loW P)], .agg #[.int .i64 (hiW Q), .int .u64 (loW Q)]] w fun e w' => e = .returned (.tuple #[.agg #[.int .i64 (rN q), .int .i64 (rD q)], .int .i64 (rE q)]) ∧ Below w.heap.size w w' := by
  obtain ⟨a, b, c⟩ := res_of h1 h2
  rw [← a, ← b, ← c]
  exact result_any P Q w

theorem red_small (a : Int) (G : Nat) (hG : 0 < G) (hG2 : (G : Int) ≤ 4611686018427387904) (hga : (G : Int) ∣ a) (h1 : -9223372036854775808 ≤ a) (h2 : a ≤ 9223372036854775807) :
    IntKind.i64.wrap (G : Int) = (G : Int) ∧ IntKind.i64.wrap (a.tdiv (G : Int)) = a / (G : Int) ∧ -9223372036854775808 ≤ a / (G : Int) ∧ a / (G : Int) ≤ 9223372036854775807 := by
  have hb := tdiv_small a (G : Int) (by omega) h1 h2
  rw [Int.tdiv_eq_ediv_of_dvd hga] at hb ⊢
  exact ⟨IntWalk.i64_in _ (by omega), IntWalk.i64_in _ hb, hb.1, hb.2⟩
theorem red_facts (a b : Int) (hb0 : b ≠ 0) (ha : -9223372036854775808 ≤ a) (ha2 : a ≤ 9223372036854775807) (hb : -9223372036854775808 ≤ b) (hb2 : b ≤ 9223372036854775807) :
    ∃ (σ x y g : Int), (σ = 1 ∨ σ = -1) ∧ IntKind.i64.wrap ((Nat.gcd a.natAbs b.natAbs : Nat) : Int) = g ∧ g ≠ 0 ∧ IntKind.i64.wrap (a.tdiv g) = x ∧ IntKind.i64.wrap (b.tdiv g) = y ∧
      x = σ * (a / ((Nat.gcd a.natAbs b.natAbs : Nat) : Int)) ∧ y = σ * (b / ((Nat.gcd a.natAbs b.natAbs : Nat) : Int)) ∧ (-9223372036854775808 ≤ x ∧ x ≤ 9223372036854775807) ∧ (-9223372036854775808 ≤ y ∧ y ≤ 9223372036854775807) := by
  have hgp : 0 < Nat.gcd a.natAbs b.natAbs := Nat.gcd_pos_of_pos_right _ (by omega)
  have hga : ((Nat.gcd a.natAbs b.natAbs : Nat) : Int) ∣ a := Int.ofNat_dvd_left.2 (Nat.gcd_dvd_left ..)
  have hgb : ((Nat.gcd a.natAbs b.natAbs : Nat) : Int) ∣ b := Int.ofNat_dvd_left.2 (Nat.gcd_dvd_right ..)
  have hle : Nat.gcd a.natAbs b.natAbs ≤ b.natAbs := Nat.gcd_le_right _ (by omega)
  generalize Nat.gcd a.natAbs b.natAbs = G at *
  by_cases hG : (G : Int) ≤ 9223372036854775807
  · have bx := tdiv_small a (G : Int) (by omega) ha ha2
    have bz := tdiv_small b (G : Int) (by omega) hb hb2
    rw [Int.tdiv_eq_ediv_of_dvd hga] at bx
    rw [Int.tdiv_eq_ediv_of_dvd hgb] at bz
    refine ⟨1, a / (G : Int), b / (G : Int), (G : Int), .inl rfl, IntWalk.i64_in _ (by omega), by omega, ?_, ?_, by omega, by omega, bx, bz⟩
    · rw [Int.tdiv_eq_ediv_of_dvd hga]
      exact IntWalk.i64_in _ bx
    · rw [Int.tdiv_eq_ediv_of_dvd hgb]
      exact IntWalk.i64_in _ bz
  · have hG2 : (G : Int) = 9223372036854775808 := by omega
    have hw : IntKind.i64.wrap (G : Int) = -9223372036854775808 := by
      rw [hG2, IntKind.wrap_i64]
      omega
    rw [hG2] at hga hgb
    have ha3 : a = 0 ∨ a = -9223372036854775808 := by omega
    have hb3 : b = -9223372036854775808 := by omega
    rw [hG2] at *
    refine ⟨-1, -1 * (a / 9223372036854775808), -1 * (b / 9223372036854775808), -9223372036854775808, .inr rfl, hw, by omega, ?_, ?_, rfl, rfl, by omega, by omega⟩
    · rcases ha3 with rfl | rfl <;> decide
    · subst hb3
      decide

theorem of_any (a b : Int) (ha : -9223372036854775808 ≤ a) (ha2 : a ≤ 9223372036854775807) (hb : -9223372036854775808 ≤ b) (hb2 : b ≤ 9223372036854775807) (w : World) :
    Calls Tryd.prog 10 #[.int .i64 a, .int .i64 b] w fun e w' => e = .returned (.tuple #[.agg #[.int .i64 (ofN a b), .int .i64 (ofD a b)], .int .i64 (ofE a b)]) ∧ Below w.heap.size w w' := by
  unfold ofN ofD ofE
  by_cases hz : b = 0
  · subst hz
    rw [if_pos rfl, if_pos rfl, if_pos rfl]
    go_enter Tryd.func10, Tryd.ntmps10
    go_wp2_with fail
    refine bodyPost_ret (v := .tuple #[.agg #[.int .i64 0, .int .i64 0], .int .i64 14]) ?_ rfl ⟨rfl, ?_⟩
    · simp [results, Tryd.results10, go_sem]
    · exact (Below.refl _ _).alloc (Nat.le_refl _) _
  · rw [if_neg hz, if_neg hz, if_neg hz]
    obtain ⟨σ, x, y, g, hσ, hg, hg0, hx, hy, hxe, hye, ⟨bx1, bx2⟩, ⟨by1, by2⟩⟩ := red_facts a b hz ha ha2 hb hb2
    have hbz : (b == 0) = false := by simpa using hz
    obtain ⟨s, hs⟩ : ∃ s : Int, s = if y < 0 then -1 else 1 := ⟨_, rfl⟩
    obtain ⟨q1, q2⟩ := of_int a b x y s _ hz rfl σ hσ hxe hye hs
    have hR := fun w => reduced_any a b g ha ha2 hb hb2 hg hg0 x y hx hy w
    have HR := Lib.hid hR
    clear hg hg0 hx hy hxe hye hR hz
    have t4 := Two.new w 23 (.int .i64 0) (.int .i64 0)
    by_cases hy0 : y < 0
    · rw [if_pos hy0] at hs
      subst hs
      have hQ := fun w => result_q (ofQ a b) (-x) (-y) (by rw [q1]; omega) (by rw [q2]; omega) w
      generalize ofQ a b = q at *
      have HQ := Lib.hid hQ
      clear q1 q2 hQ
      go_enter Tryd.func10, Tryd.ntmps10
      go_wp2_with fail
      refine (HR.out _).mono ?_
      rintro r w1 ⟨rfl, hb1⟩
      go_wp2_with fail
      refine (product_any x _ (by omega) (by omega) (by omega) (by omega) _).mono ?_
      rintro r w2 ⟨rfl, hb2⟩
      go_wp2_with fail
      refine (product_any y _ (by omega) (by omega) (by omega) (by omega) _).mono ?_
      rintro r w3 ⟨rfl, hb3⟩
      go_wp2_with fail
      refine (HQ.out _).mono ?_
      rintro r w4 ⟨rfl, hb4⟩
      have hb2' := hb1.trans (hb2.mono hb1.size)
      have hb3' := hb2'.trans (hb3.mono hb2'.size)
      have hb4' := hb3'.trans (hb4.mono hb3'.size)
      have t5 := t4.below hb4' t4.lt
      obtain ⟨c1, c2, c3, c4⟩ := t5.facts
      clear hb1 hb2 hb3 hb4 hb2' hb3'
      go_wp2_with fail
      refine bodyPost_ret (v := .tuple #[.agg #[.int .i64 (rN q), .int .i64 (rD q)], .int .i64 (rE q)]) ?_ rfl ⟨rfl, ?_⟩
      · simp [results, Tryd.results10, go_sem, c1, c2]
      · exact ((((Below.refl _ _).alloc (Nat.le_refl _) _).trans (hb4'.mono (by simp))).setCell (by simp) _).setCell (by simp) _
    · rw [if_neg hy0] at hs
      subst hs
      have hQ := fun w => result_q (ofQ a b) x y (by rw [q1]; omega) (by rw [q2]; omega) w
      generalize ofQ a b = q at *
      have HQ := Lib.hid hQ
      clear q1 q2 hQ
      go_enter Tryd.func10, Tryd.ntmps10
      go_wp2_with fail
      refine (HR.out _).mono ?_
      rintro r w1 ⟨rfl, hb1⟩
      go_wp2_with fail
      refine (product_any x _ (by omega) (by omega) (by omega) (by omega) _).mono ?_
      rintro r w2 ⟨rfl, hb2⟩
      go_wp2_with fail
      refine (product_any y _ (by omega) (by omega) (by omega) (by omega) _).mono ?_
      rintro r w3 ⟨rfl, hb3⟩
      go_wp2_with fail
      refine (HQ.out _).mono ?_
      rintro r w4 ⟨rfl, hb4⟩
      have hb2' := hb1.trans (hb2.mono hb1.size)
      have hb3' := hb2'.trans (hb3.mono hb2'.size)
      have hb4' := hb3'.trans (hb4.mono hb3'.size)
      have t5 := t4.below hb4' t4.lt
      obtain ⟨c1, c2, c3, c4⟩ := t5.facts
      clear hb1 hb2 hb3 hb4 hb2' hb3'
      go_wp2_with fail
      refine bodyPost_ret (v := .tuple #[.agg #[.int .i64 (rN q), .int .i64 (rD q)], .int .i64 (rE q)]) ?_ rfl ⟨rfl, ?_⟩
      · simp [results, Tryd.results10, go_sem, c1, c2]
      · exact ((((Below.refl _ _).alloc (Nat.le_refl _) _).trans (hb4'.mono (by simp))).setCell (by simp) _).setCell (by simp) _
end Go.Proofs.YtflnhjfmlminoaaDoor.Fr
