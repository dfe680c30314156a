/- Walks over layer 5's reference: Valid, Of. -/
import Derived.Test.YtflnhjfmlminoaaDoorFrcR11
namespace Go.Proofs.YtflnhjfmlminoaaDoor.Fr
set_option linter.unusedVariables false
set_option linter.unusedSimpArgs false
open Go.RowKit

theorem bin_one : bin 1 = [1] := by rw [bin_step (by decide), show 1 / 2 = 0 from rfl, bin_zero]
theorem bin_len_one {g : Nat} (h : (bin g).length = 1) (h0 : 0 < g) : g = 1 := by
  have := bin_lt g
  rw [h] at this
  omega

set_option maxRecDepth 100000 in
set_option maxHeartbeats 4000000 in
theorem rvalid_in (n d : Int) (h1 : -4611686018427387904 ≤ n) (h2 : n ≤ 4611686018427387904) (h3 : 1 ≤ d) (h4 : d ≤ 4611686018427387904) (w : World) :
    Calls Tryd.prog 17 #[.agg #[.int .i64 n, .int .i64 d]] w fun e w' => e = .returned (.bool (valB n d)) ∧ Below w.heap.size w w' := by
  obtain ⟨V, hV⟩ : ∃ V, valB n d = V := ⟨_, rfl⟩
  rw [hV]
  have HV := Lib.hid hV
  clear hV
  have e1 : decide (d < 1) = false := decide_eq_false (by omega)
  have e2 : decide (4611686018427387904 < d) = false := decide_eq_false (by omega)
  have e3 : decide (n < -4611686018427387904) = false := decide_eq_false (by omega)
  have e4 : decide (4611686018427387904 < n) = false := decide_eq_false (by omega)
  have t1 := Two.new w 23 (.int .i64 n) (.int .i64 d)
  obtain ⟨f1, f2, f3, f4⟩ := t1.facts
  have B0 : Below w.heap.size w (w.alloc (.cells #[.int .i64 n, .int .i64 d] 23)) := (Below.refl _ _).alloc (Nat.le_refl _) _
  go_enter Tryd.func17, Tryd.ntmps17
  go_wp2_with fail
  generalize hW : w.alloc (.cells #[.int .i64 n, .int .i64 d] 23) = W at *
  have hcells : ∀ w' : World, Below W.heap.size W w' → w'.cell? ⟨w.heap.size, 0, none⟩ = some (.int .i64 n) ∧ w'.cell? ⟨w.heap.size, 1, none⟩ = some (.int .i64 d) := fun w' hb => by
    obtain ⟨a1, a2, -, -⟩ := (t1.below hb t1.lt).facts
    exact ⟨a1, a2⟩
  have hr := Below.refl W.heap.size W
  have hl1 : (bin n.natAbs).length ≤ 500 := Nat.le_trans (bin_length_le (k := 64) (by omega)) (by omega)
  have hl2 : (bin d.natAbs).length ≤ 500 := Nat.le_trans (bin_length_le (k := 64) (by omega)) (by omega)
  have HL := Lib.hid (And.intro hl1 hl2)
  have HB := Lib.hid (And.intro (And.intro h1 h2) (And.intro h3 h4))
  have D1 := Lib.hid (fun w => digits_any n (by omega) (by omega) w)
  have D2 := Lib.hid (fun w => digits_any d (by omega) (by omega) w)
  clear f1 f2 f3 f4 hW hl1 hl2 h1 h2 h3 h4 e1 e2 e3 e4
  go_region_held3 (fun w' => w'.cell? ⟨w.heap.size, 0, none⟩ = some (.int .i64 n) ∧ w'.cell? ⟨w.heap.size, 1, none⟩ = some (.int .i64 d))
    (first | exact hcells _ hr.drew | exact hcells _ (by assumption))
    (first
      | (go_at_call 41; have hz := hx2; refine (rdivisor_any _ _ n.natAbs d.natAbs HL.out.1 HL.out.2 _ (hi1.below hx2') hi2).mono ?_; rintro r x3 ⟨u3, rfl, hi3, hx3'⟩; have hx3 : Below W.heap.size W x3 := hx2.trans (hx3'.mono hx2.size))
      | (go_at_call 32; have hz := hx1; refine (D2.out _).mono ?_; rintro r x2 ⟨u2, rfl, hi2, hx2', _⟩; have hx2 : Below W.heap.size W x2 := hx1.trans (hx2'.mono hx1.size))
      | (go_at_call 32; refine (D1.out _).mono ?_; rintro r x1 ⟨u1, rfl, hi1, hx1', _⟩; have hx1 : Below W.heap.size W x1 := hr.drew.trans hx1'))
  all_goals
    obtain ⟨a3, c3, rfl⟩ := hi3.shape
    have hb := B0.trans (hx3.mono B0.size)
    by_cases hg : Nat.gcd n.natAbs d.natAbs = 1
    · have hv : valB n d = true := valB_iff.2 ⟨HB.out.1.1, HB.out.1.2, HB.out.2.1, HB.out.2.2, hg⟩
      have hlen : (bin (Nat.gcd n.natAbs d.natAbs)).length = 1 := by rw [hg, bin_one]; rfl
      obtain rfl : V = true := HV.out.symm.trans hv
      rw [hlen]
      go_wp2_with fail
      go_ret
      exact ⟨rfl, hb⟩
    · have hv : valB n d = false := valB_false (fun h => hg h.2.2.2.2)
      have hlen : ¬ (bin (Nat.gcd n.natAbs d.natAbs)).length = 1 := fun h => hg (bin_len_one h (Nat.gcd_pos_of_pos_right _ (by have := HB.out.2.1; omega)))
      obtain rfl : V = false := HV.out.symm.trans hv
      generalize (bin (Nat.gcd n.natAbs d.natAbs)).length = k at *
      have hk : ((k : Int) == 1) = false := by simp; omega
      have hk2 : (k == 1) = false := by simpa using hlen
      go_wp2_with fail
      go_ret
      exact ⟨rfl, hb⟩

theorem rof_zero (n : Int) (w : World) :
    Calls Tryd.prog 11 #[.int .i64 n, .int .i64 0] w fun e w' => e = .returned (.tuple #[.agg #[.int .i64 0, .int .i64 0], .int .i64 14]) ∧ Below w.heap.size w w' := by
  have t0 := Two.new w 23 (.int .i64 0) (.int .i64 0)
  obtain ⟨k1, k2, k3, k4⟩ := t0.facts
  have B0 : Below w.heap.size w (w.alloc (.cells #[.int .i64 0, .int .i64 0] 23)) := (Below.refl _ _).alloc (Nat.le_refl _) _
  go_enter Tryd.func11, Tryd.ntmps11
  go_wp2_with fail
  refine bodyPost_ret (v := .tuple #[.agg #[.int .i64 0, .int .i64 0], .int .i64 14]) ?_ rfl ⟨rfl, ?_⟩
  · simp [results, Tryd.results11, go_sem, k1, k2, k3, k4]
  · exact B0

set_option maxRecDepth 100000 in
set_option maxHeartbeats 4000000 in
theorem rof_not (n d : Int) (hn1 : -9223372036854775808 ≤ n) (hn2 : n ≤ 9223372036854775807) (hd1 : -9223372036854775808 ≤ d) (hd2 : d ≤ 9223372036854775807) (hd : d ≠ 0) (w : World) :
    Calls Tryd.prog 11 #[.int .i64 n, .int .i64 d] w fun e w' => e = .returned (.tuple #[.agg #[.int .i64 (ofN n d), .int .i64 (ofD n d)], .int .i64 (ofE n d)]) ∧ Below w.heap.size w w' := by
  have hz : (d == 0) = false := by simpa using hd
  have hl1 : (bin n.natAbs).length ≤ 400 := Nat.le_trans (bin_length_le (k := 64) (by omega)) (by omega)
  have hl2 : (bin d.natAbs).length ≤ 400 := Nat.le_trans (bin_length_le (k := 64) (by omega)) (by omega)
  obtain ⟨r1, r2, r3⟩ := low_rat (decide (n < 0) != decide (d < 0)) n.natAbs d.natAbs (by omega) (ofQ n d) (divInt_sgn n d hd)
  unfold ofN ofD ofE
  rw [if_neg hd, if_neg hd, if_neg hd, ← r1, ← r2, ← r3]
  have HL := Lib.hid (And.intro hl1 hl2)
  have HB := Lib.hid (And.intro (And.intro hn1 hn2) (And.intro (And.intro hd1 hd2) hd))
  have D1 := Lib.hid (fun w => digits_any n hn1 hn2 w)
  have D2 := Lib.hid (fun w => digits_any d hd1 hd2 w)
  clear r1 r2 r3 hl1 hl2 hd hn1 hn2 hd1 hd2
  have t0 := Two.new w 23 (.int .i64 0) (.int .i64 0)
  have B0 : Below w.heap.size w (w.alloc (.cells #[.int .i64 0, .int .i64 0] 23)) := (Below.refl _ _).alloc (Nat.le_refl _) _
  obtain ⟨b1, k1⟩ : ∃ b, decide (n < 0) = b := ⟨_, rfl⟩
  obtain ⟨b2, k2⟩ : ∃ b, decide (d < 0) = b := ⟨_, rfl⟩
  rw [k1, k2]
  obtain ⟨N, hN⟩ : ∃ N, lowN (b1 != b2) n.natAbs d.natAbs = N := ⟨_, rfl⟩
  obtain ⟨D, hD⟩ : ∃ D, lowD n.natAbs d.natAbs = D := ⟨_, rfl⟩
  obtain ⟨E, hE⟩ : ∃ E, lowE n.natAbs d.natAbs = E := ⟨_, rfl⟩
  rw [hN, hD, hE]
  have LO := Lib.hid (fun v u w hv hu => lowest_any (b1 != b2) v u n.natAbs d.natAbs (by have := HB.out.2.2; omega) HL.out.1 HL.out.2 w hv hu)
  rw [hN, hD, hE] at LO
  clear hN hD hE
  cases b1 <;> cases b2
  all_goals
    simp only [bne_self_eq_false, Bool.true_bne, Bool.false_bne, Bool.not_true, Bool.not_false] at LO
    go_enter Tryd.func11, Tryd.ntmps11
    go_wp2_with fail
    refine (D1.out _).mono ?_
    rintro e w1 ⟨u1, rfl, hi1, hb1, -⟩
    go_wp2_with fail
    refine (D2.out _).mono ?_
    rintro e w2 ⟨u2, rfl, hi2, hb2, -⟩
    have HI1 := Lib.hid (hi1.below hb2)
    have HI2 := Lib.hid hi2
    have hb3 := hb1.trans (hb2.mono hb1.size)
    clear hi1 hi2 hb1 hb2
    go_wp2_with fail
    refine (LO.out _ _ _ HI1.out HI2.out).mono ?_
    rintro e w3 ⟨rfl, hb4⟩
    have hb5 := hb3.trans (hb4.mono hb3.size)
    obtain ⟨f1, f2, f3, f4⟩ := (t0.below hb5 t0.lt).facts
    have hb6 := B0.trans (hb5.mono B0.size)
    go_wp2_with fail
    refine bodyPost_ret (v := .tuple #[.agg #[.int .i64 N, .int .i64 D], .int .i64 E]) ?_ rfl ⟨rfl, ?_⟩
    · simp [results, Tryd.results11, go_sem, f1, f2, f3, f4]
    · exact (hb6.setCell (p := ⟨w.heap.size, 0, none⟩) (Nat.le_refl _) _).setCell (p := ⟨w.heap.size, 1, none⟩) (Nat.le_refl _) _
set_option maxRecDepth 100000 in
theorem rvalid_out (n d : Int) (h : ¬ (-4611686018427387904 ≤ n ∧ n ≤ 4611686018427387904 ∧ 1 ≤ d ∧ d ≤ 4611686018427387904)) (w : World) :
    Calls Tryd.prog 17 #[.agg #[.int .i64 n, .int .i64 d]] w fun e w' => e = .returned (.bool false) ∧ Below w.heap.size w w' := by
  rcases (by omega : d < 1 ∨ (1 ≤ d ∧ 4611686018427387904 < d) ∨ (1 ≤ d ∧ d ≤ 4611686018427387904 ∧ n < -4611686018427387904) ∨ (1 ≤ d ∧ d ≤ 4611686018427387904 ∧ -4611686018427387904 ≤ n ∧ 4611686018427387904 < n)) with k | k | k | k
  · have t1 := Two.new w 23 (.int .i64 n) (.int .i64 d)
    obtain ⟨f1, f2, f3, f4⟩ := t1.facts
    have B0 : Below w.heap.size w (w.alloc (.cells #[.int .i64 n, .int .i64 d] 23)) := (Below.refl _ _).alloc (Nat.le_refl _) _
    have e0 : decide (d < 1) = true := decide_eq_true (by omega)
    clear h
    go_enter Tryd.func17, Tryd.ntmps17
    go_wp2_with fail
    go_ret
    exact ⟨rfl, B0⟩
  · have t1 := Two.new w 23 (.int .i64 n) (.int .i64 d)
    obtain ⟨f1, f2, f3, f4⟩ := t1.facts
    have B0 : Below w.heap.size w (w.alloc (.cells #[.int .i64 n, .int .i64 d] 23)) := (Below.refl _ _).alloc (Nat.le_refl _) _
    have e0 : decide (d < 1) = false := decide_eq_false (by omega)
    have e1 : decide (4611686018427387904 < d) = true := decide_eq_true (by omega)
    clear h
    go_enter Tryd.func17, Tryd.ntmps17
    go_wp2_with fail
    go_ret
    exact ⟨rfl, B0⟩
  · have t1 := Two.new w 23 (.int .i64 n) (.int .i64 d)
    obtain ⟨f1, f2, f3, f4⟩ := t1.facts
    have B0 : Below w.heap.size w (w.alloc (.cells #[.int .i64 n, .int .i64 d] 23)) := (Below.refl _ _).alloc (Nat.le_refl _) _
    have e0 : decide (d < 1) = false := decide_eq_false (by omega)
    have e1 : decide (4611686018427387904 < d) = false := decide_eq_false (by omega)
    have e2 : decide (n < -4611686018427387904) = true := decide_eq_true (by omega)
    clear h
    go_enter Tryd.func17, Tryd.ntmps17
    go_wp2_with fail
    go_ret
    exact ⟨rfl, B0⟩
  · have t1 := Two.new w 23 (.int .i64 n) (.int .i64 d)
    obtain ⟨f1, f2, f3, f4⟩ := t1.facts
    have B0 : Below w.heap.size w (w.alloc (.cells #[.int .i64 n, .int .i64 d] 23)) := (Below.refl _ _).alloc (Nat.le_refl _) _
    have e0 : decide (d < 1) = false := decide_eq_false (by omega)
    have e1 : decide (4611686018427387904 < d) = false := decide_eq_false (by omega)
    have e2 : decide (n < -4611686018427387904) = false := decide_eq_false (by omega)
    have e3 : decide (4611686018427387904 < n) = true := decide_eq_true (by omega)
    clear h
    go_enter Tryd.func17, Tryd.ntmps17
    go_wp2_with fail
    go_ret
    exact ⟨rfl, B0⟩
theorem rvalid_any (n d : Int) (w : World) :
    Calls Tryd.prog 17 #[.agg #[.int .i64 n, .int .i64 d]] w fun e w' => e = .returned (.bool (valB n d)) ∧ Below w.heap.size w w' := by
  by_cases h : -4611686018427387904 ≤ n ∧ n ≤ 4611686018427387904 ∧ 1 ≤ d ∧ d ≤ 4611686018427387904
  · exact rvalid_in n d h.1 h.2.1 h.2.2.1 h.2.2.2 w
  · rw [valB_false (fun k => h ⟨k.1, k.2.1, k.2.2.1, k.2.2.2.1⟩)]
    exact rvalid_out n d h w
theorem rof_any (n d : Int) (hn1 : -9223372036854775808 ≤ n) (hn2 : n ≤ 9223372036854775807) (hd1 : -9223372036854775808 ≤ d) (hd2 : d ≤ 9223372036854775807) (w : World) :
    Calls Tryd.prog 11 #[.int .i64 n, .int .i64 d] w fun e w' => e = .returned (.tuple #[.agg #[.int .i64 (ofN n d), .int .i64 (ofD n d)], .int .i64 (ofE n d)]) ∧ Below w.heap.size w w' := by
  by_cases h : d = 0
  · subst h
    exact rof_zero n w
  · exact rof_not n d hn1 hn2 hd1 hd2 h w
end Go.Proofs.YtflnhjfmlminoaaDoor.Fr
