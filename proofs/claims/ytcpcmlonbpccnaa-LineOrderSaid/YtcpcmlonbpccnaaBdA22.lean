/- Walks over layer 5's reference: lowest. Written by wip/tools/frlowest.py. -/
import Derived.Test.YtcpcmlonbpccnaaBdA21
import Derived.Test.YtcpcmlonbpccnaaBdA6
import Derived.Test.YtcpcmlonbpccnaaBdA2
namespace Go.Proofs.Ytcpcmlonbpccnaa.Fr
set_option linter.unusedVariables false
set_option linter.unusedSimpArgs false
open Go.RowKit

/-- what lowest returns -/
def lowOk (p d : Nat) : Prop := p / Nat.gcd p d ≤ 4611686018427387904 ∧ d / Nat.gcd p d ≤ 4611686018427387904
instance (p d : Nat) : Decidable (lowOk p d) := by unfold lowOk; infer_instance
def lowN (neg : Bool) (p d : Nat) : Int := if lowOk p d then (if neg then -((p / Nat.gcd p d : Nat) : Int) else ((p / Nat.gcd p d : Nat) : Int)) else 0
def lowD (p d : Nat) : Int := if lowOk p d then ((d / Nat.gcd p d : Nat) : Int) else 0
def lowE (p d : Nat) : Int := if lowOk p d then 0 else 9

end Go.Proofs.Ytcpcmlonbpccnaa.Fr

/- Layer 5's reference: its lowest terms are those of Lean's rational numbers; Valid. -/
namespace Go.Proofs.Ytcpcmlonbpccnaa.Fr
set_option linter.unusedVariables false
set_option linter.unusedSimpArgs false
open Go.RowKit

def sgn (neg : Bool) (p : Nat) : Int := if neg then -(p : Int) else (p : Int)
theorem sgn_abs (neg : Bool) (p : Nat) : (sgn neg p).natAbs = p := by
  unfold sgn
  cases neg <;> simp
theorem low_num (neg : Bool) (p d : Nat) (hd : 0 < d) : (mkRat (sgn neg p) d).num = sgn neg (p / Nat.gcd p d) ∧ (mkRat (sgn neg p) d).den = d / Nat.gcd p d := by
  have hne : d ≠ 0 := by omega
  have hg : Nat.gcd d (sgn neg p).natAbs = Nat.gcd p d := by rw [sgn_abs, Nat.gcd_comm]
  have hdv : ((Nat.gcd p d : Nat) : Int) ∣ (p : Int) := Int.natCast_dvd_natCast.2 (Nat.gcd_dvd_left p d)
  constructor
  · rw [Rat.num_mkRat, if_neg hne, hg]
    unfold sgn
    cases neg
    · rfl
    · show -(p : Int) / ((Nat.gcd p d : Nat) : Int) = -((p / Nat.gcd p d : Nat) : Int)
      rw [Int.neg_ediv_of_dvd hdv]
      rfl
  · rw [Rat.den_mkRat, if_neg hne, hg]
theorem low_rat (neg : Bool) (p d : Nat) (hd : 0 < d) (q : Rat) (hq : q = mkRat (sgn neg p) d) : lowN neg p d = rN q ∧ lowD p d = rD q ∧ lowE p d = rE q := by
  obtain ⟨hn, hdn⟩ := low_num neg p d hd
  rw [← hq] at hn hdn
  have hiff : fitP q ↔ lowOk p d := by
    unfold fitP lowOk
    rw [hn, hdn]
    unfold sgn
    generalize p / Nat.gcd p d = P
    generalize d / Nat.gcd p d = D
    cases neg
    · simp only [Bool.false_eq_true, if_false]
      constructor
      · rintro ⟨a, b, c⟩
        omega
      · rintro ⟨a, b⟩
        omega
    · simp only [if_true]
      constructor
      · rintro ⟨a, b, c⟩
        omega
      · rintro ⟨a, b⟩
        omega
  unfold lowN lowD lowE rN rD rE
  by_cases h : lowOk p d
  · rw [if_pos h, if_pos h, if_pos h, if_pos (hiff.2 h), if_pos (hiff.2 h), if_pos (hiff.2 h), hn, hdn]
    exact ⟨rfl, rfl, rfl⟩
  · have h' : ¬ fitP q := fun k => h (hiff.1 k)
    rw [if_neg h, if_neg h, if_neg h, if_neg h', if_neg h', if_neg h']
    exact ⟨rfl, rfl, rfl⟩
theorem divInt_sgn (n d : Int) (hd : d ≠ 0) : Rat.divInt n d = mkRat (sgn (decide (n < 0) != decide (d < 0)) n.natAbs) d.natAbs := by
  rcases Int.lt_or_lt_of_ne hd with h | h
  · have e1 : decide (d < 0) = true := decide_eq_true h
    have e2 : Rat.divInt n d = Rat.divInt (-n) (-d) := (Rat.neg_divInt_neg n d).symm
    obtain ⟨k, hk⟩ : ∃ k : Nat, -d = (k : Int) := ⟨(-d).toNat, by omega⟩
    have e3 : d.natAbs = k := by omega
    rw [e2, hk, e3, e1, Rat.divInt_ofNat]
    congr 1
    unfold sgn
    by_cases hn : n < 0
    · rw [decide_eq_true hn]
      simp
      omega
    · rw [decide_eq_false hn]
      simp
      omega
  · have e1 : decide (d < 0) = false := decide_eq_false (by omega)
    obtain ⟨k, hk⟩ : ∃ k : Nat, d = (k : Int) := ⟨d.toNat, by omega⟩
    have e3 : d.natAbs = k := by omega
    rw [e1, e3]
    subst hk
    rw [Rat.divInt_ofNat]
    congr 1
    unfold sgn
    by_cases hn : n < 0
    · rw [decide_eq_true hn]
      simp
      omega
    · rw [decide_eq_false hn]
      simp
      omega
end Go.Proofs.Ytcpcmlonbpccnaa.Fr

/- Walks over layer 5's reference: Valid, Of. -/
namespace Go.Proofs.Ytcpcmlonbpccnaa.Fr
set_option linter.unusedVariables false
set_option linter.unusedSimpArgs false
open Go.RowKit

theorem bin_one : bin 1 = [1] := by rw [bin_step (by decide), show 1 / 2 = 0 from rfl, bin_zero]
theorem bin_len_one {g : Nat} (h : (bin g).length = 1) (h0 : 0 < g) : g = 1 := by
  have := bin_lt g
  rw [h] at this
  omega

set_option maxRecDepth 100000 in
set_option maxHeartbeats 4000000 in
theorem rvalid_in (n d : Int) (h1 : -4611686018427387904 ≤ n) (h2 : n ≤ 4611686018427387904) (h3 : 1 ≤ d) (h4 : d ≤ 4611686018427387904) (w : World) :
    Calls Try.prog 76 #[.agg #[.int .i64 n, .int .i64 d]] w fun e w' => e = .returned (.bool (valB n d)) ∧ Below w.heap.size w w' := by
  obtain ⟨V, hV⟩ : ∃ V, valB n d = V := ⟨_, rfl⟩
  rw [hV]
  have HV := Lib.hid hV
  clear hV
  have e1 : decide (d < 1) = false := decide_eq_false (by omega)
  have e2 : decide (4611686018427387904 < d) = false := decide_eq_false (by omega)
  have e3 : decide (n < -4611686018427387904) = false := decide_eq_false (by omega)
  have e4 : decide (4611686018427387904 < n) = false := decide_eq_false (by omega)
  have t1 := Two.new w 26 (.int .i64 n) (.int .i64 d)
  obtain ⟨f1, f2, f3, f4⟩ := t1.facts
  have B0 : Below w.heap.size w (w.alloc (.cells #[.int .i64 n, .int .i64 d] 26)) := (Below.refl _ _).alloc (Nat.le_refl _) _
  go_enter Try.func76, Try.ntmps76
  go_wp2_with fail
  generalize hW : w.alloc (.cells #[.int .i64 n, .int .i64 d] 26) = W at *
  have hcells : ∀ w' : World, Below W.heap.size W w' → w'.cell? ⟨w.heap.size, 0, none⟩ = some (.int .i64 n) ∧ w'.cell? ⟨w.heap.size, 1, none⟩ = some (.int .i64 d) := fun w' hb => by
    obtain ⟨a1, a2, -, -⟩ := (t1.below hb t1.lt).facts
    exact ⟨a1, a2⟩
  have hr := Below.refl W.heap.size W
  have hl1 : (bin n.natAbs).length ≤ 500 := Nat.le_trans (bin_length_le (k := 64) (by omega)) (by omega)
  have hl2 : (bin d.natAbs).length ≤ 500 := Nat.le_trans (bin_length_le (k := 64) (by omega)) (by omega)
  have HL := Lib.hid (And.intro hl1 hl2)
  have HB := Lib.hid (And.intro (And.intro h1 h2) (And.intro h3 h4))
  have D1 := Lib.hid (fun w => digits_any n (by omega) (by omega) w)
  have D2 := Lib.hid (fun w => digits_any d (by omega) (by omega) w)
  clear f1 f2 f3 f4 hW hl1 hl2 h1 h2 h3 h4 e1 e2 e3 e4
  go_region_held3 (fun w' => w'.cell? ⟨w.heap.size, 0, none⟩ = some (.int .i64 n) ∧ w'.cell? ⟨w.heap.size, 1, none⟩ = some (.int .i64 d))
    (first | exact hcells _ hr.drew | exact hcells _ (by assumption))
    (first
      | (go_at_call 112; have hz := hx2; refine (rdivisor_any _ _ n.natAbs d.natAbs HL.out.1 HL.out.2 _ (hi1.below hx2') hi2).mono ?_; rintro r x3 ⟨u3, rfl, hi3, hx3'⟩; have hx3 : Below W.heap.size W x3 := hx2.trans (hx3'.mono hx2.size))
      | (go_at_call 99; have hz := hx1; refine (D2.out _).mono ?_; rintro r x2 ⟨u2, rfl, hi2, hx2', _⟩; have hx2 : Below W.heap.size W x2 := hx1.trans (hx2'.mono hx1.size))
      | (go_at_call 99; refine (D1.out _).mono ?_; rintro r x1 ⟨u1, rfl, hi1, hx1', _⟩; have hx1 : Below W.heap.size W x1 := hr.drew.trans hx1'))
  all_goals
    obtain ⟨a3, c3, rfl⟩ := hi3.shape
    have hb := B0.trans (hx3.mono B0.size)
    by_cases hg : Nat.gcd n.natAbs d.natAbs = 1
    · have hv : valB n d = true := valB_iff.2 ⟨HB.out.1.1, HB.out.1.2, HB.out.2.1, HB.out.2.2, hg⟩
      have hlen : (bin (Nat.gcd n.natAbs d.natAbs)).length = 1 := by rw [hg, bin_one]; rfl
      obtain rfl : V = true := HV.out.symm.trans hv
      rw [hlen]
      go_wp2_with fail
      go_ret
      exact ⟨rfl, hb⟩
    · have hv : valB n d = false := valB_false (fun h => hg h.2.2.2.2)
      have hlen : ¬ (bin (Nat.gcd n.natAbs d.natAbs)).length = 1 := fun h => hg (bin_len_one h (Nat.gcd_pos_of_pos_right _ (by have := HB.out.2.1; omega)))
      obtain rfl : V = false := HV.out.symm.trans hv
      generalize (bin (Nat.gcd n.natAbs d.natAbs)).length = k at *
      have hk : ((k : Int) == 1) = false := by simp; omega
      have hk2 : (k == 1) = false := by simpa using hlen
      go_wp2_with fail
      go_ret
      exact ⟨rfl, hb⟩

set_option maxRecDepth 100000 in
theorem rvalid_out (n d : Int) (h : ¬ (-4611686018427387904 ≤ n ∧ n ≤ 4611686018427387904 ∧ 1 ≤ d ∧ d ≤ 4611686018427387904)) (w : World) :
    Calls Try.prog 76 #[.agg #[.int .i64 n, .int .i64 d]] w fun e w' => e = .returned (.bool false) ∧ Below w.heap.size w w' := by
  rcases (by omega : d < 1 ∨ (1 ≤ d ∧ 4611686018427387904 < d) ∨ (1 ≤ d ∧ d ≤ 4611686018427387904 ∧ n < -4611686018427387904) ∨ (1 ≤ d ∧ d ≤ 4611686018427387904 ∧ -4611686018427387904 ≤ n ∧ 4611686018427387904 < n)) with k | k | k | k
  · have t1 := Two.new w 26 (.int .i64 n) (.int .i64 d)
    obtain ⟨f1, f2, f3, f4⟩ := t1.facts
    have B0 : Below w.heap.size w (w.alloc (.cells #[.int .i64 n, .int .i64 d] 26)) := (Below.refl _ _).alloc (Nat.le_refl _) _
    have e0 : decide (d < 1) = true := decide_eq_true (by omega)
    clear h
    go_enter Try.func76, Try.ntmps76
    go_wp2_with fail
    go_ret
    exact ⟨rfl, B0⟩
  · have t1 := Two.new w 26 (.int .i64 n) (.int .i64 d)
    obtain ⟨f1, f2, f3, f4⟩ := t1.facts
    have B0 : Below w.heap.size w (w.alloc (.cells #[.int .i64 n, .int .i64 d] 26)) := (Below.refl _ _).alloc (Nat.le_refl _) _
    have e0 : decide (d < 1) = false := decide_eq_false (by omega)
    have e1 : decide (4611686018427387904 < d) = true := decide_eq_true (by omega)
    clear h
    go_enter Try.func76, Try.ntmps76
    go_wp2_with fail
    go_ret
    exact ⟨rfl, B0⟩
  · have t1 := Two.new w 26 (.int .i64 n) (.int .i64 d)
    obtain ⟨f1, f2, f3, f4⟩ := t1.facts
    have B0 : Below w.heap.size w (w.alloc (.cells #[.int .i64 n, .int .i64 d] 26)) := (Below.refl _ _).alloc (Nat.le_refl _) _
    have e0 : decide (d < 1) = false := decide_eq_false (by omega)
    have e1 : decide (4611686018427387904 < d) = false := decide_eq_false (by omega)
    have e2 : decide (n < -4611686018427387904) = true := decide_eq_true (by omega)
    clear h
    go_enter Try.func76, Try.ntmps76
    go_wp2_with fail
    go_ret
    exact ⟨rfl, B0⟩
  · have t1 := Two.new w 26 (.int .i64 n) (.int .i64 d)
    obtain ⟨f1, f2, f3, f4⟩ := t1.facts
    have B0 : Below w.heap.size w (w.alloc (.cells #[.int .i64 n, .int .i64 d] 26)) := (Below.refl _ _).alloc (Nat.le_refl _) _
    have e0 : decide (d < 1) = false := decide_eq_false (by omega)
    have e1 : decide (4611686018427387904 < d) = false := decide_eq_false (by omega)
    have e2 : decide (n < -4611686018427387904) = false := decide_eq_false (by omega)
    have e3 : decide (4611686018427387904 < n) = true := decide_eq_true (by omega)
    clear h
    go_enter Try.func76, Try.ntmps76
    go_wp2_with fail
    go_ret
    exact ⟨rfl, B0⟩
theorem rvalid_any (n d : Int) (w : World) :
    Calls Try.prog 76 #[.agg #[.int .i64 n, .int .i64 d]] w fun e w' => e = .returned (.bool (valB n d)) ∧ Below w.heap.size w w' := by
  by_cases h : -4611686018427387904 ≤ n ∧ n ≤ 4611686018427387904 ∧ 1 ≤ d ∧ d ≤ 4611686018427387904
  · exact rvalid_in n d h.1 h.2.1 h.2.2.1 h.2.2.2 w
  · rw [valB_false (fun k => h ⟨k.1, k.2.1, k.2.2.1, k.2.2.2.1⟩)]
    exact rvalid_out n d h w
end Go.Proofs.Ytcpcmlonbpccnaa.Fr

/- Plain: sums and products of fractions as the reference of layer 5 reckons them. -/
namespace Go.Proofs.Ytcpcmlonbpccnaa.Fr

theorem sgn_of (x : Int) : x = sgn (decide (x < 0)) x.natAbs := by
  unfold sgn
  by_cases h : x < 0
  · rw [decide_eq_true h]
    simp
    omega
  · rw [decide_eq_false h]
    simp
    omega
theorem sgn_zero (b : Bool) : sgn b 0 = 0 := by cases b <;> rfl
theorem sgn_mul (x y : Int) (hy : 0 < y) : x * y = sgn (decide (x < 0)) (x.natAbs * y.natAbs) := by
  rw [← Int.natAbs_mul]
  have e := sgn_of (x * y)
  by_cases h : x < 0
  · have h2 : x * y < 0 := Int.mul_neg_of_neg_of_pos h hy
    rw [decide_eq_true h2] at e
    rw [decide_eq_true h]
    exact e
  · have h2 : ¬ x * y < 0 := by
      have := Int.mul_nonneg (Int.not_lt.1 h) (Int.le_of_lt hy)
      omega
    rw [decide_eq_false h2] at e
    rw [decide_eq_false h]
    exact e
/-- the three ways of the sum -/
theorem sgn_same (b : Bool) (p q : Nat) : sgn b p + sgn b q = sgn b (p + q) := by
  unfold sgn
  cases b <;> simp <;> omega
theorem sgn_less (b c : Bool) (p q : Nat) (hbc : b ≠ c) (h : p < q) : sgn b p + sgn c q = sgn c (q - p) := by
  unfold sgn
  cases b <;> cases c <;> simp at hbc ⊢ <;> omega
theorem sgn_more (b c : Bool) (p q : Nat) (hbc : b ≠ c) (h : ¬ p < q) : sgn b p + sgn c q = sgn b (p - q) := by
  unfold sgn
  cases b <;> cases c <;> simp at hbc ⊢ <;> omega
theorem sgn_prod (b c : Bool) (p q : Nat) : sgn b p * sgn c q = sgn (b != c) (p * q) := by
  unfold sgn
  cases b <;> cases c <;> simp [Int.mul_neg, Int.neg_mul]
theorem rat_abs {n d : Int} (h : valP n d) : (rat n d).num = n ∧ (rat n d).den = d.natAbs := by
  refine ⟨rat_num h, ?_⟩
  have := rat_den h
  omega
theorem add_sgn {n d m e : Int} (h : valP n d) (k : valP m e) : addQ n d m e = mkRat (sgn (decide (n < 0)) (n.natAbs * e.natAbs) + sgn (decide (m < 0)) (m.natAbs * d.natAbs)) (d.natAbs * e.natAbs) := by
  obtain ⟨a1, a2⟩ := rat_abs h
  obtain ⟨b1, b2⟩ := rat_abs k
  have he : (0 : Int) < e := by have := k.2.2.1; omega
  have hd : (0 : Int) < d := by have := h.2.2.1; omega
  unfold addQ
  rw [Rat.add_def', a1, a2, b1, b2, ← sgn_mul n e he, ← sgn_mul m d hd]
  congr 2
  · rw [show ((e.natAbs : Nat) : Int) = e by omega]
  · rw [show ((d.natAbs : Nat) : Int) = d by omega]
theorem mul_sgn {n d m e : Int} (h : valP n d) (k : valP m e) : mulQ n d m e = mkRat (sgn (decide (n < 0) != decide (m < 0)) (n.natAbs * m.natAbs)) (d.natAbs * e.natAbs) := by
  obtain ⟨a1, a2⟩ := rat_abs h
  obtain ⟨b1, b2⟩ := rat_abs k
  unfold mulQ
  rw [Rat.mul_def', a1, a2, b1, b2, ← sgn_prod, ← sgn_of, ← sgn_of]
/-- the order by signs and amounts -/
def ordS (b c : Bool) (P Q : Nat) : Int := if b != c then (if b then -1 else 1) else (if (if b then decide (Q < P) else decide (P < Q)) then -1 else if (if b then decide (P < Q) else decide (Q < P)) then 1 else 0)
theorem cmp_sgn {n d m e : Int} (h : valP n d) (k : valP m e) : cmpV n d m e = ordS (decide (n < 0)) (decide (m < 0)) (n.natAbs * e.natAbs) (m.natAbs * d.natAbs) := by
  have he : (0 : Int) < e := by have := k.2.2.1; omega
  have hd : (0 : Int) < d := by have := h.2.2.1; omega
  have e1 := sgn_mul n e he
  have e2 := sgn_mul m d hd
  have z1 : decide (n < 0) = true → 0 < n.natAbs * e.natAbs := fun t => Nat.mul_pos (by have := of_decide_eq_true t; omega) (by omega)
  have z2 : decide (m < 0) = true → 0 < m.natAbs * d.natAbs := fun t => Nat.mul_pos (by have := of_decide_eq_true t; omega) (by omega)
  unfold cmpV ordS
  rw [if_pos ⟨h, k⟩]
  generalize n * e = X at *
  generalize m * d = Y at *
  generalize n.natAbs * e.natAbs = P at *
  generalize m.natAbs * d.natAbs = Q at *
  generalize decide (n < 0) = b at *
  generalize decide (m < 0) = c at *
  subst e1
  subst e2
  unfold sgn
  cases b <;> cases c <;> simp at z1 z2 ⊢
  all_goals (repeat' split) <;> omega
end Go.Proofs.Ytcpcmlonbpccnaa.Fr

/- Walks over layer 5's reference: Floor. -/
namespace Go.Proofs.Ytcpcmlonbpccnaa.Fr
set_option linter.unusedVariables false
set_option linter.unusedSimpArgs false
open Go.RowKit

theorem rfloor_of (n d : Int) (hd : 1 ≤ d) : n / d = if n < n.tdiv d * d then n.tdiv d - 1 else n.tdiv d := by
  have h1 := Int.mul_tdiv_add_tmod n d
  have h2 := Int.mul_ediv_add_emod n d
  have h3 := Int.emod_nonneg n (show d ≠ 0 by omega)
  have h4 := Int.emod_lt_of_pos n (show 0 < d by omega)
  have e : d * n.tdiv d = n.tdiv d * d := Int.mul_comm _ _
  by_cases hn : 0 ≤ n
  · have h5 := Int.tdiv_eq_ediv_of_nonneg (b := d) hn
    rw [h5, if_neg]
    rw [h5] at e
    rw [← e]
    omega
  · have h6 : n.tmod d ≤ 0 := by
      have := Int.tmod_nonneg (a := -n) d (by omega)
      rw [Int.neg_tmod] at this
      omega
    have h7 : -d < n.tmod d := by
      have := Int.tmod_lt_of_pos (-n) (show 0 < d by omega)
      rw [Int.neg_tmod] at this
      omega
    by_cases h8 : n.tmod d = 0
    · rw [if_neg (by omega)]
      refine Int.ediv_eq_of_eq_mul_left (by omega) ?_
      omega
    · rw [if_pos (by omega)]
      have e2 : n = (n.tdiv d - 1) * d + (n.tmod d + d) := by
        rw [Int.sub_mul]
        omega
      have e3 : n / d = ((n.tmod d + d) + (n.tdiv d - 1) * d) / d := by
        congr 1
        omega
      rw [e3, Int.add_mul_ediv_right _ _ (show d ≠ 0 by omega), Int.ediv_eq_zero_of_lt (by omega) (by omega)]
      omega

end Go.Proofs.Ytcpcmlonbpccnaa.Fr

/- Walks over layer 5's reference: Mul. -/
namespace Go.Proofs.Ytcpcmlonbpccnaa.Fr
set_option linter.unusedVariables false
set_option linter.unusedSimpArgs false
open Go.RowKit

theorem far4 {w : World} {B : Nat} {n d m e : Int} (h : w.cell? ⟨B, 0, none⟩ = some (.int .i64 n) ∧ w.cell? ⟨B, 1, none⟩ = some (.int .i64 d) ∧ w.cell? ⟨B + 1, 0, none⟩ = some (.int .i64 m) ∧ w.cell? ⟨B + 1, 1, none⟩ = some (.int .i64 e)) (x y : Value) :
    ((w.setCell ⟨B + 1 + 1, 0, none⟩ x).setCell ⟨B + 1 + 1, 1, none⟩ y).cell? ⟨B, 0, none⟩ = some (.int .i64 n) ∧ ((w.setCell ⟨B + 1 + 1, 0, none⟩ x).setCell ⟨B + 1 + 1, 1, none⟩ y).cell? ⟨B, 1, none⟩ = some (.int .i64 d) ∧ ((w.setCell ⟨B + 1 + 1, 0, none⟩ x).setCell ⟨B + 1 + 1, 1, none⟩ y).cell? ⟨B + 1, 0, none⟩ = some (.int .i64 m) ∧ ((w.setCell ⟨B + 1 + 1, 0, none⟩ x).setCell ⟨B + 1 + 1, 1, none⟩ y).cell? ⟨B + 1, 1, none⟩ = some (.int .i64 e) := by
  obtain ⟨a, b, c, f⟩ := h
  refine ⟨?_, ?_, ?_, ?_⟩ <;> rw [World.cell?_setCell_far _ _ _ _ (by simp; try omega), World.cell?_setCell_far _ _ _ _ (by simp; try omega)] <;> assumption

end Go.Proofs.Ytcpcmlonbpccnaa.Fr

/- Walks over layer 5's reference: Mul, Add of fractions that are not valid. Written by wip/tools/frno.py. -/
namespace Go.Proofs.Ytcpcmlonbpccnaa.Fr
set_option linter.unusedVariables false
set_option linter.unusedSimpArgs false
open Go.RowKit

end Go.Proofs.Ytcpcmlonbpccnaa.Fr

/- Walks over layer 5's reference: Compare. Written by wip/tools/frcmp.py. -/
namespace Go.Proofs.Ytcpcmlonbpccnaa.Fr
set_option linter.unusedVariables false
set_option linter.unusedSimpArgs false
open Go.RowKit

set_option maxRecDepth 100000 in
set_option maxHeartbeats 4000000 in
theorem rcompare_ok (n d m e : Int) (hf : valP n d) (hg : valP m e) (w : World) :
    Calls Try.prog 54 #[.agg #[.int .i64 n, .int .i64 d], .agg #[.int .i64 m, .int .i64 e]] w fun r w' => r = .returned (.tuple #[.int .i64 (cmpV n d m e), .int .i64 (cmpE n d m e)]) ∧ Below w.heap.size w w' := by
  have V1 := Lib.hid (fun w => rvalid_any n d w)
  have V2 := Lib.hid (fun w => rvalid_any m e w)
  rw [valB_iff.2 hf] at V1
  rw [valB_iff.2 hg] at V2
  have hE : cmpE n d m e = 0 := by unfold cmpE; rw [if_pos ⟨hf, hg⟩]
  rw [hE, cmp_sgn hf hg]
  clear hE
  obtain ⟨f1, f2, f3, f4, -⟩ := hf
  obtain ⟨g1, g2, g3, g4, -⟩ := hg
  have small : ∀ z : Int, -4611686018427387904 ≤ z → z ≤ 4611686018427387904 → z.natAbs < 2 ^ 63 := fun z a b => by omega
  have l1 := small n f1 f2
  have l2 := small m g1 g2
  have l3 := small d (by omega) f4
  have l4 := small e (by omega) g4
  have lp : ∀ a b : Nat, a < 2 ^ 63 → b < 2 ^ 63 → (bin (a * b)).length ≤ 100000 := fun a b ha hb => by
    have h : a * b < 2 ^ 126 := by
      have h1 : a * b ≤ a * 2 ^ 63 := Nat.mul_le_mul_left a (Nat.le_of_lt hb)
      have h2 : a * 2 ^ 63 < 2 ^ 63 * 2 ^ 63 := (Nat.mul_lt_mul_right (by decide)).2 ha
      have h3 : (2 : Nat) ^ 63 * 2 ^ 63 = 2 ^ 126 := by decide
      omega
    exact Nat.le_trans (bin_length_le h) (by omega)
  have ls : ∀ a : Nat, a < 2 ^ 63 → (bin a).length ≤ 1000 := fun a ha => Nat.le_trans (bin_length_le (k := 63) ha) (by omega)
  have D1 := Lib.hid (fun w => digits_any n (by omega) (by omega) w)
  have D2 := Lib.hid (fun w => digits_any m (by omega) (by omega) w)
  have D3 := Lib.hid (fun w => digits_any d (by omega) (by omega) w)
  have D4 := Lib.hid (fun w => digits_any e (by omega) (by omega) w)
  have T1 := Lib.hid (fun v u w hv hu => times_any v u n.natAbs e.natAbs (ls _ l1) (ls _ l4) w hv hu)
  have T2 := Lib.hid (fun v u w hv hu => times_any v u m.natAbs d.natAbs (ls _ l2) (ls _ l3) w hv hu)
  have L1 := Lib.hid (fun v u w hv hu => less_any v u (n.natAbs * e.natAbs) (m.natAbs * d.natAbs) (lp _ _ l1 l4) (lp _ _ l2 l3) w hv hu)
  have L2 := Lib.hid (fun v u w hv hu => less_any v u (m.natAbs * d.natAbs) (n.natAbs * e.natAbs) (lp _ _ l2 l3) (lp _ _ l1 l4) w hv hu)
  clear f1 f2 f3 f4 g1 g2 g3 g4 small l1 l2 l3 l4 lp ls
  obtain ⟨b1, k1⟩ : ∃ b, decide (n < 0) = b := ⟨_, rfl⟩
  obtain ⟨b2, k2⟩ : ∃ b, decide (m < 0) = b := ⟨_, rfl⟩
  rw [k1, k2]
  unfold ordS
  generalize n.natAbs * e.natAbs = P at *
  generalize m.natAbs * d.natAbs = Q at *
  generalize decide (P < Q) = PQ at *
  generalize decide (Q < P) = QP at *
  have p0 : Two ((w.alloc (.cells #[.int .i64 n, .int .i64 d] 26)).alloc (.cells #[.int .i64 m, .int .i64 e] 26)) w.heap.size 26 (.int .i64 n) (.int .i64 d) := (Two.new _ _ _ _).alloc _
  have q0 : Two ((w.alloc (.cells #[.int .i64 n, .int .i64 d] 26)).alloc (.cells #[.int .i64 m, .int .i64 e] 26)) (w.heap.size + 1) 26 (.int .i64 m) (.int .i64 e) := Two.at (by simp) _ _ _
  have hB : Below w.heap.size w ((w.alloc (.cells #[.int .i64 n, .int .i64 d] 26)).alloc (.cells #[.int .i64 m, .int .i64 e] 26)) := ((Below.refl _ _).alloc (Nat.le_refl _) _).alloc (by simp) _
  cases b1 <;> cases b2
  · simp only [bne_self_eq_false, if_true, if_false, Bool.false_eq_true]
    go_enter Try.func54, Try.ntmps54
    go_wp2_with fail
    refine (V1.out _).mono ?_
    rintro r y1 ⟨rfl, hx⟩
    have p1 := p0.below hx p0.lt
    have q1 := q0.below hx q0.lt
    have hb1 := hB.trans (hx.mono hB.size)
    clear p0 q0 hB hx
    obtain ⟨a1, a2, -, -⟩ := p1.facts
    obtain ⟨a3, a4, -, -⟩ := q1.facts
    go_wp2_with fail
    refine (V2.out _).mono ?_
    rintro r y2 ⟨rfl, hx⟩
    have p2 := p1.below hx p1.lt
    have q2 := q1.below hx q1.lt
    have hb2 := hb1.trans (hx.mono hb1.size)
    clear a1 a2 a3 a4 p1 q1 hb1 hx
    have hcells : ∀ w' : World, Below y2.heap.size y2 w' → (fun w' => w'.cell? ⟨w.heap.size, 0, none⟩ = some (.int .i64 n) ∧ w'.cell? ⟨w.heap.size, 1, none⟩ = some (.int .i64 d) ∧ w'.cell? ⟨w.heap.size + 1, 0, none⟩ = some (.int .i64 m) ∧ w'.cell? ⟨w.heap.size + 1, 1, none⟩ = some (.int .i64 e)) w' := fun w' hb => by
      obtain ⟨a1, a2, -, -⟩ := (p2.below hb p2.lt).facts
      obtain ⟨a3, a4, -, -⟩ := (q2.below hb q2.lt).facts
      exact ⟨a1, a2, a3, a4⟩
    have hqy2 := Below.refl y2.heap.size y2
    have hry2 := Below.refl y2.heap.size y2
    obtain ⟨a1, a2, a3, a4⟩ := hcells y2 hqy2
    go_wp2_with fail
    go_region_held3 (fun w' => w'.cell? ⟨w.heap.size, 0, none⟩ = some (.int .i64 n) ∧ w'.cell? ⟨w.heap.size, 1, none⟩ = some (.int .i64 d) ∧ w'.cell? ⟨w.heap.size + 1, 0, none⟩ = some (.int .i64 m) ∧ w'.cell? ⟨w.heap.size + 1, 1, none⟩ = some (.int .i64 e))
        (first | exact hcells _ (hqy2.trans hry2.drew) | exact hcells _ (hqy2.trans (by assumption)))
        (first
          | (go_at_call 98; have hz := hs2; refine (T1.out _ _ _ (his1.below hs2') his2).mono ?_; rintro r s3 ⟨us3, rfl, his3, hs3', _⟩; have hs3 : Below y2.heap.size y2 s3 := hs2.trans (hs3'.mono hs2.size))
          | (go_at_call 99; have hz := hs1; refine (D4.out _).mono ?_; rintro r s2 ⟨us2, rfl, his2, hs2', _⟩; have hs2 : Below y2.heap.size y2 s2 := hs1.trans (hs2'.mono hs1.size))
          | (go_at_call 99; refine (D1.out _).mono ?_; rintro r s1 ⟨us1, rfl, his1, hs1', _⟩; have hs1 : Below y2.heap.size y2 s1 := hry2.drew.trans hs1'))
    all_goals
      have hqs3 : Below y2.heap.size y2 s3 := hs3
      have hrs3 := Below.refl s3.heap.size s3
      obtain ⟨c1, c2, c3, c4⟩ := hcells s3 hqs3
      go_wp2_with fail
      go_region_held3 (fun w' => w'.cell? ⟨w.heap.size, 0, none⟩ = some (.int .i64 n) ∧ w'.cell? ⟨w.heap.size, 1, none⟩ = some (.int .i64 d) ∧ w'.cell? ⟨w.heap.size + 1, 0, none⟩ = some (.int .i64 m) ∧ w'.cell? ⟨w.heap.size + 1, 1, none⟩ = some (.int .i64 e))
        (first | exact hcells _ (hqs3.trans (hrs3.drew.mono hqs3.size)) | exact hcells _ (hqs3.trans (Below.mono (by assumption) hqs3.size)))
        (first
          | (go_at_call 98; have hz := ht2; refine (T2.out _ _ _ (hit1.below ht2') hit2).mono ?_; rintro r t3 ⟨ut3, rfl, hit3, ht3', _⟩; have ht3 : Below s3.heap.size s3 t3 := ht2.trans (ht3'.mono ht2.size))
          | (go_at_call 99; have hz := ht1; refine (D3.out _).mono ?_; rintro r t2 ⟨ut2, rfl, hit2, ht2', _⟩; have ht2 : Below s3.heap.size s3 t2 := ht1.trans (ht2'.mono ht1.size))
          | (go_at_call 99; refine (D2.out _).mono ?_; rintro r t1 ⟨ut1, rfl, hit1, ht1', _⟩; have ht1 : Below s3.heap.size s3 t1 := hrs3.drew.trans ht1'))
      all_goals
        have hA := Lib.hid (his3.below ht3)
        have hC := Lib.hid hit3
        have hqt3 := hqs3.trans (ht3.mono hqs3.size)
        obtain ⟨e1, e2, e3, e4⟩ := hcells t3 hqt3
        go_wp2_with fail
        refine (L1.out _ _ _ hA.out hC.out).mono ?_
        rintro r z1 ⟨rfl, hz1⟩
        have hb4 := hqt3.trans (hz1.mono hqt3.size)
        cases PQ with
        | true =>
          go_wp2_with fail
          go_ret2
          exact ⟨rfl, hb2.trans (hb4.mono hb2.size)⟩
        | false =>
          go_wp2_with fail
          refine (L2.out _ _ _ (hC.out.below hz1) (hA.out.below hz1)).mono ?_
          rintro r z2 ⟨rfl, hz2⟩
          have hb5 := hb2.trans ((hb4.trans (hz2.mono hb4.size)).mono hb2.size)
          cases QP with
          | true =>
            go_wp2_with fail
            go_ret2
            exact ⟨rfl, hb5⟩
          | false =>
            go_wp2_with fail
            go_ret2
            exact ⟨rfl, hb5⟩
  · simp only [Bool.true_bne, Bool.false_bne, Bool.not_true, Bool.not_false, if_true, if_false, Bool.false_eq_true]
    go_enter Try.func54, Try.ntmps54
    go_wp2_with fail
    refine (V1.out _).mono ?_
    rintro r y1 ⟨rfl, hx⟩
    have p1 := p0.below hx p0.lt
    have q1 := q0.below hx q0.lt
    have hb1 := hB.trans (hx.mono hB.size)
    clear p0 q0 hB hx
    obtain ⟨a1, a2, -, -⟩ := p1.facts
    obtain ⟨a3, a4, -, -⟩ := q1.facts
    go_wp2_with fail
    refine (V2.out _).mono ?_
    rintro r y2 ⟨rfl, hx⟩
    have p2 := p1.below hx p1.lt
    have q2 := q1.below hx q1.lt
    have hb2 := hb1.trans (hx.mono hb1.size)
    clear a1 a2 a3 a4 p1 q1 hb1 hx
    have hcells : ∀ w' : World, Below y2.heap.size y2 w' → (fun w' => w'.cell? ⟨w.heap.size, 0, none⟩ = some (.int .i64 n) ∧ w'.cell? ⟨w.heap.size, 1, none⟩ = some (.int .i64 d) ∧ w'.cell? ⟨w.heap.size + 1, 0, none⟩ = some (.int .i64 m) ∧ w'.cell? ⟨w.heap.size + 1, 1, none⟩ = some (.int .i64 e)) w' := fun w' hb => by
      obtain ⟨a1, a2, -, -⟩ := (p2.below hb p2.lt).facts
      obtain ⟨a3, a4, -, -⟩ := (q2.below hb q2.lt).facts
      exact ⟨a1, a2, a3, a4⟩
    have hqy2 := Below.refl y2.heap.size y2
    have hry2 := Below.refl y2.heap.size y2
    obtain ⟨a1, a2, a3, a4⟩ := hcells y2 hqy2
    go_wp2_with fail
    go_ret2
    exact ⟨rfl, hb2⟩
  · simp only [Bool.true_bne, Bool.false_bne, Bool.not_true, Bool.not_false, if_true, if_false, Bool.false_eq_true]
    go_enter Try.func54, Try.ntmps54
    go_wp2_with fail
    refine (V1.out _).mono ?_
    rintro r y1 ⟨rfl, hx⟩
    have p1 := p0.below hx p0.lt
    have q1 := q0.below hx q0.lt
    have hb1 := hB.trans (hx.mono hB.size)
    clear p0 q0 hB hx
    obtain ⟨a1, a2, -, -⟩ := p1.facts
    obtain ⟨a3, a4, -, -⟩ := q1.facts
    go_wp2_with fail
    refine (V2.out _).mono ?_
    rintro r y2 ⟨rfl, hx⟩
    have p2 := p1.below hx p1.lt
    have q2 := q1.below hx q1.lt
    have hb2 := hb1.trans (hx.mono hb1.size)
    clear a1 a2 a3 a4 p1 q1 hb1 hx
    have hcells : ∀ w' : World, Below y2.heap.size y2 w' → (fun w' => w'.cell? ⟨w.heap.size, 0, none⟩ = some (.int .i64 n) ∧ w'.cell? ⟨w.heap.size, 1, none⟩ = some (.int .i64 d) ∧ w'.cell? ⟨w.heap.size + 1, 0, none⟩ = some (.int .i64 m) ∧ w'.cell? ⟨w.heap.size + 1, 1, none⟩ = some (.int .i64 e)) w' := fun w' hb => by
      obtain ⟨a1, a2, -, -⟩ := (p2.below hb p2.lt).facts
      obtain ⟨a3, a4, -, -⟩ := (q2.below hb q2.lt).facts
      exact ⟨a1, a2, a3, a4⟩
    have hqy2 := Below.refl y2.heap.size y2
    have hry2 := Below.refl y2.heap.size y2
    obtain ⟨a1, a2, a3, a4⟩ := hcells y2 hqy2
    go_wp2_with fail
    go_ret2
    exact ⟨rfl, hb2⟩
  · simp only [bne_self_eq_false, if_true, if_false, Bool.false_eq_true]
    go_enter Try.func54, Try.ntmps54
    go_wp2_with fail
    refine (V1.out _).mono ?_
    rintro r y1 ⟨rfl, hx⟩
    have p1 := p0.below hx p0.lt
    have q1 := q0.below hx q0.lt
    have hb1 := hB.trans (hx.mono hB.size)
    clear p0 q0 hB hx
    obtain ⟨a1, a2, -, -⟩ := p1.facts
    obtain ⟨a3, a4, -, -⟩ := q1.facts
    go_wp2_with fail
    refine (V2.out _).mono ?_
    rintro r y2 ⟨rfl, hx⟩
    have p2 := p1.below hx p1.lt
    have q2 := q1.below hx q1.lt
    have hb2 := hb1.trans (hx.mono hb1.size)
    clear a1 a2 a3 a4 p1 q1 hb1 hx
    have hcells : ∀ w' : World, Below y2.heap.size y2 w' → (fun w' => w'.cell? ⟨w.heap.size, 0, none⟩ = some (.int .i64 n) ∧ w'.cell? ⟨w.heap.size, 1, none⟩ = some (.int .i64 d) ∧ w'.cell? ⟨w.heap.size + 1, 0, none⟩ = some (.int .i64 m) ∧ w'.cell? ⟨w.heap.size + 1, 1, none⟩ = some (.int .i64 e)) w' := fun w' hb => by
      obtain ⟨a1, a2, -, -⟩ := (p2.below hb p2.lt).facts
      obtain ⟨a3, a4, -, -⟩ := (q2.below hb q2.lt).facts
      exact ⟨a1, a2, a3, a4⟩
    have hqy2 := Below.refl y2.heap.size y2
    have hry2 := Below.refl y2.heap.size y2
    obtain ⟨a1, a2, a3, a4⟩ := hcells y2 hqy2
    go_wp2_with fail
    go_region_held3 (fun w' => w'.cell? ⟨w.heap.size, 0, none⟩ = some (.int .i64 n) ∧ w'.cell? ⟨w.heap.size, 1, none⟩ = some (.int .i64 d) ∧ w'.cell? ⟨w.heap.size + 1, 0, none⟩ = some (.int .i64 m) ∧ w'.cell? ⟨w.heap.size + 1, 1, none⟩ = some (.int .i64 e))
        (first | exact hcells _ (hqy2.trans hry2.drew) | exact hcells _ (hqy2.trans (by assumption)))
        (first
          | (go_at_call 98; have hz := hs2; refine (T1.out _ _ _ (his1.below hs2') his2).mono ?_; rintro r s3 ⟨us3, rfl, his3, hs3', _⟩; have hs3 : Below y2.heap.size y2 s3 := hs2.trans (hs3'.mono hs2.size))
          | (go_at_call 99; have hz := hs1; refine (D4.out _).mono ?_; rintro r s2 ⟨us2, rfl, his2, hs2', _⟩; have hs2 : Below y2.heap.size y2 s2 := hs1.trans (hs2'.mono hs1.size))
          | (go_at_call 99; refine (D1.out _).mono ?_; rintro r s1 ⟨us1, rfl, his1, hs1', _⟩; have hs1 : Below y2.heap.size y2 s1 := hry2.drew.trans hs1'))
    all_goals
      have hqs3 : Below y2.heap.size y2 s3 := hs3
      have hrs3 := Below.refl s3.heap.size s3
      obtain ⟨c1, c2, c3, c4⟩ := hcells s3 hqs3
      go_wp2_with fail
      go_region_held3 (fun w' => w'.cell? ⟨w.heap.size, 0, none⟩ = some (.int .i64 n) ∧ w'.cell? ⟨w.heap.size, 1, none⟩ = some (.int .i64 d) ∧ w'.cell? ⟨w.heap.size + 1, 0, none⟩ = some (.int .i64 m) ∧ w'.cell? ⟨w.heap.size + 1, 1, none⟩ = some (.int .i64 e))
        (first | exact hcells _ (hqs3.trans (hrs3.drew.mono hqs3.size)) | exact hcells _ (hqs3.trans (Below.mono (by assumption) hqs3.size)))
        (first
          | (go_at_call 98; have hz := ht2; refine (T2.out _ _ _ (hit1.below ht2') hit2).mono ?_; rintro r t3 ⟨ut3, rfl, hit3, ht3', _⟩; have ht3 : Below s3.heap.size s3 t3 := ht2.trans (ht3'.mono ht2.size))
          | (go_at_call 99; have hz := ht1; refine (D3.out _).mono ?_; rintro r t2 ⟨ut2, rfl, hit2, ht2', _⟩; have ht2 : Below s3.heap.size s3 t2 := ht1.trans (ht2'.mono ht1.size))
          | (go_at_call 99; refine (D2.out _).mono ?_; rintro r t1 ⟨ut1, rfl, hit1, ht1', _⟩; have ht1 : Below s3.heap.size s3 t1 := hrs3.drew.trans ht1'))
      all_goals
        have hA := Lib.hid (his3.below ht3)
        have hC := Lib.hid hit3
        have hqt3 := hqs3.trans (ht3.mono hqs3.size)
        obtain ⟨e1, e2, e3, e4⟩ := hcells t3 hqt3
        go_wp2_with fail
        refine (L2.out _ _ _ hC.out hA.out).mono ?_
        rintro r z1 ⟨rfl, hz1⟩
        have hb4 := hqt3.trans (hz1.mono hqt3.size)
        cases QP with
        | true =>
          go_wp2_with fail
          go_ret2
          exact ⟨rfl, hb2.trans (hb4.mono hb2.size)⟩
        | false =>
          go_wp2_with fail
          refine (L1.out _ _ _ (hA.out.below hz1) (hC.out.below hz1)).mono ?_
          rintro r z2 ⟨rfl, hz2⟩
          have hb5 := hb2.trans ((hb4.trans (hz2.mono hb4.size)).mono hb2.size)
          cases PQ with
          | true =>
            go_wp2_with fail
            go_ret2
            exact ⟨rfl, hb5⟩
          | false =>
            go_wp2_with fail
            go_ret2
            exact ⟨rfl, hb5⟩

set_option maxRecDepth 100000 in
theorem rcompare_no1 (n d m e : Int) (hf : ¬ valP n d) (hg : True) (w : World) :
    Calls Try.prog 54 #[.agg #[.int .i64 n, .int .i64 d], .agg #[.int .i64 m, .int .i64 e]] w fun r w' => r = .returned (.tuple #[.int .i64 0, .int .i64 1]) ∧ Below w.heap.size w w' := by
  have V1 := Lib.hid (fun w => rvalid_any n d w)
  have V2 := Lib.hid (fun w => rvalid_any m e w)
  rw [valB_false hf] at V1
  clear V2
  clear hf hg
  have q0 : Two ((w.alloc (.cells #[.int .i64 n, .int .i64 d] 26)).alloc (.cells #[.int .i64 m, .int .i64 e] 26)) (w.heap.size + 1) 26 (.int .i64 m) (.int .i64 e) := Two.at (by simp) _ _ _
  have hB : Below w.heap.size w ((w.alloc (.cells #[.int .i64 n, .int .i64 d] 26)).alloc (.cells #[.int .i64 m, .int .i64 e] 26)) := ((Below.refl _ _).alloc (Nat.le_refl _) _).alloc (by simp) _
  go_enter Try.func54, Try.ntmps54
  go_wp2_with fail
  refine (V1.out _).mono ?_
  rintro r y1 ⟨rfl, hx⟩
  have hb1 := hB.trans (hx.mono hB.size)
  obtain ⟨a3, a4, -, -⟩ := (q0.below hx q0.lt).facts
  have hb2 := hb1
  go_wp2_with fail
  go_ret2
  exact ⟨rfl, hb2⟩

set_option maxRecDepth 100000 in
theorem rcompare_no2 (n d m e : Int) (hf : valP n d) (hg : ¬ valP m e) (w : World) :
    Calls Try.prog 54 #[.agg #[.int .i64 n, .int .i64 d], .agg #[.int .i64 m, .int .i64 e]] w fun r w' => r = .returned (.tuple #[.int .i64 0, .int .i64 1]) ∧ Below w.heap.size w w' := by
  have V1 := Lib.hid (fun w => rvalid_any n d w)
  have V2 := Lib.hid (fun w => rvalid_any m e w)
  rw [valB_iff.2 hf] at V1
  rw [valB_false hg] at V2
  clear hf hg
  have q0 : Two ((w.alloc (.cells #[.int .i64 n, .int .i64 d] 26)).alloc (.cells #[.int .i64 m, .int .i64 e] 26)) (w.heap.size + 1) 26 (.int .i64 m) (.int .i64 e) := Two.at (by simp) _ _ _
  have hB : Below w.heap.size w ((w.alloc (.cells #[.int .i64 n, .int .i64 d] 26)).alloc (.cells #[.int .i64 m, .int .i64 e] 26)) := ((Below.refl _ _).alloc (Nat.le_refl _) _).alloc (by simp) _
  go_enter Try.func54, Try.ntmps54
  go_wp2_with fail
  refine (V1.out _).mono ?_
  rintro r y1 ⟨rfl, hx⟩
  have hb1 := hB.trans (hx.mono hB.size)
  obtain ⟨a3, a4, -, -⟩ := (q0.below hx q0.lt).facts
  go_wp2_with fail
  refine (V2.out _).mono ?_
  rintro r y2 ⟨rfl, hx2⟩
  have hb2 := hb1.trans (hx2.mono hb1.size)
  go_wp2_with fail
  go_ret2
  exact ⟨rfl, hb2⟩
theorem rcompare_any (n d m e : Int) (w : World) :
    Calls Try.prog 54 #[.agg #[.int .i64 n, .int .i64 d], .agg #[.int .i64 m, .int .i64 e]] w fun r w' => r = .returned (.tuple #[.int .i64 (cmpV n d m e), .int .i64 (cmpE n d m e)]) ∧ Below w.heap.size w w' := by
  by_cases hf : valP n d
  · by_cases hg : valP m e
    · exact rcompare_ok n d m e hf hg w
    · unfold cmpV cmpE
      rw [if_neg (fun k => hg k.2), if_neg (fun k => hg k.2)]
      exact rcompare_no2 n d m e hf hg w
  · unfold cmpV cmpE
    rw [if_neg (fun k => hf k.1), if_neg (fun k => hf k.1)]
    exact rcompare_no1 n d m e hf trivial w
end Go.Proofs.Ytcpcmlonbpccnaa.Fr
