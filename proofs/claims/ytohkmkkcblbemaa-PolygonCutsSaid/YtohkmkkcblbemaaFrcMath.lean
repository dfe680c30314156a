/- Plain mathematics of layer 5: fractions with limited terms are rational numbers (of Lean's own library) in lowest terms. -/
namespace Go.Proofs.Ytohkmkkcblbemaa.Fr

def top : Int := 4611686018427387904
def valP (n d : Int) : Prop := -4611686018427387904 ≤ n ∧ n ≤ 4611686018427387904 ∧ 1 ≤ d ∧ d ≤ 4611686018427387904 ∧ Nat.gcd n.natAbs d.natAbs = 1
instance (n d : Int) : Decidable (valP n d) := by unfold valP; infer_instance
/-- is the fraction valid? -/
def valB (n d : Int) : Bool := decide (valP n d)
theorem valB_iff {n d : Int} : valB n d = true ↔ valP n d := by unfold valB; exact decide_eq_true_iff
theorem valB_false {n d : Int} (h : ¬ valP n d) : valB n d = false := by unfold valB; exact decide_eq_false h
/-- its value -/
def rat (n d : Int) : Rat := mkRat n d.toNat

theorem mk_of (N : Int) (D : Nat) (h0 : D ≠ 0) (h : Nat.gcd N.natAbs D = 1) : (mkRat N D).num = N ∧ (mkRat N D).den = D := by
  have e := Rat.mk_eq_mkRat N D h0 h
  rw [← e]
  exact ⟨rfl, rfl⟩
theorem rat_of {n d : Int} (h1 : 1 ≤ d) (h : Nat.gcd n.natAbs d.natAbs = 1) : (rat n d).num = n ∧ ((rat n d).den : Int) = d := by
  have e : d.toNat = d.natAbs := by omega
  unfold rat
  rw [e]
  obtain ⟨a, b⟩ := mk_of n d.natAbs (by omega) h
  refine ⟨a, ?_⟩
  rw [b]
  omega
theorem rat_num {n d : Int} (h : valP n d) : (rat n d).num = n := (rat_of h.2.2.1 h.2.2.2.2).1
theorem rat_den {n d : Int} (h : valP n d) : ((rat n d).den : Int) = d := (rat_of h.2.2.1 h.2.2.2.2).2
theorem rat_inj {n d m e : Int} (h : valP n d) (k : valP m e) (hq : rat n d = rat m e) : n = m ∧ d = e :=
  ⟨by rw [← rat_num h, ← rat_num k, hq], by rw [← rat_den h, ← rat_den k, hq]⟩

/-! What is returned for a number -/
def fitP (q : Rat) : Prop := -4611686018427387904 ≤ q.num ∧ q.num ≤ 4611686018427387904 ∧ (q.den : Int) ≤ 4611686018427387904
instance (q : Rat) : Decidable (fitP q) := by unfold fitP; infer_instance
def rN (q : Rat) : Int := if fitP q then q.num else 0
def rD (q : Rat) : Int := if fitP q then (q.den : Int) else 0
def rE (q : Rat) : Int := if fitP q then 0 else 9
theorem r_fit {q : Rat} (h : fitP q) : rN q = q.num ∧ rD q = q.den ∧ rE q = 0 := by
  unfold rN rD rE
  rw [if_pos h, if_pos h, if_pos h]
  exact ⟨rfl, rfl, rfl⟩
theorem r_far {q : Rat} (h : ¬ fitP q) : rN q = 0 ∧ rD q = 0 ∧ rE q = 9 := by
  unfold rN rD rE
  rw [if_neg h, if_neg h, if_neg h]
  exact ⟨rfl, rfl, rfl⟩
theorem rE_zero {q : Rat} : rE q = 0 ↔ fitP q := by
  by_cases h : fitP q
  · exact ⟨fun _ => h, fun _ => (r_fit h).2.2⟩
  · rw [(r_far h).2.2]
    exact ⟨fun k => by omega, fun k => absurd k h⟩
theorem val_of_fit {q : Rat} (h : fitP q) : valP q.num q.den :=
  ⟨h.1, h.2.1, by have := q.den_pos; omega, h.2.2, by have := q.reduced; simpa [Nat.Coprime] using this⟩
theorem rat_self (q : Rat) : rat q.num q.den = q := by
  unfold rat
  rw [Int.toNat_natCast, Rat.mkRat_self]
theorem fit_of_val {n d : Int} (h : valP n d) : fitP (rat n d) := by
  unfold fitP
  rw [rat_num h, rat_den h]
  exact ⟨h.1, h.2.1, h.2.2.2.1⟩

/-! The functions -/
def addQ (n d m e : Int) : Rat := rat n d + rat m e
def mulQ (n d m e : Int) : Rat := rat n d * rat m e
def ofQ (n d : Int) : Rat := Rat.divInt n d
def addN (n d m e : Int) : Int := if valP n d ∧ valP m e then rN (addQ n d m e) else 0
def addD (n d m e : Int) : Int := if valP n d ∧ valP m e then rD (addQ n d m e) else 0
def addE (n d m e : Int) : Int := if valP n d ∧ valP m e then rE (addQ n d m e) else 1
def mulN (n d m e : Int) : Int := if valP n d ∧ valP m e then rN (mulQ n d m e) else 0
def mulD (n d m e : Int) : Int := if valP n d ∧ valP m e then rD (mulQ n d m e) else 0
def mulE (n d m e : Int) : Int := if valP n d ∧ valP m e then rE (mulQ n d m e) else 1
def ofN (n d : Int) : Int := if d = 0 then 0 else rN (ofQ n d)
def ofD (n d : Int) : Int := if d = 0 then 0 else rD (ofQ n d)
def ofE (n d : Int) : Int := if d = 0 then 14 else rE (ofQ n d)
def cmpV (n d m e : Int) : Int := if valP n d ∧ valP m e then (if n * e = m * d then 0 else if n * e < m * d then -1 else 1) else 0
def cmpE (n d m e : Int) : Int := if valP n d ∧ valP m e then 0 else 1
def flV (n d : Int) : Int := if valP n d then n / d else 0
def flE (n d : Int) : Int := if valP n d then 0 else 1

/-! Their forms: as the program computes them -/
theorem add_form (a b : Rat) :
    (a + b).num = (a.num * ((b.den / Nat.gcd a.den b.den : Nat) : Int) + b.num * ((a.den / Nat.gcd a.den b.den : Nat) : Int)) / ((Nat.gcd (a.num * ((b.den / Nat.gcd a.den b.den : Nat) : Int) + b.num * ((a.den / Nat.gcd a.den b.den : Nat) : Int)).natAbs (Nat.gcd a.den b.den) : Nat) : Int) ∧
    (a + b).den = (a.den / Nat.gcd a.den b.den) * (b.den / Nat.gcd (a.num * ((b.den / Nat.gcd a.den b.den : Nat) : Int) + b.num * ((a.den / Nat.gcd a.den b.den : Nat) : Int)).natAbs (Nat.gcd a.den b.den)) := by
  have hgp : 0 < Nat.gcd a.den b.den := Nat.gcd_pos_of_pos_left _ a.den_pos
  have haux := Rat.add.aux a b (g := Nat.gcd a.den b.den) rfl rfl rfl
  dsimp only at haux
  have hda : a.den / Nat.gcd a.den b.den * Nat.gcd a.den b.den = a.den := Nat.div_mul_cancel (Nat.gcd_dvd_left ..)
  have hdb : b.den / Nat.gcd a.den b.den * Nat.gcd a.den b.den = b.den := Nat.div_mul_cancel (Nat.gcd_dvd_right ..)
  have hgb : Nat.gcd a.den b.den ∣ b.den := Nat.gcd_dvd_right ..
  have heq : a + b = mkRat (a.num * ((b.den / Nat.gcd a.den b.den : Nat) : Int) + b.num * ((a.den / Nat.gcd a.den b.den : Nat) : Int)) (a.den / Nat.gcd a.den b.den * b.den) := by
    rw [Rat.add_def', ← Rat.mkRat_mul_right (n := a.num * ((b.den / Nat.gcd a.den b.den : Nat) : Int) + b.num * ((a.den / Nat.gcd a.den b.den : Nat) : Int)) (d := a.den / Nat.gcd a.den b.den * b.den) (Nat.ne_of_gt hgp)]
    congr 1
    · rw [Int.add_mul, Int.mul_assoc, Int.mul_assoc, ← Int.natCast_mul, ← Int.natCast_mul, hda, hdb]
    · rw [Nat.mul_right_comm, hda]
  generalize a.num * ((b.den / Nat.gcd a.den b.den : Nat) : Int) + b.num * ((a.den / Nat.gcd a.den b.den : Nat) : Int) = s at *
  have hne : a.den / Nat.gcd a.den b.den * b.den ≠ 0 := by
    intro h
    rcases Nat.mul_eq_zero.1 h with h | h
    · rw [h, Nat.zero_mul] at hda
      exact a.den_nz hda.symm
    · exact b.den_nz h
  have hg1 : Nat.gcd (a.den / Nat.gcd a.den b.den * b.den) s.natAbs = Nat.gcd s.natAbs (Nat.gcd a.den b.den) := by rw [Nat.gcd_comm, ← haux]
  constructor
  · rw [heq, Rat.num_mkRat, if_neg hne, hg1]
  · rw [heq, Rat.den_mkRat, if_neg hne, hg1]
    exact Nat.mul_div_assoc _ (Nat.dvd_trans (Nat.gcd_dvd_right ..) hgb)

theorem mul_form (a b : Rat) :
    (a * b).num = (a.num / ((Nat.gcd a.num.natAbs b.den : Nat) : Int)) * (b.num / ((Nat.gcd b.num.natAbs a.den : Nat) : Int)) ∧
    (a * b).den = (a.den / Nat.gcd b.num.natAbs a.den) * (b.den / Nat.gcd a.num.natAbs b.den) := by
  have e : a * b = Rat.mul a b := rfl
  rw [e]
  delta Rat.mul
  dsimp only
  simp only [Int.divExact_eq_tdiv, Nat.divExact_eq_div]
  refine ⟨?_, trivial⟩
  rw [Int.tdiv_eq_ediv_of_dvd (Int.ofNat_dvd_left.2 (Nat.gcd_dvd_left ..)), Int.tdiv_eq_ediv_of_dvd (Int.ofNat_dvd_left.2 (Nat.gcd_dvd_left ..))]

end Go.Proofs.Ytohkmkkcblbemaa.Fr
