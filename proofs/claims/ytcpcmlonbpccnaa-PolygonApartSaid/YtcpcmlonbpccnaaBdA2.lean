/- Plain mathematics of layer 5: fractions with limited terms are rational numbers (of Lean's own library) in lowest terms. -/
namespace Go.Proofs.Ytcpcmlonbpccnaa.Fr

def top : Int := 4611686018427387904
def valP (n d : Int) : Prop := -4611686018427387904 ≤ n ∧ n ≤ 4611686018427387904 ∧ 1 ≤ d ∧ d ≤ 4611686018427387904 ∧ Nat.gcd n.natAbs d.natAbs = 1
instance (n d : Int) : Decidable (valP n d) := by unfold valP; infer_instance
/-- is the fraction valid? -/
def valB (n d : Int) : Bool := decide (valP n d)
theorem valB_iff {n d : Int} : valB n d = true ↔ valP n d := by unfold valB; exact decide_eq_true_iff
theorem valB_false {n d : Int} (h : ¬ valP n d) : valB n d = false := by unfold valB; exact decide_eq_false h
/-- its value -/
def rat (n d : Int) : Rat := mkRat n d.toNat

theorem mk_of (N : Int) (D : Nat) (h0 : D ≠ 0) (h : Nat.gcd N.natAbs D = 1) : (mkRat N D).num = N ∧ (mkRat N D).den = D := by
  have e := Rat.mk_eq_mkRat N D h0 h
  rw [← e]
  exact ⟨rfl, rfl⟩
theorem rat_of {n d : Int} (h1 : 1 ≤ d) (h : Nat.gcd n.natAbs d.natAbs = 1) : (rat n d).num = n ∧ ((rat n d).den : Int) = d := by
  have e : d.toNat = d.natAbs := by omega
  unfold rat
  rw [e]
  obtain ⟨a, b⟩ := mk_of n d.natAbs (by omega) h
  refine ⟨a, ?_⟩
  rw [b]
  omega
theorem rat_num {n d : Int} (h : valP n d) : (rat n d).num = n := (rat_of h.2.2.1 h.2.2.2.2).1
theorem rat_den {n d : Int} (h : valP n d) : ((rat n d).den : Int) = d := (rat_of h.2.2.1 h.2.2.2.2).2
theorem rat_inj {n d m e : Int} (h : valP n d) (k : valP m e) (hq : rat n d = rat m e) : n = m ∧ d = e :=
  ⟨by rw [← rat_num h, ← rat_num k, hq], by rw [← rat_den h, ← rat_den k, hq]⟩

/-! What is returned for a number -/
def fitP (q : Rat) : Prop := -4611686018427387904 ≤ q.num ∧ q.num ≤ 4611686018427387904 ∧ (q.den : Int) ≤ 4611686018427387904
instance (q : Rat) : Decidable (fitP q) := by unfold fitP; infer_instance
def rN (q : Rat) : Int := if fitP q then q.num else 0
def rD (q : Rat) : Int := if fitP q then (q.den : Int) else 0
def rE (q : Rat) : Int := if fitP q then 0 else 9
theorem r_fit {q : Rat} (h : fitP q) : rN q = q.num ∧ rD q = q.den ∧ rE q = 0 := by
  unfold rN rD rE
  rw [if_pos h, if_pos h, if_pos h]
  exact ⟨rfl, rfl, rfl⟩
theorem r_far {q : Rat} (h : ¬ fitP q) : rN q = 0 ∧ rD q = 0 ∧ rE q = 9 := by
  unfold rN rD rE
  rw [if_neg h, if_neg h, if_neg h]
  exact ⟨rfl, rfl, rfl⟩
theorem rE_zero {q : Rat} : rE q = 0 ↔ fitP q := by
  by_cases h : fitP q
  · exact ⟨fun _ => h, fun _ => (r_fit h).2.2⟩
  · rw [(r_far h).2.2]
    exact ⟨fun k => by omega, fun k => absurd k h⟩
theorem val_of_fit {q : Rat} (h : fitP q) : valP q.num q.den :=
  ⟨h.1, h.2.1, by have := q.den_pos; omega, h.2.2, by have := q.reduced; simpa [Nat.Coprime] using this⟩
theorem rat_self (q : Rat) : rat q.num q.den = q := by
  unfold rat
  rw [Int.toNat_natCast, Rat.mkRat_self]
theorem fit_of_val {n d : Int} (h : valP n d) : fitP (rat n d) := by
  unfold fitP
  rw [rat_num h, rat_den h]
  exact ⟨h.1, h.2.1, h.2.2.2.1⟩

/-! The functions -/
def addQ (n d m e : Int) : Rat := rat n d + rat m e
def mulQ (n d m e : Int) : Rat := rat n d * rat m e
def ofQ (n d : Int) : Rat := Rat.divInt n d
def addN (n d m e : Int) : Int := if valP n d ∧ valP m e then rN (addQ n d m e) else 0
def addD (n d m e : Int) : Int := if valP n d ∧ valP m e then rD (addQ n d m e) else 0
def addE (n d m e : Int) : Int := if valP n d ∧ valP m e then rE (addQ n d m e) else 1
def mulN (n d m e : Int) : Int := if valP n d ∧ valP m e then rN (mulQ n d m e) else 0
def mulD (n d m e : Int) : Int := if valP n d ∧ valP m e then rD (mulQ n d m e) else 0
def mulE (n d m e : Int) : Int := if valP n d ∧ valP m e then rE (mulQ n d m e) else 1
def ofN (n d : Int) : Int := if d = 0 then 0 else rN (ofQ n d)
def ofD (n d : Int) : Int := if d = 0 then 0 else rD (ofQ n d)
def ofE (n d : Int) : Int := if d = 0 then 14 else rE (ofQ n d)
def cmpV (n d m e : Int) : Int := if valP n d ∧ valP m e then (if n * e = m * d then 0 else if n * e < m * d then -1 else 1) else 0
def cmpE (n d m e : Int) : Int := if valP n d ∧ valP m e then 0 else 1
def flV (n d : Int) : Int := if valP n d then n / d else 0
def flE (n d : Int) : Int := if valP n d then 0 else 1

/-! Their forms: as the program computes them -/
theorem add_form (a b : Rat) :
    (a + b).num = (a.num * ((b.den / Nat.gcd a.den b.den : Nat) : Int) + b.num * ((a.den / Nat.gcd a.den b.den : Nat) : Int)) / ((Nat.gcd (a.num * ((b.den / Nat.gcd a.den b.den : Nat) : Int) + b.num * ((a.den / Nat.gcd a.den b.den : Nat) : Int)).natAbs (Nat.gcd a.den b.den) : Nat) : Int) ∧
    (a + b).den = (a.den / Nat.gcd a.den b.den) * (b.den / Nat.gcd (a.num * ((b.den / Nat.gcd a.den b.den : Nat) : Int) + b.num * ((a.den / Nat.gcd a.den b.den : Nat) : Int)).natAbs (Nat.gcd a.den b.den)) := by
  have hgp : 0 < Nat.gcd a.den b.den := Nat.gcd_pos_of_pos_left _ a.den_pos
  have haux := Rat.add.aux a b (g := Nat.gcd a.den b.den) rfl rfl rfl
  dsimp only at haux
  have hda : a.den / Nat.gcd a.den b.den * Nat.gcd a.den b.den = a.den := Nat.div_mul_cancel (Nat.gcd_dvd_left ..)
  have hdb : b.den / Nat.gcd a.den b.den * Nat.gcd a.den b.den = b.den := Nat.div_mul_cancel (Nat.gcd_dvd_right ..)
  have hgb : Nat.gcd a.den b.den ∣ b.den := Nat.gcd_dvd_right ..
  have heq : a + b = mkRat (a.num * ((b.den / Nat.gcd a.den b.den : Nat) : Int) + b.num * ((a.den / Nat.gcd a.den b.den : Nat) : Int)) (a.den / Nat.gcd a.den b.den * b.den) := by
    rw [Rat.add_def', ← Rat.mkRat_mul_right (n := a.num * ((b.den / Nat.gcd a.den b.den : Nat) : Int) + b.num * ((a.den / Nat.gcd a.den b.den : Nat) : Int)) (d := a.den / Nat.gcd a.den b.den * b.den) (Nat.ne_of_gt hgp)]
    congr 1
    · rw [Int.add_mul, Int.mul_assoc, Int.mul_assoc, ← Int.natCast_mul, ← Int.natCast_mul, hda, hdb]
    · rw [Nat.mul_right_comm, hda]
  generalize a.num * ((b.den / Nat.gcd a.den b.den : Nat) : Int) + b.num * ((a.den / Nat.gcd a.den b.den : Nat) : Int) = s at *
  have hne : a.den / Nat.gcd a.den b.den * b.den ≠ 0 := by
    intro h
    rcases Nat.mul_eq_zero.1 h with h | h
    · rw [h, Nat.zero_mul] at hda
      exact a.den_nz hda.symm
    · exact b.den_nz h
  have hg1 : Nat.gcd (a.den / Nat.gcd a.den b.den * b.den) s.natAbs = Nat.gcd s.natAbs (Nat.gcd a.den b.den) := by rw [Nat.gcd_comm, ← haux]
  constructor
  · rw [heq, Rat.num_mkRat, if_neg hne, hg1]
  · rw [heq, Rat.den_mkRat, if_neg hne, hg1]
    exact Nat.mul_div_assoc _ (Nat.dvd_trans (Nat.gcd_dvd_right ..) hgb)

theorem mul_form (a b : Rat) :
    (a * b).num = (a.num / ((Nat.gcd a.num.natAbs b.den : Nat) : Int)) * (b.num / ((Nat.gcd b.num.natAbs a.den : Nat) : Int)) ∧
    (a * b).den = (a.den / Nat.gcd b.num.natAbs a.den) * (b.den / Nat.gcd a.num.natAbs b.den) := by
  have e : a * b = Rat.mul a b := rfl
  rw [e]
  delta Rat.mul
  dsimp only
  simp only [Int.divExact_eq_tdiv, Nat.divExact_eq_div]
  refine ⟨?_, trivial⟩
  rw [Int.tdiv_eq_ediv_of_dvd (Int.ofNat_dvd_left.2 (Nat.gcd_dvd_left ..)), Int.tdiv_eq_ediv_of_dvd (Int.ofNat_dvd_left.2 (Nat.gcd_dvd_left ..))]

end Go.Proofs.Ytcpcmlonbpccnaa.Fr

/- Plain mathematics of layer 5: what the program computes is the number in lowest terms. -/
namespace Go.Proofs.Ytcpcmlonbpccnaa.Fr

theorem den_nat {n d : Int} (h : valP n d) : (rat n d).den = d.natAbs := by
  have := rat_den h
  omega
theorem mul_int {n d m e : Int} (h : valP n d) (k : valP m e) :
    (mulQ n d m e).num = n / ((Nat.gcd n.natAbs e.natAbs : Nat) : Int) * (m / ((Nat.gcd m.natAbs d.natAbs : Nat) : Int)) ∧
    ((mulQ n d m e).den : Int) = e / ((Nat.gcd n.natAbs e.natAbs : Nat) : Int) * (d / ((Nat.gcd m.natAbs d.natAbs : Nat) : Int)) := by
  obtain ⟨a, b⟩ := mul_form (rat n d) (rat m e)
  rw [rat_num h, rat_num k, den_nat h, den_nat k] at a b
  refine ⟨a, ?_⟩
  unfold mulQ
  rw [b]
  have e1 : (d.natAbs : Int) = d := by have := h.2.2.1; omega
  have e2 : (e.natAbs : Int) = e := by have := k.2.2.1; omega
  rw [Int.natCast_mul, Int.natCast_ediv, Int.natCast_ediv, e1, e2, Int.mul_comm]

/-- the upper term of a sum, before it is divided -/
def sumS (n d m e : Int) : Int := n * (e / ((Nat.gcd d.natAbs e.natAbs : Nat) : Int)) + m * (d / ((Nat.gcd d.natAbs e.natAbs : Nat) : Int))
theorem gcd_rest (S : Int) (c : Nat) (_hc : 0 < c) : Nat.gcd (S % (c : Int)).natAbs c = Nat.gcd S.natAbs c := by
  have h := Int.gcd_add_mul_left_left (c : Int) (S % (c : Int)) (S / (c : Int))
  rw [Int.emod_add_mul_ediv] at h
  have e1 : Int.gcd S (c : Int) = Nat.gcd S.natAbs c := rfl
  have e2 : Int.gcd (S % (c : Int)) (c : Int) = Nat.gcd (S % (c : Int)).natAbs c := rfl
  rw [← e1, ← e2, h]
theorem add_int {n d m e : Int} (h : valP n d) (k : valP m e) :
    (addQ n d m e).num = sumS n d m e / ((Nat.gcd (sumS n d m e).natAbs (Nat.gcd d.natAbs e.natAbs) : Nat) : Int) ∧
    ((addQ n d m e).den : Int) = d / ((Nat.gcd d.natAbs e.natAbs : Nat) : Int) * (e / ((Nat.gcd (sumS n d m e).natAbs (Nat.gcd d.natAbs e.natAbs) : Nat) : Int)) := by
  obtain ⟨a, b⟩ := add_form (rat n d) (rat m e)
  rw [rat_num h, rat_num k, den_nat h, den_nat k] at a b
  have e1 : (d.natAbs : Int) = d := by have := h.2.2.1; omega
  have e2 : (e.natAbs : Int) = e := by have := k.2.2.1; omega
  have eS : n * ((e.natAbs / Nat.gcd d.natAbs e.natAbs : Nat) : Int) + m * ((d.natAbs / Nat.gcd d.natAbs e.natAbs : Nat) : Int) = sumS n d m e := by
    unfold sumS
    rw [Int.natCast_ediv, Int.natCast_ediv, e1, e2]
  rw [eS] at a b
  refine ⟨a, ?_⟩
  unfold addQ
  rw [b, Int.natCast_mul, Int.natCast_ediv, Int.natCast_ediv, e1, e2]

theorem of_int (a b x y s : Int) (g : Nat) (hb : b ≠ 0) (hg : Nat.gcd a.natAbs b.natAbs = g) (σ : Int) (hσ : σ = 1 ∨ σ = -1) (hx : x = σ * (a / (g : Int))) (hy : y = σ * (b / (g : Int)))
    (hs : s = if y < 0 then -1 else 1) : (ofQ a b).num = x * s ∧ ((ofQ a b).den : Int) = y * s := by
  have hgp : 0 < g := by rw [← hg]; exact Nat.gcd_pos_of_pos_right _ (by omega)
  have hga : (g : Int) ∣ a := by rw [← hg]; exact Int.ofNat_dvd_left.2 (Nat.gcd_dvd_left ..)
  have hgb : (g : Int) ∣ b := by rw [← hg]; exact Int.ofNat_dvd_left.2 (Nat.gcd_dvd_right ..)
  obtain ⟨A, rfl⟩ := hga
  obtain ⟨B, rfl⟩ := hgb
  have hg0 : (g : Int) ≠ 0 := by omega
  rw [Int.mul_ediv_cancel_left _ hg0] at hx hy
  have hgc : Int.gcd ((g : Int) * B) ((g : Int) * A) = g := by rw [Int.gcd_comm]; exact hg
  have hB0 : B ≠ 0 := by rintro rfl; simp at hb
  unfold ofQ
  rw [Rat.num_divInt, Rat.den_divInt, if_neg hb, hgc]
  have hsg : ((g : Int) * B).sign = B.sign := by
    rw [Int.sign_mul, Int.sign_eq_one_of_pos (by omega), Int.one_mul]
  have e1 : B.sign * ((g : Int) * A) / (g : Int) = B.sign * A := by
    rw [Int.mul_left_comm, Int.mul_ediv_cancel_left _ hg0]
  have e2 : ((((g : Int) * B).natAbs / g : Nat) : Int) = (B.natAbs : Int) := by
    rw [Int.natAbs_mul, Int.natAbs_natCast, Nat.mul_div_cancel_left _ hgp]
  rw [hsg, e1, e2]
  rcases Int.lt_or_gt_of_ne hB0 with hB | hB
  · rw [Int.sign_eq_neg_one_of_neg hB]
    rcases hσ with rfl | rfl
    · rw [if_pos (by omega)] at hs
      subst hx hy hs
      constructor <;> omega
    · rw [if_neg (by omega)] at hs
      subst hx hy hs
      constructor <;> omega
  · rw [Int.sign_eq_one_of_pos hB]
    rcases hσ with rfl | rfl
    · rw [if_neg (by omega)] at hs
      subst hx hy hs
      constructor <;> omega
    · rw [if_pos (by omega)] at hs
      subst hx hy hs
      constructor <;> omega
end Go.Proofs.Ytcpcmlonbpccnaa.Fr

/- Plain mathematics of layer 5's reference: binary digits, the least one first. -/
namespace Go.Proofs.Ytcpcmlonbpccnaa.Fr

/-- the binary digits of a number, the least one first -/
def bin (n : Nat) : List Nat := if h : n = 0 then [] else n % 2 :: bin (n / 2)
termination_by n
decreasing_by omega
theorem bin_zero : bin 0 = [] := by rw [bin]; simp
theorem bin_step {n : Nat} (h : n ≠ 0) : bin n = n % 2 :: bin (n / 2) := by rw [bin, dif_neg h]

/-- the value of digits -/
def bv : List Nat → Nat
  | [] => 0
  | b :: l => b + 2 * bv l
/-- are all digits 0 or 1? -/
def Bits (l : List Nat) : Prop := ∀ x ∈ l, x ≤ 1
theorem Bits.nil : Bits [] := fun _ h => by cases h
theorem Bits.cons {x : Nat} {l : List Nat} (hx : x ≤ 1) (h : Bits l) : Bits (x :: l) := fun y hy => by
  rcases List.mem_cons.1 hy with rfl | hy
  · exact hx
  · exact h y hy
theorem Bits.append {a b : List Nat} (h : Bits a) (k : Bits b) : Bits (a ++ b) := fun y hy => by
  rcases List.mem_append.1 hy with hy | hy
  · exact h y hy
  · exact k y hy
theorem Bits.take {l : List Nat} (h : Bits l) (n : Nat) : Bits (l.take n) := fun y hy => h y (List.mem_of_mem_take hy)
theorem Bits.drop {l : List Nat} (h : Bits l) (n : Nat) : Bits (l.drop n) := fun y hy => h y (List.mem_of_mem_drop hy)
theorem Bits.tail {x : Nat} {l : List Nat} (h : Bits (x :: l)) : x ≤ 1 ∧ Bits l := ⟨h x (List.mem_cons_self ..), fun y hy => h y (List.mem_cons_of_mem _ hy)⟩
theorem Bits.get {l : List Nat} (h : Bits l) (i : Nat) (hi : i < l.length) : l[i] ≤ 1 := h _ (List.getElem_mem hi)
theorem Bits.set {l : List Nat} (h : Bits l) (i x : Nat) (hx : x ≤ 1) : Bits (l.set i x) := fun y hy => by
  rcases List.mem_or_eq_of_mem_set hy with hy | rfl
  · exact h y hy
  · exact hx

theorem bin_bits (n : Nat) : Bits (bin n) := by
  induction n using Nat.strongRecOn with
  | _ n ih =>
    by_cases h : n = 0
    · subst h; rw [bin_zero]; exact Bits.nil
    · rw [bin_step h]
      exact Bits.cons (by omega) (ih _ (by omega))
theorem bv_bin (n : Nat) : bv (bin n) = n := by
  induction n using Nat.strongRecOn with
  | _ n ih =>
    by_cases h : n = 0
    · subst h; rw [bin_zero]; rfl
    · rw [bin_step h]
      show n % 2 + 2 * bv (bin (n / 2)) = n
      rw [ih _ (by omega)]
      omega
theorem bin_inj {a b : Nat} (h : bin a = bin b) : a = b := by rw [← bv_bin a, ← bv_bin b, h]
theorem bv_lt : ∀ (l : List Nat), Bits l → bv l < 2 ^ l.length
  | [], _ => by simp [bv]
  | x :: l, h => by
    have := bv_lt l h.tail.2
    have := h.tail.1
    rw [List.length_cons, Nat.pow_succ]
    show x + 2 * bv l < _
    omega
theorem bv_append : ∀ (a b : List Nat), bv (a ++ b) = bv a + 2 ^ a.length * bv b
  | [], b => by simp [bv]
  | x :: a, b => by
    show x + 2 * bv (a ++ b) = x + 2 * bv a + 2 ^ (a.length + 1) * bv b
    rw [bv_append a b, Nat.pow_succ, Nat.mul_add, Nat.mul_comm (2 ^ a.length) 2, Nat.mul_assoc, Nat.add_assoc]
theorem bv_snoc (a : List Nat) (x : Nat) : bv (a ++ [x]) = bv a + 2 ^ a.length * x := by
  rw [bv_append]
  simp [bv]
theorem bv_zeros (k : Nat) : bv (List.replicate k 0) = 0 := by
  induction k with
  | zero => rfl
  | succ k ih =>
    show 0 + 2 * bv (List.replicate k 0) = 0
    rw [ih]
/-- digits without a zero at the end are those of their value -/
theorem canon : ∀ (l : List Nat), Bits l → (l = [] ∨ 2 ^ (l.length - 1) ≤ bv l) → l = bin (bv l)
  | [], _, _ => by rw [show bv [] = 0 from rfl, bin_zero]
  | x :: l, hb, hn => by
    have hx := hb.tail.1
    have hl := hb.tail.2
    have hv : bv (x :: l) = x + 2 * bv l := rfl
    have hn' : 2 ^ l.length ≤ x + 2 * bv l := by
      rcases hn with h | h
      · cases h
      · simpa [hv] using h
    have hne : bv (x :: l) ≠ 0 := by
      have := Nat.two_pow_pos l.length
      omega
    rw [bin_step hne, hv, show (x + 2 * bv l) % 2 = x by omega, show (x + 2 * bv l) / 2 = bv l by omega]
    congr 1
    refine canon l hl ?_
    cases l with
    | nil => exact .inl rfl
    | cons y l' =>
      right
      rw [List.length_cons, Nat.pow_succ] at hn'
      rw [List.length_cons, Nat.add_sub_cancel]
      omega
theorem bin_length_pos {n : Nat} (h : n ≠ 0) : 0 < (bin n).length := by rw [bin_step h]; simp
theorem bin_lt (n : Nat) : n < 2 ^ (bin n).length := by
  have := bv_lt _ (bin_bits n)
  rwa [bv_bin] at this
theorem bin_ge (n : Nat) : n ≠ 0 → 2 ^ ((bin n).length - 1) ≤ n := by
  induction n using Nat.strongRecOn with
  | _ n ih =>
    intro h
    rw [bin_step h, List.length_cons, Nat.add_sub_cancel]
    by_cases h2 : n / 2 = 0
    · rw [h2, bin_zero]
      simp
      omega
    · have := ih (n / 2) (by omega) h2
      have hp := bin_length_pos h2
      have e : 2 ^ (bin (n / 2)).length = 2 ^ ((bin (n / 2)).length - 1) * 2 := by
        rw [← Nat.pow_succ]
        congr 1
        omega
      omega
theorem bin_length_le {n k : Nat} (h : n < 2 ^ k) : (bin n).length ≤ k := by
  by_cases h0 : n = 0
  · subst h0; rw [bin_zero]; exact Nat.zero_le _
  · refine Nat.le_of_not_lt fun hk => ?_
    have h1 := bin_ge n h0
    have h2 : 2 ^ k ≤ 2 ^ ((bin n).length - 1) := Nat.pow_le_pow_right (by decide) (by omega)
    omega
theorem bin_nil {n : Nat} : bin n = [] ↔ n = 0 := by
  constructor
  · intro h
    rw [← bv_bin n, h]
    rfl
  · rintro rfl
    exact bin_zero

/-! ### what is below a place -/
/-- the i first digits of a number -/
theorem bv_take : ∀ (n i : Nat), bv ((bin n).take i) = n % 2 ^ i
  | n, 0 => by simp [bv, Nat.mod_one]
  | n, i + 1 => by
    by_cases h : n = 0
    · subst h; rw [bin_zero]; simp [bv]
    · rw [bin_step h, List.take_succ_cons]
      show n % 2 + 2 * bv ((bin (n / 2)).take i) = _
      rw [bv_take (n / 2) i, Nat.pow_succ, Nat.mul_comm (2 ^ i) 2, Nat.mod_mul]
/-- digit i -/
theorem bin_get (n i : Nat) (h : i < (bin n).length) : (bin n)[i] = n / 2 ^ i % 2 := by
  induction i generalizing n with
  | zero =>
    by_cases h0 : n = 0
    · subst h0; rw [bin_zero] at h; simp at h
    · have := bin_step h0
      simp [this]
  | succ i ih =>
    by_cases h0 : n = 0
    · subst h0; rw [bin_zero] at h; simp at h
    · have hs := bin_step h0
      have h' : i < (bin (n / 2)).length := by
        rw [hs] at h
        simpa using h
      simp only [hs, List.getElem_cons_succ]
      rw [ih (n / 2) h', Nat.div_div_eq_div_mul, Nat.pow_succ, Nat.mul_comm 2]
theorem bin_drop (n i : Nat) : (bin n).drop i = bin (n / 2 ^ i) := by
  induction i generalizing n with
  | zero => simp
  | succ i ih =>
    by_cases h0 : n = 0
    · subst h0; rw [bin_zero]; simp [bin_zero]
    · rw [bin_step h0, List.drop_succ_cons, ih, Nat.div_div_eq_div_mul, Nat.pow_succ, Nat.mul_comm 2]

/-! ### trim -/
theorem take_bin (l : List Nat) (n : Nat) (hb : Bits l) (hn : n ≤ l.length) (hz : ∀ i (h : i < l.length), n ≤ i → l[i] = 0) (hl : n = 0 ∨ ∃ h : n - 1 < l.length, l[n - 1] ≠ 0) : l.take n = bin (bv l) := by
  have hd : bv (l.drop n) = 0 := by
    have : l.drop n = List.replicate (l.length - n) 0 := by
      apply List.ext_getElem
      · simp
      · intro i h1 h2
        simp at h1
        simp [hz (n + i) (by omega) (by omega)]
    rw [this, bv_zeros]
  have he : bv l = bv (l.take n) := by
    conv => lhs; rw [← List.take_append_drop n l]
    rw [bv_append, hd]
    simp
  rw [he]
  refine canon _ (hb.take n) ?_
  rcases hl with rfl | ⟨h, hne⟩
  · left; simp
  · right
    have hlen : (l.take n).length = n := by rw [List.length_take]; omega
    by_cases h0 : n = 0
    · subst h0
      simp [bv] at *
      exact absurd (hz 0 h) hne
    · have hs : l.take n = l.take (n - 1) ++ [l[n - 1]] := by
        have := List.take_succ_eq_append_getElem (i := n - 1) (l := l) h
        rwa [show n - 1 + 1 = n by omega] at this
      have hx := hb.get (n - 1) h
      rw [hlen, hs, bv_snoc, List.length_take]
      rw [show min (n - 1) l.length = n - 1 by omega, show l[n - 1] = 1 by omega]
      omega
end Go.Proofs.Ytcpcmlonbpccnaa.Fr
