/- Plain mathematics of the reference's Parse: numbers in decimal digits, and what stands before and behind the slash. -/
import Derived.Test.YtflnhjfmlminoaaDoorFrcText
namespace Go.Proofs.YtflnhjfmlminoaaDoor.Fr
set_option linter.unusedVariables false
set_option linter.unusedSimpArgs false

/-- what is read of digits, behind others; none if they are no digits, or too many -/
def numL : Nat → List UInt8 → Option Nat
  | acc, [] => some acc
  | acc, c :: l => if c.toNat < 48 ∨ 57 < c.toNat ∨ 461168601842738790 < acc then none else numL (10 * acc + (c.toNat - 48)) l
theorem num_bd : ∀ (l : List UInt8) (acc v : Nat), acc ≤ 4611686018427387909 → numL acc l = some v → v ≤ 4611686018427387909
  | [], acc, v, h, e => by
    simp only [numL, Option.some.injEq] at e
    omega
  | c :: l, acc, v, h, e => by
    rw [numL] at e
    split at e
    · cases e
    · next hc => exact num_bd l _ v (by omega) e
theorem num_dec (u : Nat) : u ≤ 4611686018427387904 → ∀ r, numL 0 (Lib.decDigits u ++ r) = numL u r := by
  induction u using Nat.strongRecOn with
  | _ u ih =>
    intro hu r
    rw [Lib.decDigits]
    split
    · have e : (UInt8.ofNat (48 + u)).toNat = 48 + u := by rw [UInt8.toNat_ofNat']; omega
      rw [List.singleton_append, numL, e, if_neg (by omega)]
      congr 1
      omega
    · have e : (UInt8.ofNat (48 + u % 10)).toNat = 48 + u % 10 := by rw [UInt8.toNat_ofNat']; omega
      rw [List.append_assoc, ih (u / 10) (by omega) (by omega), List.singleton_append, numL, e, if_neg (by omega)]
      congr 1
      omega
def nuV (l : List UInt8) : Int := match numL 0 l with | some v => (v : Int) | none => 0
def nuB (l : List UInt8) : Bool := match numL 0 l with | some _ => decide (0 < l.length) | none => false
theorem nuV_bd (l : List UInt8) : 0 ≤ nuV l ∧ nuV l ≤ 4611686018427387909 := by
  unfold nuV
  cases h : numL 0 l with
  | none => simp
  | some v =>
    have := num_bd l 0 v (by decide) h
    simp only
    omega
theorem nu_dec (u : Nat) (hu : u ≤ 4611686018427387904) : nuV (Lib.decDigits u) = (u : Int) ∧ nuB (Lib.decDigits u) = true := by
  have h := num_dec u hu []
  rw [List.append_nil, numL] at h
  unfold nuV nuB
  rw [h]
  exact ⟨rfl, decide_eq_true (List.length_pos_iff.2 (dec_ne u))⟩
/-- is there a minus sign? -/
def negL (l : List UInt8) : Bool := l.head? == some 45
def magL (l : List UInt8) : List UInt8 := if negL l = true then l.tail else l
def fN (l : List UInt8) : Int := if negL (cutF l) = true then -nuV (magL (cutF l)) else nuV (magL (cutF l))
def fD (l : List UInt8) : Int := nuV (cutG l)
def fB (l : List UInt8) : Bool := nuB (magL (cutF l)) && nuB (cutG l)
theorem cut_itoa (n d : Int) (h : valP n d) : cutF (txL n d) = Lib.itoa n ∧ cutG (txL n d) = Lib.itoa d := by
  unfold cutF cutG txL
  rw [if_pos h]
  by_cases h1 : d = 1
  · rw [if_pos h1, List.append_nil, index_none _ _ (itoa_slash n), if_pos (by decide), if_pos (by decide)]
    subst h1
    refine ⟨rfl, ?_⟩
    have e : Lib.itoa 1 = [49] := (Lib.itoa_nonneg 1).trans (by rw [Lib.decDigits_one (by decide)]; rfl)
    rw [e]
  · rw [if_neg h1, index_at _ _ _ (itoa_slash n), if_neg (by omega), if_neg (by omega)]
    simp only [Int.toNat_natCast]
    rw [List.take_left, List.drop_append]
    refine ⟨rfl, ?_⟩
    rw [List.drop_eq_nil_of_le (by omega)]
    simp
theorem neg_itoa (n : Int) (h1 : -4611686018427387904 ≤ n) (h2 : n ≤ 4611686018427387904) : (if negL (Lib.itoa n) = true then -nuV (magL (Lib.itoa n)) else nuV (magL (Lib.itoa n))) = n ∧ nuB (magL (Lib.itoa n)) = true := by
  by_cases hn : n < 0
  · obtain ⟨k, hk⟩ : ∃ k : Nat, n = -(k : Int) := ⟨n.natAbs, by omega⟩
    subst hk
    have e : Lib.itoa (-(k : Int)) = 45 :: Lib.decDigits k := Lib.itoa_neg k (by omega)
    have e1 : negL (45 :: Lib.decDigits k) = true := rfl
    have e2 : magL (45 :: Lib.decDigits k) = Lib.decDigits k := by unfold magL; rw [if_pos e1]; rfl
    obtain ⟨a, b⟩ := nu_dec k (by omega)
    rw [e, e2, if_pos e1, a]
    exact ⟨rfl, b⟩
  · obtain ⟨k, rfl⟩ : ∃ k : Nat, n = (k : Int) := ⟨n.toNat, by omega⟩
    obtain ⟨a, b⟩ := nu_dec k (by omega)
    have e1 : ¬ negL (Lib.decDigits k) = true := by
      unfold negL
      cases hl : Lib.decDigits k with
      | nil => exact absurd hl (dec_ne k)
      | cons c r =>
        have := (dec_digit k c (by rw [hl]; exact List.mem_cons_self ..)).1
        simp only [List.head?_cons, beq_iff_eq, Option.some.injEq]
        rintro rfl
        exact absurd this (by decide)
    have e2 : magL (Lib.decDigits k) = Lib.decDigits k := by unfold magL; rw [if_neg e1]
    rw [Lib.itoa_nonneg, e2, if_neg e1, a]
    exact ⟨rfl, b⟩
theorem f_text {n d : Int} {l : List UInt8} (h : valP n d) (ht : txL n d = l) : fN l = n ∧ fD l = d ∧ fB l = true := by
  obtain ⟨a, b⟩ := cut_itoa n d h
  obtain ⟨c1, c2⟩ := neg_itoa n h.1 h.2.1
  have hd0 : 1 ≤ d := h.2.2.1
  obtain ⟨k, hk⟩ : ∃ k : Nat, d = (k : Int) := ⟨d.toNat, by omega⟩
  have hk2 : d ≤ 4611686018427387904 := h.2.2.2.1
  obtain ⟨g1, g2⟩ := nu_dec k (by omega)
  unfold fN fD fB
  rw [← ht, a, b, c1, c2, hk, Lib.itoa_nonneg, g1, g2]
  exact ⟨rfl, rfl, rfl⟩
theorem par_f (l : List UInt8) : parV l = if fB l = true ∧ valP (fN l) (fD l) ∧ txL (fN l) (fD l) = l then (fN l, fD l, 0) else (0, 0, 5) := by
  by_cases h : fB l = true ∧ valP (fN l) (fD l) ∧ txL (fN l) (fD l) = l
  · rw [if_pos h]
    exact par_yes h.2.1 h.2.2
  · rw [if_neg h]
    refine par_no fun n d hv ht => h ?_
    obtain ⟨a, b, c⟩ := f_text hv ht
    rw [a, b]
    exact ⟨c, hv, ht⟩
end Go.Proofs.YtflnhjfmlminoaaDoor.Fr
