/- Plain mathematics of layer 5: the texts of fractions. -/
import Derived.Test.YtcpcmlonbpccnaaBdA2
import Derived.Lib.AtoiAll
import Derived.Lib.ItoaNum
import Derived.Lib.ItoaMem
import Derived.Lib.Bytealg
import Derived.Lib.ItoaLen
namespace Go.Proofs.Ytcpcmlonbpccnaa.Fr

/-- the text of a fraction -/
def txL (n d : Int) : List UInt8 := if valP n d then Lib.itoa n ++ (if d = 1 then [] else 47 :: Lib.itoa d) else []
def txE (n d : Int) : Int := if valP n d then 0 else 1

theorem dec_digit (u : Nat) : ∀ c ∈ Lib.decDigits u, 48 ≤ c.toNat ∧ c.toNat ≤ 57 := by
  induction u using Nat.strongRecOn with
  | _ u ih =>
    intro c hc
    rw [Lib.decDigits] at hc
    split at hc
    · have hc' : c = UInt8.ofNat (48 + u) := by simpa using hc
      subst hc'
      rw [UInt8.toNat_ofNat']
      omega
    · rcases List.mem_append.1 hc with hc | hc
      · exact ih (u / 10) (by omega) c hc
      · have hc' : c = UInt8.ofNat (48 + u % 10) := by simpa using hc
        subst hc'
        rw [UInt8.toNat_ofNat']
        omega
theorem parse_dec (u : Nat) : u < 9223372036854775808 → ∀ r, Lib.parseUint10 0 (Lib.decDigits u ++ r) = Lib.parseUint10 u r := by
  induction u using Nat.strongRecOn with
  | _ u ih =>
    intro hu r
    rw [Lib.decDigits]
    split
    · have e : (UInt8.ofNat (48 + u)).toNat = 48 + u := by rw [UInt8.toNat_ofNat']; omega
      rw [List.singleton_append, Lib.parseUint10, e, if_pos (by omega), if_neg (by omega), if_neg (by omega)]
      congr 1
      omega
    · have e : (UInt8.ofNat (48 + u % 10)).toNat = 48 + u % 10 := by rw [UInt8.toNat_ofNat']; omega
      rw [List.append_assoc, ih (u / 10) (by omega) (by omega), List.singleton_append, Lib.parseUint10, e, if_pos (by omega), if_neg (by omega), if_neg (by omega)]
      congr 1
      omega
theorem dec_ne (u : Nat) : Lib.decDigits u ≠ [] := by
  intro h
  have := Lib.decDigits_length u
  have := Lib.nDigits_pos u
  rw [h] at *
  simp at *
  omega
theorem mag_dec (u : Nat) (hu : u < 9223372036854775808) : Lib.parseMag (Lib.decDigits u) = .ok u := by
  unfold Lib.parseMag
  rw [if_neg (dec_ne u)]
  have := parse_dec u hu []
  rw [List.append_nil] at this
  rw [this]
  rfl
theorem atoi_itoa (n : Int) (h1 : -4611686018427387904 ≤ n) (h2 : n ≤ 4611686018427387904) : Lib.atoiAll (Lib.itoa n) = .ok n := by
  unfold Lib.itoa
  split
  · rename_i hn
    simp only [Lib.atoiAll]
    rw [if_pos (by decide), mag_dec _ (by omega)]
    dsimp only
    rw [if_neg (by intro h; exact h.1 (by decide)), if_neg (by intro h; omega), if_pos (by decide)]
    congr 1
    omega
  · rename_i hn
    have hm := mag_dec n.toNat (by omega)
    have hd := dec_digit n.toNat
    cases hl : Lib.decDigits n.toNat with
    | nil => exact absurd hl (dec_ne _)
    | cons c r =>
      rw [hl] at hm hd
      obtain ⟨c1, c2⟩ := hd c (List.mem_cons_self ..)
      simp only [Lib.atoiAll]
      rw [if_neg (by omega), hm]
      dsimp only
      rw [if_neg (by intro h; omega), if_neg (by intro h; omega), if_neg (by omega)]
      congr 1
      omega
theorem itoa_slash (n : Int) : (47 : UInt8) ∉ Lib.itoa n := by
  intro h
  unfold Lib.itoa at h
  split at h
  · rcases List.mem_cons.1 h with h | h
    · exact absurd h (by decide)
    · have := (dec_digit _ _ h).1
      exact absurd this (by decide)
  · have := (dec_digit _ _ h).1
    exact absurd this (by decide)
theorem index_none : ∀ (a : List UInt8) (c : UInt8), c ∉ a → Lib.indexByte a c = -1
  | [], _, _ => rfl
  | b :: a, c, h => by
    have hb : (b == c) = false := by
      rw [beq_eq_false_iff_ne]
      rintro rfl
      exact h (List.mem_cons_self ..)
    have ha := index_none a c (fun k => h (List.mem_cons_of_mem _ k))
    simp only [Lib.indexByte, hb, ha]
    rfl
theorem index_at : ∀ (a : List UInt8) (c : UInt8) (b : List UInt8), c ∉ a → Lib.indexByte (a ++ c :: b) c = (a.length : Int)
  | [], c, b, _ => by simp [Lib.indexByte]
  | x :: a, c, b, h => by
    have hb : (x == c) = false := by
      rw [beq_eq_false_iff_ne]
      rintro rfl
      exact h (List.mem_cons_self ..)
    have ha := index_at a c b (fun k => h (List.mem_cons_of_mem _ k))
    have hne : (((a.length : Nat) : Int) == -1) = false := by
      rw [beq_eq_false_iff_ne]
      omega
    simp only [List.cons_append, Lib.indexByte, hb, ha, hne]
    simp

/-- what stands before the slash, and behind it -/
def cutF (l : List UInt8) : List UInt8 := if Lib.indexByte l 47 < 0 then l else l.take (Lib.indexByte l 47).toNat
def cutG (l : List UInt8) : List UInt8 := if Lib.indexByte l 47 < 0 then [49] else l.drop ((Lib.indexByte l 47).toNat + 1)

theorem cut_text (n d : Int) (h : valP n d) : Lib.atoiAll (cutF (txL n d)) = .ok n ∧ Lib.atoiAll (cutG (txL n d)) = .ok d := by
  have hn := atoi_itoa n h.1 h.2.1
  have hd := atoi_itoa d (by have := h.2.2.1; omega) h.2.2.2.1
  unfold cutF cutG txL
  rw [if_pos h]
  by_cases h1 : d = 1
  · rw [if_pos h1, List.append_nil, index_none _ _ (itoa_slash n), if_pos (by decide), if_pos (by decide)]
    subst h1
    exact ⟨hn, by decide⟩
  · rw [if_neg h1, index_at _ _ _ (itoa_slash n), if_neg (by omega), if_neg (by omega)]
    simp only [Int.toNat_natCast]
    rw [List.take_left, List.drop_append]
    refine ⟨hn, ?_⟩
    rw [List.drop_eq_nil_of_le (by omega)]
    simpa using hd
theorem text_inj {n d m e : Int} (h : valP n d) (k : valP m e) (ht : txL n d = txL m e) : n = m ∧ d = e := by
  obtain ⟨a, b⟩ := cut_text n d h
  obtain ⟨a', b'⟩ := cut_text m e k
  rw [ht, a'] at a
  rw [ht, b'] at b
  injection a with a
  injection b with b
  exact ⟨a.symm, b.symm⟩

/-- the fraction with a text -/
def ParP (s : List UInt8) (p : Int × Int) : Prop := valP p.1 p.2 ∧ txL p.1 p.2 = s
noncomputable def parV (s : List UInt8) : Int × Int × Int :=
  @dite _ (∃ p : Int × Int, ParP s p) (Classical.propDecidable _) (fun h => ((Classical.choose h).1, (Classical.choose h).2, 0)) (fun _ => (0, 0, 5))
theorem par_yes {s : List UInt8} {n d : Int} (h : valP n d) (ht : txL n d = s) : parV s = (n, d, 0) := by
  have hex : ∃ p : Int × Int, ParP s p := ⟨(n, d), h, ht⟩
  unfold parV
  rw [dif_pos hex]
  obtain ⟨a, b⟩ := Classical.choose_spec hex
  obtain ⟨e1, e2⟩ := text_inj a h (b.trans ht.symm)
  rw [e1, e2]
theorem par_no {s : List UInt8} (h : ∀ n d, valP n d → txL n d ≠ s) : parV s = (0, 0, 5) := by
  unfold parV
  rw [dif_neg]
  rintro ⟨p, a, b⟩
  exact h _ _ a b
theorem par_cases (s : List UInt8) : (∃ n d, valP n d ∧ txL n d = s ∧ parV s = (n, d, 0)) ∨ (parV s = (0, 0, 5) ∧ ∀ n d, valP n d → txL n d ≠ s) := by
  by_cases h : ∃ n d, valP n d ∧ txL n d = s
  · obtain ⟨n, d, h1, h2⟩ := h
    exact .inl ⟨n, d, h1, h2, par_yes h1 h2⟩
  · have h' : ∀ n d, valP n d → txL n d ≠ s := fun n d h1 h2 => h ⟨n, d, h1, h2⟩
    exact .inr ⟨par_no h', h'⟩
/-- by what stands before and behind the slash -/
theorem par_by {s : List UInt8} {n d : Int} (h1 : Lib.atoiAll (cutF s) = .ok n) (h2 : Lib.atoiAll (cutG s) = .ok d) (h : ¬ (valP n d ∧ txL n d = s)) : parV s = (0, 0, 5) := by
  refine par_no fun a b hv ht => h ?_
  obtain ⟨e1, e2⟩ := cut_text a b hv
  rw [ht, h1] at e1
  rw [ht, h2] at e2
  injection e1 with e1
  injection e2 with e2
  subst e1 e2
  exact ⟨hv, ht⟩
theorem par_bad {s : List UInt8} (h : (∀ n, Lib.atoiAll (cutF s) ≠ .ok n) ∨ (∀ d, Lib.atoiAll (cutG s) ≠ .ok d)) : parV s = (0, 0, 5) := by
  refine par_no fun a b hv ht => ?_
  obtain ⟨e1, e2⟩ := cut_text a b hv
  rw [ht] at e1 e2
  rcases h with h | h
  · exact h _ e1
  · exact h _ e2
end Go.Proofs.Ytcpcmlonbpccnaa.Fr

/- Plain mathematics of layer 5's laws: what the rational numbers' own laws say of the terms. -/
namespace Go.Proofs.Ytcpcmlonbpccnaa.Fr

/-- the order of two numbers -/
def cmpR (p q : Rat) : Int := if p = q then 0 else if p < q then -1 else 1
theorem cmp_rat {n d m e : Int} (h : valP n d) (k : valP m e) : cmpV n d m e = cmpR (rat n d) (rat m e) := by
  unfold cmpV cmpR
  rw [if_pos (show valP n d ∧ valP m e from ⟨h, k⟩)]
  have e1 : rat n d = rat m e ↔ n * e = m * d := by
    rw [Rat.eq_iff_mul_eq_mul, rat_num h, rat_num k, rat_den h, rat_den k]
  have e2 : rat n d < rat m e ↔ n * e < m * d := by
    rw [Rat.lt_iff, rat_num h, rat_num k, rat_den h, rat_den k]
  by_cases h1 : n * e = m * d
  · rw [if_pos h1, if_pos (e1.2 h1)]
  · rw [if_neg h1, if_neg (fun x => h1 (e1.1 x))]
    by_cases h2 : n * e < m * d
    · rw [if_pos h2, if_pos (e2.2 h2)]
    · rw [if_neg h2, if_neg (fun x => h2 (e2.1 x))]
theorem cmp_err {n d m e : Int} (h : valP n d) (k : valP m e) : cmpE n d m e = 0 := by
  unfold cmpE
  rw [if_pos ⟨h, k⟩]
theorem cmpR_eq {p q : Rat} (h : p = q) : cmpR p q = 0 := by unfold cmpR; rw [if_pos h]
theorem cmpR_lt {p q : Rat} (h : p < q) : cmpR p q = -1 := by
  unfold cmpR
  rw [if_neg (Rat.ne_of_lt h), if_pos h]
theorem cmpR_gt {p q : Rat} (h : q < p) : cmpR p q = 1 := by
  unfold cmpR
  rw [if_neg (Rat.ne_of_gt h), if_neg (Rat.not_lt.2 (Rat.le_of_lt h))]
theorem tri (p q : Rat) : p < q ∨ p = q ∨ q < p := by
  by_cases h1 : p < q
  · exact .inl h1
  · by_cases h2 : p = q
    · exact .inr (.inl h2)
    · exact .inr (.inr (Rat.lt_of_le_of_ne (Rat.not_lt.1 h1) (fun h => h2 h.symm)))
theorem lt_tr {p q r : Rat} (h : p < q) (k : q < r) : p < r := by
  refine Rat.lt_of_le_of_ne (Rat.le_trans (Rat.le_of_lt h) (Rat.le_of_lt k)) ?_
  rintro rfl
  exact absurd (Rat.le_of_lt h) (Rat.not_le.2 k)
theorem cmpR_add (p q r : Rat) : cmpR (p + r) (q + r) = cmpR p q := by
  rcases tri p q with h | h | h
  · rw [cmpR_lt h, cmpR_lt (Rat.add_lt_add_right.2 h)]
  · subst h
    rw [cmpR_eq rfl, cmpR_eq rfl]
  · rw [cmpR_gt h, cmpR_gt (Rat.add_lt_add_right.2 h)]
/-- the ways in which three numbers can be ordered -/
def Ways (a b c d : Int) : Prop :=
  (a = -1 ∧ b = 1 ∧ ((c = -1 ∧ d = -1) ∨ (c = 0 ∧ d = -1) ∨ (c = 1 ∧ (d = -1 ∨ d = 0 ∨ d = 1)))) ∨
  (a = 0 ∧ b = 0 ∧ ((c = -1 ∧ d = -1) ∨ (c = 0 ∧ d = 0) ∨ (c = 1 ∧ d = 1))) ∨
  (a = 1 ∧ b = -1 ∧ ((c = -1 ∧ (d = -1 ∨ d = 0 ∨ d = 1)) ∨ (c = 0 ∧ d = 1) ∨ (c = 1 ∧ d = 1)))
theorem ways (p q r : Rat) : Ways (cmpR p q) (cmpR q p) (cmpR q r) (cmpR p r) := by
  unfold Ways
  rcases tri p q with h | h | h
  · refine .inl ⟨cmpR_lt h, cmpR_gt h, ?_⟩
    rcases tri q r with k | k | k
    · exact .inl ⟨cmpR_lt k, cmpR_lt (lt_tr h k)⟩
    · subst k
      exact .inr (.inl ⟨cmpR_eq rfl, cmpR_lt h⟩)
    · refine .inr (.inr ⟨cmpR_gt k, ?_⟩)
      rcases tri p r with l | l | l
      · exact .inl (cmpR_lt l)
      · exact .inr (.inl (cmpR_eq l))
      · exact .inr (.inr (cmpR_gt l))
  · subst h
    refine .inr (.inl ⟨cmpR_eq rfl, cmpR_eq rfl, ?_⟩)
    rcases tri p r with k | k | k
    · exact .inl ⟨cmpR_lt k, cmpR_lt k⟩
    · exact .inr (.inl ⟨cmpR_eq k, cmpR_eq k⟩)
    · exact .inr (.inr ⟨cmpR_gt k, cmpR_gt k⟩)
  · refine .inr (.inr ⟨cmpR_gt h, cmpR_lt h, ?_⟩)
    rcases tri q r with k | k | k
    · refine .inl ⟨cmpR_lt k, ?_⟩
      rcases tri p r with l | l | l
      · exact .inl (cmpR_lt l)
      · exact .inr (.inl (cmpR_eq l))
      · exact .inr (.inr (cmpR_gt l))
    · subst k
      exact .inr (.inl ⟨cmpR_eq rfl, cmpR_gt h⟩)
    · exact .inr (.inr ⟨cmpR_gt k, cmpR_gt (lt_tr k h)⟩)

/-! Sums and products -/
theorem add_terms {n d m e : Int} (h : valP n d) (k : valP m e) :
    (fitP (addQ n d m e) ∧ addE n d m e = 0 ∧ valP (addN n d m e) (addD n d m e) ∧ rat (addN n d m e) (addD n d m e) = rat n d + rat m e) ∨
    (¬ fitP (addQ n d m e) ∧ addE n d m e = 9 ∧ addN n d m e = 0 ∧ addD n d m e = 0) := by
  unfold addN addD addE
  rw [if_pos (show valP n d ∧ valP m e from ⟨h, k⟩), if_pos (show valP n d ∧ valP m e from ⟨h, k⟩), if_pos (show valP n d ∧ valP m e from ⟨h, k⟩)]
  by_cases hf : fitP (addQ n d m e)
  · obtain ⟨a, b, c⟩ := r_fit hf
    rw [a, b, c]
    exact .inl ⟨hf, rfl, val_of_fit hf, rat_self _⟩
  · obtain ⟨a, b, c⟩ := r_far hf
    exact .inr ⟨hf, c, a, b⟩
theorem mul_terms {n d m e : Int} (h : valP n d) (k : valP m e) :
    (fitP (mulQ n d m e) ∧ mulE n d m e = 0 ∧ valP (mulN n d m e) (mulD n d m e) ∧ rat (mulN n d m e) (mulD n d m e) = rat n d * rat m e) ∨
    (¬ fitP (mulQ n d m e) ∧ mulE n d m e = 9 ∧ mulN n d m e = 0 ∧ mulD n d m e = 0) := by
  unfold mulN mulD mulE
  rw [if_pos (show valP n d ∧ valP m e from ⟨h, k⟩), if_pos (show valP n d ∧ valP m e from ⟨h, k⟩), if_pos (show valP n d ∧ valP m e from ⟨h, k⟩)]
  by_cases hf : fitP (mulQ n d m e)
  · obtain ⟨a, b, c⟩ := r_fit hf
    rw [a, b, c]
    exact .inl ⟨hf, rfl, val_of_fit hf, rat_self _⟩
  · obtain ⟨a, b, c⟩ := r_far hf
    exact .inr ⟨hf, c, a, b⟩
theorem of_terms {a b : Int} (hb : b ≠ 0) :
    (fitP (ofQ a b) ∧ ofE a b = 0 ∧ valP (ofN a b) (ofD a b) ∧ rat (ofN a b) (ofD a b) = ofQ a b) ∨ (¬ fitP (ofQ a b) ∧ ofE a b = 9 ∧ ofN a b = 0 ∧ ofD a b = 0) := by
  unfold ofN ofD ofE
  rw [if_neg hb, if_neg hb, if_neg hb]
  by_cases hf : fitP (ofQ a b)
  · obtain ⟨x, y, z⟩ := r_fit hf
    rw [x, y, z]
    exact .inl ⟨hf, rfl, val_of_fit hf, rat_self _⟩
  · obtain ⟨x, y, z⟩ := r_far hf
    exact .inr ⟨hf, z, x, y⟩
theorem ofQ_one (a : Int) : (ofQ a 1).num = a ∧ (ofQ a 1).den = 1 := by
  unfold ofQ
  rw [Rat.num_divInt, Rat.den_divInt]
  simp
theorem of_one {a : Int} (h : -4611686018427387904 ≤ a ∧ a ≤ 4611686018427387904) : ofN a 1 = a ∧ ofD a 1 = 1 ∧ ofE a 1 = 0 ∧ valP a 1 := by
  obtain ⟨h1, h2⟩ := ofQ_one a
  have hf : fitP (ofQ a 1) := ⟨by rw [h1]; exact h.1, by rw [h1]; exact h.2, by rw [h2]; decide⟩
  unfold ofN ofD ofE
  rw [if_neg (by decide), if_neg (by decide), if_neg (by decide), (r_fit hf).1, (r_fit hf).2.1, (r_fit hf).2.2, h1, h2]
  refine ⟨rfl, rfl, rfl, ?_⟩
  have := val_of_fit hf
  rw [h1, h2] at this
  exact this
theorem of_one_far {a : Int} (h : ¬ (-4611686018427387904 ≤ a ∧ a ≤ 4611686018427387904)) : ofN a 1 = 0 ∧ ofD a 1 = 0 ∧ ofE a 1 = 9 := by
  obtain ⟨h1, h2⟩ := ofQ_one a
  have hf : ¬ fitP (ofQ a 1) := fun k => h ⟨by rw [← h1]; exact k.1, by rw [← h1]; exact k.2.1⟩
  unfold ofN ofD ofE
  rw [if_neg (by decide), if_neg (by decide), if_neg (by decide), (r_far hf).1, (r_far hf).2.1, (r_far hf).2.2]
  exact ⟨rfl, rfl, rfl⟩

/-! Floors -/
theorem floor_facts {n d : Int} (h : valP n d) : (-4611686018427387904 ≤ n / d ∧ n / d ≤ 4611686018427387904) ∧ n / d * d ≤ n ∧ n < (n / d + 1) * d ∧ (d = 1 → n / d = n) := by
  obtain ⟨h1, h2, h3, h4, -⟩ := h
  have hle : n / d * d ≤ n := Int.ediv_mul_le n (by omega)
  have hlt : n < (n / d + 1) * d := Int.lt_ediv_add_one_mul_self n (by omega)
  refine ⟨⟨?_, ?_⟩, hle, hlt, fun hd => by rw [hd, Int.ediv_one]⟩
  · rw [Int.le_ediv_iff_mul_le (by omega)]
    have : -4611686018427387904 * d ≤ -4611686018427387904 * 1 := Int.mul_le_mul_of_nonpos_left (by omega) (by omega)
    omega
  · have : n / d ≤ n.natAbs := by
      have := Int.natAbs_ediv_le_natAbs n d
      omega
    omega
theorem cmp_low {n d : Int} (h : valP n d) (k : valP (n / d) 1) : cmpV (n / d) 1 n d ≤ 0 := by
  have hf := (floor_facts h).2.1
  unfold cmpV
  rw [if_pos (show valP (n / d) 1 ∧ valP n d from ⟨k, h⟩)]
  split
  · omega
  · rw [if_pos (by omega)]
    omega
theorem cmp_high {n d : Int} (h : valP n d) (k : valP (n / d + 1) 1) : cmpV n d (n / d + 1) 1 = -1 := by
  have hf := (floor_facts h).2.2.1
  unfold cmpV
  rw [if_pos (show valP n d ∧ valP (n / d + 1) 1 from ⟨h, k⟩), if_neg (by omega), if_pos (by omega)]
end Go.Proofs.Ytcpcmlonbpccnaa.Fr
