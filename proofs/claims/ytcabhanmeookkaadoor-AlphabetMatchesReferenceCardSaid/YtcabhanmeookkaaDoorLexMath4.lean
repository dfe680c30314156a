/- Plain mathematics of layer 4 (lexer): names, numbers and texts in quotes are one token each. No Go, no program. -/
import Derived.Test.YtcabhanmeookkaaDoorLexMath3
namespace Go.Proofs.YtcabhanmeookkaaDoor.Lx
set_option linter.unusedVariables false
set_option linter.unusedSimpArgs false

theorem tw_app (p : UInt8 → Bool) : ∀ (a y : List UInt8), (∀ c ∈ a, p c = true) → (∀ c, y.head? = some c → p c = false) → tw p (a ++ y) = a.length
  | [], y, _, hy => by
    cases y with
    | nil => rfl
    | cons c y => rw [List.nil_append, tw_cons, hy c rfl]; rfl
  | c :: a, y, ha, hy => by
    rw [List.cons_append, tw_cons, ha c (List.mem_cons_self ..), if_pos rfl, tw_app p a y (fun d hd => ha d (List.mem_cons_of_mem _ hd)) hy]
    rfl

theorem tok_aName (c : UInt8) (a y : List UInt8) (hc : isLet c = true) (ha : ∀ d ∈ a, isWord d = true) (hl : a.length + 1 ≤ 24) (hy : ∀ d, y.head? = some d → isWord d = false) :
    tokB (c :: a ++ y) = .good 1 0 (a.length + 1) (c :: a) := by
  have h := tw_app isWord a y ha hy
  simp only [List.cons_append, tokB, hc, if_true, h]
  rw [if_neg (by omega), List.take_left]
theorem tok_aNumber (c : UInt8) (a y : List UInt8) (hc : isNum c = true) (ha : ∀ d ∈ a, isNum d = true) (hl : a.length + 1 ≤ 13) (hy : ∀ d, y.head? = some d → isWord d = false) :
    tokB (c :: a ++ y) = .good 2 (val (c :: a)) (a.length + 1) (c :: a) := by
  have h := tw_app isNum a y ha (fun d hd => word_num (hy d hd))
  have hlt := (num_facts c hc).2.1
  simp only [List.cons_append, tokB, hc, hlt, if_true, h, Bool.false_eq_true, if_false]
  rw [if_neg, List.take_left]
  rw [List.drop_left, nextWord_of hy]
  simp
  omega
theorem tok_aText (a y : List UInt8) (ha : ∀ d ∈ a, isIn d = true) (hl : a.length ≤ 400) : tokB (34 :: a ++ 34 :: y) = .good 3 0 (a.length + 2) a := by
  have h := tw_app isIn a (34 :: y) ha (fun d hd => by simp at hd; subst hd; rfl)
  have h1 : isLet 34 = false := rfl
  have h2 : isNum 34 = false := rfl
  have h3 : (34 : UInt8).toNat = 34 := rfl
  simp only [List.cons_append, tokB, h1, h2, h3, h, Bool.false_eq_true, if_false, if_true]
  rw [List.drop_left, List.take_left, if_pos (by simp [nextIs]), if_neg (by omega)]
theorem tok_aSym (c : UInt8) (y : List UInt8) (hc : isSym c = true) (hy : nextIs y 61 = false) : tokB (c :: y) = .good 4 0 1 [c] := by
  obtain ⟨h1, h2, h3, h4⟩ := sym_facts c hc
  simp only [tokB, h2, h3, h4, Bool.false_eq_true, if_false, hy, Bool.and_false, hc, if_true]

theorem lexU_one {l y : List UInt8} {k v w : Nat} {t : List UInt8} (ht : tokB l = .good k v w t) (hl : l.drop w = y) (p : Nat) : lexU l p = (lexU y (p + w)).pre [⟨k, p, v, t⟩] := by
  have h0 := (tok_width ht).2.2
  rw [lexU_good (by rw [h0, List.drop_zero]; exact ht), h0, Nat.zero_add, Nat.add_zero, hl]

theorem words_law (c d : UInt8) (a b t : List UInt8) (sy : UInt8) (hc : isLet c = true) (ha : ∀ x ∈ a, isWord x = true) (hal : a.length + 1 ≤ 24) (hsy : isSym sy = true) (hd : isNum d = true) (hb : ∀ x ∈ b, isNum x = true) (hbl : b.length + 1 ≤ 13)
    (ht : ∀ x ∈ t, isIn x = true) (htl : t.length ≤ 400) :
    lexU (c :: a ++ sy :: (d :: b ++ (34 :: t ++ [34]))) 0 = .toks [⟨1, 0, 0, c :: a⟩, ⟨4, a.length + 1, 0, [sy]⟩, ⟨2, a.length + 1 + 1, val (d :: b), d :: b⟩, ⟨3, a.length + 1 + 1 + (b.length + 1), 0, t⟩] := by
  have hdf := num_facts d hd
  have hsw : isWord sy = false := by
    revert hsy
    revert sy
    refine byte_all ?_
    decide +kernel
  have h1 := tok_aName c a (sy :: (d :: b ++ (34 :: t ++ [34]))) hc ha hal (fun x hx => by simp at hx; subst hx; exact hsw)
  have h2 := tok_aSym sy (d :: b ++ (34 :: t ++ [34])) hsy (by
    have : d ≠ 61 := by
      rintro rfl
      revert hd
      decide
    simp [nextIs, this])
  have h3 := tok_aNumber d b (34 :: t ++ [34]) hd hb hbl (fun x hx => by simp at hx; subst hx; rfl)
  have h4 := tok_aText t [] ht htl
  rw [lexU_one h1 (y := sy :: (d :: b ++ (34 :: t ++ [34]))) (List.drop_left' (by simp)), lexU_one h2 (y := d :: b ++ (34 :: t ++ [34])) rfl, lexU_one h3 (y := 34 :: t ++ [34]) (List.drop_left' (by simp)), lexU_one (l := 34 :: t ++ [34]) h4 (y := []) (by simp), lexU_gap rfl]
  simp [Res.pre]

/-! ### Decimal digits -/

def decF : Nat → Nat → List UInt8
  | 0, _ => []
  | k + 1, n => if n < 10 then [UInt8.ofNat (48 + n)] else decF k (n / 10) ++ [UInt8.ofNat (48 + n % 10)]
theorem decF_num : ∀ (k n : Nat), ∀ c ∈ decF k n, isNum c = true
  | 0, _, c, h => by simp [decF] at h
  | k + 1, n, c, h => by
    have key : ∀ m : Nat, m < 10 → isNum (UInt8.ofNat (48 + m)) = true := by decide
    simp only [decF] at h
    split at h
    · rename_i hn
      rw [List.mem_singleton] at h
      subst h
      exact key n hn
    · rcases List.mem_append.1 h with h | h
      · exact decF_num k _ c h
      · rw [List.mem_singleton] at h
        subst h
        exact key (n % 10) (Nat.mod_lt _ (by decide))
theorem decF_len : ∀ (k n : Nat), (decF k n).length ≤ k
  | 0, _ => by simp [decF]
  | k + 1, n => by
    have := decF_len k (n / 10)
    simp only [decF]
    split <;> simp <;> omega
theorem decF_ne (k n : Nat) : decF (k + 1) n ≠ [] := by
  simp only [decF]
  split <;> simp
theorem val_snoc (l : List UInt8) (c : UInt8) : val (l ++ [c]) = val l * 10 + (c.toNat - 48) := by simp [val]
theorem digit_val (m : Nat) (h : m < 10) : (UInt8.ofNat (48 + m)).toNat - 48 = m := by
  revert h
  revert m
  decide
theorem decF_val : ∀ (k n : Nat), n < 10 ^ (k + 1) → val (decF (k + 1) n) = n
  | k, n, h => by
    simp only [decF]
    split
    · rename_i hn
      simp only [val, List.foldl_cons, List.foldl_nil]
      rw [digit_val n hn]
      omega
    · rename_i hn
      rw [val_snoc, digit_val _ (Nat.mod_lt _ (by decide))]
      cases k with
      | zero => rw [Nat.zero_add, Nat.pow_one] at h; omega
      | succ k =>
        rw [decF_val k (n / 10) (by rw [Nat.pow_succ] at h; exact Nat.div_lt_of_lt_mul (by omega))]
        omega

end Go.Proofs.YtcabhanmeookkaaDoor.Lx
