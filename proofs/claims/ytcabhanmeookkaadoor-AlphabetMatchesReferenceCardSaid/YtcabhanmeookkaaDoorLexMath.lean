/- Plain mathematics of layer 4 (lexer): gaps, tokens, and what texts are divided into. No Go, no program. -/
import Derived.Laws.EntriesVeiled
namespace Go.Proofs.YtcabhanmeookkaaDoor.Lx
set_option linter.unusedVariables false
set_option linter.unusedSimpArgs false

/-! ### Classes of bytes -/

def isLet (c : UInt8) : Bool := (decide (97 ≤ c.toNat) && decide (c.toNat ≤ 122)) || (decide (65 ≤ c.toNat) && decide (c.toNat ≤ 90))
def isNum (c : UInt8) : Bool := decide (48 ≤ c.toNat) && decide (c.toNat ≤ 57)
def isWord (c : UInt8) : Bool := isLet c || isNum c || decide (c.toNat = 95)
def isBlank (c : UInt8) : Bool := decide (c.toNat = 32) || decide (c.toNat = 9) || decide (c.toNat = 10)
def isTwo (c : UInt8) : Bool := decide (c.toNat = 33) || decide (c.toNat = 60) || decide (c.toNat = 62)
def isIn (c : UInt8) : Bool := !(decide (c.toNat = 34) || decide (c.toNat = 10))
def symL : List UInt8 := [59, 44, 46, 58, 40, 41, 91, 93, 123, 125, 61, 60, 62, 43, 45]
def isSym (c : UInt8) : Bool := symL.contains c
/-- a byte with which a gap begins -/
def isGap (c : UInt8) : Bool := isBlank c || decide (c.toNat = 35)

theorem byte_all {P : UInt8 → Prop} (h : ∀ n : Fin 256, P (UInt8.ofNat n.val)) (c : UInt8) : P c := by
  have := h ⟨c.toNat, UInt8.toNat_lt c⟩
  simpa using this

theorem gap_facts (c : UInt8) : isGap c = true → isWord c = false ∧ isNum c = false ∧ c ≠ 61 := by
  revert c
  refine byte_all ?_
  decide +kernel
theorem let_facts (c : UInt8) : isLet c = true → isGap c = false ∧ isNum c = false ∧ c.toNat ≠ 34 ∧ isTwo c = false ∧ isSym c = false := by
  revert c
  refine byte_all ?_
  decide +kernel
theorem num_facts (c : UInt8) : isNum c = true → isGap c = false ∧ isLet c = false ∧ c.toNat ≠ 34 ∧ isTwo c = false ∧ isSym c = false := by
  revert c
  refine byte_all ?_
  decide +kernel
theorem sym_facts (c : UInt8) : isSym c = true → isGap c = false ∧ isLet c = false ∧ isNum c = false ∧ c.toNat ≠ 34 := by
  revert c
  refine byte_all ?_
  decide +kernel
theorem two_facts (c : UInt8) : isTwo c = true → isGap c = false ∧ isLet c = false ∧ isNum c = false ∧ c.toNat ≠ 34 := by
  revert c
  refine byte_all ?_
  decide +kernel

/-! ### Gaps -/

/-- the number of bytes of the gaps at the beginning of a text; true: within a comment -/
def gp : Bool → List UInt8 → Nat
  | _, [] => 0
  | false, c :: l => if isBlank c then gp false l + 1 else if c.toNat = 35 then gp true l + 1 else 0
  | true, c :: l => if c.toNat = 10 then gp false l + 1 else gp true l + 1

theorem gp_le : ∀ (l : List UInt8) (b : Bool), gp b l ≤ l.length
  | [], b => by cases b <;> simp [gp]
  | c :: l, false => by
    have h1 := gp_le l false
    have h2 := gp_le l true
    simp only [gp, List.length_cons]
    split
    · omega
    · split <;> omega
  | c :: l, true => by
    have h1 := gp_le l false
    have h2 := gp_le l true
    simp only [gp, List.length_cons]
    split <;> omega

theorem gp_append_lt : ∀ (l x : List UInt8) (b : Bool), gp b l < l.length → gp b (l ++ x) = gp b l
  | [], x, b, h => by simp at h
  | c :: l, x, false, h => by
    have h1 := gp_append_lt l x false
    have h2 := gp_append_lt l x true
    simp only [gp, List.length_cons, List.cons_append] at h ⊢
    split at h
    · rename_i hb
      rw [if_pos hb, if_pos hb, h1 (by omega)]
    · rename_i hb
      rw [if_neg hb, if_neg hb]
      split at h
      · rename_i hc
        rw [if_pos hc, if_pos hc, h2 (by omega)]
      · rename_i hc
        rw [if_neg hc, if_neg hc]
  | c :: l, x, true, h => by
    have h1 := gp_append_lt l x false
    have h2 := gp_append_lt l x true
    simp only [gp, List.length_cons, List.cons_append] at h ⊢
    split at h
    · rename_i hb
      rw [if_pos hb, if_pos hb, h1 (by omega)]
    · rename_i hb
      rw [if_neg hb, if_neg hb, h2 (by omega)]

theorem gp_append_eq : ∀ (l r : List UInt8) (b : Bool), gp b l = l.length → gp b (l ++ 10 :: r) = l.length + 1 + gp false r
  | [], r, false, h => by simp [gp, isBlank]; omega
  | [], r, true, h => by simp [gp]; omega
  | c :: l, r, false, h => by
    have h1 := gp_append_eq l r false
    have h2 := gp_append_eq l r true
    simp only [gp, List.length_cons, List.cons_append] at h ⊢
    split at h
    · rename_i hb
      rw [if_pos hb, h1 (by omega)]
      omega
    · rename_i hb
      rw [if_neg hb]
      split at h
      · rename_i hc
        rw [if_pos hc, h2 (by omega)]
        omega
      · omega
  | c :: l, r, true, h => by
    have h1 := gp_append_eq l r false
    have h2 := gp_append_eq l r true
    simp only [gp, List.length_cons, List.cons_append] at h ⊢
    split at h
    · rename_i hb
      rw [if_pos hb, h1 (by omega)]
      omega
    · rename_i hb
      rw [if_neg hb, h2 (by omega)]
      omega

theorem gp_take_self : ∀ (l : List UInt8) (b : Bool), gp b (l.take (gp b l)) = gp b l
  | [], b => by cases b <;> simp [gp]
  | c :: l, false => by
    have h1 := gp_take_self l false
    have h2 := gp_take_self l true
    by_cases hb : isBlank c = true
    · simp [gp, hb, h1]
    · by_cases hc : c.toNat = 35
      · simp [gp, hb, hc, h2]
      · simp [gp, hb, hc]
  | c :: l, true => by
    have h1 := gp_take_self l false
    have h2 := gp_take_self l true
    by_cases hb : c.toNat = 10
    · simp [gp, hb, h1]
    · simp [gp, hb, h2]

theorem gp_take_lt (l : List UInt8) (b : Bool) (j : Nat) (h : gp b l < j) : gp b (l.take j) = gp b l := by
  by_cases hj : l.length ≤ j
  · rw [List.take_of_length_le hj]
  · by_cases hl : gp b (l.take j) < (l.take j).length
    · have := gp_append_lt (l.take j) (l.drop j) b hl
      rw [List.take_append_drop] at this
      exact this.symm
    · exfalso
      have h1 := gp_le (l.take j) b
      have h2 : gp b (l.take j) = (l.take j).length := by omega
      revert h2 hj h
      clear hl h1
      induction l generalizing b j with
      | nil => intro h hj; simp at hj
      | cons c l ih =>
        intro h hj h2
        cases j with
        | zero => omega
        | succ j =>
          simp only [List.take_succ_cons, List.length_cons] at h2 hj
          cases b with
          | false =>
            simp only [gp] at h h2
            split at h2
            · rename_i hb
              rw [if_pos hb] at h
              exact ih false j (by omega) (by omega) (by omega)
            · rename_i hb
              rw [if_neg hb] at h
              split at h2
              · rename_i hc
                rw [if_pos hc] at h
                exact ih true j (by omega) (by omega) (by omega)
              · omega
          | true =>
            simp only [gp] at h h2
            split at h2
            · rename_i hb
              rw [if_pos hb] at h
              exact ih false j (by omega) (by omega) (by omega)
            · rename_i hb
              rw [if_neg hb] at h
              exact ih true j (by omega) (by omega) (by omega)

theorem gp_drop : ∀ (l : List UInt8) (b : Bool), gp false (l.drop (gp b l)) = 0
  | [], b => by cases b <;> simp [gp]
  | c :: l, false => by
    have h1 := gp_drop l false
    have h2 := gp_drop l true
    by_cases hb : isBlank c = true
    · simp [gp, hb, h1]
    · by_cases hc : c.toNat = 35
      · simp [gp, hb, hc, h2]
      · simp [gp, hb, hc]
  | c :: l, true => by
    have h1 := gp_drop l false
    have h2 := gp_drop l true
    by_cases hb : c.toNat = 10
    · simp [gp, hb, h1]
    · simp [gp, hb, h2]

theorem gp_head (c : UInt8) (l : List UInt8) (h : isGap c = false) : gp false (c :: l) = 0 := by
  unfold isGap at h
  rw [Bool.or_eq_false_iff] at h
  simp only [gp]
  rw [if_neg (by rw [h.1]; simp), if_neg (by simpa using h.2)]
theorem gp_all_head (l : List UInt8) (h : gp false l = l.length) : ∀ c, l.head? = some c → isGap c = true := by
  intro c hc
  cases l with
  | nil => simp at hc
  | cons d l =>
    simp only [List.head?_cons, Option.some.injEq] at hc
    subst hc
    cases hg : isGap d with
    | true => rfl
    | false => rw [gp_head d l hg] at h; simp at h

/-! ### Beginnings of one kind -/

def tw (p : UInt8 → Bool) (l : List UInt8) : Nat := (l.takeWhile p).length
theorem tw_le (p : UInt8 → Bool) (l : List UInt8) : tw p l ≤ l.length := by
  unfold tw
  induction l with
  | nil => simp
  | cons c l ih =>
    rw [List.takeWhile_cons]
    split <;> simp <;> omega
theorem tw_cons (p : UInt8 → Bool) (c : UInt8) (l : List UInt8) : tw p (c :: l) = if p c then tw p l + 1 else 0 := by
  unfold tw
  rw [List.takeWhile_cons]
  split <;> simp
theorem tw_nil (p : UInt8 → Bool) : tw p [] = 0 := rfl
/-- what stands behind it is of another kind -/
theorem tw_head (p : UInt8 → Bool) : ∀ (l : List UInt8) (c : UInt8), (l.drop (tw p l)).head? = some c → p c = false
  | [], c, h => by simp at h
  | d :: l, c, h => by
    rw [tw_cons] at h
    cases hd : p d with
    | true =>
      rw [hd, if_pos rfl, List.drop_succ_cons] at h
      exact tw_head p l c h
    | false =>
      rw [hd] at h
      simp at h
      rw [← h]
      exact hd
theorem tw_all (p : UInt8 → Bool) : ∀ (l : List UInt8) (i : Nat) (h : i < tw p l), p (l[i]'(Nat.lt_of_lt_of_le h (tw_le p l))) = true
  | [], i, h => by simp [tw] at h
  | d :: l, i, h => by
    rw [tw_cons] at h
    cases hd : p d with
    | true =>
      rw [hd, if_pos rfl] at h
      cases i with
      | zero => simpa using hd
      | succ i => exact tw_all p l i (by omega)
    | false => rw [hd] at h; simp at h
theorem tw_of (p : UInt8 → Bool) : ∀ (l : List UInt8) (n : Nat) (hn : n ≤ l.length), (∀ i (h : i < n), p (l[i]'(by omega)) = true) → (∀ h : n < l.length, p l[n] = false) → tw p l = n
  | [], n, hn, _, _ => by simp at hn; subst hn; rfl
  | d :: l, 0, hn, _, h2 => by
    have := h2 (by simp)
    rw [tw_cons]
    simp at this
    rw [this]
    simp
  | d :: l, n + 1, hn, h1, h2 => by
    have h0 := h1 0 (by omega)
    simp at h0
    simp at hn
    rw [tw_cons, h0, if_pos rfl, tw_of p l n hn (fun i hi => by simpa using h1 (i + 1) (by omega)) (fun h => by have := h2 (by simp; omega); simpa using this)]
/-- the same beginning, and something of another kind behind it -/
theorem tw_cut (p : UInt8 → Bool) (l y : List UInt8) (hy : ∀ c, y.head? = some c → p c = false) : tw p (l.take (tw p l) ++ y) = tw p l := by
  induction l with
  | nil =>
    simp only [tw_nil, List.take_nil, List.nil_append]
    cases y with
    | nil => rfl
    | cons c y => rw [tw_cons, hy c rfl]; simp
  | cons d l ih =>
    rw [tw_cons]
    cases hd : p d with
    | true => simp only [if_pos, List.take_succ_cons, List.cons_append]; rw [tw_cons, hd, if_pos rfl, ih]
    | false =>
      simp only [Bool.false_eq_true, if_false, List.take_zero, List.nil_append]
      cases y with
      | nil => rfl
      | cons c y => rw [tw_cons, hy c rfl]; simp
theorem tw_join (p : UInt8 → Bool) (l r : List UInt8) (hp : p 10 = false) : tw p (l ++ 10 :: r) = tw p l := by
  induction l with
  | nil => rw [List.nil_append, tw_cons, hp]; rfl
  | cons d l ih => rw [List.cons_append, tw_cons, tw_cons, ih]

theorem tw_ge_succ (p : UInt8 → Bool) (l : List UInt8) (k : Nat) (h : k ≤ tw p l) (hk : k < l.length) (hp : p l[k] = true) : k + 1 ≤ tw p l := by
  by_cases e : k = tw p l
  · have := tw_head p l l[k] (by rw [← e, List.head?_drop, List.getElem?_eq_getElem hk])
    rw [this] at hp
    cases hp
  · omega
theorem tw_eq_of (p : UInt8 → Bool) (l : List UInt8) (k : Nat) (h : k ≤ tw p l) (hp : ∀ hk : k < l.length, p l[k] = false) : tw p l = k := by
  by_cases e : k < tw p l
  · have h1 := tw_all p l k e
    rw [hp] at h1
    cases h1
  · omega

/-! ### One token -/

/-- the value of digits -/
def val (l : List UInt8) : Nat := l.foldl (fun n c => n * 10 + (c.toNat - 48)) 0

/-- what a token is at the beginning of a text: its kind, value, number of bytes, and text; or the error -/
inductive One where
  | bad (e : Nat)
  | good (k v w : Nat) (t : List UInt8)

def nextWord (l : List UInt8) : Bool :=
  match l.head? with
  | some c => isWord c
  | none => false
def nextIs (l : List UInt8) (c : UInt8) : Bool := l.head? == some c

def tokB : List UInt8 → One
  | [] => .bad 3
  | c :: r =>
    if isLet c then
      if 24 < tw isWord r + 1 then .bad 2 else .good 1 0 (tw isWord r + 1) (c :: r.take (tw isWord r))
    else if isNum c then
      if 13 < tw isNum r + 1 ∨ nextWord (r.drop (tw isNum r)) = true then .bad 4 else .good 2 (val (c :: r.take (tw isNum r))) (tw isNum r + 1) (c :: r.take (tw isNum r))
    else if c.toNat = 34 then
      if nextIs (r.drop (tw isIn r)) 34 then
        if 400 < tw isIn r then .bad 2 else .good 3 0 (tw isIn r + 2) (r.take (tw isIn r))
      else .bad 6
    else if isTwo c && nextIs r 61 then .good 4 0 2 [c, 61]
    else if isSym c then .good 4 0 1 [c]
    else .bad 3

theorem drop_some {l : List UInt8} {n : Nat} {c : UInt8} (h : (l.drop n).head? = some c) : n < l.length := by
  by_cases hn : n < l.length
  · exact hn
  · rw [List.drop_eq_nil_of_le (by omega)] at h
    simp at h

/-- a token has at least one byte, and no more than there are; no gap begins it -/
theorem tok_width {l : List UInt8} {k v w : Nat} {t : List UInt8} (h : tokB l = .good k v w t) : 0 < w ∧ w ≤ l.length ∧ gp false l = 0 := by
  cases l with
  | nil => simp [tokB] at h
  | cons c r =>
    have h1 := tw_le isWord r
    have h2 := tw_le isNum r
    simp only [tokB] at h
    split at h
    · rename_i hc
      split at h
      · cases h
      · cases h
        exact ⟨by omega, by simp; omega, gp_head _ _ (let_facts c hc).1⟩
    · split at h
      · rename_i hc
        split at h
        · cases h
        · cases h
          exact ⟨by omega, by simp; omega, gp_head _ _ (num_facts c hc).1⟩
      · split at h
        · rename_i hc
          split at h
          · rename_i hn
            split at h
            · cases h
            · cases h
              have := drop_some (by simpa [nextIs] using hn)
              exact ⟨by omega, by simp; omega, gp_head _ _ (by unfold isGap isBlank; simp [hc])⟩
          · cases h
        · split at h
          · rename_i hc
            rw [Bool.and_eq_true] at hc
            cases h
            refine ⟨by omega, ?_, gp_head _ _ (two_facts c hc.1).1⟩
            cases r with
            | nil => simp [nextIs] at hc
            | cons d r => simp
          · split at h
            · rename_i hc
              cases h
              exact ⟨by omega, by simp, gp_head _ _ (sym_facts c hc).1⟩
            · cases h

/-- what a token's bytes are -/
def wr (k : Nat) (t : List UInt8) : List UInt8 := if k = 3 then 34 :: t ++ [34] else t

theorem nextIs_drop {l : List UInt8} {n : Nat} {c : UInt8} (h : nextIs (l.drop n) c = true) : l.drop n = c :: l.drop (n + 1) := by
  have h1 : (l.drop n).head? = some c := by simpa [nextIs] using h
  have h2 := drop_some h1
  rw [List.drop_eq_getElem_cons h2] at h1 ⊢
  simp only [List.head?_cons, Option.some.injEq] at h1
  rw [h1]

theorem tok_written {l : List UInt8} {k v w : Nat} {t : List UInt8} (h : tokB l = .good k v w t) : wr k t = l.take w ∧ (wr k t).length = w := by
  have hw := tok_width h
  have hl : wr k t = l.take w → wr k t = l.take w ∧ (wr k t).length = w := fun h1 => ⟨h1, by rw [h1, List.length_take]; omega⟩
  apply hl
  clear hl
  cases l with
  | nil => simp [tokB] at h
  | cons c r =>
    simp only [tokB] at h
    split at h
    · split at h
      · cases h
      · cases h; simp [wr]
    · split at h
      · split at h
        · cases h
        · cases h; simp [wr]
      · split at h
        · rename_i hc
          split at h
          · rename_i hn
            split at h
            · cases h
            · cases h
              have h3 := nextIs_drop hn
              have hc34 : c = 34 := UInt8.toNat_inj.1 (by rw [hc]; rfl)
              subst hc34
              simp only [wr, if_pos, List.take_succ_cons, List.cons_append, List.cons.injEq, true_and]
              rw [List.take_add_one, show r[tw isIn r]? = some 34 by rw [← List.head?_drop, h3]; rfl]
              rfl
          · cases h
        · split at h
          · rename_i hc
            rw [Bool.and_eq_true] at hc
            cases h
            cases r with
            | nil => simp [nextIs] at hc
            | cons d r =>
              have : d = 61 := by simpa [nextIs] using hc.2
              simp [wr, this]
          · split at h
            · cases h; simp [wr]
            · cases h

theorem nextWord_of {l : List UInt8} (h : ∀ c, l.head? = some c → isWord c = false) : nextWord l = false := by
  unfold nextWord
  split
  · rename_i c hc
    exact h c hc
  · rfl
theorem word_num {c : UInt8} (h : isWord c = false) : isNum c = false := by
  unfold isWord at h
  simp only [Bool.or_eq_false_iff] at h
  exact h.1.2

/-- what may stand behind a token, for the token to be the same -/
def Fits (l : List UInt8) (w : Nat) (y : List UInt8) : Prop := y = [] ∨ y.head? = (l.drop w).head? ∨ ∃ c, y.head? = some c ∧ isGap c = true

theorem Fits.not {l : List UInt8} {w : Nat} {y : List UInt8} (p : UInt8 → Bool) (h : Fits l w y) (hg : ∀ c, isGap c = true → p c = false) (hl : ∀ c, (l.drop w).head? = some c → p c = false) : ∀ c, y.head? = some c → p c = false := by
  intro c hc
  rcases h with rfl | h | ⟨d, hd, h⟩
  · simp at hc
  · exact hl c (h ▸ hc)
  · rw [hd] at hc
    cases hc
    exact hg c h

theorem tok_cut {l : List UInt8} {k v w : Nat} {t : List UInt8} (h : tokB l = .good k v w t) (y : List UInt8) (hy : Fits l w y) : tokB (l.take w ++ y) = .good k v w t := by
  cases l with
  | nil => simp [tokB] at h
  | cons c r =>
    simp only [tokB] at h
    split at h
    · rename_i hc
      split at h
      · cases h
      · rename_i hn
        cases h
        have hcut := tw_cut isWord r y (hy.not isWord (fun c hc => (gap_facts c hc).1) (fun c hc => tw_head isWord r c (by simpa using hc)))
        simp only [List.take_succ_cons, List.cons_append, tokB, hc, if_true, hcut]
        rw [if_neg hn, List.take_append_of_le_length (by rw [List.length_take]; have := tw_le isWord r; omega), List.take_take, Nat.min_self]
    · rename_i hl
      split at h
      · rename_i hc
        split at h
        · cases h
        · rename_i hn
          cases h
          have hw : ∀ d, (r.drop (tw isNum r)).head? = some d → isWord d = false := by
            intro d hd
            cases hx : isWord d with
            | false => rfl
            | true => exact absurd (Or.inr (by unfold nextWord; rw [hd]; exact hx)) hn
          have hy2 := hy.not isWord (fun c hc => (gap_facts c hc).1) (fun c hc => hw c (by simpa using hc))
          have hcut := tw_cut isNum r y (fun d hd => word_num (hy2 d hd))
          have hlen : (r.take (tw isNum r)).length = tw isNum r := by rw [List.length_take]; have := tw_le isNum r; omega
          simp only [List.take_succ_cons, List.cons_append, tokB, hc, if_true, hcut]
          rw [if_neg hl, List.drop_left' hlen, List.take_left' hlen, if_neg]
          intro hx
          rcases hx with hx | hx
          · exact hn (.inl hx)
          · rw [nextWord_of hy2] at hx
            cases hx
      · rename_i hnum
        split at h
        · rename_i hc
          split at h
          · rename_i hn
            split at h
            · cases h
            · rename_i hk
              cases h
              have h3 := nextIs_drop hn
              have hd := drop_some (show (r.drop (tw isIn r)).head? = some 34 by rw [h3]; rfl)
              have hlen : (r.take (tw isIn r)).length = tw isIn r := by rw [List.length_take]; omega
              have htake : (c :: r).take (tw isIn r + 2) = c :: (r.take (tw isIn r) ++ [34]) := by
                rw [List.take_succ_cons, List.take_add_one, show r[tw isIn r]? = some 34 by rw [← List.head?_drop, h3]; rfl]
                rfl
              have hcut := tw_cut isIn r (34 :: y) (fun d hd => by simp at hd; subst hd; rfl)
              rw [htake, List.cons_append, List.append_assoc, show [34] ++ y = 34 :: y from rfl]
              simp only [tokB, hcut]
              rw [if_neg hl, if_neg hnum, if_pos hc, List.drop_left' hlen, List.take_left' hlen, if_pos (by simp [nextIs]), if_neg hk]
          · cases h
        · rename_i hq
          split at h
          · rename_i hc
            cases h
            have hc' := hc
            rw [Bool.and_eq_true] at hc'
            cases r with
            | nil => simp [nextIs] at hc'
            | cons d r =>
              have : d = 61 := by simpa [nextIs] using hc'.2
              subst this
              simp only [List.take_succ_cons, List.take_zero, List.cons_append, List.nil_append, tokB]
              rw [if_neg hl, if_neg hnum, if_neg hq, if_pos (by rw [hc'.1]; simp [nextIs])]
          · rename_i hc
            split at h
            · rename_i hs
              cases h
              simp only [List.take_succ_cons, List.take_zero, List.cons_append, List.nil_append, tokB]
              rw [if_neg hl, if_neg hnum, if_neg hq, if_neg, if_pos hs]
              intro hx
              rw [Bool.and_eq_true] at hx
              have h61 : y.head? = some 61 := by simpa [nextIs] using hx.2
              have := hy.not (fun d => d == 61) (fun d hd => by simpa using (gap_facts d hd).2.2) (fun d hd => by
                simp only [List.drop_succ_cons, List.drop_zero] at hd
                cases hdd : (d == 61) with
                | false => rfl
                | true =>
                  exfalso
                  apply hc
                  rw [hx.1, Bool.true_and]
                  simp at hdd
                  subst hdd
                  simp [nextIs, hd]) 61 h61
              simp at this
            · cases h

/-- a line feed behind a text changes nothing of its first token -/
theorem tok_join (x r : List UInt8) (hx : x ≠ []) : tokB (x ++ 10 :: r) = tokB x := by
  cases x with
  | nil => exact absurd rfl hx
  | cons c l =>
    have e1 := tw_join isWord l r rfl
    have e2 := tw_join isNum l r rfl
    have e3 := tw_join isIn l r rfl
    have h1 := tw_le isWord l
    have h2 := tw_le isNum l
    have h3 := tw_le isIn l
    have n1 : nextWord ((l ++ 10 :: r).drop (tw isNum l)) = nextWord (l.drop (tw isNum l)) := by
      rw [List.drop_append_of_le_length h2]
      cases l.drop (tw isNum l) with
      | nil => rfl
      | cons d m => rfl
    have n2 : nextIs ((l ++ 10 :: r).drop (tw isIn l)) 34 = nextIs (l.drop (tw isIn l)) 34 := by
      rw [List.drop_append_of_le_length h3]
      cases l.drop (tw isIn l) with
      | nil => rfl
      | cons d m => rfl
    have n3 : nextIs (l ++ 10 :: r) 61 = nextIs l 61 := by
      cases l with
      | nil => rfl
      | cons d m => rfl
    simp only [List.cons_append, tokB, e1, e2, e3, n1, n2, n3]
    rw [List.take_append_of_le_length h1, List.take_append_of_le_length h2, List.take_append_of_le_length h3]

end Go.Proofs.YtcabhanmeookkaaDoor.Lx
