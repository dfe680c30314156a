/- Plain mathematics of layer 4 (lexer): parts, gaps, beginnings of texts. No Go, no program. -/
import Derived.Test.YtcabhanmeookkaaDoorLexMath2
namespace Go.Proofs.YtcabhanmeookkaaDoor.Lx
set_option linter.unusedVariables false
set_option linter.unusedSimpArgs false

theorem lex_cases (l : List UInt8) : gp false l = l.length ∨ (∃ e, gp false l < l.length ∧ tokB (l.drop (gp false l)) = .bad e) ∨ ∃ k v w t, tokB (l.drop (gp false l)) = .good k v w t := by
  have h := gp_le l false
  by_cases hg : gp false l = l.length
  · exact .inl hg
  · cases ht : tokB (l.drop (gp false l)) with
    | bad e => exact .inr (.inl ⟨e, by omega, rfl⟩)
    | good k v w t => exact .inr (.inr ⟨k, v, w, t, rfl⟩)

theorem lexL_big : ∀ (n : Nat) (l : List UInt8), l.length ≤ n → ∀ (a b p : Nat), l.length ≤ a → l.length ≤ b → lexL a l p = lexL b l p
  | 0, l, h, a, b, p, _, _ => by
    have := gp_le l false
    rw [lexL_gap (by omega), lexL_gap (by omega)]
  | n + 1, l, h, a, b, p, ha, hb => by
    rcases lex_cases l with hg | ⟨e, hg, ht⟩ | ⟨k, v, w, t, ht⟩
    · rw [lexL_gap hg, lexL_gap hg]
    · rw [lexL_bad hg ht, lexL_bad hg ht]
    · have hw := tok_width ht
      rw [List.length_drop] at hw
      rw [lexL_good ht (by omega), lexL_good ht (by omega)]
      rw [lexL_big n (l.drop (gp false l + w)) (by rw [List.length_drop]; omega) (a - 1) (b - 1) _ (by rw [List.length_drop]; omega) (by rw [List.length_drop]; omega)]

/-- the tokens of a text, of whatever number -/
def lexU (l : List UInt8) (p : Nat) : Res := lexL l.length l p
theorem lexL_U {l : List UInt8} {left : Nat} (h : l.length ≤ left) (p : Nat) : lexL left l p = lexU l p := lexL_big _ l (Nat.le_refl _) _ _ _ h (Nat.le_refl _)
theorem lexU_gap {l : List UInt8} {p : Nat} (h : gp false l = l.length) : lexU l p = .toks [] := lexL_gap h
theorem lexU_bad {l : List UInt8} {p e : Nat} (h : gp false l < l.length) (ht : tokB (l.drop (gp false l)) = .bad e) : lexU l p = .err e (p + gp false l) := lexL_bad h ht
theorem lexU_good {l : List UInt8} {p k v w : Nat} {t : List UInt8} (ht : tokB (l.drop (gp false l)) = .good k v w t) :
    lexU l p = (lexU (l.drop (gp false l + w)) (p + gp false l + w)).pre [⟨k, p + gp false l, v, t⟩] := by
  have hw := tok_width ht
  rw [List.length_drop] at hw
  unfold lexU
  rw [lexL_good ht (by omega), lexL_U (by rw [List.length_drop]; omega)]
  rfl
theorem lexU_skip {l : List UInt8} {p : Nat} (a : Nat) (ha : gp false l = a + gp false (l.drop a)) : lexU l p = lexU (l.drop a) (p + a) := by
  unfold lexU
  rw [lexL_skip a ha, lexL_U (by rw [List.length_drop]; omega)]
  rfl

/-! ### Places are shifted -/

def Tok.shift (d : Nat) (t : Tok) : Tok := ⟨t.kind, t.pos + d, t.n, t.text⟩
def Res.shift (d : Nat) : Res → Res
  | .err e p => .err e (p + d)
  | .toks l => .toks (l.map (Tok.shift d))
theorem Res.shift_pre (d : Nat) (ts : List Tok) (r : Res) : (r.pre ts).shift d = (r.shift d).pre (ts.map (Tok.shift d)) := by
  cases r
  · rfl
  · simp [Res.pre, Res.shift]
theorem lexU_shift : ∀ (n : Nat) (l : List UInt8), l.length ≤ n → ∀ p d, lexU l (p + d) = (lexU l p).shift d
  | 0, l, h, p, d => by
    have := gp_le l false
    rw [lexU_gap (by omega), lexU_gap (by omega)]
    rfl
  | n + 1, l, h, p, d => by
    rcases lex_cases l with hg | ⟨e, hg, ht⟩ | ⟨k, v, w, t, ht⟩
    · rw [lexU_gap hg, lexU_gap hg]
      rfl
    · rw [lexU_bad hg ht, lexU_bad hg ht]
      simp only [Res.shift]
      congr 1
      omega
    · have hw := tok_width ht
      rw [List.length_drop] at hw
      rw [lexU_good ht, lexU_good ht, Res.shift_pre, ← lexU_shift n _ (by rw [List.length_drop]; omega)]
      rw [show p + d + gp false l + w = p + gp false l + w + d by omega, show p + d + gp false l = p + gp false l + d by omega]
      rfl
theorem lexU_at (l : List UInt8) (p : Nat) : lexU l p = (lexU l 0).shift p := by
  have := lexU_shift l.length l (Nat.le_refl _) 0 p
  rwa [Nat.zero_add] at this

/-! ### Two texts with a line feed between them -/

def Res.join (a b : Res) : Res :=
  match a with
  | .err e p => .err e p
  | .toks ts => b.pre ts
theorem Res.join_pre (a b : Res) (ts : List Tok) : (a.pre ts).join b = (a.join b).pre ts := by
  cases a
  · rfl
  · simp [Res.pre, Res.join]
    cases b <;> simp
theorem lex_join (r : List UInt8) : ∀ (n : Nat) (l : List UInt8), l.length ≤ n → ∀ p, lexU (l ++ 10 :: r) p = (lexU l p).join (lexU r (p + l.length + 1)) := by
  have base : ∀ (l : List UInt8) p, gp false l = l.length → lexU (l ++ 10 :: r) p = (lexU l p).join (lexU r (p + l.length + 1)) := by
    intro l p hg
    have h1 := gp_append_eq l r false hg
    have h2 : (l ++ 10 :: r).drop (l.length + 1) = r := by rw [← List.drop_drop, List.drop_left]; rfl
    rw [lexU_skip (l.length + 1) (by rw [h1, h2]), h2, lexU_gap hg]
    simp only [Res.join, Res.pre_nil]
    rfl
  intro n
  induction n with
  | zero =>
    intro l h p
    have := gp_le l false
    exact base l p (by omega)
  | succ n ih =>
    intro l h p
    rcases lex_cases l with hg | ⟨e, hg, ht⟩ | ⟨k, v, w, t, ht⟩
    · exact base l p hg
    · have h1 := gp_append_lt l (10 :: r) false hg
      have h2 : tokB ((l ++ 10 :: r).drop (gp false (l ++ 10 :: r))) = .bad e := by
        rw [h1, List.drop_append_of_le_length (by omega), tok_join _ _ (by
          intro h
          have := congrArg List.length h
          rw [List.length_drop] at this
          simp at this
          omega), ht]
      rw [lexU_bad (by rw [h1]; simp; omega) h2, lexU_bad hg ht, h1]
      rfl
    · have hw := tok_width ht
      rw [List.length_drop] at hw
      have h1 := gp_append_lt l (10 :: r) false (by omega)
      have h2 : tokB ((l ++ 10 :: r).drop (gp false (l ++ 10 :: r))) = .good k v w t := by
        rw [h1, List.drop_append_of_le_length (by omega), tok_join _ _ (by
          intro h
          have := congrArg List.length h
          rw [List.length_drop] at this
          simp at this
          omega), ht]
      rw [lexU_good h2, lexU_good ht, h1, List.drop_append_of_le_length (by omega), ih _ (by rw [List.length_drop]; omega), Res.join_pre, List.length_drop]
      rw [show p + gp false l + w + (l.length - (gp false l + w)) + 1 = p + l.length + 1 by omega]

theorem lex_join_at (l r : List UInt8) (p : Nat) : lexU (l ++ 10 :: r) p = (lexU l p).join (lexU r (p + l.length + 1)) := lex_join r l.length l (Nat.le_refl _) p
theorem lex_gap_front (g x : List UInt8) (hg : gp false g = g.length) (p : Nat) : lexU (g ++ 10 :: x) p = lexU x (p + g.length + 1) := by
  rw [lex_join_at, lexU_gap hg]
  simp [Res.join, Res.pre_nil]

/-! ### Where tokens stand -/

theorem lex_end {l : List UInt8} {p : Nat} (h : lexU l p = .toks []) : gp false l = l.length := by
  rcases lex_cases l with hg | ⟨e, hg, ht⟩ | ⟨k, v, w, t, ht⟩
  · exact hg
  · rw [lexU_bad hg ht] at h
    cases h
  · rw [lexU_good ht] at h
    cases hr : lexU (l.drop (gp false l + w)) (p + gp false l + w) with
    | err e q => rw [hr] at h; cases h
    | toks us => rw [hr] at h; simp [Res.pre] at h
/-- the first token, and what follows -/
theorem lex_first {l : List UInt8} {p : Nat} {t : Tok} {ts : List Tok} (h : lexU l p = .toks (t :: ts)) :
    ∃ w, tokB (l.drop (gp false l)) = .good t.kind t.n w t.text ∧ t.pos = p + gp false l ∧ lexU (l.drop (gp false l + w)) (p + gp false l + w) = .toks ts ∧ 0 < w ∧ gp false l + w ≤ l.length := by
  rcases lex_cases l with hg | ⟨e, hg, ht⟩ | ⟨k, v, w, x, ht⟩
  · rw [lexU_gap hg] at h
    cases h
  · rw [lexU_bad hg ht] at h
    cases h
  · have hw := tok_width ht
    rw [List.length_drop] at hw
    rw [lexU_good ht] at h
    cases hr : lexU (l.drop (gp false l + w)) (p + gp false l + w) with
    | err e q => rw [hr] at h; cases h
    | toks us =>
      rw [hr] at h
      simp only [Res.pre, List.cons_append, List.nil_append, Res.toks.injEq, List.cons.injEq] at h
      obtain ⟨rfl, rfl⟩ := h
      exact ⟨w, ht, rfl, hr, by omega, by omega⟩

/-! ### Beginnings -/

theorem lex_before : ∀ (n : Nat) (l : List UInt8), l.length ≤ n → ∀ p e q, lexU l p = .err e q →
    ∃ j, q = p + j ∧ j < l.length ∧ (∃ ts, lexU (l.take j) p = .toks ts) ∧ ∀ p', lexU (l.drop j) p' = .err e p'
  | 0, l, h, p, e, q, hx => by
    have := gp_le l false
    rw [lexU_gap (by omega)] at hx
    cases hx
  | n + 1, l, h, p, e, q, hx => by
    rcases lex_cases l with hg | ⟨e', hg, ht⟩ | ⟨k, v, w, x, ht⟩
    · rw [lexU_gap hg] at hx
      cases hx
    · rw [lexU_bad hg ht] at hx
      cases hx
      refine ⟨gp false l, rfl, hg, ⟨[], lexU_gap ?_⟩, fun p' => ?_⟩
      · rw [gp_take_self, List.length_take]
        omega
      · have h0 := gp_drop l false
        rw [lexU_bad (by rw [h0, List.length_drop]; omega) (by rw [h0, List.drop_zero]; exact ht), h0]
        rfl
    · have hw := tok_width ht
      rw [List.length_drop] at hw
      rw [lexU_good ht] at hx
      cases hr : lexU (l.drop (gp false l + w)) (p + gp false l + w) with
      | toks us => rw [hr] at hx; cases hx
      | err e' q' =>
        rw [hr] at hx
        simp only [Res.pre, Res.err.injEq] at hx
        obtain ⟨rfl, rfl⟩ := hx
        obtain ⟨j, rfl, hj, ⟨ts, h1⟩, h2⟩ := lex_before n _ (by rw [List.length_drop]; omega) _ _ _ hr
        rw [List.length_drop] at hj
        refine ⟨gp false l + w + j, by omega, by omega, ⟨⟨k, p + gp false l, v, x⟩ :: ts, ?_⟩, fun p' => ?_⟩
        · have h3 := gp_take_lt l false (gp false l + w + j) (by omega)
          have h4 : (l.take (gp false l + w + j)).drop (gp false l) = (l.drop (gp false l)).take w ++ (l.drop (gp false l + w)).take j := by
            rw [List.drop_take, show gp false l + w + j - gp false l = w + j by omega, List.take_add, List.drop_drop]
          have h5 : tokB ((l.take (gp false l + w + j)).drop (gp false (l.take (gp false l + w + j)))) = .good k v w x := by
            rw [h3, h4]
            refine tok_cut ht _ ?_
            unfold Fits
            rw [List.drop_drop]
            cases j with
            | zero => exact .inl rfl
            | succ j => exact .inr (.inl (by rw [List.head?_take]; simp))
          rw [lexU_good h5, h3, List.drop_take, show gp false l + w + j - (gp false l + w) = j by omega, h1]
          rfl
        · rw [← List.drop_drop]
          exact h2 p'

/-! ### Written again, and with gaps between tokens -/

def bareT (a b : Tok) : Prop := a.kind = b.kind ∧ a.text = b.text ∧ a.n = b.n
/-- equal lists, apart from places -/
def Bare : List Tok → List Tok → Prop
  | [], [] => True
  | a :: as, b :: bs => bareT a b ∧ Bare as bs
  | _, _ => False
theorem Bare.refl : ∀ l : List Tok, Bare l l
  | [] => trivial
  | a :: l => ⟨⟨rfl, rfl, rfl⟩, Bare.refl l⟩
theorem Bare.trans : ∀ {a b c : List Tok}, Bare a b → Bare b c → Bare a c
  | [], [], [], _, _ => trivial
  | [], [], _ :: _, _, h => h.elim
  | [], _ :: _, _, h, _ => h.elim
  | _ :: _, [], _, h, _ => h.elim
  | _ :: _, _ :: _, [], _, h => h.elim
  | a :: as, b :: bs, c :: cs, h, k => ⟨⟨h.1.1.trans k.1.1, h.1.2.1.trans k.1.2.1, h.1.2.2.trans k.1.2.2⟩, Bare.trans h.2 k.2⟩
theorem Bare.length : ∀ {a b : List Tok}, Bare a b → a.length = b.length
  | [], [], _ => rfl
  | [], _ :: _, h => h.elim
  | _ :: _, [], h => h.elim
  | a :: as, b :: bs, h => by simp [Bare.length h.2]
theorem Bare.get : ∀ {a b : List Tok}, Bare a b → ∀ i (h1 : i < a.length) (h2 : i < b.length), bareT a[i] b[i]
  | [], _, _, i, h1, _ => by simp at h1
  | _ :: _, [], h, _, _, _ => h.elim
  | a :: as, b :: bs, h, 0, _, _ => h.1
  | a :: as, b :: bs, h, i + 1, h1, h2 => Bare.get h.2 i (by simpa using h1) (by simpa using h2)
theorem Bare.shift (d : Nat) : ∀ l : List Tok, Bare l (l.map (Tok.shift d))
  | [] => trivial
  | a :: l => ⟨⟨rfl, rfl, rfl⟩, Bare.shift d l⟩
theorem lexU_bare {l : List UInt8} {p : Nat} {ts : List Tok} (h : lexU l p = .toks ts) (p' : Nat) : ∃ us, lexU l p' = .toks us ∧ Bare ts us := by
  rw [lexU_at] at h
  rw [lexU_at]
  cases hr : lexU l 0 with
  | err e q => rw [hr] at h; cases h
  | toks us =>
    rw [hr] at h
    simp only [Res.shift, Res.toks.injEq] at h
    refine ⟨_, rfl, ?_⟩
    rw [← h]
    have e : ∀ l : List Tok, Bare (l.map (Tok.shift p)) l := by
      intro l
      induction l with
      | nil => trivial
      | cons a l ih => exact ⟨⟨rfl, rfl, rfl⟩, ih⟩
    exact (e us).trans (Bare.shift p' us)

/-- tokens' bytes with something that may stand behind them -/
theorem lex_put {l : List UInt8} {k v w : Nat} {t y : List UInt8} (ht : tokB l = .good k v w t) (hy : Fits l w y) (p : Nat) : lexU (l.take w ++ y) p = (lexU y (p + w)).pre [⟨k, p, v, t⟩] := by
  have hc := tok_cut ht y hy
  have hw := tok_width hc
  have hw2 := tok_width ht
  have hlen : (l.take w).length = w := by rw [List.length_take]; omega
  have h0 := hw.2.2
  rw [lexU_good (by rw [h0, List.drop_zero]; exact hc), h0, Nat.zero_add, Nat.add_zero, List.drop_left' hlen]

/-- the bytes of tokens, with one blank after each -/
def allW : List Tok → List UInt8
  | [] => []
  | t :: ts => wr t.kind t.text ++ 32 :: allW ts
theorem lex_again : ∀ (ts : List Tok) (l : List UInt8) (p p' : Nat), lexU l p = .toks ts → ∃ us, lexU (allW ts) p' = .toks us ∧ Bare ts us
  | [], l, p, p', h => ⟨[], lexU_gap rfl, trivial⟩
  | t :: ts, l, p, p', h => by
    obtain ⟨w, ht, hp, hr, hw, hwl⟩ := lex_first h
    obtain ⟨us, h1, h2⟩ := lex_again ts _ _ (p' + w + 1) hr
    have hwr := tok_written ht
    simp only [allW]
    rw [hwr.1, lex_put ht (.inr (.inr ⟨32, rfl, rfl⟩))]
    rw [lexU_skip (l := 32 :: allW ts) 1 (by simp [gp, isBlank]; omega)]
    simp only [List.drop_succ_cons, List.drop_zero]
    rw [h1]
    exact ⟨_, rfl, ⟨⟨rfl, rfl, rfl⟩, h2⟩⟩

theorem gap_head_fits {l : List UInt8} {w : Nat} (g x : List UInt8) (hg : gp false g = g.length) : Fits l w (g ++ 10 :: x) := by
  cases g with
  | nil => exact .inr (.inr ⟨10, rfl, rfl⟩)
  | cons c g => exact .inr (.inr ⟨c, rfl, gp_all_head _ hg c rfl⟩)

/-- gaps and a line feed behind a token -/
theorem lex_mid (g : List UInt8) (hg : gp false g = g.length) : ∀ (ts : List Tok) (l : List UInt8) (p i : Nat) (hi : i < ts.length), lexU l p = .toks ts →
    ∀ m, p + m = ts[i].pos + (wr ts[i].kind ts[i].text).length → m ≤ l.length ∧ ∀ p', ∃ us, lexU (l.take m ++ (g ++ 10 :: l.drop m)) p' = .toks us ∧ Bare ts us
  | [], l, p, i, hi, _, _, _ => by simp at hi
  | t :: ts, l, p, i, hi, h, m, hm => by
    obtain ⟨w, ht, hp, hr, hw, hwl⟩ := lex_first h
    have hwr := tok_written ht
    have h0 := (tok_width ht).2.2
    -- what stands before the token is gaps
    have front : ∀ (y : List UInt8) (p' : Nat), Fits (l.drop (gp false l)) w y → lexU (l.take (gp false l + w) ++ y) p' = (lexU y (p' + gp false l + w)).pre [⟨t.kind, p' + gp false l, t.n, t.text⟩] := by
      intro y p' hy
      have e1 : l.take (gp false l + w) = l.take (gp false l) ++ (l.drop (gp false l)).take w := List.take_add
      have hlen : (l.take (gp false l)).length = gp false l := by rw [List.length_take]; omega
      have e2 : (l.take (gp false l + w) ++ y).drop (gp false l) = (l.drop (gp false l)).take w ++ y := by
        rw [e1, List.append_assoc, List.drop_left' hlen]
      have e3 : gp false (l.take (gp false l + w)) = gp false l := gp_take_lt l false _ (by omega)
      have e4 : gp false (l.take (gp false l + w) ++ y) = gp false l := by
        rw [gp_append_lt _ _ _ (by rw [e3, List.length_take]; omega), e3]
      rw [lexU_skip (gp false l) (by rw [e4, e2, (tok_width (tok_cut ht y hy)).2.2, Nat.add_zero]), e2, lex_put ht hy]
    cases i with
    | zero =>
      simp only [List.getElem_cons_zero] at hm
      have hmw : m = gp false l + w := by rw [hwr.2] at hm; omega
      subst hmw
      refine ⟨hwl, fun p' => ?_⟩
      rw [front _ p' (gap_head_fits g _ hg), lex_gap_front g _ hg]
      obtain ⟨us, h1, h2⟩ := lexU_bare hr (p' + gp false l + w + g.length + 1)
      rw [h1]
      exact ⟨_, rfl, ⟨⟨rfl, rfl, rfl⟩, h2⟩⟩
    | succ i =>
      simp only [List.getElem_cons_succ] at hm
      have hi' : i < ts.length := by simpa using hi
      obtain ⟨hmge, hm0⟩ : gp false l + w ≤ m ∧ 0 < m - (gp false l + w) := by
        -- the places of later tokens are not before the end of the first one
        have key : ∀ (us : List Tok) (x : List UInt8) (q : Nat) (j : Nat) (hj : j < us.length), lexU x q = .toks us → q < us[j].pos + (wr us[j].kind us[j].text).length := by
          intro us
          induction us with
          | nil => intro x q j hj; simp at hj
          | cons u us ih =>
            intro x q j hj hx
            obtain ⟨w', ht', hp', hr', hw', hwl'⟩ := lex_first hx
            have hwr' := tok_written ht'
            cases j with
            | zero =>
              simp only [List.getElem_cons_zero]
              rw [hwr'.2]
              omega
            | succ j =>
              have := ih _ _ j (by simpa using hj) hr'
              simp only [List.getElem_cons_succ]
              omega
        have := key ts _ _ i hi' hr
        omega
      obtain ⟨m', rfl⟩ : ∃ m', m = gp false l + w + m' := ⟨m - (gp false l + w), by omega⟩
      obtain ⟨h1, h2⟩ := lex_mid g hg ts _ _ i hi' hr m' (by omega)
      rw [List.length_drop] at h1
      refine ⟨by omega, fun p' => ?_⟩
      have e1 : l.take (gp false l + w + m') = l.take (gp false l + w) ++ (l.drop (gp false l + w)).take m' := List.take_add
      obtain ⟨us, h3, h4⟩ := h2 (p' + gp false l + w)
      rw [e1, List.append_assoc, front _ p' ?_]
      · rw [show l.drop (gp false l + w + m') = (l.drop (gp false l + w)).drop m' from List.drop_drop.symm, h3]
        exact ⟨_, rfl, ⟨⟨rfl, rfl, rfl⟩, h4⟩⟩
      · refine .inr (.inl ?_)
        rw [List.drop_drop]
        cases hd : l.drop (gp false l + w) with
        | nil =>
          have := congrArg List.length hd
          rw [List.length_drop] at this
          simp at this
          omega
        | cons c y =>
          cases m' with
          | zero => omega
          | succ m' => rfl

/-! ### Two tokens side by side -/

theorem lex_two {l : List UInt8} {p : Nat} {t u : Tok} {ts : List Tok} (h : lexU l p = .toks (t :: u :: ts)) (hside : t.pos + (wr t.kind t.text).length = u.pos) :
    ∀ (p' : Nat) (us : List Tok), lexU (wr t.kind t.text ++ wr u.kind u.text) p' = .toks us → us.length ≠ 1 := by
  intro p' us hx
  obtain ⟨w, ht, hp, hr, hw, hwl⟩ := lex_first h
  obtain ⟨w2, ht2, hp2, hr2, hw2, hwl2⟩ := lex_first hr
  have hwr := tok_written ht
  have hwr2 := tok_written ht2
  rw [hwr.2] at hside
  have hg0 : gp false (l.drop (gp false l + w)) = 0 := by omega
  rw [hg0, List.drop_zero] at ht2 hwr2
  have hf : Fits (l.drop (gp false l)) w (wr u.kind u.text) := by
    refine .inr (.inl ?_)
    rw [List.drop_drop, hwr2.1]
    cases w2 with
    | zero => omega
    | succ w2 => rw [List.head?_take]; simp
  rw [hwr.1, lex_put ht hf] at hx
  have hne : lexU (wr u.kind u.text) (p' + w) ≠ .toks [] := by
    intro h0
    have h1 := lex_end h0
    have h2 := (tok_width (tok_cut ht2 [] (.inl rfl))).2.2
    rw [List.append_nil, ← hwr2.1, h1, hwr2.2] at h2
    omega
  cases hr : lexU (wr u.kind u.text) (p' + w) with
  | err e q => rw [hr] at hx; cases hx
  | toks vs =>
    rw [hr] at hx hne
    simp only [Res.pre, Res.toks.injEq] at hx
    subst hx
    cases vs with
    | nil => exact absurd rfl hne
    | cons v vs => simp

end Go.Proofs.YtcabhanmeookkaaDoor.Lx
