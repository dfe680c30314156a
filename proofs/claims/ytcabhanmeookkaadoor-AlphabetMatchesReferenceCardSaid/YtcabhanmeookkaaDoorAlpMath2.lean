/- Plain mathematics of layer 10 (alphabet): the map of letters, what reading, joining and folding return, and the laws about them. No Go, no program. -/
import Derived.Test.YtcabhanmeookkaaDoorAlpMath
import Derived.Test.YtcabhanmeookkaaDoorLexMath
import Derived.Maps.Views
namespace Go.Proofs.YtcabhanmeookkaaDoor.Al
set_option linter.unusedVariables false
set_option linter.unusedSimpArgs false

/-! ### The map of letters -/

/-- the map behind so many letters -/
def dm (H : Type) (L : List Bs) : Nat → DataW H
  | 0 => .map []
  | k + 1 => (dm H L k).put (.string (ltA L k)) (.lit (.int .i64 (k : Int)))
theorem strKey (t : Bs) : WideAt.IsKeyLit (.string t) := trivial
theorem dm_tidy (H : Type) (L : List Bs) : ∀ k, Maps.Tidy (dm H L k)
  | 0 => Maps.tidy_empty
  | k + 1 => (dm_tidy H L k).put (strKey _) _
theorem str_ne {a b : Bs} (h : a ≠ b) : (Lit.string a) ≠ Lit.string b := fun e => h (by injection e)
theorem dm_has (H : Type) (L : List Bs) (t : Bs) : ∀ k, Maps.has (dm H L k) (.string t) = true ↔ ∃ i, i < k ∧ ltA L i = t
  | 0 => by
    constructor
    · intro h; cases h
    · rintro ⟨i, h, _⟩; omega
  | k + 1 => by
    unfold dm
    by_cases h : ltA L k = t
    · rw [h, Maps.has_put_same (dm_tidy H L k).isMap (strKey _)]
      exact ⟨fun _ => ⟨k, by omega, h⟩, fun _ => rfl⟩
    · rw [Maps.has_put_other (str_ne (fun e => h e.symm)), dm_has H L t k]
      constructor
      · rintro ⟨i, h1, h2⟩; exact ⟨i, by omega, h2⟩
      · rintro ⟨i, h1, h2⟩
        refine ⟨i, ?_, h2⟩
        rcases Nat.lt_succ_iff_lt_or_eq.1 h1 with h3 | rfl
        · exact h3
        · exact absurd h2 h
theorem dm_at (H : Type) (L : List Bs) (z : DataW H) (i : Nat) : ∀ k, i < k → (∀ j, i < j → j < k → ltA L j ≠ ltA L i) → (dm H L k).atKey (.string (ltA L i)) z = .lit (.int .i64 (i : Int))
  | 0, h, _ => by omega
  | k + 1, h, hn => by
    unfold dm
    by_cases hk : i = k
    · subst hk
      exact Maps.atKey_put_same (dm_tidy H L i).isMap (strKey _) _ _
    · rw [Maps.atKey_put_other (str_ne (fun e => hn k (by omega) (by omega) e.symm))]
      exact dm_at H L z i k (by omega) (fun j h1 h2 => hn j h1 (by omega))
/-- all of the first letters are different -/
def Apart (L : List Bs) (k : Nat) : Prop := ∀ i j, i < j → j < k → ltA L i ≠ ltA L j
theorem dm_size (H : Type) (L : List Bs) : ∀ k, Maps.size (dm H L k) ≤ k ∧ (Maps.size (dm H L k) = k ↔ Apart L k)
  | 0 => ⟨Nat.le_refl _, fun _ i j h1 h2 => by omega, fun _ => rfl⟩
  | k + 1 => by
    obtain ⟨h1, h2⟩ := dm_size H L k
    have hs := Maps.size_put (k := .string (ltA L k)) (dm_tidy H L k) (.lit (.int .i64 (k : Int)) : DataW H)
    have hh := dm_has H L (ltA L k) k
    unfold dm
    by_cases h : Maps.has (dm H L k) (.string (ltA L k)) = true
    · rw [hs, if_pos h]
      refine ⟨by omega, by omega, fun ha => ?_⟩
      obtain ⟨i, hi, e⟩ := hh.1 h
      exact absurd e (ha i k hi (by omega))
    · rw [hs, if_neg h]
      refine ⟨by omega, fun e i j hi hj => ?_, fun ha => ?_⟩
      · rcases Nat.lt_succ_iff_lt_or_eq.1 hj with h3 | rfl
        · exact h2.1 (by omega) i j hi h3
        · exact fun e => h (hh.2 ⟨i, hi, e⟩)
      · rw [h2.2 (fun i j hi hj => ha i j hi (by omega))]
theorem ltA_get {L : List Bs} {i : Nat} (h : i < L.length) : ltA L i = L[i] := by
  unfold ltA; rw [List.getD_eq_getElem?_getD, List.getElem?_eq_getElem h]; rfl
theorem apart_iff (L : List Bs) : Apart L L.length ↔ L.Nodup := by
  constructor
  · intro h
    rw [List.nodup_iff_pairwise_ne, List.pairwise_iff_getElem]
    intro i j hi hj hij
    have := h i j hij hj
    rwa [ltA_get hi, ltA_get hj] at this
  · intro h i j hij hj
    rw [List.nodup_iff_pairwise_ne, List.pairwise_iff_getElem] at h
    have := h i j (by omega) hj hij
    rwa [← ltA_get (by omega : i < L.length), ← ltA_get hj] at this
theorem dm_all (H : Type) {L : List Bs} (t : Bs) : Maps.has (dm H L L.length) (.string t) = L.contains t := by
  rw [Bool.eq_iff_iff, dm_has]
  constructor
  · rintro ⟨i, h, rfl⟩; simpa using ltA_mem h
  · intro h
    have hm : t ∈ L := by simpa using h
    exact ⟨idxA L t, idxA_lt hm, ltA_idx hm⟩
theorem dm_found (H : Type) {L : List Bs} (hd : L.Nodup) {t : Bs} (h : L.contains t = true) (z : DataW H) : (dm H L L.length).atKey (.string t) z = .lit (.int .i64 (idxA L t : Int)) := by
  have hm : t ∈ L := by simpa using h
  have h1 := idxA_lt hm
  have h2 := ltA_idx hm
  have h3 := dm_at H L z (idxA L t) L.length h1 (fun j hj hl e => (apart_iff L).2 hd _ _ hj hl e.symm)
  rwa [h2] at h3
theorem dm_nodup (H : Type) (L : List Bs) : decide (Maps.size (dm H L L.length) = L.length) = nodupB L := by
  rw [Bool.eq_iff_iff, decide_eq_true_eq, (dm_size H L L.length).2, apart_iff, nodup_iff]

/-! ### What the functions return -/

def nameB (t : Bs) : Bool := match t with | [] => false | c :: r => Lx.isLet c && (r.all Lx.isWord && decide (r.length + 1 ≤ 24))
/-- is an alphabet valid? -/
def validA (nm : Bs) (L : List Bs) (S : List Int) : Bool := lettersB L && (foldS S L.length && nameB nm)
def readV (L : List Bs) (t : Bs) : List Nat × Nat × Nat :=
  if t.length = 0 then ([], 6, 0)
  else if 24 < (rd L t).1.length then ([], 2, (joinL L ((rd L t).1.take 24)).length)
  else if (rd L t).2.length ≠ 0 then ([], 3, (joinL L (rd L t).1).length)
  else ((rd L t).1, 0, 0)
def readA (V : Bool) (L : List Bs) (t : Bs) : List Nat × Nat × Nat := if V = true then readV L t else ([], 1, 0)
def inB (n : Nat) (x : List Int) : Bool := decide (1 ≤ x.length) && (decide (x.length ≤ 24) && x.all fun i => decide (0 ≤ i) && decide (i < (n : Int)))
def joinA (V : Bool) (L : List Bs) (x : List Int) : Bs × Nat := if V && inB L.length x = true then (joinL L (x.map Int.toNat), 0) else ([], 1)
def smallA (S : List Int) (i : Nat) : Nat := (S.getD i 0).toNat
def foldA (V : Bool) (L : List Bs) (S : List Int) (t : Bs) : Bs × Nat := if (readA V L t).2.1 = 0 then (joinL L ((readA V L t).1.map (smallA S)), 0) else ([], 1)

theorem readV_cases (L : List Bs) (t : Bs) :
    (t.length = 0 ∧ readV L t = ([], 6, 0)) ∨
    (t.length ≠ 0 ∧ 24 < (rd L t).1.length ∧ readV L t = ([], 2, (joinL L ((rd L t).1.take 24)).length)) ∨
    (t.length ≠ 0 ∧ (rd L t).1.length ≤ 24 ∧ (rd L t).2.length ≠ 0 ∧ readV L t = ([], 3, (joinL L (rd L t).1).length)) ∨
    (t.length ≠ 0 ∧ (rd L t).1.length ≤ 24 ∧ (rd L t).2.length = 0 ∧ readV L t = ((rd L t).1, 0, 0)) := by
  unfold readV
  by_cases h1 : t.length = 0
  · exact .inl ⟨h1, if_pos h1⟩
  · by_cases h2 : 24 < (rd L t).1.length
    · exact .inr (.inl ⟨h1, h2, by rw [if_neg h1, if_pos h2]⟩)
    · by_cases h3 : (rd L t).2.length = 0
      · exact .inr (.inr (.inr ⟨h1, by omega, h3, by rw [if_neg h1, if_neg h2, if_neg (by omega)]⟩))
      · exact .inr (.inr (.inl ⟨h1, by omega, h3, by rw [if_neg h1, if_neg h2, if_pos h3]⟩))
theorem readV_err (L : List Bs) (t : Bs) (h : (readV L t).2.1 ≠ 0) : (readV L t).1 = [] := by
  rcases readV_cases L t with ⟨_, e⟩ | ⟨_, _, e⟩ | ⟨_, _, _, e⟩ | ⟨_, _, _, e⟩
  · rw [e]
  · rw [e]
  · rw [e]
  · rw [e] at h; exact absurd rfl h
/-- a word -/
structure Word (L : List Bs) (t : Bs) (a : List Nat) : Prop where
  is : rd L t = (a, [])
  join : joinL L a = t
  lt : ∀ i ∈ a, i < L.length
  pos : 1 ≤ a.length
  le : a.length ≤ 24
theorem readV_ok (L : List Bs) (t : Bs) (h : (readV L t).2.1 = 0) : (readV L t).2.2 = 0 ∧ Word L t (readV L t).1 := by
  rcases readV_cases L t with ⟨_, e⟩ | ⟨_, _, e⟩ | ⟨_, _, _, e⟩ | ⟨h0, h1, h2, e⟩
  · rw [e] at h; cases h
  · rw [e] at h; cases h
  · rw [e] at h; cases h
  · rw [e]
    obtain ⟨s1, s2, s3⟩ := rd_spec L t
    have h3 : (rd L t).2 = [] := List.length_eq_zero_iff.1 h2
    rw [h3, List.append_nil] at s1
    refine ⟨rfl, ⟨Prod.ext rfl h3, s1, s2, ?_, h1⟩⟩
    show 1 ≤ (rd L t).1.length
    cases hq : (rd L t).1 with
    | nil => rw [hq] at s1; simp only [joinL] at s1; subst s1; exact absurd rfl h0
    | cons a b => simp
theorem Word.ne {L : List Bs} {t : Bs} {a : List Nat} (F : Fine L) (h : Word L t a) : t.length ≠ 0 := by
  have h1 := joinL_len F.prop a h.lt
  rw [h.join] at h1
  have := h.pos
  omega
theorem Word.read {L : List Bs} {t : Bs} {a : List Nat} (F : Fine L) (h : Word L t a) : readV L t = (a, 0, 0) := by
  have h1 := h.ne F
  have h2 := h.le
  unfold readV
  rw [if_neg h1, h.is, if_neg (show ¬ 24 < a.length by omega), if_neg (by simp)]
theorem word_join {L : List Bs} (F : Fine L) (a : List Nat) (h : ∀ i ∈ a, i < L.length) (h1 : 1 ≤ a.length) (h2 : a.length ≤ 24) : Word L (joinL L a) a :=
  ⟨rd_join F a h, rfl, h, h1, h2⟩

/-- what stands at the place of a letter -/
theorem rd_at {L : List Bs} : ∀ (n : Nat) (t : Bs), t.length ≤ n → ∀ k (h : k < (rd L t).1.length), at1 L (t.drop (joinL L ((rd L t).1.take k)).length) = some (rd L t).1[k]
  | n, t, hn, k, h => by
    cases hq : at1 L t with
    | none => rw [rd_none hq] at h; simp at h
    | some i =>
      obtain ⟨p1, p2, p3, p4, p5⟩ := hit_spec 3 hq
      have e := rd_some hq
      cases k with
      | zero =>
        simp only [List.take_zero, joinL, List.length_nil, List.drop_zero, e, List.getElem_cons_zero]
        exact hq
      | succ k =>
        cases n with
        | zero => omega
        | succ n =>
          have hk : k < (rd L (t.drop (ltA L i).length)).1.length := by rw [e] at h; simpa using h
          have := rd_at n (t.drop (ltA L i).length) (by rw [List.length_drop]; omega) k hk
          simp only [e, List.take_succ_cons, joinL, List.length_append, List.getElem_cons_succ]
          rw [← List.drop_drop]
          exact this

/-! ### The laws -/

theorem folded_word {L : List Bs} {S : List Int} (F : Fine L) (hS : foldS S L.length = true) {t : Bs} {a : List Nat} (h : Word L t a) :
    Word L (joinL L (a.map (smallA S))) (a.map (smallA S)) ∧ (a.map (smallA S)).map (smallA S) = a.map (smallA S) := by
  unfold foldS at hS
  simp only [Bool.and_eq_true, decide_eq_true_eq, List.all_eq_true] at hS
  have hs : ∀ i, i < L.length → smallA S i < L.length ∧ smallA S (smallA S i) = smallA S i := by
    intro i hi
    have hm : S.getD i 0 ∈ S := by rw [List.getD_eq_getElem?_getD, List.getElem?_eq_getElem (by omega : i < S.length)]; exact List.getElem_mem _
    obtain ⟨a, b, c⟩ := hS.2 _ hm
    refine ⟨by unfold smallA; omega, ?_⟩
    show (S.getD (S.getD i 0).toNat 0).toNat = (S.getD i 0).toNat
    rw [c]
  refine ⟨word_join F _ ?_ (by simpa using h.pos) (by simpa using h.le), ?_⟩
  · intro j hj
    obtain ⟨i, hi, rfl⟩ := List.mem_map.1 hj
    exact (hs i (h.lt i hi)).1
  · rw [List.map_map]
    exact List.map_congr_left fun i hi => (hs i (h.lt i hi)).2
theorem take_of {t a b : Bs} (h : t = a ++ b) : t.take a.length = a := by rw [h]; exact List.take_left
/-- the text before the place of an error is empty or a word -/
theorem before_error {L : List Bs} (F : Fine L) (t : Bs) (c p : Nat) (h : readV L t = ([], c, p)) (hc : c = 3 ∨ c = 2) :
    p < t.length ∧ (p = 0 → c = 3) ∧ (p ≠ 0 → ∃ a, Word L (t.take p) a ∧ (c = 3 ∨ a.length = 24)) := by
  obtain ⟨s1, s2, s3⟩ := rd_spec L t
  rcases readV_cases L t with ⟨_, e⟩ | ⟨h0, h1, e⟩ | ⟨h0, h1, h2, e⟩ | ⟨h0, h1, h2, e⟩
  · rw [h] at e; simp only [Prod.mk.injEq, true_and] at e; omega
  · rw [h] at e; simp only [Prod.mk.injEq, true_and] at e
    obtain ⟨rfl, rfl⟩ := e
    have hlt : ∀ i ∈ (rd L t).1.take 24, i < L.length := fun i hi => s2 i (List.mem_of_mem_take hi)
    have hl : ((rd L t).1.take 24).length = 24 := by rw [List.length_take]; omega
    have h3 := joinL_len F.prop _ hlt
    have hd : joinL L ((rd L t).1.take 24) ++ joinL L ((rd L t).1.drop 24) = joinL L (rd L t).1 := by rw [← joinL_append, List.take_append_drop]
    have h4 := joinL_len F.prop ((rd L t).1.drop 24) (fun i hi => s2 i (List.mem_of_mem_drop hi))
    rw [List.length_drop] at h4
    have h5 : t = joinL L ((rd L t).1.take 24) ++ (joinL L ((rd L t).1.drop 24) ++ (rd L t).2) := by rw [← List.append_assoc, hd, s1]
    have h6 := congrArg List.length h5
    simp only [List.length_append] at h6
    refine ⟨by omega, by omega, fun _ => ⟨(rd L t).1.take 24, ?_, .inr hl⟩⟩
    have h7 : t.take (joinL L ((rd L t).1.take 24)).length = joinL L ((rd L t).1.take 24) := take_of h5
    rw [h7]
    exact word_join F _ hlt (by omega) (by omega)
  · rw [h] at e; simp only [Prod.mk.injEq, true_and] at e
    obtain ⟨rfl, rfl⟩ := e
    have h6 := congrArg List.length s1
    simp only [List.length_append] at h6
    refine ⟨by omega, fun _ => rfl, fun hp => ⟨(rd L t).1, ?_, .inl rfl⟩⟩
    have h7 : t.take (joinL L (rd L t).1).length = joinL L (rd L t).1 := take_of s1.symm
    rw [h7]
    refine word_join F _ s2 ?_ h1
    cases hq : (rd L t).1 with
    | nil => rw [hq] at hp; exact absurd rfl hp
    | cons a b => simp
  · rw [h] at e; simp only [Prod.mk.injEq, true_and] at e; omega
theorem readV_both {L : List Bs} (F : Fine L) {x y : Bs} {a b : List Nat} (hx : Word L x a) (hy : Word L y b) :
    if a.length + b.length ≤ 24 then readV L (x ++ y) = (a ++ b, 0, 0) else (readV L (x ++ y)).2.1 = 2 := by
  have hlt : ∀ i ∈ a ++ b, i < L.length := fun i hi => (List.mem_append.1 hi).elim (hx.lt i) (hy.lt i)
  have hj : x ++ y = joinL L (a ++ b) := by rw [joinL_append, hx.join, hy.join]
  have hp := hx.pos
  split
  · rename_i h
    rw [hj]
    exact (word_join F _ hlt (by rw [List.length_append]; omega) (by rw [List.length_append]; omega)).read F
  · rename_i h
    have h1 := joinL_len F.prop _ hlt
    rw [List.length_append] at h1
    unfold readV
    rw [hj, if_neg (by omega), rd_join F _ hlt, if_pos (by rw [List.length_append]; omega)]

/-! ### Fewer letters, and letters of one length -/

theorem begN_sub {L M : List Bs} (h : ∀ l ∈ M, l ∈ L) : ∀ (n : Nat) (t : Bs), begN M n t = true → begN L n t = true
  | 0, t, e => by cases e
  | n + 1, t, e => by
    unfold begN at e
    rw [List.any_eq_true] at e
    obtain ⟨l, hl, e⟩ := e
    rw [Bool.or_eq_true, Bool.and_eq_true] at e
    rcases e with e | ⟨e, e2⟩
    · exact beg_one (h l hl) e
    · exact beg_two (h l hl) e (begN_sub h n _ e2)
theorem faith_sub {L M : List Bs} (h : ∀ l ∈ M, l ∈ L) (hf : faithB L = true) : faithB M = true := by
  rw [faith_iff] at hf ⊢
  intro l hl k h1 h2 hm
  have := hf l (h l hl) k h1 h2 (h _ hm)
  cases hb : begB M (l.drop k) with
  | false => rfl
  | true => unfold begB at hb this; rw [begN_sub h _ _ hb] at this; cases this
theorem fewer_valid (nm : Bs) (L : List Bs) (S : List Int) (n : Nat) (hn : 1 ≤ n) (hl : L.length = n + 1) (hv : validA nm L S = true) (hs : ∀ i, i < n → S.getD i 0 ≠ (n : Int)) :
    validA nm (L.take n) (S.take n) = true := by
  unfold validA lettersB at hv ⊢
  simp only [Bool.and_eq_true, decide_eq_true_eq] at hv ⊢
  obtain ⟨⟨h1, h2, h3, h4, h5⟩, h6, h7⟩ := hv
  have hm : ∀ l ∈ L.take n, l ∈ L := fun l h => List.mem_of_mem_take h
  have hL : (L.take n).length = n := by rw [List.length_take]; omega
  refine ⟨⟨by omega, by omega, ?_, ?_, faith_sub hm h5⟩, ?_, h7⟩
  · rw [List.all_eq_true] at h3 ⊢
    exact fun l h => h3 l (hm l h)
  · rw [nodup_iff] at h4 ⊢
    exact h4.sublist (List.take_sublist _ _)
  · unfold foldS at h6 ⊢
    simp only [Bool.and_eq_true, decide_eq_true_eq, List.all_eq_true] at h6 ⊢
    obtain ⟨h8, h9⟩ := h6
    rw [hL]
    have hS : S.length = n + 1 := by omega
    refine ⟨by rw [List.length_take]; omega, fun s hs' => ?_⟩
    obtain ⟨a, b, c⟩ := h9 s (List.mem_of_mem_take hs')
    obtain ⟨i, hi, e⟩ := List.mem_iff_getElem.1 hs'
    have hi2 : i < n := by rw [List.length_take] at hi; omega
    have e2 : S.getD i 0 = s := by
      rw [List.getElem_take] at e
      rw [List.getD_eq_getElem?_getD, List.getElem?_eq_getElem (by omega : i < S.length), e]; rfl
    have h10 := hs i hi2
    rw [e2] at h10
    refine ⟨a, by omega, ?_⟩
    rw [List.getD_eq_getElem?_getD, List.getElem?_take_of_lt (by omega), ← List.getD_eq_getElem?_getD]
    exact c
theorem faith_same {L : List Bs} (n : Nat) (h : ∀ l ∈ L, l.length = n) : faithB L = true := by
  rw [faith_iff]
  intro l hl k h1 h2 hm
  have := h _ hm
  rw [List.length_take] at this
  have := h l hl
  omega
end Go.Proofs.YtcabhanmeookkaaDoor.Al
