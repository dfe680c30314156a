/- Plain mathematics of layer 10 (alphabet): letters, how a text is read, and what makes reading take what was written. No Go, no program. -/
import Derived.Maps.Own
namespace Go.Proofs.YtcabhanmeookkaaDoor.Al
set_option linter.unusedVariables false
set_option linter.unusedSimpArgs false

abbrev Bs := List UInt8
/-- the letter with an index -/
def ltA (L : List Bs) (i : Nat) : Bs := L.getD i []
/-- letters, one after the other -/
def joinL (L : List Bs) : List Nat → Bs
  | [] => []
  | i :: r => ltA L i ++ joinL L r
def idxA (L : List Bs) (t : Bs) : Nat := L.idxOf t
/-- the index of the longest letter of at most so many bytes at the beginning of a text -/
def hit (L : List Bs) (t : Bs) : Nat → Option Nat
  | 0 => none
  | k + 1 => if k + 1 ≤ t.length ∧ L.contains (t.take (k + 1)) = true then some (idxA L (t.take (k + 1))) else hit L t k
def at1 (L : List Bs) (t : Bs) : Option Nat := hit L t 3
/-- the letters that are read, and what is left -/
def rdN (L : List Bs) : Nat → Bs → List Nat × Bs
  | 0, t => ([], t)
  | n + 1, t => match at1 L t with
    | none => ([], t)
    | some i => (i :: (rdN L n (t.drop (ltA L i).length)).1, (rdN L n (t.drop (ltA L i).length)).2)
def rd (L : List Bs) (t : Bs) : List Nat × Bs := rdN L t.length t

/-- do any letters, one after the other, begin with a text? -/
def begN (L : List Bs) : Nat → Bs → Bool
  | 0, _ => false
  | n + 1, t => L.any fun l => t.isPrefixOf l || (l.isPrefixOf t && begN L n (t.drop l.length))
def begB (L : List Bs) (t : Bs) : Bool := begN L (t.length + 1) t
def byteB (c : UInt8) : Bool := decide (33 ≤ c.toNat) && (decide (c.toNat ≤ 126) && !(decide (c.toNat = 34)))
def propB (l : Bs) : Bool := decide (1 ≤ l.length) && (decide (l.length ≤ 3) && l.all byteB)
def foldS (S : List Int) (n : Nat) : Bool := decide (S.length = n) && S.all fun s => decide (0 ≤ s) && (decide (s < (n : Int)) && decide (S.getD s.toNat 0 = s))
def faithAt (L : List Bs) (l : Bs) (k : Nat) : Bool := !(L.contains (l.take k) && begB L (l.drop k))
def faithL (L : List Bs) (l : Bs) : Bool := (List.range (l.length - 1)).all fun k => faithAt L l (k + 1)
def faithB (L : List Bs) : Bool := L.all (faithL L)
def nodupB : List Bs → Bool
  | [] => true
  | l :: r => !(r.contains l) && nodupB r

theorem nodup_iff : ∀ L : List Bs, nodupB L = true ↔ L.Nodup
  | [] => by simp [nodupB]
  | l :: r => by simp [nodupB, nodup_iff r, List.nodup_cons]

theorem ltA_mem {L : List Bs} {i : Nat} (h : i < L.length) : ltA L i ∈ L := by
  unfold ltA; rw [List.getD_eq_getElem?_getD, List.getElem?_eq_getElem h]; exact List.getElem_mem h
theorem idxA_lt {L : List Bs} {t : Bs} (h : t ∈ L) : idxA L t < L.length := List.idxOf_lt_length_of_mem h
theorem ltA_idx {L : List Bs} {t : Bs} (h : t ∈ L) : ltA L (idxA L t) = t := by
  unfold ltA idxA
  rw [List.getD_eq_getElem?_getD, List.getElem?_eq_getElem (List.idxOf_lt_length_of_mem h)]
  simp
theorem idx_ltA {L : List Bs} (hd : L.Nodup) {i : Nat} (h : i < L.length) : idxA L (ltA L i) = i := by
  unfold ltA idxA
  rw [List.getD_eq_getElem?_getD, List.getElem?_eq_getElem h]
  simp only [Option.getD_some]
  exact hd.idxOf_getElem i h
theorem hit_lt {L : List Bs} {t : Bs} {i : Nat} : ∀ k, hit L t k = some i → i < L.length
  | 0, h => by simp [hit] at h
  | k + 1, h => by
    unfold hit at h
    split at h
    · rename_i hc
      simp only [Option.some.injEq] at h
      subst h
      exact idxA_lt (by simpa using hc.2)
    · exact hit_lt k h
/-- what was taken stands at the beginning, and nothing longer does -/
theorem hit_spec {L : List Bs} {t : Bs} {i : Nat} : ∀ k, hit L t k = some i → 0 < (ltA L i).length ∧ (ltA L i).length ≤ k ∧ t.take (ltA L i).length = ltA L i ∧ (ltA L i).length ≤ t.length ∧ ∀ m ∈ L, (ltA L i).length < m.length → m.length ≤ k → ¬ m.isPrefixOf t = true
  | 0, h => by simp [hit] at h
  | k + 1, h => by
    unfold hit at h
    split at h
    · rename_i hc
      simp only [Option.some.injEq] at h
      subst h
      have hm : t.take (k + 1) ∈ L := by simpa using hc.2
      rw [ltA_idx hm]
      have hl : (t.take (k + 1)).length = k + 1 := by rw [List.length_take]; omega
      refine ⟨by omega, by omega, by rw [hl], by omega, fun m _ h1 h2 => by omega⟩
    · rename_i hc
      obtain ⟨a, b, c, d, e⟩ := hit_spec k h
      refine ⟨a, by omega, c, d, fun m hm h1 h2 hp => ?_⟩
      by_cases hk : m.length ≤ k
      · exact e m hm h1 hk hp
      · have hl : m.length = k + 1 := by omega
        rw [List.isPrefixOf_iff_prefix] at hp
        have h3 := List.prefix_iff_eq_take.1 hp
        have h4 := hp.length_le
        apply hc
        refine ⟨by omega, ?_⟩
        rw [← hl, ← h3]
        simpa using hm
theorem hit_none {L : List Bs} {t : Bs} : ∀ k, hit L t k = none → ∀ m ∈ L, 0 < m.length → m.length ≤ k → ¬ m.isPrefixOf t = true
  | 0, _ => fun m _ h1 h2 => by omega
  | k + 1, h => by
    unfold hit at h
    split at h
    · simp at h
    · rename_i hc
      intro m hm h1 h2 hp
      by_cases hk : m.length ≤ k
      · exact hit_none k h m hm h1 hk hp
      · have hl : m.length = k + 1 := by omega
        rw [List.isPrefixOf_iff_prefix] at hp
        have h3 := List.prefix_iff_eq_take.1 hp
        have h4 := hp.length_le
        apply hc
        refine ⟨by omega, ?_⟩
        rw [← hl, ← h3]
        simpa using hm
theorem hit_of {L : List Bs} (hd : L.Nodup) {t : Bs} {i : Nat} (hi : i < L.length) (h0 : 0 < (ltA L i).length) (hp : (ltA L i).isPrefixOf t = true) (hn : ∀ m ∈ L, (ltA L i).length < m.length → ¬ m.isPrefixOf t = true) : ∀ k, (ltA L i).length ≤ k → hit L t k = some i
  | 0, h => by omega
  | k + 1, h => by
    unfold hit
    have hp2 := hp
    rw [List.isPrefixOf_iff_prefix] at hp2
    have h3 := List.prefix_iff_eq_take.1 hp2
    have h4 := hp2.length_le
    by_cases hk : (ltA L i).length = k + 1
    · have h5 : t.take (k + 1) = ltA L i := by rw [← hk]; exact h3.symm
      rw [if_pos ⟨by omega, by rw [h5]; simpa using ltA_mem hi⟩, h5, idx_ltA hd hi]
    · rw [if_neg]
      · exact hit_of hd hi h0 hp hn k (by omega)
      · rintro ⟨h6, h7⟩
        have hm : t.take (k + 1) ∈ L := by simpa using h7
        have hl : (t.take (k + 1)).length = k + 1 := by rw [List.length_take]; omega
        exact hn _ hm (by omega) (by rw [List.isPrefixOf_iff_prefix]; exact List.take_prefix _ _)

/-! ### Reading -/

theorem at1_lt {L : List Bs} {t : Bs} {i : Nat} (h : at1 L t = some i) : i < L.length := hit_lt 3 h
theorem rdN_spec (L : List Bs) : ∀ (n : Nat) (t : Bs), t.length ≤ n → joinL L (rdN L n t).1 ++ (rdN L n t).2 = t ∧ (∀ i ∈ (rdN L n t).1, i < L.length) ∧ at1 L (rdN L n t).2 = none
  | 0, t, h => by
    have : t = [] := by cases t with | nil => rfl | cons a b => simp at h
    subst this
    refine ⟨rfl, by simp [rdN], ?_⟩
    simp [rdN, at1, hit]
  | n + 1, t, h => by
    unfold rdN
    cases hq : at1 L t with
    | none => exact ⟨rfl, by simp, hq⟩
    | some i =>
      obtain ⟨a, b, c, d, e⟩ := hit_spec 3 hq
      obtain ⟨h1, h2, h3⟩ := rdN_spec L n (t.drop (ltA L i).length) (by rw [List.length_drop]; omega)
      refine ⟨?_, ?_, h3⟩
      · show ltA L i ++ joinL L _ ++ _ = t
        rw [List.append_assoc, h1]
        conv => lhs; lhs; rw [← c]
        exact List.take_append_drop _ _
      · intro j hj
        simp only [List.mem_cons] at hj
        rcases hj with rfl | hj
        · exact at1_lt hq
        · exact h2 j hj
theorem rdN_more (L : List Bs) : ∀ (n m : Nat) (t : Bs), t.length ≤ n → t.length ≤ m → rdN L n t = rdN L m t
  | 0, 0, t, _, _ => rfl
  | 0, m + 1, t, h, _ => by
    have : t = [] := by cases t with | nil => rfl | cons a b => simp at h
    subst this
    simp [rdN, at1, hit]
  | n + 1, 0, t, _, h => by
    have : t = [] := by cases t with | nil => rfl | cons a b => simp at h
    subst this
    simp [rdN, at1, hit]
  | n + 1, m + 1, t, h1, h2 => by
    unfold rdN
    cases hq : at1 L t with
    | none => rfl
    | some i =>
      obtain ⟨a, b, c, d, e⟩ := hit_spec 3 hq
      have := rdN_more L n m (t.drop (ltA L i).length) (by rw [List.length_drop]; omega) (by rw [List.length_drop]; omega)
      simp only [this]
theorem rd_spec (L : List Bs) (t : Bs) : joinL L (rd L t).1 ++ (rd L t).2 = t ∧ (∀ i ∈ (rd L t).1, i < L.length) ∧ at1 L (rd L t).2 = none := rdN_spec L _ t (Nat.le_refl _)
theorem rd_none {L : List Bs} {t : Bs} (h : at1 L t = none) : rd L t = ([], t) := by
  unfold rd
  cases t with
  | nil => rfl
  | cons a b => simp only [List.length_cons, rdN, h]
theorem rd_some {L : List Bs} {t : Bs} {i : Nat} (h : at1 L t = some i) : rd L t = (i :: (rd L (t.drop (ltA L i).length)).1, (rd L (t.drop (ltA L i).length)).2) := by
  obtain ⟨a, b, c, d, e⟩ := hit_spec 3 h
  have e1 : rdN L t.length t = rdN L (t.length + 1) t := rdN_more L _ _ t (Nat.le_refl _) (by omega)
  unfold rd
  rw [e1]
  rw [rdN, h]
  simp only
  rw [rdN_more L t.length (t.drop (ltA L i).length).length _ (by rw [List.length_drop]; omega) (Nat.le_refl _)]

/-! ### Letters that are read as they were written -/

/-- an alphabet's letters are as they must be -/
structure Fine (L : List Bs) : Prop where
  nodup : L.Nodup
  prop : ∀ l ∈ L, 1 ≤ l.length ∧ l.length ≤ 3
  faith : ∀ l ∈ L, ∀ k, 1 ≤ k → k < l.length → l.take k ∈ L → begB L (l.drop k) = false

theorem beg_one {L : List Bs} {n : Nat} {t l : Bs} (hl : l ∈ L) (h : t.isPrefixOf l = true) : begN L (n + 1) t = true := by
  unfold begN; rw [List.any_eq_true]; exact ⟨l, hl, by rw [h]; rfl⟩
theorem beg_two {L : List Bs} {n : Nat} {t l : Bs} (hl : l ∈ L) (h : l.isPrefixOf t = true) (h2 : begN L n (t.drop l.length) = true) : begN L (n + 1) t = true := by
  unfold begN; rw [List.any_eq_true]; exact ⟨l, hl, by rw [h, h2]; simp⟩
theorem prefix_two {a b t : Bs} (ha : a <+: t) (hb : b <+: t) (h : a.length ≤ b.length) : a <+: b := List.prefix_of_prefix_length_le ha hb h
theorem drop_prefix {a b c : Bs} (h : a <+: b ++ c) (hl : b.length ≤ a.length) : a.drop b.length <+: c := by
  obtain ⟨r, hr⟩ := h
  refine ⟨r, ?_⟩
  have := congrArg (List.drop b.length) hr
  rw [List.drop_append_of_le_length hl, List.drop_left] at this
  exact this
theorem beg_join {L : List Bs} (hp : ∀ l ∈ L, 1 ≤ l.length ∧ l.length ≤ 3) : ∀ (js : List Nat) (u : Bs) (n : Nat), (∀ j ∈ js, j < L.length) → u ≠ [] → u <+: joinL L js → u.length < n → begN L n u = true
  | [], u, n, _, h0, h, _ => by
    have := h.length_le
    simp only [joinL, List.length_nil, Nat.le_zero] at this
    exact absurd (List.length_eq_zero_iff.1 this) h0
  | j :: js, u, 0, _, _, _, hn => by omega
  | j :: js, u, n + 1, hj, h0, h, hn => by
    have hm : ltA L j ∈ L := ltA_mem (hj j List.mem_cons_self)
    have h1 := hp _ hm
    have h' : u <+: ltA L j ++ joinL L js := h
    by_cases hl : u.length ≤ (ltA L j).length
    · refine beg_one hm ?_
      rw [List.isPrefixOf_iff_prefix]
      exact prefix_two h' (List.prefix_append _ _) hl
    · have h2 : ltA L j <+: u := prefix_two (List.prefix_append _ _) h' (by omega)
      refine beg_two hm (by rw [List.isPrefixOf_iff_prefix]; exact h2) ?_
      refine beg_join hp js _ n (fun i hi => hj i (List.mem_cons_of_mem _ hi)) ?_ (drop_prefix h' (by omega)) (by rw [List.length_drop]; omega)
      intro hc
      have := congrArg List.length hc
      rw [List.length_drop, List.length_nil] at this
      omega
theorem at1_join {L : List Bs} (F : Fine L) {i : Nat} (hi : i < L.length) (js : List Nat) (hj : ∀ j ∈ js, j < L.length) : at1 L (ltA L i ++ joinL L js) = some i := by
  have hm := ltA_mem hi
  have h1 := F.prop _ hm
  refine hit_of F.nodup hi (by omega) (by rw [List.isPrefixOf_iff_prefix]; exact List.prefix_append _ _) ?_ 3 (by omega)
  intro m hm2 hlt hp
  rw [List.isPrefixOf_iff_prefix] at hp
  have h2 : ltA L i <+: m := prefix_two (List.prefix_append _ _) hp (by omega)
  have h3 : m.take (ltA L i).length = ltA L i := (List.prefix_iff_eq_take.1 h2).symm
  have h4 := F.faith m hm2 (ltA L i).length (by omega) hlt (by rw [h3]; exact hm)
  have h5 : begB L (m.drop (ltA L i).length) = true := by
    refine beg_join F.prop js _ _ hj ?_ (drop_prefix hp (by omega)) (Nat.lt_succ_self _)
    intro hc
    have := congrArg List.length hc
    rw [List.length_drop, List.length_nil] at this
    omega
  rw [h5] at h4
  cases h4
theorem rd_join {L : List Bs} (F : Fine L) : ∀ js : List Nat, (∀ j ∈ js, j < L.length) → rd L (joinL L js) = (js, [])
  | [], _ => rd_none (by simp [joinL, at1, hit])
  | i :: js, h => by
    have hi := h i List.mem_cons_self
    have hr : ∀ j ∈ js, j < L.length := fun j hj => h j (List.mem_cons_of_mem _ hj)
    show rd L (ltA L i ++ joinL L js) = _
    rw [rd_some (at1_join F hi js hr), List.drop_left, rd_join F js hr]
theorem joinL_append (L : List Bs) : ∀ a b : List Nat, joinL L (a ++ b) = joinL L a ++ joinL L b
  | [], b => rfl
  | i :: a, b => by show ltA L i ++ joinL L (a ++ b) = _; rw [joinL_append L a b, ← List.append_assoc]; rfl
theorem joinL_len {L : List Bs} (hp : ∀ l ∈ L, 1 ≤ l.length ∧ l.length ≤ 3) : ∀ a : List Nat, (∀ j ∈ a, j < L.length) → a.length ≤ (joinL L a).length ∧ (joinL L a).length ≤ a.length * 3
  | [], _ => by simp [joinL]
  | i :: a, h => by
    have h1 := hp _ (ltA_mem (h i List.mem_cons_self))
    have h2 := joinL_len hp a (fun j hj => h j (List.mem_cons_of_mem _ hj))
    simp only [joinL, List.length_append, List.length_cons]
    omega

/-! ### What makes an alphabet valid -/

def lettersB (L : List Bs) : Bool := decide (1 ≤ L.length) && (decide (L.length ≤ 64) && (L.all propB && (nodupB L && faithB L)))
theorem prop_of {l : Bs} (h : propB l = true) : 1 ≤ l.length ∧ l.length ≤ 3 := by
  unfold propB at h
  simp only [Bool.and_eq_true, decide_eq_true_eq] at h
  exact ⟨h.1, h.2.1⟩
theorem faith_iff (L : List Bs) : faithB L = true ↔ ∀ l ∈ L, ∀ k, 1 ≤ k → k < l.length → l.take k ∈ L → begB L (l.drop k) = false := by
  unfold faithB faithL faithAt
  simp only [List.all_eq_true, List.mem_range, Bool.not_eq_true', Bool.and_eq_false_iff]
  constructor
  · intro h l hl k h1 h2 hm
    have := h l hl (k - 1) (by omega)
    rw [Nat.sub_add_cancel h1] at this
    rcases this with h3 | h3
    · rw [List.contains_eq_mem] at h3; simp [hm] at h3
    · exact h3
  · intro h l hl k hk
    by_cases hm : l.take (k + 1) ∈ L
    · exact .inr (h l hl (k + 1) (by omega) (by omega) hm)
    · exact .inl (by rw [List.contains_eq_mem]; simp [hm])
theorem fine_of {L : List Bs} (h : lettersB L = true) : Fine L := by
  unfold lettersB at h
  simp only [Bool.and_eq_true, decide_eq_true_eq, List.all_eq_true] at h
  exact ⟨(nodup_iff L).1 h.2.2.2.1, fun l hl => prop_of (h.2.2.1 l hl), (faith_iff L).1 h.2.2.2.2⟩
end Go.Proofs.YtcabhanmeookkaaDoor.Al
