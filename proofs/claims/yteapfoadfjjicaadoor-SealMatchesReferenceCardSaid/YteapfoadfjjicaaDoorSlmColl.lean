/- Plain mathematics of layer 3: digits of messages, chains, one-time keys, what is digested on the way. No Go, no program. -/
import Derived.Test.YteapfoadfjjicaaDoorTreeBind
namespace Go.Proofs.YteapfoadfjjicaaDoor.Dig
set_option linter.unusedVariables false
set_option linter.unusedSimpArgs false

/-! ### Digits -/

def hexVal (b : UInt8) : Nat := if b.toNat < 58 then b.toNat - 48 else b.toNat - 87
theorem hexVal_le {b : UInt8} (h : isHex b = true) : hexVal b ≤ 15 := by
  unfold isHex at h
  unfold hexVal
  simp only [Bool.or_eq_true, Bool.and_eq_true, decide_eq_true_eq] at h
  split <;> omega
theorem hexVal_inj {a b : UInt8} (ha : isHex a = true) (hb : isHex b = true) (h : hexVal a = hexVal b) : a = b := by
  unfold isHex at ha hb
  unfold hexVal at h
  simp only [Bool.or_eq_true, Bool.and_eq_true, decide_eq_true_eq] at ha hb
  apply UInt8.toNat_inj.1
  split at h <;> split at h <;> omega

/-- what is left to the greatest digits -/
def chkN : List Nat → Nat
  | [] => 0
  | d :: r => (15 - d) + chkN r
theorem chkN_append (a b : List Nat) : chkN (a ++ b) = chkN a + chkN b := by
  induction a with
  | nil => simp [chkN]
  | cons x r ih => simp only [List.cons_append, chkN, ih]; omega
theorem chkN_le (d : List Nat) : chkN d ≤ 15 * d.length := by
  induction d with
  | nil => simp [chkN]
  | cons x r ih => simp only [chkN, List.length_cons]; omega

theorem chk_mono : ∀ d e : List Nat, d.length = e.length → (∀ k, k < d.length → d.getD k 0 ≤ e.getD k 0) → (∀ x ∈ e, x ≤ 15) → chkN e ≤ chkN d ∧ (chkN e = chkN d → d = e)
  | [], [], _, _, _ => ⟨Nat.le_refl _, fun _ => rfl⟩
  | [], _ :: _, h, _, _ => by simp at h
  | _ :: _, [], h, _, _ => by simp at h
  | x :: d, y :: e, h, hle, h15 => by
    obtain ⟨h1, h2⟩ := chk_mono d e (by simpa using h) (fun k hk => by simpa using hle (k + 1) (by simpa using hk)) (fun z hz => h15 z (List.mem_cons_of_mem _ hz))
    have h3 : x ≤ y := by simpa using hle 0 (by simp)
    have h4 := h15 y List.mem_cons_self
    simp only [chkN]
    refine ⟨by omega, fun h5 => ?_⟩
    rw [h2 (by omega), show x = y by omega]

/-- the digits of the digest, and all eighteen of them -/
def hexD (m : ByteArray) : List Nat := (dsum (bl m)).map hexVal
def digsB (m : ByteArray) : List Nat := hexD m ++ [chkN (hexD m) / 16, chkN (hexD m) % 16]
theorem hexD_length (m : ByteArray) : (hexD m).length = 16 := by unfold hexD; rw [List.length_map, dsum_length]
theorem digsB_length (m : ByteArray) : (digsB m).length = 18 := by unfold digsB; rw [List.length_append, hexD_length]; rfl
theorem dsum_hex (m : ByteArray) : ∀ c ∈ dsum (bl m), isHex c = true := by
  have h := dsum_isDig (bl m)
  unfold isDig at h
  rw [Bool.and_eq_true, List.all_eq_true] at h
  exact h.2
theorem hexD_le (m : ByteArray) : ∀ d ∈ hexD m, d ≤ 15 := by
  intro d hd
  unfold hexD at hd
  obtain ⟨c, hc, h⟩ := List.mem_map.1 hd
  rw [← h]
  exact hexVal_le (dsum_hex m c hc)
theorem chk_hexD (m : ByteArray) : chkN (hexD m) ≤ 240 := by
  have := chkN_le (hexD m)
  rw [hexD_length] at this
  omega
theorem snoc2_le (l : List Nat) (a b c : Nat) (hl : ∀ d ∈ l, d ≤ c) (ha : a ≤ c) (hb : b ≤ c) : ∀ d ∈ l ++ [a, b], d ≤ c := by
  intro d hd
  simp only [List.mem_append, List.mem_cons, List.not_mem_nil, or_false] at hd
  rcases hd with hd | hd | hd
  · exact hl d hd
  · rw [hd]; exact ha
  · rw [hd]; exact hb
theorem snoc2_at (l : List Nat) (a b : Nat) (hl : l.length = 16) : (l ++ [a, b]).getD 16 0 = a ∧ (l ++ [a, b]).getD 17 0 = b ∧ ∀ k, k < 16 → (l ++ [a, b]).getD k 0 = l.getD k 0 := by
  simp only [List.getD_eq_getElem?_getD]
  refine ⟨?_, ?_, fun k hk => ?_⟩
  · rw [List.getElem?_append_right (by omega), hl]; rfl
  · rw [List.getElem?_append_right (by omega), hl]; rfl
  · rw [List.getElem?_append_left (by omega)]
theorem digsB_le (m : ByteArray) : ∀ d ∈ digsB m, d ≤ 15 := by
  have := chk_hexD m
  exact snoc2_le (hexD m) _ _ 15 (hexD_le m) (by omega) (by omega)
theorem getD_lt {α : Type} (l : List α) (k : Nat) (d : α) (h : k < l.length) : l.getD k d = l[k] := by simp [h]
def digAt (m : ByteArray) (k : Nat) : Nat := (digsB m).getD k 0
theorem digAt_le (m : ByteArray) (k : Nat) : digAt m k ≤ 15 := by
  unfold digAt
  by_cases h : k < (digsB m).length
  · rw [getD_lt _ _ 0 h]; exact digsB_le m _ (List.getElem_mem h)
  · simp [Nat.le_of_not_lt h]
theorem digAt_hex (m : ByteArray) (k : Nat) (h : k < 16) : digAt m k = (hexD m).getD k 0 := (snoc2_at (hexD m) _ _ (hexD_length m)).2.2 k h
theorem digAt_16 (m : ByteArray) : digAt m 16 = chkN (hexD m) / 16 := (snoc2_at (hexD m) _ _ (hexD_length m)).1
theorem digAt_17 (m : ByteArray) : digAt m 17 = chkN (hexD m) % 16 := (snoc2_at (hexD m) _ _ (hexD_length m)).2.1

theorem map_hexVal_inj : ∀ (l m : List UInt8), (∀ c ∈ l, isHex c = true) → (∀ c ∈ m, isHex c = true) → l.map hexVal = m.map hexVal → l = m
  | [], [], _, _, _ => rfl
  | [], _ :: _, _, _, h => by simp at h
  | _ :: _, [], _, _, h => by simp at h
  | a :: l, b :: m, hl, hm, h => by
    simp only [List.map_cons, List.cons.injEq] at h
    rw [hexVal_inj (hl a List.mem_cons_self) (hm b List.mem_cons_self) h.1, map_hexVal_inj l m (fun c hc => hl c (List.mem_cons_of_mem _ hc)) (fun c hc => hm c (List.mem_cons_of_mem _ hc)) h.2]

/-- some digit of another message with another digest is less -/
theorem digs_less (m o : ByteArray) (h : dsum (bl m) ≠ dsum (bl o)) : ∃ k, k < 18 ∧ digAt o k < digAt m k := by
  refine Classical.byContradiction fun hno => h ?_
  have hle : ∀ k, k < 18 → digAt m k ≤ digAt o k := fun k hk => Nat.le_of_not_lt fun hlt => hno ⟨k, hk, hlt⟩
  obtain ⟨h1, h2⟩ := chk_mono (hexD m) (hexD o) (by rw [hexD_length, hexD_length]) (fun k hk => by
    rw [hexD_length] at hk
    rw [← digAt_hex m k hk, ← digAt_hex o k hk]
    exact hle k (by omega)) (hexD_le o)
  have h3 := hle 16 (by decide)
  have h4 := hle 17 (by decide)
  rw [digAt_16, digAt_16] at h3
  rw [digAt_17, digAt_17] at h4
  exact map_hexVal_inj _ _ (dsum_hex m) (dsum_hex o) (h2 (by omega))

/-! ### Chains -/

def chainB (s : ByteArray) (n : Nat) : ByteArray := ⟨(dchain (bl s) n).toArray⟩
theorem bl_chain (s : ByteArray) (n : Nat) : bl (chainB s n) = dchain (bl s) n := bl_mk _
theorem chainB_zero (s : ByteArray) : chainB s 0 = s := bl_inj (bl_chain s 0)
theorem chainB_succ (s : ByteArray) (n : Nat) : chainB s (n + 1) = sumT (chainB s n) := by
  apply bl_inj
  rw [bl_chain, sumT, bl_mk, bl_chain]
  rfl
theorem chainB_add (s : ByteArray) (a b : Nat) : chainB (chainB s a) b = chainB s (a + b) := by
  apply bl_inj
  rw [bl_chain, bl_chain, bl_chain, dchain_add]
theorem sumT_dig (s : ByteArray) : digB (sumT s) = true := by
  unfold digB sumT
  rw [bl_mk]
  exact dsum_isDig _
theorem chainB_dig {s : ByteArray} (h : digB s = true) (n : Nat) : digB (chainB s n) = true := by
  cases n with
  | zero => rw [chainB_zero]; exact h
  | succ n => rw [chainB_succ]; exact sumT_dig _
theorem chainB_size (s : ByteArray) (n k : Nat) (hk : 16 ≤ k) (h : s.size ≤ k) : (chainB s n).size ≤ k := by
  have := dchain_size (bl s) n
  rw [Lib.size_eq] at h
  unfold chainB
  rw [size_mk]
  have h' : (bl s).length ≤ k := h
  omega

/-- the elements of a chain -/
def chainL (x : ByteArray) (n : Nat) : List ByteArray := (List.range (n + 1)).map (chainB x)
theorem chainL_mem (x : ByteArray) (n j : Nat) (h : j ≤ n) : chainB x j ∈ chainL x n := List.mem_map.2 ⟨j, List.mem_range.2 (by omega), rfl⟩

/-- going back in two chains that meet -/
theorem chain_back {T : List ByteArray} (a : Nat) : ∀ (b : Nat) (x y : ByteArray), chainB x a = chainB y (b + a) → (∀ j, j ≤ a → chainB x j ∈ T) → (∀ j, j ≤ b + a → chainB y j ∈ T) → Coll T ∨ x = chainB y b := by
  induction a with
  | zero => intro b x y h _ _; right; rw [chainB_zero] at h; exact h
  | succ a ih =>
    intro b x y h hx hy
    rw [chainB_succ, ← Nat.add_assoc, chainB_succ] at h
    by_cases he : chainB x a = chainB y (b + a)
    · exact ih b x y he (fun j hj => hx j (by omega)) (fun j hj => hy j (by omega))
    · exact .inl ⟨_, hx a (by omega), _, hy (b + a) (by omega), he, h⟩

/-! ### Keys -/

def decB (n : Nat) : ByteArray := ⟨(Lib.itoa (n : Int)).toArray⟩
theorem decB_inj {a b : Nat} (h : decB a = decB b) : a = b := by
  have h1 := congrArg bl h
  unfold decB at h1
  rw [bl_mk, bl_mk] at h1
  exact itoa_inj a b h1

def startT (s : ByteArray) (i k : Nat) : ByteArray := joinT [s, decB i, decB k]
def startB (s : ByteArray) (i k : Nat) : ByteArray := lsum [s, decB i, decB k]
theorem startB_eq (s : ByteArray) (i k : Nat) : startB s i k = sumT (startT s i k) := rfl
theorem startB_dig (s : ByteArray) (i k : Nat) : digB (startB s i k) = true := lsum_dig _
def endsB (s : ByteArray) (i : Nat) : List ByteArray := (List.range 18).map fun k => chainB (startB s i k) 15
def leafT (ends : List ByteArray) : ByteArray := joinT [wLeaf, lsum ends]
def leafOf (ends : List ByteArray) : ByteArray := leafB (lsum ends)
theorem leafOf_eq (ends : List ByteArray) : leafOf ends = sumT (leafT ends) := rfl
theorem leafOf_dig (ends : List ByteArray) : digB (leafOf ends) = true := lsum_dig _
def keyL (s : ByteArray) (i : Nat) : ByteArray := leafOf (endsB s i)
def leavesB (s : ByteArray) (h : Nat) : List ByteArray := (List.range (2 ^ h)).map (keyL s)
def sigB (s : ByteArray) (i : Nat) (m : ByteArray) : List ByteArray := (List.range 18).map fun k => chainB (startB s i k) (digAt m k)
def upEnds (m : ByteArray) (sig : List ByteArray) : List ByteArray := (List.range 18).map fun k => chainB (sig.getD k ByteArray.empty) (15 - digAt m k)

theorem leavesB_length (s : ByteArray) (h : Nat) : (leavesB s h).length = 2 ^ h := by simp [leavesB]
theorem leavesB_at (s : ByteArray) (h i : Nat) (hi : i < 2 ^ h) : (leavesB s h).getD i ByteArray.empty = keyL s i := by
  simp [leavesB, List.getD_eq_getElem?_getD, hi]
theorem leavesB_dig (s : ByteArray) (h : Nat) : (leavesB s h).all digB = true := by
  rw [List.all_eq_true]
  intro x hx
  unfold leavesB at hx
  obtain ⟨i, _, rfl⟩ := List.mem_map.1 hx
  exact leafOf_dig _
theorem sigB_length (s : ByteArray) (i : Nat) (m : ByteArray) : (sigB s i m).length = 18 := by simp [sigB]
theorem sigB_dig (s : ByteArray) (i : Nat) (m : ByteArray) : (sigB s i m).all digB = true := by
  rw [List.all_eq_true]
  intro x hx
  unfold sigB at hx
  obtain ⟨k, _, rfl⟩ := List.mem_map.1 hx
  exact chainB_dig (startB_dig _ _ _) _
theorem range18_getD (f : Nat → ByteArray) (k : Nat) (hk : k < 18) : ((List.range 18).map f).getD k ByteArray.empty = f k := by
  simp [List.getD_eq_getElem?_getD, hk]
theorem list18_ext {a b : List ByteArray} (ha : a.length = 18) (hb : b.length = 18) (h : ∀ k, k < 18 → a.getD k ByteArray.empty = b.getD k ByteArray.empty) : a = b := by
  refine List.ext_getElem (by rw [ha, hb]) fun i h1 h2 => ?_
  have := h i (by omega)
  rwa [getD_lt _ _ _ h1, getD_lt _ _ _ h2] at this

/-- the ends of what is signed are the ends of the key -/
theorem upEnds_sig (s : ByteArray) (i : Nat) (m : ByteArray) : upEnds m (sigB s i m) = endsB s i := by
  unfold upEnds endsB
  refine List.map_congr_left fun k hk => ?_
  have hk' := List.mem_range.1 hk
  unfold sigB
  rw [range18_getD _ k hk', chainB_add]
  have := digAt_le m k
  rw [show digAt m k + (15 - digAt m k) = 15 by omega]

/-! ### Trees with 2^h leaves -/

theorem half_pow (h : Nat) : half (2 ^ (h + 1)) = 2 ^ h := by
  have := Nat.pow_pos (n := h) (show 0 < 2 by decide)
  exact half_of _ h (by rw [Nat.pow_succ]; omega) (by rw [Nat.pow_succ]; omega)
theorem two_pow_next (h : Nat) : 2 ^ (h + 1) = 2 * 2 ^ h := by rw [Nat.pow_succ, Nat.mul_comm]

theorem depth_pow (h : Nat) : ∀ i, i < 2 ^ h → depth (2 ^ h) i = h := by
  induction h with
  | zero => intro i _; rw [depth_eq, if_pos (by decide)]
  | succ h ih =>
    intro i hi
    have hp := Nat.pow_pos (n := h) (show 0 < 2 by decide)
    have hn := two_pow_next h
    rw [depth_eq, half_pow, if_neg (by omega)]
    split
    · rw [ih i (by omega)]; omega
    · rw [show 2 ^ (h + 1) - 2 ^ h = 2 ^ h by omega, ih (i - 2 ^ h) (by omega)]; omega

/-- from the leaf up: the texts that are digested, and the root -/
def stepT (i : Nat) (a x : ByteArray) : ByteArray := if i % 2 = 1 then joinT [wNode, x, a] else joinT [wNode, a, x]
def upTexts : ByteArray → Nat → List ByteArray → List ByteArray
  | _, _, [] => []
  | a, i, x :: p => stepT i a x :: upTexts (sumT (stepT i a x)) (i / 2) p
def upRoot : ByteArray → Nat → List ByteArray → ByteArray
  | a, _, [] => a
  | a, i, x :: p => upRoot (sumT (stepT i a x)) (i / 2) p

theorem up_left (x : ByteArray) (p : List ByteArray) : ∀ (a : ByteArray) (i : Nat), i < 2 ^ p.length → upTexts a i (p ++ [x]) = upTexts a i p ++ [joinT [wNode, upRoot a i p, x]] ∧ upRoot a i (p ++ [x]) = nodeB (upRoot a i p) x := by
  induction p with
  | nil =>
    intro a i hi
    have : i = 0 := by simpa using hi
    subst this
    exact ⟨rfl, rfl⟩
  | cons y p ih =>
    intro a i hi
    rw [List.length_cons, two_pow_next] at hi
    obtain ⟨h1, h2⟩ := ih (sumT (stepT i a y)) (i / 2) (by omega)
    simp only [List.cons_append, upTexts, upRoot]
    exact ⟨by rw [h1], h2⟩
theorem stepT_parity {i j : Nat} (h : i % 2 = j % 2) (a x : ByteArray) : stepT i a x = stepT j a x := by unfold stepT; rw [h]
theorem up_right (x : ByteArray) (p : List ByteArray) : ∀ (a : ByteArray) (i : Nat), 2 ^ p.length ≤ i → i < 2 * 2 ^ p.length →
    upTexts a i (p ++ [x]) = upTexts a (i - 2 ^ p.length) p ++ [joinT [wNode, x, upRoot a (i - 2 ^ p.length) p]] ∧ upRoot a i (p ++ [x]) = nodeB x (upRoot a (i - 2 ^ p.length) p) := by
  induction p with
  | nil =>
    intro a i h0 hi
    have : i = 1 := by simp at h0 hi; omega
    subst this
    exact ⟨rfl, rfl⟩
  | cons y p ih =>
    intro a i h0 hi
    rw [List.length_cons, two_pow_next] at h0 hi ⊢
    obtain ⟨h1, h2⟩ := ih (sumT (stepT i a y)) (i / 2) (by omega) (by omega)
    have hp : stepT (i - 2 * 2 ^ p.length) a y = stepT i a y := stepT_parity (by omega) _ _
    simp only [List.cons_append, upTexts, upRoot, hp, show (i - 2 * 2 ^ p.length) / 2 = i / 2 - 2 ^ p.length by omega]
    exact ⟨by rw [h1], h2⟩

theorem up_eq (n : Nat) : ∀ (p : List ByteArray) (a : ByteArray) (i : Nat), p.length = n → i < 2 ^ n → ptB (2 ^ n) i a p = upTexts a i p ∧ upB (2 ^ n) i a p = upRoot a i p := by
  induction n with
  | zero =>
    intro p a i hp _
    rw [List.eq_nil_of_length_eq_zero hp]
    exact ⟨by rw [ptB_eq, if_pos (by decide)]; rfl, by rw [upB_eq, if_pos (by decide)]; rfl⟩
  | succ n ih =>
    intro p a i hp hi
    have hpos := Nat.pow_pos (n := n) (show 0 < 2 by decide)
    have hn := two_pow_next n
    have hs := snoc_of p (by omega)
    have hl : p.dropLast.length = n := by rw [List.length_dropLast]; omega
    by_cases hlt : i < 2 ^ n
    · obtain ⟨h1, h2⟩ := ih p.dropLast a i hl hlt
      obtain ⟨h3, h4⟩ := up_left (lastB p) p.dropLast a i (by rw [hl]; exact hlt)
      rw [← hs] at h3 h4
      refine ⟨?_, ?_⟩
      · rw [ptB_eq, half_pow, if_neg (by omega), if_pos hlt, h1, h2, h3]
      · rw [upB_eq, half_pow, if_neg (by omega), if_pos hlt, h2, h4]
    · obtain ⟨h1, h2⟩ := ih p.dropLast a (i - 2 ^ n) hl (by omega)
      obtain ⟨h3, h4⟩ := up_right (lastB p) p.dropLast a i (by rw [hl]; omega) (by rw [hl]; omega)
      rw [hl, ← hs] at h3 h4
      refine ⟨?_, ?_⟩
      · rw [ptB_eq, half_pow, if_neg (by omega), if_neg hlt, show 2 ^ (n + 1) - 2 ^ n = 2 ^ n by omega, h1, h2, h3]
      · rw [upB_eq, half_pow, if_neg (by omega), if_neg hlt, show 2 ^ (n + 1) - 2 ^ n = 2 ^ n by omega, h2, h4]

/-! ### Collisions in trees -/

def leafy (T : List ByteArray) (d : ByteArray) : Prop := ∃ s, joinT [wLeaf, s] ∈ T ∧ d = leafB s
theorem leaf_node {s a b : ByteArray} {T : List ByteArray} (h : leafB s = nodeB a b) (h1 : joinT [wLeaf, s] ∈ T) (h2 : joinT [wNode, a, b] ∈ T) : Coll T :=
  ⟨_, h1, _, h2, fun he => by have h3 := congrArg List.length (joinT_inj he); simp at h3, h⟩

theorem perf_coll (T : List ByteArray) (h : Nat) : ∀ (l path : List ByteArray) (i : Nat) (d : ByteArray), l.length = 2 ^ h → (∀ x ∈ l, leafy T x) → leafy T d → i < 2 ^ path.length → (∀ x ∈ textsB l, x ∈ T) →
    (∀ x ∈ ptB (2 ^ path.length) i d path, x ∈ T) → upB (2 ^ path.length) i d path = rootB l → Coll T ∨ (path.length = h ∧ path = pathB l i ∧ l.getD i ByteArray.empty = d) := by
  induction h with
  | zero =>
    intro l path i d hl hleaf hd hi ht hp he
    obtain ⟨x, rfl⟩ := List.length_eq_one_iff.1 (show l.length = 1 from hl)
    rw [rootB_one] at he
    cases hn : path.length with
    | zero =>
      rw [hn] at hi he
      right
      rw [upB_eq, if_pos (by decide)] at he
      obtain rfl : i = 0 := by simpa using hi
      exact ⟨rfl, by rw [pathB_eq, if_pos (by simp)]; exact List.eq_nil_of_length_eq_zero hn, he.symm⟩
    | succ n =>
      left
      rw [hn] at hi he hp
      have hpos := Nat.pow_pos (n := n) (show 0 < 2 by decide)
      have hn2 := two_pow_next n
      obtain ⟨s, hs, rfl⟩ := hleaf x (by simp)
      rw [upB_eq, half_pow, if_neg (by omega)] at he
      rw [ptB_eq, half_pow, if_neg (by omega)] at hp
      by_cases hlt : i < 2 ^ n
      · rw [if_pos hlt] at he hp
        exact leaf_node he.symm hs (hp _ (by simp))
      · rw [if_neg hlt] at he hp
        exact leaf_node he.symm hs (hp _ (by simp))
  | succ h ih =>
    intro l path i d hl hleaf hd hi ht hp he
    have hpos' := Nat.pow_pos (n := h) (show 0 < 2 by decide)
    have hn' := two_pow_next h
    have et := textsB_eq l
    rw [if_neg (by omega), if_neg (by omega), hl, half_pow] at et
    rw [rootB_node l (by omega), hl, half_pow] at he
    cases hn : path.length with
    | zero =>
      left
      rw [hn] at hi he
      rw [upB_eq, if_pos (by decide)] at he
      obtain ⟨s, hs, rfl⟩ := hd
      exact leaf_node he hs (ht _ (by rw [et]; simp))
    | succ n =>
      rw [hn] at hi he hp
      have hpos := Nat.pow_pos (n := n) (show 0 < 2 by decide)
      have hn2 := two_pow_next n
      have hs := snoc_of path (by omega)
      have hdl : path.dropLast.length = n := by rw [List.length_dropLast]; omega
      rw [upB_eq, half_pow, if_neg (by omega), show 2 ^ (n + 1) - 2 ^ n = 2 ^ n by omega] at he
      rw [ptB_eq, half_pow, if_neg (by omega), show 2 ^ (n + 1) - 2 ^ n = 2 ^ n by omega] at hp
      have hnode : joinT [wNode, rootB (l.take (2 ^ h)), rootB (l.drop (2 ^ h))] ∈ T := ht _ (by rw [et]; simp)
      have t1 : ∀ x ∈ textsB (l.take (2 ^ h)), x ∈ T := fun x hx => ht x (by rw [et]; simp [hx])
      have t2 : ∀ x ∈ textsB (l.drop (2 ^ h)), x ∈ T := fun x hx => ht x (by rw [et]; simp [hx])
      by_cases hlt : i < 2 ^ n
      · rw [if_pos hlt] at he hp
        rcases node_coll he (hp _ (by simp)) hnode with hc | ⟨e1, e2⟩
        · exact .inl hc
        · rcases ih (l.take (2 ^ h)) path.dropLast i d (by rw [List.length_take]; omega) (fun x hx => hleaf x (List.mem_of_mem_take hx)) hd (by rw [hdl]; exact hlt) t1 (by rw [hdl]; exact fun x hx => hp x (by simp [hx])) (by rw [hdl]; exact e1) with hc | ⟨r1, r2, r3⟩
          · exact .inl hc
          · right
            rw [hdl] at r1
            subst r1
            refine ⟨rfl, ?_, ?_⟩
            · rw [pathB_eq, if_neg (by omega), hl, half_pow, if_pos hlt, ← r2, ← e2, ← hs]
            · rw [← r3]
              simp only [List.getD_eq_getElem?_getD, List.getElem?_take]
              rw [if_pos hlt]
      · rw [if_neg hlt] at he hp
        rcases node_coll he (hp _ (by simp)) hnode with hc | ⟨e1, e2⟩
        · exact .inl hc
        · rcases ih (l.drop (2 ^ h)) path.dropLast (i - 2 ^ n) d (by rw [List.length_drop]; omega) (fun x hx => hleaf x (List.mem_of_mem_drop hx)) hd (by rw [hdl]; omega) t2 (by rw [hdl]; exact fun x hx => hp x (by simp [hx])) (by rw [hdl]; exact e2) with hc | ⟨r1, r2, r3⟩
          · exact .inl hc
          · right
            rw [hdl] at r1
            subst r1
            refine ⟨rfl, ?_, ?_⟩
            · rw [pathB_eq, if_neg (by omega), hl, half_pow, if_neg hlt, ← r2, ← e1, ← hs]
            · rw [← r3]
              simp only [List.getD_eq_getElem?_getD, List.getElem?_drop]
              rw [show 2 ^ n + (i - 2 ^ n) = i by omega]

end Go.Proofs.YteapfoadfjjicaaDoor.Dig

/- Plain mathematics of layer 3: where two signatures meet, two different texts have one digest. No Go, no program. -/
namespace Go.Proofs.YteapfoadfjjicaaDoor.Dig
set_option linter.unusedVariables false
set_option linter.unusedSimpArgs false

/-! ### What is digested for a public key, and for a check -/

def keyTs (s : ByteArray) (i n : Nat) : List ByteArray := (List.range 18).flatMap (fun k => startT s i k :: chainL (startB s i k) n) ++ [joinT (endsB s i), leafT (endsB s i)]
def pairT : List ByteArray → List ByteArray
  | a :: b :: r => joinT [wNode, a, b] :: pairT r
  | _ => []
def pairN : List ByteArray → List ByteArray
  | a :: b :: r => nodeB a b :: pairN r
  | _ => []
def lvlT : Nat → List ByteArray → List ByteArray
  | 0, _ => []
  | f + 1, l => if l.length ≤ 1 then [] else pairT l ++ lvlT f (pairN l)
def madeB (s : ByteArray) (h n : Nat) : List ByteArray := (List.range (2 ^ h)).flatMap (fun i => keyTs s i n) ++ lvlT (2 ^ h) (leavesB s h)
def checkedB (m : ByteArray) (sig : List ByteArray) (idx : Nat) (path : List ByteArray) : List ByteArray :=
  ((List.range 18).flatMap (fun k => chainL (sig.getD k ByteArray.empty) (15 - digAt m k)) ++ [joinT (upEnds m sig), leafT (upEnds m sig)]) ++ upTexts (leafOf (upEnds m sig)) idx path

theorem key_start (s : ByteArray) (i n k : Nat) (hk : k < 18) : startT s i k ∈ keyTs s i n := by
  refine List.mem_append_left _ (List.mem_flatMap.2 ⟨k, List.mem_range.2 hk, List.mem_cons_self⟩)
theorem key_chain (s : ByteArray) (i n k j : Nat) (hk : k < 18) (hj : j ≤ n) : chainB (startB s i k) j ∈ keyTs s i n := by
  refine List.mem_append_left _ (List.mem_flatMap.2 ⟨k, List.mem_range.2 hk, List.mem_cons_of_mem _ (chainL_mem _ _ _ hj)⟩)
theorem made_of {s x : ByteArray} {h i n : Nat} (hi : i < 2 ^ h) (hx : x ∈ keyTs s i n) : x ∈ madeB s h n :=
  List.mem_append_left _ (List.mem_flatMap.2 ⟨i, List.mem_range.2 hi, hx⟩)
theorem key_key (s : ByteArray) (i n : Nat) : joinT (endsB s i) ∈ keyTs s i n := List.mem_append_right _ (by simp)
theorem key_leaf (s : ByteArray) (i n : Nat) : leafT (endsB s i) ∈ keyTs s i n := List.mem_append_right _ (by simp)

theorem texts_two (a b : ByteArray) : textsB [a, b] = [joinT [wNode, a, b]] := by
  rw [textsB_eq, if_neg (by simp), if_neg (by simp), show ([a, b] : List ByteArray).length = 2 ^ (0 + 1) from rfl, half_pow]
  have e : ∀ x : ByteArray, textsB [x] = [] := fun x => by rw [textsB_eq, if_neg (by simp), if_pos (by simp)]
  simp [e, rootB_one]
theorem root_two (a b : ByteArray) : rootB [a, b] = nodeB a b := by
  rw [rootB_node _ (by simp), show ([a, b] : List ByteArray).length = 2 ^ (0 + 1) from rfl, half_pow]
  rfl
theorem texts_four (a b c d : ByteArray) : textsB [a, b, c, d] = [joinT [wNode, a, b], joinT [wNode, c, d], joinT [wNode, nodeB a b, nodeB c d]] := by
  rw [textsB_eq, if_neg (by simp), if_neg (by simp), show ([a, b, c, d] : List ByteArray).length = 2 ^ (1 + 1) from rfl, half_pow]
  simp [texts_two, root_two]

theorem made_tree (s : ByteArray) (h n : Nat) (hh : h ≤ 2) : ∀ x ∈ textsB (leavesB s h), x ∈ madeB s h n := by
  intro x hx
  refine List.mem_append_right _ ?_
  match h, hh with
  | 0, _ =>
    rw [show leavesB s 0 = [keyL s 0] from rfl, textsB_eq, if_neg (by simp), if_pos (by simp)] at hx
    simp at hx
  | 1, _ =>
    rw [show leavesB s 1 = [keyL s 0, keyL s 1] from rfl, texts_two] at hx
    rw [show leavesB s 1 = [keyL s 0, keyL s 1] from rfl]
    simp [lvlT, pairT] at hx ⊢
    exact .inl hx
  | 2, _ =>
    rw [show leavesB s 2 = [keyL s 0, keyL s 1, keyL s 2, keyL s 3] from rfl, texts_four] at hx
    rw [show leavesB s 2 = [keyL s 0, keyL s 1, keyL s 2, keyL s 3] from rfl]
    simp [lvlT, pairT, pairN] at hx ⊢
    rcases hx with hx | hx | hx
    · exact .inl hx
    · exact .inr (.inl hx)
    · exact .inr (.inr hx)

theorem chk_chain (m : ByteArray) (sig : List ByteArray) (idx : Nat) (path : List ByteArray) (k j : Nat) (hk : k < 18) (hj : j ≤ 15 - digAt m k) : chainB (sig.getD k ByteArray.empty) j ∈ checkedB m sig idx path :=
  List.mem_append_left _ (List.mem_append_left _ (List.mem_flatMap.2 ⟨k, List.mem_range.2 hk, chainL_mem _ _ _ hj⟩))
theorem chk_key (m : ByteArray) (sig : List ByteArray) (idx : Nat) (path : List ByteArray) : joinT (upEnds m sig) ∈ checkedB m sig idx path := List.mem_append_left _ (List.mem_append_right _ (by simp))
theorem chk_leaf (m : ByteArray) (sig : List ByteArray) (idx : Nat) (path : List ByteArray) : leafT (upEnds m sig) ∈ checkedB m sig idx path := List.mem_append_left _ (List.mem_append_right _ (by simp))
theorem chk_up (m : ByteArray) (sig : List ByteArray) (idx : Nat) (path : List ByteArray) (h : idx < 2 ^ path.length) : ∀ x ∈ ptB (2 ^ path.length) idx (leafOf (upEnds m sig)) path, x ∈ checkedB m sig idx path := by
  intro x hx
  rw [(up_eq path.length path _ idx rfl h).1] at hx
  exact List.mem_append_right _ hx

/-! ### Meeting -/

theorem sum_coll {T : List ByteArray} {x y : ByteArray} (h : sumT x = sumT y) (hx : x ∈ T) (hy : y ∈ T) : Coll T ∨ x = y := by
  by_cases he : x = y
  · exact .inr he
  · exact .inl ⟨x, hx, y, hy, he, h⟩

theorem ends_coll {T : List ByteArray} {a b : List ByteArray} (h : leafOf a = leafOf b) (h1 : leafT a ∈ T) (h2 : leafT b ∈ T) (h3 : joinT a ∈ T) (h4 : joinT b ∈ T) : Coll T ∨ a = b := by
  rcases sum_coll (x := leafT a) (y := leafT b) h h1 h2 with hc | he
  · exact .inl hc
  · have e1 := joinT_inj he
    simp only [List.cons.injEq, and_true, true_and] at e1
    rcases sum_coll (x := joinT a) (y := joinT b) e1 h3 h4 with hc | he2
    · exact .inl hc
    · exact .inr (joinT_inj he2)

theorem start_coll {T : List ByteArray} {s o : ByteArray} {i j k : Nat} (h : startB s i k = startB o j k) (h1 : startT s i k ∈ T) (h2 : startT o j k ∈ T) : Coll T ∨ (s = o ∧ i = j) := by
  rcases sum_coll (x := startT s i k) (y := startT o j k) h h1 h2 with hc | he
  · exact .inl hc
  · have e1 := joinT_inj he
    simp only [List.cons.injEq, and_true] at e1
    exact .inr ⟨e1.1, decB_inj e1.2⟩

/-- an accepted check: the tree's part -/
theorem leaf_part {T : List ByteArray} (s : ByteArray) (h n : Nat) (hh : h ≤ 2) (m : ByteArray) (sig : List ByteArray) (idx : Nat) (path : List ByteArray) (hT1 : ∀ x ∈ madeB s h n, x ∈ T) (hT2 : ∀ x ∈ checkedB m sig idx path, x ∈ T)
    (hidx : idx < 2 ^ path.length) (hup : upB (2 ^ path.length) idx (leafOf (upEnds m sig)) path = rootB (leavesB s h)) :
    Coll T ∨ (path.length = h ∧ path = pathB (leavesB s h) idx ∧ upEnds m sig = endsB s idx) := by
  rcases perf_coll T h (leavesB s h) path idx (leafOf (upEnds m sig)) (leavesB_length s h) (fun x hx => by
      unfold leavesB at hx
      obtain ⟨i, hi, rfl⟩ := List.mem_map.1 hx
      exact ⟨_, hT1 _ (made_of (List.mem_range.1 hi) (key_leaf s i n)), rfl⟩) ⟨_, hT2 _ (chk_leaf m sig idx path), rfl⟩ hidx (fun x hx => hT1 x (made_tree s h n hh x hx)) (fun x hx => hT2 x (chk_up m sig idx path hidx x hx)) hup with hc | ⟨r1, r2, r3⟩
  · exact .inl hc
  · have hi : idx < 2 ^ h := by rw [← r1]; exact hidx
    rw [leavesB_at s h idx hi] at r3
    rcases ends_coll (a := endsB s idx) (b := upEnds m sig) r3 (hT1 _ (made_of hi (key_leaf s idx n))) (hT2 _ (chk_leaf m sig idx path)) (hT1 _ (made_of hi (key_key s idx n))) (hT2 _ (chk_key m sig idx path)) with hc | he
    · exact .inl hc
    · exact .inr ⟨r1, r2, he.symm⟩

/-- an accepted check is of what was signed -/
theorem sound_coll {T : List ByteArray} (s : ByteArray) (h n : Nat) (hn : 15 ≤ n) (hh : h ≤ 2) (m : ByteArray) (sig : List ByteArray) (idx : Nat) (path : List ByteArray) (hT1 : ∀ x ∈ madeB s h n, x ∈ T) (hT2 : ∀ x ∈ checkedB m sig idx path, x ∈ T)
    (hsig : sig.length = 18) (hidx : idx < 2 ^ path.length) (hup : upB (2 ^ path.length) idx (leafOf (upEnds m sig)) path = rootB (leavesB s h)) :
    Coll T ∨ (path.length = h ∧ path = pathB (leavesB s h) idx ∧ sig = sigB s idx m) := by
  by_cases hcoll : Coll T
  · exact .inl hcoll
  rcases leaf_part s h n hh m sig idx path hT1 hT2 hidx hup with hc | ⟨r1, r2, r3⟩
  · exact .inl hc
  · right
    have hi : idx < 2 ^ h := by rw [← r1]; exact hidx
    refine ⟨r1, r2, list18_ext hsig (sigB_length s idx m) fun k hk => ?_⟩
    have e1 : (upEnds m sig).getD k ByteArray.empty = (endsB s idx).getD k ByteArray.empty := by rw [r3]
    unfold upEnds endsB at e1
    rw [range18_getD _ k hk, range18_getD _ k hk] at e1
    unfold sigB
    rw [range18_getD _ k hk]
    have hd := digAt_le m k
    rcases chain_back (T := T) (15 - digAt m k) (digAt m k) _ (startB s idx k) (by rw [show digAt m k + (15 - digAt m k) = 15 by omega]; exact e1) (fun j hj => hT2 _ (chk_chain m sig idx path k j hk hj))
      (fun j hj => hT1 _ (made_of hi (key_chain s idx n k j hk (by omega)))) with hc | he
    · exact absurd hc hcoll
    · exact he

/-- different keys do not sign alike -/
theorem keys_coll {T : List ByteArray} (s : ByteArray) (h n : Nat) (hn : 15 ≤ n) (m : ByteArray) (i j : Nat) (hi : i < 2 ^ h) (hj : j < 2 ^ h) (hij : i ≠ j) (hT : ∀ x ∈ madeB s h n, x ∈ T) (he : sigB s i m = sigB s j m) : Coll T := by
  have e1 : (sigB s i m).getD 0 ByteArray.empty = (sigB s j m).getD 0 ByteArray.empty := by rw [he]
  unfold sigB at e1
  rw [range18_getD _ 0 (by decide), range18_getD _ 0 (by decide)] at e1
  have hd := digAt_le m 0
  rcases chain_back (T := T) (digAt m 0) 0 (startB s i 0) (startB s j 0) (by rw [Nat.zero_add]; exact e1) (fun k hk => hT _ (made_of hi (key_chain s i n 0 k (by decide) (by omega)))) (fun k hk => hT _ (made_of hj (key_chain s j n 0 k (by decide) (by omega)))) with hc | h2
  · exact hc
  · rw [chainB_zero] at h2
    rcases start_coll h2 (hT _ (made_of hi (key_start s i n 0 (by decide)))) (hT _ (made_of hj (key_start s j n 0 (by decide)))) with hc | ⟨_, h3⟩
    · exact hc
    · exact absurd h3 hij

theorem startT_no (s : ByteArray) (i k : Nat) : digB (startT s i k) = false := by
  unfold digB startT joinT
  rw [bl_mk]
  unfold isDig
  rw [Bool.and_eq_false_iff]
  right
  rw [List.all_eq_false]
  exact ⟨58, by simp [joinB, encS], by decide⟩

/-- what was signed is not accepted for a message with another digest -/
theorem binds_no {T : List ByteArray} (s : ByteArray) (h : Nat) (hh : h ≤ 2) (m o : ByteArray) (i : Nat) (path : List ByteArray) (hne : dsum (bl m) ≠ dsum (bl o)) (hT1 : ∀ x ∈ madeB s h 30, x ∈ T) (hT2 : ∀ x ∈ checkedB o (sigB s i m) i path, x ∈ T)
    (hidx : i < 2 ^ path.length) (hup : upB (2 ^ path.length) i (leafOf (upEnds o (sigB s i m))) path = rootB (leavesB s h)) : Coll T := by
  rcases leaf_part s h 30 hh o (sigB s i m) i path hT1 hT2 hidx hup with hc | ⟨r1, r2, r3⟩
  · exact hc
  · have hi : i < 2 ^ h := by rw [← r1]; exact hidx
    obtain ⟨k, hk, hlt⟩ := digs_less m o hne
    have e1 : (upEnds o (sigB s i m)).getD k ByteArray.empty = (endsB s i).getD k ByteArray.empty := by rw [r3]
    unfold upEnds endsB sigB at e1
    rw [range18_getD _ k hk, range18_getD _ k hk, range18_getD _ k hk, chainB_add] at e1
    have hd := digAt_le m k
    obtain ⟨e, he⟩ : ∃ e, digAt m k - digAt o k = e + 1 := ⟨digAt m k - digAt o k - 1, by omega⟩
    rw [show digAt m k + (15 - digAt o k) = (e + 1) + 15 by omega] at e1
    rcases chain_back (T := T) 15 (e + 1) (startB s i k) (startB s i k) e1.symm (fun j hj => hT1 _ (made_of hi (key_chain s i 30 k j hk (by omega)))) (fun j hj => hT1 _ (made_of hi (key_chain s i 30 k j hk (by omega)))) with hc | h2
    · exact hc
    · rw [chainB_succ] at h2
      rcases sum_coll (x := startT s i k) (y := chainB (startB s i k) e) h2 (hT1 _ (made_of hi (key_start s i 30 k hk))) (hT1 _ (made_of hi (key_chain s i 30 k e hk (by omega)))) with hc | h3
      · exact hc
      · have h4 := startT_no s i k
        rw [h3, chainB_dig (startB_dig s i k)] at h4
        exact absurd h4 (by decide)

/-- two secrets have different public keys -/
theorem secrets_coll (s o : ByteArray) (h : Nat) (hh : h ≤ 2) (hne : s ≠ o) (he : rootB (leavesB s h) = rootB (leavesB o h)) : Coll (madeB s h 15 ++ madeB o h 15) := by
  have hT1 : ∀ x ∈ madeB s h 15, x ∈ madeB s h 15 ++ madeB o h 15 := fun x hx => List.mem_append_left _ hx
  have hT2 : ∀ x ∈ madeB o h 15, x ∈ madeB s h 15 ++ madeB o h 15 := fun x hx => List.mem_append_right _ hx
  have hp := Nat.pow_pos (n := h) (show 0 < 2 by decide)
  rcases roots_coll (2 ^ h) (leavesB s h) (leavesB o h) (by rw [leavesB_length]; exact Nat.le_refl _) (by rw [leavesB_length, leavesB_length]) he with hc | h1
  · refine hc.mono fun x hx => ?_
    rcases List.mem_append.1 hx with hx | hx
    · exact hT1 x (made_tree s h 15 hh x hx)
    · exact hT2 x (made_tree o h 15 hh x hx)
  · have e1 : keyL s 0 = keyL o 0 := by rw [← leavesB_at s h 0 hp, ← leavesB_at o h 0 hp, h1]
    rcases ends_coll e1 (hT1 _ (made_of hp (key_leaf s 0 15))) (hT2 _ (made_of hp (key_leaf o 0 15))) (hT1 _ (made_of hp (key_key s 0 15))) (hT2 _ (made_of hp (key_key o 0 15))) with hc | h2
    · exact hc
    · have e2 : (endsB s 0).getD 0 ByteArray.empty = (endsB o 0).getD 0 ByteArray.empty := by rw [h2]
      unfold endsB at e2
      rw [range18_getD _ 0 (by decide), range18_getD _ 0 (by decide)] at e2
      rcases chain_back (T := madeB s h 15 ++ madeB o h 15) 15 0 (startB s 0 0) (startB o 0 0) (by rw [Nat.zero_add]; exact e2) (fun k hk => hT1 _ (made_of hp (key_chain s 0 15 0 k (by decide) hk))) (fun k hk => hT2 _ (made_of hp (key_chain o 0 15 0 k (by decide) (by omega)))) with hc | h3
      · exact hc
      · rw [chainB_zero] at h3
        rcases start_coll h3 (hT1 _ (made_of hp (key_start s 0 15 0 (by decide)))) (hT2 _ (made_of hp (key_start o 0 15 0 (by decide)))) with hc | ⟨h4, _⟩
        · exact hc
        · exact absurd h4 hne

/-- what is signed is accepted -/
theorem signed_up (s : ByteArray) (h i : Nat) (hi : i < 2 ^ h) (m : ByteArray) : upB (2 ^ h) i (leafOf (upEnds m (sigB s i m))) (pathB (leavesB s h) i) = rootB (leavesB s h) := by
  rw [upEnds_sig]
  have h1 := up_path (2 ^ h) (leavesB s h) i (by rw [leavesB_length]; exact Nat.le_refl _) (by rw [leavesB_length]; exact hi)
  have h2 := leavesB_at s h i hi
  rw [getD_lt _ _ _ (by rw [leavesB_length]; exact hi)] at h2
  rw [h2, leavesB_length] at h1
  exact h1
theorem path_len (s : ByteArray) (h i : Nat) (hi : i < 2 ^ h) : (pathB (leavesB s h) i).length = h := by
  rw [pathB_length (2 ^ h) _ _ (by rw [leavesB_length]; exact Nat.le_refl _), leavesB_length, depth_pow h i hi]
theorem path_dig (s : ByteArray) (h i : Nat) : (pathB (leavesB s h) i).all digB = true :=
  pathB_dig (2 ^ h) _ _ (by rw [leavesB_length]; exact Nat.le_refl _) (leavesB_dig s h)

/-! ### Lengths -/

theorem flatMap_len {α : Type} (f : α → List ByteArray) (c : Nat) : ∀ l : List α, (∀ x ∈ l, (f x).length ≤ c) → (l.flatMap f).length ≤ l.length * c
  | [], _ => by simp
  | x :: l, h => by
    have h1 := h x List.mem_cons_self
    have h2 := flatMap_len f c l fun y hy => h y (List.mem_cons_of_mem _ hy)
    rw [List.flatMap_cons, List.length_append, List.length_cons, Nat.add_mul]
    omega
theorem chainL_length (x : ByteArray) (n : Nat) : (chainL x n).length = n + 1 := by simp [chainL]
theorem keyTs_len (s : ByteArray) (i n : Nat) : (keyTs s i n).length ≤ 18 * (n + 2) + 2 := by
  have := flatMap_len (fun k => startT s i k :: chainL (startB s i k) n) (n + 2) (List.range 18) (fun k _ => by rw [List.length_cons, chainL_length]; omega)
  rw [List.length_range] at this
  unfold keyTs
  rw [List.length_append]
  simp only [List.length_cons, List.length_nil]
  omega
theorem pair_len : ∀ l : List ByteArray, (pairT l).length = l.length / 2 ∧ (pairN l).length = l.length / 2
  | [] => ⟨by simp [pairT], by simp [pairN]⟩
  | [_] => ⟨by simp [pairT], by simp [pairN]⟩
  | a :: b :: r => by
    have h := pair_len r
    simp only [pairT, pairN, List.length_cons, h.1, h.2]
    omega
theorem lvlT_len (f : Nat) : ∀ l : List ByteArray, (lvlT f l).length ≤ l.length := by
  induction f with
  | zero => intro l; simp [lvlT]
  | succ f ih =>
    intro l
    unfold lvlT
    split
    · simp
    · have h := pair_len l
      have h2 := ih (pairN l)
      rw [List.length_append, h.1]
      rw [h.2] at h2
      omega
theorem madeB_len (s : ByteArray) (h n : Nat) (hh : h ≤ 2) (hn : n ≤ 30) : (madeB s h n).length ≤ 2400 := by
  have h1 := flatMap_len (fun i => keyTs s i n) (18 * (n + 2) + 2) (List.range (2 ^ h)) (fun i _ => keyTs_len s i n)
  rw [List.length_range] at h1
  have h2 := lvlT_len (2 ^ h) (leavesB s h)
  rw [leavesB_length] at h2
  have h3 : 2 ^ h ≤ 4 := by
    match h, hh with
    | 0, _ => decide
    | 1, _ => decide
    | 2, _ => decide
  have h4 : 2 ^ h * (18 * (n + 2) + 2) ≤ 4 * 578 := Nat.mul_le_mul h3 (by omega)
  unfold madeB
  rw [List.length_append]
  omega
theorem upTexts_len (p : List ByteArray) : ∀ (a : ByteArray) (i : Nat), (upTexts a i p).length = p.length := by
  induction p with
  | nil => intro a i; rfl
  | cons x p ih => intro a i; simp only [upTexts, List.length_cons, ih]
theorem checkedB_len (m : ByteArray) (sig : List ByteArray) (idx : Nat) (path : List ByteArray) : (checkedB m sig idx path).length ≤ 290 + path.length := by
  have h1 := flatMap_len (fun k => chainL (sig.getD k ByteArray.empty) (15 - digAt m k)) 16 (List.range 18) (fun k _ => by rw [chainL_length]; omega)
  rw [List.length_range] at h1
  unfold checkedB
  rw [List.length_append, List.length_append, upTexts_len]
  simp only [List.length_cons, List.length_nil]
  omega

end Go.Proofs.YteapfoadfjjicaaDoor.Dig
