/- Plain mathematics of layer 3: where two signatures meet, two different texts have one digest. No Go, no program. -/
import Derived.Test.YtohhkgnddeeomaaDoorSlmMath
namespace Go.Proofs.YtohhkgnddeeomaaDoor.Dig
set_option linter.unusedVariables false
set_option linter.unusedSimpArgs false

/-! ### What is digested for a public key, and for a check -/

def keyTs (s : ByteArray) (i n : Nat) : List ByteArray := (List.range 18).flatMap (fun k => startT s i k :: chainL (startB s i k) n) ++ [joinT (endsB s i), leafT (endsB s i)]
def pairT : List ByteArray → List ByteArray
  | a :: b :: r => joinT [wNode, a, b] :: pairT r
  | _ => []
def pairN : List ByteArray → List ByteArray
  | a :: b :: r => nodeB a b :: pairN r
  | _ => []
def lvlT : Nat → List ByteArray → List ByteArray
  | 0, _ => []
  | f + 1, l => if l.length ≤ 1 then [] else pairT l ++ lvlT f (pairN l)
def madeB (s : ByteArray) (h n : Nat) : List ByteArray := (List.range (2 ^ h)).flatMap (fun i => keyTs s i n) ++ lvlT (2 ^ h) (leavesB s h)
def checkedB (m : ByteArray) (sig : List ByteArray) (idx : Nat) (path : List ByteArray) : List ByteArray :=
  ((List.range 18).flatMap (fun k => chainL (sig.getD k ByteArray.empty) (15 - digAt m k)) ++ [joinT (upEnds m sig), leafT (upEnds m sig)]) ++ upTexts (leafOf (upEnds m sig)) idx path

theorem key_start (s : ByteArray) (i n k : Nat) (hk : k < 18) : startT s i k ∈ keyTs s i n := by
  refine List.mem_append_left _ (List.mem_flatMap.2 ⟨k, List.mem_range.2 hk, List.mem_cons_self⟩)
theorem key_chain (s : ByteArray) (i n k j : Nat) (hk : k < 18) (hj : j ≤ n) : chainB (startB s i k) j ∈ keyTs s i n := by
  refine List.mem_append_left _ (List.mem_flatMap.2 ⟨k, List.mem_range.2 hk, List.mem_cons_of_mem _ (chainL_mem _ _ _ hj)⟩)
theorem made_of {s x : ByteArray} {h i n : Nat} (hi : i < 2 ^ h) (hx : x ∈ keyTs s i n) : x ∈ madeB s h n :=
  List.mem_append_left _ (List.mem_flatMap.2 ⟨i, List.mem_range.2 hi, hx⟩)
theorem key_key (s : ByteArray) (i n : Nat) : joinT (endsB s i) ∈ keyTs s i n := List.mem_append_right _ (by simp)
theorem key_leaf (s : ByteArray) (i n : Nat) : leafT (endsB s i) ∈ keyTs s i n := List.mem_append_right _ (by simp)

theorem texts_two (a b : ByteArray) : textsB [a, b] = [joinT [wNode, a, b]] := by
  rw [textsB_eq, if_neg (by simp), if_neg (by simp), show ([a, b] : List ByteArray).length = 2 ^ (0 + 1) from rfl, half_pow]
  have e : ∀ x : ByteArray, textsB [x] = [] := fun x => by rw [textsB_eq, if_neg (by simp), if_pos (by simp)]
  simp [e, rootB_one]
theorem root_two (a b : ByteArray) : rootB [a, b] = nodeB a b := by
  rw [rootB_node _ (by simp), show ([a, b] : List ByteArray).length = 2 ^ (0 + 1) from rfl, half_pow]
  rfl
theorem texts_four (a b c d : ByteArray) : textsB [a, b, c, d] = [joinT [wNode, a, b], joinT [wNode, c, d], joinT [wNode, nodeB a b, nodeB c d]] := by
  rw [textsB_eq, if_neg (by simp), if_neg (by simp), show ([a, b, c, d] : List ByteArray).length = 2 ^ (1 + 1) from rfl, half_pow]
  simp [texts_two, root_two]

theorem made_tree (s : ByteArray) (h n : Nat) (hh : h ≤ 2) : ∀ x ∈ textsB (leavesB s h), x ∈ madeB s h n := by
  intro x hx
  refine List.mem_append_right _ ?_
  match h, hh with
  | 0, _ =>
    rw [show leavesB s 0 = [keyL s 0] from rfl, textsB_eq, if_neg (by simp), if_pos (by simp)] at hx
    simp at hx
  | 1, _ =>
    rw [show leavesB s 1 = [keyL s 0, keyL s 1] from rfl, texts_two] at hx
    rw [show leavesB s 1 = [keyL s 0, keyL s 1] from rfl]
    simp [lvlT, pairT] at hx ⊢
    exact .inl hx
  | 2, _ =>
    rw [show leavesB s 2 = [keyL s 0, keyL s 1, keyL s 2, keyL s 3] from rfl, texts_four] at hx
    rw [show leavesB s 2 = [keyL s 0, keyL s 1, keyL s 2, keyL s 3] from rfl]
    simp [lvlT, pairT, pairN] at hx ⊢
    rcases hx with hx | hx | hx
    · exact .inl hx
    · exact .inr (.inl hx)
    · exact .inr (.inr hx)

theorem chk_chain (m : ByteArray) (sig : List ByteArray) (idx : Nat) (path : List ByteArray) (k j : Nat) (hk : k < 18) (hj : j ≤ 15 - digAt m k) : chainB (sig.getD k ByteArray.empty) j ∈ checkedB m sig idx path :=
  List.mem_append_left _ (List.mem_append_left _ (List.mem_flatMap.2 ⟨k, List.mem_range.2 hk, chainL_mem _ _ _ hj⟩))
theorem chk_key (m : ByteArray) (sig : List ByteArray) (idx : Nat) (path : List ByteArray) : joinT (upEnds m sig) ∈ checkedB m sig idx path := List.mem_append_left _ (List.mem_append_right _ (by simp))
theorem chk_leaf (m : ByteArray) (sig : List ByteArray) (idx : Nat) (path : List ByteArray) : leafT (upEnds m sig) ∈ checkedB m sig idx path := List.mem_append_left _ (List.mem_append_right _ (by simp))
theorem chk_up (m : ByteArray) (sig : List ByteArray) (idx : Nat) (path : List ByteArray) (h : idx < 2 ^ path.length) : ∀ x ∈ ptB (2 ^ path.length) idx (leafOf (upEnds m sig)) path, x ∈ checkedB m sig idx path := by
  intro x hx
  rw [(up_eq path.length path _ idx rfl h).1] at hx
  exact List.mem_append_right _ hx

/-! ### Meeting -/

theorem sum_coll {T : List ByteArray} {x y : ByteArray} (h : sumT x = sumT y) (hx : x ∈ T) (hy : y ∈ T) : Coll T ∨ x = y := by
  by_cases he : x = y
  · exact .inr he
  · exact .inl ⟨x, hx, y, hy, he, h⟩

theorem ends_coll {T : List ByteArray} {a b : List ByteArray} (h : leafOf a = leafOf b) (h1 : leafT a ∈ T) (h2 : leafT b ∈ T) (h3 : joinT a ∈ T) (h4 : joinT b ∈ T) : Coll T ∨ a = b := by
  rcases sum_coll (x := leafT a) (y := leafT b) h h1 h2 with hc | he
  · exact .inl hc
  · have e1 := joinT_inj he
    simp only [List.cons.injEq, and_true, true_and] at e1
    rcases sum_coll (x := joinT a) (y := joinT b) e1 h3 h4 with hc | he2
    · exact .inl hc
    · exact .inr (joinT_inj he2)

theorem start_coll {T : List ByteArray} {s o : ByteArray} {i j k : Nat} (h : startB s i k = startB o j k) (h1 : startT s i k ∈ T) (h2 : startT o j k ∈ T) : Coll T ∨ (s = o ∧ i = j) := by
  rcases sum_coll (x := startT s i k) (y := startT o j k) h h1 h2 with hc | he
  · exact .inl hc
  · have e1 := joinT_inj he
    simp only [List.cons.injEq, and_true] at e1
    exact .inr ⟨e1.1, decB_inj e1.2⟩

/-- an accepted check: the tree's part -/
theorem leaf_part {T : List ByteArray} (s : ByteArray) (h n : Nat) (hh : h ≤ 2) (m : ByteArray) (sig : List ByteArray) (idx : Nat) (path : List ByteArray) (hT1 : ∀ x ∈ madeB s h n, x ∈ T) (hT2 : ∀ x ∈ checkedB m sig idx path, x ∈ T)
    (hidx : idx < 2 ^ path.length) (hup : upB (2 ^ path.length) idx (leafOf (upEnds m sig)) path = rootB (leavesB s h)) :
    Coll T ∨ (path.length = h ∧ path = pathB (leavesB s h) idx ∧ upEnds m sig = endsB s idx) := by
  rcases perf_coll T h (leavesB s h) path idx (leafOf (upEnds m sig)) (leavesB_length s h) (fun x hx => by
      unfold leavesB at hx
      obtain ⟨i, hi, rfl⟩ := List.mem_map.1 hx
      exact ⟨_, hT1 _ (made_of (List.mem_range.1 hi) (key_leaf s i n)), rfl⟩) ⟨_, hT2 _ (chk_leaf m sig idx path), rfl⟩ hidx (fun x hx => hT1 x (made_tree s h n hh x hx)) (fun x hx => hT2 x (chk_up m sig idx path hidx x hx)) hup with hc | ⟨r1, r2, r3⟩
  · exact .inl hc
  · have hi : idx < 2 ^ h := by rw [← r1]; exact hidx
    rw [leavesB_at s h idx hi] at r3
    rcases ends_coll (a := endsB s idx) (b := upEnds m sig) r3 (hT1 _ (made_of hi (key_leaf s idx n))) (hT2 _ (chk_leaf m sig idx path)) (hT1 _ (made_of hi (key_key s idx n))) (hT2 _ (chk_key m sig idx path)) with hc | he
    · exact .inl hc
    · exact .inr ⟨r1, r2, he.symm⟩

/-- an accepted check is of what was signed -/
theorem sound_coll {T : List ByteArray} (s : ByteArray) (h n : Nat) (hn : 15 ≤ n) (hh : h ≤ 2) (m : ByteArray) (sig : List ByteArray) (idx : Nat) (path : List ByteArray) (hT1 : ∀ x ∈ madeB s h n, x ∈ T) (hT2 : ∀ x ∈ checkedB m sig idx path, x ∈ T)
    (hsig : sig.length = 18) (hidx : idx < 2 ^ path.length) (hup : upB (2 ^ path.length) idx (leafOf (upEnds m sig)) path = rootB (leavesB s h)) :
    Coll T ∨ (path.length = h ∧ path = pathB (leavesB s h) idx ∧ sig = sigB s idx m) := by
  by_cases hcoll : Coll T
  · exact .inl hcoll
  rcases leaf_part s h n hh m sig idx path hT1 hT2 hidx hup with hc | ⟨r1, r2, r3⟩
  · exact .inl hc
  · right
    have hi : idx < 2 ^ h := by rw [← r1]; exact hidx
    refine ⟨r1, r2, list18_ext hsig (sigB_length s idx m) fun k hk => ?_⟩
    have e1 : (upEnds m sig).getD k ByteArray.empty = (endsB s idx).getD k ByteArray.empty := by rw [r3]
    unfold upEnds endsB at e1
    rw [range18_getD _ k hk, range18_getD _ k hk] at e1
    unfold sigB
    rw [range18_getD _ k hk]
    have hd := digAt_le m k
    rcases chain_back (T := T) (15 - digAt m k) (digAt m k) _ (startB s idx k) (by rw [show digAt m k + (15 - digAt m k) = 15 by omega]; exact e1) (fun j hj => hT2 _ (chk_chain m sig idx path k j hk hj))
      (fun j hj => hT1 _ (made_of hi (key_chain s idx n k j hk (by omega)))) with hc | he
    · exact absurd hc hcoll
    · exact he

/-- different keys do not sign alike -/
theorem keys_coll {T : List ByteArray} (s : ByteArray) (h n : Nat) (hn : 15 ≤ n) (m : ByteArray) (i j : Nat) (hi : i < 2 ^ h) (hj : j < 2 ^ h) (hij : i ≠ j) (hT : ∀ x ∈ madeB s h n, x ∈ T) (he : sigB s i m = sigB s j m) : Coll T := by
  have e1 : (sigB s i m).getD 0 ByteArray.empty = (sigB s j m).getD 0 ByteArray.empty := by rw [he]
  unfold sigB at e1
  rw [range18_getD _ 0 (by decide), range18_getD _ 0 (by decide)] at e1
  have hd := digAt_le m 0
  rcases chain_back (T := T) (digAt m 0) 0 (startB s i 0) (startB s j 0) (by rw [Nat.zero_add]; exact e1) (fun k hk => hT _ (made_of hi (key_chain s i n 0 k (by decide) (by omega)))) (fun k hk => hT _ (made_of hj (key_chain s j n 0 k (by decide) (by omega)))) with hc | h2
  · exact hc
  · rw [chainB_zero] at h2
    rcases start_coll h2 (hT _ (made_of hi (key_start s i n 0 (by decide)))) (hT _ (made_of hj (key_start s j n 0 (by decide)))) with hc | ⟨_, h3⟩
    · exact hc
    · exact absurd h3 hij

theorem startT_no (s : ByteArray) (i k : Nat) : digB (startT s i k) = false := by
  unfold digB startT joinT
  rw [bl_mk]
  unfold isDig
  rw [Bool.and_eq_false_iff]
  right
  rw [List.all_eq_false]
  exact ⟨58, by simp [joinB, encS], by decide⟩

/-- what was signed is not accepted for a message with another digest -/
theorem binds_no {T : List ByteArray} (s : ByteArray) (h : Nat) (hh : h ≤ 2) (m o : ByteArray) (i : Nat) (path : List ByteArray) (hne : dsum (bl m) ≠ dsum (bl o)) (hT1 : ∀ x ∈ madeB s h 30, x ∈ T) (hT2 : ∀ x ∈ checkedB o (sigB s i m) i path, x ∈ T)
    (hidx : i < 2 ^ path.length) (hup : upB (2 ^ path.length) i (leafOf (upEnds o (sigB s i m))) path = rootB (leavesB s h)) : Coll T := by
  rcases leaf_part s h 30 hh o (sigB s i m) i path hT1 hT2 hidx hup with hc | ⟨r1, r2, r3⟩
  · exact hc
  · have hi : i < 2 ^ h := by rw [← r1]; exact hidx
    obtain ⟨k, hk, hlt⟩ := digs_less m o hne
    have e1 : (upEnds o (sigB s i m)).getD k ByteArray.empty = (endsB s i).getD k ByteArray.empty := by rw [r3]
    unfold upEnds endsB sigB at e1
    rw [range18_getD _ k hk, range18_getD _ k hk, range18_getD _ k hk, chainB_add] at e1
    have hd := digAt_le m k
    obtain ⟨e, he⟩ : ∃ e, digAt m k - digAt o k = e + 1 := ⟨digAt m k - digAt o k - 1, by omega⟩
    rw [show digAt m k + (15 - digAt o k) = (e + 1) + 15 by omega] at e1
    rcases chain_back (T := T) 15 (e + 1) (startB s i k) (startB s i k) e1.symm (fun j hj => hT1 _ (made_of hi (key_chain s i 30 k j hk (by omega)))) (fun j hj => hT1 _ (made_of hi (key_chain s i 30 k j hk (by omega)))) with hc | h2
    · exact hc
    · rw [chainB_succ] at h2
      rcases sum_coll (x := startT s i k) (y := chainB (startB s i k) e) h2 (hT1 _ (made_of hi (key_start s i 30 k hk))) (hT1 _ (made_of hi (key_chain s i 30 k e hk (by omega)))) with hc | h3
      · exact hc
      · have h4 := startT_no s i k
        rw [h3, chainB_dig (startB_dig s i k)] at h4
        exact absurd h4 (by decide)

/-- two secrets have different public keys -/
theorem secrets_coll (s o : ByteArray) (h : Nat) (hh : h ≤ 2) (hne : s ≠ o) (he : rootB (leavesB s h) = rootB (leavesB o h)) : Coll (madeB s h 15 ++ madeB o h 15) := by
  have hT1 : ∀ x ∈ madeB s h 15, x ∈ madeB s h 15 ++ madeB o h 15 := fun x hx => List.mem_append_left _ hx
  have hT2 : ∀ x ∈ madeB o h 15, x ∈ madeB s h 15 ++ madeB o h 15 := fun x hx => List.mem_append_right _ hx
  have hp := Nat.pow_pos (n := h) (show 0 < 2 by decide)
  rcases roots_coll (2 ^ h) (leavesB s h) (leavesB o h) (by rw [leavesB_length]; exact Nat.le_refl _) (by rw [leavesB_length, leavesB_length]) he with hc | h1
  · refine hc.mono fun x hx => ?_
    rcases List.mem_append.1 hx with hx | hx
    · exact hT1 x (made_tree s h 15 hh x hx)
    · exact hT2 x (made_tree o h 15 hh x hx)
  · have e1 : keyL s 0 = keyL o 0 := by rw [← leavesB_at s h 0 hp, ← leavesB_at o h 0 hp, h1]
    rcases ends_coll e1 (hT1 _ (made_of hp (key_leaf s 0 15))) (hT2 _ (made_of hp (key_leaf o 0 15))) (hT1 _ (made_of hp (key_key s 0 15))) (hT2 _ (made_of hp (key_key o 0 15))) with hc | h2
    · exact hc
    · have e2 : (endsB s 0).getD 0 ByteArray.empty = (endsB o 0).getD 0 ByteArray.empty := by rw [h2]
      unfold endsB at e2
      rw [range18_getD _ 0 (by decide), range18_getD _ 0 (by decide)] at e2
      rcases chain_back (T := madeB s h 15 ++ madeB o h 15) 15 0 (startB s 0 0) (startB o 0 0) (by rw [Nat.zero_add]; exact e2) (fun k hk => hT1 _ (made_of hp (key_chain s 0 15 0 k (by decide) hk))) (fun k hk => hT2 _ (made_of hp (key_chain o 0 15 0 k (by decide) (by omega)))) with hc | h3
      · exact hc
      · rw [chainB_zero] at h3
        rcases start_coll h3 (hT1 _ (made_of hp (key_start s 0 15 0 (by decide)))) (hT2 _ (made_of hp (key_start o 0 15 0 (by decide)))) with hc | ⟨h4, _⟩
        · exact hc
        · exact absurd h4 hne

/-- what is signed is accepted -/
theorem signed_up (s : ByteArray) (h i : Nat) (hi : i < 2 ^ h) (m : ByteArray) : upB (2 ^ h) i (leafOf (upEnds m (sigB s i m))) (pathB (leavesB s h) i) = rootB (leavesB s h) := by
  rw [upEnds_sig]
  have h1 := up_path (2 ^ h) (leavesB s h) i (by rw [leavesB_length]; exact Nat.le_refl _) (by rw [leavesB_length]; exact hi)
  have h2 := leavesB_at s h i hi
  rw [getD_lt _ _ _ (by rw [leavesB_length]; exact hi)] at h2
  rw [h2, leavesB_length] at h1
  exact h1
theorem path_len (s : ByteArray) (h i : Nat) (hi : i < 2 ^ h) : (pathB (leavesB s h) i).length = h := by
  rw [pathB_length (2 ^ h) _ _ (by rw [leavesB_length]; exact Nat.le_refl _), leavesB_length, depth_pow h i hi]
theorem path_dig (s : ByteArray) (h i : Nat) : (pathB (leavesB s h) i).all digB = true :=
  pathB_dig (2 ^ h) _ _ (by rw [leavesB_length]; exact Nat.le_refl _) (leavesB_dig s h)

/-! ### Lengths -/

theorem flatMap_len {α : Type} (f : α → List ByteArray) (c : Nat) : ∀ l : List α, (∀ x ∈ l, (f x).length ≤ c) → (l.flatMap f).length ≤ l.length * c
  | [], _ => by simp
  | x :: l, h => by
    have h1 := h x List.mem_cons_self
    have h2 := flatMap_len f c l fun y hy => h y (List.mem_cons_of_mem _ hy)
    rw [List.flatMap_cons, List.length_append, List.length_cons, Nat.add_mul]
    omega
theorem chainL_length (x : ByteArray) (n : Nat) : (chainL x n).length = n + 1 := by simp [chainL]
theorem keyTs_len (s : ByteArray) (i n : Nat) : (keyTs s i n).length ≤ 18 * (n + 2) + 2 := by
  have := flatMap_len (fun k => startT s i k :: chainL (startB s i k) n) (n + 2) (List.range 18) (fun k _ => by rw [List.length_cons, chainL_length]; omega)
  rw [List.length_range] at this
  unfold keyTs
  rw [List.length_append]
  simp only [List.length_cons, List.length_nil]
  omega
theorem pair_len : ∀ l : List ByteArray, (pairT l).length = l.length / 2 ∧ (pairN l).length = l.length / 2
  | [] => ⟨by simp [pairT], by simp [pairN]⟩
  | [_] => ⟨by simp [pairT], by simp [pairN]⟩
  | a :: b :: r => by
    have h := pair_len r
    simp only [pairT, pairN, List.length_cons, h.1, h.2]
    omega
theorem lvlT_len (f : Nat) : ∀ l : List ByteArray, (lvlT f l).length ≤ l.length := by
  induction f with
  | zero => intro l; simp [lvlT]
  | succ f ih =>
    intro l
    unfold lvlT
    split
    · simp
    · have h := pair_len l
      have h2 := ih (pairN l)
      rw [List.length_append, h.1]
      rw [h.2] at h2
      omega
theorem madeB_len (s : ByteArray) (h n : Nat) (hh : h ≤ 2) (hn : n ≤ 30) : (madeB s h n).length ≤ 2400 := by
  have h1 := flatMap_len (fun i => keyTs s i n) (18 * (n + 2) + 2) (List.range (2 ^ h)) (fun i _ => keyTs_len s i n)
  rw [List.length_range] at h1
  have h2 := lvlT_len (2 ^ h) (leavesB s h)
  rw [leavesB_length] at h2
  have h3 : 2 ^ h ≤ 4 := by
    match h, hh with
    | 0, _ => decide
    | 1, _ => decide
    | 2, _ => decide
  have h4 : 2 ^ h * (18 * (n + 2) + 2) ≤ 4 * 578 := Nat.mul_le_mul h3 (by omega)
  unfold madeB
  rw [List.length_append]
  omega
theorem upTexts_len (p : List ByteArray) : ∀ (a : ByteArray) (i : Nat), (upTexts a i p).length = p.length := by
  induction p with
  | nil => intro a i; rfl
  | cons x p ih => intro a i; simp only [upTexts, List.length_cons, ih]
theorem checkedB_len (m : ByteArray) (sig : List ByteArray) (idx : Nat) (path : List ByteArray) : (checkedB m sig idx path).length ≤ 290 + path.length := by
  have h1 := flatMap_len (fun k => chainL (sig.getD k ByteArray.empty) (15 - digAt m k)) 16 (List.range 18) (fun k _ => by rw [chainL_length]; omega)
  rw [List.length_range] at h1
  unfold checkedB
  rw [List.length_append, List.length_append, upTexts_len]
  simp only [List.length_cons, List.length_nil]
  omega

end Go.Proofs.YtohhkgnddeeomaaDoor.Dig
