/- Rings that begin with another one of their points have the same sides, in another order; what does not ask for the order is the same. -/
import Derived.Test.YtohkmkkcblbemaaPolSort
import Derived.Test.YtohkmkkcblbemaaGeoMove
namespace Go.Proofs.Ytohkmkkcblbemaa.Ge
set_option linter.unusedVariables false
set_option linter.unusedSimpArgs false

abbrev Pl := Int × Int
theorem nth_congr {l : List Pl} {i j : Nat} (h : i % l.length = j % l.length) : nth l i = nth l j := by unfold nth; rw [h]
theorem nth_add (l : List Pl) (i : Nat) : nth l (i + l.length) = nth l i := nth_congr (Nat.add_mod_right ..)
theorem side_add (l : List Pl) (i : Nat) : sideAt l (i + l.length) = sideAt l i := by
  unfold sideAt
  rw [nth_add, show i + l.length + 1 = i + 1 + l.length by omega, nth_add]
/-! ### numbers counted on from another one -/
theorem range_one {α : Type} (n : Nat) (F : Nat → α) (h : ∀ i, F (i + n) = F i) : ((List.range n).map fun i => F (i + 1)).Perm ((List.range n).map F) := by
  cases n with
  | zero => exact List.Perm.refl _
  | succ m =>
    have e1 : (List.range (m + 1)).map F = F 0 :: (List.range m).map fun i => F (i + 1) := by
      rw [List.range_succ_eq_map, List.map_cons, List.map_map]
      rfl
    have e2 : (List.range (m + 1)).map (fun i => F (i + 1)) = ((List.range m).map fun i => F (i + 1)) ++ [F 0] := by
      rw [List.range_succ, List.map_append, List.map_singleton]
      have := h 0
      rw [Nat.zero_add] at this
      rw [this]
    rw [e1, e2]
    exact List.perm_append_comm
theorem range_shift {α : Type} (n : Nat) (F : Nat → α) (h : ∀ i, F (i + n) = F i) : ∀ k, ((List.range n).map fun i => F (i + k)).Perm ((List.range n).map F)
  | 0 => List.Perm.refl _
  | k + 1 => by
    have h1 := range_one n (fun i => F (i + k)) (fun i => by rw [show i + n + k = i + k + n by omega, h])
    refine List.Perm.trans ?_ (range_shift n F h k)
    refine List.Perm.trans (List.Perm.of_eq ?_) h1
    exact List.map_congr_left fun i _ => by rw [show i + (k + 1) = i + 1 + k by omega]
theorem range_back {α : Type} (n : Nat) (F : Nat → α) : ((List.range n).map fun i => F (n - 1 - i)).Perm ((List.range n).map F) := by
  have e : ((List.range n).map fun i => F (n - 1 - i)) = ((List.range n).map F).reverse := by
    apply List.ext_getElem
    · simp
    · intro i h1 h2
      simp
  rw [e]
  exact List.reverse_perm _
/-! ### what does not ask for the order of the sides -/
theorem sumS_perm {f : Sd → Int} {a b : List Sd} (h : a.Perm b) : sumS f a = sumS f b := by
  induction h with
  | nil => rfl
  | cons x _ ih => simp only [sumS, List.map_cons, List.sum_cons] at ih ⊢; rw [ih]
  | swap x y l => simp only [sumS, List.map_cons, List.sum_cons]; omega
  | trans _ _ h1 h2 => exact h1.trans h2
theorem any_perm {α : Type} {f : α → Bool} {a b : List α} (h : a.Perm b) : a.any f = b.any f := by
  rw [Bool.eq_iff_iff, List.any_eq_true, List.any_eq_true]
  exact ⟨fun ⟨x, hx, k⟩ => ⟨x, h.mem_iff.1 hx, k⟩, fun ⟨x, hx, k⟩ => ⟨x, h.mem_iff.2 hx, k⟩⟩
theorem all_perm {α : Type} {f : α → Bool} {a b : List α} (h : a.Perm b) : a.all f = b.all f := by
  rw [Bool.eq_iff_iff, List.all_eq_true, List.all_eq_true]
  exact ⟨fun k x hx => k x (h.mem_iff.2 hx), fun k x hx => k x (h.mem_iff.1 hx)⟩
/-- the corners, each with the two behind it -/
def triAt (l : List Pl) (i : Nat) : Pl × Pl × Pl := (nth l i, nth l (i + 1), nth l (i + 2))
def triL (l : List Pl) : List (Pl × Pl × Pl) := (List.range l.length).map (triAt l)
def triV (t : Pl × Pl × Pl) : Int := turnV t.1.1 t.1.2 t.2.1.1 t.2.1.2 t.2.2.1 t.2.2.2
theorem tri_add (l : List Pl) (i : Nat) : triAt l (i + l.length) = triAt l i := by
  unfold triAt
  rw [nth_add, show i + l.length + 1 = i + 1 + l.length by omega, nth_add, show i + l.length + 2 = i + 2 + l.length by omega, nth_add]
theorem bends_tri (l : List Pl) : bendsB l = (triL l).all fun t => triV t != 0 := by
  unfold bendsB triL
  rw [List.all_map]
  rfl
theorem cross_symm {s t : Sd} : crossS s t = crossS t s := by
  unfold crossS
  by_cases h : onP s.1.1 s.1.2 ∧ onP s.2.1 s.2.2 ∧ onP t.1.1 t.1.2 ∧ onP t.2.1 t.2.2
  · obtain ⟨a, b, c, d⟩ := h
    exact (cross_c a b c d).symm
  · have k : ¬ (onP t.1.1 t.1.2 ∧ onP t.2.1 t.2.2 ∧ onP s.1.1 s.1.2 ∧ onP s.2.1 s.2.2) := fun ⟨a, b, c, d⟩ => h ⟨c, d, a, b⟩
    unfold crossV
    rw [if_neg h, if_neg k]
theorem free_symm (s t : Sd) : freeB s t = freeB t s := by
  unfold freeB
  rw [cross_symm (s := s)]
  generalize (s.1 == t.2) = a
  generalize (t.1 == s.2) = b
  generalize (crossS t s == 0) = c
  revert a b c
  decide
theorem simple_pairs (l : List Pl) : simpleB l = true ↔ (sidesL l).Pairwise fun s t => freeB s t = true := by
  unfold simpleB sidesL
  rw [List.all_eq_true, List.pairwise_map, List.pairwise_iff_getElem]
  constructor
  · intro h i j hi hj hij
    rw [List.getElem_range, List.getElem_range, free_symm]
    rw [List.length_range] at hj
    exact List.all_eq_true.1 (h j (List.mem_range.2 hj)) i (List.mem_range.2 hij)
  · intro h i hi
    rw [List.all_eq_true]
    intro k hk
    have hi := List.mem_range.1 hi
    have hk := List.mem_range.1 hk
    have := h k i (by rw [List.length_range]; omega) (by rw [List.length_range]; omega) hk
    rw [List.getElem_range, List.getElem_range, free_symm] at this
    exact this
theorem simple_perm {a b : List Pl} (h : (sidesL a).Perm (sidesL b)) : simpleB a = simpleB b := by
  rw [Bool.eq_iff_iff, simple_pairs, simple_pairs]
  exact h.pairwise_iff fun {x y} k => by rw [free_symm]; exact k
theorem where_perm {a b : List Pl} (h : (sidesL a).Perm (sidesL b)) (p : Pl) : whereP a p = whereP b p := by
  unfold whereP
  rw [any_perm h, sumS_perm h]
/-! ### a ring that begins with another one of its points -/
def rotL (k : Nat) (l : List Pl) : List Pl := l.drop k ++ l.take k
theorem rot_len (k : Nat) (l : List Pl) : (rotL k l).length = l.length := by
  unfold rotL
  rw [List.length_append, List.length_drop, List.length_take]
  omega
theorem rot_perm (k : Nat) (l : List Pl) : (rotL k l).Perm l := by
  unfold rotL
  exact List.perm_append_comm.trans (List.Perm.of_eq (List.take_append_drop k l))
theorem nth_rot {l : List Pl} {k : Nat} (hk : k ≤ l.length) (i : Nat) : nth (rotL k l) i = nth l (i + k) := by
  by_cases h0 : l.length = 0
  · have : l = [] := List.eq_nil_of_length_eq_zero h0
    subst this
    simp [rotL, nth]
  have hj : i % l.length < l.length := Nat.mod_lt _ (by omega)
  have e1 : nth (rotL k l) i = (rotL k l)[i % l.length]'(by rw [rot_len]; exact hj) := by
    have := nth_lt (l := rotL k l) (i := i % l.length) (by rw [rot_len]; exact hj)
    rw [← this]
    exact nth_congr (by rw [rot_len, Nat.mod_mod])
  have e2 : nth l (i + k) = nth l (i % l.length + k) := nth_congr (Nat.mod_add_mod _ _ _).symm
  rw [e1, e2]
  generalize i % l.length = j at hj
  unfold rotL
  rw [List.getElem_append]
  split
  · next h =>
    rw [List.length_drop] at h
    rw [List.getElem_drop, nth_lt (by omega)]
    congr 1
    omega
  · next h =>
    rw [List.length_drop] at h
    have e3 : nth l (j + k) = nth l (j + k - l.length) := nth_congr (by rw [show j + k = j + k - l.length + l.length by omega, Nat.add_mod_right, Nat.add_sub_cancel])
    rw [List.getElem_take, e3, nth_lt (by omega)]
    congr 1
    rw [List.length_drop]
    omega
theorem sides_rot {l : List Pl} {k : Nat} (hk : k ≤ l.length) : (sidesL (rotL k l)).Perm (sidesL l) := by
  unfold sidesL
  rw [rot_len]
  refine List.Perm.trans (List.Perm.of_eq ?_) (range_shift l.length (sideAt l) (side_add l) k)
  exact List.map_congr_left fun i _ => by unfold sideAt; rw [nth_rot hk, nth_rot hk, show i + 1 + k = i + k + 1 by omega]
theorem tri_rot {l : List Pl} {k : Nat} (hk : k ≤ l.length) : (triL (rotL k l)).Perm (triL l) := by
  unfold triL
  rw [rot_len]
  refine List.Perm.trans (List.Perm.of_eq ?_) (range_shift l.length (triAt l) (tri_add l) k)
  exact List.map_congr_left fun i _ => by unfold triAt; rw [nth_rot hk, nth_rot hk, nth_rot hk, show i + 1 + k = i + k + 1 by omega, show i + 2 + k = i + k + 2 by omega]
theorem bends_rot {l : List Pl} {k : Nat} (hk : k ≤ l.length) : bendsB (rotL k l) = bendsB l := by rw [bends_tri, bends_tri, all_perm (tri_rot hk)]
theorem area_rotL {l : List Pl} {k : Nat} (hk : k ≤ l.length) : areaS (rotL k l) = areaS l := sumS_perm (sides_rot hk)
theorem valid_rot {l : List Pl} {k : Nat} (hk : k ≤ l.length) : validB (rotL k l) = validB l := by
  unfold validB
  rw [rot_len, bends_rot hk, area_rotL hk, simple_perm (sides_rot hk)]
theorem twice_rot {l : List Pl} {k : Nat} (hk : k ≤ l.length) : twiceV (rotL k l) = twiceV l := by
  unfold twiceV
  rw [valid_rot hk, area_rotL hk]
theorem where_rot {l : List Pl} {k : Nat} (hk : k ≤ l.length) (x y : Int) : whereV (rotL k l) x y = whereV l x y := by
  unfold whereV
  rw [valid_rot hk, where_perm (sides_rot hk)]
/-! boxes -/
theorem min_le (d : Int) : ∀ l : List Int, minI l d ≤ d ∧ ∀ x ∈ l, minI l d ≤ x := fun l => by
  unfold minI
  induction l generalizing d with
  | nil => simp
  | cons a l ih =>
    obtain ⟨h1, h2⟩ := ih (min d a)
    rw [List.foldl_cons]
    refine ⟨by omega, fun x hx => ?_⟩
    rcases List.mem_cons.1 hx with rfl | hx
    · omega
    · exact h2 x hx
theorem min_mem (d : Int) : ∀ l : List Int, minI l d = d ∨ minI l d ∈ l := fun l => by
  unfold minI
  induction l generalizing d with
  | nil => simp
  | cons a l ih =>
    rw [List.foldl_cons]
    rcases ih (min d a) with h | h
    · rw [h]
      by_cases k : d ≤ a
      · left; omega
      · right
        rw [show min d a = a by omega]
        exact List.mem_cons_self ..
    · exact .inr (List.mem_cons_of_mem _ h)
theorem max_le (d : Int) : ∀ l : List Int, d ≤ maxI l d ∧ ∀ x ∈ l, x ≤ maxI l d := fun l => by
  unfold maxI
  induction l generalizing d with
  | nil => simp
  | cons a l ih =>
    obtain ⟨h1, h2⟩ := ih (max d a)
    rw [List.foldl_cons]
    refine ⟨by omega, fun x hx => ?_⟩
    rcases List.mem_cons.1 hx with rfl | hx
    · omega
    · exact h2 x hx
theorem max_mem (d : Int) : ∀ l : List Int, maxI l d = d ∨ maxI l d ∈ l := fun l => by
  unfold maxI
  induction l generalizing d with
  | nil => simp
  | cons a l ih =>
    rw [List.foldl_cons]
    rcases ih (max d a) with h | h
    · rw [h]
      by_cases k : a ≤ d
      · left; omega
      · right
        rw [show max d a = a by omega]
        exact List.mem_cons_self ..
    · exact .inr (List.mem_cons_of_mem _ h)
theorem min_same {l m : List Int} {d e : Int} (hd : d ∈ l) (he : e ∈ m) (h : ∀ x, x ∈ l ↔ x ∈ m) : minI l d = minI m e := by
  have a : minI l d ∈ l := by
    rcases min_mem d l with k | k
    · rw [k]; exact hd
    · exact k
  have b : minI m e ∈ m := by
    rcases min_mem e m with k | k
    · rw [k]; exact he
    · exact k
  have := (min_le d l).2 _ ((h _).2 b)
  have := (min_le e m).2 _ ((h _).1 a)
  omega
theorem max_same {l m : List Int} {d e : Int} (hd : d ∈ l) (he : e ∈ m) (h : ∀ x, x ∈ l ↔ x ∈ m) : maxI l d = maxI m e := by
  have a : maxI l d ∈ l := by
    rcases max_mem d l with k | k
    · rw [k]; exact hd
    · exact k
  have b : maxI m e ∈ m := by
    rcases max_mem e m with k | k
    · rw [k]; exact he
    · exact k
  have := (max_le d l).2 _ ((h _).2 b)
  have := (max_le e m).2 _ ((h _).1 a)
  omega
theorem box_rot {l : List Pl} {k : Nat} (hk : k ≤ l.length) : lowP (rotL k l) = lowP l ∧ highP (rotL k l) = highP l := by
  unfold lowP highP
  rw [valid_rot hk]
  cases hv : validB l with
  | false => exact ⟨rfl, rfl⟩
  | true =>
    have hl := (valid_len hv).1
    have hn : l ≠ [] := fun h => by rw [h] at hl; simp at hl
    have hr : rotL k l ≠ [] := fun h => hn (List.eq_nil_of_length_eq_zero (by rw [← rot_len k l, h]; rfl))
    have hm : ∀ f : Pl → Int, ∀ x, x ∈ (rotL k l).map f ↔ x ∈ l.map f := fun f x => ((rot_perm k l).map f).mem_iff
    have m1 : ∀ f : Pl → Int, f (nth (rotL k l) 0) ∈ (rotL k l).map f := fun f => List.mem_map_of_mem (nth_mem hr 0)
    have m2 : ∀ f : Pl → Int, f (nth l 0) ∈ l.map f := fun f => List.mem_map_of_mem (nth_mem hn 0)
    refine ⟨?_, ?_⟩
    · simp only [if_true]
      exact Prod.ext (min_same (m1 (·.1)) (m2 (·.1)) (hm (·.1))) (min_same (m1 (·.2)) (m2 (·.2)) (hm (·.2)))
    · simp only [if_true]
      exact Prod.ext (max_same (m1 (·.1)) (m2 (·.1)) (hm (·.1))) (max_same (m1 (·.2)) (m2 (·.2)) (hm (·.2)))
/-! two rings -/
theorem crossing_perm {a a' b b' : List Pl} (h : (sidesL a).Perm (sidesL a')) (k : (sidesL b).Perm (sidesL b')) : crossingB a b = crossingB a' b' := by
  unfold crossingB
  rw [any_perm h]
  exact congrArg (List.any _) (funext fun s => any_perm k)
theorem ends_rot {b c : List Pl} (hc : c.Perm b) {s : Sd} (hs : onS s) : endsS c s = endsS b s := by
  symm
  refine ends_settled hs ((ends_perm b s).trans ?_) (sortD_sorted _ _)
  exact List.Perm.append_right _ (hc.symm.filter _)
theorem reaches_left {a c b : List Pl} (h : (sidesL a).Perm (sidesL c)) (th : Int) : reachesB a b th = reachesB c b th := by
  unfold reachesB midsL
  rw [List.any_flatMap, List.any_flatMap, any_perm h]
theorem reaches_right {a b c : List Pl} (ha : onL a) (hc : c.Perm b) (h : (sidesL c).Perm (sidesL b)) (th : Int) : reachesB a c th = reachesB a b th := by
  unfold reachesB
  have e : midsL a c = midsL a b := by
    unfold midsL
    have : ∀ ss : List Sd, (∀ s ∈ ss, onS s) → ss.flatMap (midsS c) = ss.flatMap (midsS b) := fun ss hss => by
      induction ss with
      | nil => rfl
      | cons s ss ih =>
        rw [List.flatMap_cons, List.flatMap_cons, ih fun t ht => hss t (List.mem_cons_of_mem _ ht)]
        unfold midsS
        rw [ends_rot hc (hss s (List.mem_cons_self ..))]
    exact this _ fun s hs => onS_of ha hs
  rw [e]
  exact congrArg (List.any _) (funext fun p => by rw [where_perm h])
theorem within_rot {a b : List Pl} {k : Nat} (hk : k ≤ a.length) : withinB (rotL k a) b = withinB a b ∧ withinB b (rotL k a) = withinB b a ∧ apartR (rotL k a) b = apartR a b := by
  have hs := sides_rot hk
  unfold withinB apartR
  rw [valid_rot hk, crossing_perm hs (List.Perm.refl (sidesL b)), crossing_perm (List.Perm.refl (sidesL b)) hs, reaches_left hs]
  cases hb : validB b with
  | false => simp
  | true =>
    rw [reaches_right (valid_on hb) (rot_perm k a) hs, reaches_right (valid_on hb) (rot_perm k a) hs]
    exact ⟨rfl, rfl, rfl⟩
end Go.Proofs.Ytohkmkkcblbemaa.Ge
