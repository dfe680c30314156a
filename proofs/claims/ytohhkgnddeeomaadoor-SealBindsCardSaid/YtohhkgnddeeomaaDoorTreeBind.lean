/- Plain mathematics of layer 2 (tree): paths and links prove, and bind; the strings that are digested. No Go, no program. -/
import Derived.Test.YtohhkgnddeeomaaDoorTreeMath
namespace Go.Proofs.YtohhkgnddeeomaaDoor.Dig
set_option linter.unusedVariables false
set_option linter.unusedSimpArgs false

theorem take_drop_mid (l : List ByteArray) (k m : Nat) (h : k ≤ m) : (l.take m).take k = l.take k := by rw [List.take_take, Nat.min_eq_left h]
theorem drop_take_mid (l : List ByteArray) (k m : Nat) (h : k ≤ m) : (l.take m).drop k = (l.drop k).take (m - k) := by rw [List.drop_take]

/-! ### Lengths -/

theorem pathB_length (N : Nat) : ∀ (l : List ByteArray) (i : Nat), l.length ≤ N → (pathB l i).length = depth l.length i := by
  induction N with
  | zero =>
    intro l i hl
    rw [pathB_eq, depth_eq, if_pos (by omega), if_pos (by omega)]
    rfl
  | succ N ih =>
    intro l i hl
    rw [pathB_eq, depth_eq]
    by_cases h1 : l.length ≤ 1
    · rw [if_pos h1, if_pos h1]; rfl
    · have k1 := half_lt l.length (by omega)
      have k2 := half_pos l.length
      rw [if_neg h1, if_neg h1]
      by_cases h2 : i < half l.length
      · rw [if_pos h2, if_pos h2, List.length_append, ih _ _ (by rw [List.length_take]; omega), List.length_take, Nat.min_eq_left (by omega)]
        simp
        omega
      · rw [if_neg h2, if_neg h2, List.length_append, ih _ _ (by rw [List.length_drop]; omega), List.length_drop]
        simp
        omega

theorem linkB_length (N : Nat) : ∀ (l : List ByteArray) (m : Nat) (b : Bool), l.length ≤ N → (linkB l m b).length = span l.length m b := by
  induction N with
  | zero =>
    intro l m b hl
    have h0 : m = l.length ∨ l.length ≤ 1 := .inr (by omega)
    rw [linkB_eq, span_eq, if_pos h0, if_pos h0]
    cases b <;> rfl
  | succ N ih =>
    intro l m b hl
    rw [linkB_eq, span_eq]
    by_cases h1 : m = l.length ∨ l.length ≤ 1
    · rw [if_pos h1, if_pos h1]
      cases b <;> rfl
    · have k1 := half_lt l.length (by omega)
      have k2 := half_pos l.length
      rw [if_neg h1, if_neg h1]
      by_cases h2 : m ≤ half l.length
      · rw [if_pos h2, if_pos h2, List.length_append, ih _ _ _ (by rw [List.length_take]; omega), List.length_take, Nat.min_eq_left (by omega)]
        simp
        omega
      · rw [if_neg h2, if_neg h2, List.length_append, ih _ _ _ (by rw [List.length_drop]; omega), List.length_drop]
        simp
        omega

/-! ### All elements of paths and links are digests -/

theorem all_take {f : ByteArray → Bool} {l : List ByteArray} (k : Nat) (h : l.all f = true) : (l.take k).all f = true := by
  rw [List.all_eq_true] at h ⊢
  exact fun x hx => h x (List.mem_of_mem_take hx)
theorem all_drop {f : ByteArray → Bool} {l : List ByteArray} (k : Nat) (h : l.all f = true) : (l.drop k).all f = true := by
  rw [List.all_eq_true] at h ⊢
  exact fun x hx => h x (List.mem_of_mem_drop hx)
theorem rootB_dig (l : List ByteArray) (h : l.all digB = true) : digB (rootB l) = true := by
  rw [rootB_eq, rootStep]
  split
  · exact lsum_dig _
  · split
    · match l, h with
      | [x], h => simpa using h
      | _ :: _ :: _, _ => simp at *
      | [], _ => simp at *
    · exact nodeB_dig _ _
theorem pathB_dig (N : Nat) : ∀ (l : List ByteArray) (i : Nat), l.length ≤ N → l.all digB = true → (pathB l i).all digB = true := by
  induction N with
  | zero =>
    intro l i hl _
    rw [pathB_eq, if_pos (by omega)]
    rfl
  | succ N ih =>
    intro l i hl hd
    rw [pathB_eq]
    by_cases h1 : l.length ≤ 1
    · rw [if_pos h1]; rfl
    · have k1 := half_lt l.length (by omega)
      have k2 := half_pos l.length
      rw [if_neg h1]
      by_cases h2 : i < half l.length
      · rw [if_pos h2, List.all_append, ih _ _ (by rw [List.length_take]; omega) (all_take _ hd)]
        simp [rootB_dig _ (all_drop _ hd)]
      · rw [if_neg h2, List.all_append, ih _ _ (by rw [List.length_drop]; omega) (all_drop _ hd)]
        simp [rootB_dig _ (all_take _ hd)]
theorem linkB_dig (N : Nat) : ∀ (l : List ByteArray) (m : Nat) (b : Bool), l.length ≤ N → l.all digB = true → (linkB l m b).all digB = true := by
  have base : ∀ (l : List ByteArray) (b : Bool), l.all digB = true → ((if b then [] else [rootB l]) : List ByteArray).all digB = true := by
    intro l b hd
    cases b with
    | true => rfl
    | false => simp [rootB_dig _ hd]
  induction N with
  | zero =>
    intro l m b hl hd
    have h0 : m = l.length ∨ l.length ≤ 1 := .inr (by omega)
    rw [linkB_eq, if_pos h0]
    exact base l b hd
  | succ N ih =>
    intro l m b hl hd
    rw [linkB_eq]
    by_cases h1 : m = l.length ∨ l.length ≤ 1
    · rw [if_pos h1]
      exact base l b hd
    · have k1 := half_lt l.length (by omega)
      have k2 := half_pos l.length
      rw [if_neg h1]
      by_cases h2 : m ≤ half l.length
      · rw [if_pos h2, List.all_append, ih _ _ _ (by rw [List.length_take]; omega) (all_take _ hd)]
        simp [rootB_dig _ (all_drop _ hd)]
      · rw [if_neg h2, List.all_append, ih _ _ _ (by rw [List.length_drop]; omega) (all_drop _ hd)]
        simp [rootB_dig _ (all_take _ hd)]

/-! ### A path proves its element, a link its beginning -/

theorem lastB_snoc (p : List ByteArray) (x : ByteArray) : lastB (p ++ [x]) = x := by simp [lastB]
theorem dropLast_snoc (p : List ByteArray) (x : ByteArray) : (p ++ [x]).dropLast = p := by simp

theorem up_path (N : Nat) : ∀ (l : List ByteArray) (i : Nat), l.length ≤ N → (hi : i < l.length) → upB l.length i l[i] (pathB l i) = rootB l := by
  induction N with
  | zero => intro l i hl hi; omega
  | succ N ih =>
    intro l i hl hi
    by_cases h1 : l.length ≤ 1
    · rw [upB_eq, if_pos h1]
      match l, i, hi, h1 with
      | [x], 0, _, _ => rfl
    · have k1 := half_lt l.length (by omega)
      have k2 := half_pos l.length
      rw [upB_eq, pathB_eq, if_neg h1, if_neg h1, rootB_node l (by omega)]
      by_cases h2 : i < half l.length
      · rw [if_pos h2, if_pos h2, lastB_snoc, dropLast_snoc]
        have h3 := ih (l.take (half l.length)) i (by rw [List.length_take]; omega) (by rw [List.length_take]; omega)
        have hlen : (l.take (half l.length)).length = half l.length := by rw [List.length_take]; omega
        have he : (l.take (half l.length))[i]'(by rw [List.length_take]; omega) = l[i] := List.getElem_take
        rw [he, hlen] at h3
        rw [h3]
      · rw [if_neg h2, if_neg h2, lastB_snoc, dropLast_snoc]
        have h3 := ih (l.drop (half l.length)) (i - half l.length) (by rw [List.length_drop]; omega) (by rw [List.length_drop]; omega)
        have he : (l.drop (half l.length))[i - half l.length]'(by rw [List.length_drop]; omega) = l[i] := by
          rw [List.getElem_drop]
          congr 1
          omega
        rw [he, List.length_drop] at h3
        rw [h3]

/-- the root of a beginning that is longer than the first part -/
theorem rootB_begin (l : List ByteArray) (m : Nat) (h : 2 ≤ l.length) (h1 : half l.length < m) (h2 : m ≤ l.length) :
    rootB (l.take m) = nodeB (rootB (l.take (half l.length))) (rootB ((l.drop (half l.length)).take (m - half l.length))) := by
  have k2 := half_pos l.length
  have hlen : (l.take m).length = m := by rw [List.length_take]; omega
  rw [rootB_node _ (by omega), hlen, half_mid l.length m h h1 h2, take_drop_mid _ _ _ (by omega), drop_take_mid _ _ _ (by omega)]

theorem bo_link (N : Nat) : ∀ (l : List ByteArray) (m : Nat) (b : Bool) (o : ByteArray), l.length ≤ N → 1 ≤ m → m ≤ l.length → (b = true → o = rootB (l.take m)) →
    boB l.length m b o (linkB l m b) = (rootB (l.take m), rootB l) := by
  induction N with
  | zero => intro l m b o hl h1 h2; omega
  | succ N ih =>
    intro l m b o hl hm1 hm2 ho
    by_cases h1 : m = l.length ∨ l.length ≤ 1
    · have hm : m = l.length := by omega
      rw [boB_eq, linkB_eq, if_pos h1, if_pos h1]
      subst hm
      rw [List.take_length] at ho ⊢
      cases b with
      | true => rw [ho rfl]; rfl
      | false => rfl
    · have k1 := half_lt l.length (by omega)
      have k2 := half_pos l.length
      rw [boB_eq, linkB_eq, if_neg h1, if_neg h1, rootB_node l (by omega)]
      by_cases h2 : m ≤ half l.length
      · rw [if_pos h2, if_pos h2, lastB_snoc, dropLast_snoc]
        have hlen : (l.take (half l.length)).length = half l.length := by rw [List.length_take]; omega
        have h3 := ih (l.take (half l.length)) m b o (by omega) hm1 (by omega) (by rw [take_drop_mid _ _ _ h2]; exact ho)
        rw [hlen, take_drop_mid _ _ _ h2] at h3
        rw [h3]
      · rw [if_neg h2, if_neg h2, lastB_snoc, dropLast_snoc]
        have h3 := ih (l.drop (half l.length)) (m - half l.length) false o (by rw [List.length_drop]; omega) (by omega) (by rw [List.length_drop]; omega) (by intro h; cases h)
        rw [List.length_drop] at h3
        rw [h3, rootB_begin l m (by omega) (by omega) hm2]

/-! ### Numbers of digits -/

/-- the number of binary digits -/
def bits2 (n : Nat) : Nat := if n = 0 then 0 else Nat.log2 n + 1
theorem bits2_half (n : Nat) (h : 0 < n) : bits2 n = bits2 (n / 2) + 1 := by
  unfold bits2
  rw [if_neg (by omega), Nat.log2_def]
  split
  · rw [if_neg (by omega)]
  · rw [if_pos (by omega)]
theorem depth_bits : ∀ n : Fin 21, ∀ i : Fin 21, i.val < n.val → depth n.val i.val ≤ bits2 n.val ∧ ((depth n.val i.val = 0) ↔ n.val = 1) := by decide +kernel
theorem span_bits : ∀ n : Fin 21, ∀ m : Fin 21, 0 < m.val → m.val ≤ n.val → span n.val m.val true ≤ bits2 n.val + 1 ∧ ((span n.val m.val true = 0) ↔ m.val = n.val) := by decide +kernel

/-! ### The strings that are digested -/

def textsStep (r : List ByteArray → List ByteArray) (l : List ByteArray) : List ByteArray :=
  if l.length = 0 then [joinT [wEmpty]] else if l.length = 1 then []
  else (r (l.take (half l.length)) ++ r (l.drop (half l.length))) ++ [joinT [wNode, rootB (l.take (half l.length)), rootB (l.drop (half l.length))]]
def textsB : List ByteArray → List ByteArray := recN [] List.length textsStep
theorem textsB_eq (l : List ByteArray) : textsB l = if l.length = 0 then [joinT [wEmpty]] else if l.length = 1 then []
    else (textsB (l.take (half l.length)) ++ textsB (l.drop (half l.length))) ++ [joinT [wNode, rootB (l.take (half l.length)), rootB (l.drop (half l.length))]] := recN_eq (fun g h x H => by
  unfold textsStep
  split
  · rfl
  · split
    · rfl
    · have h1 := half_lt x.length (by omega)
      have h2 := half_pos x.length
      rw [H _ (by rw [List.length_take]; omega), H _ (by rw [List.length_drop]; omega)]) l

def ptStep (r : UpIn → List ByteArray) (x : UpIn) : List ByteArray :=
  if x.1 ≤ 1 then [] else if x.2.1 < half x.1 then r (half x.1, x.2.1, x.2.2.1, x.2.2.2.dropLast) ++ [joinT [wNode, upB (half x.1) x.2.1 x.2.2.1 x.2.2.2.dropLast, lastB x.2.2.2]]
  else r (x.1 - half x.1, x.2.1 - half x.1, x.2.2.1, x.2.2.2.dropLast) ++ [joinT [wNode, lastB x.2.2.2, upB (x.1 - half x.1) (x.2.1 - half x.1) x.2.2.1 x.2.2.2.dropLast]]
def ptB (n i : Nat) (d : ByteArray) (p : List ByteArray) : List ByteArray := recN [] (fun x : UpIn => x.1) ptStep (n, i, d, p)
theorem ptB_eq (n i : Nat) (d : ByteArray) (p : List ByteArray) : ptB n i d p = if n ≤ 1 then [] else if i < half n then ptB (half n) i d p.dropLast ++ [joinT [wNode, upB (half n) i d p.dropLast, lastB p]]
    else ptB (n - half n) (i - half n) d p.dropLast ++ [joinT [wNode, lastB p, upB (n - half n) (i - half n) d p.dropLast]] := recN_eq (fun g h x H => by
  unfold ptStep
  split
  · rfl
  · have h1 := half_lt x.1 (by omega)
    have h2 := half_pos x.1
    split
    · rw [H _ (by simp only; omega)]
    · rw [H _ (by simp only; omega)]) (n, i, d, p)

def ltStep (r : BoIn → List ByteArray) (x : BoIn) : List ByteArray :=
  if x.2.1 = x.1 ∨ x.1 ≤ 1 then []
  else if x.2.1 ≤ half x.1 then r (half x.1, x.2.1, x.2.2.1, x.2.2.2.1, x.2.2.2.2.dropLast) ++ [joinT [wNode, (boB (half x.1) x.2.1 x.2.2.1 x.2.2.2.1 x.2.2.2.2.dropLast).2, lastB x.2.2.2.2]]
  else (r (x.1 - half x.1, x.2.1 - half x.1, false, x.2.2.2.1, x.2.2.2.2.dropLast) ++ [joinT [wNode, lastB x.2.2.2.2, (boB (x.1 - half x.1) (x.2.1 - half x.1) false x.2.2.2.1 x.2.2.2.2.dropLast).1]]) ++
    [joinT [wNode, lastB x.2.2.2.2, (boB (x.1 - half x.1) (x.2.1 - half x.1) false x.2.2.2.1 x.2.2.2.2.dropLast).2]]
def ltB (n m : Nat) (b : Bool) (o : ByteArray) (p : List ByteArray) : List ByteArray := recN [] (fun x : BoIn => x.1) ltStep (n, m, b, o, p)
theorem ltB_eq (n m : Nat) (b : Bool) (o : ByteArray) (p : List ByteArray) : ltB n m b o p = if m = n ∨ n ≤ 1 then []
    else if m ≤ half n then ltB (half n) m b o p.dropLast ++ [joinT [wNode, (boB (half n) m b o p.dropLast).2, lastB p]]
    else (ltB (n - half n) (m - half n) false o p.dropLast ++ [joinT [wNode, lastB p, (boB (n - half n) (m - half n) false o p.dropLast).1]]) ++ [joinT [wNode, lastB p, (boB (n - half n) (m - half n) false o p.dropLast).2]] := recN_eq (fun g h x H => by
  unfold ltStep
  split
  · rfl
  · have h1 := half_lt x.1 (by omega)
    have h2 := half_pos x.1
    split
    · rw [H _ (by simp only; omega)]
    · rw [H _ (by simp only; omega)]) (n, m, b, o, p)

/-! ### Two different strings with one digest -/

def Coll (T : List ByteArray) : Prop := ∃ x ∈ T, ∃ y ∈ T, x ≠ y ∧ sumT x = sumT y
theorem Coll.mono {S T : List ByteArray} (h : Coll S) (hs : ∀ x ∈ S, x ∈ T) : Coll T := by
  obtain ⟨x, hx, y, hy, h1, h2⟩ := h
  exact ⟨x, hs x hx, y, hs y hy, h1, h2⟩

theorem node_coll {a b c d : ByteArray} {T : List ByteArray} (h : nodeB a b = nodeB c d) (h1 : joinT [wNode, a, b] ∈ T) (h2 : joinT [wNode, c, d] ∈ T) : Coll T ∨ (a = c ∧ b = d) := by
  by_cases he : joinT [wNode, a, b] = joinT [wNode, c, d]
  · right
    have h3 := joinT_inj he
    simpa using h3
  · left
    exact ⟨_, h1, _, h2, he, h⟩

theorem roots_coll (N : Nat) : ∀ (a b : List ByteArray), a.length ≤ N → a.length = b.length → rootB a = rootB b → Coll (textsB a ++ textsB b) ∨ a = b := by
  induction N with
  | zero =>
    intro a b hl hab _
    right
    rw [List.eq_nil_of_length_eq_zero (show a.length = 0 by omega), List.eq_nil_of_length_eq_zero (show b.length = 0 by omega)]
  | succ N ih =>
    intro a b hl hab h
    by_cases h1 : a.length ≤ 1
    · right
      match a, b, hab, h1, h with
      | [], [], _, _, _ => rfl
      | [x], [y], _, _, h => rw [rootB_one, rootB_one] at h; rw [h]
    · have k1 := half_lt a.length (by omega)
      have k2 := half_pos a.length
      have ea := textsB_eq a
      rw [if_neg (by omega), if_neg (by omega)] at ea
      have eb := textsB_eq b
      rw [if_neg (by omega), if_neg (by omega)] at eb
      rw [rootB_node a (by omega), rootB_node b (by omega)] at h
      rw [← hab] at h eb
      rcases node_coll (T := textsB a ++ textsB b) h (by rw [ea]; simp) (by rw [eb]; simp) with hc | ⟨h2, h3⟩
      · exact .inl hc
      · rcases ih _ _ (by rw [List.length_take]; omega) (by rw [List.length_take, List.length_take, hab]) h2 with hc | h4
        · left
          refine hc.mono fun x hx => ?_
          rw [ea, eb]
          simp only [List.mem_append] at hx ⊢
          rcases hx with hx | hx
          · exact .inl (.inl (.inl hx))
          · exact .inr (.inl (.inl hx))
        · rcases ih _ _ (by rw [List.length_drop]; omega) (by rw [List.length_drop, List.length_drop, hab]) h3 with hc | h5
          · left
            refine hc.mono fun x hx => ?_
            rw [ea, eb]
            simp only [List.mem_append] at hx ⊢
            rcases hx with hx | hx
            · exact .inl (.inl (.inr hx))
            · exact .inr (.inl (.inr hx))
          · right
            rw [← List.take_append_drop (half a.length) a, ← List.take_append_drop (half a.length) b, h4, h5]

theorem binds_coll (N : Nat) : ∀ (l p : List ByteArray) (i : Nat) (s : ByteArray), l.length ≤ N → (hi : i < l.length) → p.length = depth l.length i → upB l.length i s p = rootB l →
    Coll (textsB l ++ ptB l.length i s p) ∨ s = l[i] := by
  induction N with
  | zero => intro l p i s hl hi; omega
  | succ N ih =>
    intro l p i s hl hi hp h
    by_cases h1 : l.length ≤ 1
    · right
      rw [upB_eq, if_pos h1] at h
      match l, i, hi, h1, h with
      | [x], 0, _, _, h => exact h
    · have k1 := half_lt l.length (by omega)
      have k2 := half_pos l.length
      have ea := textsB_eq l
      rw [if_neg (by omega), if_neg (by omega)] at ea
      have eb := ptB_eq l.length i s p
      rw [depth_eq, if_neg h1] at hp
      rw [upB_eq, if_neg h1, rootB_node l (by omega)] at h
      rw [if_neg h1] at eb
      by_cases h2 : i < half l.length
      · rw [if_pos h2] at h eb hp
        have hlen : (l.take (half l.length)).length = half l.length := by rw [List.length_take]; omega
        rcases node_coll (T := textsB l ++ ptB l.length i s p) h (by rw [eb]; simp) (by rw [ea]; simp) with hc | ⟨h3, _⟩
        · exact .inl hc
        · have h4 := ih (l.take (half l.length)) p.dropLast i s (by omega) (by omega) (by rw [List.length_dropLast, hlen]; omega) (by rw [hlen]; exact h3)
          have he : (l.take (half l.length))[i]'(by rw [List.length_take]; omega) = l[i] := List.getElem_take
          rw [he, hlen] at h4
          rcases h4 with hc | h4
          · left
            refine hc.mono fun x hx => ?_
            rw [ea, eb]
            simp only [List.mem_append] at hx ⊢
            rcases hx with hx | hx
            · exact .inl (.inl (.inl hx))
            · exact .inr (.inl hx)
          · exact .inr h4
      · rw [if_neg h2] at h eb hp
        rcases node_coll (T := textsB l ++ ptB l.length i s p) h (by rw [eb]; simp) (by rw [ea]; simp) with hc | ⟨_, h3⟩
        · exact .inl hc
        · have h4 := ih (l.drop (half l.length)) p.dropLast (i - half l.length) s (by rw [List.length_drop]; omega) (by rw [List.length_drop]; omega) (by rw [List.length_dropLast, List.length_drop]; omega) (by rw [List.length_drop]; exact h3)
          have he : (l.drop (half l.length))[i - half l.length]'(by rw [List.length_drop]; omega) = l[i] := by
            rw [List.getElem_drop]
            congr 1
            omega
          rw [he, List.length_drop] at h4
          rcases h4 with hc | h4
          · left
            refine hc.mono fun x hx => ?_
            rw [ea, eb]
            simp only [List.mem_append] at hx ⊢
            rcases hx with hx | hx
            · exact .inl (.inl (.inr hx))
            · exact .inr (.inl hx)
          · exact .inr h4

theorem begins_coll (N : Nat) : ∀ (l p : List ByteArray) (m : Nat) (b : Bool) (o : ByteArray), l.length ≤ N → 1 ≤ m → m ≤ l.length → p.length = span l.length m b → (boB l.length m b o p).2 = rootB l →
    Coll (textsB l ++ textsB (l.take m) ++ ltB l.length m b o p) ∨ (boB l.length m b o p).1 = rootB (l.take m) := by
  induction N with
  | zero => intro l p m b o hl h1 h2; omega
  | succ N ih =>
    intro l p m b o hl hm1 hm2 hp h
    by_cases h1 : m = l.length ∨ l.length ≤ 1
    · right
      have hm : m = l.length := by omega
      rw [boB_eq, if_pos h1] at h ⊢
      rw [hm, List.take_length]
      cases b with
      | true => exact h
      | false => exact h
    · have k1 := half_lt l.length (by omega)
      have k2 := half_pos l.length
      have ea := textsB_eq l
      rw [if_neg (by omega), if_neg (by omega)] at ea
      have eb := ltB_eq l.length m b o p
      rw [span_eq, if_neg h1] at hp
      rw [boB_eq, if_neg h1] at h ⊢
      rw [rootB_node l (by omega)] at h
      rw [if_neg h1] at eb
      by_cases h2 : m ≤ half l.length
      · rw [if_pos h2] at h eb hp ⊢
        have hlen : (l.take (half l.length)).length = half l.length := by rw [List.length_take]; omega
        rcases node_coll (T := textsB l ++ textsB (l.take m) ++ ltB l.length m b o p) h (by rw [eb]; simp) (by rw [ea]; simp) with hc | ⟨h3, _⟩
        · exact .inl hc
        · have h4 := ih (l.take (half l.length)) p.dropLast m b o (by omega) hm1 (by omega) (by rw [List.length_dropLast, hlen]; omega) (by rw [hlen]; exact h3)
          rw [hlen, take_drop_mid _ _ _ h2] at h4
          rcases h4 with hc | h4
          · left
            refine hc.mono fun x hx => ?_
            rw [ea, eb]
            simp only [List.mem_append] at hx ⊢
            rcases hx with (hx | hx) | hx
            · exact .inl (.inl (.inl (.inl hx)))
            · exact .inl (.inr hx)
            · exact .inr (.inl hx)
          · exact .inr h4
      · rw [if_neg h2] at h eb hp ⊢
        rcases node_coll (T := textsB l ++ textsB (l.take m) ++ ltB l.length m b o p) h (by rw [eb]; simp) (by rw [ea]; simp) with hc | ⟨h5, h3⟩
        · exact .inl hc
        · have h4 := ih (l.drop (half l.length)) p.dropLast (m - half l.length) false o (by rw [List.length_drop]; omega) (by omega) (by rw [List.length_drop]; omega) (by rw [List.length_dropLast, List.length_drop]; omega) (by rw [List.length_drop]; exact h3)
          rw [List.length_drop] at h4
          rcases h4 with hc | h4
          · left
            have em := textsB_eq (l.take m)
            have hlen : (l.take m).length = m := by rw [List.length_take]; omega
            rw [hlen, if_neg (by omega), if_neg (by omega), half_mid l.length m (by omega) (by omega) hm2, take_drop_mid _ _ _ (by omega), drop_take_mid _ _ _ (by omega)] at em
            refine hc.mono fun x hx => ?_
            rw [ea, eb, em]
            simp only [List.mem_append] at hx ⊢
            rcases hx with (hx | hx) | hx
            · exact .inl (.inl (.inl (.inr hx)))
            · exact .inl (.inr (.inl (.inr hx)))
            · exact .inr (.inl (.inl hx))
          · right
            rw [rootB_begin l m (by omega) (by omega) hm2]
            show nodeB _ _ = _
            rw [h4, h5]

/-- what a link binds -/
theorem continues_coll (a l p : List ByteArray) (h0 : 1 ≤ a.length) (hle : a.length ≤ l.length) (hp : p.length = span l.length a.length true) (h1 : (boB l.length a.length true (rootB a) p).1 = rootB a)
    (h2 : (boB l.length a.length true (rootB a) p).2 = rootB l) : Coll (textsB a ++ textsB l ++ textsB (l.take a.length) ++ ltB l.length a.length true (rootB a) p) ∨ a = l.take a.length := by
  rcases begins_coll l.length l p a.length true (rootB a) (Nat.le_refl _) h0 hle hp h2 with hc | h3
  · left
    refine hc.mono fun x hx => ?_
    simp only [List.mem_append] at hx ⊢
    rcases hx with (hx | hx) | hx
    · exact .inl (.inl (.inr hx))
    · exact .inl (.inr hx)
    · exact .inr hx
  · rw [h1] at h3
    rcases roots_coll a.length a (l.take a.length) (Nat.le_refl _) (by rw [List.length_take]; omega) h3 with hc | h4
    · left
      refine hc.mono fun x hx => ?_
      simp only [List.mem_append] at hx ⊢
      rcases hx with hx | hx
      · exact .inl (.inl (.inl hx))
      · exact .inl (.inr hx)
    · exact .inr h4

end Go.Proofs.YtohhkgnddeeomaaDoor.Dig
