/- A law for append onto a list of strings of the call's own; sizes of the strings that are digested. -/
import Derived.Test.YteapfoadfjjicaaDoorTreeR4
import Derived.Maps.AppendAt
namespace Go.Proofs.YteapfoadfjjicaaDoor.Dig
set_option linter.unusedVariables false
set_option linter.unusedSimpArgs false
open Go.RowKit

section
variable (w : World)

/-- what append does: the source may be nil, empty, or not -/
theorem run_append_str (ty : TypeId) (B : Nat) (v u : Value) (p q : List ByteArray) (own : OwnStr w B v p) (hq : StrSl w u q) (hlen : p.length + q.length ≤ 1000000) (hB : B ≤ w.heap.size) :
    ∃ v' w', (Builtin.append_ #[41, 41] ty #[v, u]).run Tryd.prog w = .ok v' w' ∧ OwnStr w' B v' (p ++ q) ∧ w.grownBy w' v.ownBlock ∧ (v'.ownBlock = v.ownBlock ∨ v'.ownBlock = some w.heap.size) := by
  obtain ⟨i0, hi, hz0, hz1, hz2⟩ := info_parts infoS
  have key : ∀ (ad : Addr) (c : Nat), u = .slice (some ad) q.length c → (∀ j x, (q.map Value.string)[j]? = some x → w.cell? (ad.add j) = some x) →
      ∃ v' w', (Builtin.append_ #[41, 41] ty #[v, u]).run Tryd.prog w = .ok v' w' ∧ OwnStr w' B v' (p ++ q) ∧ w.grownBy w' v.ownBlock ∧ (v'.ownBlock = v.ownBlock ∨ v'.ownBlock = some w.heap.size) := by
    intro ad c hu hcells
    subst hu
    obtain ⟨v', w', hr, h2, h3, _, h5⟩ := run_append_own_at (P := Tryd.prog) w B 41 ty 9 i0 _ 1 16 Tryd.underlying41 hi hz0 hz1 hz2 rfl (by decide) v p.length (p.map Value.string) own ad q.length c (q.map Value.string)
      (by simp) hcells (by intro x hx; obtain ⟨s, _, rfl⟩ := List.mem_map.1 hx; rfl) (by unfold maxLen; omega) (by omega) hB
    refine ⟨v', w', hr, ?_, h3, h5⟩
    unfold OwnStr
    rw [List.length_append, List.map_append]
    exact h2
  rcases hq with ⟨rfl, a, c, rfl⟩ | ⟨b, off, c, rfl, h0, hbb, hm, hc⟩
  · cases a with
    | some ad => exact key ad c rfl (by intro j x hx; simp at hx)
    | none =>
      refine ⟨v, w, ?_, by rw [List.append_nil]; exact own, World.grownBy.refl w _, .inl rfl⟩
      rcases own.2 with ⟨rfl, hn⟩ | ⟨g, cap, cur, rfl, _, _, hnc, _⟩
      · simp [Builtin.append_, run_underlying Tryd.underlying41, sizeOf, typeInfo, hi, Builtin.lenOf, Builtin.firstCells]
      · simp [Builtin.append_, run_underlying Tryd.underlying41, sizeOf, typeInfo, hi, Builtin.lenOf, Builtin.firstCells, hnc, storeCells]
  · refine key ⟨b, off, none⟩ c rfl fun j x hx => ?_
    have hadd : (⟨b, off, none⟩ : Addr).add j = ⟨b, off + j, none⟩ := by unfold Addr.add; split <;> simp_all
    rw [List.getElem?_map] at hx
    by_cases hj : j < q.length
    · rw [List.getElem?_eq_getElem hj] at hx
      rw [hadd, hc j hj]
      simpa using hx
    · rw [List.getElem?_eq_none (by omega)] at hx
      simp at hx

theorem wp_append_str {o : Oper} {a : Act} {K : Act → World → Prop} {Q : Exit → Act → World → Prop} (s x : Operand)
    (ho : o.op = .call { callee := .builtin .append, args := #[s, x], argTypes := #[41, 41] })
    (B : Nat) (v u : Value) (p q : List ByteArray) (hs : a.eval s = v) (hx : a.eval x = u) (own : OwnStr w B v p) (hq : StrSl w u q) (hlen : p.length + q.length ≤ 1000000) (hB : B ≤ w.heap.size)
    (h : ∀ v' w', OwnStr w' B v' (p ++ q) → w.grownBy w' v.ownBlock → (v'.ownBlock = v.ownBlock ∨ v'.ownBlock = some w.heap.size) → K (a.put o.dst v') w') : o.wp Tryd.prog a w K Q := by
  obtain ⟨v', w', hr, h2, h3, h4⟩ := run_append_str w o.type B v u p q own hq hlen hB
  unfold Oper.wp execOp
  simp only [ho, resolve, invoke, builtin, Sem.run_bind, Sem.run_pure, Result.andThen_ok, List.map_toArray, List.map_cons, List.map_nil, hs, hx, hr]
  exact h v' w' h2 h3 h4

/-- in a plain region -/
theorem list_append_str {ops : Array Oper} {rest : List Oper} {o : Oper} {a : Act} {Q : Exit → Act → World → Prop} (hgd : o.guard = none) (s x : Operand)
    (ho : o.op = .call { callee := .builtin .append, args := #[s, x], argTypes := #[41, 41] })
    (B : Nat) (v u : Value) (p q : List ByteArray) (hs : a.eval s = v) (hx : a.eval x = u) (own : OwnStr w B v p) (hq : StrSl w u q) (hlen : p.length + q.length ≤ 1000000) (hB : B ≤ w.heap.size)
    (h : ∀ v' w', OwnStr w' B v' (p ++ q) → w.grownBy w' v.ownBlock → (v'.ownBlock = v.ownBlock ∨ v'.ownBlock = some w.heap.size) → wpList Tryd.prog ops Q rest (a.put o.dst v') w') : wpList Tryd.prog ops Q (o :: rest) a w :=
  wpList_plain hgd fun _ hK => wp_append_str w s x ho B v u p q hs hx own hq hlen hB fun v' w' h2 h3 h4 => hK _ _ (h v' w' h2 h3 h4)

/-- at a step of a region that draws its order -/
theorem step_append_str {ops : Array Oper} {o : Oper} {a : Act} {K : Act → World → Prop} {Q : Exit → Act → World → Prop} {E : Prop} (hgd : o.guard = none) (s x : Operand)
    (ho : o.op = .call { callee := .builtin .append, args := #[s, x], argTypes := #[41, 41] })
    (B : Nat) (v u : Value) (p q : List ByteArray) (hs : a.eval s = v) (hx : a.eval x = u) (own : OwnStr w B v p) (hq : StrSl w u q) (hlen : p.length + q.length ≤ 1000000) (hB : B ≤ w.heap.size)
    (h : ∀ v' w', OwnStr w' B v' (p ++ q) → w.grownBy w' v.ownBlock → (v'.ownBlock = v.ownBlock ∨ v'.ownBlock = some w.heap.size) → K (a.put o.dst v') w') :
    if Region.wanted o (yielded ops a.tmps) = true then Oper.wp Tryd.prog o a w K Q else E := by
  have hw : Region.wanted o (yielded ops a.tmps) = true := by simp [Region.wanted, hgd]
  rw [if_pos hw]
  exact wp_append_str w s x ho B v u p q hs hx own hq hlen hB h
end

theorem OwnStr.ofAlloc {w : World} {B : Nat} {v : Value} {l : List ByteArray} (h : OwnStr w B v l) (o : Obj) : OwnStr (w.alloc o) B v l := World.ownsRow.alloc h o
/-- what was below stays, over an append onto a list of the call's own -/
theorem below_grow' {W w w' : World} {u : Value} {p : List ByteArray} (own : OwnStr w W.heap.size u p) (hb : Below W.heap.size W w) (hg : w.grownBy w' u.ownBlock) : Below W.heap.size W w' :=
  hb.grown hg hb.size (fun k hk => (World.ownsRow.lt own k hk).1)

/-! ### Sizes -/

def short (T : List ByteArray) : Prop := ∀ s ∈ T, s.size ≤ 4000
theorem short.append {S T : List ByteArray} (h : short S) (k : short T) : short (S ++ T) := fun s hs => by
  rcases List.mem_append.1 hs with hs | hs
  · exact h s hs
  · exact k s hs
theorem joinT_size (l : List ByteArray) (h : small l) (h3 : l.length ≤ 3) : (joinT l).size ≤ 4000 := by
  unfold joinT
  rw [size_mk]
  have h1 := joinB_len' 1000 (by decide) l h
  have h2 : l.length * 1022 ≤ 3 * 1022 := Nat.mul_le_mul_right _ h3
  omega
theorem short_node (a b : ByteArray) (h1 : a.size ≤ 1000) (h2 : b.size ≤ 1000) : short [joinT [wNode, a, b]] := fun s hs => by
  simp only [List.mem_singleton] at hs
  subst hs
  exact joinT_size _ (mem3 wNode_le h1 h2) (by simp)

theorem textsB_len (N : Nat) : ∀ l : List ByteArray, l.length ≤ N → 1 ≤ l.length → (textsB l).length + 1 = l.length := by
  induction N with
  | zero => intro l h1 h2; omega
  | succ N ih =>
    intro l hl h1
    rw [textsB_eq, if_neg (by omega)]
    by_cases h2 : l.length = 1
    · rw [if_pos h2, h2]; rfl
    · have k1 := half_lt l.length (by omega)
      have k2 := half_pos l.length
      rw [if_neg h2]
      have i1 := ih (l.take (half l.length)) (by rw [List.length_take]; omega) (by rw [List.length_take]; omega)
      have i2 := ih (l.drop (half l.length)) (by rw [List.length_drop]; omega) (by rw [List.length_drop]; omega)
      rw [List.length_take] at i1
      rw [List.length_drop] at i2
      simp only [List.length_append, List.length_singleton]
      omega
theorem textsB_le (l : List ByteArray) : (textsB l).length ≤ l.length + 1 := by
  by_cases h : 1 ≤ l.length
  · have := textsB_len l.length l (Nat.le_refl _) h
    omega
  · rw [textsB_eq, if_pos (by omega)]
    simp
theorem textsB_short (N : Nat) : ∀ l : List ByteArray, l.length ≤ N → small l → short (textsB l) := by
  have h0 : short [joinT [wEmpty]] := fun s hs => by
    simp only [List.mem_singleton] at hs
    subst hs
    exact joinT_size _ (mem1 wEmpty_le) (by simp)
  induction N with
  | zero =>
    intro l hl hs
    rw [textsB_eq, if_pos (by omega)]
    exact h0
  | succ N ih =>
    intro l hl hs
    rw [textsB_eq]
    by_cases h1 : l.length = 0
    · rw [if_pos h1]; exact h0
    · rw [if_neg h1]
      by_cases h2 : l.length = 1
      · rw [if_pos h2]; exact fun s hs => by simp at hs
      · have k1 := half_lt l.length (by omega)
        have k2 := half_pos l.length
        rw [if_neg h2]
        exact ((ih _ (by rw [List.length_take]; omega) (hs.take _)).append (ih _ (by rw [List.length_drop]; omega) (hs.drop _))).append (short_node _ _ (rootB_small _ (hs.take _)) (rootB_small _ (hs.drop _)))

theorem ptB_len (N : Nat) : ∀ (n i : Nat) (d : ByteArray) (p : List ByteArray), n ≤ N → (ptB n i d p).length = depth n i := by
  induction N with
  | zero =>
    intro n i d p hn
    rw [ptB_eq, depth_eq, if_pos (by omega), if_pos (by omega)]
    rfl
  | succ N ih =>
    intro n i d p hn
    rw [ptB_eq, depth_eq]
    by_cases h1 : n ≤ 1
    · rw [if_pos h1, if_pos h1]; rfl
    · have k1 := half_lt n (by omega)
      have k2 := half_pos n
      rw [if_neg h1, if_neg h1]
      by_cases h2 : i < half n
      · rw [if_pos h2, if_pos h2, List.length_append, ih _ _ _ _ (by omega)]
        simp
        omega
      · rw [if_neg h2, if_neg h2, List.length_append, ih _ _ _ _ (by omega)]
        simp
        omega
theorem ptB_short (N : Nat) : ∀ (n i : Nat) (d : ByteArray) (p : List ByteArray), n ≤ N → d.size ≤ 1000 → small p → short (ptB n i d p) := by
  induction N with
  | zero =>
    intro n i d p hn hd hs
    rw [ptB_eq, if_pos (by omega)]
    exact fun s hs => by simp at hs
  | succ N ih =>
    intro n i d p hn hd hs
    rw [ptB_eq]
    by_cases h1 : n ≤ 1
    · rw [if_pos h1]; exact fun s hs => by simp at hs
    · have k1 := half_lt n (by omega)
      have k2 := half_pos n
      rw [if_neg h1]
      by_cases h2 : i < half n
      · rw [if_pos h2]
        exact (ih _ _ _ _ (by omega) hd hs.dropLast).append (short_node _ _ (upB_small n _ _ _ _ hd) (lastB_small _ hs))
      · rw [if_neg h2]
        exact (ih _ _ _ _ (by omega) hd hs.dropLast).append (short_node _ _ (lastB_small _ hs) (upB_small n _ _ _ _ hd))

theorem ltB_len (N : Nat) : ∀ (n m : Nat) (f : Bool) (o : ByteArray) (p : List ByteArray), n ≤ N → (ltB n m f o p).length ≤ 2 * n := by
  induction N with
  | zero =>
    intro n m f o p hn
    have h0 : m = n ∨ n ≤ 1 := .inr (by omega)
    rw [ltB_eq, if_pos h0]
    simp
  | succ N ih =>
    intro n m f o p hn
    rw [ltB_eq]
    by_cases h1 : m = n ∨ n ≤ 1
    · rw [if_pos h1]; simp
    · have k1 := half_lt n (by omega)
      have k2 := half_pos n
      rw [if_neg h1]
      by_cases h2 : m ≤ half n
      · rw [if_pos h2, List.length_append]
        have := ih (half n) m f o p.dropLast (by omega)
        simp
        omega
      · rw [if_neg h2, List.length_append, List.length_append]
        have := ih (n - half n) (m - half n) false o p.dropLast (by omega)
        simp
        omega
theorem ltB_short (N : Nat) : ∀ (n m : Nat) (f : Bool) (o : ByteArray) (p : List ByteArray), n ≤ N → o.size ≤ 1000 → small p → short (ltB n m f o p) := by
  induction N with
  | zero =>
    intro n m f o p hn ho hs
    have h0 : m = n ∨ n ≤ 1 := .inr (by omega)
    rw [ltB_eq, if_pos h0]
    exact fun s hs => by simp at hs
  | succ N ih =>
    intro n m f o p hn ho hs
    rw [ltB_eq]
    by_cases h1 : m = n ∨ n ≤ 1
    · rw [if_pos h1]; exact fun s hs => by simp at hs
    · have k1 := half_lt n (by omega)
      have k2 := half_pos n
      rw [if_neg h1]
      by_cases h2 : m ≤ half n
      · rw [if_pos h2]
        exact (ih _ _ _ _ _ (by omega) ho hs.dropLast).append (short_node _ _ (boB_small o _ _ _ _ _ (Nat.le_refl _) ho hs.dropLast).2 (lastB_small _ hs))
      · rw [if_neg h2]
        exact ((ih _ _ _ _ _ (by omega) ho hs.dropLast).append (short_node _ _ (lastB_small _ hs) (boB_small o _ _ _ _ _ (Nat.le_refl _) ho hs.dropLast).1)).append (short_node _ _ (lastB_small _ hs) (boB_small o _ _ _ _ _ (Nat.le_refl _) ho hs.dropLast).2)

end Go.Proofs.YteapfoadfjjicaaDoor.Dig
