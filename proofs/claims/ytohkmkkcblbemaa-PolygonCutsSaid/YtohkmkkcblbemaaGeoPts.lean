/- Lists of points: what they are in memory, and what append does. -/
import Derived.Test.YtohkmkkcblbemaaGeoW2
import Derived.Maps.AppendAt
import Derived.Deep.AppendLies
namespace Go.Proofs.Ytohkmkkcblbemaa.Ge
set_option linter.unusedVariables false
set_option linter.unusedSimpArgs false
open Go.RowKit
open Go.Proofs.Ytohkmkkcblbemaa.Fr (Two)

abbrev Pt := Int × Int
theorem Pts.belowN {w w' : World} {N b : Nat} {l : List (Int × Int)} (h : Pts w b l) (hb : Below N w w') (hlt : b < N) : Pts w' b l :=
  ⟨Nat.lt_of_lt_of_le h.1 hb.size, fun i hi => ⟨(hb.cell (p := ⟨b, i * 2, none⟩) hlt).trans (h.2 i hi).1, (hb.cell (p := ⟨b, i * 2 + 1, none⟩) hlt).trans (h.2 i hi).2⟩⟩
/-! ### points -/
def ptA (p : Pt) : Array Value := #[.int .i64 p.1, .int .i64 p.2]
def encT (p : Pt) : List Value := [.int .i64 p.1, .int .i64 p.2]
def ptV (p : Pt) : Value := .agg #[.int .i64 p.1, .int .i64 p.2]
def flatT (l : List Pt) : List Value := l.flatMap encT
theorem flatT_length : ∀ l : List Pt, (flatT l).length = l.length * 2
  | [] => rfl
  | p :: l => by
    have h := flatT_length l
    unfold flatT at h ⊢
    rw [List.flatMap_cons, List.length_append, h]
    simp [encT]
    omega
theorem flatT_append (a b : List Pt) : flatT (a ++ b) = flatT a ++ flatT b := List.flatMap_append
theorem flatT_get : ∀ (l : List Pt) (i j : Nat) (h : i < l.length), j < 2 → (flatT l)[i * 2 + j]? = (encT l[i])[j]?
  | [], i, j, h, _ => by simp at h
  | p :: l, i, j, h, hj => by
    have hl : (encT p).length = 2 := rfl
    unfold flatT
    rw [List.flatMap_cons]
    cases i with
    | zero =>
      rw [Nat.zero_mul, Nat.zero_add, List.getElem?_append_left (by omega)]
      rfl
    | succ i =>
      rw [List.getElem?_append_right (by omega), hl, show (i + 1) * 2 + j - 2 = i * 2 + j by omega]
      exact flatT_get l i j (by simpa using h) hj
theorem encT_one (p : Pt) : ∀ v ∈ encT p, v.oneCell' = true := by
  intro v hv
  simp [encT] at hv
  rcases hv with rfl | rfl <;> rfl
/-- the two cells of a point -/
def Cells2 (w : World) (b o : Nat) (p : Pt) : Prop := w.cell? ⟨b, o, none⟩ = some (.int .i64 p.1) ∧ w.cell? ⟨b, o + 1, none⟩ = some (.int .i64 p.2)
theorem Cells2.below {w w' : World} {n b o : Nat} {p : Pt} (h : Cells2 w b o p) (hb : Below n w w') (hlt : b < n) : Cells2 w' b o p :=
  ⟨(hb.cell (p := ⟨b, o, none⟩) hlt).trans h.1, (hb.cell (p := ⟨b, o + 1, none⟩) hlt).trans h.2⟩
/-- v is a list of these points -/
def PtSl (w : World) (v : Value) (l : List Pt) : Prop :=
  (l = [] ∧ ∃ a cap, v = .slice a 0 cap) ∨
  ∃ b off cap, v = .slice (some ⟨b, off, none⟩) l.length cap ∧ 0 < l.length ∧ b < w.heap.size ∧ (l.length ≤ cap ∧ cap ≤ maxLen) ∧ ∀ i (h : i < l.length), Cells2 w b (off + i * 2) l[i]
theorem PtSl.below {w w' : World} {v : Value} {l : List Pt} (h : PtSl w v l) (hb : Below w.heap.size w w') : PtSl w' v l := by
  rcases h with h | ⟨b, off, cap, hv, h0, hlt, hm, hc⟩
  · exact .inl h
  · exact .inr ⟨b, off, cap, hv, h0, Nat.lt_of_lt_of_le hlt hb.size, hm, fun i hi => (hc i hi).below hb hlt⟩
theorem PtSl.form {w : World} {v : Value} {l : List Pt} (h : PtSl w v l) : ∃ a cap, v = .slice a l.length cap := by
  rcases h with ⟨rfl, a, cap, rfl⟩ | ⟨b, off, cap, rfl, _⟩
  · exact ⟨a, cap, rfl⟩
  · exact ⟨_, _, rfl⟩
/-- .. of the call's own, from block B on -/
def OwnPt (w : World) (B : Nat) (v : Value) (l : List Pt) : Prop := w.ownsRow B 23 2 v l.length (flatT l)
theorem OwnPt.nil (w : World) (B : Nat) : OwnPt w B (.slice none 0 0) [] := World.ownsRow_nil w B _ _
theorem OwnPt.sl {w : World} {B : Nat} {v : Value} {l : List Pt} (h : OwnPt w B v l) : PtSl w v l := by
  rcases h with ⟨hl, ⟨hv, h0⟩ | ⟨g, cap, cur, hv, _, hg, hc, hm, hsz, htk⟩⟩
  · exact .inl ⟨List.eq_nil_of_length_eq_zero h0, none, 0, by rw [hv]⟩
  · by_cases h0 : l.length = 0
    · exact .inl ⟨List.eq_nil_of_length_eq_zero h0, _, cap, by rw [hv, h0]⟩
    · refine .inr ⟨g, 0, cap, hv, by omega, (Array.getElem?_eq_some_iff.1 hg).1, ⟨hc, hm⟩, fun i hi => ?_⟩
      have key : ∀ j, j < 2 → w.cell? ⟨g, 0 + i * 2 + j, none⟩ = (encT l[i])[j]? := fun j hj => by
        rw [cell_of_row _ _ _ _ _ _ hg, Nat.zero_add, ← flatT_get l i j hi hj, ← htk, List.getElem?_take, if_pos (by omega), Array.getElem?_toList]
      exact ⟨key 0 (by decide), key 1 (by decide)⟩
theorem OwnPt.form {w : World} {B : Nat} {v : Value} {l : List Pt} (h : OwnPt w B v l) : ∃ a cap, v = .slice a l.length cap := h.sl.form
theorem OwnPt.lt {w : World} {B : Nat} {v : Value} {l : List Pt} (h : OwnPt w B v l) : ∀ k, v.ownBlock = some k → B ≤ k := fun k hk => (World.ownsRow.lt h k hk).1
theorem grownBelow {w w' : World} (h : Below w.heap.size w w') (row : Option Nat) : w.grownBy w' row := ⟨h.os, h.tape, h.output, h.size, fun i hi _ => h.block i hi⟩
theorem OwnPt.below {w w' : World} {B : Nat} {v : Value} {l : List Pt} (h : OwnPt w B v l) (hb : Below w.heap.size w w') : OwnPt w' B v l := by
  have hg := grownBelow hb (some w.heap.size)
  refine World.ownsRow.kept h hg ?_
  right
  intro he
  have := (World.ownsRow.lt h _ he).2
  omega
theorem OwnPt.kept {w w' : World} {B : Nat} {v : Value} {l : List Pt} {row : Option Nat} (h : OwnPt w B v l) (hg : w.grownBy w' row) (hne : v.ownBlock ≠ row) : OwnPt w' B v l := World.ownsRow.kept h hg (.inr hne)
theorem infoT : (Try.prog.info? 23).bind (fun i => i.zero.map fun z => (i.size, i.bytes, z.cells.size)) = some (2, 16, 2) := by kernel_rfl
theorem pt_info : ∃ i z, Try.prog.info? 23 = some i ∧ i.zero = some z ∧ i.size = 2 ∧ i.bytes = 16 ∧ z.cells.size = 2 := by
  have h := infoT
  cases hi : Try.prog.info? 23 with
  | none => rw [hi] at h; cases h
  | some i =>
    rw [hi] at h
    cases hz : i.zero with
    | none => simp [hz] at h
    | some z =>
      simp [hz] at h
      exact ⟨i, z, rfl, hz, h.1, h.2.1, h.2.2⟩
section
variable (w : World)
/-- what append does: the source may be nil, empty, or not -/
theorem run_append_pt (ty : TypeId) (B : Nat) (v u : Value) (p q : List Pt) (own : OwnPt w B v p) (hq : PtSl w u q) (hlen : p.length + q.length ≤ 1000000) (hB : B ≤ w.heap.size) :
    ∃ v' w', (Builtin.append_ #[27, 27] ty #[v, u]).run Try.prog w = .ok v' w' ∧ OwnPt w' B v' (p ++ q) ∧ w.grownBy w' v.ownBlock ∧ (v'.ownBlock = v.ownBlock ∨ v'.ownBlock = some w.heap.size) := by
  obtain ⟨i0, z0, hi, hz0, hz1, hz2, hz3⟩ := pt_info
  have key : ∀ (ad : Addr) (c : Nat), u = .slice (some ad) q.length c → (∀ j x, (flatT q)[j]? = some x → w.cell? (ad.add j) = some x) →
      ∃ v' w', (Builtin.append_ #[27, 27] ty #[v, u]).run Try.prog w = .ok v' w' ∧ OwnPt w' B v' (p ++ q) ∧ w.grownBy w' v.ownBlock ∧ (v'.ownBlock = v.ownBlock ∨ v'.ownBlock = some w.heap.size) := by
    intro ad c hu hcells
    subst hu
    obtain ⟨v', w', hr, h2, h3, _, h5⟩ := run_append_own_at (P := Try.prog) w B 27 ty 23 i0 z0 2 16 Try.underlying27 hi hz0 hz1 hz2 hz3 (by decide) v p.length (flatT p) own ad q.length c (flatT q)
      (flatT_length q) hcells (by intro x hx; obtain ⟨s, _, hs⟩ := List.mem_flatMap.1 hx; exact encT_one s x hs) (by unfold maxLen; omega) (by omega) hB
    refine ⟨v', w', hr, ?_, h3, h5⟩
    unfold OwnPt
    rw [List.length_append, flatT_append]
    exact h2
  rcases hq with ⟨rfl, a, c, rfl⟩ | ⟨b, off, c, rfl, h0, hbb, hm, hc⟩
  · cases a with
    | some ad => exact key ad c rfl (by intro j x hx; simp [flatT] at hx)
    | none =>
      refine ⟨v, w, ?_, by rw [List.append_nil]; exact own, World.grownBy.refl w _, .inl rfl⟩
      rcases own.2 with ⟨rfl, hn⟩ | ⟨g, cap, cur, rfl, _, _, hnc, _⟩
      · simp [Builtin.append_, run_underlying Try.underlying27, sizeOf, typeInfo, hi, Builtin.lenOf, Builtin.firstCells]
      · simp [Builtin.append_, run_underlying Try.underlying27, sizeOf, typeInfo, hi, Builtin.lenOf, Builtin.firstCells, hnc, storeCells]
  · refine key ⟨b, off, none⟩ c rfl fun j x hx => ?_
    have hadd : (⟨b, off, none⟩ : Addr).add j = ⟨b, off + j, none⟩ := by unfold Addr.add; split <;> simp_all
    have hj : j < q.length * 2 := by
      have := (List.getElem?_eq_some_iff.1 hx).1
      rwa [flatT_length] at this
    have hjq : j / 2 < q.length := by omega
    have hg := flatT_get q (j / 2) (j % 2) hjq (Nat.mod_lt _ (by decide))
    rw [show j / 2 * 2 + j % 2 = j by omega, hx] at hg
    rw [hadd, show off + j = off + j / 2 * 2 + j % 2 by omega]
    have hcc := hc (j / 2) hjq
    rcases Nat.mod_two_eq_zero_or_one j with hm2 | hm2
    · rw [hm2] at hg ⊢
      rw [Nat.add_zero, hcc.1, hg]
      rfl
    · rw [hm2] at hg ⊢
      rw [hcc.2, hg]
      rfl
theorem list_append_pt {ops : Array Oper} {rest : List Oper} {o : Oper} {a : Act} {Q : Exit → Act → World → Prop} (hgd : o.guard = none) (s x : Operand)
    (ho : o.op = .call { callee := .builtin .append, args := #[s, x], argTypes := #[27, 27] })
    (B : Nat) (v u : Value) (p q : List Pt) (hs : a.eval s = v) (hx : a.eval x = u) (own : OwnPt w B v p) (hq : PtSl w u q) (hlen : p.length + q.length ≤ 1000000) (hB : B ≤ w.heap.size)
    (h : ∀ v' w', OwnPt w' B v' (p ++ q) → w.grownBy w' v.ownBlock → (v'.ownBlock = v.ownBlock ∨ v'.ownBlock = some w.heap.size) → wpList Try.prog ops Q rest (a.put o.dst v') w') : wpList Try.prog ops Q (o :: rest) a w :=
  wpList_plain hgd fun K hK => by
    obtain ⟨v', w', hr, h2, h3, h5⟩ := run_append_pt w o.type B v u p q own hq hlen hB
    unfold Oper.wp execOp
    simp only [ho, resolve, invoke, builtin, Sem.run_bind, Sem.run_pure, Result.andThen_ok, List.map_toArray, List.map_cons, List.map_nil, hs, hx, hr]
    exact hK _ _ (h v' w' h2 h3 h5)
end
theorem PtSl.one (w : World) (p : Pt) : PtSl (w.alloc (.cells #[.int .i64 p.1, .int .i64 p.2] 23)) (.slice (some ⟨w.heap.size, 0, none⟩) 1 1) [p] := by
  refine .inr ⟨w.heap.size, 0, 1, rfl, by simp, by simp, ⟨by simp, by unfold maxLen; omega⟩, fun i hi => ?_⟩
  obtain rfl : i = 0 := by simpa using hi
  obtain ⟨a, b, -, -⟩ := (Two.new w 23 (.int .i64 p.1) (.int .i64 p.2)).facts
  exact ⟨a, b⟩

section
variable (w : World)
theorem step_append_pt {ops : Array Oper} {o : Oper} {a : Act} {K : Act → World → Prop} {Q : Exit → Act → World → Prop} {E : Prop} (hgd : o.guard = none) (s x : Operand)
    (ho : o.op = .call { callee := .builtin .append, args := #[s, x], argTypes := #[27, 27] })
    (B : Nat) (v u : Value) (p q : List Pt) (hs : a.eval s = v) (hx : a.eval x = u) (own : OwnPt w B v p) (hq : PtSl w u q) (hlen : p.length + q.length ≤ 1000000) (hB : B ≤ w.heap.size)
    (h : ∀ v' w', OwnPt w' B v' (p ++ q) → w.grownBy w' v.ownBlock → (v'.ownBlock = v.ownBlock ∨ v'.ownBlock = some w.heap.size) → K (a.put o.dst v') w') :
    if Region.wanted o (yielded ops a.tmps) = true then Oper.wp Try.prog o a w K Q else E := by
  have hw : Region.wanted o (yielded ops a.tmps) = true := by simp [Region.wanted, hgd]
  rw [if_pos hw]
  obtain ⟨v', w', hr, h2, h3, h5⟩ := run_append_pt w o.type B v u p q own hq hlen hB
  unfold Oper.wp execOp
  simp only [ho, resolve, invoke, builtin, Sem.run_bind, Sem.run_pure, Result.andThen_ok, List.map_toArray, List.map_cons, List.map_nil, hs, hx, hr]
  exact h v' w' h2 h3 h5
end
/-! two lists of the call's own, in different blocks -/
def Sep (s t : Value) : Prop := ∀ b, t.ownBlock = some b → s.ownBlock ≠ some b
theorem Sep.ne {s t : Value} (h : Sep s t) : t.ownBlock = none ∨ t.ownBlock ≠ s.ownBlock := by
  cases e : t.ownBlock with
  | none => exact .inl rfl
  | some b => exact .inr fun k => h b e k.symm
theorem Sep.symm {s t : Value} (h : Sep s t) : Sep t s := fun b hb ht => h b ht hb
theorem Sep.grow {w : World} {B : Nat} {s s' t : Value} {l : List Pt} (h : Sep s t) (ht : OwnPt w B t l) (ho : s'.ownBlock = s.ownBlock ∨ s'.ownBlock = some w.heap.size) : Sep s' t := fun b hb => by
  rcases ho with e | e
  · rw [e]; exact h b hb
  · rw [e]
    intro k
    have := (World.ownsRow.lt ht b hb).2
    simp only [Option.some.injEq] at k
    omega
theorem OwnPt.keptSep {w w' : World} {B : Nat} {s t : Value} {l : List Pt} (h : OwnPt w B t l) (hg : w.grownBy w' s.ownBlock) (hs : Sep s t) : OwnPt w' B t l := World.ownsRow.kept h hg hs.ne
end Go.Proofs.Ytohkmkkcblbemaa.Ge
