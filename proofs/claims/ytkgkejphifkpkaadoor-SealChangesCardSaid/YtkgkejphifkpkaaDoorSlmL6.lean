/- Walks over layer 3's laws: SealChanges, what it needs of memory. -/
import Derived.Test.YtkgkejphifkpkaaDoorSlmL5
import Derived.Deep.DeepCutAuto
namespace Go.Proofs.YtkgkejphifkpkaaDoor.Dig
set_option linter.unusedVariables false
set_option linter.unusedSimpArgs false
open Go.RowKit

/-- an element that is stored -/
theorem StrSl.put {w : World} {b n cap : Nat} {l : List ByteArray} (h : StrSl w (.slice (some ⟨b, 0, none⟩) n cap) l) (k : Nat) (hk : k < l.length) (x : ByteArray) :
    StrSl (w.setCell ⟨b, k, none⟩ (.string x)) (.slice (some ⟨b, 0, none⟩) n cap) (l.set k x) := by
  rcases h with ⟨rfl, _⟩ | ⟨b', off, cap', he, h0, hlt, hm, hc⟩
  · simp at hk
  · simp only [Value.slice.injEq, Option.some.injEq, Addr.mk.injEq] at he
    obtain ⟨⟨rfl, rfl, _⟩, rfl, rfl⟩ := he
    refine .inr ⟨_, _, _, by rw [List.length_set], by rw [List.length_set]; exact h0, by simpa using hlt, by rw [List.length_set]; exact hm, fun i hi => ?_⟩
    rw [List.length_set] at hi
    have h1 := hc i hi
    rw [Nat.zero_add] at h1 ⊢
    rw [List.getElem_set]
    by_cases hik : k = i
    · subst hik
      rw [if_pos rfl, World.cell?_setCell_same _ _ _ h1]
    · rw [if_neg hik, World.cell?_setCell_other _ _ _ _ (fun e => hik (congrArg Addr.off e)), h1]
theorem StrSl.far {w : World} {v : Value} {l : List ByteArray} (h : StrSl w v l) (p : Addr) (u : Value) (hne : v.ownBlock ≠ some p.block) : StrSl (w.setCell p u) v l := by
  rcases h with h | ⟨b, off, cap, rfl, h0, hlt, hm, hc⟩
  · exact .inl h
  · refine .inr ⟨b, off, cap, rfl, h0, by simpa using hlt, hm, fun i hi => ?_⟩
    rw [World.cell?_setCell_far w p ⟨b, off + i, none⟩ u (fun e => hne (by simp [Value.ownBlock, e])), hc i hi]

theorem lit_of {w : World} {B b : Nat} (h : w.heap[b]? = some (.cells #[] 9)) (hB : B ≤ b) : OwnStr w B (.slice (some ⟨b, 0, none⟩) 0 0) [] :=
  ⟨rfl, .inr ⟨b, 0, #[], rfl, hB, h, Nat.le_refl _, Nat.zero_le _, rfl, rfl⟩⟩
theorem alloc_keep {w : World} {b : Nat} {x : Obj} (o : Obj) (h : w.heap[b]? = some x) : (w.alloc o).heap[b]? = some x := by
  obtain ⟨hlt, hx⟩ := Array.getElem?_eq_some_iff.1 h
  simp only [World.alloc]
  rw [Array.getElem?_push, if_neg (by omega), h]
theorem alloc_new {w : World} {b : Nat} (o : Obj) (h : b = w.heap.size) : (w.alloc o).heap[b]? = some o := by
  subst h
  exact World.alloc_heap_new w o
theorem drew_keep {w : World} {b : Nat} {x : Obj} (h : w.heap[b]? = some x) : w.drew.heap[b]? = some x := h
theorem grown_keep {w w' : World} {r b : Nat} {x : Obj} (hg : w.grownBy w' (some r)) (h : w.heap[b]? = some x) (hne : b ≠ r) : w'.heap[b]? = some x := by
  obtain ⟨hlt, _⟩ := Array.getElem?_eq_some_iff.1 h
  rw [hg.block b hlt (by simpa using hne), h]

/-- append onto an empty literal, at a step of a region that draws -/
theorem step_lit (WA w : World) {ops : Array Oper} {o : Oper} {a : Act} {K : Act → World → Prop} {Q : Exit → Act → World → Prop} {E : Prop} (hw : Region.wanted o (yielded ops a.tmps) = true) (s x : Operand)
    (ho : o.op = .call { callee := .builtin .append, args := #[s, x], argTypes := #[22, 22] })
    (b : Nat) (u : Value) (q : List ByteArray) (hs : a.eval s = .slice (some ⟨b, 0, none⟩) 0 0) (hx : a.eval x = u) (hh : w.heap[b]? = some (.cells #[] 9)) (hb : WA.heap.size ≤ b) (hbel : Below WA.heap.size WA w) (hq : StrSl WA u q) (hlen : q.length ≤ 1000000)
    (h : ∀ e c w', OwnStr w' WA.heap.size (.slice e q.length c) q → w.grownBy w' (some b) → (Value.ownBlock (.slice e q.length c) = some b ∨ Value.ownBlock (.slice e q.length c) = some w.heap.size) → Below WA.heap.size WA w' → K (a.put o.dst (.slice e q.length c)) w') :
    if Region.wanted o (yielded ops a.tmps) = true then Oper.wp Tryd.prog o a w K Q else E := by
  have own := lit_of hh hb
  refine step_app w hw s x ho WA.heap.size _ u [] q hs hx own (hq.below hbel) (by simpa using hlen) hbel.size fun v' w' h1 h2 h3 => ?_
  rw [List.nil_append] at h1
  obtain ⟨e, c, rfl, _⟩ := strSl_form h1.sl
  exact h e c w' h1 h2 h3 (below_grow' own hbel h2)

end Go.Proofs.YtkgkejphifkpkaaDoor.Dig
