/- A law: a range over a function that itself ranges over a function (an iterator that makes lists and loops of its own between its calls of yield). The invariant speaks of what lay ahead of the loop, the round changes one block alone. No program. -/
import Derived.RangeFuncNested
import Derived.RangeFuncBound
import Derived.Below
namespace Go.Proofs.Ytcpcmlonbpccnaa.Rb
open Go Go.RowKit
set_option linter.unusedVariables false

/-- all blocks but R and l lie as they lay, and whatever lies below n₀ -/
structure KB (R l n₀ : Nat) (W W' : World) : Prop where
  below : Below n₀ W W'
  block : ∀ k, k ≠ R → k ≠ l → k < W.heap.size → W'.heap[k]? = W.heap[k]?
theorem KB.refl (R l n₀ : Nat) (W : World) : KB R l n₀ W W := ⟨Below.refl _ _, fun _ _ _ _ => rfl⟩
theorem KB.trans {R l n₀ : Nat} {X Y Z : World} (h : KB R l n₀ X Y) (k : KB R l n₀ Y Z) : KB R l n₀ X Z :=
  ⟨h.below.trans k.below, fun i h1 h2 h3 => (k.block i h1 h2 (Nat.lt_of_lt_of_le h3 h.below.size)).trans (h.block i h1 h2 h3)⟩
theorem KB.of_below {R l n₀ N : Nat} {X Y : World} (h : Below N X Y) (hn : n₀ ≤ N) (hN : X.heap.size ≤ N) : KB R l n₀ X Y := ⟨h.mono hn, fun k _ _ hk => h.block k (Nat.lt_of_lt_of_le hk hN)⟩
theorem KB.put {R l n₀ : Nat} {W : World} (o' : Obj) (hl : n₀ ≤ l) : KB R l n₀ W (W.putObj l o') :=
  ⟨⟨rfl, rfl, rfl, by simp, fun k hk => World.putObj_heap_other (by omega)⟩, fun k _ h2 _ => World.putObj_heap_other h2⟩
theorem KB.from {R l n₀ B : Nat} {W W' : World} (h : KB R l n₀ W W') (hR : R < B) (hl : l < B) : KeepsFrom B W W' :=
  ⟨h.below.size, fun k o hk ho _ => (h.block k (by omega) (by omega) (Array.getElem?_eq_some_iff.1 ho).1).trans ho⟩
theorem put_below {n : Nat} (W : World) (l : Nat) (o' : Obj) (hl : n ≤ l) : Below n W (W.putObj l o') := ⟨rfl, rfl, rfl, by simp, fun k hk => World.putObj_heap_other (by omega)⟩
/-- what changes above N alone does not matter -/
def Shuts {β : Type} (N : Nat) (I : β → World → Prop) : Prop := ∀ s X Y, I s X → Below N X Y → I s Y
/-- the contract of such an iterator -/
def SeqB {α : Type} (n : Nat) (P : Program) (gf : Nat) (lb : Array Value) (encs : α → Array Value) (R n₀ : Nat) (S Sp : List α → Prop) (w : World) : Prop :=
  ∀ (l : Nat) (J Jx : List α → World → Prop) (W : World), Below w.heap.size w W → w.heap.size ≤ l → l < W.heap.size → Shuts W.heap.size J → Shuts W.heap.size Jx →
    (∀ pre x W1, J pre W1 → YieldAt Fence.wide (n - 1) P l (encs x) W1 fun e W' => (e = .returned (.bool true) ∧ J (pre ++ [x]) W' ∧ KB R l n₀ W1 W') ∨ (e = .returned (.bool false) ∧ Jx (pre ++ [x]) W' ∧ KB R l n₀ W1 W')) →
    J [] W → CallsIn Fence.wide n P gf (#[.func (.yield l) #[] #[]] ++ lb) W fun e W' => (∃ v, e = .returned v) ∧ ((∃ xs, S xs ∧ J xs W') ∨ ∃ pre, Sp pre ∧ Jx pre W')
/-- how a round is left -/
def endB {α : Type} (R l n₀ : Nat) (I Ix : List α → World → Prop) (xs : List α) (W : World) : Exit → Act → World → Prop
  | .normal, _, W' => (Below n₀ W W' ∧ ∀ k, k ≠ R → k < W.heap.size → W'.heap[k]? = W.heap[k]?) ∧ I xs W'
  | .ret, _, W' => (Below n₀ W W' ∧ ∀ k, k ≠ R → k < W.heap.size → W'.heap[k]? = W.heap[k]?) ∧ Ix xs W'
  | _, _, _ => False

theorem range_B {α : Type} {P : Program} {g : Operand} {ps : Array Tmp} {assign body : Code} {Q : Exit → Act → World → Prop} {a : Act} {w : World} {n : Nat}
    {gf : Nat} {lb : Array Value} (hg : a.eval g = .func (.func gf) #[] lb) (eg : ∀ args w, (callFunc gf args).run P w = .ok (.enter gf args) w)
    {encs : α → Array Value} {R n₀ : Nat} {S Sp : List α → Prop} (hR : R < w.heap.size) (hn : n₀ ≤ w.heap.size) (hseq : SeqB (n - 1) P gf lb encs R n₀ S Sp w) (hps : ∀ x, (encs x).size = ps.size)
    (I Ix : List α → World → Prop) (hI : Shuts w.heap.size I) (hIx : Shuts w.heap.size Ix) (h0 : I [] w) (Ax : α → Act → World → Prop)
    (hAx : ∀ x a' W l o o', Ax x a' W → W.heap[l]? = some o → o.isCells = false → Ax x a' (W.putObj l o'))
    (hassign : ∀ (l : Nat) (pre : List α) (x : α) (W : World) (K : Act → World → Prop), w.heap.size ≤ W.heap.size → I pre W → (∀ a' W', Below W.heap.size W W' → I pre W' → Ax x a' W' → K a' W') →
      assign.wpIn (Fence.wide.inRound l) (n - 1 - 1) P (Exit.then K (fun _ _ _ => False)) { tmps := (ps.zip (encs x)).foldl (fun t (p, v) => t.setIfInBounds p v) a.tmps, defers := [] } W)
    (hbody : ∀ (l : Nat) (pre : List α) (x : α) (a' : Act) (W : World), w.heap.size ≤ l → w.heap.size ≤ W.heap.size → I pre W → Ax x a' W → body.wpIn (Fence.wide.inRound l) (n - 1 - 1) P (endB R l n₀ I Ix (pre ++ [x]) W) a' W)
    (hdone : ∀ (D : Nat) (xs : List α) (W : World), w.heap.size ≤ D → S xs → I xs W → W.heap[D]? = some (.deferred (some [])) → Q .normal { a with defers := { target := .collected D, args := #[] } :: a.defers } W)
    (hstop : ∀ (D : Nat) (pre : List α) (W : World), w.heap.size ≤ D → Sp pre → Ix pre W → W.heap[D]? = some (.deferred (some [])) → Code.ret.wpIn Fence.wide n P Q { a with defers := { target := .collected D, args := #[] } :: a.defers } W) :
    (Code.rangeFunc g ps assign body).wpIn Fence.wide n P Q a w := by
  refine wpIn_rangeFunc fun fn hfn => ?_
  -- the record of the loop, at block L, and the block D of the deferred calls
  let rc : LoopState → Option Code → Loop := fun st pe => { state := st, pending := pe, fn, tmps := a.tmps, params := ps, assign, body, defers := w.heap.size }
  have enter := run_enterLoop_outer (P := P) (w := w) fn a.tmps ps assign body
  generalize hV : (w.alloc (.deferred (some []))).alloc (.loop (rc .ready none)) = V
  have sV : V.heap.size = w.heap.size + 2 := by rw [← hV]; simp
  have bV : Below w.heap.size w V := by rw [← hV]; exact ((Below.refl _ w).alloc (Nat.le_refl _) _).alloc (by simp) _
  have dV : V.heap[w.heap.size]? = some (.deferred (some [])) := by
    rw [← hV]
    exact (Below.heap_alloc _ _ _ (by simp)).trans (World.alloc_heap_new w _)
  have lV : V.heap[w.heap.size + 1]? = some (.loop (rc .ready none)) := by
    have h := World.alloc_heap_new (w.alloc (.deferred (some []))) (.loop (rc .ready none))
    rw [World.size_alloc, hV] at h
    exact h
  refine ⟨w.heap.size + 1, [{ target := .collected w.heap.size, args := #[] }], V, { target := .fn (.func gf) lb, args := #[.func (.yield (w.heap.size + 1)) #[] #[]] }, V, gf, #[.func (.yield (w.heap.size + 1)) #[] #[]] ++ lb, V, ?_, ?_, fun _ _ => trivial, ?_, fun h => (by cases h), ?_⟩
  · rw [← hV]; exact enter
  · simp only [resolve, hg]
    simp [go_sem]
  · simp [invoke, go_sem, eg]
  let L := w.heap.size + 1
  have up : ∀ {st : LoopState} {pe : Option Code} {X Y : World}, (X.heap[L]? = some (.loop (rc st pe)) ∧ X.heap[w.heap.size]? = some (.deferred (some []))) → Below V.heap.size X Y → (Y.heap[L]? = some (.loop (rc st pe)) ∧ Y.heap[w.heap.size]? = some (.deferred (some []))) :=
    fun h hb => ⟨(hb.block _ (by rw [sV]; show w.heap.size + 1 < _; omega)).trans h.1, (hb.block _ (by rw [sV]; omega)).trans h.2⟩
  refine (hseq L (fun pre W => I pre W ∧ W.heap[L]? = some (.loop (rc .ready none)) ∧ W.heap[w.heap.size]? = some (.deferred (some [])))
    (fun pre W => Ix pre W ∧ W.heap[L]? = some (.loop (rc .done (some .ret))) ∧ W.heap[w.heap.size]? = some (.deferred (some []))) V bV (Nat.le_succ _) (by rw [sV]; show w.heap.size + 1 < _; omega)
    (fun s X Y h hb => ⟨hI s X Y h.1 (hb.mono (by omega)), up h.2 hb⟩) (fun s X Y h hb => ⟨hIx s X Y h.1 (hb.mono (by omega)), up h.2 hb⟩) ?round ⟨hI _ _ _ h0 bV, lV, dV⟩).mono ?behind
  case behind =>
    rintro e W2 ⟨⟨v, rfl⟩, ⟨xs, hS, hi, hl, hd⟩ | ⟨pre, hS, hi, hl, hd⟩⟩
    · exact ⟨none, _, run_endLoop (P := P) hl (by simp [rc]), hdone _ xs _ (Nat.le_refl _) hS (hI _ _ _ hi (put_below _ _ _ (Nat.le_succ _))) ((World.putObj_heap_other (by show w.heap.size ≠ w.heap.size + 1; omega)).trans hd)⟩
    · exact ⟨some .ret, _, run_endLoop (P := P) hl (by simp [rc]), hstop _ pre _ (Nat.le_refl _) hS (hIx _ _ _ hi (put_below _ _ _ (Nat.le_succ _))) ((World.putObj_heap_other (by show w.heap.size ≠ w.heap.size + 1; omega)).trans hd)⟩
  case round =>
    rintro pre x W ⟨hi, hl, hd⟩
    have hsW : L < W.heap.size := (Array.getElem?_eq_some_iff.1 hl).1
    have hsz : w.heap.size + 1 < W.heap.size := hsW
    refine ⟨fn, _, assign, body, run_yield (P := P) (args := encs x) hl (hps x), roundIn_of_wpIn hfn (hassign L pre x W _ (by omega) hi fun a' Wa hba hia hax => ?_)⟩
    have hla := (hba.block L hsW).trans hl
    have hda := (hba.block w.heap.size (by omega)).trans hd
    have hsa := hba.size
    refine ⟨_, run_beginRound (P := P) hla rfl, ?_⟩
    -- the busy record
    generalize hWb : Wa.putObj L (.loop { rc .ready none with state := .busy }) = Wb
    have sb : Wb.heap.size = Wa.heap.size := by rw [← hWb]; simp
    have lb' : Wb.heap[L]? = some (.loop { rc .ready none with state := .busy }) := by rw [← hWb]; exact World.putObj_heap_same (by omega)
    have db' : Wb.heap[w.heap.size]? = some (.deferred (some [])) := by rw [← hWb]; exact (World.putObj_heap_other (by show w.heap.size ≠ w.heap.size + 1; omega)).trans hda
    have kb : KB R L n₀ W Wb := by
      rw [← hWb]
      exact (KB.of_below hba (by omega) (Nat.le_refl _)).trans (KB.put _ (by show n₀ ≤ w.heap.size + 1; omega))
    have hib : I pre Wb := by rw [← hWb]; exact hI _ _ _ hia (put_below _ _ _ (Nat.le_succ _))
    have hab : Ax x a' Wb := by rw [← hWb]; exact hAx _ _ _ _ _ _ hax hla rfl
    refine wpIn_mono (hbody L pre x a' Wb (Nat.le_succ _) (by omega) hib hab) fun e a3 W3 hp => ?_
    have fin : ∀ (j : Option Code), (Below n₀ Wb W3 ∧ ∀ k, k ≠ R → k < Wb.heap.size → W3.heap[k]? = Wb.heap[k]?) →
        (Instr.endRound L j).run P W3 = .ok (.bool j.isNone) (W3.putObj L (.loop (rc (if j.isNone then .ready else .done) j))) ∧
        ((W3.putObj L (.loop (rc (if j.isNone then .ready else .done) j))).heap[L]? = some (.loop (rc (if j.isNone then .ready else .done) j)) ∧
        (W3.putObj L (.loop (rc (if j.isNone then .ready else .done) j))).heap[w.heap.size]? = some (.deferred (some []))) ∧ KB R L n₀ W (W3.putObj L (.loop (rc (if j.isNone then .ready else .done) j))) := fun j ⟨hb3, hk3⟩ => by
      have l3 : W3.heap[L]? = some (.loop { rc .ready none with state := .busy }) := (hk3 L (by show w.heap.size + 1 ≠ R; omega) (by omega)).trans lb'
      have d3 := (hk3 w.heap.size (by omega) (by omega)).trans db'
      refine ⟨run_endRound (P := P) j l3, ⟨World.putObj_heap_same (Array.getElem?_eq_some_iff.1 l3).1, (World.putObj_heap_other (by show w.heap.size ≠ w.heap.size + 1; omega)).trans d3⟩, ?_⟩
      exact (kb.trans ⟨hb3, fun k h1 _ h3 => hk3 k h1 h3⟩).trans (KB.put _ (by show n₀ ≤ w.heap.size + 1; omega))
    match e, hp with
    | .normal, hp =>
      obtain ⟨r, hl4, hk4⟩ := fin none hp.1
      exact ⟨_, _, r, .inl ⟨rfl, ⟨hI _ _ _ hp.2 (put_below _ _ _ (Nat.le_succ _)), hl4⟩, hk4⟩⟩
    | .ret, hp =>
      obtain ⟨r, hl4, hk4⟩ := fin (some .ret) hp.1
      exact ⟨_, _, r, .inr ⟨rfl, ⟨hIx _ _ _ hp.2 (put_below _ _ _ (Nat.le_succ _)), hl4⟩, hk4⟩⟩
    | .exit _, hp => exact hp.elim
    | .goto _, hp => exact hp.elim
    | .panic _, hp => exact hp.elim
    | .outgrown, hp => exact hp.elim
end Go.Proofs.Ytcpcmlonbpccnaa.Rb
