/- A region that draws its order, whose last operation writes what the region loads: a condition on the world that is asked up to that operation alone. -/
import Derived.OrdersHeld
import Derived.Deep.RegionHeld
namespace Go.Proofs.Ytcpcmlonbpccnaa.Rl
open Go
section
variable {P : Program} {md : Region.Mode} {ops : Array Oper} {Q : Exit → Act → World → Prop}

/-- the condition, up to operation n -/
def UpTo (n : Nat) (S : World → Prop) (L : Array Bool) (w : World) : Prop := L.getD n true = false → S w
/-- whatever comes up: behind it the condition holds, as far as it is asked -/
def anyG (P : Program) (md : Region.Mode) (ops : Array Oper) (Q : Exit → Act → World → Prop) (n : Nat) (S : World → Prop) : Nat → Array Bool → Act → World → Prop
  | 0, L, a, w => Region.ready md ops L = [] ∧ Q .normal a w
  | f + 1, L, a, w => (Region.ready md ops L = [] → Q .normal a w) ∧ ∀ i ∈ Region.ready md ops L, wpOp P ops Q i (fun a' w' => UpTo n S (L.setIfInBounds i true) w' ∧ anyG P md ops Q n S f (L.setIfInBounds i true) a' w') a w
variable {n : Nat} {S : World → Prop}
theorem any_of : ∀ (f : Nat) (L : Array Bool) (a : Act) (w : World), anyG P md ops Q n S f L a w → wpAny P md ops Q f L a w
  | 0, _, _, _, h => h
  | f + 1, _, _, _, h => ⟨h.1, fun i hi => wpOp_mono (fun a' w' h' => any_of f _ a' w' h'.2) (h.2 i hi)⟩
theorem upTo_set {i : Nat} (hin : i ≠ n) {L : Array Bool} {w : World} : UpTo n S (L.setIfInBounds i true) w ↔ UpTo n S L w := by
  unfold UpTo
  rw [getD_set_ne true hin]
/-- an operation that yields its value in every world that meets the condition may be taken first -/
theorem first_of {i : Nat} {o : Oper} {v : Value} (hi : ops[i]? = some o) (hin : i ≠ n) (hsel : ∀ (j : Nat) (o : Oper) cs b, ops[j]? = some o → o.op ≠ .select cs b)
    (hQ : ∀ c a w, Q (.panic c) (a.put o.dst v) w → Q (.panic c) a w) (hlast : ∀ L, i ∈ Region.ready md ops L → n ∈ Region.ready md ops L → False) :
    ∀ (f : Nat) (L : Array Bool) (a : Act) (w : World),
      (∀ j oj, ops[j]? = some oj → j ≠ i → L.getD j true = false → (∀ e ∈ oj.after, Region.binds md e = true → e.on ≠ i) → o.apart ops oj = true) →
      L.getD n true = false → i ∈ Region.ready md ops L → YieldsIf P ops S o v a → UpTo n S L w →
      anyG P md ops Q n S f (L.setIfInBounds i true) (a.put o.dst v) w → anyG P md ops Q n S (f + 1) L a w := by
  intro f
  induction f with
  | zero =>
    intro L a w _ hn hr hy hU H
    refine ⟨fun h => (by rw [h] at hr; cases hr), fun j hj => ?_⟩
    by_cases hji : j = i
    · subst hji
      exact hy.wpOp hi (hU hn) ⟨(upTo_set hin).2 hU, H⟩
    · have h := ready_mono hj hji
      rw [H.1] at h
      cases h
  | succ f ih =>
    intro L a w hfree hn hr hy hU H
    refine ⟨fun h => (by rw [h] at hr; cases hr), fun j hj => ?_⟩
    by_cases hji : j = i
    · subst hji
      exact hy.wpOp hi (hU hn) ⟨(upTo_set hin).2 hU, H⟩
    · obtain ⟨hjun, oj, hoj, hall⟩ := mem_ready.1 hj
      have hnot : ∀ e ∈ oj.after, Region.binds md e = true → e.on ≠ i := fun e he hb heq => by
        have h1 := hall e he hb
        have h0 := (mem_ready.1 hr).1
        rw [heq] at h1
        cases hx : L[i]? with
        | none => simp [hx] at h1
        | some b =>
          simp [hx] at h0 h1
          rw [h0] at h1
          cases h1
      have hjn : j ≠ n := fun e => hlast L hr (e ▸ hj)
      refine wpOp_mono (fun a' w' h3 => ?_) (wpOp_putIf hoj (hfree j oj hoj hji hjun hnot) (fun cs b => hsel i o cs b hi) (fun cs b => hsel j oj cs b hoj) hQ hy (H.2 j (ready_mono hj hji)))
      have hU' : UpTo n S (L.setIfInBounds j true) w' := by
        have h4 := h3.2.1
        rw [Array.setIfInBounds_comm _ _ (Ne.symm hji)] at h4
        exact (upTo_set hin).1 h4
      refine ⟨hU', ih _ a' w' (fun k ok hk hki hun hno => ?_) (by rw [getD_set_ne true hjn]; exact hn) (ready_mono hr (Ne.symm hji)) h3.1 hU' ?_⟩
      · refine hfree k ok hk hki ?_ hno
        by_cases hjk : j = k
        · subst hjk
          exact hjun
        · rwa [getD_set_ne true hjk] at hun
      · rw [Array.setIfInBounds_comm _ _ hji]
        exact h3.2.2
/-- the last operation waits for this one, directly -/
def waitsB (md : Region.Mode) (ops : Array Oper) (n i : Nat) : Bool := match ops[n]? with
  | some o => o.after.any fun e => Region.binds md e && decide (e.on = i)
  | none => false
theorem waits_spec {i : Nat} (h : waitsB md ops n i = true) (L : Array Bool) (hr : i ∈ Region.ready md ops L) : ¬ n ∈ Region.ready md ops L := by
  intro hn
  obtain ⟨-, o, ho, hall⟩ := mem_ready.1 hn
  unfold waitsB at h
  rw [ho] at h
  obtain ⟨k, hk, he⟩ := Array.any_eq_true.1 h
  simp only [Bool.and_eq_true, decide_eq_true_eq] at he
  have h1 := hall _ (Array.getElem_mem hk) he.1
  rw [he.2] at h1
  have h0 := (mem_ready.1 hr).1
  cases hx : L[i]? with
  | none => simp [hx] at h1
  | some b =>
    simp [hx] at h0 h1
    rw [h0] at h1
    cases h1
/-- take number i first -/
theorem take_of {i : Nat} {o : Oper} {v : Value} {f : Nat} {L : Array Bool} {a : Act} {w : World} (hi : ops[i]? = some o) (hin : i ≠ n)
    (hs : Region.noSelect ops = true) (hf : Region.free md ops L i = true) (hr : (Region.ready md ops L).contains i = true) (hw : waitsB md ops n i = true) (hL : L.getD n true = false)
    (hQ : ∀ c a w, Q (.panic c) (a.put o.dst v) w → Q (.panic c) a w) (hy : YieldsIf P ops S o v a) (hS : S w)
    (h : anyG P md ops Q n S f (L.setIfInBounds i true) (a.put o.dst v) w) : anyG P md ops Q n S (f + 1) L a w :=
  first_of hi hin (Region.noSelect_spec hs) hQ (fun L' a b => waits_spec hw L' a b) f L a w (Region.free_spec hi hf) hL (by simpa using hr) hy (fun _ => hS) h
/-- the one that may come up now -/
theorem one_of {i : Nat} {o : Oper} {f : Nat} {L : Array Bool} {a : Act} {w : World} (hi : ops[i]? = some o) (hr : Region.ready md ops L = [i])
    (h : ∀ K' : Act → World → Prop, Shut (∀ a w, UpTo n S (L.setIfInBounds i true) w → anyG P md ops Q n S f (L.setIfInBounds i true) a w → K' a w) → if Region.wanted o (yielded ops a.tmps) = true then Oper.wp P o a w K' Q else K' (a.put o.dst undef) w) :
    anyG P md ops Q n S (f + 1) L a w := by
  refine ⟨fun e => (by rw [hr] at e; cases e), fun j hj => ?_⟩
  rw [hr] at hj
  obtain rfl := List.mem_singleton.1 hj
  exact wpOp_step hi (fun K' hK => h K' (fun a w h1 h2 => hK a w ⟨h1, h2⟩))
theorem done_of {L : Array Bool} {a : Act} {w : World} (hr : Region.ready md ops L = []) (h : Q .normal a w) : ∀ f, anyG P md ops Q n S f L a w
  | 0 => ⟨hr, h⟩
  | _ + 1 => ⟨fun _ => h, fun i hi => (by rw [hr] at hi; cases hi)⟩
/-- the beginning -/
theorem start_of (n : Nat) (S : World → Prop) {id : Nat} {a : Act} {w : World} (hm : P.follows .mixedOrders = true)
    (h : anyG P .any ops Q n S ops.size (Array.replicate ops.size false) a w.drew) : (Code.region id ops true).wp P Q a w :=
  wp_region_any hm (any_of _ _ _ _ h)
end
end Go.Proofs.Ytcpcmlonbpccnaa.Rl
