/- A law: a region that draws its order, in a round of a loop over a function, walked as elsewhere. No program. -/
import Derived.Test.YtcpcmlonbpccnaaRegLast
import Derived.RangeFuncNested
import Derived.RangeFuncCalls
import Derived.OrdersIn
import Derived.Deep.RegionHeld3
namespace Go.Proofs.Ytcpcmlonbpccnaa.Rl
set_option linter.unusedVariables false
set_option linter.unusedSimpArgs false
open Go.RowKit

section
variable {P : Program} {ops : Array Oper} {Q : Exit → Act → World → Prop} {md : Region.Mode} {S : World → Prop}

theorem upon_in (l n : Nat) (o : Oper) (a : Act) (K : Act → World → Prop) (r : Result Next) (h : o.upon P a K Q r) : o.uponIn (Fence.wide.inRound l) n P a K Q r := by
  cases r with
  | ok x w' =>
    cases x with
    | value v => exact h
    | skip => exact h
    | defer d => exact h
    | enter f args =>
      refine ⟨fun hd => (by cases hd), CallsIn.inRound l (callsIn_wide.2 (Calls.mono h fun e w'' he => ?_))⟩
      cases e <;> exact he
    | row r args => exact ⟨fun hd => (by cases hd), fun c cs _ => let ⟨v, w'', r, s⟩ := h c cs; ⟨v, w'', r, stepsIn_wide.2 s⟩⟩
    | _ => exact (h : False).elim
  | halt x w' =>
    cases x with
    | panic v => exact h
    | _ => exact (h : False).elim

/-- no operation defers -/
def calmOps (ops : Array Oper) : Bool := ops.all fun o => match o.op with | .defer _ => false | _ => true
theorem calm_at (h : calmOps ops = true) {i : Nat} {o : Oper} (ho : ops[i]? = some o) : ∀ c, o.op ≠ .defer c := by
  intro c hc
  unfold calmOps at h
  rw [Array.all_eq_true] at h
  obtain ⟨hi, rfl⟩ := Array.getElem?_eq_some_iff.1 ho
  have := h i hi
  rw [hc] at this
  cases this

theorem any_in (l n : Nat) (hc : calmOps ops = true) (hL : ¬ LetsOut Q) : ∀ (fuel : Nat) (listed : Array Bool) (a : Act) (w : World), wpAny P md ops Q fuel listed a w → wpAnyIn (Fence.wide.inRound l) n P md ops Q fuel listed a w := by
  intro fuel
  induction fuel with
  | zero => intro listed a w h; exact h
  | succ fuel ih =>
    intro listed a w h
    refine ⟨h.1, fun i hi => ?_⟩
    have h1 := h.2 i hi
    unfold wpOp at h1
    unfold wpOpIn
    cases ho : ops[i]? with
    | none => rw [ho] at h1; exact ih _ _ _ h1
    | some o =>
      rw [ho] at h1
      simp only at h1 ⊢
      split
      · rename_i hw
        rw [if_pos hw] at h1
        rcases h1 with h1 | ⟨_, h1⟩
        · refine ⟨fun _ _ => trivial, ?_⟩
          rw [Oper.semAt_eq _ _ _ (calm_at hc ho)]
          exact upon_in l n o a _ _ (Oper.wp_mono (fun a w => ih _ a w) h1)
        · exact absurd h1 hL
      · rename_i hw
        rw [if_neg hw] at h1
        exact ⟨fun _ _ => trivial, ih _ _ _ h1⟩

/-- in a round: as go_region_held3 begins elsewhere -/
theorem region_round {id : Nat} {a : Act} {w : World} (l n : Nat) (hm : P.follows .mixedOrders = true) (hc : calmOps ops = true) (hL : ¬ LetsOut Q) (S : World → Prop) (hS : S w.drew)
    (h : S w.drew → wpAnyH P .any ops Q S ops.size (Array.replicate ops.size false) a w.drew) : (Code.region id ops true).wpIn (Fence.wide.inRound l) n P Q a w :=
  wpIn_region_any hm (any_in l n hc hL _ _ _ _ (wpAny_of_held _ _ _ _ (h hS)))

/-- in a round, with a condition that is asked up to operation n alone -/
theorem start_round {id : Nat} {a : Act} {w : World} (l d n : Nat) (S : World → Prop) (hm : P.follows .mixedOrders = true) (hc : calmOps ops = true) (hL : ¬ LetsOut Q)
    (h : anyG P .any ops Q n S ops.size (Array.replicate ops.size false) a w.drew) : (Code.region id ops true).wpIn (Fence.wide.inRound l) d P Q a w :=
  wpIn_region_any hm (any_in l d hc hL _ _ _ _ (any_of _ _ _ _ h))
end
end Go.Proofs.Ytcpcmlonbpccnaa.Rl

/- A region that draws its order, inside a fence, whose call may change what the region has loaded ahead of it: a condition on the world that is asked up to that operation alone. No program. -/
namespace Go.Proofs.Ytcpcmlonbpccnaa.Rl
open Go
section
variable {F : Fence} {d : Nat} {P : Program} {md : Region.Mode} {ops : Array Oper} {Q : Exit → Act → World → Prop} {n : Nat} {S : World → Prop}

def YieldsIfIn (P : Program) (ops : Array Oper) (S : World → Prop) (o : Oper) (v : Value) (a : Act) : Prop := YieldsIf P ops S o v a ∧ ∀ w, o.about P w a.eval = none
theorem YieldsIfIn.wpOpIn {i : Nat} {o : Oper} {v : Value} {a : Act} (hc : calmOps ops = true) (hi : ops[i]? = some o) (hy : YieldsIfIn P ops S o v a)
    {K : Act → World → Prop} {w : World} (hS : S w) (h : K (a.put o.dst v) w) : wpOpIn F d P ops Q i K a w := by
  unfold Go.wpOpIn
  simp only [hi]
  have hab : ∀ f, o.about P w a.eval = some f → F.fn f := fun f hf => by rw [hy.2 w] at hf; cases hf
  rcases hy.1 with ⟨hw, hv⟩ | ⟨hw, rfl⟩
  · simp only [hw, if_true, Oper.wpIn, Oper.semAt_eq _ _ _ (calm_at hc hi), hv w hS, Oper.uponIn]; exact ⟨hab, h⟩
  · simp only [hw, Bool.false_eq_true, if_false]; exact ⟨hab, h⟩
theorem YieldsIfIn.of_same {o : Oper} {v : Value} {a a' : Act} (hy : YieldsIfIn P ops S o v a) (he : execOp a'.eval o = execOp a.eval o)
    (hw : Region.wanted o (yielded ops a'.tmps) = Region.wanted o (yielded ops a.tmps)) (hb : ∀ w, o.about P w a'.eval = o.about P w a.eval) : YieldsIfIn P ops S o v a' :=
  ⟨hy.1.of_same he hw, fun w => by rw [hb w]; exact hy.2 w⟩
theorem wpOpIn_putIf {j : Nat} {oi oj : Oper} {v : Value} (hc : calmOps ops = true) (hj : ops[j]? = some oj) (hap : oi.apart ops oj = true)
    (hsi : ∀ cs b, oi.op ≠ .select cs b) (hsj : ∀ cs b, oj.op ≠ .select cs b)
    (hQ : ∀ c a w, Q (.panic c) (a.put oi.dst v) w → Q (.panic c) a w) {K : Act → World → Prop} {a : Act} {w : World}
    (hy : YieldsIfIn P ops S oi v a) (h : wpOpIn F d P ops Q j K (a.put oi.dst v) w) :
    wpOpIn F d P ops Q j (fun a' w' => YieldsIfIn P ops S oi v a' ∧ K (a'.put oi.dst v) w') a w := by
  obtain ⟨h1, h2, h3⟩ := Oper.apart_spec hap
  have hcm := calm_at hc hj
  have keep : ∀ (a : Act), YieldsIfIn P ops S oi v a → ∀ u, YieldsIfIn P ops S oi v (a.put oj.dst u) := fun a hy u =>
    hy.of_same (execOp_put oi hsi a oj.dst u h3) (wanted_put oi a oj.dst u h3) (fun w => about_put oi w a oj.dst u h3)
  have keepD : ∀ d, YieldsIfIn P ops S oi v { a with defers := d :: a.defers } := fun d => hy.of_same rfl rfl (fun _ => rfl)
  unfold wpOpIn at *
  simp only [hj] at *
  rw [wanted_put oj a oi.dst v h1, about_put oj w a oi.dst v h1] at h
  split
  · rename_i hw
    simp only [hw, if_true] at h
    unfold Oper.wpIn at *
    rw [about_put oj w a oi.dst v h1] at h
    refine ⟨h.1, ?_⟩
    have h := h.2
    rw [Oper.semAt_eq _ _ _ hcm, execOp_put oj hsj a oi.dst v h1] at h
    rw [Oper.semAt_eq _ _ _ hcm]
    generalize (execOp a.eval oj).run P w = r at *
    cases r with
    | ok x w' =>
      cases x <;> simp only [Oper.uponIn] at h ⊢
      case value u => exact ⟨keep a hy u, by rw [← Act.put_comm a v u h2]; exact h⟩
      case skip => exact ⟨keep a hy _, by rw [← Act.put_comm a v undef h2]; exact h⟩
      case defer d =>
        refine ⟨keep _ (keepD d) _, ?_⟩
        rw [← Act.put_comm _ v undef h2, ← Act.put_defers]
        exact h
      case enter f args =>
        refine ⟨h.1, CallsIn.mono h.2 fun e w'' he => ?_⟩
        cases e with
        | returned u => exact ⟨keep a hy u, by rw [← Act.put_comm a v u h2]; exact he⟩
        | panicked c => exact hQ _ _ _ he
        | outgrown => exact he
      case row row args => exact ⟨h.1, RowsIn.mono h.2 fun u w'' he => ⟨keep a hy u, by rw [← Act.put_comm a v u h2]; exact he⟩⟩
      case round l f tmps assign body =>
        refine ⟨h.1, RoundIn.mono h.2 fun e w'' he => ?_⟩
        cases e with
        | returned u => exact ⟨keep a hy u, by rw [← Act.put_comm a v u h2]; exact he⟩
        | panicked c => exact hQ _ _ _ he
        | outgrown => exact he
    | halt x w' =>
      cases x <;> simp only [Oper.uponIn] at h ⊢
      case panic u => exact hQ _ _ _ h
  · rename_i hw
    simp only [hw] at h
    exact ⟨h.1, keep a hy _, by rw [← Act.put_comm a v undef h2]; exact h.2⟩

/-- whatever comes up: behind it the condition holds, as far as it is asked -/
def anyI (F : Fence) (d : Nat) (P : Program) (md : Region.Mode) (ops : Array Oper) (Q : Exit → Act → World → Prop) (n : Nat) (S : World → Prop) : Nat → Array Bool → Act → World → Prop
  | 0, L, a, w => Region.ready md ops L = [] ∧ Q .normal a w
  | f + 1, L, a, w => (Region.ready md ops L = [] → Q .normal a w) ∧ ∀ i ∈ Region.ready md ops L, wpOpIn F d P ops Q i (fun a' w' => UpTo n S (L.setIfInBounds i true) w' ∧ anyI F d P md ops Q n S f (L.setIfInBounds i true) a' w') a w
theorem anyI_of : ∀ (f : Nat) (L : Array Bool) (a : Act) (w : World), anyI F d P md ops Q n S f L a w → wpAnyIn F d P md ops Q f L a w
  | 0, _, _, _, h => h
  | f + 1, _, _, _, h => ⟨h.1, fun i hi => wpOpIn_mono (fun a' w' h' => anyI_of f _ a' w' h'.2) (h.2 i hi)⟩
/-- what is done has what it waits for done -/
def Clo (md : Region.Mode) (ops : Array Oper) (L : Array Bool) : Prop := ∀ (k : Nat) (o : Oper), L[k]? = some true → ops[k]? = some o → ∀ e ∈ o.after, Region.binds md e = true → L[e.on]? = some true
theorem ready_of {i : Nat} {L : Array Bool} (h : i ∈ Region.ready md ops L) : L[i]? = some false ∧ ∃ o, ops[i]? = some o ∧ ∀ e ∈ o.after, Region.binds md e = true → L[e.on]? = some true := by
  obtain ⟨h0, o, ho, hall⟩ := mem_ready.1 h
  refine ⟨?_, o, ho, fun e he hb => ?_⟩
  · cases hx : L[i]? with
    | none => simp [hx] at h0
    | some b => simp [hx] at h0; rw [h0]
  · have h1 := hall e he hb
    cases hx : L[e.on]? with
    | none => simp [hx] at h1
    | some b => simp [hx] at h1; rw [h1]
theorem Clo.set {L : Array Bool} (h : Clo md ops L) {i : Nat} (hi : i ∈ Region.ready md ops L) : Clo md ops (L.setIfInBounds i true) := by
  obtain ⟨hL, oi, hoi, hall⟩ := ready_of hi
  have key : ∀ m, L[m]? = some true → (L.setIfInBounds i true)[m]? = some true := fun m hm => by
    rw [Array.getElem?_setIfInBounds]
    split
    · subst m; rw [hL] at hm; cases hm
    · exact hm
  intro k o hk ho e he hb
  by_cases hki : k = i
  · subst hki
    rw [hoi] at ho
    cases ho
    exact key _ (hall e he hb)
  · rw [Array.getElem?_setIfInBounds, if_neg (fun e => hki e.symm)] at hk
    exact key _ (h k o hk ho e he hb)
/-- a way from one operation back along what it waits for -/
def wayB (md : Region.Mode) (ops : Array Oper) : Nat → List Nat → Bool
  | _, [] => true
  | k, j :: js => waitsB md ops k j && wayB md ops j js
theorem waits_edge {i k : Nat} (h : waitsB md ops k i = true) : ∃ o, ops[k]? = some o ∧ ∃ e ∈ o.after, Region.binds md e = true ∧ e.on = i := by
  unfold waitsB at h
  cases ho : ops[k]? with
  | none => rw [ho] at h; cases h
  | some o =>
    rw [ho] at h
    obtain ⟨m, hm, he⟩ := Array.any_eq_true.1 h
    simp only [Bool.and_eq_true, decide_eq_true_eq] at he
    exact ⟨o, rfl, _, Array.getElem_mem hm, he.1, he.2⟩
theorem way_done {L : Array Bool} (hc : Clo md ops L) : ∀ (p : List Nat) (k i : Nat), L[k]? = some true → wayB md ops k p = true → (k :: p).getLast? = some i → L[i]? = some true
  | [], k, i, hk, _, hl => by simp at hl; subst hl; exact hk
  | j :: js, k, i, hk, hw, hl => by
    simp only [wayB, Bool.and_eq_true] at hw
    obtain ⟨o, ho, e, he, hb, rfl⟩ := waits_edge hw.1
    exact way_done hc js _ i (hc k o hk ho e he hb) hw.2 (by simpa using hl)
theorem way_not {L : Array Bool} (hc : Clo md ops L) {p : List Nat} {j i : Nat} (hw : wayB md ops n (j :: p) = true) (hl : (j :: p).getLast? = some i) (hi : i ∈ Region.ready md ops L) : ¬ n ∈ Region.ready md ops L := by
  intro hn
  obtain ⟨-, o, ho, hall⟩ := ready_of hn
  simp only [wayB, Bool.and_eq_true] at hw
  obtain ⟨o', ho', e, he, hb, rfl⟩ := waits_edge hw.1
  rw [ho] at ho'
  cases ho'
  have h1 := way_done hc p _ i (hall e he hb) hw.2 hl
  rw [(ready_of hi).1] at h1
  cases h1
theorem first_in {i : Nat} {o : Oper} {v : Value} (hc : calmOps ops = true) (hi : ops[i]? = some o) (hin : i ≠ n) (hsel : ∀ (j : Nat) (o : Oper) cs b, ops[j]? = some o → o.op ≠ .select cs b)
    (hQ : ∀ c a w, Q (.panic c) (a.put o.dst v) w → Q (.panic c) a w) (hlast : ∀ L, Clo md ops L → i ∈ Region.ready md ops L → n ∈ Region.ready md ops L → False) :
    ∀ (f : Nat) (L : Array Bool) (a : Act) (w : World), Clo md ops L →
      (∀ j oj, ops[j]? = some oj → j ≠ i → L.getD j true = false → (∀ e ∈ oj.after, Region.binds md e = true → e.on ≠ i) → o.apart ops oj = true) →
      L.getD n true = false → i ∈ Region.ready md ops L → YieldsIfIn P ops S o v a → UpTo n S L w →
      anyI F d P md ops Q n S f (L.setIfInBounds i true) (a.put o.dst v) w → anyI F d P md ops Q n S (f + 1) L a w := by
  intro f
  induction f with
  | zero =>
    intro L a w _ _ hn hr hy hU H
    refine ⟨fun h => (by rw [h] at hr; cases hr), fun j hj => ?_⟩
    by_cases hji : j = i
    · subst hji
      exact hy.wpOpIn hc hi (hU hn) ⟨(upTo_set hin).2 hU, H⟩
    · have h := ready_mono hj hji
      rw [H.1] at h
      cases h
  | succ f ih =>
    intro L a w hcl hfree hn hr hy hU H
    refine ⟨fun h => (by rw [h] at hr; cases hr), fun j hj => ?_⟩
    by_cases hji : j = i
    · subst hji
      exact hy.wpOpIn hc hi (hU hn) ⟨(upTo_set hin).2 hU, H⟩
    · obtain ⟨hjun, oj, hoj, hall⟩ := mem_ready.1 hj
      have hnot : ∀ e ∈ oj.after, Region.binds md e = true → e.on ≠ i := fun e he hb heq => by
        have h1 := hall e he hb
        have h0 := (mem_ready.1 hr).1
        rw [heq] at h1
        cases hx : L[i]? with
        | none => simp [hx] at h1
        | some b =>
          simp [hx] at h0 h1
          rw [h0] at h1
          cases h1
      have hjn : j ≠ n := fun e => hlast L hcl hr (e ▸ hj)
      refine wpOpIn_mono (fun a' w' h3 => ?_) (wpOpIn_putIf hc hoj (hfree j oj hoj hji hjun hnot) (fun cs b => hsel i o cs b hi) (fun cs b => hsel j oj cs b hoj) hQ hy (H.2 j (ready_mono hj hji)))
      have hU' : UpTo n S (L.setIfInBounds j true) w' := by
        have h4 := h3.2.1
        rw [Array.setIfInBounds_comm _ _ (Ne.symm hji)] at h4
        exact (upTo_set hin).1 h4
      refine ⟨hU', ih _ a' w' (hcl.set hj) (fun k ok hk hki hun hno => ?_) (by rw [getD_set_ne true hjn]; exact hn) (ready_mono hr (Ne.symm hji)) h3.1 hU' ?_⟩
      · refine hfree k ok hk hki ?_ hno
        by_cases hjk : j = k
        · subst hjk
          exact hjun
        · rwa [getD_set_ne true hjk] at hun
      · rw [Array.setIfInBounds_comm _ _ hji]
        exact h3.2.2
/-- a state of what is done, with the proof that it is closed -/
def cloB (md : Region.Mode) (ops : Array Oper) (L : Array Bool) : Bool := (List.range L.size).all fun k => !(L[k]?.getD false) || (match ops[k]? with
  | some o => o.after.all fun e => !Region.binds md e || L[e.on]?.getD false
  | none => true)
theorem clo_of {L : Array Bool} (h : cloB md ops L = true) : Clo md ops L := by
  intro k o hk ho e he hb
  have hlt : k < L.size := (Array.getElem?_eq_some_iff.1 hk).1
  have h1 := List.all_eq_true.1 h k (List.mem_range.2 hlt)
  rw [hk, ho] at h1
  simp only [Option.getD_some, Bool.not_true, Bool.false_or] at h1
  obtain ⟨m, hm, rfl⟩ := Array.getElem_of_mem he
  have h2 := Array.all_eq_true.1 h1 m hm
  rw [hb] at h2
  simp only [Bool.not_true, Bool.false_or] at h2
  cases hx : L[o.after[m].on]? with
  | none => rw [hx] at h2; cases h2
  | some b => rw [hx] at h2; simp only [Option.getD_some] at h2; rw [h2]
/-- take number i first (p: a way from the last operation back to it) -/
theorem take_in {i : Nat} {o : Oper} {v : Value} {f : Nat} {L : Array Bool} {a : Act} {w : World} (j : Nat) (p : List Nat) (hcalm : calmOps ops = true) (hi : ops[i]? = some o) (hin : i ≠ n)
    (hs : Region.noSelect ops = true) (hc : cloB md ops L = true) (hf : Region.free md ops L i = true) (hr : (Region.ready md ops L).contains i = true) (hw : wayB md ops n (j :: p) = true) (hl : (j :: p).getLast? = some i) (hL : L.getD n true = false)
    (hQ : ∀ c a w, Q (.panic c) (a.put o.dst v) w → Q (.panic c) a w) (hy : YieldsIfIn P ops S o v a) (hS : S w)
    (h : anyI F d P md ops Q n S f (L.setIfInBounds i true) (a.put o.dst v) w) : anyI F d P md ops Q n S (f + 1) L a w :=
  first_in hcalm hi hin (Region.noSelect_spec hs) hQ (fun L' c a b => way_not c hw hl a b) f L a w (clo_of hc) (Region.free_spec hi hf) hL (by simpa using hr) hy (fun _ => hS) h
/-- the one that may come up now -/
theorem one_in {i : Nat} {o : Oper} {f : Nat} {L : Array Bool} {a : Act} {w : World} (hi : ops[i]? = some o) (hr : Region.ready md ops L = [i])
    (h : ∀ K' : Act → World → Prop, Shut (∀ a w, UpTo n S (L.setIfInBounds i true) w → anyI F d P md ops Q n S f (L.setIfInBounds i true) a w → K' a w) → if Region.wanted o (yielded ops a.tmps) = true then Oper.wpIn F d P o a w K' Q else (∀ f, o.about P w a.eval = some f → F.fn f) ∧ K' (a.put o.dst undef) w) :
    anyI F d P md ops Q n S (f + 1) L a w := by
  refine ⟨fun e => (by rw [hr] at e; cases e), fun j hj => ?_⟩
  rw [hr] at hj
  obtain rfl := List.mem_singleton.1 hj
  exact wpOpIn_step hi (fun K' hK => h K' (fun a w h1 h2 => hK a w ⟨h1, h2⟩))
theorem done_in {L : Array Bool} {a : Act} {w : World} (hr : Region.ready md ops L = []) (h : Q .normal a w) : ∀ f, anyI F d P md ops Q n S f L a w
  | 0 => ⟨hr, h⟩
  | _ + 1 => ⟨fun _ => h, fun i hi => (by rw [hr] at hi; cases hi)⟩
theorem start_in (n : Nat) (S : World → Prop) {id : Nat} {a : Act} {w : World} (hm : P.follows .mixedOrders = true)
    (h : anyI F d P .any ops Q n S ops.size (Array.replicate ops.size false) a w.drew) : (Code.region id ops true).wpIn F d P Q a w :=
  wpIn_region_any hm (anyI_of _ _ _ _ h)
end
end Go.Proofs.Ytcpcmlonbpccnaa.Rl
