/- Walks over package polygon: where a place is. -/
import Derived.Test.YtohkmkkcblbemaaPolW3
import Derived.Test.YtohkmkkcblbemaaRegRound
namespace Go.Proofs.Ytohkmkkcblbemaa.Ge
set_option linter.unusedVariables false
set_option linter.unusedSimpArgs false
open Go.RowKit Go.Shelf
open Go.Proofs.Ytohkmkkcblbemaa.Fr (Two)
attribute [local go_sem] Oper.semAt_some

theorem sumO_pass (p : Int × Int) (pre : List OSd) : -(pre.length : Int) ≤ sumO (passS p) pre ∧ sumO (passS p) pre ≤ pre.length := by
  have h := sum_bd (passS p) 1 (pre.map (·.1)) (fun s hs => pass_bd p s)
  rw [List.length_map, Int.one_mul] at h
  exact h
/-- does no side have the place? -/
def noneO (p : Int × Int) (pre : List OSd) : Prop := ∀ x ∈ pre, hasS p x.1 = false
theorem noneO_snoc {p : Int × Int} {pre : List OSd} {x : OSd} (h : noneO p pre) (hx : hasS p x.1 = false) : noneO p (pre ++ [x]) := fun y hy => by
  rcases List.mem_append.1 hy with hy | hy
  · exact h y hy
  · rw [List.mem_singleton.1 hy]; exact hx
theorem where_has {r : List Pt} (hr : onL r) {p : Int × Int} {k : Nat} (hk : k ≤ r.length) (h : ∃ x ∈ oUpto r k, hasS p x.1 = true) : whereP r p = 0 := by
  obtain ⟨x, hx, hh⟩ := h
  unfold whereP
  rw [if_pos (List.any_eq_true.2 ⟨x.1, oUpto_mem hr hk hx, hh⟩)]
theorem where_none {r : List Pt} (hr : onL r) {p : Int × Int} (h : noneO p (oSides r)) : whereP r p = if sumO (passS p) (oSides r) = 0 then -1 else 1 := by
  unfold whereP sumO
  rw [oSides_val hr, if_neg]
  intro k
  obtain ⟨s, hs, hh⟩ := List.any_eq_true.1 k
  rw [← oSides_val hr] at hs
  obtain ⟨x, hx, rfl⟩ := List.mem_map.1 hs
  rw [h x hx] at hh
  cases hh
/-- block B holds a place or a point -/
def PlAt (t : TypeId) (W : World) (B : Nat) (p : Int × Int) : Prop := W.heap[B]? = some (.cells #[.int .i64 p.1, .int .i64 p.2] t (0, 0))
theorem PlAt.lt {t : TypeId} {W : World} {B : Nat} {p : Int × Int} (h : PlAt t W B p) : B < W.heap.size := (Array.getElem?_eq_some_iff.1 h).1
theorem PlAt.new (t : TypeId) (W : World) (p : Int × Int) : PlAt t (W.alloc (.cells #[.int .i64 p.1, .int .i64 p.2] t)) W.heap.size p := World.alloc_heap_new W _
theorem PlAt.facts {t : TypeId} {W : World} {B : Nat} {p : Int × Int} (h : PlAt t W B p) : W.cell? ⟨B, 0, none⟩ = some (.int .i64 p.1) ∧ W.cell? ⟨B, 1, none⟩ = some (.int .i64 p.2) := by
  unfold PlAt at h
  simp [World.cell?, h]
theorem PlAt.kept {t : TypeId} {W W' : World} {row : Option Nat} {B : Nat} {p : Int × Int} (h : PlAt t W B p) (hg : W.grownBy W' row) (hne : some B ≠ row) : PlAt t W' B p := (hg.block B h.lt hne).trans h
theorem PlAt.alloc {t : TypeId} {W : World} {B : Nat} {p : Int × Int} (h : PlAt t W B p) (o : Obj) : PlAt t (W.alloc o) B p := h.kept (World.grownBy_alloc W o none) (by simp)
theorem PlAt.below {t : TypeId} {W W' : World} {N B : Nat} {p : Int × Int} (h : PlAt t W B p) (hb : Below N W W') (hlt : B < N) : PlAt t W' B p := (hb.block B hlt).trans h
theorem PlAt.set {t : TypeId} {W : World} {B B' : Nat} {p : Int × Int} (h : PlAt t W B p) (hne : B ≠ B') (v : Value) : PlAt t (W.setCell ⟨B', 0, none⟩ v) B p := h.kept (grownBy_setCell' W B' v) (fun e => hne (by cases e; rfl))
theorem pl_own {β : Type} (t : TypeId) (B : Nat) (f : β → Int × Int) : Own (fun s W => PlAt t W B (f s)) := fun s X Y row hs hg hrow =>
  hs.kept hg (fun e' => by obtain ⟨o, ho, hc⟩ := hrow B e'.symm; rw [show X.heap[B]? = _ from hs] at ho; cases ho; cases hc)
theorem keeps_below {W w : World} (h : Below W.heap.size W w) : KeepsOthers W w := ⟨h.size, fun k o hk _ => (h.block k (Array.getElem?_eq_some_iff.1 hk).1).trans hk⟩
theorem boxed_below {W W' : World} {N B : Nat} {t : TypeId} {v : Value} (h : Boxed W B t v) (hb : Below N W W') (hlt : B < N) : Boxed W' B t v := (hb.block B hlt).trans h

set_option maxRecDepth 100000 in
set_option maxHeartbeats 4000000 in
theorem where_any (v : Value) (r : List Pt) (hr : onL r) (hlen : 1 ≤ r.length ∧ r.length ≤ 1000) (px py : Int) (hp : onQ px py) (w : World) (hv : Ring w v r) :
    Calls Try.prog 57 #[v, .agg #[.int .i64 px, .int .i64 py]] w fun e w' => e = .returned (.int .i64 (whereP r (px, py))) ∧ Below w.heap.size w w' := by
  obtain ⟨b, off, cap, rfl, hbw, hcells⟩ := hv
  have HC := Lib.hid hcells
  clear hcells
  refine (callsIn_wide (n := 4)).1 ?_
  refine callsIn_of_wp_marks Try.func57 rfl trivial ?_ rfl
  simp only [Try.ntmps57, List.size_toArray, List.length_cons, List.length_nil, Nat.reduceAdd, Nat.reduceSub, Array.replicate_succ, Array.replicate_zero, List.push_toArray, List.append_toArray, List.nil_append, List.cons_append]
  gi_wp2_with (refine ⟨trivial, ?_⟩; gi_at_call 68; refine (callsIn_wide.2 (sides_any _ _ _ _)).mono ?_; rintro e w' ⟨rfl, rfl⟩)
  have bP := (((PlAt.new 72 w (px, py)).alloc (.cells #[.int .i64 0] 3)).alloc (.cells #[.int .i64 0] 3)).alloc (.cells #[.slice (some ⟨b, off, none⟩) r.length cap] 27)
  have bO := ((Boxed.new (w.alloc (.cells #[.int .i64 px, .int .i64 py] 72)) 3 (.int .i64 0)).alloc (.cells #[.int .i64 0] 3)).alloc (.cells #[.slice (some ⟨b, off, none⟩) r.length cap] 27)
  have bS := (Boxed.new ((w.alloc (.cells #[.int .i64 px, .int .i64 py] 72)).alloc (.cells #[.int .i64 0] 3)) 3 (.int .i64 0)).alloc (.cells #[.slice (some ⟨b, off, none⟩) r.length cap] 27)
  have bR := Boxed.new (((w.alloc (.cells #[.int .i64 px, .int .i64 py] 72)).alloc (.cells #[.int .i64 0] 3)).alloc (.cells #[.int .i64 0] 3)) 27 (.slice (some ⟨b, off, none⟩) r.length cap)
  simp only [World.size_alloc] at bO bS bR
  have hB0 : Below w.heap.size w ((((w.alloc (.cells #[.int .i64 px, .int .i64 py] 72)).alloc (.cells #[.int .i64 0] 3)).alloc (.cells #[.int .i64 0] 3)).alloc (.cells #[.slice (some ⟨b, off, none⟩) r.length cap] 27)) := ((((Below.refl _ w).alloc (Nat.le_refl _) _).alloc (by simp) _).alloc (by simp; omega) _).alloc (by simp; omega) _
  have hsz : ((((w.alloc (.cells #[.int .i64 px, .int .i64 py] 72)).alloc (.cells #[.int .i64 0] 3)).alloc (.cells #[.int .i64 0] 3)).alloc (.cells #[.slice (some ⟨b, off, none⟩) r.length cap] 27)).heap.size = w.heap.size + 4 := by simp
  obtain ⟨W0, hW0⟩ : ∃ W0, (((w.alloc (.cells #[.int .i64 px, .int .i64 py] 72)).alloc (.cells #[.int .i64 0] 3)).alloc (.cells #[.int .i64 0] 3)).alloc (.cells #[.slice (some ⟨b, off, none⟩) r.length cap] 27) = W0 := ⟨_, rfl⟩
  dsimp only at bP
  rw [hW0] at bP bO bS bR hB0 hsz ⊢
  clear hW0
  refine wpIn_rangeFunc_ownH rfl (by decide) (gf := 83) (lb := #[.pointer (some ⟨w.heap.size + 1 + 1 + 1, 0, none⟩)]) rfl trivial (enters_of Try.func83 (by kernel_rfl) rfl)
    (sides_stops 3 (by decide) (w.heap.size + 1 + 1 + 1) w.heap.size b off cap r hr hlen W0 (by omega) hbw hB0.size bR.cell (fun i hi => (HC.out i hi).below hB0 hbw)) (fun h k => h.trans k) (KpB.bk hB0.size (by omega)) (Below.refl _ _) (fun _ => rfl)
    (fun pre W => ((PlAt 72 W w.heap.size (px, py) ∧ Boxed W (w.heap.size + 1) 3 (.int .i64 0) ∧ Boxed W (w.heap.size + 1 + 1) 3 (.int .i64 (sumO (passS (px, py)) pre))) ∧ noneO (px, py) pre) ∧ Below w.heap.size W0 W)
    (fun c pre W => (Boxed W (w.heap.size + 1) 3 (.int .i64 0) ∧ (c = .ret ∧ ∃ x ∈ pre, hasS (px, py) x.1 = true)) ∧ Below w.heap.size W0 W)
    (OwnFrom.and (OwnFrom.and (OwnFrom.and (Own.from (pl_own _ _ _) _) (OwnFrom.and (Own.from (boxed_own _ _ _) _) (Own.from (boxed_own _ _ _) _))) (ownFrom_pure _ _)) (ownFrom_below hB0.size hB0.size))
    (fun c => OwnFrom.and (OwnFrom.and (Own.from (boxed_own _ _ _) _) (ownFrom_pure _ _)) (ownFrom_below hB0.size hB0.size))
    ⟨⟨⟨bP, bO, bS⟩, fun x hx => by cases hx⟩, Below.refl _ _⟩
    (fun x a' W => ∃ Bx, w.heap.size + 1 + 1 + 1 < Bx ∧ SdAt W Bx x.1 ∧ a' = { tmps := #[.slice (some ⟨b, off, none⟩) r.length cap, .agg #[.int .i64 px, .int .i64 py], undef, .pointer (some ⟨w.heap.size, 0, none⟩), .pointer (some ⟨w.heap.size + 1, 0, none⟩), .pointer (some ⟨w.heap.size + 1 + 1, 0, none⟩), .pointer (some ⟨Bx, 0, none⟩), .slice (some ⟨b, off, none⟩) r.length cap, .func (.func 83) #[] #[.pointer (some ⟨w.heap.size + 1 + 1 + 1, 0, none⟩)], .agg #[.int .i64 x.1.1.1, .int .i64 x.1.1.2, .int .i64 x.1.2.1, .int .i64 x.1.2.2],
        undef, undef, undef, undef, undef, undef, undef, undef, undef, undef], defers := [] })
    (fun x a' _ X Y row hs hg hr => by obtain ⟨Bx, h1, h2, h3⟩ := hs; exact ⟨Bx, h1, sd_own Bx (fun (_ : Unit) => x.1) () X Y row h2 hg (fun r e => (hr r e).2), h3⟩)
    ?assign ?body ?done ?stop
  case assign =>
    rintro l pre x W K ⟨⟨⟨bP1, bO1, bS1⟩, hno⟩, hB1⟩ hK
    gi_wp2
    have hz := hB1.size
    exact hK _ _ ((KeepsOthers.alloc _ _).from _) ((KpB.refl _ _ _).alloc (by omega) (by omega) _) ⟨⟨⟨bP1.alloc _, bO1.alloc _, bS1.alloc _⟩, hno⟩, hB1.alloc (by omega) _⟩ ⟨W.heap.size, by omega, SdAt.new W x.1, rfl⟩
  case body =>
    rintro l pre x a' W hl - ⟨⟨⟨bP1, bO1, bS1⟩, hno⟩, hB1⟩ ⟨Bx, hBx, bX, rfl⟩ hlt
    have hz := hB1.size
    obtain ⟨f0, f1, f2, f3⟩ := bX.facts
    obtain ⟨g0, g1⟩ := bP1.facts
    have HH := Lib.hid (fun w => phas_any x.1.1.1 x.1.1.2 x.1.2.1 x.1.2.2 px py x.2.1 x.2.2 hp w)
    have hlx := bX.lt
    have hlp := bP1.lt
    cases hh : hasS (px, py) x.1 with
    | true =>
      have hh' : hsB x.1.1.1 x.1.1.2 x.1.2.1 x.1.2.2 px py = true := hh
      rw [hh'] at HH
      gi_wp2
      refine ⟨trivial, (CallsIn.inRound l (callsIn_wide.2 (HH.out _))).mono ?_⟩
      rintro e w1 ⟨rfl, hb1⟩
      have q0 := boxed_below bO1 hb1 bO1.lt
      have qc := q0.cell
      have qf := q0.frozen
      gi_wp2
      exact ⟨((keeps_below hb1).trans (KeepsOthers.setCell _ _ _)).from _, ⟨q0.set _, rfl, x, by simp, hh⟩, (hB1.trans (hb1.mono (by omega))).setCell (p := ⟨w.heap.size + 1, 0, none⟩) (Nat.le_succ _) _⟩
    | false =>
      have hh' : hsB x.1.1.1 x.1.1.2 x.1.2.1 x.1.2.2 px py = false := hh
      rw [hh'] at HH
      have HP := Lib.hid (fun w => passes_way x.1.1.1 x.1.1.2 x.1.2.1 x.1.2.2 px py x.2.1 x.2.2 hp w)
      obtain ⟨s1, s2⟩ := sumO_pass (px, py) pre
      obtain ⟨t1, t2⟩ := pass_bd (px, py) x.1
      have hsum := sumO_snoc (passS (px, py)) pre x
      have hpv : paV x.1.1.1 x.1.1.2 x.1.2.1 x.1.2.2 px py = passS (px, py) x.1 := rfl
      rw [hpv] at HP
      clear hpv
      generalize passS (px, py) x.1 = V at *
      gi_wp2
      refine ⟨trivial, (CallsIn.inRound l (callsIn_wide.2 (HH.out _))).mono ?_⟩
      rintro e w1 ⟨rfl, hb1⟩
      have q0 := boxed_below bO1 hb1 bO1.lt
      have qS := boxed_below bS1 hb1 bS1.lt
      have qP := bP1.below hb1 hlp
      have qX := bX.below hb1 hlx
      have hb1s := hb1.size
      clear f0 f1 f2 f3 g0 g1 HH
      gi_wp2
      have hS : ∀ w' : World, Below w1.heap.size w1 w' → ((w'.cell? ⟨w.heap.size + 1 + 1, 0, none⟩ = some (.int .i64 (sumO (passS (px, py)) pre)) ∧ w'.frozen? ⟨w.heap.size + 1 + 1, 0, none⟩ = false) ∧ (w'.cell? ⟨Bx, 0, none⟩ = some (.int .i64 x.1.1.1) ∧ w'.cell? ⟨Bx, 1, none⟩ = some (.int .i64 x.1.1.2) ∧ w'.cell? ⟨Bx, 2, none⟩ = some (.int .i64 x.1.2.1) ∧ w'.cell? ⟨Bx, 3, none⟩ = some (.int .i64 x.1.2.2)) ∧ w'.cell? ⟨w.heap.size, 0, none⟩ = some (.int .i64 px) ∧ w'.cell? ⟨w.heap.size, 1, none⟩ = some (.int .i64 py)) := fun w' hb => ⟨⟨(boxed_below qS hb qS.lt).cell, (boxed_below qS hb qS.lt).frozen⟩, (qX.below hb qX.lt).facts, (qP.below hb qP.lt).facts⟩
      have hr := Below.refl w1.heap.size w1
      have hS0 := hS _ hr.drew
      have wv : IntKind.i64.wrap (sumO (passS (px, py)) pre + V) = sumO (passS (px, py)) pre + V := by rw [IntKind.wrap_i64]; omega
      refine Rl.start_round l _ 5 (fun w' => ((w'.cell? ⟨w.heap.size + 1 + 1, 0, none⟩ = some (.int .i64 (sumO (passS (px, py)) pre)) ∧ w'.frozen? ⟨w.heap.size + 1 + 1, 0, none⟩ = false) ∧ (w'.cell? ⟨Bx, 0, none⟩ = some (.int .i64 x.1.1.1) ∧ w'.cell? ⟨Bx, 1, none⟩ = some (.int .i64 x.1.1.2) ∧ w'.cell? ⟨Bx, 2, none⟩ = some (.int .i64 x.1.2.1) ∧ w'.cell? ⟨Bx, 3, none⟩ = some (.int .i64 x.1.2.2)) ∧ w'.cell? ⟨w.heap.size, 0, none⟩ = some (.int .i64 px) ∧ w'.cell? ⟨w.heap.size, 1, none⟩ = some (.int .i64 py))) (by kernel_rfl) (by kernel_rfl) (by rintro ⟨_, _, h⟩; exact h) ?_
      refine Rl.take_of (i := 0) (v := .int .i64 (sumO (passS (px, py)) pre)) rfl (by decide) (by kernel_rfl) (by kernel_rfl) (by kernel_rfl) (by kernel_rfl) (by kernel_rfl) (fun _ _ _ h => h) (Or.inl ⟨by rfl, ?_⟩) hS0 ?_
      · intro w' hSw; obtain ⟨⟨z1, z2⟩, ⟨z3, z4, z5, z6⟩, z7, z8⟩ := hSw; go_simp
      simp only [Act.put, List.setIfInBounds_toArray, List.set_cons_zero, List.set_cons_succ]
      refine Rl.take_of (i := 1) (v := .agg #[.int .i64 x.1.1.1, .int .i64 x.1.1.2, .int .i64 x.1.2.1, .int .i64 x.1.2.2]) rfl (by decide) (by kernel_rfl) (by kernel_rfl) (by kernel_rfl) (by kernel_rfl) (by kernel_rfl) (fun _ _ _ h => h) (Or.inl ⟨by rfl, ?_⟩) hS0 ?_
      · intro w' hSw; obtain ⟨⟨z1, z2⟩, ⟨z3, z4, z5, z6⟩, z7, z8⟩ := hSw; go_simp
      simp only [Act.put, List.setIfInBounds_toArray, List.set_cons_zero, List.set_cons_succ]
      refine Rl.take_of (i := 2) (v := .agg #[.int .i64 px, .int .i64 py]) rfl (by decide) (by kernel_rfl) (by kernel_rfl) (by kernel_rfl) (by kernel_rfl) (by kernel_rfl) (fun _ _ _ h => h) (Or.inl ⟨by rfl, ?_⟩) hS0 ?_
      · intro w' hSw; obtain ⟨⟨z1, z2⟩, ⟨z3, z4, z5, z6⟩, z7, z8⟩ := hSw; go_simp
      simp only [Act.put, List.setIfInBounds_toArray, List.set_cons_zero, List.set_cons_succ]
      refine Rl.one_of (i := 3) rfl (by kernel_rfl) (fun K hK => ?_)
      rw [if_pos (by rfl)]
      go_simp
      go_at_call 76
      refine (HP.out _).mono ?_
      rintro r w2 ⟨rfl, hb2'⟩
      have hb2 : Below w1.heap.size w1 w2 := hr.drew.trans hb2'
      refine hK.out _ _ (fun _ => hS _ hb2) ?_
      clear hK K
      try simp only [Act.put, List.setIfInBounds_toArray, List.set_cons_zero, List.set_cons_succ]
      refine Rl.take_of (i := 4) (v := .int .i64 (sumO (passS (px, py)) pre + V)) rfl (by decide) (by kernel_rfl) (by kernel_rfl) (by kernel_rfl) (by kernel_rfl) (by kernel_rfl) (fun _ _ _ h => h) (Or.inl ⟨by rfl, ?_⟩) (hS _ hb2) ?_
      · intro w' hSw; go_simp; (try exact wv)
      simp only [Act.put, List.setIfInBounds_toArray, List.set_cons_zero, List.set_cons_succ]
      obtain ⟨⟨z1, z2⟩, -, -⟩ := hS _ hb2
      refine Rl.one_of (i := 5) rfl (by kernel_rfl) (fun K hK => ?_)
      rw [if_pos (by rfl)]
      go_simp
      refine hK.out _ _ (fun h => Bool.noConfusion (show true = false from h)) ?_
      clear hK K
      try simp only [Act.put, List.setIfInBounds_toArray, List.set_cons_zero, List.set_cons_succ]
      refine Rl.done_of (by kernel_rfl) ?_ _
      have hb3 := hb1.trans (hb2.mono hb1s)
      have hs2 := hb3.size
      have bS2 := (boxed_below bS1 hb3 bS1.lt).set (.int .i64 (sumO (passS (px, py)) pre + V))
      rw [← hsum] at bS2 ⊢
      exact ⟨((keeps_below hb3).trans (KeepsOthers.setCell _ _ _)).from _, (KpB.of_below hb3 (by omega) (by omega)).trans (KpB.set (by omega) (by omega) (by omega) _), ⟨⟨(bP1.below hb3 hlp).set (by omega) _, (boxed_below bO1 hb3 bO1.lt).other (by omega) _, bS2⟩, noneO_snoc hno hh⟩, (hB1.trans (hb3.mono (by omega))).setCell (p := ⟨w.heap.size + 1 + 1, 0, none⟩) (show w.heap.size ≤ w.heap.size + 1 + 1 by omega) _⟩
  case done =>
    rintro D ys W hD rfl ⟨⟨⟨bP1, bO1, bS1⟩, hno⟩, hB1⟩ hK
    have hz := hB1.size
    have hc := bS1.cell
    have hf := bS1.frozen
    have oc := bO1.cell
    have of := bO1.frozen
    have hwh := Lib.hid (where_none hr hno)
    generalize sumO (passS (px, py)) (oSides r) = s at *
    by_cases h0 : s = 0
    · have e0 : (s == 0) = true := by simpa using h0
      rw [if_pos h0] at hwh
      clear h0
      gi_wp2
      have hK' := (KeepsOthers.setCell W ⟨w.heap.size + 1, 0, none⟩ (.int .i64 (-1))).same D _ hK rfl
      refine ⟨by simp, .inl ⟨_, _, rfl, run_takeDeferred hK', ?_⟩⟩
      have hc5 := cell_kept (bO1.set (.int .i64 (-1))).cell (grownBy_putObj' _ D (.deferred none)) (fun r e => by cases e; exact ⟨_, hK', rfl⟩)
      refine ⟨.int .i64 (-1), ?_, by rw [hwh.out], (hB0.trans (hB1.setCell (p := ⟨w.heap.size + 1, 0, none⟩) (Nat.le_succ _) _)).trans (belowK_b (w := w) (Nat.le_refl _) _ D _ _ (by omega) hK' rfl rfl)⟩
      simp [results, Try.f57, go_sem, hc5]
    · have e0 : (s == 0) = false := by simpa using h0
      rw [if_neg h0] at hwh
      clear h0
      gi_wp2
      have hK' := (KeepsOthers.setCell W ⟨w.heap.size + 1, 0, none⟩ (.int .i64 1)).same D _ hK rfl
      refine ⟨by simp, .inl ⟨_, _, rfl, run_takeDeferred hK', ?_⟩⟩
      have hc5 := cell_kept (bO1.set (.int .i64 1)).cell (grownBy_putObj' _ D (.deferred none)) (fun r e => by cases e; exact ⟨_, hK', rfl⟩)
      refine ⟨.int .i64 1, ?_, by rw [hwh.out], (hB0.trans (hB1.setCell (p := ⟨w.heap.size + 1, 0, none⟩) (Nat.le_succ _) _)).trans (belowK_b (w := w) (Nat.le_refl _) _ D _ _ (by omega) hK' rfl rfl)⟩
      simp [results, Try.f57, go_sem, hc5]
  case stop =>
    rintro D c pre W hD ⟨k, hk, rfl⟩ ⟨⟨bO1, rfl, hx⟩, hB1⟩ hK
    have hwh := Lib.hid (where_has hr hk hx)
    have oc := bO1.cell
    gi_wp2
    refine ⟨by simp, .inl ⟨_, _, rfl, run_takeDeferred hK, ?_⟩⟩
    have hc5 := cell_kept bO1.cell (grownBy_putObj' _ D (.deferred none)) (fun r e => by cases e; exact ⟨_, hK, rfl⟩)
    refine ⟨.int .i64 0, ?_, by rw [hwh.out], (hB0.trans hB1).trans (belowK_b (w := w) (Nat.le_refl _) W D _ _ (by omega) hK rfl rfl)⟩
    simp [results, Try.f57, go_sem, hc5]
end Go.Proofs.Ytohkmkkcblbemaa.Ge
