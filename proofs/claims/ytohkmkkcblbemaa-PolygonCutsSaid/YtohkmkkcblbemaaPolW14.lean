/- Walks over package polygon: does a part of a ring's boundary lie where it is asked for? -/
import Derived.Test.YtohkmkkcblbemaaPolW13
namespace Go.Proofs.Ytohkmkkcblbemaa.Ge
set_option linter.unusedVariables false
set_option linter.unusedSimpArgs false
open Go.RowKit Go.Shelf
open Go.Proofs.Ytohkmkkcblbemaa.Fr (Two)
open Go.Proofs.Ytohkmkkcblbemaa.Rb (KB Shuts SeqB endB)
attribute [local go_sem] Oper.semAt_some

def noneR (rb : List Pt) (th : Int) (pre : List OPl) : Prop := ∀ x ∈ pre, whereP rb x.1 ≠ th
theorem mids_mem {ra rb : List Pt} (ha : onL ra) (hb : onL rb) {x : OPl} (h : x ∈ oMidsU rb (oSides ra)) : x.1 ∈ midsL ra rb := by
  have e := oMidsU_val hb (oSides ra)
  rw [oSides_val ha] at e
  show x.1 ∈ (sidesL ra).flatMap (midsS rb)
  rw [← e]
  exact List.mem_map.2 ⟨x, h, rfl⟩
theorem reaches_yes {ra rb : List Pt} (ha : onL ra) (hb : onL rb) {th : Int} {pre : List OPl} (hp : ∀ x ∈ pre, x ∈ oMidsU rb (oSides ra)) (h : ∃ x ∈ pre, whereP rb x.1 = th) : reachesB ra rb th = true := by
  obtain ⟨x, hx, e⟩ := h
  unfold reachesB
  exact List.any_eq_true.2 ⟨x.1, mids_mem ha hb (hp x hx), by rw [e]; simp⟩
theorem reaches_no {ra rb : List Pt} (ha : onL ra) (hb : onL rb) {th : Int} (h : noneR rb th (oMidsU rb (oSides ra))) : reachesB ra rb th = false := by
  rw [Bool.eq_false_iff]
  intro k
  unfold reachesB at k
  obtain ⟨p, hp, k⟩ := List.any_eq_true.1 k
  have e := oMidsU_val hb (oSides ra)
  rw [oSides_val ha] at e
  have hp : p ∈ (sidesL ra).flatMap (midsS rb) := hp
  rw [← e] at hp
  obtain ⟨x, hx, rfl⟩ := List.mem_map.1 hp
  exact h x hx (by simpa using k)

set_option maxRecDepth 100000 in
set_option maxHeartbeats 8000000 in
theorem reaches_any (va vb : Value) (ra rb : List Pt) (th : Int) (ha : onL ra) (hb : onL rb) (hla : 1 ≤ ra.length ∧ ra.length ≤ 1000) (hlb : 1 ≤ rb.length ∧ rb.length ≤ 1000) (w : World) (hva : Ring w va ra) (hvb : Ring w vb rb) :
    Calls Try.prog 63 #[va, vb, .int .i64 th] w fun e w' => e = .returned (.bool (reachesB ra rb th)) ∧ Below w.heap.size w w' := by
  have HRB := Lib.hid hvb
  obtain ⟨ba, oa, ca, rfl, hba, hca⟩ := hva
  obtain ⟨bb, ob, cb, rfl, hbb, hcb⟩ := hvb
  have HCA := Lib.hid (fun (w' : World) (h : Below w.heap.size w w') i (hi : i < ra.length) => (hca i hi).below h hba)
  have HCB := Lib.hid (fun (w' : World) (h : Below w.heap.size w w') i (hi : i < rb.length) => (hcb i hi).below h hbb)
  clear hca hcb
  refine (callsIn_wide (n := 10)).1 ?_
  refine callsIn_of_wp_marks Try.func63 rfl trivial ?_ rfl
  simp only [Try.ntmps63, List.size_toArray, List.length_cons, List.length_nil, Nat.reduceAdd, Nat.reduceSub, Array.replicate_succ, Array.replicate_zero, List.push_toArray, List.append_toArray, List.nil_append, List.cons_append]
  gi_wp2_with (refine ⟨trivial, ?_⟩; gi_at_call 77; refine (callsIn_wide.2 (middles_any _ _ _ _ _ _ _)).mono ?_; rintro e w' ⟨rfl, rfl⟩)
  have b1 := ((((Boxed.new w 27 (.slice (some ⟨bb, ob, none⟩) rb.length cb)).alloc (.cells #[.int .i64 th] 3)).alloc (.cells #[.bool false] 4)).alloc (.cells #[.slice (some ⟨ba, oa, none⟩) ra.length ca] 27)).alloc (.cells #[.slice (some ⟨bb, ob, none⟩) rb.length cb] 27)
  have b2 := (((Boxed.new (w.alloc (.cells #[.slice (some ⟨bb, ob, none⟩) rb.length cb] 27)) 3 (.int .i64 th)).alloc (.cells #[.bool false] 4)).alloc (.cells #[.slice (some ⟨ba, oa, none⟩) ra.length ca] 27)).alloc (.cells #[.slice (some ⟨bb, ob, none⟩) rb.length cb] 27)
  have b3 := ((Boxed.new ((w.alloc (.cells #[.slice (some ⟨bb, ob, none⟩) rb.length cb] 27)).alloc (.cells #[.int .i64 th] 3)) 4 (.bool false)).alloc (.cells #[.slice (some ⟨ba, oa, none⟩) ra.length ca] 27)).alloc (.cells #[.slice (some ⟨bb, ob, none⟩) rb.length cb] 27)
  have b4 := (Boxed.new (((w.alloc (.cells #[.slice (some ⟨bb, ob, none⟩) rb.length cb] 27)).alloc (.cells #[.int .i64 th] 3)).alloc (.cells #[.bool false] 4)) 27 (.slice (some ⟨ba, oa, none⟩) ra.length ca)).alloc (.cells #[.slice (some ⟨bb, ob, none⟩) rb.length cb] 27)
  have b5 := Boxed.new ((((w.alloc (.cells #[.slice (some ⟨bb, ob, none⟩) rb.length cb] 27)).alloc (.cells #[.int .i64 th] 3)).alloc (.cells #[.bool false] 4)).alloc (.cells #[.slice (some ⟨ba, oa, none⟩) ra.length ca] 27)) 27 (.slice (some ⟨bb, ob, none⟩) rb.length cb)
  simp only [World.size_alloc] at b2 b3 b4 b5
  have hB0 : Below w.heap.size w (((((w.alloc (.cells #[.slice (some ⟨bb, ob, none⟩) rb.length cb] 27)).alloc (.cells #[.int .i64 th] 3)).alloc (.cells #[.bool false] 4)).alloc (.cells #[.slice (some ⟨ba, oa, none⟩) ra.length ca] 27)).alloc (.cells #[.slice (some ⟨bb, ob, none⟩) rb.length cb] 27)) := (((((Below.refl _ w).alloc (Nat.le_refl _) _).alloc (by simp) _).alloc (by simp; omega) _).alloc (by simp; omega) _).alloc (by simp; omega) _
  have hsz : (((((w.alloc (.cells #[.slice (some ⟨bb, ob, none⟩) rb.length cb] 27)).alloc (.cells #[.int .i64 th] 3)).alloc (.cells #[.bool false] 4)).alloc (.cells #[.slice (some ⟨ba, oa, none⟩) ra.length ca] 27)).alloc (.cells #[.slice (some ⟨bb, ob, none⟩) rb.length cb] 27)).heap.size = w.heap.size + 5 := by simp
  obtain ⟨W0, hW0⟩ : ∃ W0, ((((w.alloc (.cells #[.slice (some ⟨bb, ob, none⟩) rb.length cb] 27)).alloc (.cells #[.int .i64 th] 3)).alloc (.cells #[.bool false] 4)).alloc (.cells #[.slice (some ⟨ba, oa, none⟩) ra.length ca] 27)).alloc (.cells #[.slice (some ⟨bb, ob, none⟩) rb.length cb] 27) = W0 := ⟨_, rfl⟩
  try simp only [World.size_alloc]
  rw [hW0] at b1 b2 b3 b4 b5 hB0 hsz ⊢
  clear hW0
  have shutI : Shuts W0.heap.size (fun (pre : List OPl) W => ((Boxed W w.heap.size 27 (.slice (some ⟨bb, ob, none⟩) rb.length cb) ∧ Boxed W (w.heap.size + 1) 3 (.int .i64 th) ∧ Boxed W (w.heap.size + 1 + 1) 4 (.bool false)) ∧ noneR rb th pre) ∧ Below w.heap.size W0 W) := fun s X Y h hb =>
    ⟨⟨⟨boxed_below h.1.1.1 hb (by omega), boxed_below h.1.1.2.1 hb (by omega), boxed_below h.1.1.2.2 hb (by omega)⟩, h.1.2⟩, h.2.trans (hb.mono (by omega))⟩
  have shutX : Shuts W0.heap.size (fun (pre : List OPl) W => (Boxed W (w.heap.size + 1 + 1) 4 (.bool true) ∧ ∃ x ∈ pre, whereP rb x.1 = th) ∧ Below w.heap.size W0 W) := fun s X Y h hb =>
    ⟨⟨boxed_below h.1.1 hb (by omega), h.1.2⟩, h.2.trans (hb.mono (by omega))⟩
  refine Rb.range_B (gf := 86) (lb := #[.pointer (some ⟨w.heap.size + 1 + 1 + 1, 0, none⟩), .pointer (some ⟨w.heap.size + 1 + 1 + 1 + 1, 0, none⟩)]) rfl (enters_of Try.func86 (by kernel_rfl) rfl)
    (R := w.heap.size + 1 + 1) (n₀ := w.heap.size) (by omega) hB0.size (mids_seq (w.heap.size + 1 + 1 + 1) (w.heap.size + 1 + 1 + 1 + 1) w.heap.size (w.heap.size + 1 + 1) ba oa ca bb ob cb ra rb ha hb hla hlb W0 (by omega) (by omega) (by omega) (by omega) (by omega) hba hbb hB0.size b4.cell b5.cell (HCA.out _ hB0) (HCB.out _ hB0)) (fun _ => rfl)
    (fun pre W => ((Boxed W w.heap.size 27 (.slice (some ⟨bb, ob, none⟩) rb.length cb) ∧ Boxed W (w.heap.size + 1) 3 (.int .i64 th) ∧ Boxed W (w.heap.size + 1 + 1) 4 (.bool false)) ∧ noneR rb th pre) ∧ Below w.heap.size W0 W)
    (fun pre W => (Boxed W (w.heap.size + 1 + 1) 4 (.bool true) ∧ ∃ x ∈ pre, whereP rb x.1 = th) ∧ Below w.heap.size W0 W)
    shutI shutX ⟨⟨⟨b1, b2, b3⟩, fun x hx => by cases hx⟩, Below.refl _ _⟩
    (fun x a' W => ∃ Bx, W0.heap.size ≤ Bx ∧ PlAt 72 W Bx x.1 ∧ a' = { tmps := #[.slice (some ⟨ba, oa, none⟩) ra.length ca, .slice (some ⟨bb, ob, none⟩) rb.length cb, .int .i64 th, undef, .pointer (some ⟨w.heap.size, 0, none⟩), .pointer (some ⟨w.heap.size + 1, 0, none⟩), .pointer (some ⟨w.heap.size + 1 + 1, 0, none⟩), .pointer (some ⟨Bx, 0, none⟩), .slice (some ⟨ba, oa, none⟩) ra.length ca, .slice (some ⟨bb, ob, none⟩) rb.length cb, .func (.func 86) #[] #[.pointer (some ⟨w.heap.size + 1 + 1 + 1, 0, none⟩), .pointer (some ⟨w.heap.size + 1 + 1 + 1 + 1, 0, none⟩)], .agg #[.int .i64 x.1.1, .int .i64 x.1.2], undef, undef, undef, undef, undef], defers := [] })
    (fun x a' W l o o' h ho hc => by
      obtain ⟨Bx, h1, h2, h3⟩ := h
      refine ⟨Bx, h1, (World.putObj_heap_other (fun e => ?_)).trans h2, h3⟩
      rw [← e, show W.heap[Bx]? = _ from h2] at ho
      cases ho
      cases hc)
    ?assign ?body ?done ?stop
  case assign =>
    rintro l pre x W K hz ⟨⟨⟨b1, b2, b3⟩, hno⟩, hB1⟩ hK
    gi_wp2
    have hbz := (Below.refl W.heap.size W).alloc (Nat.le_refl _) (.cells #[.int .i64 x.1.1, .int .i64 x.1.2] 72)
    exact hK _ _ hbz ⟨⟨⟨b1.alloc _, b2.alloc _, b3.alloc _⟩, hno⟩, hB1.trans (hbz.mono (by omega))⟩ ⟨W.heap.size, hz, PlAt.new 72 W x.1, rfl⟩
  case body =>
    rintro l pre x a' W hl hz ⟨⟨⟨b1, b2, b3⟩, hno⟩, hB1⟩ ⟨Bx, hBx, bX, rfl⟩
    have hwW := hB0.trans hB1
    have hlx := bX.lt
    have HW := Lib.hid (fun (w' : World) (h : Below W.heap.size W w') => where_any _ rb hb hlb x.1.1 x.1.2 x.2 w' (HRB.out.below (hwW.trans (h.mono (by omega)))))
    have hwp : whereP rb (x.1.1, x.1.2) = whereP rb x.1 := rfl
    rw [hwp] at HW
    clear hwp
    by_cases hq : whereP rb x.1 = th
    · have e1 : (whereP rb x.1 == th) = true := by simpa using hq
      have HQ := Lib.hid hq
      clear hq
      gi_wp2
      have hS : ∀ w' : World, Below W.heap.size W w' → (w'.cell? ⟨w.heap.size, 0, none⟩ = some (.slice (some ⟨bb, ob, none⟩) rb.length cb) ∧ (w'.cell? ⟨Bx, 0, none⟩ = some (.int .i64 x.1.1) ∧ w'.cell? ⟨Bx, 1, none⟩ = some (.int .i64 x.1.2)) ∧ w'.cell? ⟨w.heap.size + 1, 0, none⟩ = some (.int .i64 th)) := fun w' hb => ⟨(boxed_below b1 hb b1.lt).cell, (bX.below hb bX.lt).facts, (boxed_below b2 hb b2.lt).cell⟩
      have hr := Below.refl W.heap.size W
      have hS0 := hS _ hr.drew
      refine Rl.region_round l _ (by kernel_rfl) (by kernel_rfl) (by rintro ⟨_, _, h⟩; exact h) (fun w' => (w'.cell? ⟨w.heap.size, 0, none⟩ = some (.slice (some ⟨bb, ob, none⟩) rb.length cb) ∧ (w'.cell? ⟨Bx, 0, none⟩ = some (.int .i64 x.1.1) ∧ w'.cell? ⟨Bx, 1, none⟩ = some (.int .i64 x.1.2)) ∧ w'.cell? ⟨w.heap.size + 1, 0, none⟩ = some (.int .i64 th))) hS0 (fun _ => ?_)
      refine Ri.take_d (i := 0) (v := .slice (some ⟨bb, ob, none⟩) rb.length cb) (some 12) rfl rfl (by kernel_rfl) (by kernel_rfl) (by kernel_rfl) (fun _ _ _ h => h) (Or.inl ⟨by kernel_rfl, ?_⟩) hS0 ?_
      · intro w' hSw; obtain ⟨z0, ⟨z1, z2⟩, z3⟩ := hSw; go_simp
      simp only [Act.put, List.setIfInBounds_toArray, List.set_cons_zero, List.set_cons_succ]
      refine Ri.take_d (i := 1) (v := .agg #[.int .i64 x.1.1, .int .i64 x.1.2]) (some 13) rfl rfl (by kernel_rfl) (by kernel_rfl) (by kernel_rfl) (fun _ _ _ h => h) (Or.inl ⟨by kernel_rfl, ?_⟩) hS0 ?_
      · intro w' hSw; obtain ⟨z0, ⟨z1, z2⟩, z3⟩ := hSw; go_simp
      simp only [Act.put, List.setIfInBounds_toArray, List.set_cons_zero, List.set_cons_succ]
      refine Ri.take_d (i := 3) (v := .int .i64 th) (some 15) rfl rfl (by kernel_rfl) (by kernel_rfl) (by kernel_rfl) (fun _ _ _ h => h) (Or.inl ⟨by kernel_rfl, ?_⟩) hS0 ?_
      · intro w' hSw; obtain ⟨z0, ⟨z1, z2⟩, z3⟩ := hSw; go_simp
      simp only [Act.put, List.setIfInBounds_toArray, List.set_cons_zero, List.set_cons_succ]
      refine wpAnyH_ready (rs := [2]) (by kernel_rfl) (by simp) ?_
      refine AllReadyH.cons rfl (fun K hK => ?_) AllReadyH.nil
      rw [if_pos (by rfl)]
      go_simp
      go_at_call 57
      refine (HW.out _ hr.drew).mono ?_
      rintro e w2 ⟨rfl, hb2'⟩
      have hb2 : Below W.heap.size W w2 := hr.drew.trans (hb2'.mono hr.drew.size)
      refine hK.out _ _ (hS _ hb2) (fun _ => ?_)
      clear hK K
      try simp only [Act.put, List.setIfInBounds_toArray, List.set_cons_zero, List.set_cons_succ]
      refine wpAnyH_ready (rs := [4]) (by kernel_rfl) (by simp) ?_
      refine AllReadyH.cons rfl (fun K hK => ?_) AllReadyH.nil
      go_simp
      refine hK.out _ _ (hS _ hb2) (fun _ => ?_)
      clear hK K
      try simp only [Act.put, List.setIfInBounds_toArray, List.set_cons_zero, List.set_cons_succ]
      refine wpAnyH_done (by kernel_rfl) ?_ _
      have hz2 := hb2.size
      have q3 := boxed_below b3 hb2 b3.lt
      have qc := q3.cell
      have qf := q3.frozen
      gi_wp2
      exact ⟨⟨(hb2.mono (by omega)).setCell (p := ⟨w.heap.size + 1 + 1, 0, none⟩) (show w.heap.size ≤ w.heap.size + 1 + 1 by omega) _, fun k hk hlt => ((grownBy_setCell' w2 (w.heap.size + 1 + 1) (.bool true)).block k (by omega) (fun e => hk (by cases e; rfl))).trans (hb2.block k hlt)⟩, ⟨q3.set _, x, by simp, HQ.out⟩, (hB1.trans (hb2.mono (by omega))).setCell (p := ⟨w.heap.size + 1 + 1, 0, none⟩) (show w.heap.size ≤ w.heap.size + 1 + 1 by omega) _⟩
    · have e1 : (whereP rb x.1 == th) = false := by simpa using hq
      have HQ := Lib.hid hq
      clear hq
      gi_wp2
      have hS : ∀ w' : World, Below W.heap.size W w' → (w'.cell? ⟨w.heap.size, 0, none⟩ = some (.slice (some ⟨bb, ob, none⟩) rb.length cb) ∧ (w'.cell? ⟨Bx, 0, none⟩ = some (.int .i64 x.1.1) ∧ w'.cell? ⟨Bx, 1, none⟩ = some (.int .i64 x.1.2)) ∧ w'.cell? ⟨w.heap.size + 1, 0, none⟩ = some (.int .i64 th)) := fun w' hb => ⟨(boxed_below b1 hb b1.lt).cell, (bX.below hb bX.lt).facts, (boxed_below b2 hb b2.lt).cell⟩
      have hr := Below.refl W.heap.size W
      have hS0 := hS _ hr.drew
      refine Rl.region_round l _ (by kernel_rfl) (by kernel_rfl) (by rintro ⟨_, _, h⟩; exact h) (fun w' => (w'.cell? ⟨w.heap.size, 0, none⟩ = some (.slice (some ⟨bb, ob, none⟩) rb.length cb) ∧ (w'.cell? ⟨Bx, 0, none⟩ = some (.int .i64 x.1.1) ∧ w'.cell? ⟨Bx, 1, none⟩ = some (.int .i64 x.1.2)) ∧ w'.cell? ⟨w.heap.size + 1, 0, none⟩ = some (.int .i64 th))) hS0 (fun _ => ?_)
      refine Ri.take_d (i := 0) (v := .slice (some ⟨bb, ob, none⟩) rb.length cb) (some 12) rfl rfl (by kernel_rfl) (by kernel_rfl) (by kernel_rfl) (fun _ _ _ h => h) (Or.inl ⟨by kernel_rfl, ?_⟩) hS0 ?_
      · intro w' hSw; obtain ⟨z0, ⟨z1, z2⟩, z3⟩ := hSw; go_simp
      simp only [Act.put, List.setIfInBounds_toArray, List.set_cons_zero, List.set_cons_succ]
      refine Ri.take_d (i := 1) (v := .agg #[.int .i64 x.1.1, .int .i64 x.1.2]) (some 13) rfl rfl (by kernel_rfl) (by kernel_rfl) (by kernel_rfl) (fun _ _ _ h => h) (Or.inl ⟨by kernel_rfl, ?_⟩) hS0 ?_
      · intro w' hSw; obtain ⟨z0, ⟨z1, z2⟩, z3⟩ := hSw; go_simp
      simp only [Act.put, List.setIfInBounds_toArray, List.set_cons_zero, List.set_cons_succ]
      refine Ri.take_d (i := 3) (v := .int .i64 th) (some 15) rfl rfl (by kernel_rfl) (by kernel_rfl) (by kernel_rfl) (fun _ _ _ h => h) (Or.inl ⟨by kernel_rfl, ?_⟩) hS0 ?_
      · intro w' hSw; obtain ⟨z0, ⟨z1, z2⟩, z3⟩ := hSw; go_simp
      simp only [Act.put, List.setIfInBounds_toArray, List.set_cons_zero, List.set_cons_succ]
      refine wpAnyH_ready (rs := [2]) (by kernel_rfl) (by simp) ?_
      refine AllReadyH.cons rfl (fun K hK => ?_) AllReadyH.nil
      rw [if_pos (by rfl)]
      go_simp
      go_at_call 57
      refine (HW.out _ hr.drew).mono ?_
      rintro e w2 ⟨rfl, hb2'⟩
      have hb2 : Below W.heap.size W w2 := hr.drew.trans (hb2'.mono hr.drew.size)
      refine hK.out _ _ (hS _ hb2) (fun _ => ?_)
      clear hK K
      try simp only [Act.put, List.setIfInBounds_toArray, List.set_cons_zero, List.set_cons_succ]
      refine wpAnyH_ready (rs := [4]) (by kernel_rfl) (by simp) ?_
      refine AllReadyH.cons rfl (fun K hK => ?_) AllReadyH.nil
      go_simp
      refine hK.out _ _ (hS _ hb2) (fun _ => ?_)
      clear hK K
      try simp only [Act.put, List.setIfInBounds_toArray, List.set_cons_zero, List.set_cons_succ]
      refine wpAnyH_done (by kernel_rfl) ?_ _
      have hz2 := hb2.size
      gi_wp2
      exact ⟨⟨hb2.mono (by omega), fun k _ hlt => hb2.block k hlt⟩, ⟨⟨boxed_below b1 hb2 b1.lt, boxed_below b2 hb2 b2.lt, boxed_below b3 hb2 b3.lt⟩, fun z hz => (List.mem_append.1 hz).elim (hno z) (fun e => by rw [List.mem_singleton.1 e]; exact HQ.out)⟩, hB1.trans (hb2.mono (by omega))⟩
  case done =>
    rintro D zs W hD rfl ⟨⟨⟨b1, b2, b3⟩, hno⟩, hB1⟩ hK
    have cR := b3.cell
    have fR := b3.frozen
    have hX := Lib.hid (reaches_no ha hb hno)
    gi_wp2
    have hK' := (KeepsOthers.setCell W ⟨w.heap.size + 1 + 1, 0, none⟩ (.bool false)).same D _ hK rfl
    refine ⟨by simp, .inl ⟨_, _, rfl, run_takeDeferred hK', ?_⟩⟩
    have hc5 := cell_kept (b3.set (.bool false)).cell (grownBy_putObj' _ D (.deferred none)) (fun r e => by cases e; exact ⟨_, hK', rfl⟩)
    refine ⟨.bool false, ?_, by rw [hX.out], (hB0.trans (hB1.setCell (p := ⟨w.heap.size + 1 + 1, 0, none⟩) (show w.heap.size ≤ w.heap.size + 1 + 1 by omega) _)).trans (belowK_b (w := w) (Nat.le_refl _) _ D _ _ (by omega) hK' rfl rfl)⟩
    simp [results, Try.f63, go_sem, hc5]
  case stop =>
    rintro D pre W hD hp ⟨⟨b3, hx⟩, hB1⟩ hK
    have hX := Lib.hid (reaches_yes ha hb hp hx)
    gi_wp2
    refine ⟨by simp, .inl ⟨_, _, rfl, run_takeDeferred hK, ?_⟩⟩
    have hc5 := cell_kept b3.cell (grownBy_putObj' _ D (.deferred none)) (fun r e => by cases e; exact ⟨_, hK, rfl⟩)
    refine ⟨.bool true, ?_, by rw [hX.out], (hB0.trans hB1).trans (belowK_b (w := w) (Nat.le_refl _) W D _ _ (by omega) hK rfl rfl)⟩
    simp [results, Try.f63, go_sem, hc5]
end Go.Proofs.Ytohkmkkcblbemaa.Ge
