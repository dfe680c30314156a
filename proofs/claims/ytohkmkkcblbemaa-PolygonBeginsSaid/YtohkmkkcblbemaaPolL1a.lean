/- Walks of PolygonBegins: a ring that begins with another one of its points. -/
import Derived.Test.YtohkmkkcblbemaaPolH
import Derived.Test.YtohkmkkcblbemaaPolTurn
namespace Go.Proofs.Ytohkmkkcblbemaa.Ge
set_option linter.unusedVariables false
set_option linter.unusedSimpArgs false
open Go.RowKit
open Go.Proofs.Ytohkmkkcblbemaa.Fr (Two)

theorem ptEmpty (w : World) (B : Nat) (hB : B ≤ w.heap.size) : OwnPt (w.alloc (.cells #[] 23)) B (.slice (some ⟨w.heap.size, 0, none⟩) 0 0) [] :=
  World.ownsRow_lit w #[] 0 hB (Nat.zero_le _) rfl
/-- a part of a list -/
theorem cut_take {w : World} {b off cap k : Nat} {l : List Pt} (hb : b < w.heap.size) (hm : l.length ≤ cap ∧ cap ≤ maxLen) (h : ∀ i (h : i < l.length), Cells2 w b (off + i * 2) l[i]) (hk : k < l.length) : PtSl w (.slice (some ⟨b, off, none⟩) k cap) (l.take k) := by
  have hl : (l.take k).length = k := by rw [List.length_take]; omega
  by_cases h0 : k = 0
  · exact .inl ⟨List.eq_nil_of_length_eq_zero (by omega), _, cap, by rw [h0]⟩
  · refine .inr ⟨b, off, cap, by rw [hl], by omega, hb, ⟨by omega, hm.2⟩, fun i hi => ?_⟩
    rw [List.getElem_take]
    exact h i (by omega)
theorem cut_drop {w : World} {b off cap k : Nat} {l : List Pt} (hb : b < w.heap.size) (hm : l.length ≤ cap ∧ cap ≤ maxLen) (h : ∀ i (h : i < l.length), Cells2 w b (off + i * 2) l[i]) (hk : k < l.length) : PtSl w (.slice (some ⟨b, off + k * 2, none⟩) (l.length - k) (cap - k)) (l.drop k) := by
  have hl : (l.drop k).length = l.length - k := List.length_drop
  refine .inr ⟨b, off + k * 2, cap - k, by rw [hl], by omega, hb, ⟨by omega, by omega⟩, fun i hi => ?_⟩
  rw [List.getElem_drop, show off + k * 2 + i * 2 = off + (k + i) * 2 by omega]
  exact h (k + i) (by omega)
set_option maxRecDepth 100000 in
set_option maxHeartbeats 1000000 in
theorem turned_any (v : Value) (r : List Pt) (k : Nat) (hk : k < r.length) (hl : r.length ≤ 1000) (w : World) (hv : PtSl w v r) :
    Calls Try.prog 33 #[v, .int .i64 (k : Int)] w fun e w' => ∃ u, e = .returned u ∧ OwnPt w' w.heap.size u (rotL k r) ∧ Below w.heap.size w w' := by
  obtain ⟨b, off, cap, rfl, h0, hb, hm, hc⟩ := hv.some (by omega)
  have HT := Lib.hid (fun (w' : World) (h : Below w.heap.size w w') => (cut_take hb hm hc hk).below h)
  have HD := Lib.hid (fun (w' : World) (h : Below w.heap.size w w') => (cut_drop hb hm hc hk).below h)
  have HE := Lib.hid (fun w' : World => fun h : w.heap.size ≤ w'.heap.size => ptEmpty w' w.heap.size h)
  obtain ⟨m1, m2⟩ := hm
  clear hc hv
  unfold maxLen at m2
  have k1 : k ≤ r.length := by omega
  have k2 : ¬ cap = k := by omega
  have k3 : k ≤ cap := by omega
  have HU := Lib.hid (fun (w' : World) (h : Below w.heap.size w w') => (HT.out w' h))
  go_enter Try.func33, Try.ntmps33
  go_upto_region 1 with fail
  refine wp_region_held_drew (S := fun _ => True) (by kernel_rfl) trivial (fun _ => ?_)
  refine Ri.take_d (i := 1) (v := .slice (some ⟨b, off, none⟩) r.length cap) (some 6) rfl rfl (by kernel_rfl) (by kernel_rfl) (by kernel_rfl) (fun _ _ _ h => h) (Or.inl ⟨by kernel_rfl, ?_⟩) trivial ?_
  · intro w' hSw; go_simp
  simp only [Act.put, List.setIfInBounds_toArray, List.set_cons_zero, List.set_cons_succ]
  refine Ri.take_d (i := 2) (v := .int .i64 (k : Int)) (some 7) rfl rfl (by kernel_rfl) (by kernel_rfl) (by kernel_rfl) (fun _ _ _ h => h) (Or.inl ⟨by kernel_rfl, ?_⟩) trivial ?_
  · intro w' hSw; go_simp
  simp only [Act.put, List.setIfInBounds_toArray, List.set_cons_zero, List.set_cons_succ]
  refine Ri.take_d (i := 3) (v := .slice (some ⟨b, off + k * 2, none⟩) (r.length - k) (cap - k)) (some 8) rfl rfl (by kernel_rfl) (by kernel_rfl) (by kernel_rfl) (fun _ _ _ h => h) (Or.inl ⟨by kernel_rfl, ?_⟩) trivial ?_
  · intro w' hSw; go_simp
  simp only [Act.put, List.setIfInBounds_toArray, List.set_cons_zero, List.set_cons_succ]
  refine Ri.take_d (i := 5) (v := .slice (some ⟨b, off, none⟩) r.length cap) (some 10) rfl rfl (by kernel_rfl) (by kernel_rfl) (by kernel_rfl) (fun _ _ _ h => h) (Or.inl ⟨by kernel_rfl, ?_⟩) trivial ?_
  · intro w' hSw; go_simp
  simp only [Act.put, List.setIfInBounds_toArray, List.set_cons_zero, List.set_cons_succ]
  refine Ri.take_d (i := 6) (v := .int .i64 (k : Int)) (some 11) rfl rfl (by kernel_rfl) (by kernel_rfl) (by kernel_rfl) (fun _ _ _ h => h) (Or.inl ⟨by kernel_rfl, ?_⟩) trivial ?_
  · intro w' hSw; go_simp
  simp only [Act.put, List.setIfInBounds_toArray, List.set_cons_zero, List.set_cons_succ]
  refine Ri.take_d (i := 7) (v := .slice (some ⟨b, off, none⟩) k cap) (some 12) rfl rfl (by kernel_rfl) (by kernel_rfl) (by kernel_rfl) (fun _ _ _ h => h) (Or.inl ⟨by kernel_rfl, ?_⟩) trivial ?_
  · intro w' hSw; go_simp
  simp only [Act.put, List.setIfInBounds_toArray, List.set_cons_zero, List.set_cons_succ]
  refine wpAnyH_ready (rs := [0]) (by kernel_rfl) (by simp) ?_
  refine AllReadyH.cons rfl (fun K hK => ?_) AllReadyH.nil
  go_simp
  refine hK.out _ _ trivial (fun _ => ?_)
  clear hK K
  try simp only [Act.put, List.setIfInBounds_toArray, List.set_cons_zero, List.set_cons_succ]
  refine wpAnyH_ready (rs := [4]) (by kernel_rfl) (by simp) ?_
  refine AllReadyH.cons rfl (fun K hK => ?_) AllReadyH.nil
  have b1 := ((Below.refl w.heap.size w).alloc (Nat.le_refl _) (.cells #[] 23)).drew
  have o1 := ptEmpty w w.heap.size (Nat.le_refl _)
  refine step_append_pt _ rfl _ _ rfl w.heap.size _ _ [] (r.drop k) rfl rfl (o1.below (Below.refl _ _).drew) (HD.out _ b1) (by rw [List.length_nil, List.length_drop]; omega) (by have := b1.size; omega) ?_
  intro v1 w1 own1 grow1 at1
  rw [List.nil_append] at own1
  have b2 : Below w.heap.size w w1 := b1.grown grow1 b1.size (fun k hk => by cases hk; exact Nat.le_refl _)
  clear b1 o1 grow1 at1
  obtain ⟨a1, c1, e1⟩ := own1.form
  subst e1
  rw [List.length_drop] at own1
  go_simp
  refine hK.out _ _ trivial (fun _ => ?_)
  clear hK K
  try simp only [Act.put, List.setIfInBounds_toArray, List.set_cons_zero, List.set_cons_succ]
  refine wpAnyH_ready (rs := [8]) (by kernel_rfl) (by simp) ?_
  refine AllReadyH.cons rfl (fun K hK => ?_) AllReadyH.nil
  have hown := own1.lt
  refine step_append_pt _ rfl _ _ rfl w.heap.size _ _ (r.drop k) (r.take k) rfl rfl own1 (HT.out _ b2) (by rw [List.length_take, List.length_drop]; omega) b2.size ?_
  intro v2 w2 own2 grow2 at2
  have b3 : Below w.heap.size w w2 := b2.grown grow2 b2.size hown
  clear hown grow2 at2 own1 b2
  obtain ⟨a2, c2, e2⟩ := own2.form
  subst e2
  rw [show (r.drop k ++ r.take k).length = r.length from rot_len k r] at own2
  go_simp
  refine hK.out _ _ trivial (fun _ => ?_)
  clear hK K
  try simp only [Act.put, List.setIfInBounds_toArray, List.set_cons_zero, List.set_cons_succ]
  refine wpAnyH_ready (rs := [9]) (by kernel_rfl) (by simp) ?_
  refine AllReadyH.cons rfl (fun K hK => ?_) AllReadyH.nil
  go_simp
  refine hK.out _ _ trivial (fun _ => ?_)
  clear hK K
  try simp only [Act.put, List.setIfInBounds_toArray, List.set_cons_zero, List.set_cons_succ]
  refine wpAnyH_done (by kernel_rfl) ?_ _
  have HO := Lib.hid own2
  clear own2
  go_wp2_with fail
  go_ret
  exact ⟨_, rfl, HO.out, b3⟩
end Go.Proofs.Ytohkmkkcblbemaa.Ge
