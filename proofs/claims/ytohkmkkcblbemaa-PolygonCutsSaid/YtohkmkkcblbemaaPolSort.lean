/- Points of one side by their distances from its beginning: the order is settled. -/
import Derived.Test.YtohkmkkcblbemaaPolMath
import Derived.Test.YtohkmkkcblbemaaGeoLaw
namespace Go.Proofs.Ytohkmkkcblbemaa.Ge
set_option linter.unusedVariables false
set_option linter.unusedSimpArgs false

/-! ### a list that is sorted is settled, where the key settles the element -/
theorem putD_perm (o p : Int × Int) : ∀ l, (putD o p l).Perm (p :: l)
  | [] => List.Perm.refl _
  | q :: l => by
    unfold putD
    split
    · exact List.Perm.refl _
    · exact ((putD_perm o p l).cons q).trans (List.Perm.swap p q l)
theorem putD_sorted (o p : Int × Int) : ∀ l, l.Pairwise (fun x y => distP o x ≤ distP o y) → (putD o p l).Pairwise (fun x y => distP o x ≤ distP o y)
  | [], _ => by simp [putD]
  | q :: l, h => by
    unfold putD
    obtain ⟨h1, h2⟩ := List.pairwise_cons.1 h
    split
    · next hle =>
      refine List.pairwise_cons.2 ⟨fun y hy => ?_, h⟩
      rcases List.mem_cons.1 hy with rfl | hy
      · exact hle
      · exact Int.le_trans hle (h1 y hy)
    · next hlt =>
      refine List.pairwise_cons.2 ⟨fun y hy => ?_, putD_sorted o p l h2⟩
      rcases List.mem_cons.1 ((putD_perm o p l).mem_iff.1 hy) with rfl | hy
      · omega
      · exact h1 y hy
theorem sortD_perm (o : Int × Int) : ∀ l, (sortD o l).Perm l
  | [] => List.Perm.refl _
  | p :: l => (putD_perm o p (sortD o l)).trans ((sortD_perm o l).cons p)
theorem sortD_sorted (o : Int × Int) : ∀ l, (sortD o l).Pairwise (fun x y => distP o x ≤ distP o y)
  | [] => List.Pairwise.nil
  | p :: l => putD_sorted o p _ (sortD_sorted o l)
theorem sorted_unique {key : Int × Int → Int} : ∀ (l m : List (Int × Int)), l.Perm m → l.Pairwise (fun x y => key x ≤ key y) → m.Pairwise (fun x y => key x ≤ key y) → (∀ x ∈ l, ∀ y ∈ l, key x = key y → x = y) → l = m
  | [], m, hp, _, _, _ => (List.nil_perm.1 hp).symm
  | x :: l, [], hp, _, _, _ => by have := hp.length_eq; simp at this
  | x :: l, y :: m, hp, hl, hm, hk => by
    obtain ⟨l1, l2⟩ := List.pairwise_cons.1 hl
    obtain ⟨m1, m2⟩ := List.pairwise_cons.1 hm
    have hx : x ∈ y :: m := hp.mem_iff.1 (List.mem_cons_self ..)
    have hy : y ∈ x :: l := hp.mem_iff.2 (List.mem_cons_self ..)
    have e : x = y := by
      refine hk x (List.mem_cons_self ..) y hy ?_
      have h1 : key x ≤ key y := by
        rcases List.mem_cons.1 hy with rfl | h
        · exact Int.le_refl _
        · exact l1 y h
      have h2 : key y ≤ key x := by
        rcases List.mem_cons.1 hx with rfl | h
        · exact Int.le_refl _
        · exact m1 x h
      omega
    subst e
    rw [sorted_unique l m (List.Perm.cons_inv hp) l2 m2 (fun a ha b hb => hk a (List.mem_cons_of_mem _ ha) b (List.mem_cons_of_mem _ hb))]

/-! ### points of a segment at one distance are equal -/
theorem same_ray {ux uy px py qx qy : Int} (h1 : ux * py - uy * px = 0) (h2 : ux * qy - uy * qx = 0) (hp : 0 ≤ ux * px + uy * py) (hq : 0 ≤ ux * qx + uy * qy) (hd : px * px + py * py = qx * qx + qy * qy) (hu : ¬ (ux = 0 ∧ uy = 0)) : px = qx ∧ py = qy := by
  have e1 : (ux * px + uy * py) * (ux * px + uy * py) = (ux * qx + uy * qy) * (ux * qx + uy * qy) := by
    have a : (ux * px + uy * py) * (ux * px + uy * py) + (ux * py - uy * px) * (ux * py - uy * px) = (ux * ux + uy * uy) * (px * px + py * py) := by grind
    have b : (ux * qx + uy * qy) * (ux * qx + uy * qy) + (ux * qy - uy * qx) * (ux * qy - uy * qx) = (ux * ux + uy * uy) * (qx * qx + qy * qy) := by grind
    rw [h1] at a
    rw [h2] at b
    rw [hd] at a
    omega
  have e2 : ux * px + uy * py = ux * qx + uy * qy := by
    generalize ux * px + uy * py = a at *
    generalize ux * qx + uy * qy = b at *
    have : (a - b) * (a + b) = 0 := by grind
    rcases Int.mul_eq_zero.1 this with h | h <;> omega
  have k1 : ux * (px - qx) + uy * (py - qy) = 0 := by grind
  have k2 : ux * (py - qy) - uy * (px - qx) = 0 := by grind
  have k3 : (ux * ux + uy * uy) * ((px - qx) * (px - qx) + (py - qy) * (py - qy)) = 0 := by
    have : (ux * (px - qx) + uy * (py - qy)) * (ux * (px - qx) + uy * (py - qy)) + (ux * (py - qy) - uy * (px - qx)) * (ux * (py - qy) - uy * (px - qx)) = (ux * ux + uy * uy) * ((px - qx) * (px - qx) + (py - qy) * (py - qy)) := by grind
    rw [k1, k2] at this
    omega
  have s1 := sq_nonneg ux
  have s2 := sq_nonneg uy
  have s3 := sq_nonneg (px - qx)
  have s4 := sq_nonneg (py - qy)
  rcases Int.mul_eq_zero.1 k3 with h | h
  · exact absurd ⟨sq_zero (by omega), sq_zero (by omega)⟩ hu
  · have a := sq_zero (show (px - qx) * (px - qx) = 0 by omega)
    have b := sq_zero (show (py - qy) * (py - qy) = 0 by omega)
    omega
/-- a point of a side: on its straight line, ahead of its beginning -/
def onSide (s : Sd) (c : Int × Int) : Prop := onP c.1 c.2 ∧ areaN s.1.1 s.1.2 s.2.1 s.2.2 c.1 c.2 = 0 ∧ 0 ≤ alongN s.1.1 s.1.2 s.2.1 s.2.2 c.1 c.2
theorem parted_on {s : Sd} {c : Int × Int} (h : partedB s c = true) : onSide s c ∧ s.1 ≠ s.2 := by
  unfold partedB ptB betB at h
  simp only [Bool.and_eq_true, decide_eq_true_eq] at h
  obtain ⟨h1, h2, h3, h4, h5, h6⟩ := h
  unfold hasP at h6
  split at h6
  · next e => exact absurd h6 h1
  · next e =>
    refine ⟨⟨h3, h6.1, h6.2.1⟩, fun k => e ?_⟩
    rw [k]
    exact ⟨rfl, rfl⟩
theorem onSide_from {s : Sd} (h : onS s) : onSide s s.1 := by
  refine ⟨h.1, ?_, ?_⟩
  · unfold areaN; grind
  · have : alongN s.1.1 s.1.2 s.2.1 s.2.2 s.1.1 s.1.2 = 0 := by unfold alongN; grind
    omega
theorem onSide_to {s : Sd} (h : onS s) : onSide s s.2 := by
  refine ⟨h.2, ?_, ?_⟩
  · unfold areaN; grind
  · exact dist_nonneg _ _ _ _
theorem onSide_eq {s : Sd} (h : onS s) (hne : s.1 ≠ s.2) {c d : Int × Int} (hc : onSide s c) (hd : onSide s d) (e : distP s.1 c = distP s.1 d) : c = d := by
  obtain ⟨c1, c2, c3⟩ := hc
  obtain ⟨d1, d2, d3⟩ := hd
  unfold distP distV at e
  rw [if_pos ⟨h.1, c1⟩, if_pos ⟨h.1, d1⟩] at e
  unfold distN alongN at e
  unfold areaN at c2 d2
  unfold alongN at c3 d3
  obtain ⟨k1, k2⟩ := same_ray c2 d2 c3 d3 e (fun ⟨a, b⟩ => hne (Prod.ext (by omega) (by omega)))
  exact Prod.ext (by omega) (by omega)
/-- what any sort by the distance makes of the ends of a side's parts -/
theorem ends_settled {b : List (Int × Int)} {s : Sd} (h : onS s) {l : List (Int × Int)} (hp : l.Perm (b.filter (partedB s) ++ [s.1, s.2])) (hs : l.Pairwise (fun x y => distP s.1 x ≤ distP s.1 y)) : l = endsS b s := by
  unfold endsS
  refine sorted_unique (key := distP s.1) _ _ (hp.trans (sortD_perm _ _).symm) hs (sortD_sorted _ _) fun x hx y hy e => ?_
  have key : ∀ z ∈ l, onSide s z := fun z hz => by
    rcases List.mem_append.1 (hp.mem_iff.1 hz) with hz | hz
    · exact (parted_on (List.mem_filter.1 hz).2).1
    · rcases List.mem_cons.1 hz with rfl | hz
      · exact onSide_from h
      · rw [List.mem_singleton.1 hz]; exact onSide_to h
  by_cases hne : s.1 = s.2
  · have key2 : ∀ z ∈ l, z = s.1 := fun z hz => by
      rcases List.mem_append.1 (hp.mem_iff.1 hz) with hz | hz
      · exact absurd hne (parted_on (List.mem_filter.1 hz).2).2
      · rcases List.mem_cons.1 hz with hz | hz
        · exact hz
        · rw [List.mem_singleton.1 hz, hne]
    rw [key2 x hx, key2 y hy]
  · exact onSide_eq h hne (key x hx) (key y hy) e
theorem ends_perm (b : List (Int × Int)) (s : Sd) : (endsS b s).Perm (b.filter (partedB s) ++ [s.1, s.2]) := sortD_perm _ _
theorem ends_len (b : List (Int × Int)) (s : Sd) : (endsS b s).length = (b.filter (partedB s)).length + 2 := by
  rw [(ends_perm b s).length_eq, List.length_append]
  rfl
theorem ends_on {b : List (Int × Int)} {s : Sd} (hb : onL b) (h : onS s) : ∀ p ∈ endsS b s, onP p.1 p.2 := fun p hp => by
  rcases List.mem_append.1 ((ends_perm b s).mem_iff.1 hp) with hp | hp
  · exact hb p (List.mem_filter.1 hp).1
  · rcases List.mem_cons.1 hp with rfl | hp
    · exact h.1
    · rw [List.mem_singleton.1 hp]; exact h.2
end Go.Proofs.Ytohkmkkcblbemaa.Ge
