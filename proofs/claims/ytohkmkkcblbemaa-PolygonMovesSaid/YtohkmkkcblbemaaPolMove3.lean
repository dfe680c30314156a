/- PolygonMoves, plain: what the law asks of moved rings. -/
import Derived.Test.YtohkmkkcblbemaaPolMove2
namespace Go.Proofs.Ytohkmkkcblbemaa.Ge
set_option linter.unusedVariables false
set_option linter.unusedSimpArgs false

theorem nth_map {g : Pl → Pl} {l : List Pl} (h : l ≠ []) (i : Nat) : nth (l.map g) i = g (nth l i) := by
  have hl : 0 < l.length := List.length_pos_iff.2 h
  have hi := Nat.mod_lt i hl
  unfold nth
  rw [List.length_map, List.getD_eq_getElem?_getD, List.getD_eq_getElem?_getD, List.getElem?_eq_getElem (by rw [List.length_map]; exact hi), List.getElem?_eq_getElem hi, List.getElem_map]
  rfl
theorem mod_compl {i j n : Nat} (hn : 0 < n) (h : (i + j + 1) % n = 0) : i % n + j % n + 1 = n := by
  have hi := Nat.mod_lt i hn
  have hj := Nat.mod_lt j hn
  have e : (i % n + j % n + 1) % n = 0 := by
    rw [← h, Nat.add_mod, ← Nat.add_mod i j n, ← Nat.add_mod]
  obtain ⟨c, hc⟩ := Nat.dvd_of_mod_eq_zero e
  have c1 : c = 1 := by
    rcases Nat.lt_trichotomy c 1 with k | k | k
    · obtain rfl : c = 0 := by omega
      omega
    · exact k
    · have := Nat.mul_le_mul_left n k
      omega
  rw [c1, Nat.mul_one] at hc
  exact hc
theorem nth_reverse {l : List Pl} (h : l ≠ []) {i j : Nat} (hij : (i + j + 1) % l.length = 0) : nth l.reverse i = nth l j := by
  have hl : 0 < l.length := List.length_pos_iff.2 h
  have e := mod_compl hl hij
  have hi := Nat.mod_lt i hl
  have hj := Nat.mod_lt j hl
  unfold nth
  rw [List.length_reverse, List.getD_eq_getElem?_getD, List.getD_eq_getElem?_getD, List.getElem?_eq_getElem (by rw [List.length_reverse]; exact hi), List.getElem?_eq_getElem hj, List.getElem_reverse]
  have hidx : l.length - 1 - i % l.length = j % l.length := by omega
  simp only [hidx]
theorem sides_T (u v : Int) (l : List Pl) : sidesL (l.map (gT u v)) = (sidesL l).map (sT u v) := by
  by_cases h : l = []
  · rw [h]; rfl
  unfold sidesL
  rw [List.length_map, List.map_map]
  refine List.map_congr_left fun i _ => ?_
  show sideAt (l.map (gT u v)) i = sT u v (sideAt l i)
  unfold sideAt sT
  rw [nth_map h, nth_map h]
theorem range_back_shift {α : Type} (n m : Nat) (F : Nat → α) (h : ∀ i, F (i + n) = F i) : ((List.range n).map fun i => F (n - 1 - i + m)).Perm ((List.range n).map F) :=
  (range_back n fun j => F (j + m)).trans (range_shift n F h m)
theorem sides_X (l : List Pl) : (sidesL (l.reverse.map gX)).Perm ((sidesL l).map sX) := by
  by_cases h : l = []
  · rw [h]; exact List.Perm.refl _
  have hl : 0 < l.length := List.length_pos_iff.2 h
  have hr : l.reverse ≠ [] := fun k => h (List.reverse_eq_nil_iff.1 k)
  unfold sidesL
  rw [List.length_map, List.length_reverse, List.map_map]
  refine List.Perm.trans (List.Perm.of_eq ?_) (range_back_shift l.length (l.length - 1) (fun i => sX (sideAt l i)) fun i => by rw [side_add])
  refine List.map_congr_left fun i hi => ?_
  have hi := List.mem_range.1 hi
  unfold sideAt sX
  rw [nth_map hr, nth_map hr, nth_reverse h (i := i) (j := l.length - 1 - i + (l.length - 1) + 1) (by rw [show i + (l.length - 1 - i + (l.length - 1) + 1) + 1 = l.length * 2 by omega, Nat.mul_mod_right]),
    nth_reverse h (i := i + 1) (j := l.length - 1 - i + (l.length - 1)) (by rw [show i + 1 + (l.length - 1 - i + (l.length - 1)) + 1 = l.length * 2 by omega, Nat.mul_mod_right])]
/-! ### three points that follow each other -/
theorem tri_on {l : List Pl} (hl : onL l) {t : Pl × Pl × Pl} (h : t ∈ triL l) : onP t.1.1 t.1.2 ∧ onP t.2.1.1 t.2.1.2 ∧ onP t.2.2.1 t.2.2.2 := by
  obtain ⟨i, hi, rfl⟩ := List.mem_map.1 h
  have := List.mem_range.1 hi
  exact ⟨onL_nth hl (by omega) _, onL_nth hl (by omega) _, onL_nth hl (by omega) _⟩
def tT (u v : Int) (t : Pl × Pl × Pl) : Pl × Pl × Pl := (gT u v t.1, gT u v t.2.1, gT u v t.2.2)
def tX (t : Pl × Pl × Pl) : Pl × Pl × Pl := (gX t.2.2, gX t.2.1, gX t.1)
theorem tri_T (u v : Int) (l : List Pl) : triL (l.map (gT u v)) = (triL l).map (tT u v) := by
  by_cases h : l = []
  · rw [h]; rfl
  unfold triL
  rw [List.length_map, List.map_map]
  refine List.map_congr_left fun i _ => ?_
  show triAt (l.map (gT u v)) i = tT u v (triAt l i)
  unfold triAt tT
  rw [nth_map h, nth_map h, nth_map h]
theorem tri_X (l : List Pl) : (triL (l.reverse.map gX)).Perm ((triL l).map tX) := by
  by_cases h : l = []
  · rw [h]; exact List.Perm.refl _
  have hl : 0 < l.length := List.length_pos_iff.2 h
  have hr : l.reverse ≠ [] := fun k => h (List.reverse_eq_nil_iff.1 k)
  unfold triL
  rw [List.length_map, List.length_reverse, List.map_map]
  refine List.Perm.trans (List.Perm.of_eq ?_) (range_back_shift l.length ((l.length - 1) * 2) (fun i => tX (triAt l i)) fun i => by rw [tri_add])
  refine List.map_congr_left fun i hi => ?_
  have hi := List.mem_range.1 hi
  unfold triAt tX
  rw [nth_map hr, nth_map hr, nth_map hr, nth_reverse h (i := i) (j := l.length - 1 - i + (l.length - 1) * 2 + 2) (by rw [show i + (l.length - 1 - i + (l.length - 1) * 2 + 2) + 1 = l.length * 3 by omega, Nat.mul_mod_right]),
    nth_reverse h (i := i + 1) (j := l.length - 1 - i + (l.length - 1) * 2 + 1) (by rw [show i + 1 + (l.length - 1 - i + (l.length - 1) * 2 + 1) + 1 = l.length * 3 by omega, Nat.mul_mod_right]),
    nth_reverse h (i := i + 2) (j := l.length - 1 - i + (l.length - 1) * 2) (by rw [show i + 2 + (l.length - 1 - i + (l.length - 1) * 2) + 1 = l.length * 3 by omega, Nat.mul_mod_right])]
theorem bends_T {u v : Int} {l : List Pl} (hc : onL (l.map (gT u v))) (h : bendsB l = true) : bendsB (l.map (gT u v)) = true := by
  have hl := bends_on h
  rw [bends_tri, List.all_eq_true] at h ⊢
  rw [tri_T]
  intro t ht
  obtain ⟨t, kt, rfl⟩ := List.mem_map.1 ht
  obtain ⟨c1, c2, c3⟩ := tri_on hc (by rw [tri_T]; exact ht)
  obtain ⟨a1, a2, a3⟩ := tri_on hl kt
  have e : triV (tT u v t) = triV t := by
    unfold triV
    rw [turn_on c1 c2 c3, turn_on a1 a2 a3]
    congr 1
    unfold tT gT areaN
    dsimp only
    grind
  rw [e]
  exact h t kt
theorem onL_X {l : List Pl} (h : onL l) : onL (l.reverse.map gX) := fun p hp => by
  obtain ⟨q, hq, rfl⟩ := List.mem_map.1 hp
  exact on_X (h q (List.mem_reverse.1 hq))
theorem bends_X {l : List Pl} (h : bendsB l = true) : bendsB (l.reverse.map gX) = true := by
  have hl := bends_on h
  rw [bends_tri, List.all_eq_true] at h ⊢
  intro t ht
  obtain ⟨c1, c2, c3⟩ := tri_on (onL_X hl) ht
  obtain ⟨t, kt, rfl⟩ := List.mem_map.1 ((tri_X l).mem_iff.1 ht)
  obtain ⟨a1, a2, a3⟩ := tri_on hl kt
  have e : triV (tX t) = triV t := by
    unfold triV
    rw [turn_on c1 c2 c3, turn_on a1 a2 a3]
    congr 1
    unfold tX gX areaN
    dsimp only
    grind
  rw [e]
  exact h t kt
/-! ### the whole -/
theorem valid_chg {g : Pl → Pl} {S : Sd → Sd} {P : Pl → Pl} (K : Chg g S P) {l c : List Pl} (h : (sidesL c).Perm ((sidesL l).map S)) (hlen : c.length = l.length) (hc : onL c) (hb : bendsB l = true → bendsB c = true) (hv : validB l = true) : validB c = true := by
  have hl := valid_on hv
  unfold validB at hv ⊢
  simp only [Bool.and_eq_true, decide_eq_true_eq] at hv ⊢
  obtain ⟨v1, v2, v3, v4, v5⟩ := hv
  exact ⟨by omega, by omega, hb v3, by rw [area_chg K h]; exact v4, simple_chg K h hl hc v5⟩
structure Same8 (a b c d : List Pl) (px py qx qy : Int) : Prop where
  va : validB c = true
  vb : validB d = true
  tw : twiceV c = twiceV a
  wh : whereV c qx qy = whereV a px py
  wi : withinB c d = withinB a b
  ap : apartR c d = apartR a b
theorem same_chg {g : Pl → Pl} {S : Sd → Sd} {P : Pl → Pl} (K : Chg g S P) {a b c d : List Pl} {px py qx qy : Int} (h : (sidesL c).Perm ((sidesL a).map S)) (k : (sidesL d).Perm ((sidesL b).map S)) (hg : c.Perm (a.map g)) (kg : d.Perm (b.map g))
    (hc : onL c) (hd : onL d) (ba : bendsB a = true → bendsB c = true) (bb : bendsB b = true → bendsB d = true) (va : validB a = true) (vb : validB b = true) (hp : onP px py) (hq : onP qx qy) (hpq : P (px + px, py + py) = (qx + qx, qy + qy)) : Same8 a b c d px py qx qy := by
  have vc := valid_chg K h (by rw [hg.length_eq, List.length_map]) hc ba va
  have vd := valid_chg K k (by rw [kg.length_eq, List.length_map]) hd bb vb
  have oa := valid_on va
  have ob := valid_on vb
  refine ⟨vc, vd, ?_, ?_, ?_, ?_⟩
  · unfold twiceV
    rw [if_pos va, if_pos vc, area_chg K h]
  · unfold whereV
    rw [if_pos ⟨hq, vc⟩, if_pos ⟨hp, va⟩, ← hpq, whereP_chg K h]
  · unfold withinB
    rw [va, vb, vc, vd, crossing_chg K h k oa hc ob hd, reaches_chg K h k kg oa hc ob hd]
  · unfold apartR
    rw [va, vb, vc, vd, crossing_chg K h k oa hc ob hd, reaches_chg K h k kg oa hc ob hd, reaches_chg K k h hg ob hd oa hc]
theorem same_T {a b : List Pl} {u v px py : Int} (va : validB a = true) (vb : validB b = true) (hc : onL (a.map (gT u v))) (hd : onL (b.map (gT u v))) (hp : onP px py) (hq : onP (px + u) (py + v)) : Same8 a b (a.map (gT u v)) (b.map (gT u v)) px py (px + u) (py + v) :=
  same_chg (chg_T u v) (List.Perm.of_eq (sides_T u v a)) (List.Perm.of_eq (sides_T u v b)) (List.Perm.refl _) (List.Perm.refl _) hc hd (bends_T hc) (bends_T hd) va vb hp hq (Prod.ext (by unfold qT; dsimp only; omega) (by unfold qT; dsimp only; omega))
theorem same_X {a b : List Pl} {px py : Int} (va : validB a = true) (vb : validB b = true) (hp : onP px py) : Same8 a b (a.reverse.map gX) (b.reverse.map gX) px py py px :=
  same_chg chg_X (sides_X a) (sides_X b) ((List.reverse_perm a).map _) ((List.reverse_perm b).map _) (onL_X (valid_on va)) (onL_X (valid_on vb)) bends_X bends_X va vb hp ⟨hp.2, hp.1⟩ rfl
end Go.Proofs.Ytohkmkkcblbemaa.Ge
