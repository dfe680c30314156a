/- The two changes of PolygonMoves: moving by the same numbers, and exchanging X and Y in the opposite order. -/
import Derived.Test.YtohkmkkcblbemaaPolMove
namespace Go.Proofs.Ytohkmkkcblbemaa.Ge
set_option linter.unusedVariables false
set_option linter.unusedSimpArgs false

/-! ### moving -/
def gT (u v : Int) (p : Pl) : Pl := (p.1 + u, p.2 + v)
def sT (u v : Int) (s : Sd) : Sd := (gT u v s.1, gT u v s.2)
def qT (u v : Int) (p : Pl) : Pl := (p.1 + (u + u), p.2 + (v + v))
theorem gT_inj {u v : Int} {p q : Pl} : (gT u v p == gT u v q) = (p == q) := by
  rw [Bool.eq_iff_iff, beq_iff_eq, beq_iff_eq]
  unfold gT
  constructor
  · intro h
    have h1 := congrArg Prod.fst h
    have h2 := congrArg Prod.snd h
    dsimp only at h1 h2
    exact Prod.ext (by omega) (by omega)
  · intro h
    rw [h]
theorem cross_T (u v : Int) (s t : Sd) (hs : onS s) (ht : onS t) (ks : onS (sT u v s)) (kt : onS (sT u v t)) : crossS (sT u v s) (sT u v t) = crossS s t :=
  (like_moved hs.1 hs.2 ht.1 ht.2 ks.1 ks.2 kt.1 kt.2).cross
theorem hasB_T {u v : Int} {s : Sd} {c : Pl} : hasB (s.1.1 + u) (s.1.2 + v) (s.2.1 + u) (s.2.2 + v) (c.1 + u) (c.2 + v) = hasB s.1.1 s.1.2 s.2.1 s.2.2 c.1 c.2 :=
  like_has (.inl rfl) (by unfold areaN; grind) (by unfold distN alongN; grind) (by unfold distN alongN; grind) (by unfold distN alongN; grind)
theorem parted_iff {s : Sd} {c : Pl} (hs : onS s) (hc : onP c.1 c.2) : partedB s c = true ↔ c ≠ s.1 ∧ c ≠ s.2 ∧ hasB s.1.1 s.1.2 s.2.1 s.2.2 c.1 c.2 = true := by
  unfold partedB ptB
  rw [bet_on hc hs.1 hs.2]
  simp only [Bool.and_eq_true, decide_eq_true_eq, ne_eq, Prod.ext_iff]
theorem parted_T {u v : Int} {s : Sd} {c : Pl} (hs : onS s) (ks : onS (sT u v s)) (hc : onP c.1 c.2) (kc : onP (gT u v c).1 (gT u v c).2) : partedB (sT u v s) (gT u v c) = partedB s c := by
  rw [Bool.eq_iff_iff, parted_iff ks kc, parted_iff hs hc]
  have e := hasB_T (u := u) (v := v) (s := s) (c := c)
  unfold sT gT
  dsimp only
  rw [e]
  simp only [ne_eq, Prod.ext_iff]
  constructor
  · rintro ⟨a, b, c⟩
    exact ⟨by omega, by omega, c⟩
  · rintro ⟨a, b, c⟩
    exact ⟨by omega, by omega, c⟩
theorem dist_T {u v : Int} {p q : Pl} (hp : onP p.1 p.2) (hq : onP q.1 q.2) (kp : onP (gT u v p).1 (gT u v p).2) (kq : onP (gT u v q).1 (gT u v q).2) : distP (gT u v p) (gT u v q) = distP p q := by
  unfold distP
  rw [dist_on hp hq, dist_on kp kq]
  unfold gT distN alongN
  grind
theorem filter_chg {f h : Pl → Bool} {g : Pl → Pl} : ∀ b : List Pl, (∀ c ∈ b, f (g c) = h c) → (b.map g).filter f = (b.filter h).map g
  | [], _ => rfl
  | c :: b, k => by
    have e := k c (List.mem_cons_self ..)
    have ih := filter_chg b fun d hd => k d (List.mem_cons_of_mem _ hd)
    rw [List.map_cons, List.filter_cons, List.filter_cons, e, ih]
    split
    · rfl
    · rfl
theorem ends_T {u v : Int} {b d : List Pl} {s : Sd} (hb : onL b) (hd : onL d) (hs : onS s) (ks : onS (sT u v s)) (h : d.Perm (b.map (gT u v))) : endsS d (sT u v s) = (endsS b s).map (gT u v) := by
  have ob : ∀ c ∈ b, onP (gT u v c).1 (gT u v c).2 := fun c hc => hd _ (h.mem_iff.2 (List.mem_map_of_mem hc))
  have oe : ∀ c ∈ endsS b s, onP (gT u v c).1 (gT u v c).2 := fun c hc => by
    rcases List.mem_append.1 ((ends_perm b s).mem_iff.1 hc) with hc | hc
    · exact ob c (List.mem_filter.1 hc).1
    · rcases List.mem_cons.1 hc with rfl | hc
      · exact ks.1
      · rw [List.mem_singleton.1 hc]; exact ks.2
  symm
  refine ends_settled ks ?_ ?_
  · refine ((ends_perm b s).map _).trans ?_
    rw [List.map_append]
    refine List.Perm.append ?_ (List.Perm.refl _)
    refine List.Perm.trans (List.Perm.of_eq ?_) (h.symm.filter _)
    exact (filter_chg b fun c hc => parted_T hs ks (hb c hc) (ob c hc)).symm
  · rw [List.pairwise_map]
    refine List.Pairwise.imp_of_mem (fun {x y} hx hy k => ?_) (sortD_sorted s.1 _)
    have e1 := dist_T hs.1 (ends_on hb hs x hx) ks.1 (oe x hx)
    have e2 := dist_T hs.1 (ends_on hb hs y hy) ks.1 (oe y hy)
    show distP (gT u v s.1) (gT u v x) ≤ distP (gT u v s.1) (gT u v y)
    rw [e1, e2]
    exact k
theorem chg_T (u v : Int) : Chg (gT u v) (sT u v) (qT u v) where
  cross := fun s t => cross_T u v s t
  free := fun s t hs ht ks kt => by
    unfold freeB
    rw [cross_T u v s t hs ht ks kt]
    show (gT u v s.1 == gT u v t.2 || (gT u v t.1 == gT u v s.2 || crossS s t == 0)) = _
    rw [gT_inj, gT_inj]
  has := fun p s => by
    have e1 : tuN (s.1.1 + u) (s.1.2 + v) (s.2.1 + u) (s.2.2 + v) (p.1 + (u + u)) (p.2 + (v + v)) = tuN s.1.1 s.1.2 s.2.1 s.2.2 p.1 p.2 := by unfold tuN; grind
    have e2 : loN (s.1.1 + u) (s.1.2 + v) (s.2.1 + u) (s.2.2 + v) (p.1 + (u + u)) (p.2 + (v + v)) = loN s.1.1 s.1.2 s.2.1 s.2.2 p.1 p.2 := by unfold loN; grind
    unfold hasS hsB sT gT qT
    dsimp only
    rw [e1, e2]
  pass := fun l p _ => sumS_congr _ fun s _ => by
    have e1 : tuN (s.1.1 + u) (s.1.2 + v) (s.2.1 + u) (s.2.2 + v) (p.1 + (u + u)) (p.2 + (v + v)) = tuN s.1.1 s.1.2 s.2.1 s.2.2 p.1 p.2 := by unfold tuN; grind
    unfold passS paV sT gT qT
    dsimp only
    rw [e1]
    have c1 : 2 * (s.1.2 + v) ≤ p.2 + (v + v) ↔ 2 * s.1.2 ≤ p.2 := by omega
    have c2 : p.2 + (v + v) < 2 * (s.2.2 + v) ↔ p.2 < 2 * s.2.2 := by omega
    have c3 : 2 * (s.2.2 + v) ≤ p.2 + (v + v) ↔ 2 * s.2.2 ≤ p.2 := by omega
    have c4 : p.2 + (v + v) < 2 * (s.1.2 + v) ↔ p.2 < 2 * s.1.2 := by omega
    simp only [c1, c2, c3, c4]
  area := fun l => by
    have h := sumS_add (f := fun s => partS (sT u v s)) (g := partS) (h := fun s => (u * s.2.2 - v * s.2.1) - (u * s.1.2 - v * s.1.1)) (sidesL l) fun s _ => by
      unfold partS sT gT
      dsimp only
      grind
    rw [sum_round l fun q => u * q.2 - v * q.1] at h
    rw [h]
    unfold areaS
    omega
  mids := fun b d s hb hd hs ks h m => by
    unfold midsS
    rw [ends_T hb hd hs ks h]
    exact mids_mapped (fun p q => Prod.ext (by unfold midP gT qT; dsimp only; omega) (by unfold midP gT qT; dsimp only; omega)) _ m
/-! ### exchanging -/
theorem gX_inj {p q : Pl} : (gX p == gX q) = (p == q) := by
  rw [Bool.eq_iff_iff, beq_iff_eq, beq_iff_eq]
  unfold gX
  constructor
  · intro h
    exact Prod.ext (congrArg Prod.snd h) (congrArg Prod.fst h)
  · intro h
    rw [h]
theorem cross_X (s t : Sd) (hs : onS s) (ht : onS t) (ks : onS (sX s)) (kt : onS (sX t)) : crossS (sX s) (sX t) = crossS s t := by
  have h := (like_swapped hs.2 hs.1 ht.2 ht.1).cross
  unfold crossS sX gX
  dsimp only
  rw [h, cross_b hs.1 hs.2 ht.2 ht.1, cross_d hs.1 hs.2 ht.1 ht.2]
theorem hasB_X {s : Sd} {c : Pl} : hasB s.2.2 s.2.1 s.1.2 s.1.1 c.2 c.1 = hasB s.1.1 s.1.2 s.2.1 s.2.2 c.1 c.2 := by
  rw [has_symm]
  exact like_has (.inr rfl) (by unfold areaN; grind) (by unfold distN alongN; grind) (by unfold distN alongN; grind) (by unfold distN alongN; grind)
theorem parted_X {s : Sd} {c : Pl} (hs : onS s) (ks : onS (sX s)) (hc : onP c.1 c.2) (kc : onP (gX c).1 (gX c).2) : partedB (sX s) (gX c) = partedB s c := by
  rw [Bool.eq_iff_iff, parted_iff ks kc, parted_iff hs hc]
  have e := hasB_X (s := s) (c := c)
  unfold sX gX
  dsimp only
  rw [e]
  simp only [ne_eq, Prod.ext_iff]
  constructor
  · rintro ⟨a, b, c⟩
    exact ⟨fun h => b ⟨h.2, h.1⟩, fun h => a ⟨h.2, h.1⟩, c⟩
  · rintro ⟨a, b, c⟩
    exact ⟨fun h => b ⟨h.2, h.1⟩, fun h => a ⟨h.2, h.1⟩, c⟩
theorem on_X {p : Pl} (h : onP p.1 p.2) : onP (gX p).1 (gX p).2 := ⟨h.2, h.1⟩
theorem dist_X {p q : Pl} (hp : onP p.1 p.2) (hq : onP q.1 q.2) : distP (gX p) (gX q) = distP p q := by
  unfold distP
  rw [dist_on hp hq, dist_on (on_X hp) (on_X hq)]
  unfold gX distN alongN
  grind
/-- on a segment: the farther from one end, the nearer to the other one -/
theorem far_near {ax ay bx bz px py qx qy : Int} (hp : hasB ax ay bx bz px py = true) (hq : hasB ax ay bx bz qx qy = true) (h : distN ax ay px py ≤ distN ax ay qx qy) : distN bx bz qx qy ≤ distN bx bz px py := by
  unfold hasB at hp hq
  rw [decide_eq_true_iff] at hp hq
  unfold hasP at hp hq
  by_cases he : ax = bx ∧ ay = bz
  · rw [if_pos he] at hp hq
    rw [hp.1, hp.2, hq.1, hq.2]
    exact Int.le_refl _
  rw [if_neg he] at hp hq
  obtain ⟨p1, p2, p3⟩ := hp
  obtain ⟨q1, q2, q3⟩ := hq
  have lp := lagrange ax ay bx bz px py
  have lq := lagrange ax ay bx bz qx qy
  have cp := dist_cos ax ay bx bz px py
  have cq := dist_cos ax ay bx bz qx qy
  rw [p1] at lp
  rw [q1] at lq
  rw [dist_symm px py bx bz, dist_symm qx qy bx bz, cp, cq]
  have hL := dist_nonneg ax ay bx bz
  have hL0 : distN ax ay bx bz ≠ 0 := fun k => he (dist_zero k)
  generalize alongN ax ay bx bz px py = s at *
  generalize alongN ax ay bx bz qx qy = t at *
  generalize distN ax ay bx bz = L at *
  generalize distN ax ay px py = x at *
  generalize distN ax ay qx qy = y at *
  have hst : s ≤ t := by
    refine Int.not_lt.1 fun hlt => ?_
    have h1 : t * t < s * s := Int.lt_of_le_of_lt (Int.mul_le_mul_of_nonneg_left (Int.le_of_lt hlt) q2) (Int.mul_lt_mul_of_pos_right hlt (by omega))
    have h2 : L * x ≤ L * y := Int.mul_le_mul_of_nonneg_left h hL
    omega
  have h3 : (L - t) * (L - t) ≤ (L - s) * (L - s) := Int.le_trans (Int.mul_le_mul_of_nonneg_left (by omega) (by omega)) (Int.mul_le_mul_of_nonneg_right (by omega) (by omega))
  have h4 : L * (y - 2 * t + L) = (L - t) * (L - t) := by grind
  have h5 : L * (x - 2 * s + L) = (L - s) * (L - s) := by grind
  rw [← h4, ← h5] at h3
  exact Int.le_of_mul_le_mul_left h3 (by omega)
theorem ends_has {b : List Pl} {s : Sd} (hb : onL b) (hs : onS s) : ∀ p ∈ endsS b s, hasB s.1.1 s.1.2 s.2.1 s.2.2 p.1 p.2 = true := fun p hp => by
  rcases List.mem_append.1 ((ends_perm b s).mem_iff.1 hp) with hp | hp
  · obtain ⟨h1, h2⟩ := List.mem_filter.1 hp
    exact ((parted_iff hs (hb p h1)).1 h2).2.2
  · rcases List.mem_cons.1 hp with rfl | hp
    · exact has_first _ _ _ _
    · rw [List.mem_singleton.1 hp]; exact has_last _ _ _ _
theorem ends_X {b d : List Pl} {s : Sd} (hb : onL b) (hd : onL d) (hs : onS s) (ks : onS (sX s)) (h : d.Perm (b.map gX)) : endsS d (sX s) = ((endsS b s).reverse).map gX := by
  symm
  refine ends_settled ks ?_ ?_
  · refine (((List.reverse_perm _).trans (ends_perm b s)).map _).trans ?_
    rw [List.map_append]
    refine List.Perm.append ?_ (List.Perm.swap _ _ _)
    refine List.Perm.trans (List.Perm.of_eq ?_) (h.symm.filter _)
    exact (filter_chg b fun c hc => parted_X hs ks (hb c hc) (on_X (hb c hc))).symm
  · rw [List.pairwise_map, List.pairwise_reverse]
    refine List.Pairwise.imp_of_mem (fun {x y} hx hy k => ?_) (sortD_sorted s.1 _)
    have ox := ends_on hb hs x hx
    have oy := ends_on hb hs y hy
    show distP (gX s.2) (gX y) ≤ distP (gX s.2) (gX x)
    rw [dist_X hs.2 ox, dist_X hs.2 oy]
    unfold distP at k ⊢
    rw [dist_on hs.1 ox, dist_on hs.1 oy] at k
    rw [dist_on hs.2 ox, dist_on hs.2 oy]
    exact far_near (ends_has hb hs x hx) (ends_has hb hs y hy) k
theorem chg_X : Chg gX sX gX where
  cross := fun s t => cross_X s t
  free := fun s t hs ht ks kt => by
    unfold freeB
    rw [cross_X s t hs ht ks kt]
    show (gX s.2 == gX t.1 || (gX t.2 == gX s.1 || crossS s t == 0)) = _
    rw [gX_inj, gX_inj]
    have e1 : (s.2 == t.1) = (t.1 == s.2) := by rw [Bool.eq_iff_iff, beq_iff_eq, beq_iff_eq]; exact eq_comm
    have e2 : (t.2 == s.1) = (s.1 == t.2) := by rw [Bool.eq_iff_iff, beq_iff_eq, beq_iff_eq]; exact eq_comm
    rw [e1, e2]
    generalize (s.1 == t.2) = a
    generalize (t.1 == s.2) = b
    generalize (crossS s t == 0) = c
    revert a b c
    decide
  has := has_X
  pass := fun l p h => by
    have hno : ∀ s ∈ sidesL l, hasS p s = false := fun s hs => by
      rw [List.any_eq_false] at h
      exact Bool.eq_false_iff.2 (h s hs)
    have k := sumS_add (f := passS p) (g := fun s => passS (gX p) (sX s)) (h := fun s => quadP p s.2 - quadP p s.1) (sidesL l) fun s hs => pass_X (hno s hs)
    rw [sum_round l (quadP p)] at k
    omega
  area := fun l => sumS_congr _ fun s _ => by
    unfold partS sX gX
    dsimp only
    rw [Int.mul_comm s.2.2, Int.mul_comm s.1.2]
  mids := fun b d s hb hd hs ks h m => by
    unfold midsS
    rw [ends_X hb hd hs ks h, mids_mapped (g := gX) (P := gX) (fun p q => rfl)]
    constructor
    · rintro ⟨k, hk, rfl⟩
      exact ⟨k, (mids_reverse _ k).1 hk, rfl⟩
    · rintro ⟨k, hk, rfl⟩
      exact ⟨k, (mids_reverse _ k).2 hk, rfl⟩
end Go.Proofs.Ytohkmkkcblbemaa.Ge
