/- Points of one side by their distances from its beginning: the order is settled. -/
import Derived.Test.YtcpcmlonbpccnaaBdA1
import Derived.Test.YtcpcmlonbpccnaaBdA11
namespace Go.Proofs.Ytcpcmlonbpccnaa.Ge
set_option linter.unusedVariables false
set_option linter.unusedSimpArgs false

/-! ### a list that is sorted is settled, where the key settles the element -/
theorem putD_perm (o p : Int × Int) : ∀ l, (putD o p l).Perm (p :: l)
  | [] => List.Perm.refl _
  | q :: l => by
    unfold putD
    split
    · exact List.Perm.refl _
    · exact ((putD_perm o p l).cons q).trans (List.Perm.swap p q l)
theorem putD_sorted (o p : Int × Int) : ∀ l, l.Pairwise (fun x y => distP o x ≤ distP o y) → (putD o p l).Pairwise (fun x y => distP o x ≤ distP o y)
  | [], _ => by simp [putD]
  | q :: l, h => by
    unfold putD
    obtain ⟨h1, h2⟩ := List.pairwise_cons.1 h
    split
    · next hle =>
      refine List.pairwise_cons.2 ⟨fun y hy => ?_, h⟩
      rcases List.mem_cons.1 hy with rfl | hy
      · exact hle
      · exact Int.le_trans hle (h1 y hy)
    · next hlt =>
      refine List.pairwise_cons.2 ⟨fun y hy => ?_, putD_sorted o p l h2⟩
      rcases List.mem_cons.1 ((putD_perm o p l).mem_iff.1 hy) with rfl | hy
      · omega
      · exact h1 y hy
theorem sortD_perm (o : Int × Int) : ∀ l, (sortD o l).Perm l
  | [] => List.Perm.refl _
  | p :: l => (putD_perm o p (sortD o l)).trans ((sortD_perm o l).cons p)
theorem sortD_sorted (o : Int × Int) : ∀ l, (sortD o l).Pairwise (fun x y => distP o x ≤ distP o y)
  | [] => List.Pairwise.nil
  | p :: l => putD_sorted o p _ (sortD_sorted o l)
theorem sorted_unique {key : Int × Int → Int} : ∀ (l m : List (Int × Int)), l.Perm m → l.Pairwise (fun x y => key x ≤ key y) → m.Pairwise (fun x y => key x ≤ key y) → (∀ x ∈ l, ∀ y ∈ l, key x = key y → x = y) → l = m
  | [], m, hp, _, _, _ => (List.nil_perm.1 hp).symm
  | x :: l, [], hp, _, _, _ => by have := hp.length_eq; simp at this
  | x :: l, y :: m, hp, hl, hm, hk => by
    obtain ⟨l1, l2⟩ := List.pairwise_cons.1 hl
    obtain ⟨m1, m2⟩ := List.pairwise_cons.1 hm
    have hx : x ∈ y :: m := hp.mem_iff.1 (List.mem_cons_self ..)
    have hy : y ∈ x :: l := hp.mem_iff.2 (List.mem_cons_self ..)
    have e : x = y := by
      refine hk x (List.mem_cons_self ..) y hy ?_
      have h1 : key x ≤ key y := by
        rcases List.mem_cons.1 hy with rfl | h
        · exact Int.le_refl _
        · exact l1 y h
      have h2 : key y ≤ key x := by
        rcases List.mem_cons.1 hx with rfl | h
        · exact Int.le_refl _
        · exact m1 x h
      omega
    subst e
    rw [sorted_unique l m (List.Perm.cons_inv hp) l2 m2 (fun a ha b hb => hk a (List.mem_cons_of_mem _ ha) b (List.mem_cons_of_mem _ hb))]

/-! ### points of a segment at one distance are equal -/
theorem same_ray {ux uy px py qx qy : Int} (h1 : ux * py - uy * px = 0) (h2 : ux * qy - uy * qx = 0) (hp : 0 ≤ ux * px + uy * py) (hq : 0 ≤ ux * qx + uy * qy) (hd : px * px + py * py = qx * qx + qy * qy) (hu : ¬ (ux = 0 ∧ uy = 0)) : px = qx ∧ py = qy := by
  have e1 : (ux * px + uy * py) * (ux * px + uy * py) = (ux * qx + uy * qy) * (ux * qx + uy * qy) := by
    have a : (ux * px + uy * py) * (ux * px + uy * py) + (ux * py - uy * px) * (ux * py - uy * px) = (ux * ux + uy * uy) * (px * px + py * py) := by grind
    have b : (ux * qx + uy * qy) * (ux * qx + uy * qy) + (ux * qy - uy * qx) * (ux * qy - uy * qx) = (ux * ux + uy * uy) * (qx * qx + qy * qy) := by grind
    rw [h1] at a
    rw [h2] at b
    rw [hd] at a
    omega
  have e2 : ux * px + uy * py = ux * qx + uy * qy := by
    generalize ux * px + uy * py = a at *
    generalize ux * qx + uy * qy = b at *
    have : (a - b) * (a + b) = 0 := by grind
    rcases Int.mul_eq_zero.1 this with h | h <;> omega
  have k1 : ux * (px - qx) + uy * (py - qy) = 0 := by grind
  have k2 : ux * (py - qy) - uy * (px - qx) = 0 := by grind
  have k3 : (ux * ux + uy * uy) * ((px - qx) * (px - qx) + (py - qy) * (py - qy)) = 0 := by
    have : (ux * (px - qx) + uy * (py - qy)) * (ux * (px - qx) + uy * (py - qy)) + (ux * (py - qy) - uy * (px - qx)) * (ux * (py - qy) - uy * (px - qx)) = (ux * ux + uy * uy) * ((px - qx) * (px - qx) + (py - qy) * (py - qy)) := by grind
    rw [k1, k2] at this
    omega
  have s1 := sq_nonneg ux
  have s2 := sq_nonneg uy
  have s3 := sq_nonneg (px - qx)
  have s4 := sq_nonneg (py - qy)
  rcases Int.mul_eq_zero.1 k3 with h | h
  · exact absurd ⟨sq_zero (by omega), sq_zero (by omega)⟩ hu
  · have a := sq_zero (show (px - qx) * (px - qx) = 0 by omega)
    have b := sq_zero (show (py - qy) * (py - qy) = 0 by omega)
    omega
/-- a point of a side: on its straight line, ahead of its beginning -/
def onSide (s : Sd) (c : Int × Int) : Prop := onP c.1 c.2 ∧ areaN s.1.1 s.1.2 s.2.1 s.2.2 c.1 c.2 = 0 ∧ 0 ≤ alongN s.1.1 s.1.2 s.2.1 s.2.2 c.1 c.2
theorem parted_on {s : Sd} {c : Int × Int} (h : partedB s c = true) : onSide s c ∧ s.1 ≠ s.2 := by
  unfold partedB ptB betB at h
  simp only [Bool.and_eq_true, decide_eq_true_eq] at h
  obtain ⟨h1, h2, h3, h4, h5, h6⟩ := h
  unfold hasP at h6
  split at h6
  · next e => exact absurd h6 h1
  · next e =>
    refine ⟨⟨h3, h6.1, h6.2.1⟩, fun k => e ?_⟩
    rw [k]
    exact ⟨rfl, rfl⟩
theorem onSide_from {s : Sd} (h : onS s) : onSide s s.1 := by
  refine ⟨h.1, ?_, ?_⟩
  · unfold areaN; grind
  · have : alongN s.1.1 s.1.2 s.2.1 s.2.2 s.1.1 s.1.2 = 0 := by unfold alongN; grind
    omega
theorem onSide_to {s : Sd} (h : onS s) : onSide s s.2 := by
  refine ⟨h.2, ?_, ?_⟩
  · unfold areaN; grind
  · exact dist_nonneg _ _ _ _
theorem onSide_eq {s : Sd} (h : onS s) (hne : s.1 ≠ s.2) {c d : Int × Int} (hc : onSide s c) (hd : onSide s d) (e : distP s.1 c = distP s.1 d) : c = d := by
  obtain ⟨c1, c2, c3⟩ := hc
  obtain ⟨d1, d2, d3⟩ := hd
  unfold distP distV at e
  rw [if_pos ⟨h.1, c1⟩, if_pos ⟨h.1, d1⟩] at e
  unfold distN alongN at e
  unfold areaN at c2 d2
  unfold alongN at c3 d3
  obtain ⟨k1, k2⟩ := same_ray c2 d2 c3 d3 e (fun ⟨a, b⟩ => hne (Prod.ext (by omega) (by omega)))
  exact Prod.ext (by omega) (by omega)
/-- what any sort by the distance makes of the ends of a side's parts -/
theorem ends_settled {b : List (Int × Int)} {s : Sd} (h : onS s) {l : List (Int × Int)} (hp : l.Perm (b.filter (partedB s) ++ [s.1, s.2])) (hs : l.Pairwise (fun x y => distP s.1 x ≤ distP s.1 y)) : l = endsS b s := by
  unfold endsS
  refine sorted_unique (key := distP s.1) _ _ (hp.trans (sortD_perm _ _).symm) hs (sortD_sorted _ _) fun x hx y hy e => ?_
  have key : ∀ z ∈ l, onSide s z := fun z hz => by
    rcases List.mem_append.1 (hp.mem_iff.1 hz) with hz | hz
    · exact (parted_on (List.mem_filter.1 hz).2).1
    · rcases List.mem_cons.1 hz with rfl | hz
      · exact onSide_from h
      · rw [List.mem_singleton.1 hz]; exact onSide_to h
  by_cases hne : s.1 = s.2
  · have key2 : ∀ z ∈ l, z = s.1 := fun z hz => by
      rcases List.mem_append.1 (hp.mem_iff.1 hz) with hz | hz
      · exact absurd hne (parted_on (List.mem_filter.1 hz).2).2
      · rcases List.mem_cons.1 hz with hz | hz
        · exact hz
        · rw [List.mem_singleton.1 hz, hne]
    rw [key2 x hx, key2 y hy]
  · exact onSide_eq h hne (key x hx) (key y hy) e
theorem ends_perm (b : List (Int × Int)) (s : Sd) : (endsS b s).Perm (b.filter (partedB s) ++ [s.1, s.2]) := sortD_perm _ _
theorem ends_len (b : List (Int × Int)) (s : Sd) : (endsS b s).length = (b.filter (partedB s)).length + 2 := by
  rw [(ends_perm b s).length_eq, List.length_append]
  rfl
theorem ends_on {b : List (Int × Int)} {s : Sd} (hb : onL b) (h : onS s) : ∀ p ∈ endsS b s, onP p.1 p.2 := fun p hp => by
  rcases List.mem_append.1 ((ends_perm b s).mem_iff.1 hp) with hp | hp
  · exact hb p (List.mem_filter.1 hp).1
  · rcases List.mem_cons.1 hp with rfl | hp
    · exact h.1
    · rw [List.mem_singleton.1 hp]; exact h.2
end Go.Proofs.Ytcpcmlonbpccnaa.Ge

/- Plain mathematics of GeomMoves: points that are moved, or have their coordinates exchanged. -/
namespace Go.Proofs.Ytcpcmlonbpccnaa.Ge
set_option linter.unusedVariables false
set_option linter.unusedSimpArgs false

/-! What follows if turns agree but for a sign, and ways along segments agree -/
theorem like_turn {ax ay bx bz cx cy ax' ay' bx' bz' cx' cy' s : Int} (hs : s = 1 ∨ s = -1) (ha : onP ax ay) (hb : onP bx bz) (hc : onP cx cy) (ha' : onP ax' ay') (hb' : onP bx' bz') (hc' : onP cx' cy')
    (h : areaN ax' ay' bx' bz' cx' cy' = s * areaN ax ay bx bz cx cy) : turnV ax' ay' bx' bz' cx' cy' = s * turnV ax ay bx bz cx cy := by
  rw [turn_on ha hb hc, turn_on ha' hb' hc', h]
  rcases hs with rfl | rfl
  · rw [Int.one_mul, Int.one_mul]
  · have e : ∀ n : Int, -1 * n = -n := fun n => by omega
    rw [e, e, sgn_neg]
theorem like_has {ax ay bx bz cx cy ax' ay' bx' bz' cx' cy' s : Int} (hs : s = 1 ∨ s = -1) (h : areaN ax' ay' bx' bz' cx' cy' = s * areaN ax ay bx bz cx cy)
    (h1 : distN ax' ay' cx' cy' = distN ax ay cx cy) (h2 : distN cx' cy' bx' bz' = distN cx cy bx bz) (h3 : distN ax' ay' bx' bz' = distN ax ay bx bz) : hasB ax' ay' bx' bz' cx' cy' = hasB ax ay bx bz cx cy := by
  rw [Bool.eq_iff_iff]
  unfold hasB
  rw [decide_eq_true_iff, decide_eq_true_iff, has_iff, has_iff, h, h1, h2, h3]
  rcases hs with rfl | rfl <;> omega
theorem like_apart {ax ay bx bz cx cy dx dy ax' ay' bx' bz' cx' cy' dx' dy' s : Int} (hs : s = 1 ∨ s = -1) (h1 : areaN cx' cy' dx' dy' ax' ay' = s * areaN cx cy dx dy ax ay) (h2 : areaN cx' cy' dx' dy' bx' bz' = s * areaN cx cy dx dy bx bz) :
    apartB ax' ay' bx' bz' cx' cy' dx' dy' = apartB ax ay bx bz cx cy dx dy := by
  unfold apartB
  rw [h1, h2]
  rcases hs with rfl | rfl
  · rw [Int.one_mul, Int.one_mul]
  · have e : ∀ n : Int, -1 * n = -n := fun n => by omega
    rw [e, e, sgn_neg, sgn_neg, neg_prod]
theorem like_foot {px py ax ay bx bz px' py' ax' ay' bx' bz' s : Int} (hs : s = 1 ∨ s = -1) (h : areaN ax' ay' bx' bz' px' py' = s * areaN ax ay bx bz px py) (h0 : alongN ax' ay' bx' bz' px' py' = alongN ax ay bx bz px py)
    (h1 : distN ax' ay' bx' bz' = distN ax ay bx bz) (h2 : distN px' py' ax' ay' = distN px py ax ay) (h3 : distN px' py' bx' bz' = distN px py bx bz) :
    ftN px' py' ax' ay' bx' bz' = ftN px py ax ay bx bz ∧ ftD px' py' ax' ay' bx' bz' = ftD px py ax ay bx bz ∧ ftM px' py' ax' ay' bx' bz' = ftM px py ax ay bx bz ∧ ftE px' py' ax' ay' bx' bz' = ftE px py ax ay bx bz := by
  have hq : areaN ax' ay' bx' bz' px' py' * areaN ax' ay' bx' bz' px' py' = areaN ax ay bx bz px py * areaN ax ay bx bz px py := by
    rw [h]
    rcases hs with rfl | rfl
    · rw [Int.one_mul]
    · have e : ∀ n : Int, -1 * n = -n := fun n => by omega
      rw [e, neg_prod]
  unfold ftN ftD ftM ftE
  rw [h0, h1, h2, h3, hq]
  exact ⟨rfl, rfl, rfl, rfl⟩
/-- four points with other ones of the same form -/
structure Like (ax ay bx bz cx cy dx dy ax' ay' bx' bz' cx' cy' dx' dy' s : Int) : Prop where
  turn : turnV ax' ay' bx' bz' cx' cy' = s * turnV ax ay bx bz cx cy
  dist : distV ax' ay' bx' bz' = distV ax ay bx bz
  cross : crossV ax' ay' bx' bz' cx' cy' dx' dy' = crossV ax ay bx bz cx cy dx dy
  n : ftN ax' ay' bx' bz' cx' cy' = ftN ax ay bx bz cx cy
  d : ftD ax' ay' bx' bz' cx' cy' = ftD ax ay bx bz cx cy
  m : ftM ax' ay' bx' bz' cx' cy' = ftM ax ay bx bz cx cy
  e : ftE ax' ay' bx' bz' cx' cy' = ftE ax ay bx bz cx cy
theorem like_of {ax ay bx bz cx cy dx dy ax' ay' bx' bz' cx' cy' dx' dy' s : Int} (hs : s = 1 ∨ s = -1)
    (ha : onP ax ay) (hb : onP bx bz) (hc : onP cx cy) (hd : onP dx dy) (ha' : onP ax' ay') (hb' : onP bx' bz') (hc' : onP cx' cy') (hd' : onP dx' dy')
    (A1 : areaN ax' ay' bx' bz' cx' cy' = s * areaN ax ay bx bz cx cy) (A2 : areaN ax' ay' bx' bz' dx' dy' = s * areaN ax ay bx bz dx dy)
    (A3 : areaN cx' cy' dx' dy' ax' ay' = s * areaN cx cy dx dy ax ay) (A4 : areaN cx' cy' dx' dy' bx' bz' = s * areaN cx cy dx dy bx bz) (A5 : areaN bx' bz' cx' cy' ax' ay' = s * areaN bx bz cx cy ax ay)
    (L : alongN bx' bz' cx' cy' ax' ay' = alongN bx bz cx cy ax ay)
    (ab : distN ax' ay' bx' bz' = distN ax ay bx bz) (ac : distN ax' ay' cx' cy' = distN ax ay cx cy) (ad : distN ax' ay' dx' dy' = distN ax ay dx dy)
    (bc : distN bx' bz' cx' cy' = distN bx bz cx cy) (bd : distN bx' bz' dx' dy' = distN bx bz dx dy) (cd : distN cx' cy' dx' dy' = distN cx cy dx dy) :
    Like ax ay bx bz cx cy dx dy ax' ay' bx' bz' cx' cy' dx' dy' s := by
  have sy : ∀ {p q r t p' q' r' t' : Int}, distN p' q' r' t' = distN p q r t → distN r' t' p' q' = distN r t p q := fun {p q r t p' q' r' t'} h => by rw [dist_symm p q r t, dist_symm p' q' r' t', h]
  obtain ⟨f1, f2, f3, f4⟩ := like_foot hs A5 L bc ab ac
  refine ⟨like_turn hs ha hb hc ha' hb' hc' A1, by rw [dist_on ha hb, dist_on ha' hb', ab], ?_, f1, f2, f3, f4⟩
  rw [cross_on ha hb hc hd, cross_on ha' hb' hc' hd', like_apart hs A3 A4, like_apart hs A1 A2, like_has hs A1 ac (sy bc) ab, like_has hs A2 ad (sy bd) ab, like_has hs A3 (sy ac) ad cd, like_has hs A4 (sy bc) bd cd]
theorem like_moved {ax ay bx bz cx cy dx dy x y : Int} (ha : onP ax ay) (hb : onP bx bz) (hc : onP cx cy) (hd : onP dx dy)
    (ha' : onP (ax + x) (ay + y)) (hb' : onP (bx + x) (bz + y)) (hc' : onP (cx + x) (cy + y)) (hd' : onP (dx + x) (dy + y)) :
    Like ax ay bx bz cx cy dx dy (ax + x) (ay + y) (bx + x) (bz + y) (cx + x) (cy + y) (dx + x) (dy + y) 1 := by
  have A : ∀ p q r t u v : Int, areaN (p + x) (q + y) (r + x) (t + y) (u + x) (v + y) = 1 * areaN p q r t u v := fun p q r t u v => by unfold areaN; grind
  have G : ∀ p q r t u v : Int, alongN (p + x) (q + y) (r + x) (t + y) (u + x) (v + y) = alongN p q r t u v := fun p q r t u v => by unfold alongN; grind
  exact like_of (.inl rfl) ha hb hc hd ha' hb' hc' hd' (A ..) (A ..) (A ..) (A ..) (A ..) (G ..) (G ..) (G ..) (G ..) (G ..) (G ..) (G ..)
theorem on_swap {x y : Int} (h : onP x y) : onP y x := ⟨h.2, h.1.1, h.1.2⟩
theorem like_swapped {ax ay bx bz cx cy dx dy : Int} (ha : onP ax ay) (hb : onP bx bz) (hc : onP cx cy) (hd : onP dx dy) :
    Like ax ay bx bz cx cy dx dy ay ax bz bx cy cx dy dx (-1) := by
  have A : ∀ p q r t u v : Int, areaN q p t r v u = -1 * areaN p q r t u v := fun p q r t u v => by unfold areaN; grind
  have G : ∀ p q r t u v : Int, alongN q p t r v u = alongN p q r t u v := fun p q r t u v => by unfold alongN; grind
  exact like_of (.inr rfl) ha hb hc hd (on_swap ha) (on_swap hb) (on_swap hc) (on_swap hd) (A ..) (A ..) (A ..) (A ..) (A ..) (G ..) (G ..) (G ..) (G ..) (G ..) (G ..) (G ..)
end Go.Proofs.Ytcpcmlonbpccnaa.Ge

/- Rings that begin with another one of their points have the same sides, in another order; what does not ask for the order is the same. -/
namespace Go.Proofs.Ytcpcmlonbpccnaa.Ge
set_option linter.unusedVariables false
set_option linter.unusedSimpArgs false

abbrev Pl := Int × Int
theorem nth_congr {l : List Pl} {i j : Nat} (h : i % l.length = j % l.length) : nth l i = nth l j := by unfold nth; rw [h]
theorem nth_add (l : List Pl) (i : Nat) : nth l (i + l.length) = nth l i := nth_congr (Nat.add_mod_right ..)
theorem side_add (l : List Pl) (i : Nat) : sideAt l (i + l.length) = sideAt l i := by
  unfold sideAt
  rw [nth_add, show i + l.length + 1 = i + 1 + l.length by omega, nth_add]
/-! ### numbers counted on from another one -/
theorem range_one {α : Type} (n : Nat) (F : Nat → α) (h : ∀ i, F (i + n) = F i) : ((List.range n).map fun i => F (i + 1)).Perm ((List.range n).map F) := by
  cases n with
  | zero => exact List.Perm.refl _
  | succ m =>
    have e1 : (List.range (m + 1)).map F = F 0 :: (List.range m).map fun i => F (i + 1) := by
      rw [List.range_succ_eq_map, List.map_cons, List.map_map]
      rfl
    have e2 : (List.range (m + 1)).map (fun i => F (i + 1)) = ((List.range m).map fun i => F (i + 1)) ++ [F 0] := by
      rw [List.range_succ, List.map_append, List.map_singleton]
      have := h 0
      rw [Nat.zero_add] at this
      rw [this]
    rw [e1, e2]
    exact List.perm_append_comm
theorem range_shift {α : Type} (n : Nat) (F : Nat → α) (h : ∀ i, F (i + n) = F i) : ∀ k, ((List.range n).map fun i => F (i + k)).Perm ((List.range n).map F)
  | 0 => List.Perm.refl _
  | k + 1 => by
    have h1 := range_one n (fun i => F (i + k)) (fun i => by rw [show i + n + k = i + k + n by omega, h])
    refine List.Perm.trans ?_ (range_shift n F h k)
    refine List.Perm.trans (List.Perm.of_eq ?_) h1
    exact List.map_congr_left fun i _ => by rw [show i + (k + 1) = i + 1 + k by omega]
theorem range_back {α : Type} (n : Nat) (F : Nat → α) : ((List.range n).map fun i => F (n - 1 - i)).Perm ((List.range n).map F) := by
  have e : ((List.range n).map fun i => F (n - 1 - i)) = ((List.range n).map F).reverse := by
    apply List.ext_getElem
    · simp
    · intro i h1 h2
      simp
  rw [e]
  exact List.reverse_perm _
/-! ### what does not ask for the order of the sides -/
theorem sumS_perm {f : Sd → Int} {a b : List Sd} (h : a.Perm b) : sumS f a = sumS f b := by
  induction h with
  | nil => rfl
  | cons x _ ih => simp only [sumS, List.map_cons, List.sum_cons] at ih ⊢; rw [ih]
  | swap x y l => simp only [sumS, List.map_cons, List.sum_cons]; omega
  | trans _ _ h1 h2 => exact h1.trans h2
theorem any_perm {α : Type} {f : α → Bool} {a b : List α} (h : a.Perm b) : a.any f = b.any f := by
  rw [Bool.eq_iff_iff, List.any_eq_true, List.any_eq_true]
  exact ⟨fun ⟨x, hx, k⟩ => ⟨x, h.mem_iff.1 hx, k⟩, fun ⟨x, hx, k⟩ => ⟨x, h.mem_iff.2 hx, k⟩⟩
theorem all_perm {α : Type} {f : α → Bool} {a b : List α} (h : a.Perm b) : a.all f = b.all f := by
  rw [Bool.eq_iff_iff, List.all_eq_true, List.all_eq_true]
  exact ⟨fun k x hx => k x (h.mem_iff.2 hx), fun k x hx => k x (h.mem_iff.1 hx)⟩
/-- the corners, each with the two behind it -/
def triAt (l : List Pl) (i : Nat) : Pl × Pl × Pl := (nth l i, nth l (i + 1), nth l (i + 2))
def triL (l : List Pl) : List (Pl × Pl × Pl) := (List.range l.length).map (triAt l)
def triV (t : Pl × Pl × Pl) : Int := turnV t.1.1 t.1.2 t.2.1.1 t.2.1.2 t.2.2.1 t.2.2.2
theorem tri_add (l : List Pl) (i : Nat) : triAt l (i + l.length) = triAt l i := by
  unfold triAt
  rw [nth_add, show i + l.length + 1 = i + 1 + l.length by omega, nth_add, show i + l.length + 2 = i + 2 + l.length by omega, nth_add]
theorem bends_tri (l : List Pl) : bendsB l = (triL l).all fun t => triV t != 0 := by
  unfold bendsB triL
  rw [List.all_map]
  rfl
theorem cross_symm {s t : Sd} : crossS s t = crossS t s := by
  unfold crossS
  by_cases h : onP s.1.1 s.1.2 ∧ onP s.2.1 s.2.2 ∧ onP t.1.1 t.1.2 ∧ onP t.2.1 t.2.2
  · obtain ⟨a, b, c, d⟩ := h
    exact (cross_c a b c d).symm
  · have k : ¬ (onP t.1.1 t.1.2 ∧ onP t.2.1 t.2.2 ∧ onP s.1.1 s.1.2 ∧ onP s.2.1 s.2.2) := fun ⟨a, b, c, d⟩ => h ⟨c, d, a, b⟩
    unfold crossV
    rw [if_neg h, if_neg k]
theorem free_symm (s t : Sd) : freeB s t = freeB t s := by
  unfold freeB
  rw [cross_symm (s := s)]
  generalize (s.1 == t.2) = a
  generalize (t.1 == s.2) = b
  generalize (crossS t s == 0) = c
  revert a b c
  decide
theorem simple_pairs (l : List Pl) : simpleB l = true ↔ (sidesL l).Pairwise fun s t => freeB s t = true := by
  unfold simpleB sidesL
  rw [List.all_eq_true, List.pairwise_map, List.pairwise_iff_getElem]
  constructor
  · intro h i j hi hj hij
    rw [List.getElem_range, List.getElem_range, free_symm]
    rw [List.length_range] at hj
    exact List.all_eq_true.1 (h j (List.mem_range.2 hj)) i (List.mem_range.2 hij)
  · intro h i hi
    rw [List.all_eq_true]
    intro k hk
    have hi := List.mem_range.1 hi
    have hk := List.mem_range.1 hk
    have := h k i (by rw [List.length_range]; omega) (by rw [List.length_range]; omega) hk
    rw [List.getElem_range, List.getElem_range, free_symm] at this
    exact this
theorem simple_perm {a b : List Pl} (h : (sidesL a).Perm (sidesL b)) : simpleB a = simpleB b := by
  rw [Bool.eq_iff_iff, simple_pairs, simple_pairs]
  exact h.pairwise_iff fun {x y} k => by rw [free_symm]; exact k
theorem where_perm {a b : List Pl} (h : (sidesL a).Perm (sidesL b)) (p : Pl) : whereP a p = whereP b p := by
  unfold whereP
  rw [any_perm h, sumS_perm h]
/-! ### a ring that begins with another one of its points -/
def rotL (k : Nat) (l : List Pl) : List Pl := l.drop k ++ l.take k
theorem rot_len (k : Nat) (l : List Pl) : (rotL k l).length = l.length := by
  unfold rotL
  rw [List.length_append, List.length_drop, List.length_take]
  omega
theorem rot_perm (k : Nat) (l : List Pl) : (rotL k l).Perm l := by
  unfold rotL
  exact List.perm_append_comm.trans (List.Perm.of_eq (List.take_append_drop k l))
theorem nth_rot {l : List Pl} {k : Nat} (hk : k ≤ l.length) (i : Nat) : nth (rotL k l) i = nth l (i + k) := by
  by_cases h0 : l.length = 0
  · have : l = [] := List.eq_nil_of_length_eq_zero h0
    subst this
    simp [rotL, nth]
  have hj : i % l.length < l.length := Nat.mod_lt _ (by omega)
  have e1 : nth (rotL k l) i = (rotL k l)[i % l.length]'(by rw [rot_len]; exact hj) := by
    have := nth_lt (l := rotL k l) (i := i % l.length) (by rw [rot_len]; exact hj)
    rw [← this]
    exact nth_congr (by rw [rot_len, Nat.mod_mod])
  have e2 : nth l (i + k) = nth l (i % l.length + k) := nth_congr (Nat.mod_add_mod _ _ _).symm
  rw [e1, e2]
  generalize i % l.length = j at hj
  unfold rotL
  rw [List.getElem_append]
  split
  · next h =>
    rw [List.length_drop] at h
    rw [List.getElem_drop, nth_lt (by omega)]
    congr 1
    omega
  · next h =>
    rw [List.length_drop] at h
    have e3 : nth l (j + k) = nth l (j + k - l.length) := nth_congr (by rw [show j + k = j + k - l.length + l.length by omega, Nat.add_mod_right, Nat.add_sub_cancel])
    rw [List.getElem_take, e3, nth_lt (by omega)]
    congr 1
    rw [List.length_drop]
    omega
theorem sides_rot {l : List Pl} {k : Nat} (hk : k ≤ l.length) : (sidesL (rotL k l)).Perm (sidesL l) := by
  unfold sidesL
  rw [rot_len]
  refine List.Perm.trans (List.Perm.of_eq ?_) (range_shift l.length (sideAt l) (side_add l) k)
  exact List.map_congr_left fun i _ => by unfold sideAt; rw [nth_rot hk, nth_rot hk, show i + 1 + k = i + k + 1 by omega]
theorem tri_rot {l : List Pl} {k : Nat} (hk : k ≤ l.length) : (triL (rotL k l)).Perm (triL l) := by
  unfold triL
  rw [rot_len]
  refine List.Perm.trans (List.Perm.of_eq ?_) (range_shift l.length (triAt l) (tri_add l) k)
  exact List.map_congr_left fun i _ => by unfold triAt; rw [nth_rot hk, nth_rot hk, nth_rot hk, show i + 1 + k = i + k + 1 by omega, show i + 2 + k = i + k + 2 by omega]
theorem bends_rot {l : List Pl} {k : Nat} (hk : k ≤ l.length) : bendsB (rotL k l) = bendsB l := by rw [bends_tri, bends_tri, all_perm (tri_rot hk)]
theorem area_rotL {l : List Pl} {k : Nat} (hk : k ≤ l.length) : areaS (rotL k l) = areaS l := sumS_perm (sides_rot hk)
theorem valid_rot {l : List Pl} {k : Nat} (hk : k ≤ l.length) : validB (rotL k l) = validB l := by
  unfold validB
  rw [rot_len, bends_rot hk, area_rotL hk, simple_perm (sides_rot hk)]
theorem twice_rot {l : List Pl} {k : Nat} (hk : k ≤ l.length) : twiceV (rotL k l) = twiceV l := by
  unfold twiceV
  rw [valid_rot hk, area_rotL hk]
theorem where_rot {l : List Pl} {k : Nat} (hk : k ≤ l.length) (x y : Int) : whereV (rotL k l) x y = whereV l x y := by
  unfold whereV
  rw [valid_rot hk, where_perm (sides_rot hk)]
/-! boxes -/
theorem min_le (d : Int) : ∀ l : List Int, minI l d ≤ d ∧ ∀ x ∈ l, minI l d ≤ x := fun l => by
  unfold minI
  induction l generalizing d with
  | nil => simp
  | cons a l ih =>
    obtain ⟨h1, h2⟩ := ih (min d a)
    rw [List.foldl_cons]
    refine ⟨by omega, fun x hx => ?_⟩
    rcases List.mem_cons.1 hx with rfl | hx
    · omega
    · exact h2 x hx
theorem min_mem (d : Int) : ∀ l : List Int, minI l d = d ∨ minI l d ∈ l := fun l => by
  unfold minI
  induction l generalizing d with
  | nil => simp
  | cons a l ih =>
    rw [List.foldl_cons]
    rcases ih (min d a) with h | h
    · rw [h]
      by_cases k : d ≤ a
      · left; omega
      · right
        rw [show min d a = a by omega]
        exact List.mem_cons_self ..
    · exact .inr (List.mem_cons_of_mem _ h)
theorem max_le (d : Int) : ∀ l : List Int, d ≤ maxI l d ∧ ∀ x ∈ l, x ≤ maxI l d := fun l => by
  unfold maxI
  induction l generalizing d with
  | nil => simp
  | cons a l ih =>
    obtain ⟨h1, h2⟩ := ih (max d a)
    rw [List.foldl_cons]
    refine ⟨by omega, fun x hx => ?_⟩
    rcases List.mem_cons.1 hx with rfl | hx
    · omega
    · exact h2 x hx
theorem max_mem (d : Int) : ∀ l : List Int, maxI l d = d ∨ maxI l d ∈ l := fun l => by
  unfold maxI
  induction l generalizing d with
  | nil => simp
  | cons a l ih =>
    rw [List.foldl_cons]
    rcases ih (max d a) with h | h
    · rw [h]
      by_cases k : a ≤ d
      · left; omega
      · right
        rw [show max d a = a by omega]
        exact List.mem_cons_self ..
    · exact .inr (List.mem_cons_of_mem _ h)
theorem min_same {l m : List Int} {d e : Int} (hd : d ∈ l) (he : e ∈ m) (h : ∀ x, x ∈ l ↔ x ∈ m) : minI l d = minI m e := by
  have a : minI l d ∈ l := by
    rcases min_mem d l with k | k
    · rw [k]; exact hd
    · exact k
  have b : minI m e ∈ m := by
    rcases min_mem e m with k | k
    · rw [k]; exact he
    · exact k
  have := (min_le d l).2 _ ((h _).2 b)
  have := (min_le e m).2 _ ((h _).1 a)
  omega
theorem max_same {l m : List Int} {d e : Int} (hd : d ∈ l) (he : e ∈ m) (h : ∀ x, x ∈ l ↔ x ∈ m) : maxI l d = maxI m e := by
  have a : maxI l d ∈ l := by
    rcases max_mem d l with k | k
    · rw [k]; exact hd
    · exact k
  have b : maxI m e ∈ m := by
    rcases max_mem e m with k | k
    · rw [k]; exact he
    · exact k
  have := (max_le d l).2 _ ((h _).2 b)
  have := (max_le e m).2 _ ((h _).1 a)
  omega
theorem box_rot {l : List Pl} {k : Nat} (hk : k ≤ l.length) : lowP (rotL k l) = lowP l ∧ highP (rotL k l) = highP l := by
  unfold lowP highP
  rw [valid_rot hk]
  cases hv : validB l with
  | false => exact ⟨rfl, rfl⟩
  | true =>
    have hl := (valid_len hv).1
    have hn : l ≠ [] := fun h => by rw [h] at hl; simp at hl
    have hr : rotL k l ≠ [] := fun h => hn (List.eq_nil_of_length_eq_zero (by rw [← rot_len k l, h]; rfl))
    have hm : ∀ f : Pl → Int, ∀ x, x ∈ (rotL k l).map f ↔ x ∈ l.map f := fun f x => ((rot_perm k l).map f).mem_iff
    have m1 : ∀ f : Pl → Int, f (nth (rotL k l) 0) ∈ (rotL k l).map f := fun f => List.mem_map_of_mem (nth_mem hr 0)
    have m2 : ∀ f : Pl → Int, f (nth l 0) ∈ l.map f := fun f => List.mem_map_of_mem (nth_mem hn 0)
    refine ⟨?_, ?_⟩
    · simp only [if_true]
      exact Prod.ext (min_same (m1 (·.1)) (m2 (·.1)) (hm (·.1))) (min_same (m1 (·.2)) (m2 (·.2)) (hm (·.2)))
    · simp only [if_true]
      exact Prod.ext (max_same (m1 (·.1)) (m2 (·.1)) (hm (·.1))) (max_same (m1 (·.2)) (m2 (·.2)) (hm (·.2)))
/-! two rings -/
theorem crossing_perm {a a' b b' : List Pl} (h : (sidesL a).Perm (sidesL a')) (k : (sidesL b).Perm (sidesL b')) : crossingB a b = crossingB a' b' := by
  unfold crossingB
  rw [any_perm h]
  exact congrArg (List.any _) (funext fun s => any_perm k)
theorem ends_rot {b c : List Pl} (hc : c.Perm b) {s : Sd} (hs : onS s) : endsS c s = endsS b s := by
  symm
  refine ends_settled hs ((ends_perm b s).trans ?_) (sortD_sorted _ _)
  exact List.Perm.append_right _ (hc.symm.filter _)
theorem reaches_left {a c b : List Pl} (h : (sidesL a).Perm (sidesL c)) (th : Int) : reachesB a b th = reachesB c b th := by
  unfold reachesB midsL
  rw [List.any_flatMap, List.any_flatMap, any_perm h]
theorem reaches_right {a b c : List Pl} (ha : onL a) (hc : c.Perm b) (h : (sidesL c).Perm (sidesL b)) (th : Int) : reachesB a c th = reachesB a b th := by
  unfold reachesB
  have e : midsL a c = midsL a b := by
    unfold midsL
    have : ∀ ss : List Sd, (∀ s ∈ ss, onS s) → ss.flatMap (midsS c) = ss.flatMap (midsS b) := fun ss hss => by
      induction ss with
      | nil => rfl
      | cons s ss ih =>
        rw [List.flatMap_cons, List.flatMap_cons, ih fun t ht => hss t (List.mem_cons_of_mem _ ht)]
        unfold midsS
        rw [ends_rot hc (hss s (List.mem_cons_self ..))]
    exact this _ fun s hs => onS_of ha hs
  rw [e]
  exact congrArg (List.any _) (funext fun p => by rw [where_perm h])
theorem within_rot {a b : List Pl} {k : Nat} (hk : k ≤ a.length) : withinB (rotL k a) b = withinB a b ∧ withinB b (rotL k a) = withinB b a ∧ apartR (rotL k a) b = apartR a b := by
  have hs := sides_rot hk
  unfold withinB apartR
  rw [valid_rot hk, crossing_perm hs (List.Perm.refl (sidesL b)), crossing_perm (List.Perm.refl (sidesL b)) hs, reaches_left hs]
  cases hb : validB b with
  | false => simp
  | true =>
    rw [reaches_right (valid_on hb) (rot_perm k a) hs, reaches_right (valid_on hb) (rot_perm k a) hs]
    exact ⟨rfl, rfl, rfl⟩
end Go.Proofs.Ytcpcmlonbpccnaa.Ge
