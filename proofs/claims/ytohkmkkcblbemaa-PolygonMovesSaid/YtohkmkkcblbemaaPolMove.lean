/- Rings that are moved, or have their coordinates exchanged and the opposite order: what they enclose, and what two of them do, is the same. -/
import Derived.Test.YtohkmkkcblbemaaPolTurn
namespace Go.Proofs.Ytohkmkkcblbemaa.Ge
set_option linter.unusedVariables false
set_option linter.unusedSimpArgs false

/-! ### how often a ring goes round a place does not depend on the direction in which it is counted -/
theorem sgm (a b : Int) : (a < 0 → b < 0 → 0 < a * b) ∧ (a < 0 → ¬ b < 0 → a * b ≤ 0) ∧ (¬ a < 0 → b < 0 → a * b ≤ 0) ∧ (¬ a < 0 → ¬ b < 0 → 0 ≤ a * b) :=
  ⟨fun h k => Int.mul_pos_of_neg_of_neg h k, fun h k => Int.mul_nonpos_of_nonpos_of_nonneg (by omega) (by omega), fun h k => Int.mul_nonpos_of_nonneg_of_nonpos (by omega) (by omega), fun h k => Int.mul_nonneg (by omega) (by omega)⟩
theorem quad {A B C D T x y z u : Int} (hx : (A < 0 → D < 0 → 0 < x) ∧ (A < 0 → ¬ D < 0 → x ≤ 0) ∧ (¬ A < 0 → D < 0 → x ≤ 0) ∧ (¬ A < 0 → ¬ D < 0 → 0 ≤ x))
    (hy : (B < 0 → C < 0 → 0 < y) ∧ (B < 0 → ¬ C < 0 → y ≤ 0) ∧ (¬ B < 0 → C < 0 → y ≤ 0) ∧ (¬ B < 0 → ¬ C < 0 → 0 ≤ y))
    (hz : (A < 0 → C < 0 → 0 < z) ∧ (A < 0 → ¬ C < 0 → z ≤ 0) ∧ (¬ A < 0 → C < 0 → z ≤ 0) ∧ (¬ A < 0 → ¬ C < 0 → 0 ≤ z))
    (hu : (B < 0 → D < 0 → 0 < u) ∧ (B < 0 → ¬ D < 0 → u ≤ 0) ∧ (¬ B < 0 → D < 0 → u ≤ 0) ∧ (¬ B < 0 → ¬ D < 0 → 0 ≤ u))
    (hT : 2 * T = x - y) (hn : ¬ (T = 0 ∧ z + u ≤ 0)) :
    (if ¬ B < 0 ∧ D < 0 ∧ 0 < T then (1 : Int) else if ¬ D < 0 ∧ B < 0 ∧ T < 0 then -1 else 0) - (if ¬ C < 0 ∧ A < 0 ∧ 0 < T then (1 : Int) else if ¬ A < 0 ∧ C < 0 ∧ T < 0 then -1 else 0) =
      (if C < 0 ∧ D < 0 then (1 : Int) else 0) - (if A < 0 ∧ B < 0 then (1 : Int) else 0) := by
  obtain ⟨x1, x2, x3, x4⟩ := hx
  obtain ⟨y1, y2, y3, y4⟩ := hy
  obtain ⟨z1, z2, z3, z4⟩ := hz
  obtain ⟨u1, u2, u3, u4⟩ := hu
  by_cases hA : A < 0 <;> by_cases hB : B < 0 <;> by_cases hC : C < 0 <;> by_cases hD : D < 0 <;>
    simp only [hA, hB, hC, hD, not_true_eq_false, not_false_eq_true, true_and, and_true, false_and, and_false, if_true, if_false, forall_const, false_implies] at x1 x2 x3 x4 y1 y2 y3 y4 z1 z2 z3 z4 u1 u2 u3 u4 ⊢ <;>
    (repeat' split) <;> omega
/-- 1 above and to the right of the place -/
def quadP (p q : Pl) : Int := if p.1 - 2 * q.1 < 0 ∧ p.2 - 2 * q.2 < 0 then 1 else 0
def gX (p : Pl) : Pl := (p.2, p.1)
def sX (s : Sd) : Sd := (gX s.2, gX s.1)
theorem tu_X (s : Sd) (p : Pl) : tuN s.2.2 s.2.1 s.1.2 s.1.1 p.2 p.1 = tuN s.1.1 s.1.2 s.2.1 s.2.2 p.1 p.2 := by unfold tuN; grind
theorem lo_X (s : Sd) (p : Pl) : loN s.2.2 s.2.1 s.1.2 s.1.1 p.2 p.1 = loN s.1.1 s.1.2 s.2.1 s.2.2 p.1 p.2 := by unfold loN; grind
theorem has_X (p : Pl) (s : Sd) : hasS (gX p) (sX s) = hasS p s := by
  unfold hasS hsB gX sX gX
  dsimp only
  rw [tu_X, lo_X]
theorem pass_X {p : Pl} {s : Sd} (h : hasS p s = false) : passS p s = passS (gX p) (sX s) + (quadP p s.2 - quadP p s.1) := by
  have hT : 2 * tuN s.1.1 s.1.2 s.2.1 s.2.2 p.1 p.2 = (p.1 - 2 * s.1.1) * (p.2 - 2 * s.2.2) - (p.2 - 2 * s.1.2) * (p.1 - 2 * s.2.1) := by unfold tuN; grind
  have hn : ¬ (tuN s.1.1 s.1.2 s.2.1 s.2.2 p.1 p.2 = 0 ∧ (p.1 - 2 * s.1.1) * (p.1 - 2 * s.2.1) + (p.2 - 2 * s.1.2) * (p.2 - 2 * s.2.2) ≤ 0) := by
    intro ⟨h1, h2⟩
    unfold hasS hsB loN at h
    rw [decide_eq_true h1, decide_eq_true h2] at h
    cases h
  have k := quad (sgm _ _) (sgm _ _) (sgm _ _) (sgm _ _) hT hn
  unfold passS paV quadP gX sX gX
  dsimp only
  rw [tu_X]
  have c1 : (2 * s.1.2 ≤ p.2 ∧ p.2 < 2 * s.2.2 ∧ 0 < tuN s.1.1 s.1.2 s.2.1 s.2.2 p.1 p.2) ↔ (¬ p.2 - 2 * s.1.2 < 0 ∧ p.2 - 2 * s.2.2 < 0 ∧ 0 < tuN s.1.1 s.1.2 s.2.1 s.2.2 p.1 p.2) := by omega
  have c2 : (2 * s.2.2 ≤ p.2 ∧ p.2 < 2 * s.1.2 ∧ tuN s.1.1 s.1.2 s.2.1 s.2.2 p.1 p.2 < 0) ↔ (¬ p.2 - 2 * s.2.2 < 0 ∧ p.2 - 2 * s.1.2 < 0 ∧ tuN s.1.1 s.1.2 s.2.1 s.2.2 p.1 p.2 < 0) := by omega
  have c3 : (2 * s.2.1 ≤ p.1 ∧ p.1 < 2 * s.1.1 ∧ 0 < tuN s.1.1 s.1.2 s.2.1 s.2.2 p.1 p.2) ↔ (¬ p.1 - 2 * s.2.1 < 0 ∧ p.1 - 2 * s.1.1 < 0 ∧ 0 < tuN s.1.1 s.1.2 s.2.1 s.2.2 p.1 p.2) := by omega
  have c4 : (2 * s.1.1 ≤ p.1 ∧ p.1 < 2 * s.2.1 ∧ tuN s.1.1 s.1.2 s.2.1 s.2.2 p.1 p.2 < 0) ↔ (¬ p.1 - 2 * s.1.1 < 0 ∧ p.1 - 2 * s.2.1 < 0 ∧ tuN s.1.1 s.1.2 s.2.1 s.2.2 p.1 p.2 < 0) := by omega
  simp only [c1, c2, c3, c4]
  omega
/-! ### sums over the sides -/
theorem sumS_map (f : Sd → Int) (S : Sd → Sd) (ss : List Sd) : sumS f (ss.map S) = sumS (fun s => f (S s)) ss := by
  unfold sumS
  rw [List.map_map]
  rfl
theorem sumS_add {f g h : Sd → Int} : ∀ ss : List Sd, (∀ s ∈ ss, f s = g s + h s) → sumS f ss = sumS g ss + sumS h ss
  | [], _ => rfl
  | s :: ss, k => by
    have h1 := k s (List.mem_cons_self ..)
    have h2 := sumS_add ss fun t ht => k t (List.mem_cons_of_mem _ ht)
    simp only [sumS, List.map_cons, List.sum_cons] at h2 ⊢
    omega
theorem sumS_congr {f g : Sd → Int} (ss : List Sd) (k : ∀ s ∈ ss, f s = g s) : sumS f ss = sumS g ss := by
  unfold sumS
  rw [List.map_congr_left k]
theorem sum_perm {a b : List Int} (h : a.Perm b) : a.sum = b.sum := by
  induction h with
  | nil => rfl
  | cons x _ ih => simp only [List.sum_cons]; rw [ih]
  | swap x y l => simp only [List.sum_cons]; omega
  | trans _ _ h1 h2 => exact h1.trans h2
/-- what grows from each point to the next one grows by nothing all round -/
theorem sum_round (l : List Pl) (f : Pl → Int) : sumS (fun s => f s.2 - f s.1) (sidesL l) = 0 := by
  have h1 : sumS (fun s => f s.2) (sidesL l) = sumS (fun s => f s.1) (sidesL l) := by
    unfold sumS sidesL
    rw [List.map_map, List.map_map]
    exact sum_perm (range_one l.length (fun i => f (nth l i)) (fun i => by rw [nth_add]))
  have h2 := sumS_add (f := fun s => f s.2) (g := fun s => f s.2 - f s.1) (h := fun s => f s.1) (sidesL l) fun s _ => by omega
  omega
/-! ### the nature of both changes -/
structure Chg (g : Pl → Pl) (S : Sd → Sd) (P : Pl → Pl) : Prop where
  cross : ∀ s t, onS s → onS t → onS (S s) → onS (S t) → crossS (S s) (S t) = crossS s t
  free : ∀ s t, onS s → onS t → onS (S s) → onS (S t) → freeB (S s) (S t) = freeB s t
  has : ∀ p s, hasS (P p) (S s) = hasS p s
  pass : ∀ l p, (sidesL l).any (hasS p) = false → sumS (fun s => passS (P p) (S s)) (sidesL l) = sumS (passS p) (sidesL l)
  area : ∀ l, sumS (fun s => partS (S s)) (sidesL l) = areaS l
  mids : ∀ b d s, onL b → onL d → onS s → onS (S s) → d.Perm (b.map g) → ∀ m, m ∈ midsS d (S s) ↔ ∃ k ∈ midsS b s, P k = m
variable {g : Pl → Pl} {S : Sd → Sd} {P : Pl → Pl}
theorem whereP_chg (K : Chg g S P) {l c : List Pl} (h : (sidesL c).Perm ((sidesL l).map S)) (p : Pl) : whereP c (P p) = whereP l p := by
  unfold whereP
  have e1 : (sidesL c).any (hasS (P p)) = (sidesL l).any (hasS p) := by
    rw [any_perm h, List.any_map]
    exact congrArg (fun f => List.any (sidesL l) f) (funext fun s => K.has p s)
  rw [e1]
  cases ha : (sidesL l).any (hasS p) with
  | true => simp
  | false => rw [sumS_perm h, sumS_map, K.pass l p ha]
theorem simple_chg (K : Chg g S P) {l c : List Pl} (h : (sidesL c).Perm ((sidesL l).map S)) (hl : onL l) (hc : onL c) (hv : simpleB l = true) : simpleB c = true := by
  rw [simple_pairs] at hv ⊢
  refine (h.pairwise_iff fun {x y} k => by rw [free_symm]; exact k).2 ?_
  rw [List.pairwise_map]
  have on2 : ∀ s ∈ sidesL l, onS (S s) := fun s hs => onS_of hc (h.mem_iff.2 (List.mem_map_of_mem hs))
  exact List.Pairwise.imp_of_mem (fun {s t} hs ht k => by rw [K.free s t (onS_of hl hs) (onS_of hl ht) (on2 s hs) (on2 t ht)]; exact k) hv
theorem area_chg (K : Chg g S P) {l c : List Pl} (h : (sidesL c).Perm ((sidesL l).map S)) : areaS c = areaS l := by
  unfold areaS
  rw [sumS_perm h, sumS_map, K.area]
  rfl
theorem crossing_chg (K : Chg g S P) {a c b d : List Pl} (h : (sidesL c).Perm ((sidesL a).map S)) (k : (sidesL d).Perm ((sidesL b).map S)) (ha : onL a) (hc : onL c) (hb : onL b) (hd : onL d) : crossingB c d = crossingB a b := by
  have on1 : ∀ s ∈ sidesL a, onS (S s) := fun s hs => onS_of hc (h.mem_iff.2 (List.mem_map_of_mem hs))
  have on2 : ∀ s ∈ sidesL b, onS (S s) := fun s hs => onS_of hd (k.mem_iff.2 (List.mem_map_of_mem hs))
  have e : ∀ s ∈ sidesL a, ((sidesL d).any fun t => crossS (S s) t == 2) = ((sidesL b).any fun t => crossS s t == 2) := fun s hs => by
    rw [any_perm k, List.any_map]
    rw [Bool.eq_iff_iff, List.any_eq_true, List.any_eq_true]
    constructor
    · rintro ⟨t, ht, q⟩
      refine ⟨t, ht, ?_⟩
      rw [← K.cross s t (onS_of ha hs) (onS_of hb ht) (on1 s hs) (on2 t ht)]
      exact q
    · rintro ⟨t, ht, q⟩
      refine ⟨t, ht, ?_⟩
      show (crossS (S s) (S t) == 2) = true
      rw [K.cross s t (onS_of ha hs) (onS_of hb ht) (on1 s hs) (on2 t ht)]
      exact q
  unfold crossingB
  rw [any_perm h, List.any_map, Bool.eq_iff_iff, List.any_eq_true, List.any_eq_true]
  constructor
  · rintro ⟨s, hs, q⟩
    exact ⟨s, hs, by rw [← e s hs]; exact q⟩
  · rintro ⟨s, hs, q⟩
    exact ⟨s, hs, (e s hs).trans q⟩
theorem reaches_chg (K : Chg g S P) {a c b d : List Pl} (h : (sidesL c).Perm ((sidesL a).map S)) (k : (sidesL d).Perm ((sidesL b).map S)) (kd : d.Perm (b.map g)) (ha : onL a) (hc : onL c) (hb : onL b) (hd : onL d) (th : Int) : reachesB c d th = reachesB a b th := by
  have on1 : ∀ s ∈ sidesL a, onS (S s) := fun s hs => onS_of hc (h.mem_iff.2 (List.mem_map_of_mem hs))
  unfold reachesB midsL
  rw [List.any_flatMap, List.any_flatMap, any_perm h, List.any_map, Bool.eq_iff_iff, List.any_eq_true, List.any_eq_true]
  constructor
  · rintro ⟨s, hs, q⟩
    refine ⟨s, hs, ?_⟩
    obtain ⟨m, hm, q⟩ := List.any_eq_true.1 q
    obtain ⟨n, hn, rfl⟩ := (K.mids b d s hb hd (onS_of ha hs) (on1 s hs) kd m).1 hm
    rw [whereP_chg K k] at q
    exact List.any_eq_true.2 ⟨n, hn, q⟩
  · rintro ⟨s, hs, q⟩
    refine ⟨s, hs, ?_⟩
    obtain ⟨n, hn, q⟩ := List.any_eq_true.1 q
    refine List.any_eq_true.2 ⟨P n, (K.mids b d s hb hd (onS_of ha hs) (on1 s hs) kd _).2 ⟨n, hn, rfl⟩, ?_⟩
    rw [whereP_chg K k]
    exact q
/-! ### middles -/
def midAt (e : List Pl) (k : Nat) : Pl := midP (e.getD k (0, 0)) (e.getD (k + 1) (0, 0))
theorem mids_at (e : List Pl) : ((e.zip e.tail).map fun x => midP x.1 x.2) = (List.range (e.length - 1)).map (midAt e) := by
  apply List.ext_getElem
  · simp
  · intro i h1 h2
    simp at h1 h2
    simp only [List.getElem_map, List.getElem_zip, List.getElem_tail, List.getElem_range]
    unfold midAt
    rw [List.getD_eq_getElem?_getD, List.getD_eq_getElem?_getD, List.getElem?_eq_getElem (by omega), List.getElem?_eq_getElem (by omega)]
    rfl
theorem midAt_get {e : List Pl} {k : Nat} (h : k + 1 < e.length) : midAt e k = midP e[k] e[k + 1] := by
  unfold midAt
  rw [List.getD_eq_getElem?_getD, List.getD_eq_getElem?_getD, List.getElem?_eq_getElem (by omega), List.getElem?_eq_getElem (by omega)]
  rfl
theorem mem_mids {e : List Pl} {m : Pl} : (m ∈ (e.zip e.tail).map fun x => midP x.1 x.2) ↔ ∃ k, ∃ h : k + 1 < e.length, midP e[k] e[k + 1] = m := by
  rw [mids_at, List.mem_map]
  constructor
  · rintro ⟨k, hk, rfl⟩
    have := List.mem_range.1 hk
    exact ⟨k, by omega, (midAt_get (by omega)).symm⟩
  · rintro ⟨k, hk, rfl⟩
    exact ⟨k, List.mem_range.2 (by omega), midAt_get hk⟩
theorem mids_mapped (hg : ∀ p q, midP (g p) (g q) = P (midP p q)) (e : List Pl) (m : Pl) : (m ∈ ((e.map g).zip (e.map g).tail).map fun x => midP x.1 x.2) ↔ ∃ k ∈ (e.zip e.tail).map fun x => midP x.1 x.2, P k = m := by
  rw [mem_mids]
  constructor
  · rintro ⟨k, hk, rfl⟩
    rw [List.length_map] at hk
    refine ⟨_, mem_mids.2 ⟨k, hk, rfl⟩, ?_⟩
    rw [List.getElem_map, List.getElem_map, hg]
  · rintro ⟨n, hn, rfl⟩
    obtain ⟨k, hk, rfl⟩ := mem_mids.1 hn
    refine ⟨k, by rw [List.length_map]; exact hk, ?_⟩
    rw [List.getElem_map, List.getElem_map, hg]
theorem mid_comm (p q : Pl) : midP p q = midP q p := by
  unfold midP
  rw [Int.add_comm, Int.add_comm p.2]
theorem mids_reverse (e : List Pl) (m : Pl) : (m ∈ (e.reverse.zip e.reverse.tail).map fun x => midP x.1 x.2) ↔ m ∈ (e.zip e.tail).map fun x => midP x.1 x.2 := by
  have key : ∀ e : List Pl, (m ∈ (e.reverse.zip e.reverse.tail).map fun x => midP x.1 x.2) → m ∈ (e.zip e.tail).map fun x => midP x.1 x.2 := fun e h => by
    obtain ⟨k, hk, rfl⟩ := mem_mids.1 h
    rw [List.length_reverse] at hk
    refine mem_mids.2 ⟨e.length - 1 - (k + 1), by omega, ?_⟩
    rw [List.getElem_reverse, List.getElem_reverse, mid_comm]
    congr 2
    omega
  refine ⟨key e, fun h => key e.reverse ?_⟩
  rw [List.reverse_reverse]
  exact h
end Go.Proofs.Ytohkmkkcblbemaa.Ge
