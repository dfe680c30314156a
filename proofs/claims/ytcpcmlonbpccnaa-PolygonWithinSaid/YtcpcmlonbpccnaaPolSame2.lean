/- Rings of points: which polygons are the same. -/
import Derived.Test.YtcpcmlonbpccnaaPolSame
namespace Go.Proofs.Ytcpcmlonbpccnaa.Jr
set_option linter.unusedVariables false
set_option linter.unusedSimpArgs false

theorem div_01' {l : Rat} (h : 0 < l) (w : 1 < l) : 0 < 1 / l ∧ 1 / l < 1 := Go.Proofs.Ytcpcmlonbpccnaa.Ge.div_01 (.inl ⟨by grind, w⟩)
def Same2 (P : Nat → Q2) (n : Nat) (R : Nat → Q2) (m : Nat) : Prop := ∀ q, wh P n q = wh R m q
theorem Same2.symm {P R : Nat → Q2} {n m : Nat} (h : Same2 P n R m) : Same2 R m P n := fun q => (h q).symm
theorem off_iff {P : Nat → Q2} {n : Nat} (h : Poly P n) (q : Q2) : Off P q ↔ wh P n q ≠ 0 := by
  rcases wh_cases h q with ⟨a, b⟩ | ⟨a, b, -⟩ | ⟨a, b, -⟩
  · exact ⟨fun o => absurd o b, fun k => absurd a k⟩
  · exact ⟨fun _ => by omega, fun _ => a⟩
  · exact ⟨fun _ => by omega, fun _ => a⟩
theorem off_same {P R : Nat → Q2} {n m : Nat} (hP : Poly P n) (hR : Poly R m) (e : Same2 P n R m) (q : Q2) : Off P q ↔ Off R q := by rw [off_iff hP, off_iff hR, e q]
theorem par_two {u a b : Q2} (hu : u.1 ≠ 0 ∨ u.2 ≠ 0) (h1 : cr u a = 0) (h2 : cr u b = 0) : cr a b = 0 := by
  have k1 := plu1 u a b
  have k2 := plu2 u a b
  rw [h1, h2] at k1 k2
  have m1 : u.1 * cr a b = 0 := by grind
  have m2 : u.2 * cr a b = 0 := by grind
  rcases hu with w | w
  · rcases Rat.mul_eq_zero.1 m1 with z | z
    · exact absurd z w
    · exact z
  · rcases Rat.mul_eq_zero.1 m2 with z | z
    · exact absurd z w
    · exact z
/-- beside an open side all is off the ring, but along the side -/
theorem off_beside {P : Nat → Q2} {n : Nat} (h : Poly P n) {j : Nat} {s : Rat} {u : Q2} (s0 : 0 < s) (s1 : s < 1) (hu : cr (dd P j) u ≠ 0) : Near fun t => Off P (mv (pt (P j) (P (j + 1)) s) u t) := by
  rcases (by grind : 0 < cr (dd P j) u ∨ cr (dd P j) u < 0) with w | w
  · exact (beside h (i := j) (σ := 1) (e := u) s0 s1 (.inl rfl) (by grind)).mono fun t _ m => m.1
  · exact (beside h (i := j) (σ := -1) (e := u) s0 s1 (.inr rfl) (by grind)).mono fun t _ m => m.1
theorem on_ring {P : Nat → Q2} {i : Nat} {s : Rat} (s0 : 0 ≤ s) (s1 : s ≤ 1) : ¬ Off P (pt (P i) (P (i + 1)) s) := fun o => o i s s0 s1 rfl
/-- no corner of the one lies inside a side of the other -/
theorem not_open {P R : Nat → Q2} {n m : Nat} (hP : Poly P n) (hR : Poly R m) (e : Same2 P n R m) (k j : Nat) {s : Rat} (s0 : 0 < s) (s1 : s < 1) : R (k + 1) ≠ pt (P j) (P (j + 1)) s := by
  intro h
  have f : ∀ u : Q2, (∀ t, 0 < t → t ≤ 1 → ¬ Off R (mv (R (k + 1)) u t)) → cr (dd P j) u = 0 := by
    intro u hu
    rcases (by grind : cr (dd P j) u = 0 ∨ cr (dd P j) u ≠ 0) with z | z
    · exact z
    · exfalso
      obtain ⟨t, t0, a, b⟩ := ((off_beside hP s0 s1 z).and (near_pos (x := 1) (y := -1) (by grind))).ex
      rw [← h] at a
      exact hu t t0 (by grind) ((off_same hP hR e _).1 a)
  have h1 := f (dd R (k + 1)) fun t t0 t1 => by
    have : mv (R (k + 1)) (dd R (k + 1)) t = pt (R (k + 1)) (R (k + 1 + 1)) t := rfl
    rw [this]; exact on_ring (by grind) t1
  have h2 := f (ng (dd R k)) fun t t0 t1 => by
    have : mv (R (k + 1)) (ng (dd R k)) t = pt (R k) (R (k + 1)) (1 - t) := by unfold mv ng dd sb pt; refine Prod.ext ?_ ?_ <;> show _ = _ <;> grind
    rw [this]; exact on_ring (by grind) (by grind)
  have h3 : cr (dd P j) (dd R k) = 0 := by rw [cr_ng2] at h2; grind
  exact hR.bent k (par_two (hP.ring.ne j) h3 h1)
theorem not_open' {P R : Nat → Q2} {n m : Nat} (hP : Poly P n) (hR : Poly R m) (e : Same2 P n R m) (i j : Nat) {s : Rat} (s0 : 0 < s) (s1 : s < 1) : R i ≠ pt (P j) (P (j + 1)) s := by
  have hm := hR.ring.n3
  have : R i = R (i + m - 1 + 1) := by rw [show i + m - 1 + 1 = i + m by omega, hR.ring.per]
  rw [this]
  exact not_open hP hR e _ j s0 s1
/-- each corner of the one is one of the other -/
theorem corner_in {P R : Nat → Q2} {n m : Nat} (hP : Poly P n) (hR : Poly R m) (e : Same2 P n R m) (i : Nat) : ∃ j, R i = P j := by
  have no : ¬ Off P (R i) := fun o => on_ring (P := R) (i := i) (s := 0) (by grind) (by grind) (by rw [pt_zero]; exact (off_same hP hR e _).1 o)
  rcases on_cases hP.ring (R i) with o | ⟨j, s, s0, s1, h⟩ | ⟨j, -, h⟩
  · exact absurd o no
  · exact absurd h (not_open' hP hR e i j s0 s1)
  · exact ⟨j + 1, h⟩
theorem rel_side {P : Nat → Q2} {n : Nat} (h : Ring P n) (j J : Nat) : ∃ k, k < n ∧ P J = P (j + k) ∧ P (J + 1) = P (j + k + 1) := by
  have hn := h.n3
  obtain ⟨r, hr, er⟩ : ∃ r, r < n ∧ (j + r) % n = J % n := by
    refine ⟨(J % n + (n - j % n)) % n, Nat.mod_lt _ (by omega), ?_⟩
    have h1 := Nat.mod_lt j (show 0 < n by omega)
    have h2 := Nat.mod_add_div j n
    rw [Nat.add_mod, Nat.mod_mod, ← Nat.add_mod, show j + (J % n + (n - j % n)) = J % n + n * (j / n + 1) by rw [Nat.mul_add]; omega, Nat.add_mul_mod_self_left, Nat.mod_mod]
  exact ⟨r, hr, by rw [per_mod h J, per_mod h (j + r), er], by rw [per_mod' h J, per_mod' h (j + r), er]⟩
/-- a way from a corner along the ring goes along one of its two sides -/
theorem along {P : Nat → Q2} {n : Nat} (h : Ring P n) {j : Nat} {d : Q2} (hd : d.1 ≠ 0 ∨ d.2 ≠ 0) (hon : ∀ t, 0 < t → t ≤ 1 → ¬ Off P (mv (P j) d t)) :
    ∃ l : Rat, 0 < l ∧ ((d = (l * (dd P j).1, l * (dd P j).2)) ∨ d = (-l * (dd P (j + (n - 1))).1, -l * (dd P (j + (n - 1))).2)) := by
  have hn := h.n3
  have far : Near fun t => ∀ k, k < n → (1 ≤ k ∧ k < n - 1) → Sep (P (j + k)) (P (j + k + 1)) (P j) (mv (P j) d t) := by
    refine Near.all n fun k hk => ?_
    by_cases k1 : 1 ≤ k ∧ k < n - 1
    · obtain ⟨δ, d0, hδ⟩ := near_sep (a := P (j + k)) (b := P (j + k + 1)) (q := P j) d (h.ne (j + k)) fun s s0 s1 e => by
        have e2 : pt (P j) (P (j + 1)) 0 = pt (P (j + k)) (P (j + k + 1)) s := by rw [pt_zero]; exact e
        rcases side_meets h k1.1 hk (by grind) (by grind) s0 s1 e2 with ⟨-, z⟩ | ⟨z, -⟩
        · grind
        · omega
      exact ⟨δ, d0, fun t t0 t1 _ => hδ t (by grind) t1⟩
    · exact Near.of fun _ _ m => absurd m k1
  obtain ⟨t, t0, hf, t1⟩ := (far.and (near_pos (x := 1) (y := -1) (by grind))).ex
  have hno := hon t t0 (by grind)
  obtain ⟨J, s, s0, s1, e⟩ : ∃ J s, 0 ≤ s ∧ s ≤ 1 ∧ mv (P j) d t = pt (P J) (P (J + 1)) s := by
    refine Classical.not_not.1 fun hn => hno fun J s s0 s1 e => hn ⟨J, s, s0, s1, e⟩
  obtain ⟨k, hk, e1, e2⟩ := rel_side h j J
  rw [e1, e2] at e
  have dz : ∀ l : Rat, ∀ v : Q2, d = (l * v.1, l * v.2) → l ≠ 0 := by
    intro l v ee z
    subst z
    rcases hd with w | w
    · exact w (by rw [ee]; show 0 * v.1 = 0; grind)
    · exact w (by rw [ee]; show 0 * v.2 = 0; grind)
  rcases (by omega : k = 0 ∨ k = n - 1 ∨ (1 ≤ k ∧ k < n - 1)) with rfl | rfl | w
  · have x1 : (P j).1 + t * d.1 = (P (j + 0)).1 + s * ((P (j + 0 + 1)).1 - (P (j + 0)).1) := congrArg Prod.fst e
    have x2 : (P j).2 + t * d.2 = (P (j + 0)).2 + s * ((P (j + 0 + 1)).2 - (P (j + 0)).2) := congrArg Prod.snd e
    rw [Nat.add_zero] at x1 x2
    have y1 : d.1 = s / t * (dd P j).1 := div_eq' t0 (by show t * d.1 = s * ((P (j + 1)).1 - (P j).1); grind)
    have y2 : d.2 = s / t * (dd P j).2 := div_eq' t0 (by show t * d.2 = s * ((P (j + 1)).2 - (P j).2); grind)
    have ee : d = (s / t * (dd P j).1, s / t * (dd P j).2) := Prod.ext y1 y2
    have z := dz _ _ ee
    rcases (by grind : s = 0 ∨ 0 < s) with q | q
    · exact absurd (by rw [q]; grind) z
    · exact ⟨s / t, div_pos' q t0, .inl ee⟩
  · have hp : P (j + (n - 1) + 1) = P j := by rw [show j + (n - 1) + 1 = j + n by omega]; exact h.per j
    have x1 : (P j).1 + t * d.1 = (P (j + (n - 1))).1 + s * ((P (j + (n - 1) + 1)).1 - (P (j + (n - 1))).1) := congrArg Prod.fst e
    have x2 : (P j).2 + t * d.2 = (P (j + (n - 1))).2 + s * ((P (j + (n - 1) + 1)).2 - (P (j + (n - 1))).2) := congrArg Prod.snd e
    have v1 : (dd P (j + (n - 1))).1 = (P (j + (n - 1) + 1)).1 - (P (j + (n - 1))).1 := rfl
    have v2 : (dd P (j + (n - 1))).2 = (P (j + (n - 1) + 1)).2 - (P (j + (n - 1))).2 := rfl
    rw [hp] at x1 x2 v1 v2
    have y1 : d.1 = (-(1 - s)) / t * (dd P (j + (n - 1))).1 := div_eq' t0 (by rw [v1]; grind)
    have y2 : d.2 = (-(1 - s)) / t * (dd P (j + (n - 1))).2 := div_eq' t0 (by rw [v2]; grind)
    have en : (-(1 - s)) / t = -((1 - s) / t) := by grind
    rw [en] at y1 y2
    have ee : d = (-((1 - s) / t) * (dd P (j + (n - 1))).1, -((1 - s) / t) * (dd P (j + (n - 1))).2) := Prod.ext y1 y2
    have z := dz _ _ ee
    rcases (by grind : s = 1 ∨ s < 1) with q | q
    · exact absurd (by rw [q]; grind) z
    · exact ⟨(1 - s) / t, div_pos' (by grind) t0, .inr ee⟩
  · exfalso
    have := hf k hk w
    exact sep_no this s0 s1 (show (0 : Rat) ≤ 1 by grind) (show (1 : Rat) ≤ 1 by grind) (by rw [pt_one]; exact e.symm)
/-- the next corner is the next corner -/
theorem next_in {P R : Nat → Q2} {n m : Nat} (hP : Poly P n) (hR : Poly R m) (e : Same2 P n R m) {i j : Nat} (h : R i = P j) : R (i + 1) = P (j + 1) := by
  have hn := hP.ring.n3
  have hm := hR.ring.n3
  have hd := hR.ring.ne i
  obtain ⟨l, l0, hl⟩ := along hP.ring (j := j) (d := dd R i) hd fun t t0 t1 o => by
    have e1 : mv (P j) (dd R i) t = pt (R i) (R (i + 1)) t := by rw [← h]; rfl
    rw [e1] at o
    exact on_ring (by grind) t1 ((off_same hP hR e _).1 o)
  have u1 : (dd R i).1 = (R (i + 1)).1 - (R i).1 := rfl
  have u2 : (dd R i).2 = (R (i + 1)).2 - (R i).2 := rfl
  have i01 : 1 < l → 0 < 1 / l ∧ 1 / l < 1 := fun w => div_01' (by grind) w
  have il : 1 / l * l = 1 := by grind
  rcases hl with hl | hl
  · have x1 : (dd R i).1 = l * (dd P j).1 := congrArg Prod.fst hl
    have x2 : (dd R i).2 = l * (dd P j).2 := congrArg Prod.snd hl
    have v1 : (dd P j).1 = (P (j + 1)).1 - (P j).1 := rfl
    have v2 : (dd P j).2 = (P (j + 1)).2 - (P j).2 := rfl
    rcases (by grind : l < 1 ∨ l = 1 ∨ 1 < l) with w | w | w
    · exfalso
      refine not_open' hP hR e (i + 1) j l0 w (Prod.ext ?_ ?_)
      · show _ = (P j).1 + l * ((P (j + 1)).1 - (P j).1); rw [h] at u1; grind
      · show _ = (P j).2 + l * ((P (j + 1)).2 - (P j).2); rw [h] at u2; grind
    · subst w
      rw [h] at u1 u2
      refine Prod.ext ?_ ?_
      · grind
      · grind
    · exfalso
      refine not_open' hR hP e.symm (j + 1) i (i01 w).1 (i01 w).2 (Prod.ext ?_ ?_)
      · show _ = (R i).1 + 1 / l * ((R (i + 1)).1 - (R i).1)
        rw [← u1, x1, ← Rat.mul_assoc, il, h]; grind
      · show _ = (R i).2 + 1 / l * ((R (i + 1)).2 - (R i).2)
        rw [← u2, x2, ← Rat.mul_assoc, il, h]; grind
  · exfalso
    obtain ⟨j', hj'⟩ : ∃ j', j + (n - 1) = j' := ⟨_, rfl⟩
    rw [hj'] at hl
    have hp : P (j' + 1) = P j := by rw [← hj', show j + (n - 1) + 1 = j + n by omega]; exact hP.ring.per j
    have x1 : (dd R i).1 = -l * (dd P j').1 := congrArg Prod.fst hl
    have x2 : (dd R i).2 = -l * (dd P j').2 := congrArg Prod.snd hl
    have v1 : (dd P j').1 = (P (j' + 1)).1 - (P j').1 := rfl
    have v2 : (dd P j').2 = (P (j' + 1)).2 - (P j').2 := rfl
    have hr : R i = P (j' + 1) := h.trans hp.symm
    rcases (by grind : l < 1 ∨ l = 1 ∨ 1 < l) with w | w | w
    · refine not_open' hP hR e (i + 1) j' (s := 1 - l) (by grind) (by grind) (Prod.ext ?_ ?_)
      · show _ = (P j').1 + (1 - l) * ((P (j' + 1)).1 - (P j').1); rw [hr] at u1; grind
      · show _ = (P j').2 + (1 - l) * ((P (j' + 1)).2 - (P j').2); rw [hr] at u2; grind
    · subst w
      have em : pt (R i) (R (i + 1)) (1 / 2) = pt (P j') (P (j' + 1)) (1 / 2) := by
        rw [hr] at u1 u2
        refine Prod.ext ?_ ?_
        · show (R i).1 + 1 / 2 * ((R (i + 1)).1 - (R i).1) = (P j').1 + 1 / 2 * ((P (j' + 1)).1 - (P j').1); rw [hr]; grind
        · show (R i).2 + 1 / 2 * ((R (i + 1)).2 - (R i).2) = (P j').2 + 1 / 2 * ((P (j' + 1)).2 - (P j').2); rw [hr]; grind
      have c1 : 0 < cr (dd R i) (nm R i) := by rw [nm_left]; exact sq_dd hR.ring i
      have c2 : cr (dd P j') (nm R i) < 0 := by
        have : cr (dd P j') (nm R i) = -cr (dd R i) (nm R i) := by
          have z1 : (dd P j').1 = -(dd R i).1 := by grind
          have z2 : (dd P j').2 = -(dd R i).2 := by grind
          unfold cr; rw [z1, z2]; grind
        rw [this]; grind
      obtain ⟨t, -, a, b⟩ := ((left_of hR (s := 1 / 2) (by grind) (by grind) c1).and (right_of hP (s := 1 / 2) (by grind) (by grind) c2)).ex
      rw [em] at a
      rw [e] at b
      rw [a] at b
      exact absurd b (by decide)
    · refine not_open' hR hP e.symm j' i (i01 w).1 (i01 w).2 (Prod.ext ?_ ?_)
      · show _ = (R i).1 + 1 / l * ((R (i + 1)).1 - (R i).1)
        rw [← u1, x1, hr]
        have : 1 / l * (-l * (dd P j').1) = -(dd P j').1 := by
          have : 1 / l * (-l * (dd P j').1) = -(1 / l * l) * (dd P j').1 := by grind
          rw [this, il]; grind
        rw [this]; grind
      · show _ = (R i).2 + 1 / l * ((R (i + 1)).2 - (R i).2)
        rw [← u2, x2, hr]
        have : 1 / l * (-l * (dd P j').2) = -(dd P j').2 := by
          have : 1 / l * (-l * (dd P j').2) = -(1 / l * l) * (dd P j').2 := by grind
          rw [this, il]; grind
        rw [this]; grind
theorem all_in {P R : Nat → Q2} {n m : Nat} (hP : Poly P n) (hR : Poly R m) (e : Same2 P n R m) {j : Nat} (h : R 0 = P j) : ∀ i, R i = P (j + i)
  | 0 => h
  | i + 1 => next_in hP hR e (all_in hP hR e h i)
theorem corner_mod {P : Nat → Q2} {n : Nat} (h : Ring P n) {a b : Nat} (e : P a = P b) : a % n = b % n := by
  have hn := h.n3
  have ha := Nat.mod_lt a (show 0 < n by omega)
  have hb := Nat.mod_lt b (show 0 < n by omega)
  rw [per_mod h a, per_mod h b] at e
  have key : ∀ x y, x < y → y < n → P x ≠ P y := fun x y hx hy ee => by
    rcases Nat.eq_zero_or_pos x with rfl | x0
    · have := vertex_ne h (a := y - 1) (b := n - 1) (by omega) (by omega)
      rw [show y - 1 + 1 = y by omega, show n - 1 + 1 = 0 + n by omega, h.per] at this
      exact this ee.symm
    · have := vertex_ne h (a := x - 1) (b := y - 1) (by omega) (by omega)
      rw [show x - 1 + 1 = x by omega, show y - 1 + 1 = y by omega] at this
      exact this ee
  rcases Nat.lt_trichotomy (a % n) (b % n) with w | w | w
  · exact absurd e (key _ _ w hb)
  · exact w
  · exact absurd e.symm (key _ _ w ha)
theorem len_dvd {P R : Nat → Q2} {n m : Nat} (hP : Poly P n) (hR : Poly R m) (e : Same2 P n R m) : n ∣ m := by
  obtain ⟨j, hj⟩ := corner_in hP hR e 0
  have h1 := all_in hP hR e hj m
  have h2 : R m = R 0 := by have := hR.ring.per 0; rw [Nat.zero_add] at this; exact this
  rw [h2, hj] at h1
  have h3 := corner_mod hP.ring h1
  have h4 := Nat.sub_mod_eq_zero_of_mod_eq h3.symm
  rw [Nat.add_sub_cancel_left] at h4
  exact Nat.dvd_of_mod_eq_zero h4
/-- polygons with the same places have the same corners, from some one on -/
theorem same_corners {P R : Nat → Q2} {n m : Nat} (hP : Poly P n) (hR : Poly R m) (e : Same2 P n R m) : n = m ∧ ∃ j, j < n ∧ ∀ i, R i = P (j + i) := by
  have hn := hP.ring.n3
  have hm := hR.ring.n3
  refine ⟨Nat.dvd_antisymm (len_dvd hP hR e) (len_dvd hR hP e.symm), ?_⟩
  obtain ⟨j, hj⟩ := corner_in hP hR e 0
  refine ⟨j % n, Nat.mod_lt _ (by omega), fun i => ?_⟩
  rw [all_in hP hR e hj i, per_mod hP.ring (j + i), per_mod hP.ring (j % n + i), Nat.mod_add_mod]
/-- a ring that begins with another corner has the same places -/
theorem turn_same {P R : Nat → Q2} {n : Nat} (hP : Ring P n) {j : Nat} (h : ∀ i, R i = P (j + i)) : Same2 P n R n := by
  intro q
  have ho : Off R q ↔ Off P q := by
    constructor
    · intro o i s s0 s1 e
      obtain ⟨k, -, e1, e2⟩ := rel_side hP j i
      refine o k s s0 s1 ?_
      rw [h k, h (k + 1), show j + (k + 1) = j + k + 1 by omega, ← e1, ← e2]
      exact e
    · intro o i s s0 s1 e
      rw [h i, h (i + 1)] at e
      exact o (j + i) s s0 s1 e
  have hw : wn R n q = wn P n q := by
    unfold wn
    rw [← sm_shift (fun i => sx P i q) n (fun i => sx_per hP q i) j]
    refine sm_congr n fun i _ => ?_
    unfold sx
    rw [h i, h (i + 1)]
    rfl
  unfold wh
  rw [hw]
  by_cases o : Off P q
  · rw [if_pos o, if_pos (ho.2 o)]
  · rw [if_neg o, if_neg fun k => o (ho.1 k)]
end Go.Proofs.Ytcpcmlonbpccnaa.Jr
namespace Go.Proofs.Ytcpcmlonbpccnaa.Ge
open Go.Proofs.Ytcpcmlonbpccnaa.Jr
set_option linter.unusedVariables false
set_option linter.unusedSimpArgs false

theorem pick_k {l : List Pl} (h : validB l = true) {k : Nat} (hk : 0 < k) : bs 0 0 (k * 32767 + 1) (k * 32767 + 1) (fun x y => wh (PQ (scL k (fn l))) l.length (cQ (x, y)) + 1) = (k : Int) * (k : Int) * areaS l + 2 := by
  rw [area_sm]
  exact pick_fine hk (valid_ring h) (by have := fn_per l 0; rw [Nat.zero_add] at this; exact this) (fun j => side_pts h j) (by rw [← area_sm]; exact (valid_parts h).2.2.2.1)
theorem fine_le {a b : List Pl} (ha : validB a = true) (hb : validB b = true) (h : Sub (PQ (fn a)) a.length (PQ (fn b)) b.length) {k : Nat} (hk : 0 < k) (x y : Int) :
    wh (PQ (scL k (fn a))) a.length (cQ (x, y)) + 1 ≤ wh (PQ (scL k (fn b))) b.length (cQ (x, y)) + 1 := by
  have kp := k_pos hk
  have e : cQ (x, y) = scQ k ((x : Rat) / (k : Rat), (y : Rat) / (k : Rat)) := by
    unfold cQ scQ
    refine Prod.ext ?_ ?_
    · show (x : Rat) = (k : Rat) * ((x : Rat) / (k : Rat))
      generalize (k : Rat) = K at *
      grind
    · show (y : Rat) = (k : Rat) * ((y : Rat) / (k : Rat))
      generalize (k : Rat) = K at *
      grind
  rw [e, wh_sc hk, wh_sc hk]
  have := wh_le (valid_poly ha) (valid_poly hb) h ((x : Rat) / (k : Rat), (y : Rat) / (k : Rat))
  omega
theorem area_le {a b : List Pl} (ha : validB a = true) (hb : validB b = true) (h : Sub (PQ (fn a)) a.length (PQ (fn b)) b.length) : areaS a ≤ areaS b := by
  have h1 := pick_k ha (k := 1) (by decide)
  have h2 := pick_k hb (k := 1) (by decide)
  have h3 := bs_le (X0 := 0) (Y0 := 0) (W := 1 * 32767 + 1) (H := 1 * 32767 + 1) (fine_le ha hb h (k := 1) (by decide))
  rw [h1, h2] at h3
  simp only [Int.natCast_one, Int.one_mul] at h3
  omega
theorem area_same {a b : List Pl} (ha : validB a = true) (hb : validB b = true) (h : Sub (PQ (fn a)) a.length (PQ (fn b)) b.length) (e : areaS a = areaS b) : Same2 (PQ (fn a)) a.length (PQ (fn b)) b.length := by
  intro q
  have pa := valid_poly ha
  have pb := valid_poly hb
  have on : ∀ {l : List Pl}, validB l = true → ∀ j, (0 ≤ (PQ (fn l) j).1 ∧ (PQ (fn l) j).1 ≤ 32767) ∧ 0 ≤ (PQ (fn l) j).2 ∧ (PQ (fn l) j).2 ≤ 32767 := fun hl j => by
    obtain ⟨⟨a1, a2⟩, b1, b2⟩ := side_pts hl j
    have c : ((32767 : Int) : Rat) = 32767 := rfl
    exact ⟨⟨cast_ge0.2 a1, by rw [← c]; exact Rat.intCast_le_intCast.2 a2⟩, cast_ge0.2 b1, by rw [← c]; exact Rat.intCast_le_intCast.2 b2⟩
  rcases (by grind : q.1 < 0 ∨ 32767 < q.1 ∨ q.2 < 0 ∨ 32767 < q.2 ∨ ((0 ≤ q.1 ∧ q.1 ≤ 32767) ∧ 0 ≤ q.2 ∧ q.2 ≤ 32767)) with w | w | w | w | w
  · rw [far_wh pa (.inl fun j => by have := (on ha j).1.1; grind), far_wh pb (.inl fun j => by have := (on hb j).1.1; grind)]
  · rw [far_wh pa (.inr (.inl fun j => by have := (on ha j).1.2; grind)), far_wh pb (.inr (.inl fun j => by have := (on hb j).1.2; grind))]
  · rw [far_wh pa (.inr (.inr (.inl fun j => by have := (on ha j).2.1; grind))), far_wh pb (.inr (.inr (.inl fun j => by have := (on hb j).2.1; grind)))]
  · rw [far_wh pa (.inr (.inr (.inr fun j => by have := (on ha j).2.2; grind))), far_wh pb (.inr (.inr (.inr fun j => by have := (on hb j).2.2; grind)))]
  · obtain ⟨k, s, t, hk, hs, ht, eq⟩ := fine_pt w.1.1 w.1.2 w.2.1 w.2.2
    have h1 := pick_k ha hk
    have h2 := pick_k hb hk
    have h3 := bs_eq_all (fine_le ha hb h hk) (by rw [h1, h2, e]) hs ht
    rw [eq, wh_sc hk, wh_sc hk] at h3
    omega
/-- have both rings the same points, from some one on? -/
def sameP (a b : List Pl) : Prop := ∃ k, k < a.length ∧ a.length = b.length ∧ ∀ i, i < a.length → nth a (i + k) = nth b i
theorem sameP_all {a b : List Pl} (hl : 0 < a.length) {k : Nat} (e : a.length = b.length) (h : ∀ i, i < a.length → nth a (i + k) = nth b i) : ∀ i, PQ (fn b) i = PQ (fn a) (k + i) := by
  intro i
  show cQ (nth b i) = cQ (nth a (k + i))
  have h1 := h (i % a.length) (Nat.mod_lt _ hl)
  have h2 : nth b (i % a.length) = nth b i := by rw [e]; exact nth_mod b i
  have h3 : nth a (i % a.length + k) = nth a (k + i) := by
    rw [← nth_mod a (i % a.length + k), ← nth_mod a (k + i), Nat.mod_add_mod, Nat.add_comm i k]
  rw [← h2, ← h1, h3]
theorem same2_iff {a b : List Pl} (ha : validB a = true) (hb : validB b = true) : Same2 (PQ (fn a)) a.length (PQ (fn b)) b.length ↔ sameP a b := by
  have pa := valid_poly ha
  have pb := valid_poly hb
  have la := (valid_len ha).1
  constructor
  · intro h
    obtain ⟨e, j, hj, hc⟩ := same_corners pa pb h
    exact ⟨j, hj, e, fun i _ => by have := cQ_inj (hc i); rw [Nat.add_comm]; exact this.symm⟩
  · rintro ⟨k, hk, e, h⟩
    have := turn_same (valid_ring ha) (sameP_all (by omega) e h)
    rw [← e]
    exact this
/-! ### what the law Within asks -/
theorem within_self {a : List Pl} : withinB a a = validB a := by
  cases h : validB a with
  | true => exact (within_iff h h).2 fun q hq => hq
  | false => unfold withinB; rw [h]; rfl
theorem within_valid {a b : List Pl} (h : withinB a b = true) : validB a = true ∧ validB b = true := by
  unfold withinB at h
  simp only [Bool.and_eq_true] at h
  exact ⟨h.1, h.2.1⟩
theorem within_twice {a b : List Pl} (h : withinB a b = true) : twiceV a ≤ twiceV b := by
  obtain ⟨ha, hb⟩ := within_valid h
  unfold twiceV
  rw [if_pos ha, if_pos hb]
  exact area_le ha hb ((within_iff ha hb).1 h)
theorem within_where {a b : List Pl} (h : withinB a b = true) (x y : Int) : whereV a x y ≤ whereV b x y := by
  obtain ⟨ha, hb⟩ := within_valid h
  by_cases hp : onP x y
  · rw [whereV_wh ha hp, whereV_wh hb hp]
    exact wh_le (valid_poly ha) (valid_poly hb) ((within_iff ha hb).1 h) _
  · unfold whereV
    rw [if_neg fun k => hp k.1, if_neg fun k => hp k.1]
    exact Int.le_refl _
theorem within_trans {a b c : List Pl} (h : withinB a b = true) (k : withinB b c = true) : withinB a c = true := by
  obtain ⟨ha, hb⟩ := within_valid h
  obtain ⟨-, hc⟩ := within_valid k
  exact (within_iff ha hc).2 fun q hq => (within_iff hb hc).1 k q ((within_iff ha hb).1 h q hq)
theorem within_back {a b : List Pl} (h : withinB a b = true) : (withinB b a = true ↔ sameP a b) ∧ (twiceV a = twiceV b ↔ sameP a b) := by
  obtain ⟨ha, hb⟩ := within_valid h
  have hs := (within_iff ha hb).1 h
  have back : sameP a b → withinB b a = true := fun k => (within_iff hb ha).2 fun q hq => by rw [(same2_iff ha hb).2 k q]; exact hq
  have fore : areaS a = areaS b → sameP a b := fun k => (same2_iff ha hb).1 (area_same ha hb hs k)
  have area : withinB b a = true → areaS a = areaS b := fun k => by
    have h1 := area_le ha hb hs
    have h2 := area_le hb ha ((within_iff hb ha).1 k)
    omega
  unfold twiceV
  rw [if_pos ha, if_pos hb]
  exact ⟨⟨fun k => fore (area k), back⟩, fore, fun k => area (back k)⟩
end Go.Proofs.Ytcpcmlonbpccnaa.Ge
