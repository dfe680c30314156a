/- Rings of points: areas of polygons within one another, and polygons that are the same. -/
import Derived.Test.YtcpcmlonbpccnaaBdP6
namespace Go.Proofs.Ytcpcmlonbpccnaa.Jr
set_option linter.unusedVariables false
set_option linter.unusedSimpArgs false

theorem wh_le {P R : Nat → Q2} {n m : Nat} (hP : Poly P n) (hR : Poly R m) (h : Sub P n R m) (q : Q2) : wh P n q ≤ wh R m q := by
  rcases wh_cases hP q with ⟨a, -⟩ | ⟨-, a, -⟩ | ⟨-, a, -⟩
  · have := h q (by rw [a]; exact Int.le_refl _); omega
  · rw [a, sub_inner hP hR h a]; exact Int.le_refl _
  · rcases wh_cases hR q with ⟨b, -⟩ | ⟨-, b, -⟩ | ⟨-, b, -⟩ <;> omega
theorem sm_eq_all {f g : Nat → Int} : ∀ k, (∀ j, j < k → f j ≤ g j) → sm f k = sm g k → ∀ j, j < k → f j = g j
  | 0, _, _ => fun j hj => absurd hj (Nat.not_lt_zero _)
  | k + 1, h, e => fun j hj => by
    have h1 := sm_le (f := f) (g := g) k (fun i hi => h i (by omega))
    have h2 := h k (by omega)
    rw [sm, sm] at e
    rcases Nat.lt_or_ge j k with m | m
    · exact sm_eq_all k (fun i hi => h i (by omega)) (by omega) j m
    · obtain rfl : j = k := by omega
      omega
theorem bs_le {X0 Y0 : Int} {W H : Nat} {f g : Int → Int → Int} (h : ∀ x y, f x y ≤ g x y) : bs X0 Y0 W H f ≤ bs X0 Y0 W H g := sm_le H fun s _ => sm_le W fun t _ => h _ _
theorem bs_eq_all {X0 Y0 : Int} {W H : Nat} {f g : Int → Int → Int} (h : ∀ x y, f x y ≤ g x y) (e : bs X0 Y0 W H f = bs X0 Y0 W H g) {s t : Nat} (hs : s < H) (ht : t < W) : f (X0 + t) (Y0 + s) = g (X0 + t) (Y0 + s) := by
  unfold bs at e
  have h1 := sm_eq_all H (fun j _ => sm_le W fun i _ => h _ _) e s hs
  exact sm_eq_all W (fun j _ => h _ _) h1 t ht

/-! ### rings k times as large -/
def scQ (k : Nat) (q : Q2) : Q2 := ((k : Rat) * q.1, (k : Rat) * q.2)
def scL (k : Nat) (l : Nat → Int × Int) (j : Nat) : Int × Int := ((k : Int) * (l j).1, (k : Int) * (l j).2)
theorem PQ_sc (k : Nat) (l : Nat → Int × Int) (j : Nat) : PQ (scL k l) j = scQ k (PQ l j) := by
  unfold PQ scL scQ cQ
  simp only [Rat.intCast_mul]
  rfl
theorem sb_sc (k : Nat) (a b : Q2) : sb (scQ k a) (scQ k b) = ((k : Rat) * (sb a b).1, (k : Rat) * (sb a b).2) := by unfold sb scQ; refine Prod.ext ?_ ?_ <;> show _ = _ <;> grind
theorem k_pos {k : Nat} (hk : 0 < k) : (0 : Rat) < (k : Rat) := by
  have : ((0 : Int) : Rat) < ((k : Int) : Rat) := Rat.intCast_lt_intCast.2 (by omega)
  exact this
theorem sep_sc {k : Nat} (hk : 0 < k) {a b c d : Q2} (h : Sep a b c d) : Sep (scQ k a) (scQ k b) (scQ k c) (scQ k d) := by
  obtain ⟨e, ⟨h1, h2⟩, h3, h4⟩ := h
  have kp := k_pos hk
  have key : ∀ x y : Q2, 0 < cr e (sb x y) → 0 < cr e (sb (scQ k x) (scQ k y)) := fun x y hxy => by
    have : cr e (sb (scQ k x) (scQ k y)) = (k : Rat) * cr e (sb x y) := by rw [sb_sc]; unfold cr; grind
    rw [this]
    exact Rat.mul_pos kp hxy
  exact ⟨e, ⟨key _ _ h1, key _ _ h2⟩, key _ _ h3, key _ _ h4⟩
theorem ring_sc {k : Nat} (hk : 0 < k) {l : Nat → Int × Int} {n : Nat} (h : Ring (PQ l) n) : Ring (PQ (scL k l)) n where
  n3 := h.n3
  per i := by rw [PQ_sc, PQ_sc, h.per]
  sep i j a b := by
    rw [PQ_sc, PQ_sc, PQ_sc, PQ_sc]
    exact sep_sc hk (h.sep i j a b)
  ne i := by
    have kp := k_pos hk
    rw [PQ_sc, PQ_sc, sb_sc]
    rcases h.ne i with m | m
    · exact .inl fun e => by rcases Rat.mul_eq_zero.1 e with q | q <;> grind
    · exact .inr fun e => by rcases Rat.mul_eq_zero.1 e with q | q <;> grind
  opp i := by
    have kp := k_pos hk
    rw [PQ_sc, PQ_sc, PQ_sc, sb_sc, sb_sc]
    rintro ⟨h1, h2⟩
    refine h.opp i ⟨?_, ?_⟩
    · have e : cr ((k : Rat) * (sb (PQ l (i + 1)) (PQ l i)).1, (k : Rat) * (sb (PQ l (i + 1)) (PQ l i)).2) ((k : Rat) * (sb (PQ l (i + 2)) (PQ l (i + 1))).1, (k : Rat) * (sb (PQ l (i + 2)) (PQ l (i + 1))).2) = ((k : Rat) * (k : Rat)) * cr (sb (PQ l (i + 1)) (PQ l i)) (sb (PQ l (i + 2)) (PQ l (i + 1))) := by unfold cr; grind
      rw [e] at h1
      rcases Rat.mul_eq_zero.1 h1 with q | q
      · rcases Rat.mul_eq_zero.1 q with q | q <;> grind
      · exact q
    · have e : dt ((k : Rat) * (sb (PQ l (i + 1)) (PQ l i)).1, (k : Rat) * (sb (PQ l (i + 1)) (PQ l i)).2) ((k : Rat) * (sb (PQ l (i + 2)) (PQ l (i + 1))).1, (k : Rat) * (sb (PQ l (i + 2)) (PQ l (i + 1))).2) = ((k : Rat) * (k : Rat)) * dt (sb (PQ l (i + 1)) (PQ l i)) (sb (PQ l (i + 2)) (PQ l (i + 1))) := by unfold dt; grind
      rw [e] at h2
      have m := sgnmul ((k : Rat) * (k : Rat)) (dt (sb (PQ l (i + 1)) (PQ l i)) (sb (PQ l (i + 2)) (PQ l (i + 1))))
      have mk := Rat.mul_pos kp kp
      grind
theorem off_sc {k : Nat} (hk : 0 < k) {l : Nat → Int × Int} {q : Q2} : Off (PQ (scL k l)) (scQ k q) ↔ Off (PQ l) q := by
  have kp := k_pos hk
  have key : ∀ j s, pt (PQ (scL k l) j) (PQ (scL k l) (j + 1)) s = scQ k (pt (PQ l j) (PQ l (j + 1)) s) := fun j s => by
    rw [PQ_sc, PQ_sc]; unfold pt scQ; refine Prod.ext ?_ ?_ <;> show _ = _ <;> grind
  have inj : ∀ x y : Q2, scQ k x = scQ k y → x = y := fun x y e => by
    have e1 : (k : Rat) * x.1 = (k : Rat) * y.1 := congrArg Prod.fst e
    have e2 : (k : Rat) * x.2 = (k : Rat) * y.2 := congrArg Prod.snd e
    have z1 : (k : Rat) * (x.1 - y.1) = 0 := by grind
    have z2 : (k : Rat) * (x.2 - y.2) = 0 := by grind
    refine Prod.ext ?_ ?_
    · rcases Rat.mul_eq_zero.1 z1 with q | q <;> grind
    · rcases Rat.mul_eq_zero.1 z2 with q | q <;> grind
  constructor
  · intro h j s s0 s1 e
    exact h j s s0 s1 (by rw [key, e])
  · intro h j s s0 s1 e
    rw [key] at e
    exact h j s s0 s1 (inj _ _ e)
theorem wn_sc {k : Nat} (hk : 0 < k) {l : Nat → Int × Int} {n : Nat} {q : Q2} : wn (PQ (scL k l)) n (scQ k q) = wn (PQ l) n q := by
  have kp := k_pos hk
  unfold wn
  refine sm_congr n fun j _ => ?_
  unfold sx
  rw [PQ_sc, PQ_sc, sb_sc, sb_sc, chi_scale (u := _) (v := sb (PQ l (j + 1)) q) kp rfl rfl, chi_scale' (u := _) (v := sb (PQ l j) q) kp rfl rfl]
theorem wh_sc {k : Nat} (hk : 0 < k) {l : Nat → Int × Int} {n : Nat} {q : Q2} : wh (PQ (scL k l)) n (scQ k q) = wh (PQ l) n q := by
  unfold wh
  rw [wn_sc hk]
  by_cases h : Off (PQ l) q
  · rw [if_pos h, if_pos ((off_sc hk).2 h)]
  · rw [if_neg h, if_neg fun k' => h ((off_sc hk).1 k')]
theorem area_sc (k : Nat) (l : Nat → Int × Int) (n : Nat) : area2 (scL k l) n = (k : Int) * (k : Int) * area2 l n := by
  unfold area2
  rw [← sm_mul]
  refine sm_congr n fun j _ => ?_
  unfold scL
  dsimp only
  grind
/-- Pick's theorem on a grid k times as fine -/
theorem pick_fine {k : Nat} (hk : 0 < k) {l : Nat → Int × Int} {n : Nat} (h : Ring (PQ l) n) (hper : l n = l 0) (hon : ∀ j, (0 ≤ (l j).1 ∧ (l j).1 ≤ 32767) ∧ 0 ≤ (l j).2 ∧ (l j).2 ≤ 32767) (ha : 0 < area2 l n) :
    bs 0 0 (k * 32767 + 1) (k * 32767 + 1) (fun x y => wh (PQ (scL k l)) n (cQ (x, y)) + 1) = (k : Int) * (k : Int) * area2 l n + 2 := by
  rw [← area_sc]
  refine pick (ring_sc hk h) (by unfold scL; rw [hper]) (fun j => ?_) ?_
  · obtain ⟨⟨a1, a2⟩, b1, b2⟩ := hon j
    have k0 : (0 : Int) ≤ (k : Int) := by omega
    have m1 := Int.mul_nonneg k0 a1
    have m2 := Int.mul_nonneg k0 b1
    have m3 := Int.mul_le_mul_of_nonneg_left a2 k0
    have m4 := Int.mul_le_mul_of_nonneg_left b2 k0
    refine ⟨m1, ?_, m2, ?_⟩
    · show (k : Int) * (l j).1 < 0 + ((k * 32767 + 1 : Nat) : Int); omega
    · show (k : Int) * (l j).2 < 0 + ((k * 32767 + 1 : Nat) : Int); omega
  · rw [area_sc]
    exact Int.mul_pos (Int.mul_pos (by omega) (by omega)) ha
/-- places outside of the square of the grid -/
theorem far_wh {P : Nat → Q2} {n : Nat} (h : Poly P n) {q : Q2} (hs : (∀ j, q.1 < (P j).1) ∨ (∀ j, (P j).1 < q.1) ∨ (∀ j, q.2 < (P j).2) ∨ ∀ j, (P j).2 < q.2) : wh P n q = -1 := by
  have ho : Off P q := by
    intro j s s0 s1 e
    have e1 : q.1 = (P j).1 + s * ((P (j + 1)).1 - (P j).1) := congrArg Prod.fst e
    have e2 : q.2 = (P j).2 + s * ((P (j + 1)).2 - (P j).2) := congrArg Prod.snd e
    have key : ∀ a b c : Rat, c < a → c < b → c ≠ a + s * (b - a) := fun a b c h1 h2 e => by
      have m1 := Rat.mul_nonneg s0 (show 0 ≤ b - c by grind)
      have m2 := Rat.mul_nonneg (show 0 ≤ 1 - s by grind) (show 0 ≤ a - c by grind)
      rcases (by grind : s = 0 ∨ 0 < s) with z | z
      · subst z; grind
      · have := Rat.mul_pos z (show 0 < b - c by grind); grind
    rcases hs with k | k | k | k
    · exact key _ _ _ (k j) (k (j + 1)) e1
    · exact key (-(P j).1) (-(P (j + 1)).1) (-q.1) (by have := k j; grind) (by have := k (j + 1); grind) (by rw [e1]; grind)
    · exact key _ _ _ (k j) (k (j + 1)) e2
    · exact key (-(P j).2) (-(P (j + 1)).2) (-q.2) (by have := k j; grind) (by have := k (j + 1); grind) (by rw [e2]; grind)
  refine (Go.Proofs.Ytcpcmlonbpccnaa.Ge.edge_out h.ring h.gg1 ?_).2 ho
  rcases hs with k | k | k | k
  · exact .inr (.inr (.inr fun j => by have := k j; grind))
  · exact .inr (.inr (.inl fun j => by have := k j; grind))
  · exact .inr (.inl fun j => by have := k j; grind)
  · exact .inl fun j => by have := k j; grind
theorem den_mul (q : Rat) : ((q.den : Nat) : Rat) * q = ((q.num : Int) : Rat) := by
  have h := q.den_nz
  rw [Rat.mul_def', ← Rat.mkRat_self ((q.num : Int) : Rat), Rat.mkRat_eq_iff (by show 1 * q.den ≠ 0; omega) (by show 1 ≠ 0; decide)]
  show ((q.den : Int) * q.num) * ((1 : Nat) : Int) = q.num * ((1 * q.den : Nat) : Int)
  rw [Nat.one_mul, Int.mul_comm (q.den : Int) q.num]
  simp
/-- a rational place as a point of a finer grid -/
theorem fine_pt {q : Q2} (h1 : 0 ≤ q.1) (h2 : q.1 ≤ 32767) (h3 : 0 ≤ q.2) (h4 : q.2 ≤ 32767) : ∃ k s t : Nat, 0 < k ∧ s < k * 32767 + 1 ∧ t < k * 32767 + 1 ∧ cQ (0 + (t : Int), 0 + (s : Int)) = scQ k q := by
  have d1 := q.1.den_pos
  have d2 := q.2.den_pos
  have e1 : ((q.1.den : Nat) : Rat) * q.1 = (q.1.num : Rat) := den_mul _
  have e2 : ((q.2.den : Nat) : Rat) * q.2 = (q.2.num : Rat) := den_mul _
  have kp := k_pos (Nat.mul_pos d1 d2)
  have kc : ((q.1.den * q.2.den : Nat) : Rat) = ((q.1.den : Nat) : Rat) * ((q.2.den : Nat) : Rat) := Rat.natCast_mul _ _
  have n1 : (0 : Int) ≤ q.1.num := Rat.num_nonneg.2 h1
  have n2 : (0 : Int) ≤ q.2.num := Rat.num_nonneg.2 h3
  obtain ⟨a, ha⟩ := Int.eq_ofNat_of_zero_le n1
  obtain ⟨b, hb⟩ := Int.eq_ofNat_of_zero_le n2
  have x1 : ((q.1.den * q.2.den : Nat) : Rat) * q.1 = ((a * q.2.den : Nat) : Rat) := by
    rw [kc, Rat.natCast_mul]
    have : (q.1.num : Rat) = ((a : Nat) : Rat) := by rw [ha]; rfl
    rw [this] at e1
    grind
  have x2 : ((q.1.den * q.2.den : Nat) : Rat) * q.2 = ((b * q.1.den : Nat) : Rat) := by
    rw [kc, Rat.natCast_mul]
    have : (q.2.num : Rat) = ((b : Nat) : Rat) := by rw [hb]; rfl
    rw [this] at e2
    grind
  have bound : ∀ (x : Rat) (m : Nat), x ≤ 32767 → ((q.1.den * q.2.den : Nat) : Rat) * x = ((m : Nat) : Rat) → m < q.1.den * q.2.den * 32767 + 1 := by
    intro x m hx e
    have h5 : ((m : Nat) : Rat) ≤ ((q.1.den * q.2.den * 32767 : Nat) : Rat) := by
      rw [← e, Rat.natCast_mul (q.1.den * q.2.den)]
      have := Rat.mul_nonneg (Rat.le_of_lt kp) (show 0 ≤ 32767 - x by grind)
      have c : ((32767 : Nat) : Rat) = 32767 := rfl
      rw [c]
      grind
    have h6 : ((m : Int) : Rat) ≤ (((q.1.den * q.2.den * 32767 : Nat) : Int) : Rat) := h5
    have := Rat.intCast_le_intCast.1 h6
    omega
  refine ⟨q.1.den * q.2.den, b * q.1.den, a * q.2.den, Nat.mul_pos d1 d2, bound _ _ h4 x2, bound _ _ h2 x1, ?_⟩
  unfold cQ scQ
  rw [x1, x2]
  refine Prod.ext ?_ ?_
  · show ((0 + ((a * q.2.den : Nat) : Int) : Int) : Rat) = _
    rw [Int.zero_add]; rfl
  · show ((0 + ((b * q.1.den : Nat) : Int) : Int) : Rat) = _
    rw [Int.zero_add]; rfl
end Go.Proofs.Ytcpcmlonbpccnaa.Jr
