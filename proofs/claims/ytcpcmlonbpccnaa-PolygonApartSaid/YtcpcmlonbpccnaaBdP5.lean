/- Plain mathematics of rings: crossing numbers, and that each place off a simple ring has one of two winding numbers (Jordan). -/
namespace Go.Proofs.Ytcpcmlonbpccnaa.Jr
set_option linter.unusedVariables false
set_option linter.unusedSimpArgs false

abbrev Q2 := Rat × Rat
def sb (u v : Q2) : Q2 := (u.1 - v.1, u.2 - v.2)
def ad (u v : Q2) : Q2 := (u.1 + v.1, u.2 + v.2)
def ng (u : Q2) : Q2 := (-u.1, -u.2)
def cr (u v : Q2) : Rat := u.1 * v.2 - u.2 * v.1
def dt (u v : Q2) : Rat := u.1 * v.1 + u.2 * v.2
/-- does the way from u to v cross the ray to the right, upwards (1) or downwards (-1)? -/
def chi (u v : Q2) : Int :=
  if u.2 ≤ 0 ∧ 0 < v.2 ∧ 0 < cr u v then 1 else if v.2 ≤ 0 ∧ 0 < u.2 ∧ cr u v < 0 then -1 else 0

theorem cr_swap (u v : Q2) : cr v u = -cr u v := by unfold cr; grind
theorem chi_swap (u v : Q2) : chi v u = -chi u v := by
  unfold chi
  rw [cr_swap u v]
  grind
theorem chi_zero {u v : Q2} (h : cr u v = 0) : chi u v = 0 := by
  unfold chi
  rw [h]
  grind
theorem chi_self (u : Q2) : chi u u = 0 := chi_zero (by unfold cr; grind)

/-- the sum of the first k values -/
def sm (f : Nat → Int) : Nat → Int
  | 0 => 0
  | k + 1 => sm f k + f k
theorem sm_tel (f : Nat → Int) (T : Nat → Int) : ∀ k, (∀ j, j < k → f j = T j - T (j + 1)) → sm f k = T 0 - T k
  | 0, _ => by simp [sm]
  | k + 1, h => by
    rw [sm, sm_tel f T k (fun j hj => h j (by omega)), h k (by omega)]
    omega
theorem sm_sub (f g : Nat → Int) : ∀ k, sm (fun j => f j - g j) k = sm f k - sm g k
  | 0 => by simp [sm]
  | k + 1 => by rw [sm, sm, sm, sm_sub f g k]; omega
theorem sm_congr {f g : Nat → Int} : ∀ k, (∀ j, j < k → f j = g j) → sm f k = sm g k
  | 0, _ => rfl
  | k + 1, h => by rw [sm, sm, sm_congr k (fun j hj => h j (by omega)), h k (by omega)]
theorem sm_head (f : Nat → Int) : ∀ k, sm f (k + 1) = f 0 + sm (fun j => f (j + 1)) k
  | 0 => by simp [sm]
  | k + 1 => by rw [sm, sm_head f k, sm]; omega

/-! ### half planes and parallelograms -/
theorem half_id (e u v : Q2) : cr e u * v.2 - cr e v * u.2 = -e.2 * cr u v := by unfold cr; grind
def hf (e v : Q2) : Int := if e.2 < 0 ∧ 0 < v.2 then 1 else 0
theorem chi_half {e u v : Q2} (hu : 0 < cr e u) (hv : 0 < cr e v) : chi u v = hf e v - hf e u := by
  have hid := half_id e u v
  unfold chi hf
  by_cases h1 : u.2 ≤ 0
  · by_cases h2 : 0 < v.2
    · have a1 : 0 < cr e u * v.2 := Rat.mul_pos hu h2
      have a2 : 0 ≤ cr e v * (-u.2) := Rat.mul_nonneg (by grind) (by grind)
      have a3 : 0 < -e.2 * cr u v := by grind
      by_cases h3 : e.2 < 0
      · have h4 : 0 < cr u v := by
          rcases (by grind : cr u v ≤ 0 ∨ 0 < cr u v) with k | k
          · have := Rat.mul_nonneg (a := -e.2) (b := -cr u v) (by grind) (by grind)
            grind
          · exact k
        grind
      · have h4 : ¬ 0 < cr u v := fun k => by
          have := Rat.mul_nonneg (a := e.2) (b := cr u v) (by grind) (by grind)
          grind
        grind
    · grind
  · by_cases h2 : v.2 ≤ 0
    · have a1 : 0 < cr e v * u.2 := Rat.mul_pos hv (by grind)
      have a2 : 0 ≤ cr e u * (-v.2) := Rat.mul_nonneg (by grind) (by grind)
      have a3 : -e.2 * cr u v < 0 := by grind
      by_cases h3 : e.2 < 0
      · have h4 : cr u v < 0 := by
          rcases (by grind : 0 ≤ cr u v ∨ cr u v < 0) with k | k
          · have := Rat.mul_nonneg (a := -e.2) (b := cr u v) (by grind) (by grind)
            grind
          · exact k
        grind
      · have h4 : ¬ cr u v < 0 := fun k => by
          have := Rat.mul_nonneg (a := e.2) (b := -cr u v) (by grind) (by grind)
          grind
        grind
    · grind
/-- a line parts two segments -/
def Sep (a b c d : Q2) : Prop := ∃ e : Q2, (0 < cr e (sb a c) ∧ 0 < cr e (sb b c)) ∧ 0 < cr e (sb a d) ∧ 0 < cr e (sb b d)
theorem par_zero {a b c d : Q2} (h : Sep a b c d) : chi (sb a c) (sb b c) + chi (sb b c) (sb b d) + chi (sb b d) (sb a d) + chi (sb a d) (sb a c) = 0 := by
  obtain ⟨e, ⟨h1, h2⟩, h3, h4⟩ := h
  rw [chi_half h1 h2, chi_half h2 h4, chi_half h4 h3, chi_half h3 h1]
  omega
theorem Sep.flip {a b c d : Q2} (h : Sep a b c d) : Sep c d a b := by
  obtain ⟨e, ⟨h1, h2⟩, h3, h4⟩ := h
  refine ⟨ng e, ⟨?_, ?_⟩, ?_, ?_⟩ <;> unfold cr sb ng at * <;> grind
theorem Sep.rev1 {a b c d : Q2} (h : Sep a b c d) : Sep b a c d := by
  obtain ⟨e, ⟨h1, h2⟩, h3, h4⟩ := h
  exact ⟨e, ⟨h2, h1⟩, h4, h3⟩
theorem Sep.rev2 {a b c d : Q2} (h : Sep a b c d) : Sep a b d c := by
  obtain ⟨e, ⟨h1, h2⟩, h3, h4⟩ := h
  exact ⟨e, ⟨h3, h4⟩, h1, h2⟩
theorem chi_up {u v : Q2} (h1 : u.2 ≤ 0) (h2 : 0 < v.2) : chi u v = if 0 < cr u v then 1 else 0 := by unfold chi; grind
theorem chi_dn {u v : Q2} (h1 : 0 < u.2) (h2 : v.2 ≤ 0) : chi u v = if cr u v < 0 then -1 else 0 := by unfold chi; grind
theorem chi_lo {u v : Q2} (h1 : u.2 ≤ 0) (h2 : v.2 ≤ 0) : chi u v = 0 := by unfold chi; grind
theorem chi_hi {u v : Q2} (h1 : 0 < u.2) (h2 : 0 < v.2) : chi u v = 0 := by unfold chi; grind
theorem le_or (x : Rat) : x ≤ 0 ∨ 0 < x := by grind
/-- a sum of two vectors on the way from one to the other -/
theorem chi_sum (u v : Q2) : chi u (ad u v) + chi (ad u v) v = chi u v := by
  have e1 : cr u (ad u v) = cr u v := by unfold cr ad; grind
  have e2 : cr (ad u v) v = cr u v := by unfold cr ad; grind
  have e3 : (ad u v).2 = u.2 + v.2 := rfl
  rcases le_or u.2 with h1 | h1 <;> rcases le_or v.2 with h2 | h2 <;> rcases le_or (ad u v).2 with h3 | h3
  · rw [chi_lo h1 h3, chi_lo h3 h2, chi_lo h1 h2]; rfl
  · grind
  · rw [chi_lo h1 h3, chi_up h3 h2, chi_up h1 h2, e2]; omega
  · rw [chi_up h1 h3, chi_hi h3 h2, chi_up h1 h2, e1]; omega
  · rw [chi_dn h1 h3, chi_lo h3 h2, chi_dn h1 h2, e1]; omega
  · rw [chi_hi h1 h3, chi_dn h3 h2, chi_dn h1 h2, e2]; omega
  · grind
  · rw [chi_hi h1 h3, chi_hi h3 h2, chi_hi h1 h2]; rfl

/-! ### directions -/
/-- 1 for the upper half plane, with the left axis -/
def rr (u : Q2) : Int := if 0 < u.2 ∨ (u.2 = 0 ∧ u.1 < 0) then 1 else 0
def Opp (u v : Q2) : Prop := cr u v = 0 ∧ dt u v ≤ 0
theorem rr_ng {u : Q2} (h : u.1 ≠ 0 ∨ u.2 ≠ 0) : rr (ng u) = 1 - rr u := by
  unfold rr ng
  grind
theorem sq_pos' (u : Q2) (h : u.1 ≠ 0 ∨ u.2 ≠ 0) : 0 < u.1 * u.1 + u.2 * u.2 := by
  have h1 : 0 ≤ u.1 * u.1 := by
    rcases (by grind : 0 ≤ u.1 ∨ 0 ≤ -u.1) with k | k
    · exact Rat.mul_nonneg k k
    · have := Rat.mul_nonneg k k; grind
  have h2 : 0 ≤ u.2 * u.2 := by
    rcases (by grind : 0 ≤ u.2 ∨ 0 ≤ -u.2) with k | k
    · exact Rat.mul_nonneg k k
    · have := Rat.mul_nonneg k k; grind
  rcases h with h | h
  · have : u.1 * u.1 ≠ 0 := fun k => by rcases Rat.mul_eq_zero.1 k with k | k <;> exact h k
    grind
  · have : u.2 * u.2 ≠ 0 := fun k => by rcases Rat.mul_eq_zero.1 k with k | k <;> exact h k
    grind
theorem pos_of_mul {a b : Rat} (ha : 0 < a) (h : 0 < a * b) : 0 < b := by
  rcases le_or b with k | k
  · have := Rat.mul_nonneg (a := a) (b := -b) (by grind) (by grind)
    grind
  · exact k
theorem rr_chi {u v : Q2} (hu : u.1 ≠ 0 ∨ u.2 ≠ 0) (hv : v.1 ≠ 0 ∨ v.2 ≠ 0) (h : ¬ Opp u v) : rr u - rr v = chi (ng u) (ng v) - chi u v := by
  have e1 : cr (ng u) (ng v) = cr u v := by unfold cr ng; grind
  have e2 : dt u v * v.2 = cr u v * v.1 + u.2 * (v.1 * v.1 + v.2 * v.2) := by unfold cr dt; grind
  have e3 : dt u v * u.2 = v.2 * (u.1 * u.1 + u.2 * u.2) - cr u v * u.1 := by unfold cr dt; grind
  have pu := sq_pos' u hu
  have pv := sq_pos' v hv
  have n1 : (ng u).2 = -u.2 := rfl
  have n2 : (ng v).2 = -v.2 := rfl
  unfold Opp at h
  unfold rr
  rcases (by grind : u.2 < 0 ∨ u.2 = 0 ∨ 0 < u.2) with a | a | a <;> rcases (by grind : v.2 < 0 ∨ v.2 = 0 ∨ 0 < v.2) with b | b | b
  · rw [chi_hi (by grind) (by grind), chi_lo (by grind) (by grind)]; grind
  · rw [chi_dn (by grind) (by grind), chi_lo (by grind) (by grind), e1]
    have : cr u v = -u.2 * v.1 := by unfold cr; rw [b]; grind
    have k1 : ∀ x : Rat, 0 < x → 0 < -u.2 * x := fun x hx => Rat.mul_pos (by grind) hx
    have := k1 v.1
    have := k1 (-v.1)
    grind
  · rw [chi_dn (by grind) (by grind), chi_up (by grind) (by grind), e1]
    have k0 : cr u v = 0 → dt u v ≤ 0 := fun h0 => by
      rcases le_or (dt u v) with k | k
      · exact k
      · have := Rat.mul_pos k b
        have := Rat.mul_pos (a := -u.2) (by grind) pv
        rw [h0] at e2
        grind
    grind
  · rw [chi_up (by grind) (by grind), chi_lo (by grind) (by grind), e1]
    have : cr u v = u.1 * v.2 := by unfold cr; rw [a]; grind
    have k1 : ∀ x : Rat, 0 < x → 0 < -v.2 * x := fun x hx => Rat.mul_pos (by grind) hx
    have := k1 u.1
    have := k1 (-u.1)
    grind
  · rw [chi_lo (by grind) (by grind), chi_lo (by grind) (by grind)]
    have c0 : cr u v = 0 := by unfold cr; rw [a, b]; grind
    have d0 : dt u v = u.1 * v.1 := by unfold dt; rw [a, b]; grind
    have k1 : u.1 < 0 → 0 < v.1 → 0 < -u.1 * v.1 := fun p q => Rat.mul_pos (by grind) q
    have k2 : 0 < u.1 → v.1 < 0 → 0 < u.1 * -v.1 := fun p q => Rat.mul_pos p (by grind)
    grind
  · rw [chi_lo (by grind) (by grind), chi_up (by grind) (by grind)]
    have : cr u v = u.1 * v.2 := by unfold cr; rw [a]; grind
    have k1 : ∀ x : Rat, 0 < x → 0 < v.2 * x := fun x hx => Rat.mul_pos b hx
    have := k1 u.1
    have := k1 (-u.1)
    grind
  · rw [chi_up (by grind) (by grind), chi_dn (by grind) (by grind), e1]
    have k0 : cr u v = 0 → dt u v ≤ 0 := fun h0 => by
      rcases le_or (dt u v) with k | k
      · exact k
      · have := Rat.mul_pos k a
        have := Rat.mul_pos (a := -v.2) (by grind) pu
        rw [h0] at e3
        grind
    grind
  · rw [chi_lo (by grind) (by grind), chi_dn (by grind) (by grind)]
    have : cr u v = -u.2 * v.1 := by unfold cr; rw [b]; grind
    have k1 : ∀ x : Rat, 0 < x → 0 < u.2 * x := fun x hx => Rat.mul_pos a hx
    have := k1 v.1
    have := k1 (-v.1)
    grind
  · rw [chi_lo (by grind) (by grind), chi_hi (by grind) (by grind)]; grind
/-! ### rings -/
/-- a closed way of n points, whose sides meet only where one follows the other, and which never turns back on itself -/
structure Ring (P : Nat → Q2) (n : Nat) : Prop where
  n3 : 3 ≤ n
  per : ∀ i, P (i + n) = P i
  sep : ∀ i k, 2 ≤ k → k + 2 ≤ n → Sep (P (i + k)) (P (i + k + 1)) (P i) (P (i + 1))
  ne : ∀ i, (sb (P (i + 1)) (P i)).1 ≠ 0 ∨ (sb (P (i + 1)) (P i)).2 ≠ 0
  opp : ∀ i, ¬ Opp (sb (P (i + 1)) (P i)) (sb (P (i + 2)) (P (i + 1)))
/-- side j about q -/
def sx (P : Nat → Q2) (j : Nat) (q : Q2) : Int := chi (sb (P j) q) (sb (P (j + 1)) q)
def dd (P : Nat → Q2) (i : Nat) : Q2 := sb (P (i + 1)) (P i)
/-- the sides from i + 1 on but the last two about q -/
def th (P : Nat → Q2) (n i : Nat) (q : Q2) : Int := sm (fun j => sx P (i + 1 + j) q) (n - 2)
theorem move_side {P : Nat → Q2} {j : Nat} {p q : Q2} (h : Sep (P j) (P (j + 1)) p q) :
    sx P j p - sx P j q = chi (sb (P j) p) (sb (P j) q) - chi (sb (P (j + 1)) p) (sb (P (j + 1)) q) := by
  have := par_zero h
  have e := chi_swap (sb (P j) p) (sb (P j) q)
  have e2 := chi_swap (sb (P j) q) (sb (P (j + 1)) q)
  unfold sx
  omega
theorem ring_step {P : Nat → Q2} {n : Nat} (h : Ring P n) (i : Nat) :
    th P n i (P i) - th P n (i + 1) (P (i + 1)) = chi (dd P i) (dd P (i + 1)) - chi (ng (dd P (i + n - 1))) (ng (dd P i)) := by
  obtain ⟨m, rfl⟩ : ∃ m, n = m + 3 := ⟨n - 3, by have := h.n3; omega⟩
  have eT := sm_tel (fun k => sx P (i + 2 + k) (P i) - sx P (i + 2 + k) (P (i + 1))) (fun k => chi (sb (P (i + 2 + k)) (P i)) (sb (P (i + 2 + k)) (P (i + 1)))) m (fun k hk => by
    have hs := h.sep i (2 + k) (by omega) (by omega)
    rw [← Nat.add_assoc] at hs
    exact move_side hs)
  rw [sm_sub] at eT
  have a1 : th P (m + 3) i (P i) = sx P (i + 1) (P i) + sm (fun k => sx P (i + 2 + k) (P i)) m := by
    unfold th
    rw [show m + 3 - 2 = m + 1 from rfl, sm_head]
    refine congrArg (_ + ·) (sm_congr m fun j _ => ?_)
    rw [show i + 1 + (j + 1) = i + 2 + j by omega]
  have a2 : th P (m + 3) (i + 1) (P (i + 1)) = sm (fun k => sx P (i + 2 + k) (P (i + 1))) m + sx P (i + 2 + m) (P (i + 1)) := rfl
  have b1 := chi_sum (dd P i) (dd P (i + 1))
  have b2 := chi_sum (ng (dd P (i + m + 2))) (ng (dd P i))
  have e1 : ad (dd P i) (dd P (i + 1)) = sb (P (i + 2)) (P i) := by
    unfold ad dd sb
    refine Prod.ext ?_ ?_ <;> show _ = _ <;> grind
  have hp : P (i + m + 2 + 1) = P i := h.per i
  have e2 : ng (dd P (i + m + 2)) = sb (P (i + 2 + m)) (P i) := by
    unfold ng dd sb
    rw [hp, show i + m + 2 = i + 2 + m by omega]
    refine Prod.ext ?_ ?_ <;> show _ = _ <;> grind
  have e3 : ad (ng (dd P (i + m + 2))) (ng (dd P i)) = sb (P (i + 2 + m)) (P (i + 1)) := by
    rw [e2]
    unfold ad ng dd sb
    refine Prod.ext ?_ ?_ <;> show _ = _ <;> grind
  have e4 : ng (dd P i) = sb (P (i + 2 + m + 1)) (P (i + 1)) := by
    rw [show i + 2 + m + 1 = i + m + 2 + 1 by omega, hp]
    unfold ng dd sb
    refine Prod.ext ?_ ?_ <;> show _ = _ <;> grind
  rw [e1] at b1
  rw [e3] at b2
  have c1 : sx P (i + 1) (P i) = chi (dd P i) (sb (P (i + 2)) (P i)) := rfl
  have c2 : sx P (i + 2 + m) (P (i + 1)) = chi (sb (P (i + 2 + m)) (P (i + 1))) (ng (dd P i)) := by rw [e4]; rfl
  have c3 : chi (sb (P (i + 2)) (P i)) (sb (P (i + 2)) (P (i + 1))) = chi (sb (P (i + 2)) (P i)) (dd P (i + 1)) := rfl
  simp only [Nat.add_zero] at eT
  rw [c3, ← e2] at eT
  rw [a1, a2, c1, c2, show i + (m + 3) - 1 = i + m + 2 by omega]
  omega
/-- what is the same at all points of a ring -/
def gg (P : Nat → Q2) (n i : Nat) : Int := th P n (i + 1) (P (i + 1)) + chi (dd P i) (dd P (i + 1)) + rr (dd P i)
theorem dd_per {P : Nat → Q2} {n : Nat} (h : Ring P n) (i : Nat) : dd P (i + n) = dd P i := by
  unfold dd
  rw [show i + n + 1 = i + 1 + n by omega, h.per, h.per]
theorem gg_step {P : Nat → Q2} {n : Nat} (h : Ring P n) (i : Nat) : gg P n (i + 1) = gg P n i := by
  have h1 := ring_step h (i + 1)
  have e : dd P (i + 1 + n - 1) = dd P i := by
    rw [show i + 1 + n - 1 = i + n by omega, dd_per h]
  rw [e] at h1
  have h2 := rr_chi (h.ne i) (h.ne (i + 1)) (h.opp i)
  unfold gg
  have h3 : rr (dd P i) - rr (dd P (i + 1)) = chi (ng (dd P i)) (ng (dd P (i + 1))) - chi (dd P i) (dd P (i + 1)) := h2
  omega
theorem gg_all {P : Nat → Q2} {n : Nat} (h : Ring P n) (i : Nat) : gg P n i = gg P n 0 := by
  induction i with
  | zero => rfl
  | succ i ih => rw [gg_step h, ih]
/-- the winding number about q -/
def wn (P : Nat → Q2) (n : Nat) (q : Q2) : Int := sm (fun j => sx P j q) n
theorem sm_shift (f : Nat → Int) (n : Nat) (h : ∀ i, f (i + n) = f i) : ∀ k, sm (fun j => f (k + j)) n = sm f n
  | 0 => by simp
  | k + 1 => by
    have h1 := sm_head (fun j => f (k + j)) n
    have h2 : sm (fun j => f (k + j)) (n + 1) = sm (fun j => f (k + j)) n + f (k + n) := rfl
    have h3 : sm (fun j => f (k + (j + 1))) n = sm (fun j => f (k + 1 + j)) n := sm_congr n fun j _ => by rw [show k + (j + 1) = k + 1 + j by omega]
    rw [← sm_shift f n h k, ← h3]
    have := h k
    simp only [Nat.add_zero] at h1
    omega
theorem sx_per {P : Nat → Q2} {n : Nat} (h : Ring P n) (q : Q2) (j : Nat) : sx P (j + n) q = sx P j q := by
  unfold sx
  rw [show j + n + 1 = j + 1 + n by omega, h.per, h.per]
/-- a place that sees a point of the ring -/
def Sees (P : Nat → Q2) (n i : Nat) (q : Q2) : Prop := ∀ k, k + 2 < n → Sep (P (i + 2 + k)) (P (i + 2 + k + 1)) q (P (i + 1))
theorem sees_wn {P : Nat → Q2} {n : Nat} (h : Ring P n) {i : Nat} {q : Q2} (hs : Sees P n i q) :
    wn P n q = th P n (i + 1) (P (i + 1)) + chi (ng (dd P i)) (sb (P (i + 1)) q) + chi (sb (P (i + 1)) q) (dd P (i + 1)) := by
  obtain ⟨m, rfl⟩ : ∃ m, n = m + 3 := ⟨n - 3, by have := h.n3; omega⟩
  have eT := sm_tel (fun k => sx P (i + 2 + k) q - sx P (i + 2 + k) (P (i + 1))) (fun k => chi (sb (P (i + 2 + k)) q) (sb (P (i + 2 + k)) (P (i + 1)))) (m + 1) (fun k hk => move_side (hs k (by omega)))
  rw [sm_sub] at eT
  have a1 : wn P (m + 3) q = sx P i q + sx P (i + 1) q + sm (fun k => sx P (i + 2 + k) q) (m + 1) := by
    unfold wn
    rw [← sm_shift (fun j => sx P j q) (m + 3) (sx_per h q) i]
    have h1 := sm_head (fun j => sx P (i + j) q) (m + 2)
    have h2 := sm_head (fun j => sx P (i + (j + 1)) q) (m + 1)
    have h3 : sm (fun j => sx P (i + (j + 1 + 1)) q) (m + 1) = sm (fun k => sx P (i + 2 + k) q) (m + 1) := sm_congr _ fun j _ => by rw [show i + (j + 1 + 1) = i + 2 + j by omega]
    rw [h1, h2, h3, Nat.zero_add, Nat.add_zero]
    omega
  have a2 : th P (m + 3) (i + 1) (P (i + 1)) = sm (fun k => sx P (i + 2 + k) (P (i + 1))) (m + 1) := rfl
  have hp : P (i + 2 + (m + 1)) = P i := by
    rw [show i + 2 + (m + 1) = i + (m + 3) by omega]
    exact h.per i
  have b1 := chi_sum (sb (P (i + 1)) q) (dd P (i + 1))
  have b2 := chi_sum (ng (dd P i)) (sb (P (i + 1)) q)
  have e1 : ad (sb (P (i + 1)) q) (dd P (i + 1)) = sb (P (i + 2)) q := by
    unfold ad dd sb
    refine Prod.ext ?_ ?_ <;> show _ = _ <;> grind
  have e2 : ad (ng (dd P i)) (sb (P (i + 1)) q) = sb (P i) q := by
    unfold ad ng dd sb
    refine Prod.ext ?_ ?_ <;> show _ = _ <;> grind
  have e3 : sb (P i) (P (i + 1)) = ng (dd P i) := by
    unfold ng dd sb
    refine Prod.ext ?_ ?_ <;> show _ = _ <;> grind
  rw [e1] at b1
  rw [e2] at b2
  have c1 : sx P i q = chi (sb (P i) q) (sb (P (i + 1)) q) := rfl
  have c2 : sx P (i + 1) q = chi (sb (P (i + 1)) q) (sb (P (i + 2)) q) := rfl
  simp only [hp, Nat.add_zero] at eT
  rw [e3] at eT
  have c3 : sb (P (i + 2)) (P (i + 1)) = dd P (i + 1) := rfl
  rw [c3] at eT
  have s1 := chi_swap (sb (P i) q) (ng (dd P i))
  rw [a1, a2, c1, c2]
  omega
theorem sgnmul (a b : Rat) : (0 < a → 0 < b → 0 < a * b) ∧ (0 < a → b < 0 → a * b < 0) ∧ (a < 0 → 0 < b → a * b < 0) ∧ (a < 0 → b < 0 → 0 < a * b) := by
  refine ⟨fun h k => Rat.mul_pos h k, fun h k => ?_, fun h k => ?_, fun h k => ?_⟩
  · have := Rat.mul_pos h (show 0 < -b by grind); grind
  · have := Rat.mul_pos (show 0 < -a by grind) k; grind
  · have := Rat.mul_pos (show 0 < -a by grind) (show 0 < -b by grind); grind
theorem plu2 (u d e : Q2) : u.2 * cr d e - d.2 * cr u e + e.2 * cr u d = 0 := by unfold cr; grind
theorem plu1 (u d e : Q2) : u.1 * cr d e - d.1 * cr u e + e.1 * cr u d = 0 := by unfold cr; grind
def LeftSec (u d e : Q2) : Prop := (0 < cr u d ∧ 0 < cr u e ∧ 0 < cr d e) ∨ (cr u d < 0 ∧ (0 < cr u e ∨ 0 < cr d e)) ∨ (cr u d = 0 ∧ 0 < cr u e)
def Same (x y : Rat) : Prop := (0 < x ∧ 0 < y) ∨ (x = 0 ∧ y = 0) ∨ (x < 0 ∧ y < 0)
theorem same_of {a b x y : Rat} (ha : 0 < a) (hb : 0 < b) (h : a * x = b * y) : Same x y := by
  have h1 := sgnmul a x
  have h2 := sgnmul b y
  have h3 : x = 0 → a * x = 0 := fun k => by rw [k]; grind
  have h4 : y = 0 → b * y = 0 := fun k => by rw [k]; grind
  unfold Same
  grind
theorem same_dir {u v : Q2} (hv : v.1 ≠ 0 ∨ v.2 ≠ 0) (hd : 0 < dt u v) (h : cr u v = 0) : Same u.1 v.1 ∧ Same u.2 v.2 := by
  have pv := sq_pos' v hv
  exact ⟨same_of pv hd (by unfold cr dt at *; grind), same_of pv hd (by unfold cr dt at *; grind)⟩
theorem tri (x : Rat) : x < 0 ∨ x = 0 ∨ 0 < x := by grind
/-! ### places on sides -/
theorem chi_mid {u v w : Q2} {α β : Rat} (ha : 0 < α) (hb : 0 < β) (h1 : w.1 = α * u.1 + β * v.1) (h2 : w.2 = α * u.2 + β * v.2) : chi u w + chi w v = chi u v := by
  have e1 : cr u w = β * cr u v := by unfold cr; rw [h1, h2]; grind
  have e2 : cr w v = α * cr u v := by unfold cr; rw [h1, h2]; grind
  have s1 := sgnmul β (cr u v)
  have s2 := sgnmul α (cr u v)
  have s3 := sgnmul α u.2
  have s4 := sgnmul β v.2
  have z1 : u.2 = 0 → α * u.2 = 0 := fun k => by rw [k]; grind
  have z2 : v.2 = 0 → β * v.2 = 0 := fun k => by rw [k]; grind
  have z3 : cr u v = 0 → α * cr u v = 0 ∧ β * cr u v = 0 := fun k => by rw [k]; grind
  rcases le_or u.2 with a | a <;> rcases le_or v.2 with b | b <;> rcases le_or w.2 with c | c
  · rw [chi_lo a c, chi_lo c b, chi_lo a b]; rfl
  · grind
  · rw [chi_lo a c, chi_up c b, chi_up a b, e2]; grind
  · rw [chi_up a c, chi_hi c b, chi_up a b, e1]; grind
  · rw [chi_dn a c, chi_lo c b, chi_dn a b, e1]; grind
  · rw [chi_hi a c, chi_dn c b, chi_dn a b, e2]; grind
  · grind
  · rw [chi_hi a c, chi_hi c b, chi_hi a b]; rfl
theorem chi_scale {u v w : Q2} {α : Rat} (ha : 0 < α) (h1 : w.1 = α * v.1) (h2 : w.2 = α * v.2) : chi u w = chi u v := by
  have e1 : cr u w = α * cr u v := by unfold cr; rw [h1, h2]; grind
  have s2 := sgnmul α (cr u v)
  have s3 := sgnmul α v.2
  have z2 : v.2 = 0 → α * v.2 = 0 := fun k => by rw [k]; grind
  have z3 : cr u v = 0 → α * cr u v = 0 := fun k => by rw [k]; grind
  unfold chi
  rw [e1, h2]
  grind
theorem chi_scale' {u v w : Q2} {α : Rat} (ha : 0 < α) (h1 : w.1 = α * v.1) (h2 : w.2 = α * v.2) : chi w u = chi v u := by
  rw [chi_swap u w, chi_swap u v, chi_scale ha h1 h2]
def pt (a b : Q2) (t : Rat) : Q2 := (a.1 + t * (b.1 - a.1), a.2 + t * (b.2 - a.2))
theorem sep_sub {a b c d : Q2} {s t : Rat} (h : Sep a b c d) (s0 : 0 ≤ s) (s1 : s ≤ 1) (t0 : 0 ≤ t) (t1 : t ≤ 1) : Sep a b (pt c d s) (pt c d t) := by
  obtain ⟨e, ⟨h1, h2⟩, h3, h4⟩ := h
  have key : ∀ x : Q2, ∀ r : Rat, 0 ≤ r → r ≤ 1 → 0 < cr e (sb x c) → 0 < cr e (sb x d) → 0 < cr e (sb x (pt c d r)) := by
    intro x r r0 r1 k1 k2
    have i : cr e (sb x (pt c d r)) = (1 - r) * cr e (sb x c) + r * cr e (sb x d) := by unfold cr sb pt; grind
    rw [i]
    rcases (by grind : r = 0 ∨ 0 < r) with rfl | k
    · grind
    · have := Rat.mul_pos k k2
      have := Rat.mul_nonneg (a := 1 - r) (b := cr e (sb x c)) (by grind) (by grind)
      grind
  exact ⟨e, ⟨key a s s0 s1 h1 h3, key b s s0 s1 h2 h4⟩, key a t t0 t1 h1 h3, key b t t0 t1 h2 h4⟩
theorem sep_adj {a b c : Q2} {s t : Rat} (hu : (sb b a).1 ≠ 0 ∨ (sb b a).2 ≠ 0) (ho : ¬ Opp (sb b a) (sb c b)) (s0 : 0 < s) (t0 : 0 < t) : Sep a b (pt b c s) (pt b c t) := by
  have pu := sq_pos' _ hu
  rcases tri (cr (sb b a) (sb c b)) with k | k | k
  · have key : ∀ r : Rat, 0 < r → 0 < cr (sb b a) (sb a (pt b c r)) ∧ 0 < cr (sb b a) (sb b (pt b c r)) := by
      intro r hr
      have i1 : cr (sb b a) (sb a (pt b c r)) = r * -cr (sb b a) (sb c b) := by unfold cr sb pt; grind
      have i2 : cr (sb b a) (sb b (pt b c r)) = r * -cr (sb b a) (sb c b) := by unfold cr sb pt; grind
      rw [i1, i2]
      have := Rat.mul_pos hr (show 0 < -cr (sb b a) (sb c b) by grind)
      exact ⟨this, this⟩
    exact ⟨sb b a, ⟨(key s s0).1, (key s s0).2⟩, (key t t0).1, (key t t0).2⟩
  · have hd : 0 < dt (sb b a) (sb c b) := by unfold Opp at ho; grind
    have key : ∀ r : Rat, 0 < r → 0 < cr (-(sb b a).2, (sb b a).1) (sb a (pt b c r)) ∧ 0 < cr (-(sb b a).2, (sb b a).1) (sb b (pt b c r)) := by
      intro r hr
      have i1 : cr (-(sb b a).2, (sb b a).1) (sb a (pt b c r)) = r * dt (sb b a) (sb c b) + ((sb b a).1 * (sb b a).1 + (sb b a).2 * (sb b a).2) := by unfold cr dt sb pt; grind
      have i2 : cr (-(sb b a).2, (sb b a).1) (sb b (pt b c r)) = r * dt (sb b a) (sb c b) := by unfold cr dt sb pt; grind
      rw [i1, i2]
      have := Rat.mul_pos hr hd
      grind
    exact ⟨_, ⟨(key s s0).1, (key s s0).2⟩, (key t t0).1, (key t t0).2⟩
  · have key : ∀ r : Rat, 0 < r → 0 < cr (ng (sb b a)) (sb a (pt b c r)) ∧ 0 < cr (ng (sb b a)) (sb b (pt b c r)) := by
      intro r hr
      have i1 : cr (ng (sb b a)) (sb a (pt b c r)) = r * cr (sb b a) (sb c b) := by unfold cr ng sb pt; grind
      have i2 : cr (ng (sb b a)) (sb b (pt b c r)) = r * cr (sb b a) (sb c b) := by unfold cr ng sb pt; grind
      rw [i1, i2]
      have := Rat.mul_pos hr k
      exact ⟨this, this⟩
    exact ⟨ng (sb b a), ⟨(key s s0).1, (key s s0).2⟩, (key t t0).1, (key t t0).2⟩
theorem move_sum {P : Nat → Q2} {a m : Nat} {p q : Q2} (h : ∀ k, k < m → Sep (P (a + k)) (P (a + k + 1)) p q) :
    sm (fun k => sx P (a + k) p) m - sm (fun k => sx P (a + k) q) m = chi (sb (P a) p) (sb (P a) q) - chi (sb (P (a + m)) p) (sb (P (a + m)) q) := by
  have eT := sm_tel (fun k => sx P (a + k) p - sx P (a + k) q) (fun k => chi (sb (P (a + k)) p) (sb (P (a + k)) q)) m (fun k hk => move_side (h k hk))
  rw [sm_sub] at eT
  simpa using eT
/-- the other sides about a place inside side i -/
theorem side_th {P : Nat → Q2} {n : Nat} (h : Ring P n) {i : Nat} {s : Rat} (s0 : 0 < s) (s1 : s < 1) :
    sm (fun k => sx P (i + 1 + k) (pt (P i) (P (i + 1)) s)) (n - 1) = gg P n i - rr (dd P i) := by
  obtain ⟨m, rfl⟩ : ∃ m, n = m + 3 := ⟨n - 3, by have := h.n3; omega⟩
  have hp : P (i + 2 + (m + 1)) = P i := by
    rw [show i + 2 + (m + 1) = i + (m + 3) by omega]
    exact h.per i
  have hp2 : P (i + (m + 2) + 1) = P i := by
    rw [show i + (m + 2) + 1 = i + (m + 3) by omega]
    exact h.per i
  have e1 : pt (P i) (P (i + 1)) 1 = P (i + 1) := by unfold pt; refine Prod.ext ?_ ?_ <;> show _ = _ <;> grind
  have hm := move_sum (P := P) (a := i + 2) (m := m + 1) (p := pt (P i) (P (i + 1)) s) (q := P (i + 1)) (fun k hk => by
    rcases Nat.lt_or_ge k m with k1 | k1
    · have := h.sep i (2 + k) (by omega) (by omega)
      rw [← Nat.add_assoc] at this
      have := sep_sub (s := s) (t := 1) this (by grind) (by grind) (by grind) (by grind)
      rw [e1] at this
      exact this
    · obtain rfl : k = m := by omega
      have ho := h.opp (i + (k + 2))
      have hn := h.ne (i + (k + 2))
      have hq : P (i + (k + 2) + 2) = P (i + 1) := by
        rw [show i + (k + 2) + 2 = i + 1 + (k + 3) by omega]
        exact h.per _
      rw [hq, hp2] at ho
      rw [hp2] at hn
      rw [show i + 2 + k = i + (k + 2) by omega, hp2]
      have := sep_adj (t := 1) hn ho s0 (by grind)
      rw [e1] at this
      exact this)
  have hd : sm (fun k => sx P (i + 1 + k) (pt (P i) (P (i + 1)) s)) (m + 3 - 1) = sx P (i + 1) (pt (P i) (P (i + 1)) s) + sm (fun k => sx P (i + 2 + k) (pt (P i) (P (i + 1)) s)) (m + 1) := by
    rw [show m + 3 - 1 = m + 1 + 1 from rfl, sm_head]
    refine congrArg (_ + ·) (sm_congr _ fun j _ => ?_)
    rw [show i + 1 + (j + 1) = i + 2 + j by omega]
  have ht : th P (m + 3) (i + 1) (P (i + 1)) = sm (fun k => sx P (i + 2 + k) (P (i + 1))) (m + 1) := rfl
  have t0 : chi (sb (P (i + 2 + (m + 1))) (pt (P i) (P (i + 1)) s)) (sb (P (i + 2 + (m + 1))) (P (i + 1))) = 0 := by
    rw [hp]
    refine chi_zero ?_
    unfold cr sb pt
    grind
  have t1 : sx P (i + 1) (pt (P i) (P (i + 1)) s) + chi (sb (P (i + 2)) (pt (P i) (P (i + 1)) s)) (sb (P (i + 2)) (P (i + 1))) = chi (dd P i) (dd P (i + 1)) := by
    have h1 := chi_sum (sb (P (i + 1)) (pt (P i) (P (i + 1)) s)) (dd P (i + 1))
    have h2 : ad (sb (P (i + 1)) (pt (P i) (P (i + 1)) s)) (dd P (i + 1)) = sb (P (i + 2)) (pt (P i) (P (i + 1)) s) := by
      unfold ad dd sb
      refine Prod.ext ?_ ?_ <;> show _ = _ <;> grind
    have h3 : chi (sb (P (i + 1)) (pt (P i) (P (i + 1)) s)) (dd P (i + 1)) = chi (dd P i) (dd P (i + 1)) := chi_scale' (α := 1 - s) (by grind) (by unfold sb pt dd sb; grind) (by unfold sb pt dd sb; grind)
    rw [h2, h3] at h1
    exact h1
  unfold gg
  rw [hd]
  omega
theorem side_wn {P : Nat → Q2} {n : Nat} (h : Ring P n) {i : Nat} {s : Rat} {q : Q2} (s0 : 0 < s) (s1 : s < 1)
    (hs : ∀ k, k + 1 < n → Sep (P (i + 1 + k)) (P (i + 1 + k + 1)) q (pt (P i) (P (i + 1)) s)) :
    wn P n q = gg P n i - rr (dd P i) + chi (ng (dd P i)) (sb (pt (P i) (P (i + 1)) s) q) + chi (sb (pt (P i) (P (i + 1)) s) q) (dd P i) := by
  have hn := h.n3
  have hm := move_sum (P := P) (a := i + 1) (m := n - 1) (p := q) (q := pt (P i) (P (i + 1)) s) (fun k hk => hs k (by omega))
  rw [side_th h s0 s1, show i + 1 + (n - 1) = i + n by omega, h.per] at hm
  have hw : wn P n q = sx P i q + sm (fun k => sx P (i + 1 + k) q) (n - 1) := by
    unfold wn
    rw [← sm_shift (fun j => sx P j q) n (sx_per h q) i]
    have h1 := sm_head (fun j => sx P (i + j) q) (n - 1)
    rw [show n - 1 + 1 = n by omega] at h1
    rw [h1, Nat.add_zero]
    refine congrArg (_ + ·) (sm_congr _ fun j _ => ?_)
    rw [show i + (j + 1) = i + 1 + j by omega]
  generalize hz : pt (P i) (P (i + 1)) s = z at *
  have z1 : z.1 = (P i).1 + s * ((P (i + 1)).1 - (P i).1) := by rw [← hz]; rfl
  have z2 : z.2 = (P i).2 + s * ((P (i + 1)).2 - (P i).2) := by rw [← hz]; rfl
  have a1 : chi (sb (P i) q) (sb z q) + chi (sb z q) (sb (P (i + 1)) q) = chi (sb (P i) q) (sb (P (i + 1)) q) :=
    chi_mid (α := 1 - s) (β := s) (by grind) s0 (by unfold sb; grind) (by unfold sb; grind)
  have a2 : chi (sb z q) (sb (P (i + 1)) q) + chi (sb (P (i + 1)) q) (sb (P (i + 1)) z) = chi (sb z q) (sb (P (i + 1)) z) :=
    chi_mid (α := 1) (β := 1) (by grind) (by grind) (by unfold sb; grind) (by unfold sb; grind)
  have a3 : chi (sb (P i) z) (sb (P i) q) + chi (sb (P i) q) (sb z q) = chi (sb (P i) z) (sb z q) :=
    chi_mid (α := 1) (β := 1) (by grind) (by grind) (by unfold sb; grind) (by unfold sb; grind)
  have b1 : chi (sb z q) (sb (P (i + 1)) z) = chi (sb z q) (dd P i) := chi_scale (α := 1 - s) (by grind) (by unfold dd sb; grind) (by unfold dd sb; grind)
  have b2 : chi (sb (P i) z) (sb z q) = chi (ng (dd P i)) (sb z q) := chi_scale' (α := s) s0 (by unfold ng dd sb; grind) (by unfold ng dd sb; grind)
  have c1 := chi_swap (sb (P i) q) (sb (P i) z)
  have c2 : sx P i q = chi (sb (P i) q) (sb (P (i + 1)) q) := rfl
  rw [hw, c2]
  omega
/-! ### segments that meet -/
theorem div_in {x k : Rat} (h : (0 < k ∧ 0 ≤ x ∧ x ≤ k) ∨ (k < 0 ∧ k ≤ x ∧ x ≤ 0)) : 0 ≤ x / k ∧ x / k ≤ 1 := by
  have e : x / k * k = x := by grind
  have s1 := sgnmul (x / k) k
  have s2 := sgnmul (x / k - 1) k
  have e2 : (x / k - 1) * k = x - k := by grind
  grind
theorem pt_zero (a b : Q2) : pt a b 0 = a := by unfold pt; refine Prod.ext ?_ ?_ <;> show _ = _ <;> grind
theorem pt_one (a b : Q2) : pt a b 1 = b := by unfold pt; refine Prod.ext ?_ ?_ <;> show _ = _ <;> grind
theorem sep_or_meet {a b c d : Q2} (hab : (sb b a).1 ≠ 0 ∨ (sb b a).2 ≠ 0) (hcd : (sb d c).1 ≠ 0 ∨ (sb d c).2 ≠ 0) :
    Sep a b c d ∨ ∃ s t, 0 ≤ s ∧ s ≤ 1 ∧ 0 ≤ t ∧ t ≤ 1 ∧ pt a b s = pt c d t := by
  obtain ⟨f1, hf1⟩ : ∃ x, x = cr (sb d c) (sb a c) := ⟨_, rfl⟩
  obtain ⟨f2, hf2⟩ : ∃ x, x = cr (sb d c) (sb b c) := ⟨_, rfl⟩
  obtain ⟨g1, hg1⟩ : ∃ x, x = cr (sb b a) (sb c a) := ⟨_, rfl⟩
  obtain ⟨g2, hg2⟩ : ∃ x, x = cr (sb b a) (sb d a) := ⟨_, rfl⟩
  have hk : f1 - f2 = g2 - g1 := by rw [hf1, hf2, hg1, hg2]; unfold cr sb; grind
  by_cases c1 : 0 < f1 ∧ 0 < f2
  · refine .inl ⟨sb d c, ⟨?_, ?_⟩, ?_, ?_⟩ <;> unfold cr sb at * <;> grind
  by_cases c2 : f1 < 0 ∧ f2 < 0
  · refine .inl ⟨ng (sb d c), ⟨?_, ?_⟩, ?_, ?_⟩ <;> unfold cr sb ng at * <;> grind
  by_cases c3 : 0 < g1 ∧ 0 < g2
  · refine .inl ⟨ng (sb b a), ⟨?_, ?_⟩, ?_, ?_⟩ <;> unfold cr sb ng at * <;> grind
  by_cases c4 : g1 < 0 ∧ g2 < 0
  · refine .inl ⟨sb b a, ⟨?_, ?_⟩, ?_, ?_⟩ <;> unfold cr sb at * <;> grind
  by_cases k0 : f1 - f2 = 0
  · have z1 : f1 = 0 := by grind
    have z2 : f2 = 0 := by grind
    have z3 : g1 = 0 := by grind
    have z4 : g2 = 0 := by grind
    have pD := sq_pos' _ hcd
    obtain ⟨N, hN⟩ : ∃ x, x = (sb d c).1 * (sb d c).1 + (sb d c).2 * (sb d c).2 := ⟨_, rfl⟩
    rw [← hN] at pD
    obtain ⟨pa, hpa⟩ : ∃ x, x = dt (sb d c) (sb a c) := ⟨_, rfl⟩
    obtain ⟨pb, hpb⟩ : ∃ x, x = dt (sb d c) (sb b c) := ⟨_, rfl⟩
    have on : ∀ x : Q2, cr (sb d c) (sb x c) = 0 → N * (x.1 - c.1) = dt (sb d c) (sb x c) * (d.1 - c.1) ∧ N * (x.2 - c.2) = dt (sb d c) (sb x c) * (d.2 - c.2) := by
      intro x hx
      rw [hN]
      unfold cr dt sb at *
      constructor <;> grind
    obtain ⟨oa1, oa2⟩ := on a (by rw [← hf1, z1])
    obtain ⟨ob1, ob2⟩ := on b (by rw [← hf2, z2])
    rw [← hpa] at oa1 oa2
    rw [← hpb] at ob1 ob2
    have inv : N / N = 1 := by grind
    by_cases ia : 0 ≤ pa ∧ pa ≤ N
    · obtain ⟨t0, t1⟩ := div_in (x := pa) (k := N) (.inl ⟨pD, ia.1, ia.2⟩)
      refine .inr ⟨0, pa / N, by grind, by grind, t0, t1, ?_⟩
      rw [pt_zero]
      unfold pt
      refine Prod.ext ?_ ?_ <;> show _ = _ <;> grind
    by_cases ib : 0 ≤ pb ∧ pb ≤ N
    · obtain ⟨t0, t1⟩ := div_in (x := pb) (k := N) (.inl ⟨pD, ib.1, ib.2⟩)
      refine .inr ⟨1, pb / N, by grind, by grind, t0, t1, ?_⟩
      rw [pt_one]
      unfold pt
      refine Prod.ext ?_ ?_ <;> show _ = _ <;> grind
    by_cases ic : (pa < 0 ∧ pb < 0) ∨ (N < pa ∧ N < pb)
    · rcases ic with ic | ic
      · refine .inl ⟨(-(sb d c).2 * -1 * -1, (sb d c).1), ⟨?_, ?_⟩, ?_, ?_⟩ <;> unfold cr sb dt at * <;> grind
      · refine .inl ⟨((sb d c).2, -(sb d c).1), ⟨?_, ?_⟩, ?_, ?_⟩ <;> unfold cr sb dt at * <;> grind
    · have hne : pb - pa ≠ 0 := by grind
      obtain ⟨t0, t1⟩ := div_in (x := -pa) (k := pb - pa) (by grind)
      refine .inr ⟨-pa / (pb - pa), 0, t0, t1, by grind, by grind, ?_⟩
      rw [pt_zero]
      have e : -pa / (pb - pa) * (pb - pa) = -pa := by grind
      obtain ⟨s, hs⟩ : ∃ s, s = -pa / (pb - pa) := ⟨_, rfl⟩
      rw [← hs] at e ⊢
      have q1 : N * (a.1 - c.1 + s * (b.1 - a.1)) = 0 := by grind
      have q2 : N * (a.2 - c.2 + s * (b.2 - a.2)) = 0 := by grind
      have r1 : a.1 - c.1 + s * (b.1 - a.1) = 0 := by rcases Rat.mul_eq_zero.1 q1 with m | m <;> grind
      have r2 : a.2 - c.2 + s * (b.2 - a.2) = 0 := by rcases Rat.mul_eq_zero.1 q2 with m | m <;> grind
      unfold pt
      refine Prod.ext ?_ ?_ <;> show _ = _ <;> grind
  · obtain ⟨s0, s1⟩ := div_in (x := f1) (k := f1 - f2) (by grind)
    obtain ⟨t0, t1⟩ := div_in (x := -g1) (k := f1 - f2) (by grind)
    refine .inr ⟨f1 / (f1 - f2), -g1 / (f1 - f2), s0, s1, t0, t1, ?_⟩
    obtain ⟨K, hK⟩ : ∃ K, K = f1 - f2 := ⟨_, rfl⟩
    rw [← hK] at k0 s0 s1 t0 t1 ⊢
    obtain ⟨s, hs⟩ : ∃ s, s = f1 / K := ⟨_, rfl⟩
    obtain ⟨t, ht⟩ : ∃ t, t = -g1 / K := ⟨_, rfl⟩
    rw [← hs, ← ht]
    have es : s * K = f1 := by grind
    have et : t * K = -g1 := by grind
    have i1 : K * (a.1 - c.1) + f1 * (b.1 - a.1) + g1 * (d.1 - c.1) = 0 := by rw [hK, hf1, hf2, hg1]; unfold cr sb; grind
    have i2 : K * (a.2 - c.2) + f1 * (b.2 - a.2) + g1 * (d.2 - c.2) = 0 := by rw [hK, hf1, hf2, hg1]; unfold cr sb; grind
    have q1 : K * ((a.1 + s * (b.1 - a.1)) - (c.1 + t * (d.1 - c.1))) = 0 := by grind
    have q2 : K * ((a.2 + s * (b.2 - a.2)) - (c.2 + t * (d.2 - c.2))) = 0 := by grind
    unfold pt
    refine Prod.ext ?_ ?_ <;> show _ = _
    · rcases Rat.mul_eq_zero.1 q1 with m | m <;> grind
    · rcases Rat.mul_eq_zero.1 q2 with m | m <;> grind
theorem sep_no {a b c d : Q2} {s t : Rat} (h : Sep a b c d) (s0 : 0 ≤ s) (s1 : s ≤ 1) (t0 : 0 ≤ t) (t1 : t ≤ 1) : pt a b s ≠ pt c d t := by
  intro he
  have h1 := sep_sub h t0 t1 t0 t1
  have h2 := sep_sub h1.flip s0 s1 s0 s1
  obtain ⟨e, ⟨k, -⟩, -⟩ := h2
  rw [he] at k
  unfold cr sb at k
  grind
/-! ### the first place of the ring on a way -/
theorem pt_eq {a b c d : Q2} {s t : Rat} (h : pt a b s = pt c d t) : a.1 + s * (b.1 - a.1) = c.1 + t * (d.1 - c.1) ∧ a.2 + s * (b.2 - a.2) = c.2 + t * (d.2 - c.2) :=
  ⟨congrArg Prod.fst h, congrArg Prod.snd h⟩
theorem pt_of {a b c d : Q2} {s t : Rat} (h1 : a.1 + s * (b.1 - a.1) = c.1 + t * (d.1 - c.1)) (h2 : a.2 + s * (b.2 - a.2) = c.2 + t * (d.2 - c.2)) : pt a b s = pt c d t := Prod.ext h1 h2
theorem seg_first {q v a b : Q2} (hqv : (sb v q).1 ≠ 0 ∨ (sb v q).2 ≠ 0) (hab : (sb b a).1 ≠ 0 ∨ (sb b a).2 ≠ 0) (hq : ∀ s, 0 ≤ s → s ≤ 1 → q ≠ pt a b s) :
    (∀ τ s, 0 ≤ τ → τ ≤ 1 → 0 ≤ s → s ≤ 1 → pt q v τ ≠ pt a b s) ∨ ∃ τ₀ s₀, 0 < τ₀ ∧ τ₀ ≤ 1 ∧ 0 ≤ s₀ ∧ s₀ ≤ 1 ∧ pt q v τ₀ = pt a b s₀ ∧ ∀ τ s, 0 ≤ τ → τ ≤ 1 → 0 ≤ s → s ≤ 1 → pt q v τ = pt a b s → τ₀ ≤ τ := by
  by_cases hex : ∃ τ s, 0 ≤ τ ∧ τ ≤ 1 ∧ 0 ≤ s ∧ s ≤ 1 ∧ pt q v τ = pt a b s
  · right
    obtain ⟨τ₁, s₁, t0, t1, s0, s1, he⟩ := hex
    obtain ⟨x1, x2⟩ := pt_eq he
    have hq' : ∀ s, 0 ≤ s → s ≤ 1 → ¬ (q.1 = a.1 + s * (b.1 - a.1) ∧ q.2 = a.2 + s * (b.2 - a.2)) := fun s k0 k1 k => hq s k0 k1 (Prod.ext k.1 k.2)
    by_cases hk : cr (sb v q) (sb b a) = 0
    · have pV := sq_pos' _ hqv
      obtain ⟨N, hN⟩ : ∃ x, x = (sb v q).1 * (sb v q).1 + (sb v q).2 * (sb v q).2 := ⟨_, rfl⟩
      obtain ⟨ρ, hρ⟩ : ∃ x, x = dt (sb v q) (sb b a) / N := ⟨_, rfl⟩
      rw [← hN] at pV
      have e0 : ρ * N = dt (sb v q) (sb b a) := by rw [hρ]; grind
      have e1 : b.1 - a.1 = ρ * (v.1 - q.1) := by
        have : N * ((b.1 - a.1) - ρ * (v.1 - q.1)) = 0 := by
          have i : N * (b.1 - a.1) = dt (sb v q) (sb b a) * (v.1 - q.1) := by rw [hN]; unfold cr dt sb at *; grind
          grind
        rcases Rat.mul_eq_zero.1 this with m | m <;> grind
      have e2 : b.2 - a.2 = ρ * (v.2 - q.2) := by
        have : N * ((b.2 - a.2) - ρ * (v.2 - q.2)) = 0 := by
          have i : N * (b.2 - a.2) = dt (sb v q) (sb b a) * (v.2 - q.2) := by rw [hN]; unfold cr dt sb at *; grind
          grind
        rcases Rat.mul_eq_zero.1 this with m | m <;> grind
      have uni : ∀ τ s, pt q v τ = pt a b s → τ = τ₁ + (s - s₁) * ρ := by
        intro τ s h
        obtain ⟨y1, y2⟩ := pt_eq h
        have i1 : (τ - τ₁ - (s - s₁) * ρ) * (v.1 - q.1) = 0 := by rw [e1] at x1 y1; grind
        have i2 : (τ - τ₁ - (s - s₁) * ρ) * (v.2 - q.2) = 0 := by rw [e2] at x2 y2; grind
        unfold sb at hqv
        rcases Rat.mul_eq_zero.1 i1 with m | m
        · grind
        · rcases Rat.mul_eq_zero.1 i2 with m2 | m2 <;> grind
      have hit : ∀ s, pt q v (τ₁ + (s - s₁) * ρ) = pt a b s := fun s => pt_of (by rw [e1] at x1 ⊢; grind) (by rw [e2] at x2 ⊢; grind)
      rcases tri ρ with r | r | r
      · -- the last end first
        have h0 : 0 < τ₁ + (1 - s₁) * ρ := by
          rcases le_or (τ₁ + (1 - s₁) * ρ) with m | m
          · exfalso
            have p1 := Rat.mul_nonneg (a := 1 - s₁) (b := -ρ) (by grind) (by grind)
            have ew : τ₁ / -ρ * -ρ = τ₁ := by grind
            have w0 : 0 ≤ τ₁ / -ρ := by
              have := sgnmul (τ₁ / -ρ) (-ρ)
              grind
            have m1 : (1 - s₁ - τ₁ / -ρ) * -ρ = (1 - s₁) * -ρ - τ₁ := by grind
            have m2 : 0 ≤ 1 - s₁ - τ₁ / -ρ := by
              have := sgnmul (1 - s₁ - τ₁ / -ρ) (-ρ)
              grind
            have hz := hit (s₁ + τ₁ / -ρ)
            rw [show τ₁ + (s₁ + τ₁ / -ρ - s₁) * ρ = 0 by grind, pt_zero] at hz
            exact hq _ (by grind) (by grind) hz
          · exact m
        have p1 := Rat.mul_nonneg (a := 1 - s₁) (b := -ρ) (by grind) (by grind)
        refine ⟨τ₁ + (1 - s₁) * ρ, 1, h0, by grind, by grind, by grind, hit 1, fun τ s a0 a1 b0 b1 h => ?_⟩
        have := uni τ s h
        have := Rat.mul_nonneg (a := 1 - s) (b := -ρ) (by grind) (by grind)
        grind
      · exfalso
        unfold sb at hab
        rw [r] at e1 e2
        grind
      · have h0 : 0 < τ₁ + (0 - s₁) * ρ := by
          rcases le_or (τ₁ + (0 - s₁) * ρ) with m | m
          · exfalso
            have p1 := Rat.mul_nonneg (a := s₁) (b := ρ) s0 (by grind)
            have ew : τ₁ / ρ * ρ = τ₁ := by grind
            have m0 : 0 ≤ τ₁ / ρ := by
              have := sgnmul (τ₁ / ρ) ρ
              grind
            have m1 : (s₁ - τ₁ / ρ) * ρ = s₁ * ρ - τ₁ := by grind
            have m2 : 0 ≤ s₁ - τ₁ / ρ := by
              have := sgnmul (s₁ - τ₁ / ρ) ρ
              grind
            have hz := hit (s₁ - τ₁ / ρ)
            rw [show τ₁ + (s₁ - τ₁ / ρ - s₁) * ρ = 0 by grind, pt_zero] at hz
            exact hq _ (by grind) (by grind) hz
          · exact m
        have p1 := Rat.mul_nonneg (a := s₁) (b := ρ) s0 (by grind)
        refine ⟨τ₁ + (0 - s₁) * ρ, 0, h0, by grind, by grind, by grind, hit 0, fun τ s a0 a1 b0 b1 h => ?_⟩
        have := uni τ s h
        have := Rat.mul_nonneg (a := s) (b := ρ) b0 (by grind)
        grind
    · refine ⟨τ₁, s₁, ?_, t1, s0, s1, he, fun τ s a0 a1 b0 b1 h => ?_⟩
      · rcases (by grind : τ₁ = 0 ∨ 0 < τ₁) with m | m
        · exfalso
          rw [m, pt_zero] at he
          exact hq s₁ s0 s1 he
        · exact m
      · obtain ⟨y1, y2⟩ := pt_eq h
        have i : (τ - τ₁) * cr (sb v q) (sb b a) = 0 := by unfold cr sb; grind
        rcases Rat.mul_eq_zero.1 i with m | m <;> grind
  · left
    intro τ s t0 t1 s0 s1 h
    exact hex ⟨τ, s, t0, t1, s0, s1, h⟩
/-- a place that is on no side -/
def Off (P : Nat → Q2) (q : Q2) : Prop := ∀ j s, 0 ≤ s → s ≤ 1 → q ≠ pt (P j) (P (j + 1)) s
theorem first_hit {P : Nat → Q2} {q v : Q2} (hne : ∀ i, (sb (P (i + 1)) (P i)).1 ≠ 0 ∨ (sb (P (i + 1)) (P i)).2 ≠ 0) (hqv : (sb v q).1 ≠ 0 ∨ (sb v q).2 ≠ 0) (hq : Off P q) : ∀ m,
    (∀ j, j < m → ∀ τ s, 0 ≤ τ → τ ≤ 1 → 0 ≤ s → s ≤ 1 → pt q v τ ≠ pt (P j) (P (j + 1)) s) ∨
    ∃ i τ₀ s₀, i < m ∧ 0 < τ₀ ∧ τ₀ ≤ 1 ∧ 0 ≤ s₀ ∧ s₀ ≤ 1 ∧ pt q v τ₀ = pt (P i) (P (i + 1)) s₀ ∧ ∀ j, j < m → ∀ τ s, 0 ≤ τ → τ ≤ 1 → 0 ≤ s → s ≤ 1 → pt q v τ = pt (P j) (P (j + 1)) s → τ₀ ≤ τ
  | 0 => .inl fun j hj => absurd hj (Nat.not_lt_zero _)
  | m + 1 => by
    rcases first_hit hne hqv hq m with h1 | ⟨i, τ₀, s₀, a, b, c, d, e, f, g⟩
    · rcases seg_first hqv (hne m) (hq m) with h2 | ⟨τ₁, s₁, b', c', d', e', f', g'⟩
      · refine .inl fun j hj => ?_
        rcases Nat.lt_or_ge j m with k | k
        · exact h1 j k
        · obtain rfl : j = m := by omega
          exact h2
      · refine .inr ⟨m, τ₁, s₁, by omega, b', c', d', e', f', fun j hj => ?_⟩
        rcases Nat.lt_or_ge j m with k | k
        · exact fun τ s x0 x1 y0 y1 h => absurd h (h1 j k τ s x0 x1 y0 y1)
        · obtain rfl : j = m := by omega
          exact g'
    · rcases seg_first hqv (hne m) (hq m) with h2 | ⟨τ₁, s₁, b', c', d', e', f', g'⟩
      · refine .inr ⟨i, τ₀, s₀, by omega, b, c, d, e, f, fun j hj => ?_⟩
        rcases Nat.lt_or_ge j m with k | k
        · exact g j k
        · obtain rfl : j = m := by omega
          exact fun τ s x0 x1 y0 y1 h => absurd h (h2 τ s x0 x1 y0 y1)
      · rcases (by grind : τ₀ ≤ τ₁ ∨ τ₁ < τ₀) with k0 | k0
        · refine .inr ⟨i, τ₀, s₀, by omega, b, c, d, e, f, fun j hj => ?_⟩
          rcases Nat.lt_or_ge j m with k | k
          · exact g j k
          · obtain rfl : j = m := by omega
            exact fun τ s x0 x1 y0 y1 h => by have := g' τ s x0 x1 y0 y1 h; grind
        · refine .inr ⟨m, τ₁, s₁, by omega, b', c', d', e', f', fun j hj => ?_⟩
          rcases Nat.lt_or_ge j m with k | k
          · exact fun τ s x0 x1 y0 y1 h => by have := g j k τ s x0 x1 y0 y1 h; grind
          · obtain rfl : j = m := by omega
            exact g'
/-! ### places about a point of the ring -/
theorem sec_range {u d e : Q2} (he : e.1 ≠ 0 ∨ e.2 ≠ 0) : chi u e - rr e + chi (ng e) d - chi u d = 0 ∨ chi u e - rr e + chi (ng e) d - chi u d = -1 := by
  have a1 := sgnmul u.2 (cr d e)
  have a2 := sgnmul d.2 (cr u e)
  have a3 := sgnmul e.2 (cr u d)
  have p2 := plu2 u d e
  have z1 : u.2 = 0 → u.2 * cr d e = 0 := fun k => by rw [k]; grind
  have z2 : cr d e = 0 → u.2 * cr d e = 0 := fun k => by rw [k]; grind
  have z3 : cr u e = 0 → d.2 * cr u e = 0 := fun k => by rw [k]; grind
  have z4 : cr u d = 0 → e.2 * cr u d = 0 := fun k => by rw [k]; grind
  have z5 : d.2 = 0 → d.2 * cr u e = 0 := fun k => by rw [k]; grind
  have e2 : cr (ng e) d = cr d e := by unfold cr ng; grind
  have n2 : (ng e).2 = -e.2 := rfl
  have w1 : e.2 = 0 → cr u e = -(u.2 * e.1) ∧ cr d e = -(d.2 * e.1) := fun k => by unfold cr; rw [k]; grind
  have w2 := sgnmul u.2 e.1
  have w3 := sgnmul d.2 e.1
  have c1 := @chi_up u e
  have c2 := @chi_dn u e
  have c3 := @chi_lo u e
  have c4 := @chi_hi u e
  have f1 := @chi_up (ng e) d
  have f2 := @chi_dn (ng e) d
  have f3 := @chi_lo (ng e) d
  have f4 := @chi_hi (ng e) d
  have g1 := @chi_up u d
  have g2 := @chi_dn u d
  have g3 := @chi_lo u d
  have g4 := @chi_hi u d
  have hr1 : 0 < e.2 → rr e = 1 := fun k => by unfold rr; grind
  have hr2 : e.2 < 0 → rr e = 0 := fun k => by unfold rr; grind
  have hr3 : e.2 = 0 → e.1 < 0 → rr e = 1 := fun k l => by unfold rr; grind
  have hr4 : e.2 = 0 → 0 < e.1 → rr e = 0 := fun k l => by unfold rr; grind
  rcases tri e.2 with q | q | q
  · rw [hr2 q]
    rcases le_or u.2 with x | x <;> rcases le_or d.2 with y | y
    · rw [c3 x (by grind), f2 (by grind) y, g3 x y]
      try rw [e2]
      clear c1 c2 c3 c4 f1 f2 f3 f4 g1 g2 g3 g4 hr1 hr2 hr3 hr4
      grind (splits := 40)
    · rw [c3 x (by grind), f4 (by grind) y, g1 x y]
      try rw [e2]
      clear c1 c2 c3 c4 f1 f2 f3 f4 g1 g2 g3 g4 hr1 hr2 hr3 hr4
      grind (splits := 40)
    · rw [c2 x (by grind), f2 (by grind) y, g2 x y]
      try rw [e2]
      clear c1 c2 c3 c4 f1 f2 f3 f4 g1 g2 g3 g4 hr1 hr2 hr3 hr4
      grind (splits := 40)
    · rw [c2 x (by grind), f4 (by grind) y, g4 x y]
      try rw [e2]
      clear c1 c2 c3 c4 f1 f2 f3 f4 g1 g2 g3 g4 hr1 hr2 hr3 hr4
      grind (splits := 40)
  · rcases tri e.1 with z | z | z
    · rw [hr3 q z]
      rcases le_or u.2 with x | x <;> rcases le_or d.2 with y | y
      · rw [c3 x (by grind), f3 (by grind) y, g3 x y]
        try rw [e2]
        clear c1 c2 c3 c4 f1 f2 f3 f4 g1 g2 g3 g4 hr1 hr2 hr3 hr4
        grind (splits := 40)
      · rw [c3 x (by grind), f1 (by grind) y, g1 x y]
        try rw [e2]
        clear c1 c2 c3 c4 f1 f2 f3 f4 g1 g2 g3 g4 hr1 hr2 hr3 hr4
        grind (splits := 40)
      · rw [c2 x (by grind), f3 (by grind) y, g2 x y]
        try rw [e2]
        clear c1 c2 c3 c4 f1 f2 f3 f4 g1 g2 g3 g4 hr1 hr2 hr3 hr4
        grind (splits := 40)
      · rw [c2 x (by grind), f1 (by grind) y, g4 x y]
        try rw [e2]
        clear c1 c2 c3 c4 f1 f2 f3 f4 g1 g2 g3 g4 hr1 hr2 hr3 hr4
        grind (splits := 40)
    · grind
    · rw [hr4 q z]
      rcases le_or u.2 with x | x <;> rcases le_or d.2 with y | y
      · rw [c3 x (by grind), f3 (by grind) y, g3 x y]
        try rw [e2]
        clear c1 c2 c3 c4 f1 f2 f3 f4 g1 g2 g3 g4 hr1 hr2 hr3 hr4
        grind (splits := 40)
      · rw [c3 x (by grind), f1 (by grind) y, g1 x y]
        try rw [e2]
        clear c1 c2 c3 c4 f1 f2 f3 f4 g1 g2 g3 g4 hr1 hr2 hr3 hr4
        grind (splits := 40)
      · rw [c2 x (by grind), f3 (by grind) y, g2 x y]
        try rw [e2]
        clear c1 c2 c3 c4 f1 f2 f3 f4 g1 g2 g3 g4 hr1 hr2 hr3 hr4
        grind (splits := 40)
      · rw [c2 x (by grind), f1 (by grind) y, g4 x y]
        try rw [e2]
        clear c1 c2 c3 c4 f1 f2 f3 f4 g1 g2 g3 g4 hr1 hr2 hr3 hr4
        grind (splits := 40)
  · rw [hr1 q]
    rcases le_or u.2 with x | x <;> rcases le_or d.2 with y | y
    · rw [c1 x q, f3 (by grind) y, g3 x y]
      try rw [e2]
      clear c1 c2 c3 c4 f1 f2 f3 f4 g1 g2 g3 g4 hr1 hr2 hr3 hr4
      grind (splits := 40)
    · rw [c1 x q, f1 (by grind) y, g1 x y]
      try rw [e2]
      clear c1 c2 c3 c4 f1 f2 f3 f4 g1 g2 g3 g4 hr1 hr2 hr3 hr4
      grind (splits := 40)
    · rw [c4 x q, f3 (by grind) y, g2 x y]
      try rw [e2]
      clear c1 c2 c3 c4 f1 f2 f3 f4 g1 g2 g3 g4 hr1 hr2 hr3 hr4
      grind (splits := 40)
    · rw [c4 x q, f1 (by grind) y, g4 x y]
      try rw [e2]
      clear c1 c2 c3 c4 f1 f2 f3 f4 g1 g2 g3 g4 hr1 hr2 hr3 hr4
      grind (splits := 40)
/-! ### each place is on one of two sides -/
theorem div_mul' {D N : Rat} (hN : 0 < N) : D / N * N = D := by grind
theorem div_pos' {D N : Rat} (hD : 0 < D) (hN : 0 < N) : 0 < D / N := by
  have e := div_mul' (D := D) hN
  obtain ⟨x, hx⟩ : ∃ x, x = D / N := ⟨_, rfl⟩
  rw [← hx] at e ⊢
  rcases le_or x with k | k
  · have := Rat.mul_nonneg (a := -x) (b := N) (by grind) (by grind)
    grind
  · exact k
theorem div_eq' {x y D N : Rat} (hN : 0 < N) (h : N * x = D * y) : x = D / N * y := by
  have e := div_mul' (D := D) hN
  have : N * (x - D / N * y) = 0 := by grind
  rcases Rat.mul_eq_zero.1 this with m | m <;> grind
theorem rr_two (u : Q2) : rr u = 0 ∨ rr u = 1 := by unfold rr; grind
theorem per_mod {P : Nat → Q2} {n : Nat} (h : Ring P n) (j : Nat) : P j = P (j % n) := by
  have : ∀ k m, P (m + n * k) = P m := fun k => by
    induction k with
    | zero => intro m; rfl
    | succ k ih => intro m; rw [Nat.mul_succ, ← Nat.add_assoc, h.per, ih]
  have e := Nat.mod_add_div j n
  rw [← this (j / n) (j % n), e]
theorem per_mod' {P : Nat → Q2} {n : Nat} (h : Ring P n) (j : Nat) : P (j + 1) = P (j % n + 1) := by
  rw [per_mod h (j + 1), per_mod h (j % n + 1), Nat.add_mod j 1 n, Nat.add_mod (j % n) 1 n, Nat.mod_mod]
theorem side_next {P : Nat → Q2} {n : Nat} (h : Ring P n) {i : Nat} {s t : Rat} (s0 : 0 ≤ s) (s1 : s ≤ 1) (t0 : 0 ≤ t) (t1 : t ≤ 1) (he : pt (P i) (P (i + 1)) s = pt (P (i + 1)) (P (i + 2)) t) : s = 1 ∧ t = 0 := by
  rcases (by grind : t = 0 ∨ 0 < t) with k | k
  · refine ⟨?_, k⟩
    rw [k, pt_zero] at he
    have hn := h.ne i
    have x1 := congrArg Prod.fst he
    have x2 := congrArg Prod.snd he
    unfold pt at x1 x2
    unfold sb at hn
    have y1 : (1 - s) * ((P (i + 1)).1 - (P i).1) = 0 := by grind
    have y2 : (1 - s) * ((P (i + 1)).2 - (P i).2) = 0 := by grind
    rcases Rat.mul_eq_zero.1 y1 with m | m
    · grind
    · rcases Rat.mul_eq_zero.1 y2 with m2 | m2 <;> grind
  · exfalso
    have hS := sep_adj (s := t) (t := t) (h.ne i) (h.opp i) k k
    have := sep_no (s := s) (t := 0) hS s0 s1 (by grind) (by grind)
    rw [pt_zero] at this
    exact this he
theorem side_prev {P : Nat → Q2} {n : Nat} (h : Ring P n) {i : Nat} {s t : Rat} (s0 : 0 ≤ s) (s1 : s ≤ 1) (t0 : 0 ≤ t) (t1 : t ≤ 1) (he : pt (P i) (P (i + 1)) s = pt (P (i + (n - 1))) (P (i + (n - 1) + 1)) t) : s = 0 ∧ t = 1 := by
  have hn := h.n3
  have e1 : P (i + (n - 1) + 1) = P i := by rw [show i + (n - 1) + 1 = i + n by omega]; exact h.per i
  have e2 : P (i + (n - 1) + 2) = P (i + 1) := by rw [show i + (n - 1) + 2 = i + 1 + n by omega]; exact h.per _
  have := side_next h (i := i + (n - 1)) (s := t) (t := s) t0 t1 s0 s1 (by rw [e1, e2]; rw [e1] at he; exact he.symm)
  exact ⟨this.2, this.1⟩
/-- which sides have a place of side i -/
theorem side_meets {P : Nat → Q2} {n : Nat} (h : Ring P n) {i k : Nat} {s t : Rat} (k1 : 1 ≤ k) (kn : k < n) (s0 : 0 ≤ s) (s1 : s ≤ 1) (t0 : 0 ≤ t) (t1 : t ≤ 1) (he : pt (P i) (P (i + 1)) s = pt (P (i + k)) (P (i + k + 1)) t) :
    (k = 1 ∧ s = 1) ∨ (k = n - 1 ∧ s = 0) := by
  rcases Nat.lt_or_ge k 2 with a | a
  · obtain rfl : k = 1 := by omega
    exact .inl ⟨rfl, (side_next h s0 s1 t0 t1 he).1⟩
  · rcases Nat.lt_or_ge (n - 2) k with b | b
    · obtain rfl : k = n - 1 := by omega
      exact .inr ⟨rfl, (side_prev h s0 s1 t0 t1 he).1⟩
    · exact absurd he.symm (sep_no (h.sep i k a (by omega)) t0 t1 s0 s1)
theorem jordan {P : Nat → Q2} {n : Nat} (h : Ring P n) {q : Q2} (hq : Off P q) : wn P n q = gg P n 0 ∨ wn P n q = gg P n 0 - 1 := by
  have hn := h.n3
  have ne2 : ∀ a b : Q2, a ≠ b → (sb a b).1 ≠ 0 ∨ (sb a b).2 ≠ 0 := fun a b k => by
    rcases (by grind : (sb a b).1 = 0 ∨ (sb a b).1 ≠ 0) with m | m
    · rcases (by grind : (sb a b).2 = 0 ∨ (sb a b).2 ≠ 0) with m2 | m2
      · exfalso
        unfold sb at m m2
        exact k (Prod.ext (by grind) (by grind))
      · exact .inr m2
    · exact .inl m
  have hq0 : P 0 ≠ q := fun k => hq 0 0 (by grind) (by grind) (by rw [pt_zero]; exact k.symm)
  obtain ⟨i, τ, s, z, t0, t1, s0, s1, hz, hz2, hmin⟩ : ∃ i τ s z, 0 < τ ∧ τ ≤ 1 ∧ 0 < s ∧ s ≤ 1 ∧ z = pt q (P 0) τ ∧ z = pt (P i) (P (i + 1)) s ∧ ∀ j, ∀ τ' s', 0 ≤ τ' → τ' ≤ 1 → 0 ≤ s' → s' ≤ 1 → pt q (P 0) τ' = pt (P j) (P (j + 1)) s' → τ ≤ τ' := by
    rcases first_hit h.ne (ne2 _ _ hq0) hq n with no | ⟨i, τ, s, hi, t0, t1, s0, s1, he, hm⟩
    · exfalso
      refine no 0 (by omega) 1 0 (by grind) (by grind) (by grind) (by grind) ?_
      rw [pt_one, pt_zero]
    · have hm' : ∀ j, ∀ τ' s', 0 ≤ τ' → τ' ≤ 1 → 0 ≤ s' → s' ≤ 1 → pt q (P 0) τ' = pt (P j) (P (j + 1)) s' → τ ≤ τ' := fun j τ' s' a b c d k => by
        rw [per_mod h j, per_mod' h j] at k
        exact hm (j % n) (Nat.mod_lt _ (by omega)) τ' s' a b c d k
      rcases (by grind : s = 0 ∨ 0 < s) with k | k
      · refine ⟨i + (n - 1), τ, 1, _, t0, t1, by grind, by grind, rfl, ?_, hm'⟩
        rw [he, k, pt_zero, pt_one, show i + (n - 1) + 1 = i + n by omega, h.per]
      · exact ⟨i, τ, s, _, t0, t1, k, s1, rfl, he, hm'⟩
  have hzq : z ≠ q := fun k => hq i s (by grind) s1 (by rw [← hz2, k])
  have see : ∀ j, (∀ t, 0 ≤ t → t ≤ 1 → z ≠ pt (P j) (P (j + 1)) t) → Sep (P j) (P (j + 1)) q z := by
    intro j hj
    rcases sep_or_meet (a := P j) (b := P (j + 1)) (c := q) (d := z) (h.ne j) (ne2 _ _ hzq) with k | ⟨a, b, a0, a1, b0, b1, e⟩
    · exact k
    · exfalso
      have e2 : pt q z b = pt q (P 0) (b * τ) := by
        rw [hz]
        unfold pt
        refine Prod.ext ?_ ?_ <;> show _ = _ <;> grind
      have p0 : 0 ≤ b * τ := Rat.mul_nonneg b0 (by grind)
      have p1 : 0 ≤ (1 - b) * τ := Rat.mul_nonneg (by grind) (by grind)
      have m := hmin j (b * τ) a p0 (by grind) a0 a1 (by rw [← e2, e])
      have b2 : b = 1 := by
        rcases (by grind : b = 1 ∨ b < 1) with k | k
        · exact k
        · have := Rat.mul_pos (a := 1 - b) (b := τ) (by grind) t0
          grind
      rw [b2, pt_one] at e
      exact hj a a0 a1 e.symm
  have hg := gg_all h i
  rcases (by grind : s < 1 ∨ s = 1) with k | k
  · have hs := side_wn h (i := i) (s := s) (q := q) s0 k (fun k' hk' => by
      rw [← hz2]
      refine see _ fun t x0 x1 e => ?_
      rw [hz2, show i + 1 + k' = i + (1 + k') by omega] at e
      rcases side_meets h (by omega) (by omega) (by grind) s1 x0 x1 e with ⟨-, m⟩ | ⟨-, m⟩ <;> grind)
    rw [← hz2] at hs
    have hd : sb z q = ng (sb q z) := by unfold sb ng; refine Prod.ext ?_ ?_ <;> show _ = _ <;> grind
    have he := ne2 _ _ (fun k => hzq k.symm : q ≠ z)
    rw [hd] at hs
    have r2 := rr_two (dd P i)
    by_cases c0 : cr (dd P i) (sb q z) = 0
    · rw [chi_zero (u := ng (dd P i)) (v := ng (sb q z)) (by unfold cr ng at *; grind), chi_zero (u := ng (sb q z)) (v := dd P i) (by unfold cr ng at *; grind)] at hs
      omega
    · have r := rr_chi (u := dd P i) (v := sb q z) (h.ne i) he (fun o => c0 o.1)
      have v := sec_range (u := dd P i) (d := dd P i) he
      rw [chi_self] at v
      omega
  · rw [k, pt_one] at hz2
    have hs := sees_wn h (i := i) (q := q) (fun k' hk' => by
      rw [← hz2]
      refine see _ fun t x0 x1 e => ?_
      have e3 : pt (P i) (P (i + 1)) 1 = pt (P (i + (2 + k'))) (P (i + (2 + k') + 1)) t := by
        rw [pt_one, ← hz2, e, show i + 2 + k' = i + (2 + k') by omega]
      rcases side_meets h (by omega) (by omega) (by grind) (by grind) x0 x1 e3 with ⟨m, -⟩ | ⟨-, m⟩
      · omega
      · grind)
    rw [← hz2] at hs
    have hd : sb z q = ng (sb q z) := by unfold sb ng; refine Prod.ext ?_ ?_ <;> show _ = _ <;> grind
    have he := ne2 _ _ (fun k => hzq k.symm : q ≠ z)
    have hgi : gg P n i = th P n (i + 1) z + chi (dd P i) (dd P (i + 1)) + rr (dd P i) := by rw [hz2]; rfl
    have r2 := rr_two (dd P i)
    by_cases c0 : Opp (dd P i) (sb q z)
    · obtain ⟨k1, k2⟩ := c0
      have pu := sq_pos' (dd P i) (h.ne i)
      have a1 : chi (ng (dd P i)) (sb z q) = 0 := chi_zero (by rw [hd]; unfold cr ng at *; grind)
      obtain ⟨N, hN⟩ : ∃ x, x = (dd P i).1 * (dd P i).1 + (dd P i).2 * (dd P i).2 := ⟨_, rfl⟩
      obtain ⟨D, hD⟩ : ∃ x, x = dt (dd P i) (sb z q) := ⟨_, rfl⟩
      have i1 : N * (sb z q).1 = D * (dd P i).1 := by rw [hN, hD, hd]; unfold cr dt ng at *; grind
      have i2 : N * (sb z q).2 = D * (dd P i).2 := by rw [hN, hD, hd]; unfold cr dt ng at *; grind
      rw [← hN] at pu
      have hD0 : 0 ≤ D := by rw [hD, hd]; unfold dt ng at *; grind
      have hD1 : 0 < D := by
        rcases (by grind : D = 0 ∨ 0 < D) with m | m
        · exfalso
          rw [m] at i1 i2
          have hz' := ne2 _ _ hzq
          rcases Rat.mul_eq_zero.1 (show N * (sb z q).1 = 0 by grind) with m1 | m1
          · grind
          · rcases Rat.mul_eq_zero.1 (show N * (sb z q).2 = 0 by grind) with m2 | m2 <;> grind
        · exact m
      have a2 : chi (sb z q) (dd P (i + 1)) = chi (dd P i) (dd P (i + 1)) := by
        exact chi_scale' (α := D / N) (div_pos' hD1 pu) (div_eq' pu i1) (div_eq' pu i2)
      omega
    · have r := rr_chi (u := dd P i) (v := sb q z) (h.ne i) he c0
      have v := sec_range (u := dd P i) (d := dd P (i + 1)) he
      rw [← hd] at r v
      omega
/-! ### the ring turned by half a turn -/
def mr (P : Nat → Q2) (j : Nat) : Q2 := ng (P j)
theorem sb_ng (a b : Q2) : sb (ng a) (ng b) = ng (sb a b) := by unfold sb ng; refine Prod.ext ?_ ?_ <;> show _ = _ <;> grind
theorem cr_ng (a b : Q2) : cr (ng a) (ng b) = cr a b := by unfold cr ng; grind
theorem cr_ng1 (a b : Q2) : cr (ng a) b = -cr a b := by unfold cr ng; grind
theorem cr_ng2 (a b : Q2) : cr a (ng b) = -cr a b := by unfold cr ng; grind
theorem dt_ng (a b : Q2) : dt (ng a) (ng b) = dt a b := by unfold dt ng; grind
theorem ng_ng (a : Q2) : ng (ng a) = a := by unfold ng; refine Prod.ext ?_ ?_ <;> show _ = _ <;> grind
theorem pt_ng (a b : Q2) (t : Rat) : pt (ng a) (ng b) t = ng (pt a b t) := by unfold pt ng; refine Prod.ext ?_ ?_ <;> show _ = _ <;> grind
theorem Sep.mr {a b c d : Q2} (h : Sep a b c d) : Sep (ng a) (ng b) (ng c) (ng d) := by
  obtain ⟨e, ⟨h1, h2⟩, h3, h4⟩ := h
  refine ⟨ng e, ⟨?_, ?_⟩, ?_, ?_⟩ <;> rw [sb_ng, cr_ng] <;> assumption
theorem dd_mr (P : Nat → Q2) (i : Nat) : dd (mr P) i = ng (dd P i) := sb_ng _ _
theorem Ring.mr {P : Nat → Q2} {n : Nat} (h : Ring P n) : Ring (mr P) n where
  n3 := h.n3
  per i := congrArg ng (h.per i)
  sep i k a b := (h.sep i k a b).mr
  ne i := by
    have := h.ne i
    show (sb (ng _) (ng _)).1 ≠ 0 ∨ (sb (ng _) (ng _)).2 ≠ 0
    rw [sb_ng]
    unfold ng
    grind
  opp i := by
    have := h.opp i
    show ¬ Opp (sb (ng _) (ng _)) (sb (ng _) (ng _))
    rw [sb_ng, sb_ng]
    unfold Opp at *
    rw [cr_ng, dt_ng]
    exact this
/-- what the winding numbers differ by is the same for the ring turned by half a turn -/
theorem val_mr {u d e : Q2} (hu : u.1 ≠ 0 ∨ u.2 ≠ 0) (hd : d.1 ≠ 0 ∨ d.2 ≠ 0) (he : e.1 ≠ 0 ∨ e.2 ≠ 0) (o1 : ¬ Opp u d) (o2 : ¬ Opp u e) (o3 : ¬ Opp (ng e) d) :
    (chi (ng u) (ng e) + chi (ng e) d - chi u d - rr u = 0 ∨ chi (ng u) (ng e) + chi (ng e) d - chi u d - rr u = -1) ∧
    chi u e + chi e (ng d) - chi (ng u) (ng d) - rr (ng u) = chi (ng u) (ng e) + chi (ng e) d - chi u d - rr u := by
  have r1 := rr_chi hu hd o1
  have r2 := rr_chi hu he o2
  have hne : (ng e).1 ≠ 0 ∨ (ng e).2 ≠ 0 := by unfold ng; grind
  have r3 := rr_chi hne hd o3
  rw [ng_ng] at r3
  have r4 := rr_ng hu
  have r5 := rr_ng he
  have v := sec_range (u := u) (d := d) he
  omega
theorem jordan2 {P : Nat → Q2} {n : Nat} (h : Ring P n) {q : Q2} (hq : Off P q) : ∃ V : Int, (V = 0 ∨ V = -1) ∧ wn P n q = gg P n 0 + V ∧ wn (mr P) n (ng q) = gg (mr P) n 0 + V := by
  have hn := h.n3
  have ne2 : ∀ a b : Q2, a ≠ b → (sb a b).1 ≠ 0 ∨ (sb a b).2 ≠ 0 := fun a b k => by
    rcases (by grind : (sb a b).1 = 0 ∨ (sb a b).1 ≠ 0) with m | m
    · rcases (by grind : (sb a b).2 = 0 ∨ (sb a b).2 ≠ 0) with m2 | m2
      · exfalso
        unfold sb at m m2
        exact k (Prod.ext (by grind) (by grind))
      · exact .inr m2
    · exact .inl m
  have hq0 : P 0 ≠ q := fun k => hq 0 0 (by grind) (by grind) (by rw [pt_zero]; exact k.symm)
  obtain ⟨i, τ, s, z, t0, t1, s0, s1, hz, hz2, hmin⟩ : ∃ i τ s z, 0 < τ ∧ τ ≤ 1 ∧ 0 < s ∧ s ≤ 1 ∧ z = pt q (P 0) τ ∧ z = pt (P i) (P (i + 1)) s ∧ ∀ j, ∀ τ' s', 0 ≤ τ' → τ' ≤ 1 → 0 ≤ s' → s' ≤ 1 → pt q (P 0) τ' = pt (P j) (P (j + 1)) s' → τ ≤ τ' := by
    rcases first_hit h.ne (ne2 _ _ hq0) hq n with no | ⟨i, τ, s, hi, t0, t1, s0, s1, he, hm⟩
    · exfalso
      refine no 0 (by omega) 1 0 (by grind) (by grind) (by grind) (by grind) ?_
      rw [pt_one, pt_zero]
    · have hm' : ∀ j, ∀ τ' s', 0 ≤ τ' → τ' ≤ 1 → 0 ≤ s' → s' ≤ 1 → pt q (P 0) τ' = pt (P j) (P (j + 1)) s' → τ ≤ τ' := fun j τ' s' a b c d k => by
        rw [per_mod h j, per_mod' h j] at k
        exact hm (j % n) (Nat.mod_lt _ (by omega)) τ' s' a b c d k
      rcases (by grind : s = 0 ∨ 0 < s) with k | k
      · refine ⟨i + (n - 1), τ, 1, _, t0, t1, by grind, by grind, rfl, ?_, hm'⟩
        rw [he, k, pt_zero, pt_one, show i + (n - 1) + 1 = i + n by omega, h.per]
      · exact ⟨i, τ, s, _, t0, t1, k, s1, rfl, he, hm'⟩
  have hzq : z ≠ q := fun k => hq i s (by grind) s1 (by rw [← hz2, k])
  have see : ∀ j, (∀ t, 0 ≤ t → t ≤ 1 → z ≠ pt (P j) (P (j + 1)) t) → Sep (P j) (P (j + 1)) q z := by
    intro j hj
    rcases sep_or_meet (a := P j) (b := P (j + 1)) (c := q) (d := z) (h.ne j) (ne2 _ _ hzq) with k | ⟨a, b, a0, a1, b0, b1, e⟩
    · exact k
    · exfalso
      have e2 : pt q z b = pt q (P 0) (b * τ) := by
        rw [hz]
        unfold pt
        refine Prod.ext ?_ ?_ <;> show _ = _ <;> grind
      have p0 : 0 ≤ b * τ := Rat.mul_nonneg b0 (by grind)
      have p1 : 0 ≤ (1 - b) * τ := Rat.mul_nonneg (by grind) (by grind)
      have m := hmin j (b * τ) a p0 (by grind) a0 a1 (by rw [← e2, e])
      have b2 : b = 1 := by
        rcases (by grind : b = 1 ∨ b < 1) with k | k
        · exact k
        · have := Rat.mul_pos (a := 1 - b) (b := τ) (by grind) t0
          grind
      rw [b2, pt_one] at e
      exact hj a a0 a1 e.symm
  have hg := gg_all h i
  have hg2 := gg_all h.mr i
  have hd : sb z q = ng (sb q z) := by unfold sb ng; refine Prod.ext ?_ ?_ <;> show _ = _ <;> grind
  have he := ne2 _ _ (fun k => hzq k.symm : q ≠ z)
  -- no side that z is on leads to q, or away from it on the way
  have clear : ∀ j s', 0 ≤ s' → s' ≤ 1 → z = pt (P j) (P (j + 1)) s' → (0 < s' → ¬ Opp (dd P j) (sb q z)) ∧ (s' < 1 → ¬ Opp (ng (sb q z)) (dd P j)) := by
    intro j s' a0 a1 hj
    have pu := sq_pos' (dd P j) (h.ne j)
    obtain ⟨N, hN⟩ : ∃ x, x = (dd P j).1 * (dd P j).1 + (dd P j).2 * (dd P j).2 := ⟨_, rfl⟩
    rw [← hN] at pu
    -- q = z + μ d
    have lin : cr (dd P j) (sb q z) = 0 → ∃ μ, μ * N = dt (dd P j) (sb q z) ∧ q = pt (P j) (P (j + 1)) (s' + μ) := by
      intro c0
      refine ⟨dt (dd P j) (sb q z) / N, div_mul' pu, ?_⟩
      have i1 : (sb q z).1 = dt (dd P j) (sb q z) / N * (dd P j).1 := div_eq' pu (by rw [hN]; unfold cr dt at *; grind)
      have i2 : (sb q z).2 = dt (dd P j) (sb q z) / N * (dd P j).2 := div_eq' pu (by rw [hN]; unfold cr dt at *; grind)
      obtain ⟨μ, hμ⟩ : ∃ μ, μ = dt (dd P j) (sb q z) / N := ⟨_, rfl⟩
      rw [← hμ] at i1 i2 ⊢
      rw [hj] at i1 i2
      unfold sb dd sb pt at i1 i2
      unfold pt
      refine Prod.ext ?_ ?_ <;> show _ = _ <;> grind
    -- a place of side j between q and z is met earlier
    have early : ∀ μ x, q = pt (P j) (P (j + 1)) (s' + μ) → 0 ≤ x → x ≤ 1 → (s' < x ∧ x < s' + μ ∨ s' + μ < x ∧ x < s') → False := by
      intro μ x hqm x0 x1 hx
      obtain ⟨θ, hθ⟩ : ∃ θ, θ = (s' + μ - x) / μ := ⟨_, rfl⟩
      have hμ0 : μ ≠ 0 := by grind
      have e1 : θ * μ = s' + μ - x := by rw [hθ]; grind
      have e2 : (1 - θ) * μ = x - s' := by grind
      have b1 : 0 < 1 - θ := by
        have := sgnmul (1 - θ) μ
        have z1 : 1 - θ = 0 → (1 - θ) * μ = 0 := fun k => by rw [k]; grind
        grind
      have b0 : 0 ≤ θ := by
        have := sgnmul θ μ
        have z1 : θ = 0 → θ * μ = 0 := fun k => by rw [k]; grind
        grind
      have p1 := Rat.mul_pos b1 t0
      have p0 := Rat.mul_nonneg b0 (show 0 ≤ τ by grind)
      have := hmin j (θ * τ) x p0 (by grind) x0 x1 (by
        have h1 : pt q (P 0) (θ * τ) = pt q z θ := by
          rw [hz]
          unfold pt
          refine Prod.ext ?_ ?_ <;> show _ = _ <;> grind
        rw [h1, hj]
        have q1 := congrArg Prod.fst hqm
        have q2 := congrArg Prod.snd hqm
        unfold pt at q1 q2 ⊢
        refine Prod.ext ?_ ?_ <;> show _ = _
        · grind
        · grind)
      grind
    have noq : ∀ μ, q = pt (P j) (P (j + 1)) (s' + μ) → ¬ (0 ≤ s' + μ ∧ s' + μ ≤ 1) := fun μ k m => hq j _ m.1 m.2 k
    have hμz : ∀ μ, q = pt (P j) (P (j + 1)) (s' + μ) → μ ≠ 0 := fun μ k m => by
      rw [m, Rat.add_zero] at k
      exact hzq (by rw [hj, k])
    constructor
    · intro sp ho
      obtain ⟨c0, c1⟩ := ho
      obtain ⟨μ, m1, m2⟩ := lin c0
      have n1 := hμz μ m2
      have n2 := noq μ m2
      have hμ : μ < 0 := by
        have := sgnmul μ N
        grind
      rcases le_or (s' + μ) with k | k
      · exact early μ (s' / 2) m2 (by grind) (by grind) (.inr (by grind))
      · exact n2 (by grind)
    · intro sp ho
      obtain ⟨c0, c1⟩ := ho
      have c0' : cr (dd P j) (sb q z) = 0 := by unfold cr ng at *; grind
      have c1' : 0 ≤ dt (dd P j) (sb q z) := by unfold dt ng at *; grind
      obtain ⟨μ, m1, m2⟩ := lin c0'
      have n1 := hμz μ m2
      have n2 := noq μ m2
      have hμ : 0 < μ := by
        have := sgnmul μ N
        grind
      rcases le_or (s' + μ - 1) with k | k
      · exact n2 (by grind)
      · exact early μ ((s' + 1) / 2) m2 (by grind) (by grind) (.inl (by grind))
  have hmrq : sb (ng z) (ng q) = ng (sb z q) := sb_ng _ _
  rcases (by grind : s < 1 ∨ s = 1) with k | k
  · have see2 : ∀ k', k' + 1 < n → Sep (P (i + 1 + k')) (P (i + 1 + k' + 1)) q (pt (P i) (P (i + 1)) s) := fun k' hk' => by
      rw [← hz2]
      refine see _ fun t x0 x1 e => ?_
      rw [hz2, show i + 1 + k' = i + (1 + k') by omega] at e
      rcases side_meets h (by omega) (by omega) (by grind) s1 x0 x1 e with ⟨-, m⟩ | ⟨-, m⟩ <;> grind
    have hs := side_wn h (i := i) (s := s) (q := q) s0 k see2
    have hs2 := side_wn h.mr (i := i) (s := s) (q := ng q) s0 k (fun k' hk' => by
      have := (see2 k' hk').mr
      rw [← pt_ng] at this
      exact this)
    have hzm : pt (mr P i) (mr P (i + 1)) s = ng z := by rw [hz2]; exact pt_ng _ _ _
    rw [hzm, dd_mr, hmrq, ng_ng] at hs2
    rw [← hz2] at hs
    obtain ⟨o2, o3⟩ := clear i s (by grind) s1 hz2
    have v := val_mr (h.ne i) (h.ne i) he (fun o => by
      have := sq_pos' _ (h.ne i)
      unfold Opp dt at o
      grind) (o2 s0) (o3 k)
    have hdd : sb (P (i + 1)) (P i) = dd P i := rfl
    rw [hdd, chi_self, chi_self] at v
    rw [hd] at hs hs2
    rw [ng_ng] at hs2
    refine ⟨chi (ng (dd P i)) (ng (sb q z)) + chi (ng (sb q z)) (dd P i) - rr (dd P i), ?_, ?_, ?_⟩
    · have := v.1
      omega
    · omega
    · have := v.2
      omega
  · rw [k, pt_one] at hz2
    have see2 : Sees P n i q := fun k' hk' => by
      rw [← hz2]
      refine see _ fun t x0 x1 e => ?_
      have e3 : pt (P i) (P (i + 1)) 1 = pt (P (i + (2 + k'))) (P (i + (2 + k') + 1)) t := by
        rw [pt_one, ← hz2, e, show i + 2 + k' = i + (2 + k') by omega]
      rcases side_meets h (by omega) (by omega) (by grind) (by grind) x0 x1 e3 with ⟨m, -⟩ | ⟨-, m⟩
      · omega
      · grind
    have hs := sees_wn h see2
    have hs2 := sees_wn h.mr (i := i) (q := ng q) (fun k' hk' => (see2 k' hk').mr)
    have hzm : mr P (i + 1) = ng z := by rw [hz2]; rfl
    rw [hzm, dd_mr, dd_mr, hmrq, ng_ng] at hs2
    rw [← hz2] at hs
    have o2 := (clear i 1 (by grind) (by grind) (by rw [pt_one, hz2])).1 (by grind)
    have o3 := (clear (i + 1) 0 (by grind) (by grind) (by rw [pt_zero, hz2])).2 (by grind)
    have v := val_mr (h.ne i) (h.ne (i + 1)) he (h.opp i) o2 o3
    have hgi : gg P n i = th P n (i + 1) z + chi (dd P i) (dd P (i + 1)) + rr (dd P i) := by rw [hz2]; rfl
    have hgm : gg (mr P) n i = th (mr P) n (i + 1) (ng z) + chi (ng (dd P i)) (ng (dd P (i + 1))) + rr (ng (dd P i)) := by rw [← hzm, ← dd_mr, ← dd_mr]; rfl
    have hdd : sb (P (i + 1)) (P i) = dd P i := rfl
    have hdd2 : sb (P (i + 1 + 1)) (P (i + 1)) = dd P (i + 1) := rfl
    rw [hdd, hdd2] at v
    rw [hd] at hs hs2
    rw [ng_ng] at hs2
    refine ⟨chi (ng (dd P i)) (ng (sb q z)) + chi (ng (sb q z)) (dd P (i + 1)) - chi (dd P i) (dd P (i + 1)) - rr (dd P i), ?_, ?_, ?_⟩
    · have := v.1
      omega
    · omega
    · have := v.2
      omega
/-! ### turning -/
theorem th_mod {P : Nat → Q2} {n : Nat} (h : Ring P n) (i : Nat) (q : Q2) : th P n (i + n) q = th P n i q := by
  unfold th
  refine sm_congr _ fun j _ => ?_
  rw [show i + n + 1 + j = i + 1 + j + n by omega, sx_per h]
/-- the sides behind side i, up to the last one, about point i -/
def rs (P : Nat → Q2) (n i : Nat) : Int := sm (fun k => sx P (i + 1 + k) (P i)) (n - 1 - i)
theorem rs_step {P : Nat → Q2} {n : Nat} (h : Ring P n) {i : Nat} (hi : 1 ≤ i) (hn : i + 2 ≤ n) :
    rs P n i - rs P n (i + 1) = chi (dd P i) (dd P (i + 1)) - chi (sb (P n) (P i)) (sb (P n) (P (i + 1))) := by
  obtain ⟨m, hm⟩ : ∃ m, n - 1 - i = m + 1 := ⟨n - 2 - i, by omega⟩
  have hmv := move_sum (P := P) (a := i + 2) (m := m) (p := P i) (q := P (i + 1)) (fun k hk => by
    have hs := h.sep i (2 + k) (by omega) (by omega)
    rw [← Nat.add_assoc] at hs
    exact hs)
  have a1 : rs P n i = sx P (i + 1) (P i) + sm (fun k => sx P (i + 2 + k) (P i)) m := by
    unfold rs
    rw [hm, sm_head]
    refine congrArg (_ + ·) (sm_congr m fun j _ => ?_)
    rw [show i + 1 + (j + 1) = i + 2 + j by omega]
  have a2 : rs P n (i + 1) = sm (fun k => sx P (i + 2 + k) (P (i + 1))) m := by
    unfold rs
    rw [show n - 1 - (i + 1) = m by omega]
  have b1 := chi_sum (dd P i) (dd P (i + 1))
  have e1 : ad (dd P i) (dd P (i + 1)) = sb (P (i + 2)) (P i) := by
    unfold ad dd sb
    refine Prod.ext ?_ ?_ <;> show _ = _ <;> grind
  rw [e1] at b1
  have c1 : sx P (i + 1) (P i) = chi (dd P i) (sb (P (i + 2)) (P i)) := rfl
  have c2 : sb (P (i + 2)) (P (i + 1)) = dd P (i + 1) := rfl
  rw [c2, show i + 2 + m = n by omega] at hmv
  rw [a1, a2, c1]
  omega
theorem rs_sum {P : Nat → Q2} {n : Nat} (h : Ring P n) : ∀ k, k + 2 ≤ n →
    rs P n 1 - rs P n (1 + k) = sm (fun i => chi (dd P (1 + i)) (dd P (1 + i + 1))) k - sm (fun i => chi (sb (P n) (P (1 + i))) (sb (P n) (P (1 + i + 1)))) k
  | 0, _ => by simp [sm]
  | k + 1, hk => by
    have ih := rs_sum h k (by omega)
    have st := rs_step h (i := 1 + k) (by omega) (by omega)
    rw [sm, sm, ← Nat.add_assoc]
    omega
theorem turning {P : Nat → Q2} {n : Nat} (h : Ring P n) : sm (fun i => chi (dd P i) (dd P (i + 1))) n = gg P n 0 + gg (mr P) n 0 - 1 := by
  obtain ⟨m, rfl⟩ : ∃ m, n = m + 3 := ⟨n - 3, by have := h.n3; omega⟩
  have hs := rs_sum h (m + 1) (by omega)
  have z : rs P (m + 3) (1 + (m + 1)) = 0 := by
    unfold rs
    rw [show m + 3 - 1 - (1 + (m + 1)) = 0 by omega]
    rfl
  have t1 : rs P (m + 3) 1 = th P (m + 3) 1 (P 1) := by
    unfold rs th
    rw [show m + 3 - 1 - 1 = m + 3 - 2 by omega]
  have hP : P (m + 3) = P 0 := by have := h.per 0; rw [Nat.zero_add] at this; exact this
  have t2 : sm (fun i => chi (sb (P (m + 3)) (P (1 + i))) (sb (P (m + 3)) (P (1 + i + 1)))) (m + 1) = th (mr P) (m + 3) (m + 2 + 1) (mr P (m + 2 + 1)) := by
    have e0 : th (mr P) (m + 3) (m + 2 + 1) (mr P (m + 2 + 1)) = th (mr P) (m + 3) 0 (mr P (m + 3)) := by
      have := th_mod h.mr 0 (mr P (m + 3))
      rw [Nat.zero_add] at this
      exact this
    rw [e0]
    unfold th
    refine sm_congr _ fun j _ => ?_
    have e : ∀ a b : Q2, sb a b = sb (ng b) (ng a) := fun a b => by unfold sb ng; refine Prod.ext ?_ ?_ <;> show _ = _ <;> grind
    rw [e, e (P (m + 3)) (P (1 + j + 1)), show 0 + 1 + j = 1 + j by omega]
    rfl
  have g1 : gg P (m + 3) 0 = th P (m + 3) 1 (P 1) + chi (dd P 0) (dd P 1) + rr (dd P 0) := rfl
  have g2 := gg_all h.mr (m + 2)
  have g3 : gg (mr P) (m + 3) (m + 2) = th (mr P) (m + 3) (m + 2 + 1) (mr P (m + 2 + 1)) + chi (dd (mr P) (m + 2)) (dd (mr P) (m + 2 + 1)) + rr (dd (mr P) (m + 2)) := rfl
  rw [dd_mr, dd_mr] at g3
  have hd3 : dd P (m + 2 + 1) = dd P 0 := by have := dd_per h 0; rw [Nat.zero_add] at this; exact this
  rw [hd3] at g3
  have ho := h.opp (m + 2)
  have hne := h.ne (m + 2)
  have f1 : sb (P (m + 2 + 1)) (P (m + 2)) = dd P (m + 2) := rfl
  have f2 : sb (P (m + 2 + 2)) (P (m + 2 + 1)) = dd P (m + 2 + 1) := rfl
  rw [f1, f2, hd3] at ho
  rw [f1] at hne
  have r1 := rr_chi hne (h.ne 0) ho
  have r2 := rr_ng hne
  have f3 : sb (P (0 + 1)) (P 0) = dd P 0 := rfl
  rw [f3] at r1
  have hsum : sm (fun i => chi (dd P i) (dd P (i + 1))) (m + 3) = chi (dd P 0) (dd P 1) + sm (fun i => chi (dd P (1 + i)) (dd P (1 + i + 1))) (m + 1) + chi (dd P (m + 2)) (dd P 0) := by
    have h1 := sm_head (fun i => chi (dd P i) (dd P (i + 1))) (m + 2)
    have h2 : sm (fun j => chi (dd P (j + 1)) (dd P (j + 1 + 1))) (m + 2) = sm (fun j => chi (dd P (j + 1)) (dd P (j + 1 + 1))) (m + 1) + chi (dd P (m + 1 + 1)) (dd P (m + 1 + 1 + 1)) := rfl
    have h3 : sm (fun j => chi (dd P (j + 1)) (dd P (j + 1 + 1))) (m + 1) = sm (fun i => chi (dd P (1 + i)) (dd P (1 + i + 1))) (m + 1) := sm_congr _ fun j _ => by rw [show 1 + j = j + 1 by omega]
    rw [h1, h2, h3, show m + 1 + 1 + 1 = m + 2 + 1 by omega, hd3]
    change chi (dd P 0) (dd P 1) + (_ + chi (dd P (m + 2)) (dd P 0)) = _
    omega
  rw [hsum]
  rw [z, t1, t2] at hs
  omega
/-! ### winding numbers on the ring -/
theorem wn_vertex {P : Nat → Q2} {n : Nat} (h : Ring P n) (i : Nat) : wn P n (P (i + 1)) = gg P n 0 - chi (dd P i) (dd P (i + 1)) - rr (dd P i) := by
  obtain ⟨m, rfl⟩ : ∃ m, n = m + 3 := ⟨n - 3, by have := h.n3; omega⟩
  have a1 : wn P (m + 3) (P (i + 1)) = sx P i (P (i + 1)) + sx P (i + 1) (P (i + 1)) + sm (fun k => sx P (i + 2 + k) (P (i + 1))) (m + 1) := by
    unfold wn
    rw [← sm_shift (fun j => sx P j (P (i + 1))) (m + 3) (sx_per h _) i]
    have h1 := sm_head (fun j => sx P (i + j) (P (i + 1))) (m + 2)
    have h2 := sm_head (fun j => sx P (i + (j + 1)) (P (i + 1))) (m + 1)
    have h3 : sm (fun j => sx P (i + (j + 1 + 1)) (P (i + 1))) (m + 1) = sm (fun k => sx P (i + 2 + k) (P (i + 1))) (m + 1) := sm_congr _ fun j _ => by rw [show i + (j + 1 + 1) = i + 2 + j by omega]
    rw [h1, h2, h3, Nat.zero_add, Nat.add_zero]
    omega
  have z1 : sx P i (P (i + 1)) = 0 := chi_zero (by unfold cr sb; grind)
  have z2 : sx P (i + 1) (P (i + 1)) = 0 := chi_zero (by unfold cr sb; grind)
  have t : th P (m + 3) (i + 1) (P (i + 1)) = sm (fun k => sx P (i + 2 + k) (P (i + 1))) (m + 1) := rfl
  have g := gg_all h i
  unfold gg at g
  have g' : gg P (m + 3) 0 = th P (m + 3) 1 (P 1) + chi (dd P 0) (dd P 1) + rr (dd P 0) := rfl
  have g2 : th P (m + 3) (0 + 1) (P (0 + 1)) + chi (dd P 0) (dd P (0 + 1)) + rr (dd P 0) = gg P (m + 3) 0 := rfl
  rw [g2] at g
  rw [a1, z1, z2]
  omega
theorem wn_side {P : Nat → Q2} {n : Nat} (h : Ring P n) (i : Nat) {s : Rat} (s0 : 0 < s) (s1 : s < 1) : wn P n (pt (P i) (P (i + 1)) s) = gg P n 0 - rr (dd P i) := by
  have hn := h.n3
  have hw : wn P n (pt (P i) (P (i + 1)) s) = sx P i (pt (P i) (P (i + 1)) s) + sm (fun k => sx P (i + 1 + k) (pt (P i) (P (i + 1)) s)) (n - 1) := by
    unfold wn
    rw [← sm_shift (fun j => sx P j (pt (P i) (P (i + 1)) s)) n (sx_per h _) i]
    have h1 := sm_head (fun j => sx P (i + j) (pt (P i) (P (i + 1)) s)) (n - 1)
    rw [show n - 1 + 1 = n by omega] at h1
    rw [h1, Nat.add_zero]
    refine congrArg (_ + ·) (sm_congr _ fun j _ => ?_)
    rw [show i + (j + 1) = i + 1 + j by omega]
  have z1 : sx P i (pt (P i) (P (i + 1)) s) = 0 := chi_zero (by unfold cr sb pt; grind)
  rw [hw, z1, side_th h s0 s1, gg_all h i]
  omega
end Go.Proofs.Ytcpcmlonbpccnaa.Jr

/- Plain mathematics: sums over the points of a box, and a side about them. -/
namespace Go.Proofs.Ytcpcmlonbpccnaa.Jr
set_option linter.unusedVariables false
set_option linter.unusedSimpArgs false

theorem sm_add (f g : Nat → Int) : ∀ k, sm (fun j => f j + g j) k = sm f k + sm g k
  | 0 => by simp [sm]
  | k + 1 => by rw [sm, sm, sm, sm_add f g k]; omega
theorem sm_neg (f : Nat → Int) : ∀ k, sm (fun j => -f j) k = -sm f k
  | 0 => by simp [sm]
  | k + 1 => by rw [sm, sm, sm_neg f k]; omega
theorem sm_const (c : Int) : ∀ k, sm (fun _ => c) k = c * k
  | 0 => by simp [sm]
  | k + 1 => by rw [sm, sm_const c k, Int.natCast_add, Int.mul_add]; omega
theorem sm_swap (f : Nat → Nat → Int) (n : Nat) : ∀ k, sm (fun i => sm (fun j => f i j) n) k = sm (fun j => sm (fun i => f i j) k) n
  | 0 => by
    have : sm (fun j => sm (fun i => f i j) 0) n = sm (fun _ => 0) n := rfl
    rw [this, sm_const]
    simp [sm]
  | k + 1 => by
    have e : sm (fun j => sm (fun i => f i j) (k + 1)) n = sm (fun j => sm (fun i => f i j) k + f k j) n := rfl
    rw [e, sm_add, sm, sm_swap f n k]
theorem sm_zero {f : Nat → Int} {k : Nat} (h : ∀ j, j < k → f j = 0) : sm f k = 0 := by
  rw [sm_congr k h, sm_const]
  simp
theorem sm_mul (c : Int) (f : Nat → Int) : ∀ k, sm (fun j => c * f j) k = c * sm f k
  | 0 => by simp [sm]
  | k + 1 => by rw [sm, sm, sm_mul c f k, Int.mul_add]
theorem sm_le {f g : Nat → Int} : ∀ k, (∀ j, j < k → f j ≤ g j) → sm f k ≤ sm g k
  | 0, _ => Int.le_refl _
  | k + 1, h => by
    have := sm_le k (fun j hj => h j (by omega))
    have := h k (by omega)
    rw [sm, sm]
    omega
theorem sm_split (f : Nat → Int) (a : Nat) : ∀ b, sm f (a + b) = sm f a + sm (fun j => f (a + j)) b
  | 0 => by simp [sm]
  | b + 1 => by rw [← Nat.add_assoc, sm, sm_split f a b, sm]; omega
/-- a sum that is 0 outside a part -/
theorem sm_part {f : Nat → Int} {a b k : Nat} (hk : a + b ≤ k) (h : ∀ j, j < k → j < a ∨ a + b ≤ j → f j = 0) : sm f k = sm (fun j => f (a + j)) b := by
  obtain ⟨c, rfl⟩ : ∃ c, k = a + (b + c) := ⟨k - a - b, by omega⟩
  rw [sm_split f a, sm_split (fun j => f (a + j)) b]
  rw [sm_zero (fun j hj => h j (by omega) (.inl hj)), sm_zero (f := fun j => f (a + (b + j))) (fun j hj => h _ (by omega) (.inr (by omega)))]
  omega
theorem sm_rev (f : Nat → Int) : ∀ k, sm (fun j => f (k - 1 - j)) k = sm f k
  | 0 => rfl
  | k + 1 => by
    have h1 := sm_head (fun j => f (k + 1 - 1 - j)) k
    have h2 : sm (fun j => f (k + 1 - 1 - (j + 1))) k = sm (fun j => f (k - 1 - j)) k := sm_congr k fun j hj => by rw [show k + 1 - 1 - (j + 1) = k - 1 - j by omega]
    rw [h1, h2, sm_rev f k, sm]
    simp only [Nat.add_sub_cancel, Nat.sub_zero]
    omega
/-- how many numbers of a row are less than one -/
theorem sm_less (x0 L : Int) : ∀ w : Nat, x0 ≤ L → L ≤ x0 + w → sm (fun t => if x0 + (t : Int) < L then 1 else 0) w = L - x0
  | 0, a, b => by simp [sm]; omega
  | w + 1, a, b => by
    rcases (by omega : L ≤ x0 + w ∨ L = x0 + w + 1) with k | k
    · rw [sm, sm_less x0 L w a k, if_neg (by omega)]
      omega
    · rw [sm, sm_congr (g := fun _ => 1) w (fun j hj => if_pos (by omega)), sm_const, if_pos (by omega)]
      omega
theorem sm_more (x0 F : Int) (w : Nat) (a : x0 ≤ F + 1) (b : F + 1 ≤ x0 + w) : sm (fun t => if F < x0 + (t : Int) then 1 else 0) w = x0 + w - 1 - F := by
  have h := sm_less x0 (F + 1) w a b
  have h2 : sm (fun t => (if x0 + (t : Int) < F + 1 then 1 else 0) + (if F < x0 + (t : Int) then (1 : Int) else 0)) w = sm (fun _ => 1) w := sm_congr w fun j _ => by
    split <;> split <;> omega
  rw [sm_add, sm_const] at h2
  omega

/-! ### a side about the points of a box -/
def chiI (ux uy vx vy : Int) : Int :=
  if uy ≤ 0 ∧ 0 < vy ∧ 0 < ux * vy - uy * vx then 1 else if vy ≤ 0 ∧ 0 < uy ∧ ux * vy - uy * vx < 0 then -1 else 0
theorem chiI_swap (ux uy vx vy : Int) : chiI vx vy ux uy = -chiI ux uy vx vy := by
  have e : vx * uy - vy * ux = -(ux * vy - uy * vx) := by grind
  unfold chiI
  rw [e]
  generalize ux * vy - uy * vx = c
  split <;> split <;> (try split) <;> (try split) <;> omega
/-- a side about a point, from the right and from the left -/
def two (ax ay bx bz x y : Int) : Int := chiI (ax - x) (ay - y) (bx - x) (bz - y) + chiI (x - ax) (y - ay) (x - bx) (y - bz)
theorem two_swap (ax ay bx bz x y : Int) : two bx bz ax ay x y = -two ax ay bx bz x y := by
  unfold two
  rw [chiI_swap (ax - x) (ay - y), chiI_swap (x - ax) (y - ay)]
  omega
def bs (X0 Y0 : Int) (W H : Nat) (f : Int → Int → Int) : Int := sm (fun s => sm (fun t => f (X0 + (t : Int)) (Y0 + (s : Int))) W) H
theorem ceil_lt {m c x : Int} (hm : 0 < m) : m * x < c ↔ x < -(-c / m) := by
  have h1 := Int.mul_ediv_add_emod (-c) m
  have h2 := Int.emod_nonneg (-c) (show m ≠ 0 by omega)
  have h3 := Int.emod_lt_of_pos (-c) hm
  obtain ⟨k, hk⟩ : ∃ k, k = -c / m := ⟨_, rfl⟩
  rw [← hk] at h1 ⊢
  constructor
  · intro h
    rcases Int.lt_or_le x (-k) with a | a
    · exact a
    · have := Int.mul_le_mul_of_nonneg_left a (Int.le_of_lt hm)
      have e : m * -k = -(m * k) := by grind
      omega
  · intro h
    have := Int.mul_le_mul_of_nonneg_left (show x ≤ -k - 1 by omega) (Int.le_of_lt hm)
    have e : m * (-k - 1) = -(m * k) - m := by grind
    omega
theorem floor_lt {m c x : Int} (hm : 0 < m) : c < m * x ↔ c / m < x := by
  rw [Int.ediv_lt_iff_lt_mul hm, Int.mul_comm]
theorem side_up {ax ay bx bz X0 Y0 : Int} {W H : Nat} (hup : ay < bz) (a1 : X0 ≤ ax) (a2 : ax < X0 + W) (b1 : X0 ≤ bx) (b2 : bx < X0 + W) (c1 : Y0 ≤ ay) (c2 : bz < Y0 + H) :
    bs X0 Y0 W H (two ax ay bx bz) = (bz - ay) * (ax + bx - (2 * X0 + W - 1)) := by
  obtain ⟨m, hm⟩ : ∃ m : Nat, bz - ay = (m : Int) := ⟨(bz - ay).toNat, by omega⟩
  obtain ⟨a, ha⟩ : ∃ a : Nat, ay - Y0 = (a : Int) := ⟨(ay - Y0).toNat, by omega⟩
  have hm0 : (0 : Int) < m := by omega
  obtain ⟨c, hc⟩ : ∃ c : Int → Int, c = fun y => ax * (bz - y) + bx * (y - ay) := ⟨_, rfl⟩
  have hcr : ∀ x y, (ax - x) * (bz - y) - (ay - y) * (bx - x) = c y - m * x := fun x y => by rw [hc, ← hm]; grind
  have hcr2 : ∀ x y, (x - ax) * (y - bz) - (y - ay) * (x - bx) = c y - m * x := fun x y => by rw [hc, ← hm]; grind
  have hcb : ∀ y, ay ≤ y → y ≤ bz → m * X0 ≤ c y ∧ c y ≤ m * (X0 + W - 1) := fun y y0 y1 => by
    have k1 := Int.mul_nonneg (show 0 ≤ ax - X0 by omega) (show 0 ≤ bz - y by omega)
    have k2 := Int.mul_nonneg (show 0 ≤ bx - X0 by omega) (show 0 ≤ y - ay by omega)
    have k3 := Int.mul_nonneg (show 0 ≤ X0 + W - 1 - ax by omega) (show 0 ≤ bz - y by omega)
    have k4 := Int.mul_nonneg (show 0 ≤ X0 + W - 1 - bx by omega) (show 0 ≤ y - ay by omega)
    rw [hc, ← hm]
    constructor <;> grind
  -- a row
  have row : ∀ y, sm (fun t => two ax ay bx bz (X0 + (t : Int)) y) W = (if ay ≤ y ∧ y < bz then -(-c y / m) - X0 else 0) - (if ay < y ∧ y ≤ bz then X0 + W - 1 - c y / m else 0) := by
    intro y
    have e1 : sm (fun t => chiI (ax - (X0 + (t : Int))) (ay - y) (bx - (X0 + (t : Int))) (bz - y)) W = if ay ≤ y ∧ y < bz then -(-c y / m) - X0 else 0 := by
      by_cases hy : ay ≤ y ∧ y < bz
      · rw [if_pos hy]
        have hb := hcb y hy.1 (by omega)
        have q1 : X0 ≤ -(-c y / m) := by
          have h := (not_congr (ceil_lt (x := -(-c y / m)) (c := c y) hm0)).2 (by omega)
          rcases Int.lt_or_le (-(-c y / m)) X0 with k | k
          · have := (ceil_lt (x := X0 - 1) (c := c y) hm0)
            have k2 := Int.mul_le_mul_of_nonneg_left (show -(-c y / m) ≤ X0 - 1 by omega) (Int.le_of_lt hm0)
            have e : (m : Int) * (X0 - 1) = m * X0 - m := by grind
            omega
          · exact k
        have q2 : -(-c y / m) ≤ X0 + W := by
          rcases Int.lt_or_le (X0 + W) (-(-c y / m)) with k | k
          · have := (ceil_lt (x := X0 + W - 1) (c := c y) hm0).2 (by omega)
            omega
          · exact k
        rw [← sm_less X0 _ W q1 q2]
        refine sm_congr W fun t _ => ?_
        unfold chiI
        rw [hcr]
        have := ceil_lt (x := X0 + (t : Int)) (c := c y) hm0
        by_cases hx : X0 + (t : Int) < -(-c y / m)
        · rw [if_pos hx, if_pos ⟨by omega, by omega, by have := this.2 hx; omega⟩]
        · rw [if_neg hx, if_neg (fun k => hx (this.1 (by omega))), if_neg (fun k => by omega)]
      · rw [if_neg hy]
        refine sm_zero fun t _ => ?_
        unfold chiI
        rw [if_neg (fun k => hy ⟨by omega, by omega⟩), if_neg (fun k => by omega)]
    have e2 : sm (fun t => chiI (X0 + (t : Int) - ax) (y - ay) (X0 + (t : Int) - bx) (y - bz)) W = -(if ay < y ∧ y ≤ bz then X0 + W - 1 - c y / m else 0) := by
      by_cases hy : ay < y ∧ y ≤ bz
      · rw [if_pos hy]
        have hb := hcb y (by omega) hy.2
        have q1 : X0 ≤ c y / m + 1 := by
          have := (Int.le_ediv_iff_mul_le (a := X0) (b := c y) hm0).2 (by rw [Int.mul_comm]; exact hb.1)
          omega
        have q2 : c y / m + 1 ≤ X0 + W := by
          have := (floor_lt (x := X0 + W) (c := c y) hm0).1 (by
            have e : (m : Int) * (X0 + W) = m * (X0 + W - 1) + m := by grind
            omega)
          omega
        rw [← sm_more X0 _ W q1 q2, ← sm_neg]
        refine sm_congr W fun t _ => ?_
        unfold chiI
        rw [hcr2]
        have := floor_lt (x := X0 + (t : Int)) (c := c y) hm0
        by_cases hx : c y / m < X0 + (t : Int)
        · rw [if_pos hx, if_neg (fun k => by omega), if_pos ⟨by omega, by omega, by have := this.2 hx; omega⟩]
        · rw [if_neg hx, if_neg (fun k => by omega), if_neg (fun k => hx (this.1 (by omega)))]
          rfl
      · rw [if_neg hy]
        refine (sm_zero fun t _ => ?_).trans (by omega)
        unfold chiI
        rw [if_neg (fun k => by omega), if_neg (fun k => hy ⟨by omega, by omega⟩)]
    show sm (fun t => chiI (ax - (X0 + (t : Int))) (ay - y) (bx - (X0 + (t : Int))) (bz - y) + chiI (X0 + (t : Int) - ax) (y - ay) (X0 + (t : Int) - bx) (y - bz)) W = _
    rw [sm_add, e1, e2]
    omega
  unfold bs
  rw [sm_congr H (fun s _ => row (Y0 + (s : Int))), sm_sub]
  have s1 := sm_part (f := fun s : Nat => if ay ≤ Y0 + (s : Int) ∧ Y0 + (s : Int) < bz then -(-c (Y0 + (s : Int)) / m) - X0 else 0) (a := a) (b := m) (k := H) (by omega) (fun j hj k => if_neg (by omega))
  have s2 := sm_part (f := fun s : Nat => if ay < Y0 + (s : Int) ∧ Y0 + (s : Int) ≤ bz then X0 + W - 1 - c (Y0 + (s : Int)) / m else 0) (a := a + 1) (b := m) (k := H) (by omega) (fun j hj k => if_neg (by omega))
  rw [s1, s2]
  rw [← sm_rev (fun j => if ay < Y0 + ((a + 1 + j : Nat) : Int) ∧ Y0 + ((a + 1 + j : Nat) : Int) ≤ bz then X0 + W - 1 - c (Y0 + ((a + 1 + j : Nat) : Int)) / m else 0) m, ← sm_sub, hm]
  rw [sm_congr (g := fun _ => ax + bx - (2 * X0 + W - 1)) m, sm_const, Int.mul_comm]
  intro j hj
  rw [if_pos (by omega), if_pos (by omega)]
  have e1 : Y0 + ((a + j : Nat) : Int) = ay + j := by omega
  have e2 : Y0 + ((a + 1 + (m - 1 - j) : Nat) : Int) = bz - j := by omega
  have e3 : -c (ay + j) = c (bz - j) + m * (-(ax + bx)) := by rw [hc]; show -(ax * (bz - (ay + j)) + bx * (ay + j - ay)) = ax * (bz - (bz - j)) + bx * (bz - j - ay) + m * (-(ax + bx)); rw [← hm]; grind
  rw [e1, e2, e3, Int.add_mul_ediv_left _ _ (by omega)]
  omega
theorem side_box {ax ay bx bz X0 Y0 : Int} {W H : Nat} (a1 : X0 ≤ ax) (a2 : ax < X0 + W) (b1 : X0 ≤ bx) (b2 : bx < X0 + W) (c1 : Y0 ≤ ay) (c2 : ay < Y0 + H) (d1 : Y0 ≤ bz) (d2 : bz < Y0 + H) :
    bs X0 Y0 W H (two ax ay bx bz) = (bz - ay) * (ax + bx - (2 * X0 + W - 1)) := by
  rcases Int.lt_trichotomy ay bz with k | k | k
  · exact side_up k a1 a2 b1 b2 c1 d2
  · rw [k, Int.sub_self, Int.zero_mul]
    unfold bs
    refine sm_zero fun s _ => sm_zero fun t _ => ?_
    unfold two chiI
    rw [if_neg (by omega), if_neg (by omega), if_neg (by omega), if_neg (by omega)]
    rfl
  · have h := side_up (H := H) k b1 b2 a1 a2 d1 c2
    have e : bs X0 Y0 W H (two ax ay bx bz) = -bs X0 Y0 W H (two bx bz ax ay) := by
      unfold bs
      rw [← sm_neg]
      refine sm_congr H fun s _ => ?_
      rw [← sm_neg]
      exact sm_congr W fun t _ => two_swap ..
    rw [e, h]
    grind
end Go.Proofs.Ytcpcmlonbpccnaa.Jr

/- Plain mathematics: rings of whole points; twice the area is what is counted of both winding numbers. -/
namespace Go.Proofs.Ytcpcmlonbpccnaa.Jr
set_option linter.unusedVariables false
set_option linter.unusedSimpArgs false

def cQ (p : Int × Int) : Q2 := ((p.1 : Rat), (p.2 : Rat))
theorem chi_cast (a b c d : Int) : chi ((a : Rat), (b : Rat)) ((c : Rat), (d : Rat)) = chiI a b c d := by
  have e1 : ((b : Rat) ≤ 0) = (b ≤ 0) := by
    rw [show (0 : Rat) = ((0 : Int) : Rat) from rfl, Rat.intCast_le_intCast]
  have e2 : ((0 : Rat) < (d : Rat)) = (0 < d) := by
    rw [show (0 : Rat) = ((0 : Int) : Rat) from rfl, Rat.intCast_lt_intCast]
  have e3 : ((d : Rat) ≤ 0) = (d ≤ 0) := by
    rw [show (0 : Rat) = ((0 : Int) : Rat) from rfl, Rat.intCast_le_intCast]
  have e4 : ((0 : Rat) < (b : Rat)) = (0 < b) := by
    rw [show (0 : Rat) = ((0 : Int) : Rat) from rfl, Rat.intCast_lt_intCast]
  have e5 : (a : Rat) * (d : Rat) - (b : Rat) * (c : Rat) = ((a * d - b * c : Int) : Rat) := by
    rw [Rat.intCast_sub, Rat.intCast_mul, Rat.intCast_mul]
  have e6 : ((0 : Rat) < ((a * d - b * c : Int) : Rat)) = (0 < a * d - b * c) := by
    rw [show (0 : Rat) = ((0 : Int) : Rat) from rfl, Rat.intCast_lt_intCast]
  have e7 : (((a * d - b * c : Int) : Rat) < 0) = (a * d - b * c < 0) := by
    rw [show (0 : Rat) = ((0 : Int) : Rat) from rfl, Rat.intCast_lt_intCast]
  unfold chi chiI cr
  simp only [e1, e2, e3, e4, e5, e6, e7]
theorem sb_cast (a b : Int × Int) : sb (cQ a) (cQ b) = (((a.1 - b.1 : Int) : Rat), ((a.2 - b.2 : Int) : Rat)) := by
  unfold sb cQ
  rw [Rat.intCast_sub, Rat.intCast_sub]
theorem two_cast (a b p : Int × Int) : chi (sb (cQ a) (cQ p)) (sb (cQ b) (cQ p)) + chi (sb (ng (cQ a)) (ng (cQ p))) (sb (ng (cQ b)) (ng (cQ p))) = two a.1 a.2 b.1 b.2 p.1 p.2 := by
  have e : ∀ c : Int × Int, sb (ng (cQ c)) (ng (cQ p)) = sb (cQ p) (cQ c) := fun c => by unfold sb ng; refine Prod.ext ?_ ?_ <;> show _ = _ <;> grind
  rw [e, e, sb_cast, sb_cast, sb_cast, sb_cast, chi_cast, chi_cast]
  rfl
def PQ (l : Nat → Int × Int) (j : Nat) : Q2 := cQ (l j)
def area2 (l : Nat → Int × Int) (n : Nat) : Int := sm (fun j => (l j).1 * (l (j + 1)).2 - (l (j + 1)).1 * (l j).2) n
/-- both winding numbers together -/
def ff (P : Nat → Q2) (n : Nat) (q : Q2) : Int := wn P n q + wn (mr P) n (ng q)
theorem bs_swap (X0 Y0 : Int) (W H n : Nat) (f : Nat → Int → Int → Int) : bs X0 Y0 W H (fun x y => sm (fun j => f j x y) n) = sm (fun j => bs X0 Y0 W H (f j)) n := by
  unfold bs
  rw [← sm_swap (fun s j => sm (fun t => f j (X0 + (t : Int)) (Y0 + (s : Int))) W) n H]
  refine sm_congr H fun s _ => ?_
  exact sm_swap (fun t j => f j (X0 + (t : Int)) (Y0 + (s : Int))) n W
structure InBox (X0 Y0 : Int) (W H : Nat) (p : Int × Int) : Prop where
  a : X0 ≤ p.1
  b : p.1 < X0 + W
  c : Y0 ≤ p.2
  d : p.2 < Y0 + H
theorem box_area {l : Nat → Int × Int} {n : Nat} (hper : l n = l 0) {X0 Y0 : Int} {W H : Nat} (hb : ∀ j, InBox X0 Y0 W H (l j)) :
    bs X0 Y0 W H (fun x y => ff (PQ l) n (cQ (x, y))) = area2 l n := by
  have e : ∀ x y, ff (PQ l) n (cQ (x, y)) = sm (fun j => two (l j).1 (l j).2 (l (j + 1)).1 (l (j + 1)).2 x y) n := fun x y => by
    unfold ff wn
    rw [← sm_add]
    exact sm_congr n fun j _ => two_cast (l j) (l (j + 1)) (x, y)
  have e2 : bs X0 Y0 W H (fun x y => ff (PQ l) n (cQ (x, y))) = bs X0 Y0 W H (fun x y => sm (fun j => two (l j).1 (l j).2 (l (j + 1)).1 (l (j + 1)).2 x y) n) := by
    unfold bs
    exact sm_congr H fun s _ => sm_congr W fun t _ => e _ _
  rw [e2, bs_swap X0 Y0 W H n (fun j x y => two (l j).1 (l j).2 (l (j + 1)).1 (l (j + 1)).2 x y)]
  obtain ⟨C, hC⟩ : ∃ C, C = 2 * X0 + W - 1 := ⟨_, rfl⟩
  have e3 : ∀ j, j < n → bs X0 Y0 W H (two (l j).1 (l j).2 (l (j + 1)).1 (l (j + 1)).2) = ((l j).1 * (l (j + 1)).2 - (l (j + 1)).1 * (l j).2) + (((C * (l j).2 - (l j).1 * (l j).2)) - (C * (l (j + 1)).2 - (l (j + 1)).1 * (l (j + 1)).2)) := fun j _ => by
    rw [side_box (hb j).a (hb j).b (hb (j + 1)).a (hb (j + 1)).b (hb j).c (hb j).d (hb (j + 1)).c (hb (j + 1)).d, hC]
    grind
  rw [sm_congr n e3, sm_add, sm_tel (fun j => (C * (l j).2 - (l j).1 * (l j).2) - (C * (l (j + 1)).2 - (l (j + 1)).1 * (l (j + 1)).2)) (fun j => C * (l j).2 - (l j).1 * (l j).2) n (fun j _ => rfl)]
  show area2 l n + (C * (l 0).2 - (l 0).1 * (l 0).2 - (C * (l n).2 - (l n).1 * (l n).2)) = _
  rw [hper]
  omega
/-! ### the two constants are 1 -/
theorem off_low {l : Nat → Int × Int} {n : Nat} {X0 Y0 : Int} {W H : Nat} (hb : ∀ j, InBox X0 Y0 W H (l j)) : Off (PQ l) (cQ (X0, Y0 - 1)) := by
  intro j s s0 s1 he
  have h2 : ((Y0 - 1 : Int) : Rat) = ((l j).2 : Rat) + s * (((l (j + 1)).2 : Rat) - ((l j).2 : Rat)) := congrArg Prod.snd he
  have c1 := Rat.intCast_le_intCast.2 (hb j).c
  have c2 := Rat.intCast_le_intCast.2 (hb (j + 1)).c
  rw [Rat.intCast_sub] at h2
  have k1 := Rat.mul_nonneg (a := 1 - s) (b := ((l j).2 : Rat) - Y0) (by grind) (by grind)
  have k2 := Rat.mul_nonneg (a := s) (b := ((l (j + 1)).2 : Rat) - Y0) s0 (by grind)
  have : ((1 : Int) : Rat) = 1 := rfl
  grind
theorem chi_low {l : Nat → Int × Int} {n : Nat} {X0 Y0 : Int} {W H : Nat} (hb : ∀ j, InBox X0 Y0 W H (l j)) : wn (PQ l) n (cQ (X0, Y0 - 1)) = 0 ∧ wn (mr (PQ l)) n (ng (cQ (X0, Y0 - 1))) = 0 := by
  have up : ∀ j, 0 < (sb (PQ l j) (cQ (X0, Y0 - 1))).2 := fun j => by
    show 0 < ((l j).2 : Rat) - ((Y0 - 1 : Int) : Rat)
    have c1 := Rat.intCast_le_intCast.2 (hb j).c
    rw [Rat.intCast_sub]
    have : ((1 : Int) : Rat) = 1 := rfl
    grind
  constructor
  · exact sm_zero fun j _ => chi_hi (up j) (up (j + 1))
  · refine sm_zero fun j _ => chi_lo ?_ ?_
    · show (sb (ng _) (ng _)).2 ≤ 0
      rw [sb_ng]
      have := up j
      unfold ng
      grind
    · show (sb (ng _) (ng _)).2 ≤ 0
      rw [sb_ng]
      have := up (j + 1)
      unfold ng
      grind
theorem on_cases {P : Nat → Q2} {n : Nat} (h : Ring P n) (q : Q2) : Off P q ∨ (∃ i s, 0 < s ∧ s < 1 ∧ q = pt (P i) (P (i + 1)) s) ∨ ∃ i, i < n ∧ q = P (i + 1) := by
  have hn := h.n3
  by_cases ho : Off P q
  · exact .inl ho
  · right
    unfold Off at ho
    have : ∃ j s, 0 ≤ s ∧ s ≤ 1 ∧ q = pt (P j) (P (j + 1)) s := Classical.byContradiction fun k => ho fun j s a b e => k ⟨j, s, a, b, e⟩
    obtain ⟨j, s, s0, s1, e⟩ := this
    rcases (by grind : s = 0 ∨ s = 1 ∨ (0 < s ∧ s < 1)) with k | k | k
    · right
      refine ⟨(j + (n - 1)) % n, Nat.mod_lt _ (by omega), ?_⟩
      rw [← per_mod' h, e, k, pt_zero, show j + (n - 1) + 1 = j + n by omega, h.per]
    · right
      refine ⟨j % n, Nat.mod_lt _ (by omega), ?_⟩
      rw [← per_mod' h, e, k, pt_one]
    · exact .inl ⟨j, s, k.1, k.2, e⟩
theorem ff_off {P : Nat → Q2} {n : Nat} (h : Ring P n) {q : Q2} (hq : Off P q) : ∃ V : Int, (V = 0 ∨ V = -1) ∧ wn P n q = gg P n 0 + V ∧ ff P n q = gg P n 0 + gg (mr P) n 0 + 2 * V := by
  obtain ⟨V, hV, h1, h2⟩ := jordan2 h hq
  refine ⟨V, hV, h1, ?_⟩
  unfold ff
  omega
theorem ff_side {P : Nat → Q2} {n : Nat} (h : Ring P n) {i : Nat} {s : Rat} (s0 : 0 < s) (s1 : s < 1) : ff P n (pt (P i) (P (i + 1)) s) = gg P n 0 + gg (mr P) n 0 - 1 := by
  have h1 := wn_side h i s0 s1
  have h2 := wn_side h.mr i s0 s1
  have e : pt (mr P i) (mr P (i + 1)) s = ng (pt (P i) (P (i + 1)) s) := pt_ng _ _ _
  rw [e, dd_mr] at h2
  have h3 := rr_ng (h.ne i)
  have h4 : rr (ng (dd P i)) = 1 - rr (dd P i) := h3
  unfold ff
  omega
def kap (P : Nat → Q2) (i : Nat) : Int := chi (dd P i) (dd P (i + 1)) + chi (ng (dd P i)) (ng (dd P (i + 1)))
theorem ff_vertex {P : Nat → Q2} {n : Nat} (h : Ring P n) (i : Nat) : ff P n (P (i + 1)) = gg P n 0 + gg (mr P) n 0 - 1 - kap P i := by
  have h1 := wn_vertex h i
  have h2 := wn_vertex h.mr i
  rw [dd_mr, dd_mr] at h2
  have h3 : rr (ng (dd P i)) = 1 - rr (dd P i) := rr_ng (h.ne i)
  have h4 : wn (mr P) n (ng (P (i + 1))) = wn (mr P) n (mr P (i + 1)) := rfl
  unfold ff kap
  omega
theorem kap_bd (P : Nat → Q2) (i : Nat) : -1 ≤ kap P i ∧ kap P i ≤ 1 := by
  have n1 : (ng (dd P i)).2 = -(dd P i).2 := rfl
  have n2 : (ng (dd P (i + 1))).2 = -(dd P (i + 1)).2 := rfl
  unfold kap chi
  rw [cr_ng, n1, n2]
  constructor <;> grind
theorem kap_sum {P : Nat → Q2} {n : Nat} (h : Ring P n) : sm (kap P) n = 2 * (gg P n 0 + gg (mr P) n 0 - 1) := by
  have h1 := turning h
  have h2 := turning h.mr
  have e : mr (mr P) = P := funext fun j => ng_ng _
  rw [e] at h2
  have e2 : sm (fun i => chi (dd (mr P) i) (dd (mr P) (i + 1))) n = sm (fun i => chi (ng (dd P i)) (ng (dd P (i + 1)))) n := sm_congr n fun j _ => by rw [dd_mr, dd_mr]
  have e3 : sm (kap P) n = sm (fun i => chi (dd P i) (dd P (i + 1)) + chi (ng (dd P i)) (ng (dd P (i + 1)))) n := rfl
  rw [e3, sm_add]
  omega
theorem sm_nonpos {f : Nat → Int} {k : Nat} (h : ∀ j, f j ≤ 0) : sm f k ≤ 0 := by
  have := sm_le (f := f) (g := fun _ => 0) k (fun j _ => h j)
  rw [sm_const] at this
  simpa using this
theorem bs_nonpos {X0 Y0 : Int} {W H : Nat} {f : Int → Int → Int} (h : ∀ x y, f x y ≤ 0) : bs X0 Y0 W H f ≤ 0 :=
  sm_nonpos fun s => sm_nonpos fun t => h _ _
theorem gg_one {l : Nat → Int × Int} {n : Nat} (h : Ring (PQ l) n) (hper : l n = l 0) {X0 Y0 : Int} {W H : Nat} (hb : ∀ j, InBox X0 Y0 W H (l j)) (ha : 0 < area2 l n) :
    gg (PQ l) n 0 = 1 ∧ gg (mr (PQ l)) n 0 = 1 := by
  obtain ⟨V, hV, h1, h2⟩ := jordan2 h (off_low (n := n) hb)
  obtain ⟨z1, z2⟩ := chi_low (n := n) hb
  rw [z1] at h1
  rw [z2] at h2
  rcases hV with rfl | rfl
  · exfalso
    have hs := box_area hper hb
    have : bs X0 Y0 W H (fun x y => ff (PQ l) n (cQ (x, y))) ≤ 0 := bs_nonpos fun x y => by
      rcases on_cases h (cQ (x, y)) with k | ⟨i, s, s0, s1, e⟩ | ⟨i, hi, e⟩
      · obtain ⟨V, hV, -, h4⟩ := ff_off h k
        omega
      · rw [e, ff_side h s0 s1]
        omega
      · rw [e, ff_vertex h]
        have := kap_bd (PQ l) i
        omega
    omega
  · omega
end Go.Proofs.Ytcpcmlonbpccnaa.Jr

/- Plain mathematics: the theorem of Pick. -/
namespace Go.Proofs.Ytcpcmlonbpccnaa.Jr
set_option linter.unusedVariables false
set_option linter.unusedSimpArgs false
open Classical in
/-- 1 inside, 0 on the ring, -1 outside -/
noncomputable def wh (P : Nat → Q2) (n : Nat) (q : Q2) : Int := if Off P q then (if wn P n q = 0 then -1 else 1) else 0
theorem wh_off {P : Nat → Q2} {n : Nat} (h : Ring P n) (g : gg P n 0 = 1 ∧ gg (mr P) n 0 = 1) {q : Q2} (hq : Off P q) : (wn P n q = 0 ∨ wn P n q = 1) ∧ wh P n q = 2 * wn P n q - 1 ∧ wh P n q + 1 = ff P n q := by
  obtain ⟨V, hV, h1, h2⟩ := ff_off h hq
  unfold wh
  rw [if_pos hq]
  split <;> omega
theorem not_off_pt {P : Nat → Q2} {q : Q2} {i : Nat} {s : Rat} (s0 : 0 ≤ s) (s1 : s ≤ 1) (e : q = pt (P i) (P (i + 1)) s) : ¬ Off P q := fun k => k i s s0 s1 e
theorem wh_side {P : Nat → Q2} {n : Nat} {q : Q2} {i : Nat} {s : Rat} (s0 : 0 ≤ s) (s1 : s ≤ 1) (e : q = pt (P i) (P (i + 1)) s) : wh P n q = 0 := by
  unfold wh
  rw [if_neg (not_off_pt s0 s1 e)]
theorem vertex_ne {P : Nat → Q2} {n : Nat} (h : Ring P n) {a b : Nat} (ha : a < b) (hb : b < n) : P (a + 1) ≠ P (b + 1) := by
  intro e
  have e2 : pt (P (a + 1)) (P (a + 1 + 1)) 0 = pt (P (a + 1 + (b - a))) (P (a + 1 + (b - a) + 1)) 0 := by
    rw [pt_zero, pt_zero, show a + 1 + (b - a) = b + 1 by omega, e]
  rcases side_meets h (by omega) (by omega) (by grind) (by grind) (by grind) (by grind) e2 with ⟨-, m⟩ | ⟨k, -⟩
  · grind
  · -- the last side has both its ends apart
    have hn := h.n3
    have e3 : pt (P (b + 1)) (P (b + 1 + 1)) 0 = pt (P (b + 1 + 1)) (P (b + 1 + 1 + 1)) 0 := by
      rw [pt_zero, pt_zero, ← e, show b + 1 + 1 = a + 1 + n by omega, h.per]
    have := (side_next h (i := b + 1) (by grind) (by grind) (by grind) (by grind) e3).1
    grind
theorem sm_one {f : Nat → Int} {n i : Nat} (hi : i < n) {p : Nat → Prop} [DecidablePred p] (hp : p i) (hu : ∀ j, j < n → p j → j = i) : sm (fun j => if p j then f j else 0) n = f i := by
  rw [sm_part (a := i) (b := 1) (by omega) (fun j hj k => by
    rw [if_neg]
    intro hpj
    have := hu j hj hpj
    omega)]
  show (0 : Int) + (if p (i + 0) then f (i + 0) else 0) = f i
  rw [Nat.add_zero, if_pos hp]
  omega
theorem wh_ff {P : Nat → Q2} {n : Nat} (h : Ring P n) (g : gg P n 0 = 1 ∧ gg (mr P) n 0 = 1) (q : Q2) :
    wh P n q + 1 = ff P n q + sm (fun i => if q = P (i + 1) then kap P i else 0) n := by
  rcases on_cases h q with k | ⟨i, s, s0, s1, e⟩ | ⟨i, hi, e⟩
  · rw [sm_zero, (wh_off h g k).2.2]
    · omega
    · intro j _
      rw [if_neg]
      intro e
      exact k j 1 (by grind) (by grind) (by rw [pt_one]; exact e)
  · rw [sm_zero, wh_side (by grind) (by grind) e, e, ff_side h s0 s1]
    · omega
    · intro j _
      rw [if_neg]
      intro e2
      -- a corner is no place inside a side
      obtain ⟨k, hk, hk2⟩ : ∃ k, k < n ∧ P (j + 1) = P (i + k) := ⟨(j + 1 + (n - i % n)) % n, Nat.mod_lt _ (by have := h.n3; omega), by
        have hn := h.n3
        rw [per_mod h (j + 1), per_mod h (i + _)]
        congr 1
        have := Nat.mod_lt i (show 0 < n by omega)
        have e1 : (i + (j + 1 + (n - i % n)) % n) % n = (i + (j + 1 + (n - i % n))) % n := by rw [Nat.add_mod, Nat.mod_mod, ← Nat.add_mod]
        have e2 := Nat.mod_add_div i n
        have e3 : i + (j + 1 + (n - i % n)) = j + 1 + n * (i / n + 1) := by rw [Nat.mul_add]; omega
        rw [e1, e3, Nat.add_mul_mod_self_left]⟩
      have e3 : pt (P i) (P (i + 1)) s = pt (P (i + k)) (P (i + k + 1)) 0 := by rw [pt_zero, ← hk2, ← e2, e]
      rcases Nat.lt_or_ge 0 k with k1 | k1
      · rcases side_meets h k1 hk (by grind) (by grind) (by grind) (by grind) e3 with ⟨-, m⟩ | ⟨-, m⟩ <;> grind
      · obtain rfl : k = 0 := by omega
        have hne := h.ne i
        have x1 := congrArg Prod.fst e3
        have x2 := congrArg Prod.snd e3
        unfold pt at x1 x2
        unfold sb at hne
        simp only [Nat.add_zero] at x1 x2
        have y1 : s * ((P (i + 1)).1 - (P i).1) = 0 := by grind
        have y2 : s * ((P (i + 1)).2 - (P i).2) = 0 := by grind
        rcases Rat.mul_eq_zero.1 y1 with m | m
        · grind
        · rcases Rat.mul_eq_zero.1 y2 with m2 | m2 <;> grind
  · have hw : wh P n q = 0 := wh_side (i := i) (s := 1) (by grind) (by grind) (by rw [pt_one]; exact e)
    rw [sm_one (f := kap P) (p := fun j => q = P (j + 1)) hi e (fun j hj hpj => by
      rcases Nat.lt_trichotomy j i with k | k | k
      · exact absurd (hpj.symm.trans e) (vertex_ne h k hi)
      · exact k
      · exact absurd (e.symm.trans hpj) (vertex_ne h k hj)), hw, e, ff_vertex h]
    omega
theorem cQ_inj {a b : Int × Int} (h : cQ a = cQ b) : a = b :=
  Prod.ext (Rat.intCast_inj.1 (congrArg Prod.fst h)) (Rat.intCast_inj.1 (congrArg Prod.snd h))
theorem bs_point {X0 Y0 : Int} {W H : Nat} {p : Int × Int} (hp : InBox X0 Y0 W H p) (c : Int) : bs X0 Y0 W H (fun x y => if cQ (x, y) = cQ p then c else 0) = c := by
  obtain ⟨i, hi⟩ : ∃ i : Nat, p.1 = X0 + i := ⟨(p.1 - X0).toNat, by have := hp.a; omega⟩
  obtain ⟨k, hk⟩ : ∃ k : Nat, p.2 = Y0 + k := ⟨(p.2 - Y0).toNat, by have := hp.c; omega⟩
  have h1 := hp.b
  have h2 := hp.d
  unfold bs
  rw [sm_part (a := k) (b := 1) (by omega) (fun s hs q => sm_zero fun t _ => if_neg fun e => by
    have := congrArg Prod.snd (cQ_inj e)
    simp only at this
    omega)]
  show (0 : Int) + sm (fun t => if cQ (X0 + (t : Int), Y0 + ((k + 0 : Nat) : Int)) = cQ p then c else 0) W = c
  rw [sm_part (a := i) (b := 1) (by omega) (fun t ht q => if_neg fun e => by
    have := congrArg Prod.fst (cQ_inj e)
    simp only at this
    omega)]
  show (0 : Int) + ((0 : Int) + (if cQ (X0 + ((i + 0 : Nat) : Int), Y0 + ((k + 0 : Nat) : Int)) = cQ p then c else 0)) = c
  rw [if_pos]
  · omega
  · rw [Nat.add_zero, Nat.add_zero, ← hi, ← hk]
theorem bs_add {X0 Y0 : Int} {W H : Nat} (f g : Int → Int → Int) : bs X0 Y0 W H (fun x y => f x y + g x y) = bs X0 Y0 W H f + bs X0 Y0 W H g := by
  unfold bs
  rw [← sm_add]
  exact sm_congr H fun s _ => sm_add _ _ _
theorem bs_congr {X0 Y0 : Int} {W H : Nat} {f g : Int → Int → Int} (h : ∀ x y, f x y = g x y) : bs X0 Y0 W H f = bs X0 Y0 W H g := by
  unfold bs
  exact sm_congr H fun s _ => sm_congr W fun t _ => h _ _
/-- Pick: what is counted in a box around a ring -/
theorem pick {l : Nat → Int × Int} {n : Nat} (h : Ring (PQ l) n) (hper : l n = l 0) {X0 Y0 : Int} {W H : Nat} (hb : ∀ j, InBox X0 Y0 W H (l j)) (ha : 0 < area2 l n) :
    bs X0 Y0 W H (fun x y => wh (PQ l) n (cQ (x, y)) + 1) = area2 l n + 2 := by
  have g := gg_one h hper hb ha
  rw [bs_congr (fun x y => wh_ff h g (cQ (x, y))), bs_add, box_area hper hb]
  rw [bs_swap X0 Y0 W H n (fun i x y => if cQ (x, y) = PQ l (i + 1) then kap (PQ l) i else 0)]
  have e : sm (fun i => bs X0 Y0 W H (fun x y => if cQ (x, y) = PQ l (i + 1) then kap (PQ l) i else 0)) n = sm (kap (PQ l)) n := sm_congr n (fun i _ => bs_point (hb (i + 1)) _)
  rw [e, kap_sum h]
  omega
end Go.Proofs.Ytcpcmlonbpccnaa.Jr

/- Plain mathematics of rings: what is near a place that is off a ring; a ring that is cut into two. -/
namespace Go.Proofs.Ytcpcmlonbpccnaa.Jr
set_option linter.unusedVariables false
set_option linter.unusedSimpArgs false

/-- a place off a segment: a line through it leaves the segment on one side -/
theorem point_sep {a b q : Q2} (hab : (sb b a).1 ≠ 0 ∨ (sb b a).2 ≠ 0) (hq : ∀ s, 0 ≤ s → s ≤ 1 → q ≠ pt a b s) : ∃ e : Q2, 0 < cr e (sb a q) ∧ 0 < cr e (sb b q) := by
  rcases tri (cr (sb b a) (sb q a)) with k | k | k
  · refine ⟨sb b a, ?_, ?_⟩ <;> unfold cr sb at * <;> grind
  · have pN := sq_pos' _ hab
    obtain ⟨N, hN⟩ : ∃ x, x = (sb b a).1 * (sb b a).1 + (sb b a).2 * (sb b a).2 := ⟨_, rfl⟩
    obtain ⟨L, hL⟩ : ∃ x, x = dt (sb b a) (sb q a) := ⟨_, rfl⟩
    rw [← hN] at pN
    have i1 : N * (q.1 - a.1) = L * (b.1 - a.1) := by rw [hN, hL]; unfold cr dt sb at *; grind
    have i2 : N * (q.2 - a.2) = L * (b.2 - a.2) := by rw [hN, hL]; unfold cr dt sb at *; grind
    have j1 := div_eq' pN i1
    have j2 := div_eq' pN i2
    obtain ⟨s, hs⟩ : ∃ s, s = L / N := ⟨_, rfl⟩
    rw [← hs] at j1 j2
    have hn : ¬ (0 ≤ s ∧ s ≤ 1) := fun h => hq s h.1 h.2 (by unfold pt; refine Prod.ext ?_ ?_ <;> show _ = _ <;> grind)
    have e1 : dt (sb b a) (sb a q) = -s * N := by rw [hN]; unfold dt sb; grind
    have e2 : dt (sb b a) (sb b q) = (1 - s) * N := by rw [hN]; unfold dt sb; grind
    have c : ∀ v : Q2, cr ((sb b a).2, -(sb b a).1) v = dt (sb b a) v := fun v => by unfold cr dt; grind
    have c' : ∀ v : Q2, cr (-(sb b a).2, (sb b a).1) v = -dt (sb b a) v := fun v => by unfold cr dt; grind
    rcases (by grind : s < 0 ∨ 1 < s) with h | h
    · refine ⟨((sb b a).2, -(sb b a).1), ?_, ?_⟩
      · rw [c, e1]; exact Rat.mul_pos (by grind) pN
      · rw [c, e2]; exact Rat.mul_pos (by grind) pN
    · have p1 := Rat.mul_pos (a := s) (b := N) (by grind) pN
      have p2 := Rat.mul_pos (a := s - 1) (b := N) (by grind) pN
      refine ⟨(-(sb b a).2, (sb b a).1), ?_, ?_⟩
      · rw [c', e1]; grind
      · rw [c', e2]; grind
  · refine ⟨ng (sb b a), ?_, ?_⟩ <;> unfold cr sb ng at * <;> grind
def mv (q u : Q2) (t : Rat) : Q2 := (q.1 + t * u.1, q.2 + t * u.2)
/-- for small t what is positive stays so -/
theorem small_pos {x y : Rat} (hx : 0 < x) : ∃ δ : Rat, 0 < δ ∧ ∀ t, 0 ≤ t → t ≤ δ → 0 < x + t * y := by
  rcases le_or y with h | h
  · refine ⟨x / (1 - y), div_pos' hx (by grind), fun t t0 t1 => ?_⟩
    have e := div_mul' (D := x) (N := 1 - y) (by grind)
    have h1 := Rat.mul_nonneg (a := x / (1 - y) - t) (b := 1 - y) (by grind) (by grind)
    rcases (by grind : t = 0 ∨ 0 < t) with k | k
    · rw [k]; grind
    · grind
  · refine ⟨1, by grind, fun t t0 t1 => ?_⟩
    have := Rat.mul_nonneg t0 (show 0 ≤ y by grind)
    grind
theorem near_sep {a b q : Q2} (u : Q2) (hab : (sb b a).1 ≠ 0 ∨ (sb b a).2 ≠ 0) (hq : ∀ s, 0 ≤ s → s ≤ 1 → q ≠ pt a b s) : ∃ δ : Rat, 0 < δ ∧ ∀ t, 0 ≤ t → t ≤ δ → Sep a b q (mv q u t) := by
  obtain ⟨e, h1, h2⟩ := point_sep hab hq
  obtain ⟨d1, k1, m1⟩ := small_pos (y := -cr e u) h1
  obtain ⟨d2, k2, m2⟩ := small_pos (y := -cr e u) h2
  refine ⟨if d1 ≤ d2 then d1 else d2, by split <;> assumption, fun t t0 t1 => ⟨e, ⟨h1, h2⟩, ?_, ?_⟩⟩
  · have := m1 t t0 (by split at t1 <;> grind)
    have e1 : cr e (sb a (mv q u t)) = cr e (sb a q) + t * -cr e u := by unfold cr sb mv; grind
    rw [e1]; exact this
  · have := m2 t t0 (by split at t1 <;> grind)
    have e1 : cr e (sb b (mv q u t)) = cr e (sb b q) + t * -cr e u := by unfold cr sb mv; grind
    rw [e1]; exact this
/-- a place off the ring: for a while all that is in a direction sees it, past all sides -/
theorem near_off {P : Nat → Q2} {q : Q2} (u : Q2) (hne : ∀ i, (sb (P (i + 1)) (P i)).1 ≠ 0 ∨ (sb (P (i + 1)) (P i)).2 ≠ 0) (hq : Off P q) : ∀ n, ∃ δ : Rat, 0 < δ ∧ ∀ t, 0 ≤ t → t ≤ δ → ∀ j, j < n → Sep (P j) (P (j + 1)) q (mv q u t)
  | 0 => ⟨1, by grind, fun _ _ _ j hj => absurd hj (Nat.not_lt_zero _)⟩
  | n + 1 => by
    obtain ⟨d1, k1, m1⟩ := near_off u hne hq n
    obtain ⟨d2, k2, m2⟩ := near_sep u (hne n) (hq n)
    refine ⟨if d1 ≤ d2 then d1 else d2, by split <;> assumption, fun t t0 t1 j hj => ?_⟩
    rcases Nat.lt_or_ge j n with k | k
    · exact m1 t t0 (by split at t1 <;> grind) j k
    · obtain rfl : j = n := by omega
      exact m2 t t0 (by split at t1 <;> grind)
/-- along a way that no side meets the winding number stays, and all places are off the ring -/
theorem way_same {P : Nat → Q2} {n : Nat} (h : Ring P n) {p q : Q2} (hs : ∀ j, j < n → Sep (P j) (P (j + 1)) p q) : wn P n p = wn P n q ∧ Off P q := by
  have hm := move_sum (P := P) (a := 0) (m := n) (p := p) (q := q) (fun k hk => by rw [Nat.zero_add]; exact hs k hk)
  have hp : P (0 + n) = P 0 := h.per 0
  rw [hp] at hm
  constructor
  · unfold wn
    have e : ∀ r, sm (fun k => sx P (0 + k) r) n = sm (fun j => sx P j r) n := fun r => sm_congr n fun j _ => by rw [Nat.zero_add]
    rw [e, e] at hm
    omega
  · intro j s s0 s1 e
    have hn := h.n3
    rw [per_mod h j, per_mod' h j] at e
    have := sep_no (hs (j % n) (Nat.mod_lt _ (by omega))) s0 s1 (show (0 : Rat) ≤ 1 by grind) (by grind)
    rw [pt_one] at this
    exact this e.symm
theorem rr_chi_bd (u d : Q2) (hu : u.1 ≠ 0 ∨ u.2 ≠ 0) (hd : d.1 ≠ 0 ∨ d.2 ≠ 0) : 0 ≤ chi u d + rr u ∧ chi u d + rr u ≤ 1 := by
  have g1 := @chi_up u d
  have g2 := @chi_dn u d
  have g3 := @chi_lo u d
  have g4 := @chi_hi u d
  have z : u.2 = 0 → cr u d = u.1 * d.2 := fun k => by unfold cr; rw [k]; grind
  have s := sgnmul u.1 d.2
  have r1 : 0 < u.2 → rr u = 1 := fun k => by unfold rr; grind
  have r2 : u.2 < 0 → rr u = 0 := fun k => by unfold rr; grind
  have r3 : u.2 = 0 → u.1 < 0 → rr u = 1 := fun k l => by unfold rr; grind
  have r4 : u.2 = 0 → 0 < u.1 → rr u = 0 := fun k l => by unfold rr; grind
  rcases le_or u.2 with a | a <;> rcases le_or d.2 with b | b
  · rw [g3 a b]
    have := rr_two u
    omega
  · rw [g1 a b]
    split <;> grind
  · rw [g2 a b]
    split <;> grind
  · rw [g4 a b]
    have := rr_two u
    omega
/-- everywhere the winding number is 0 or 1 -/
theorem wn_01 {P : Nat → Q2} {n : Nat} (h : Ring P n) (g : gg P n 0 = 1) (q : Q2) : wn P n q = 0 ∨ wn P n q = 1 := by
  rcases on_cases h q with k | ⟨i, s, s0, s1, e⟩ | ⟨i, hi, e⟩
  · obtain ⟨V, hV, h1, -⟩ := jordan2 h k
    omega
  · rw [e, wn_side h i s0 s1]
    have := rr_two (dd P i)
    omega
  · rw [e, wn_vertex h i]
    have := rr_chi_bd (dd P i) (dd P (i + 1)) (h.ne i) (h.ne (i + 1))
    omega
/-- a ring that is cut into two: what is inside the one part is off the other one, inside the ring -/
theorem cut_inner {A B C : Nat → Q2} {nA nB nC : Nat} (hA : Ring A nA) (hB : Ring B nB) (hC : Ring C nC)
    (gA : gg A nA 0 = 1 ∧ gg (mr A) nA 0 = 1) (gB : gg B nB 0 = 1 ∧ gg (mr B) nB 0 = 1) (gC : gg C nC 0 = 1 ∧ gg (mr C) nC 0 = 1)
    (add : ∀ q, wn A nA q = wn B nB q + wn C nC q) (addm : ∀ q, wn (mr A) nA q = wn (mr B) nB q + wn (mr C) nC q)
    {q : Q2} (hq : Off B q) (h1 : wn B nB q = 1) : Off C q ∧ wn C nC q = 0 ∧ wn A nA q = 1 := by
  have key : ∀ p, Off B p → wn B nB p = 1 → wn C nC p = 0 ∧ wn (mr C) nC (ng p) = 0 := fun p hp k => by
    have a1 := add p
    have a2 := addm (ng p)
    have w1 := wn_01 hA gA.1 p
    have w2 := wn_01 hC gC.1 p
    have w3 := wn_01 hA.mr gA.2 (ng p)
    have w4 := wn_01 hC.mr gC.2 (ng p)
    obtain ⟨V, hV, v1, v2⟩ := jordan2 hB hp
    omega
  have side : ∀ p, Off B p → wn B nB p = 1 → ∀ i s, 0 < s → s < 1 → p ≠ pt (C i) (C (i + 1)) s := fun p hp k i s s0 s1 e => by
    have f := ff_side hC (i := i) s0 s1
    rw [← e] at f
    have := key p hp k
    unfold ff at f
    omega
  have k := key q hq h1
  have a := add q
  refine ⟨?_, k.1, by omega⟩
  rcases on_cases hC q with c | ⟨i, s, s0, s1, e⟩ | ⟨i, hi, e⟩
  · exact c
  · exact absurd e (side q hq h1 i s s0 s1)
  · -- a corner: a place beside it on the next side
    exfalso
    obtain ⟨δ, d0, hd⟩ := near_off (sb (C (i + 2)) (C (i + 1))) hB.ne hq nB
    obtain ⟨t, ht0, ht1, ht2⟩ : ∃ t : Rat, 0 < t ∧ t < 1 ∧ t ≤ δ := by
      rcases (by grind : δ < 1 ∨ 1 ≤ δ) with m | m
      · exact ⟨δ, d0, m, by grind⟩
      · exact ⟨1 / 2, by grind, by grind, by grind⟩
    obtain ⟨w, o⟩ := way_same hB (hd t (by grind) ht2)
    refine side _ o (by rw [← w]; exact h1) (i + 1) t ht0 ht1 ?_
    rw [e]
    unfold mv pt sb
    rfl
/-- the sides of both parts are those of the ring, and the cut there and back -/
theorem cut_sum {S : Type} (f : S → S → Int) (hf : ∀ x y, f y x = -f x y) {A B C : Nat → S} {i m1 m2 : Nat} (hB : ∀ j, j ≤ m1 → B j = A (i + j)) (hB0 : B (m1 + 1) = A i)
    (hC : ∀ j, j ≤ m2 → C j = A (i + m1 + j)) (hC0 : C (m2 + 1) = A (i + m1)) (hA : A (i + m1 + m2) = A i) :
    sm (fun j => f (A (i + j)) (A (i + j + 1))) (m1 + m2) = sm (fun j => f (B j) (B (j + 1))) (m1 + 1) + sm (fun j => f (C j) (C (j + 1))) (m2 + 1) := by
  have e1 : sm (fun j => f (B j) (B (j + 1))) m1 = sm (fun j => f (A (i + j)) (A (i + j + 1))) m1 := sm_congr m1 fun j hj => by rw [hB j (by omega), hB (j + 1) (by omega), Nat.add_assoc]
  have e2 : sm (fun j => f (C j) (C (j + 1))) m2 = sm (fun j => f (A (i + (m1 + j))) (A (i + (m1 + j) + 1))) m2 := sm_congr m2 fun j hj => by rw [hC j (by omega), hC (j + 1) (by omega), Nat.add_assoc i m1 j, ← Nat.add_assoc (i + m1) j 1, Nat.add_assoc i m1 j]
  have e3 : f (B m1) (B (m1 + 1)) = f (A (i + m1)) (A i) := by rw [hB m1 (by omega), hB0]
  have e4 : f (C m2) (C (m2 + 1)) = f (A i) (A (i + m1)) := by rw [hC m2 (by omega), hC0, hA]
  have e5 := hf (A (i + m1)) (A i)
  rw [sm_split, sm, sm, e1, e2, e3, e4]
  omega
theorem cut_wn {A B C : Nat → Q2} {n i m1 m2 : Nat} (hR : Ring A n) (hn : n = m1 + m2) (hB : ∀ j, j ≤ m1 → B j = A (i + j)) (hB0 : B (m1 + 1) = A i)
    (hC : ∀ j, j ≤ m2 → C j = A (i + m1 + j)) (hC0 : C (m2 + 1) = A (i + m1)) (q : Q2) : wn A n q = wn B (m1 + 1) q + wn C (m2 + 1) q := by
  have hA : A (i + m1 + m2) = A i := by rw [Nat.add_assoc, ← hn]; exact hR.per i
  have h := cut_sum (fun x y => chi (sb x q) (sb y q)) (fun x y => chi_swap _ _) hB hB0 hC hC0 hA
  have h2 := sm_shift (fun j => sx A j q) n (sx_per hR q) i
  have h3 : wn A n q = sm (fun j => sx A (i + j) q) n := h2.symm
  rw [h3, hn]
  exact h
end Go.Proofs.Ytcpcmlonbpccnaa.Jr

/- Plain mathematics of rings: places that are joined by a way off the ring. -/
namespace Go.Proofs.Ytcpcmlonbpccnaa.Jr
set_option linter.unusedVariables false
set_option linter.unusedSimpArgs false

/-- for all small numbers -/
def Near (p : Rat → Prop) : Prop := ∃ δ : Rat, 0 < δ ∧ ∀ t, 0 < t → t ≤ δ → p t
theorem Near.of {p : Rat → Prop} (h : ∀ t, 0 < t → p t) : Near p := ⟨1, by grind, fun t t0 _ => h t t0⟩
theorem Near.and {p q : Rat → Prop} (h : Near p) (k : Near q) : Near fun t => p t ∧ q t := by
  obtain ⟨a, a0, ha⟩ := h
  obtain ⟨b, b0, hb⟩ := k
  refine ⟨if a ≤ b then a else b, by split <;> assumption, fun t t0 t1 => ⟨ha t t0 ?_, hb t t0 ?_⟩⟩
  · split at t1 <;> grind
  · split at t1 <;> grind
theorem Near.mono {p q : Rat → Prop} (h : Near p) (k : ∀ t, 0 < t → p t → q t) : Near q := by
  obtain ⟨a, a0, ha⟩ := h
  exact ⟨a, a0, fun t t0 t1 => k t t0 (ha t t0 t1)⟩
theorem Near.all {p : Nat → Rat → Prop} : ∀ n, (∀ j, j < n → Near (p j)) → Near fun t => ∀ j, j < n → p j t
  | 0, _ => Near.of fun _ _ j hj => absurd hj (Nat.not_lt_zero _)
  | n + 1, h => by
    refine ((Near.all n fun j hj => h j (by omega)).and (h n (by omega))).mono fun t _ k j hj => ?_
    rcases Nat.lt_or_ge j n with m | m
    · exact k.1 j m
    · obtain rfl : j = n := by omega
      exact k.2
theorem Near.ex {p : Rat → Prop} (h : Near p) : ∃ t, 0 < t ∧ p t := by
  obtain ⟨a, a0, ha⟩ := h
  exact ⟨a, a0, ha a a0 (by grind)⟩
/-- positive numbers stay so -/
theorem near_pos {x y : Rat} (hx : 0 < x) : Near fun t => 0 < x + t * y := by
  obtain ⟨δ, d0, h⟩ := small_pos (y := y) hx
  exact ⟨δ, d0, fun t t0 t1 => h t (by grind) t1⟩
theorem near_sep2 {a b c d : Q2} (u v : Q2) (h : Sep a b c d) : Near fun t => Sep a b (mv c u t) (mv d v t) := by
  obtain ⟨e, ⟨h1, h2⟩, h3, h4⟩ := h
  refine (((near_pos (y := -cr e u) h1).and (near_pos (y := -cr e u) h2)).and ((near_pos (y := -cr e v) h3).and (near_pos (y := -cr e v) h4))).mono fun t _ k => ⟨e, ⟨?_, ?_⟩, ?_, ?_⟩
  · have := k.1.1; have i : cr e (sb a (mv c u t)) = cr e (sb a c) + t * -cr e u := by unfold cr sb mv; grind
    rw [i]; exact this
  · have := k.1.2; have i : cr e (sb b (mv c u t)) = cr e (sb b c) + t * -cr e u := by unfold cr sb mv; grind
    rw [i]; exact this
  · have := k.2.1; have i : cr e (sb a (mv d v t)) = cr e (sb a d) + t * -cr e v := by unfold cr sb mv; grind
    rw [i]; exact this
  · have := k.2.2; have i : cr e (sb b (mv d v t)) = cr e (sb b d) + t * -cr e v := by unfold cr sb mv; grind
    rw [i]; exact this
/-- a way that no side meets -/
def Free (P : Nat → Q2) (p q : Q2) : Prop := ∀ j, Sep (P j) (P (j + 1)) p q
theorem Free.symm {P : Nat → Q2} {p q : Q2} (h : Free P p q) : Free P q p := fun j => (h j).rev2
theorem free_of {P : Nat → Q2} {n : Nat} (h : Ring P n) (i : Nat) {p q : Q2} (hs : ∀ k, k < n → Sep (P (i + k)) (P (i + k + 1)) p q) : Free P p q := by
  intro j
  have hn := h.n3
  -- j as a place from i on
  obtain ⟨r, hr, er⟩ : ∃ r, r < n ∧ (i + r) % n = j % n := by
    refine ⟨(j % n + (n - i % n)) % n, Nat.mod_lt _ (by omega), ?_⟩
    have h1 := Nat.mod_lt i (show 0 < n by omega)
    have h2 := Nat.mod_add_div i n
    rw [Nat.add_mod, Nat.mod_mod, ← Nat.add_mod, show i + (j % n + (n - i % n)) = j % n + n * (i / n + 1) by rw [Nat.mul_add]; omega, Nat.add_mul_mod_self_left, Nat.mod_mod]
  have := hs r hr
  rw [per_mod h (i + r), per_mod' h (i + r), er, ← per_mod h, ← per_mod' h] at this
  exact this
/-- joined by ways that no side meets -/
inductive Joined (P : Nat → Q2) : Q2 → Q2 → Prop
  | refl (q : Q2) : Joined P q q
  | step {a b c : Q2} : Free P a b → Joined P b c → Joined P a c
theorem Joined.trans {P : Nat → Q2} {a b c : Q2} (h : Joined P a b) (k : Joined P b c) : Joined P a c := by
  induction h with
  | refl q => exact k
  | step f _ ih => exact .step f (ih k)
theorem Joined.one {P : Nat → Q2} {a b : Q2} (h : Free P a b) : Joined P a b := .step h (.refl b)
theorem Joined.symm {P : Nat → Q2} {a b : Q2} (h : Joined P a b) : Joined P b a := by
  induction h with
  | refl q => exact .refl q
  | step f _ ih => exact ih.trans (.one f.symm)
/-- what is joined has the same winding number, of any ring that no way of it meets -/
theorem Joined.same {P : Nat → Q2} {n : Nat} (h : Ring P n) {a b : Q2} (k : Joined P a b) : wn P n a = wn P n b := by
  induction k with
  | refl q => rfl
  | step f _ ih => exact (way_same h fun j _ => f j).1.trans ih
/-- a part of side i is apart from another side, unless an end is in it -/
theorem part_sep {P : Nat → Q2} {n : Nat} (h : Ring P n) {i k : Nat} {s t : Rat} (k1 : 1 ≤ k) (kn : k < n) (s0 : 0 ≤ s) (st : s < t) (t1 : t ≤ 1) (h1 : k = 1 → t < 1) (h2 : k = n - 1 → 0 < s) :
    Sep (P (i + k)) (P (i + k + 1)) (pt (P i) (P (i + 1)) s) (pt (P i) (P (i + 1)) t) := by
  have hne : (sb (pt (P i) (P (i + 1)) t) (pt (P i) (P (i + 1)) s)).1 ≠ 0 ∨ (sb (pt (P i) (P (i + 1)) t) (pt (P i) (P (i + 1)) s)).2 ≠ 0 := by
    have hd := h.ne i
    have e1 : (sb (pt (P i) (P (i + 1)) t) (pt (P i) (P (i + 1)) s)).1 = (t - s) * (sb (P (i + 1)) (P i)).1 := by unfold sb pt; grind
    have e2 : (sb (pt (P i) (P (i + 1)) t) (pt (P i) (P (i + 1)) s)).2 = (t - s) * (sb (P (i + 1)) (P i)).2 := by unfold sb pt; grind
    rw [e1, e2]
    rcases hd with hd | hd
    · exact .inl fun e => by rcases Rat.mul_eq_zero.1 e with m | m <;> grind
    · exact .inr fun e => by rcases Rat.mul_eq_zero.1 e with m | m <;> grind
  rcases sep_or_meet (h.ne (i + k)) hne with c | ⟨a, b, a0, a1, b0, b1, e⟩
  · exact c
  · exfalso
    obtain ⟨r, hr⟩ : ∃ r, r = s + b * (t - s) := ⟨_, rfl⟩
    have m1 := Rat.mul_nonneg b0 (show 0 ≤ t - s by grind)
    have m2 := Rat.mul_nonneg (show 0 ≤ 1 - b by grind) (show 0 ≤ t - s by grind)
    have e2 : pt (P i) (P (i + 1)) r = pt (P (i + k)) (P (i + k + 1)) a := by
      rw [e, hr]
      unfold pt
      refine Prod.ext ?_ ?_ <;> show _ = _ <;> grind
    rcases side_meets h k1 kn (by grind) (by grind) a0 a1 e2 with ⟨c1, c2⟩ | ⟨c1, c2⟩
    · have := h1 c1; grind
    · have := h2 c1; grind
/-- the left normal of side i -/
def nm (P : Nat → Q2) (i : Nat) : Q2 := (-(dd P i).2, (dd P i).1)
/-- beside the middle of side i: on its left for σ = 1, on its right for σ = -1 -/
def bm (P : Nat → Q2) (i : Nat) (σ t : Rat) : Q2 := mv (pt (P i) (P (i + 1)) (1 / 2)) (σ * (nm P i).1, σ * (nm P i).2) t
/-- places on one side of the line of side i -/
theorem line_sep {a b p q : Q2} {σ : Rat} (h1 : 0 < σ * cr (sb b a) (sb p a)) (h2 : 0 < σ * cr (sb b a) (sb q a)) : Sep a b p q := by
  refine ⟨(-σ * (sb b a).1, -σ * (sb b a).2), ⟨?_, ?_⟩, ?_, ?_⟩ <;> unfold cr sb at * <;> grind
end Go.Proofs.Ytcpcmlonbpccnaa.Jr

/- Plain mathematics of rings: the places off a ring with one winding number are in one piece. -/
namespace Go.Proofs.Ytcpcmlonbpccnaa.Jr
set_option linter.unusedVariables false
set_option linter.unusedSimpArgs false

/-- no straight angles -/
def Bent (P : Nat → Q2) : Prop := ∀ i, cr (dd P i) (dd P (i + 1)) ≠ 0
theorem half_sep {u o a b c d : Q2} {σ : Rat} (ha : σ * cr u (sb a o) ≤ 0) (hb : σ * cr u (sb b o) ≤ 0) (hc : 0 < σ * cr u (sb c o)) (hd : 0 < σ * cr u (sb d o)) : Sep a b c d := by
  refine ⟨(-σ * u.1, -σ * u.2), ⟨?_, ?_⟩, ?_, ?_⟩ <;> unfold cr sb at * <;> grind
theorem part_sep' {P : Nat → Q2} {n : Nat} (h : Ring P n) {i k : Nat} {s t : Rat} (k1 : 1 ≤ k) (kn : k < n) (s0 : 0 < s) (s1 : s < 1) (t0 : 0 < t) (t1 : t < 1) :
    Sep (P (i + k)) (P (i + k + 1)) (pt (P i) (P (i + 1)) s) (pt (P i) (P (i + 1)) t) := by
  rcases (by grind : s < t ∨ t < s ∨ s = t) with m | m | rfl
  · exact part_sep h k1 kn (by grind) m (by grind) (fun _ => t1) (fun _ => s0)
  · exact (part_sep h k1 kn (by grind) m (by grind) (fun _ => s1) (fun _ => t0)).rev2
  · obtain ⟨e, ⟨h1, h2⟩, -, -⟩ := part_sep h (s := s) (t := (s + 1) / 2) (i := i) k1 kn (by grind) (by grind) (by grind) (fun _ => by grind) (fun _ => s0)
    exact ⟨e, ⟨h1, h2⟩, h1, h2⟩
theorem mv_zero (q : Q2) (t : Rat) : mv q (0, 0) t = q := by unfold mv; refine Prod.ext ?_ ?_ <;> show _ = _ <;> grind
theorem sq_dd {P : Nat → Q2} {n : Nat} (h : Ring P n) (i : Nat) : 0 < (dd P i).1 * (dd P i).1 + (dd P i).2 * (dd P i).2 := sq_pos' _ (h.ne i)
/-- a place of side i, moved to one side, goes beside the middle -/
theorem to_mid {P : Nat → Q2} {n : Nat} (h : Ring P n) {i : Nat} {s σ : Rat} {e : Q2} (s0 : 0 < s) (s1 : s < 1) (hσ : σ = 1 ∨ σ = -1) (he : 0 < σ * cr (dd P i) e) :
    Near fun t => Free P (mv (pt (P i) (P (i + 1)) s) e t) (bm P i σ t) := by
  have hn := h.n3
  have hq := sq_dd h i
  have far : Near fun t => ∀ k, k < n → 1 ≤ k → Sep (P (i + k)) (P (i + k + 1)) (mv (pt (P i) (P (i + 1)) s) e t) (bm P i σ t) := by
    refine Near.all n fun k hk => ?_
    by_cases k1 : 1 ≤ k
    · exact (near_sep2 e (σ * (nm P i).1, σ * (nm P i).2) (part_sep' h k1 hk s0 s1 (t := 1 / 2) (by grind) (by grind))).mono fun t _ m _ => m
    · exact Near.of fun _ _ m => absurd m k1
  refine far.mono fun t t0 m => free_of h i fun k hk => ?_
  rcases Nat.eq_zero_or_pos k with rfl | k1
  · refine half_sep (u := dd P i) (o := P i) (σ := σ) ?_ ?_ ?_ ?_
    · have : cr (dd P i) (sb (P (i + 0)) (P i)) = 0 := by unfold cr sb; grind
      rw [this]; grind
    · have : cr (dd P i) (sb (P (i + 0 + 1)) (P i)) = 0 := by unfold dd cr sb; grind
      rw [this]; grind
    · have : σ * cr (dd P i) (sb (mv (pt (P i) (P (i + 1)) s) e t) (P i)) = t * (σ * cr (dd P i) e) := by unfold dd cr sb mv pt; grind
      rw [this]; exact Rat.mul_pos t0 he
    · have : σ * cr (dd P i) (sb (bm P i σ t) (P i)) = t * ((σ * σ) * ((dd P i).1 * (dd P i).1 + (dd P i).2 * (dd P i).2)) := by unfold bm nm dd cr sb mv pt; grind
      have e1 : σ * σ = 1 := by rcases hσ with rfl | rfl <;> grind
      rw [this, e1]; exact Rat.mul_pos t0 (by grind)
  · exact m k hk k1
/-- round a corner -/
theorem turn_corner {P : Nat → Q2} {n : Nat} (h : Ring P n) (hb : Bent P) (i : Nat) {σ : Rat} (hσ : σ = 1 ∨ σ = -1) :
    Near fun t => Joined P (bm P i σ t) (bm P (i + 1) σ t) := by
  have hn := h.n3
  have hq1 := sq_dd h i
  have hq2 := sq_dd h (i + 1)
  obtain ⟨κ, hκ⟩ : ∃ κ, cr (dd P i) (dd P (i + 1)) = κ := ⟨_, rfl⟩
  have hk0 : κ ≠ 0 := by rw [← hκ]; exact hb i
  obtain ⟨ε, hε, hp⟩ : ∃ ε : Rat, (ε = 1 ∨ ε = -1) ∧ 0 < ε * κ := by
    rcases (by grind : 0 < κ ∨ κ < 0) with m | m
    · exact ⟨1, .inl rfl, by grind⟩
    · exact ⟨-1, .inr rfl, by grind⟩
  have eσ : σ * σ = 1 := by rcases hσ with rfl | rfl <;> grind
  obtain ⟨u, hu⟩ : ∃ u, dd P i = u := ⟨_, rfl⟩
  obtain ⟨d, hd⟩ : ∃ d, dd P (i + 1) = d := ⟨_, rfl⟩
  rw [hu, hd] at hκ
  rw [hu] at hq1
  rw [hd] at hq2
  have eu : u = sb (P (i + 1)) (P i) := hu.symm
  have ed : d = sb (P (i + 2)) (P (i + 1)) := hd.symm
  obtain ⟨e, he⟩ : ∃ e : Q2, e = (σ * ε * (d.1 - u.1), σ * ε * (d.2 - u.2)) := ⟨_, rfl⟩
  have c1 : σ * cr u e = ε * κ := by
    rw [he, ← hκ]
    have : σ * cr u (σ * ε * (d.1 - u.1), σ * ε * (d.2 - u.2)) = (σ * σ) * (ε * cr u d) := by unfold cr; grind
    rw [this, eσ]; grind
  have c2 : σ * cr d e = ε * κ := by
    rw [he, ← hκ]
    have : σ * cr d (σ * ε * (d.1 - u.1), σ * ε * (d.2 - u.2)) = (σ * σ) * (ε * cr u d) := by unfold cr; grind
    rw [this, eσ]; grind
  -- the four places against both lines
  have p1 : ∀ t, σ * cr u (sb (mv (P (i + 1)) e t) (P (i + 1))) = t * (ε * κ) := fun t => by
    rw [← c1]; unfold cr sb mv; grind
  have p2 : ∀ t, σ * cr d (sb (mv (P (i + 1)) e t) (P (i + 1))) = t * (ε * κ) := fun t => by
    rw [← c2]; unfold cr sb mv; grind
  have p3 : ∀ t, σ * cr u (sb (bm P i σ t) (P (i + 1))) = t * (u.1 * u.1 + u.2 * u.2) := fun t => by
    have : σ * cr u (sb (bm P i σ t) (P (i + 1))) = t * ((σ * σ) * (u.1 * u.1 + u.2 * u.2)) := by
      unfold bm nm mv pt; rw [hu, eu]; unfold cr sb; grind
    rw [this, eσ]; grind
  have p4 : ∀ t, σ * cr d (sb (bm P i σ t) (P (i + 1))) = σ * κ / 2 + t * (d.1 * u.1 + d.2 * u.2) := fun t => by
    have : σ * cr d (sb (bm P i σ t) (P (i + 1))) = σ * κ / 2 + t * ((σ * σ) * (d.1 * u.1 + d.2 * u.2)) := by
      rw [← hκ]; unfold bm nm mv pt; rw [hu, eu]; unfold cr sb; grind
    rw [this, eσ]; grind
  have p5 : ∀ t, σ * cr d (sb (bm P (i + 1) σ t) (P (i + 1))) = t * (d.1 * d.1 + d.2 * d.2) := fun t => by
    have : σ * cr d (sb (bm P (i + 1) σ t) (P (i + 1))) = t * ((σ * σ) * (d.1 * d.1 + d.2 * d.2)) := by
      unfold bm nm mv pt; rw [hd, ed]; unfold cr sb; grind
    rw [this, eσ]; grind
  have p6 : ∀ t, σ * cr u (sb (bm P (i + 1) σ t) (P (i + 1))) = σ * κ / 2 + t * (d.1 * u.1 + d.2 * u.2) := fun t => by
    have : σ * cr u (sb (bm P (i + 1) σ t) (P (i + 1))) = σ * κ / 2 + t * ((σ * σ) * (d.1 * u.1 + d.2 * u.2)) := by
      rw [← hκ]; unfold bm nm mv pt; rw [hd, ed]; unfold cr sb; grind
    rw [this, eσ]; grind
  -- ends of both sides against both lines
  have q0 : ∀ v : Q2, σ * cr v (sb (P (i + 1)) (P (i + 1))) = 0 := fun v => by unfold cr sb; grind
  have q1 : σ * cr u (sb (P i) (P (i + 1))) = 0 := by rw [eu]; unfold cr sb; grind
  have q2 : σ * cr d (sb (P i) (P (i + 1))) = σ * κ := by rw [← hκ, eu]; unfold cr sb; grind
  have q3 : σ * cr d (sb (P (i + 2)) (P (i + 1))) = 0 := by rw [ed]; unfold cr sb; grind
  have q4 : σ * cr u (sb (P (i + 2)) (P (i + 1))) = σ * κ := by rw [← hκ, ed]
  have cases : 0 < σ * κ ∨ σ * κ < 0 := by rcases hσ with rfl | rfl <;> rcases hε with rfl | rfl <;> grind
  have farA : Near fun t => ∀ k, k < n → 2 ≤ k → Sep (P (i + k)) (P (i + k + 1)) (bm P i σ t) (mv (P (i + 1)) e t) := by
    refine Near.all n fun k hk => ?_
    by_cases k1 : 2 ≤ k
    · have hs := part_sep h (i := i) (k := k) (s := 1 / 2) (t := 1) (by omega) hk (by grind) (by grind) (by grind) (fun x => by omega) (fun _ => by grind)
      rw [pt_one] at hs
      exact (near_sep2 (σ * (nm P i).1, σ * (nm P i).2) e hs).mono fun t _ m _ => m
    · exact Near.of fun _ _ m => absurd m k1
  have farB : Near fun t => ∀ k, k < n → (1 ≤ k ∧ k ≠ n - 1) → Sep (P (i + 1 + k)) (P (i + 1 + k + 1)) (mv (P (i + 1)) e t) (bm P (i + 1) σ t) := by
    refine Near.all n fun k hk => ?_
    by_cases k1 : 1 ≤ k ∧ k ≠ n - 1
    · have hs := part_sep h (i := i + 1) (k := k) (s := 0) (t := 1 / 2) k1.1 hk (by grind) (by grind) (by grind) (fun _ => by grind) (fun x => absurd x k1.2)
      rw [pt_zero] at hs
      exact (near_sep2 e (σ * (nm P (i + 1)).1, σ * (nm P (i + 1)).2) hs).mono fun t _ m _ => m
    · exact Near.of fun _ _ m => absurd m k1
  have near4 : Near fun t => 0 < σ * κ → 0 < σ * κ / 2 + t * (d.1 * u.1 + d.2 * u.2) := by
    rcases cases with m | m
    · exact (near_pos (x := σ * κ / 2) (by grind)).mono fun t _ z _ => z
    · exact Near.of fun t _ z => by grind
  refine (farA.and (farB.and near4)).mono fun t t0 ⟨mA, mB, m4⟩ => Joined.trans (b := mv (P (i + 1)) e t) (.one (free_of h i fun k hk => ?_)) (.one (free_of h (i + 1) fun k hk => ?_))
  · have z1 := Rat.mul_pos t0 hp
    have z2 := Rat.mul_pos t0 hq1
    rcases (by omega : k = 0 ∨ k = 1 ∨ 2 ≤ k) with rfl | rfl | k2
    · exact half_sep (u := u) (o := P (i + 1)) (σ := σ) (by rw [Nat.add_zero, q1]; exact Rat.le_refl) (by rw [Nat.add_zero, q0]; exact Rat.le_refl) (by rw [p3]; exact z2) (by rw [p1]; exact z1)
    · rcases cases with m | m
      · exact half_sep (u := d) (o := P (i + 1)) (σ := σ) (by rw [q0]; exact Rat.le_refl) (by rw [show i + 1 + 1 = i + 2 from rfl, q3]; exact Rat.le_refl) (by rw [p4]; exact m4 m) (by rw [p2]; exact z1)
      · exact half_sep (u := u) (o := P (i + 1)) (σ := σ) (by rw [q0]; exact Rat.le_refl) (by rw [show i + 1 + 1 = i + 2 from rfl, q4]; exact Rat.le_of_lt m) (by rw [p3]; exact z2) (by rw [p1]; exact z1)
    · exact mA k hk k2
  · have z1 := Rat.mul_pos t0 hp
    have z2 := Rat.mul_pos t0 hq2
    rcases (by omega : k = 0 ∨ k = n - 1 ∨ (1 ≤ k ∧ k ≠ n - 1)) with rfl | rfl | k2
    · exact half_sep (u := d) (o := P (i + 1)) (σ := σ) (by rw [Nat.add_zero, q0]; exact Rat.le_refl) (by rw [Nat.add_zero, show i + 1 + 1 = i + 2 from rfl, q3]; exact Rat.le_refl) (by rw [p2]; exact z1) (by rw [p5]; exact z2)
    · have e1 : P (i + 1 + (n - 1)) = P i := by rw [show i + 1 + (n - 1) = i + n by omega]; exact h.per i
      have e2 : P (i + 1 + (n - 1) + 1) = P (i + 1) := by rw [show i + 1 + (n - 1) + 1 = i + 1 + n by omega]; exact h.per _
      rw [e1, e2]
      rcases cases with m | m
      · exact half_sep (u := u) (o := P (i + 1)) (σ := σ) (by rw [q1]; exact Rat.le_refl) (by rw [q0]; exact Rat.le_refl) (by rw [p1]; exact z1) (by rw [p6]; exact m4 m)
      · exact half_sep (u := d) (o := P (i + 1)) (σ := σ) (by rw [q2]; exact Rat.le_of_lt m) (by rw [q0]; exact Rat.le_refl) (by rw [p2]; exact z1) (by rw [p5]; exact z2)
    · exact mB k hk k2
/-- all middles are joined -/
theorem all_mid {P : Nat → Q2} {n : Nat} (h : Ring P n) (hb : Bent P) {σ : Rat} (hσ : σ = 1 ∨ σ = -1) : ∀ i, Near fun t => Joined P (bm P 0 σ t) (bm P i σ t)
  | 0 => Near.of fun t _ => .refl _
  | i + 1 => ((all_mid h hb hσ i).and (turn_corner h hb i hσ)).mono fun t _ m => m.1.trans m.2

/-- from a place off the ring there is a way to the inside of a side that no corner is on -/
theorem clear_way {P : Nat → Q2} {n : Nat} (h : Ring P n) (hb : Bent P) {q : Q2} (hq : Off P q) :
    ∃ i t, i < n ∧ 0 < t ∧ t < 1 ∧ ∀ j, cr (sb (pt (P i) (P (i + 1)) t) q) (sb (P j) q) ≠ 0 := by
  have hn := h.n3
  have off : ∀ j, P j ≠ q := fun j e => hq j 0 (by grind) (by grind) (by rw [pt_zero]; exact e.symm)
  obtain ⟨i, hi, hl⟩ : ∃ i, i < n ∧ cr (dd P i) (sb (P i) q) ≠ 0 := by
    by_cases h0 : cr (dd P 0) (sb (P 0) q) = 0
    · refine ⟨1, by omega, fun h1 => off 1 ?_⟩
      have hb0 := hb 0
      have e0 : cr (dd P 0) (sb (P 1) q) = 0 := by
        have : cr (dd P 0) (sb (P 1) q) = cr (dd P 0) (sb (P 0) q) := by unfold dd cr sb; grind
        rw [this]; exact h0
      have h1' : cr (dd P 1) (sb (P 1) q) = 0 := h1
      have k1 := plu1 (dd P 0) (dd P 1) (sb (P 1) q)
      have k2 := plu2 (dd P 0) (dd P 1) (sb (P 1) q)
      rw [e0, h1'] at k1 k2
      have m1 : (sb (P 1) q).1 * cr (dd P 0) (dd P 1) = 0 := by grind
      have m2 : (sb (P 1) q).2 * cr (dd P 0) (dd P 1) = 0 := by grind
      rcases Rat.mul_eq_zero.1 m1 with z1 | z1
      · rcases Rat.mul_eq_zero.1 m2 with z2 | z2
        · refine Prod.ext ?_ ?_
          · have : (P 1).1 - q.1 = 0 := z1
            grind
          · have : (P 1).2 - q.2 = 0 := z2
            grind
        · exact absurd z2 hb0
      · exact absurd z1 hb0
    · exact ⟨0, by omega, h0⟩
  have hN : Near fun t => (∀ j, j < n → cr (sb (pt (P i) (P (i + 1)) t) q) (sb (P j) q) ≠ 0) ∧ t < 1 := by
    refine (Near.all n fun j _ => ?_).and ?_
    · obtain ⟨α, hα⟩ : ∃ α, cr (sb (P i) q) (sb (P j) q) = α := ⟨_, rfl⟩
      obtain ⟨β, hβ⟩ : ∃ β, cr (dd P i) (sb (P j) q) = β := ⟨_, rfl⟩
      have key : ∀ t, cr (sb (pt (P i) (P (i + 1)) t) q) (sb (P j) q) = α + t * β := fun t => by
        rw [← hα, ← hβ]; unfold dd cr sb pt; grind
      rcases (by grind : 0 < α ∨ α < 0 ∨ α = 0) with m | m | m
      · exact (near_pos (y := β) m).mono fun t _ z e => by rw [key] at e; grind
      · exact (near_pos (x := -α) (y := -β) (by grind)).mono fun t _ z e => by rw [key] at e; grind
      · refine Near.of fun t t0 e => ?_
        rw [key, m] at e
        have e' : t * β = 0 := by grind
        rcases Rat.mul_eq_zero.1 e' with z | z
        · grind
        · -- both products vanish: the corner is q
          rw [m] at hα
          rw [z] at hβ
          have k1 := plu1 (dd P i) (sb (P i) q) (sb (P j) q)
          have k2 := plu2 (dd P i) (sb (P i) q) (sb (P j) q)
          rw [hα, hβ] at k1 k2
          have m1 : (sb (P j) q).1 * cr (dd P i) (sb (P i) q) = 0 := by grind
          have m2 : (sb (P j) q).2 * cr (dd P i) (sb (P i) q) = 0 := by grind
          rcases Rat.mul_eq_zero.1 m1 with z1 | z1
          · rcases Rat.mul_eq_zero.1 m2 with z2 | z2
            · refine off j (Prod.ext ?_ ?_)
              · have : (P j).1 - q.1 = 0 := z1
                grind
              · have : (P j).2 - q.2 = 0 := z2
                grind
            · exact hl z2
          · exact hl z1
    · exact (near_pos (x := 1) (y := -1) (by grind)).mono fun t _ z => by grind
  obtain ⟨t, t0, k, t1⟩ := hN.ex
  refine ⟨i, t, hi, t0, t1, fun j => ?_⟩
  rw [per_mod h j]
  exact k _ (Nat.mod_lt _ (by omega))
/-- each place off the ring is joined to one beside the middle of a side -/
theorem to_side {P : Nat → Q2} {n : Nat} (h : Ring P n) (hb : Bent P) {q : Q2} (hq : Off P q) :
    ∃ k σ, (σ = 1 ∨ σ = -1) ∧ Near fun t => Joined P q (bm P k σ t) := by
  have hn := h.n3
  obtain ⟨i, t, hi, t0, t1, hc⟩ := clear_way h hb hq
  obtain ⟨v, hv⟩ : ∃ v, v = pt (P i) (P (i + 1)) t := ⟨_, rfl⟩
  rw [← hv] at hc
  have hqv : (sb v q).1 ≠ 0 ∨ (sb v q).2 ≠ 0 := by
    have h0 := hc 0
    rcases (by grind : (sb v q).1 = 0 ∨ (sb v q).1 ≠ 0) with m | m
    · rcases (by grind : (sb v q).2 = 0 ∨ (sb v q).2 ≠ 0) with m2 | m2
      · exfalso; apply h0; unfold cr; rw [m, m2]; grind
      · exact .inr m2
    · exact .inl m
  rcases first_hit h.ne hqv hq n with hno | ⟨k, τ, s, hk, τ0, τ1, s0, s1, he, hmin⟩
  · exact absurd ((pt_one q v).trans hv) (hno i hi 1 t (by grind) (by grind) (by grind) (by grind))
  · obtain ⟨e1, e2⟩ := pt_eq he
    have nz : ∀ r : Rat, ∀ j, (P j).1 = q.1 + r * (v.1 - q.1) → (P j).2 = q.2 + r * (v.2 - q.2) → False := fun r j k1 k2 => hc j (by unfold cr sb; rw [k1, k2]; grind)
    have s0' : 0 < s := by
      rcases (by grind : 0 < s ∨ s = 0) with m | m
      · exact m
      · subst m; exact (nz τ k (by grind) (by grind)).elim
    have s1' : s < 1 := by
      rcases (by grind : s < 1 ∨ s = 1) with m | m
      · exact m
      · subst m; exact (nz τ (k + 1) (by grind) (by grind)).elim
    -- on which side of side k the way comes
    obtain ⟨e, hee⟩ : ∃ e, e = sb q v := ⟨_, rfl⟩
    have hne := h.ne k
    have hcr : cr (dd P k) e ≠ 0 := by
      intro z
      have hcj := hc k
      apply hcj
      rw [hee] at z
      -- the straight line of side k is that of the way
      have k1 : cr (sb v q) (sb (P k) q) = s * cr (dd P k) (sb v q) := by unfold dd cr sb; grind
      have k2 : cr (dd P k) (sb v q) = -cr (dd P k) (sb q v) := by unfold cr sb; grind
      rw [k1, k2, z]; grind
    obtain ⟨σ, hσ, hp⟩ : ∃ σ : Rat, (σ = 1 ∨ σ = -1) ∧ 0 < σ * cr (dd P k) e := by
      rcases (by grind : 0 < cr (dd P k) e ∨ cr (dd P k) e < 0) with m | m
      · exact ⟨1, .inl rfl, by grind⟩
      · exact ⟨-1, .inr rfl, by grind⟩
    refine ⟨k, σ, hσ, ?_⟩
    have hmv : ∀ t, mv (pt (P k) (P (k + 1)) s) e t = pt q v (τ - t) := fun t => by
      rw [← he, hee]; unfold mv pt sb; refine Prod.ext ?_ ?_ <;> show _ = _ <;> grind
    have hfree : Near fun t => Free P q (mv (pt (P k) (P (k + 1)) s) e t) := by
      refine (near_pos (x := τ) (y := -1) τ0).mono fun t t0 z => ?_
      rw [hmv]
      have z' : 0 < τ - t := by grind
      refine free_of h 0 fun j hj => ?_
      rw [Nat.zero_add]
      have hd : (sb (pt q v (τ - t)) q).1 ≠ 0 ∨ (sb (pt q v (τ - t)) q).2 ≠ 0 := by
        have x1 : (sb (pt q v (τ - t)) q).1 = (τ - t) * (sb v q).1 := by unfold sb pt; grind
        have x2 : (sb (pt q v (τ - t)) q).2 = (τ - t) * (sb v q).2 := by unfold sb pt; grind
        rw [x1, x2]
        rcases hqv with m | m
        · exact .inl fun y => by rcases Rat.mul_eq_zero.1 y with w | w <;> grind
        · exact .inr fun y => by rcases Rat.mul_eq_zero.1 y with w | w <;> grind
      rcases sep_or_meet (h.ne j) hd with c | ⟨a, b, a0, a1, b0, b1, em⟩
      · exact c
      · exfalso
        have eb : pt q (pt q v (τ - t)) b = pt q v (b * (τ - t)) := by unfold pt; refine Prod.ext ?_ ?_ <;> show _ = _ <;> grind
        have m1 := Rat.mul_nonneg b0 (Rat.le_of_lt z')
        have m2 := Rat.mul_nonneg (show 0 ≤ 1 - b by grind) (Rat.le_of_lt z')
        have := hmin j hj (b * (τ - t)) a m1 (by grind) a0 a1 (by rw [← eb, em])
        grind
    exact (hfree.and (to_mid h s0' s1' hσ hp)).mono fun t _ m => (Joined.one m.1).trans (.one m.2)
/-- left of a side and right of it -/
theorem mid_wn {P : Nat → Q2} {n : Nat} (h : Ring P n) (i : Nat) : Near fun t => wn P n (bm P i 1 t) = gg P n i ∧ wn P n (bm P i (-1) t) = gg P n i - 1 := by
  have hn := h.n3
  have far : ∀ σ, Near fun t => ∀ k, k < n → k + 1 < n → Sep (P (i + 1 + k)) (P (i + 1 + k + 1)) (bm P i σ t) (pt (P i) (P (i + 1)) (1 / 2)) := fun σ => by
    refine Near.all n fun k hk => ?_
    by_cases k1 : k + 1 < n
    · have hs := part_sep' h (i := i) (k := k + 1) (s := 1 / 2) (t := 1 / 2) (by omega) k1 (by grind) (by grind) (by grind) (by grind)
      refine (near_sep2 (σ * (nm P i).1, σ * (nm P i).2) (0, 0) hs).mono fun t _ m _ => ?_
      rw [mv_zero] at m
      rw [show i + 1 + k = i + (k + 1) by omega]
      exact m
    · exact Near.of fun _ _ m => absurd m k1
  have hq := sq_dd h i
  refine ((far 1).and (far (-1))).mono fun t t0 ⟨m1, m2⟩ => ?_
  rw [side_wn h (i := i) (s := 1 / 2) (by grind) (by grind) (fun k hk => m1 k (by omega) hk), side_wn h (i := i) (s := 1 / 2) (by grind) (by grind) (fun k hk => m2 k (by omega) hk)]
  have f1 : sb (pt (P i) (P (i + 1)) (1 / 2)) (bm P i 1 t) = (t * (dd P i).2, t * -(dd P i).1) := by unfold bm nm mv sb; refine Prod.ext ?_ ?_ <;> show _ = _ <;> grind
  have f2 : sb (pt (P i) (P (i + 1)) (1 / 2)) (bm P i (-1) t) = (t * -(dd P i).2, t * (dd P i).1) := by unfold bm nm mv sb; refine Prod.ext ?_ ?_ <;> show _ = _ <;> grind
  rw [f1, f2]
  rw [chi_scale (u := ng (dd P i)) (v := ((dd P i).2, -(dd P i).1)) (w := (t * (dd P i).2, t * -(dd P i).1)) t0 rfl rfl, chi_scale' (u := dd P i) (v := ((dd P i).2, -(dd P i).1)) (w := (t * (dd P i).2, t * -(dd P i).1)) t0 rfl rfl,
    chi_scale (u := ng (dd P i)) (v := (-(dd P i).2, (dd P i).1)) (w := (t * -(dd P i).2, t * (dd P i).1)) t0 rfl rfl, chi_scale' (u := dd P i) (v := (-(dd P i).2, (dd P i).1)) (w := (t * -(dd P i).2, t * (dd P i).1)) t0 rfl rfl]
  obtain ⟨d, hd⟩ : ∃ d, dd P i = d := ⟨_, rfl⟩
  rw [hd] at hq ⊢
  have x1 : cr (ng d) (d.2, -d.1) = d.1 * d.1 + d.2 * d.2 := by unfold cr ng; grind
  have x2 : cr (d.2, -d.1) d = d.1 * d.1 + d.2 * d.2 := by unfold cr; grind
  have x3 : cr (ng d) (-d.2, d.1) = -(d.1 * d.1 + d.2 * d.2) := by unfold cr ng; grind
  have x4 : cr (-d.2, d.1) d = -(d.1 * d.1 + d.2 * d.2) := by unfold cr; grind
  have hz : d.1 ≠ 0 ∨ d.2 ≠ 0 := by
    rcases (by grind : d.1 = 0 ∨ d.1 ≠ 0) with m | m
    · rcases (by grind : d.2 = 0 ∨ d.2 ≠ 0) with m2 | m2
      · rw [m, m2] at hq; grind
      · exact .inr m2
    · exact .inl m
  unfold chi rr
  rw [x1, x2, x3, x4]
  generalize d.1 * d.1 + d.2 * d.2 = Q at *
  have n1 : (ng d).2 = -d.2 := rfl
  have n2 : (ng d).1 = -d.1 := rfl
  rw [n1]
  dsimp only
  constructor <;> grind
/-- places off a ring with one winding number are joined -/
theorem one_piece {P : Nat → Q2} {n : Nat} (h : Ring P n) (hb : Bent P) {p q : Q2} (hp : Off P p) (hq : Off P q) (e : wn P n p = wn P n q) : Joined P p q := by
  obtain ⟨k, σ, hσ, nk⟩ := to_side h hb hp
  obtain ⟨m, ρ, hρ, nm'⟩ := to_side h hb hq
  have a1 := (nk.and (all_mid h hb hσ k)).and ((nm'.and (all_mid h hb hρ m)).and (mid_wn h 0))
  obtain ⟨t, t0, ⟨j1, j2⟩, ⟨j3, j4⟩, w1, w2⟩ := a1.ex
  have p0 := j1.trans j2.symm
  have q0 := j3.trans j4.symm
  have e1 := p0.same h
  have e2 := q0.same h
  rcases hσ with rfl | rfl <;> rcases hρ with rfl | rfl
  · exact p0.trans q0.symm
  · rw [w1] at e1; rw [w2] at e2; omega
  · rw [w2] at e1; rw [w1] at e2; omega
  · exact p0.trans q0.symm
end Go.Proofs.Ytcpcmlonbpccnaa.Jr
