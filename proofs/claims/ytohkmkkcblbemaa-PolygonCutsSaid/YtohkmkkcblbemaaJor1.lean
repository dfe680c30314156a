/- Plain mathematics of rings: crossing numbers, and that each place off a simple ring has one of two winding numbers (Jordan). -/
namespace Go.Proofs.Ytohkmkkcblbemaa.Jr
set_option linter.unusedVariables false
set_option linter.unusedSimpArgs false

abbrev Q2 := Rat × Rat
def sb (u v : Q2) : Q2 := (u.1 - v.1, u.2 - v.2)
def ad (u v : Q2) : Q2 := (u.1 + v.1, u.2 + v.2)
def ng (u : Q2) : Q2 := (-u.1, -u.2)
def cr (u v : Q2) : Rat := u.1 * v.2 - u.2 * v.1
def dt (u v : Q2) : Rat := u.1 * v.1 + u.2 * v.2
/-- does the way from u to v cross the ray to the right, upwards (1) or downwards (-1)? -/
def chi (u v : Q2) : Int :=
  if u.2 ≤ 0 ∧ 0 < v.2 ∧ 0 < cr u v then 1 else if v.2 ≤ 0 ∧ 0 < u.2 ∧ cr u v < 0 then -1 else 0

theorem cr_swap (u v : Q2) : cr v u = -cr u v := by unfold cr; grind
theorem chi_swap (u v : Q2) : chi v u = -chi u v := by
  unfold chi
  rw [cr_swap u v]
  grind
theorem chi_zero {u v : Q2} (h : cr u v = 0) : chi u v = 0 := by
  unfold chi
  rw [h]
  grind
theorem chi_self (u : Q2) : chi u u = 0 := chi_zero (by unfold cr; grind)

/-- the sum of the first k values -/
def sm (f : Nat → Int) : Nat → Int
  | 0 => 0
  | k + 1 => sm f k + f k
theorem sm_tel (f : Nat → Int) (T : Nat → Int) : ∀ k, (∀ j, j < k → f j = T j - T (j + 1)) → sm f k = T 0 - T k
  | 0, _ => by simp [sm]
  | k + 1, h => by
    rw [sm, sm_tel f T k (fun j hj => h j (by omega)), h k (by omega)]
    omega
theorem sm_sub (f g : Nat → Int) : ∀ k, sm (fun j => f j - g j) k = sm f k - sm g k
  | 0 => by simp [sm]
  | k + 1 => by rw [sm, sm, sm, sm_sub f g k]; omega
theorem sm_congr {f g : Nat → Int} : ∀ k, (∀ j, j < k → f j = g j) → sm f k = sm g k
  | 0, _ => rfl
  | k + 1, h => by rw [sm, sm, sm_congr k (fun j hj => h j (by omega)), h k (by omega)]
theorem sm_head (f : Nat → Int) : ∀ k, sm f (k + 1) = f 0 + sm (fun j => f (j + 1)) k
  | 0 => by simp [sm]
  | k + 1 => by rw [sm, sm_head f k, sm]; omega

/-! ### half planes and parallelograms -/
theorem half_id (e u v : Q2) : cr e u * v.2 - cr e v * u.2 = -e.2 * cr u v := by unfold cr; grind
def hf (e v : Q2) : Int := if e.2 < 0 ∧ 0 < v.2 then 1 else 0
theorem chi_half {e u v : Q2} (hu : 0 < cr e u) (hv : 0 < cr e v) : chi u v = hf e v - hf e u := by
  have hid := half_id e u v
  unfold chi hf
  by_cases h1 : u.2 ≤ 0
  · by_cases h2 : 0 < v.2
    · have a1 : 0 < cr e u * v.2 := Rat.mul_pos hu h2
      have a2 : 0 ≤ cr e v * (-u.2) := Rat.mul_nonneg (by grind) (by grind)
      have a3 : 0 < -e.2 * cr u v := by grind
      by_cases h3 : e.2 < 0
      · have h4 : 0 < cr u v := by
          rcases (by grind : cr u v ≤ 0 ∨ 0 < cr u v) with k | k
          · have := Rat.mul_nonneg (a := -e.2) (b := -cr u v) (by grind) (by grind)
            grind
          · exact k
        grind
      · have h4 : ¬ 0 < cr u v := fun k => by
          have := Rat.mul_nonneg (a := e.2) (b := cr u v) (by grind) (by grind)
          grind
        grind
    · grind
  · by_cases h2 : v.2 ≤ 0
    · have a1 : 0 < cr e v * u.2 := Rat.mul_pos hv (by grind)
      have a2 : 0 ≤ cr e u * (-v.2) := Rat.mul_nonneg (by grind) (by grind)
      have a3 : -e.2 * cr u v < 0 := by grind
      by_cases h3 : e.2 < 0
      · have h4 : cr u v < 0 := by
          rcases (by grind : 0 ≤ cr u v ∨ cr u v < 0) with k | k
          · have := Rat.mul_nonneg (a := -e.2) (b := cr u v) (by grind) (by grind)
            grind
          · exact k
        grind
      · have h4 : ¬ cr u v < 0 := fun k => by
          have := Rat.mul_nonneg (a := e.2) (b := -cr u v) (by grind) (by grind)
          grind
        grind
    · grind
/-- a line parts two segments -/
def Sep (a b c d : Q2) : Prop := ∃ e : Q2, (0 < cr e (sb a c) ∧ 0 < cr e (sb b c)) ∧ 0 < cr e (sb a d) ∧ 0 < cr e (sb b d)
theorem par_zero {a b c d : Q2} (h : Sep a b c d) : chi (sb a c) (sb b c) + chi (sb b c) (sb b d) + chi (sb b d) (sb a d) + chi (sb a d) (sb a c) = 0 := by
  obtain ⟨e, ⟨h1, h2⟩, h3, h4⟩ := h
  rw [chi_half h1 h2, chi_half h2 h4, chi_half h4 h3, chi_half h3 h1]
  omega
theorem Sep.flip {a b c d : Q2} (h : Sep a b c d) : Sep c d a b := by
  obtain ⟨e, ⟨h1, h2⟩, h3, h4⟩ := h
  refine ⟨ng e, ⟨?_, ?_⟩, ?_, ?_⟩ <;> unfold cr sb ng at * <;> grind
theorem Sep.rev1 {a b c d : Q2} (h : Sep a b c d) : Sep b a c d := by
  obtain ⟨e, ⟨h1, h2⟩, h3, h4⟩ := h
  exact ⟨e, ⟨h2, h1⟩, h4, h3⟩
theorem Sep.rev2 {a b c d : Q2} (h : Sep a b c d) : Sep a b d c := by
  obtain ⟨e, ⟨h1, h2⟩, h3, h4⟩ := h
  exact ⟨e, ⟨h3, h4⟩, h1, h2⟩
theorem chi_up {u v : Q2} (h1 : u.2 ≤ 0) (h2 : 0 < v.2) : chi u v = if 0 < cr u v then 1 else 0 := by unfold chi; grind
theorem chi_dn {u v : Q2} (h1 : 0 < u.2) (h2 : v.2 ≤ 0) : chi u v = if cr u v < 0 then -1 else 0 := by unfold chi; grind
theorem chi_lo {u v : Q2} (h1 : u.2 ≤ 0) (h2 : v.2 ≤ 0) : chi u v = 0 := by unfold chi; grind
theorem chi_hi {u v : Q2} (h1 : 0 < u.2) (h2 : 0 < v.2) : chi u v = 0 := by unfold chi; grind
theorem le_or (x : Rat) : x ≤ 0 ∨ 0 < x := by grind
/-- a sum of two vectors on the way from one to the other -/
theorem chi_sum (u v : Q2) : chi u (ad u v) + chi (ad u v) v = chi u v := by
  have e1 : cr u (ad u v) = cr u v := by unfold cr ad; grind
  have e2 : cr (ad u v) v = cr u v := by unfold cr ad; grind
  have e3 : (ad u v).2 = u.2 + v.2 := rfl
  rcases le_or u.2 with h1 | h1 <;> rcases le_or v.2 with h2 | h2 <;> rcases le_or (ad u v).2 with h3 | h3
  · rw [chi_lo h1 h3, chi_lo h3 h2, chi_lo h1 h2]; rfl
  · grind
  · rw [chi_lo h1 h3, chi_up h3 h2, chi_up h1 h2, e2]; omega
  · rw [chi_up h1 h3, chi_hi h3 h2, chi_up h1 h2, e1]; omega
  · rw [chi_dn h1 h3, chi_lo h3 h2, chi_dn h1 h2, e1]; omega
  · rw [chi_hi h1 h3, chi_dn h3 h2, chi_dn h1 h2, e2]; omega
  · grind
  · rw [chi_hi h1 h3, chi_hi h3 h2, chi_hi h1 h2]; rfl

/-! ### directions -/
/-- 1 for the upper half plane, with the left axis -/
def rr (u : Q2) : Int := if 0 < u.2 ∨ (u.2 = 0 ∧ u.1 < 0) then 1 else 0
def Opp (u v : Q2) : Prop := cr u v = 0 ∧ dt u v ≤ 0
theorem rr_ng {u : Q2} (h : u.1 ≠ 0 ∨ u.2 ≠ 0) : rr (ng u) = 1 - rr u := by
  unfold rr ng
  grind
theorem sq_pos' (u : Q2) (h : u.1 ≠ 0 ∨ u.2 ≠ 0) : 0 < u.1 * u.1 + u.2 * u.2 := by
  have h1 : 0 ≤ u.1 * u.1 := by
    rcases (by grind : 0 ≤ u.1 ∨ 0 ≤ -u.1) with k | k
    · exact Rat.mul_nonneg k k
    · have := Rat.mul_nonneg k k; grind
  have h2 : 0 ≤ u.2 * u.2 := by
    rcases (by grind : 0 ≤ u.2 ∨ 0 ≤ -u.2) with k | k
    · exact Rat.mul_nonneg k k
    · have := Rat.mul_nonneg k k; grind
  rcases h with h | h
  · have : u.1 * u.1 ≠ 0 := fun k => by rcases Rat.mul_eq_zero.1 k with k | k <;> exact h k
    grind
  · have : u.2 * u.2 ≠ 0 := fun k => by rcases Rat.mul_eq_zero.1 k with k | k <;> exact h k
    grind
theorem pos_of_mul {a b : Rat} (ha : 0 < a) (h : 0 < a * b) : 0 < b := by
  rcases le_or b with k | k
  · have := Rat.mul_nonneg (a := a) (b := -b) (by grind) (by grind)
    grind
  · exact k
theorem rr_chi {u v : Q2} (hu : u.1 ≠ 0 ∨ u.2 ≠ 0) (hv : v.1 ≠ 0 ∨ v.2 ≠ 0) (h : ¬ Opp u v) : rr u - rr v = chi (ng u) (ng v) - chi u v := by
  have e1 : cr (ng u) (ng v) = cr u v := by unfold cr ng; grind
  have e2 : dt u v * v.2 = cr u v * v.1 + u.2 * (v.1 * v.1 + v.2 * v.2) := by unfold cr dt; grind
  have e3 : dt u v * u.2 = v.2 * (u.1 * u.1 + u.2 * u.2) - cr u v * u.1 := by unfold cr dt; grind
  have pu := sq_pos' u hu
  have pv := sq_pos' v hv
  have n1 : (ng u).2 = -u.2 := rfl
  have n2 : (ng v).2 = -v.2 := rfl
  unfold Opp at h
  unfold rr
  rcases (by grind : u.2 < 0 ∨ u.2 = 0 ∨ 0 < u.2) with a | a | a <;> rcases (by grind : v.2 < 0 ∨ v.2 = 0 ∨ 0 < v.2) with b | b | b
  · rw [chi_hi (by grind) (by grind), chi_lo (by grind) (by grind)]; grind
  · rw [chi_dn (by grind) (by grind), chi_lo (by grind) (by grind), e1]
    have : cr u v = -u.2 * v.1 := by unfold cr; rw [b]; grind
    have k1 : ∀ x : Rat, 0 < x → 0 < -u.2 * x := fun x hx => Rat.mul_pos (by grind) hx
    have := k1 v.1
    have := k1 (-v.1)
    grind
  · rw [chi_dn (by grind) (by grind), chi_up (by grind) (by grind), e1]
    have k0 : cr u v = 0 → dt u v ≤ 0 := fun h0 => by
      rcases le_or (dt u v) with k | k
      · exact k
      · have := Rat.mul_pos k b
        have := Rat.mul_pos (a := -u.2) (by grind) pv
        rw [h0] at e2
        grind
    grind
  · rw [chi_up (by grind) (by grind), chi_lo (by grind) (by grind), e1]
    have : cr u v = u.1 * v.2 := by unfold cr; rw [a]; grind
    have k1 : ∀ x : Rat, 0 < x → 0 < -v.2 * x := fun x hx => Rat.mul_pos (by grind) hx
    have := k1 u.1
    have := k1 (-u.1)
    grind
  · rw [chi_lo (by grind) (by grind), chi_lo (by grind) (by grind)]
    have c0 : cr u v = 0 := by unfold cr; rw [a, b]; grind
    have d0 : dt u v = u.1 * v.1 := by unfold dt; rw [a, b]; grind
    have k1 : u.1 < 0 → 0 < v.1 → 0 < -u.1 * v.1 := fun p q => Rat.mul_pos (by grind) q
    have k2 : 0 < u.1 → v.1 < 0 → 0 < u.1 * -v.1 := fun p q => Rat.mul_pos p (by grind)
    grind
  · rw [chi_lo (by grind) (by grind), chi_up (by grind) (by grind)]
    have : cr u v = u.1 * v.2 := by unfold cr; rw [a]; grind
    have k1 : ∀ x : Rat, 0 < x → 0 < v.2 * x := fun x hx => Rat.mul_pos b hx
    have := k1 u.1
    have := k1 (-u.1)
    grind
  · rw [chi_up (by grind) (by grind), chi_dn (by grind) (by grind), e1]
    have k0 : cr u v = 0 → dt u v ≤ 0 := fun h0 => by
      rcases le_or (dt u v) with k | k
      · exact k
      · have := Rat.mul_pos k a
        have := Rat.mul_pos (a := -v.2) (by grind) pu
        rw [h0] at e3
        grind
    grind
  · rw [chi_lo (by grind) (by grind), chi_dn (by grind) (by grind)]
    have : cr u v = -u.2 * v.1 := by unfold cr; rw [b]; grind
    have k1 : ∀ x : Rat, 0 < x → 0 < u.2 * x := fun x hx => Rat.mul_pos a hx
    have := k1 v.1
    have := k1 (-v.1)
    grind
  · rw [chi_lo (by grind) (by grind), chi_hi (by grind) (by grind)]; grind
/-! ### rings -/
/-- a closed way of n points, whose sides meet only where one follows the other, and which never turns back on itself -/
structure Ring (P : Nat → Q2) (n : Nat) : Prop where
  n3 : 3 ≤ n
  per : ∀ i, P (i + n) = P i
  sep : ∀ i k, 2 ≤ k → k + 2 ≤ n → Sep (P (i + k)) (P (i + k + 1)) (P i) (P (i + 1))
  ne : ∀ i, (sb (P (i + 1)) (P i)).1 ≠ 0 ∨ (sb (P (i + 1)) (P i)).2 ≠ 0
  opp : ∀ i, ¬ Opp (sb (P (i + 1)) (P i)) (sb (P (i + 2)) (P (i + 1)))
/-- side j about q -/
def sx (P : Nat → Q2) (j : Nat) (q : Q2) : Int := chi (sb (P j) q) (sb (P (j + 1)) q)
def dd (P : Nat → Q2) (i : Nat) : Q2 := sb (P (i + 1)) (P i)
/-- the sides from i + 1 on but the last two about q -/
def th (P : Nat → Q2) (n i : Nat) (q : Q2) : Int := sm (fun j => sx P (i + 1 + j) q) (n - 2)
theorem move_side {P : Nat → Q2} {j : Nat} {p q : Q2} (h : Sep (P j) (P (j + 1)) p q) :
    sx P j p - sx P j q = chi (sb (P j) p) (sb (P j) q) - chi (sb (P (j + 1)) p) (sb (P (j + 1)) q) := by
  have := par_zero h
  have e := chi_swap (sb (P j) p) (sb (P j) q)
  have e2 := chi_swap (sb (P j) q) (sb (P (j + 1)) q)
  unfold sx
  omega
theorem ring_step {P : Nat → Q2} {n : Nat} (h : Ring P n) (i : Nat) :
    th P n i (P i) - th P n (i + 1) (P (i + 1)) = chi (dd P i) (dd P (i + 1)) - chi (ng (dd P (i + n - 1))) (ng (dd P i)) := by
  obtain ⟨m, rfl⟩ : ∃ m, n = m + 3 := ⟨n - 3, by have := h.n3; omega⟩
  have eT := sm_tel (fun k => sx P (i + 2 + k) (P i) - sx P (i + 2 + k) (P (i + 1))) (fun k => chi (sb (P (i + 2 + k)) (P i)) (sb (P (i + 2 + k)) (P (i + 1)))) m (fun k hk => by
    have hs := h.sep i (2 + k) (by omega) (by omega)
    rw [← Nat.add_assoc] at hs
    exact move_side hs)
  rw [sm_sub] at eT
  have a1 : th P (m + 3) i (P i) = sx P (i + 1) (P i) + sm (fun k => sx P (i + 2 + k) (P i)) m := by
    unfold th
    rw [show m + 3 - 2 = m + 1 from rfl, sm_head]
    refine congrArg (_ + ·) (sm_congr m fun j _ => ?_)
    rw [show i + 1 + (j + 1) = i + 2 + j by omega]
  have a2 : th P (m + 3) (i + 1) (P (i + 1)) = sm (fun k => sx P (i + 2 + k) (P (i + 1))) m + sx P (i + 2 + m) (P (i + 1)) := rfl
  have b1 := chi_sum (dd P i) (dd P (i + 1))
  have b2 := chi_sum (ng (dd P (i + m + 2))) (ng (dd P i))
  have e1 : ad (dd P i) (dd P (i + 1)) = sb (P (i + 2)) (P i) := by
    unfold ad dd sb
    refine Prod.ext ?_ ?_ <;> show _ = _ <;> grind
  have hp : P (i + m + 2 + 1) = P i := h.per i
  have e2 : ng (dd P (i + m + 2)) = sb (P (i + 2 + m)) (P i) := by
    unfold ng dd sb
    rw [hp, show i + m + 2 = i + 2 + m by omega]
    refine Prod.ext ?_ ?_ <;> show _ = _ <;> grind
  have e3 : ad (ng (dd P (i + m + 2))) (ng (dd P i)) = sb (P (i + 2 + m)) (P (i + 1)) := by
    rw [e2]
    unfold ad ng dd sb
    refine Prod.ext ?_ ?_ <;> show _ = _ <;> grind
  have e4 : ng (dd P i) = sb (P (i + 2 + m + 1)) (P (i + 1)) := by
    rw [show i + 2 + m + 1 = i + m + 2 + 1 by omega, hp]
    unfold ng dd sb
    refine Prod.ext ?_ ?_ <;> show _ = _ <;> grind
  rw [e1] at b1
  rw [e3] at b2
  have c1 : sx P (i + 1) (P i) = chi (dd P i) (sb (P (i + 2)) (P i)) := rfl
  have c2 : sx P (i + 2 + m) (P (i + 1)) = chi (sb (P (i + 2 + m)) (P (i + 1))) (ng (dd P i)) := by rw [e4]; rfl
  have c3 : chi (sb (P (i + 2)) (P i)) (sb (P (i + 2)) (P (i + 1))) = chi (sb (P (i + 2)) (P i)) (dd P (i + 1)) := rfl
  simp only [Nat.add_zero] at eT
  rw [c3, ← e2] at eT
  rw [a1, a2, c1, c2, show i + (m + 3) - 1 = i + m + 2 by omega]
  omega
/-- what is the same at all points of a ring -/
def gg (P : Nat → Q2) (n i : Nat) : Int := th P n (i + 1) (P (i + 1)) + chi (dd P i) (dd P (i + 1)) + rr (dd P i)
theorem dd_per {P : Nat → Q2} {n : Nat} (h : Ring P n) (i : Nat) : dd P (i + n) = dd P i := by
  unfold dd
  rw [show i + n + 1 = i + 1 + n by omega, h.per, h.per]
theorem gg_step {P : Nat → Q2} {n : Nat} (h : Ring P n) (i : Nat) : gg P n (i + 1) = gg P n i := by
  have h1 := ring_step h (i + 1)
  have e : dd P (i + 1 + n - 1) = dd P i := by
    rw [show i + 1 + n - 1 = i + n by omega, dd_per h]
  rw [e] at h1
  have h2 := rr_chi (h.ne i) (h.ne (i + 1)) (h.opp i)
  unfold gg
  have h3 : rr (dd P i) - rr (dd P (i + 1)) = chi (ng (dd P i)) (ng (dd P (i + 1))) - chi (dd P i) (dd P (i + 1)) := h2
  omega
theorem gg_all {P : Nat → Q2} {n : Nat} (h : Ring P n) (i : Nat) : gg P n i = gg P n 0 := by
  induction i with
  | zero => rfl
  | succ i ih => rw [gg_step h, ih]
/-- the winding number about q -/
def wn (P : Nat → Q2) (n : Nat) (q : Q2) : Int := sm (fun j => sx P j q) n
theorem sm_shift (f : Nat → Int) (n : Nat) (h : ∀ i, f (i + n) = f i) : ∀ k, sm (fun j => f (k + j)) n = sm f n
  | 0 => by simp
  | k + 1 => by
    have h1 := sm_head (fun j => f (k + j)) n
    have h2 : sm (fun j => f (k + j)) (n + 1) = sm (fun j => f (k + j)) n + f (k + n) := rfl
    have h3 : sm (fun j => f (k + (j + 1))) n = sm (fun j => f (k + 1 + j)) n := sm_congr n fun j _ => by rw [show k + (j + 1) = k + 1 + j by omega]
    rw [← sm_shift f n h k, ← h3]
    have := h k
    simp only [Nat.add_zero] at h1
    omega
theorem sx_per {P : Nat → Q2} {n : Nat} (h : Ring P n) (q : Q2) (j : Nat) : sx P (j + n) q = sx P j q := by
  unfold sx
  rw [show j + n + 1 = j + 1 + n by omega, h.per, h.per]
/-- a place that sees a point of the ring -/
def Sees (P : Nat → Q2) (n i : Nat) (q : Q2) : Prop := ∀ k, k + 2 < n → Sep (P (i + 2 + k)) (P (i + 2 + k + 1)) q (P (i + 1))
theorem sees_wn {P : Nat → Q2} {n : Nat} (h : Ring P n) {i : Nat} {q : Q2} (hs : Sees P n i q) :
    wn P n q = th P n (i + 1) (P (i + 1)) + chi (ng (dd P i)) (sb (P (i + 1)) q) + chi (sb (P (i + 1)) q) (dd P (i + 1)) := by
  obtain ⟨m, rfl⟩ : ∃ m, n = m + 3 := ⟨n - 3, by have := h.n3; omega⟩
  have eT := sm_tel (fun k => sx P (i + 2 + k) q - sx P (i + 2 + k) (P (i + 1))) (fun k => chi (sb (P (i + 2 + k)) q) (sb (P (i + 2 + k)) (P (i + 1)))) (m + 1) (fun k hk => move_side (hs k (by omega)))
  rw [sm_sub] at eT
  have a1 : wn P (m + 3) q = sx P i q + sx P (i + 1) q + sm (fun k => sx P (i + 2 + k) q) (m + 1) := by
    unfold wn
    rw [← sm_shift (fun j => sx P j q) (m + 3) (sx_per h q) i]
    have h1 := sm_head (fun j => sx P (i + j) q) (m + 2)
    have h2 := sm_head (fun j => sx P (i + (j + 1)) q) (m + 1)
    have h3 : sm (fun j => sx P (i + (j + 1 + 1)) q) (m + 1) = sm (fun k => sx P (i + 2 + k) q) (m + 1) := sm_congr _ fun j _ => by rw [show i + (j + 1 + 1) = i + 2 + j by omega]
    rw [h1, h2, h3, Nat.zero_add, Nat.add_zero]
    omega
  have a2 : th P (m + 3) (i + 1) (P (i + 1)) = sm (fun k => sx P (i + 2 + k) (P (i + 1))) (m + 1) := rfl
  have hp : P (i + 2 + (m + 1)) = P i := by
    rw [show i + 2 + (m + 1) = i + (m + 3) by omega]
    exact h.per i
  have b1 := chi_sum (sb (P (i + 1)) q) (dd P (i + 1))
  have b2 := chi_sum (ng (dd P i)) (sb (P (i + 1)) q)
  have e1 : ad (sb (P (i + 1)) q) (dd P (i + 1)) = sb (P (i + 2)) q := by
    unfold ad dd sb
    refine Prod.ext ?_ ?_ <;> show _ = _ <;> grind
  have e2 : ad (ng (dd P i)) (sb (P (i + 1)) q) = sb (P i) q := by
    unfold ad ng dd sb
    refine Prod.ext ?_ ?_ <;> show _ = _ <;> grind
  have e3 : sb (P i) (P (i + 1)) = ng (dd P i) := by
    unfold ng dd sb
    refine Prod.ext ?_ ?_ <;> show _ = _ <;> grind
  rw [e1] at b1
  rw [e2] at b2
  have c1 : sx P i q = chi (sb (P i) q) (sb (P (i + 1)) q) := rfl
  have c2 : sx P (i + 1) q = chi (sb (P (i + 1)) q) (sb (P (i + 2)) q) := rfl
  simp only [hp, Nat.add_zero] at eT
  rw [e3] at eT
  have c3 : sb (P (i + 2)) (P (i + 1)) = dd P (i + 1) := rfl
  rw [c3] at eT
  have s1 := chi_swap (sb (P i) q) (ng (dd P i))
  rw [a1, a2, c1, c2]
  omega
theorem sgnmul (a b : Rat) : (0 < a → 0 < b → 0 < a * b) ∧ (0 < a → b < 0 → a * b < 0) ∧ (a < 0 → 0 < b → a * b < 0) ∧ (a < 0 → b < 0 → 0 < a * b) := by
  refine ⟨fun h k => Rat.mul_pos h k, fun h k => ?_, fun h k => ?_, fun h k => ?_⟩
  · have := Rat.mul_pos h (show 0 < -b by grind); grind
  · have := Rat.mul_pos (show 0 < -a by grind) k; grind
  · have := Rat.mul_pos (show 0 < -a by grind) (show 0 < -b by grind); grind
theorem plu2 (u d e : Q2) : u.2 * cr d e - d.2 * cr u e + e.2 * cr u d = 0 := by unfold cr; grind
theorem plu1 (u d e : Q2) : u.1 * cr d e - d.1 * cr u e + e.1 * cr u d = 0 := by unfold cr; grind
def LeftSec (u d e : Q2) : Prop := (0 < cr u d ∧ 0 < cr u e ∧ 0 < cr d e) ∨ (cr u d < 0 ∧ (0 < cr u e ∨ 0 < cr d e)) ∨ (cr u d = 0 ∧ 0 < cr u e)
def Same (x y : Rat) : Prop := (0 < x ∧ 0 < y) ∨ (x = 0 ∧ y = 0) ∨ (x < 0 ∧ y < 0)
theorem same_of {a b x y : Rat} (ha : 0 < a) (hb : 0 < b) (h : a * x = b * y) : Same x y := by
  have h1 := sgnmul a x
  have h2 := sgnmul b y
  have h3 : x = 0 → a * x = 0 := fun k => by rw [k]; grind
  have h4 : y = 0 → b * y = 0 := fun k => by rw [k]; grind
  unfold Same
  grind
theorem same_dir {u v : Q2} (hv : v.1 ≠ 0 ∨ v.2 ≠ 0) (hd : 0 < dt u v) (h : cr u v = 0) : Same u.1 v.1 ∧ Same u.2 v.2 := by
  have pv := sq_pos' v hv
  exact ⟨same_of pv hd (by unfold cr dt at *; grind), same_of pv hd (by unfold cr dt at *; grind)⟩
theorem tri (x : Rat) : x < 0 ∨ x = 0 ∨ 0 < x := by grind
/-! ### places on sides -/
theorem chi_mid {u v w : Q2} {α β : Rat} (ha : 0 < α) (hb : 0 < β) (h1 : w.1 = α * u.1 + β * v.1) (h2 : w.2 = α * u.2 + β * v.2) : chi u w + chi w v = chi u v := by
  have e1 : cr u w = β * cr u v := by unfold cr; rw [h1, h2]; grind
  have e2 : cr w v = α * cr u v := by unfold cr; rw [h1, h2]; grind
  have s1 := sgnmul β (cr u v)
  have s2 := sgnmul α (cr u v)
  have s3 := sgnmul α u.2
  have s4 := sgnmul β v.2
  have z1 : u.2 = 0 → α * u.2 = 0 := fun k => by rw [k]; grind
  have z2 : v.2 = 0 → β * v.2 = 0 := fun k => by rw [k]; grind
  have z3 : cr u v = 0 → α * cr u v = 0 ∧ β * cr u v = 0 := fun k => by rw [k]; grind
  rcases le_or u.2 with a | a <;> rcases le_or v.2 with b | b <;> rcases le_or w.2 with c | c
  · rw [chi_lo a c, chi_lo c b, chi_lo a b]; rfl
  · grind
  · rw [chi_lo a c, chi_up c b, chi_up a b, e2]; grind
  · rw [chi_up a c, chi_hi c b, chi_up a b, e1]; grind
  · rw [chi_dn a c, chi_lo c b, chi_dn a b, e1]; grind
  · rw [chi_hi a c, chi_dn c b, chi_dn a b, e2]; grind
  · grind
  · rw [chi_hi a c, chi_hi c b, chi_hi a b]; rfl
theorem chi_scale {u v w : Q2} {α : Rat} (ha : 0 < α) (h1 : w.1 = α * v.1) (h2 : w.2 = α * v.2) : chi u w = chi u v := by
  have e1 : cr u w = α * cr u v := by unfold cr; rw [h1, h2]; grind
  have s2 := sgnmul α (cr u v)
  have s3 := sgnmul α v.2
  have z2 : v.2 = 0 → α * v.2 = 0 := fun k => by rw [k]; grind
  have z3 : cr u v = 0 → α * cr u v = 0 := fun k => by rw [k]; grind
  unfold chi
  rw [e1, h2]
  grind
theorem chi_scale' {u v w : Q2} {α : Rat} (ha : 0 < α) (h1 : w.1 = α * v.1) (h2 : w.2 = α * v.2) : chi w u = chi v u := by
  rw [chi_swap u w, chi_swap u v, chi_scale ha h1 h2]
def pt (a b : Q2) (t : Rat) : Q2 := (a.1 + t * (b.1 - a.1), a.2 + t * (b.2 - a.2))
theorem sep_sub {a b c d : Q2} {s t : Rat} (h : Sep a b c d) (s0 : 0 ≤ s) (s1 : s ≤ 1) (t0 : 0 ≤ t) (t1 : t ≤ 1) : Sep a b (pt c d s) (pt c d t) := by
  obtain ⟨e, ⟨h1, h2⟩, h3, h4⟩ := h
  have key : ∀ x : Q2, ∀ r : Rat, 0 ≤ r → r ≤ 1 → 0 < cr e (sb x c) → 0 < cr e (sb x d) → 0 < cr e (sb x (pt c d r)) := by
    intro x r r0 r1 k1 k2
    have i : cr e (sb x (pt c d r)) = (1 - r) * cr e (sb x c) + r * cr e (sb x d) := by unfold cr sb pt; grind
    rw [i]
    rcases (by grind : r = 0 ∨ 0 < r) with rfl | k
    · grind
    · have := Rat.mul_pos k k2
      have := Rat.mul_nonneg (a := 1 - r) (b := cr e (sb x c)) (by grind) (by grind)
      grind
  exact ⟨e, ⟨key a s s0 s1 h1 h3, key b s s0 s1 h2 h4⟩, key a t t0 t1 h1 h3, key b t t0 t1 h2 h4⟩
theorem sep_adj {a b c : Q2} {s t : Rat} (hu : (sb b a).1 ≠ 0 ∨ (sb b a).2 ≠ 0) (ho : ¬ Opp (sb b a) (sb c b)) (s0 : 0 < s) (t0 : 0 < t) : Sep a b (pt b c s) (pt b c t) := by
  have pu := sq_pos' _ hu
  rcases tri (cr (sb b a) (sb c b)) with k | k | k
  · have key : ∀ r : Rat, 0 < r → 0 < cr (sb b a) (sb a (pt b c r)) ∧ 0 < cr (sb b a) (sb b (pt b c r)) := by
      intro r hr
      have i1 : cr (sb b a) (sb a (pt b c r)) = r * -cr (sb b a) (sb c b) := by unfold cr sb pt; grind
      have i2 : cr (sb b a) (sb b (pt b c r)) = r * -cr (sb b a) (sb c b) := by unfold cr sb pt; grind
      rw [i1, i2]
      have := Rat.mul_pos hr (show 0 < -cr (sb b a) (sb c b) by grind)
      exact ⟨this, this⟩
    exact ⟨sb b a, ⟨(key s s0).1, (key s s0).2⟩, (key t t0).1, (key t t0).2⟩
  · have hd : 0 < dt (sb b a) (sb c b) := by unfold Opp at ho; grind
    have key : ∀ r : Rat, 0 < r → 0 < cr (-(sb b a).2, (sb b a).1) (sb a (pt b c r)) ∧ 0 < cr (-(sb b a).2, (sb b a).1) (sb b (pt b c r)) := by
      intro r hr
      have i1 : cr (-(sb b a).2, (sb b a).1) (sb a (pt b c r)) = r * dt (sb b a) (sb c b) + ((sb b a).1 * (sb b a).1 + (sb b a).2 * (sb b a).2) := by unfold cr dt sb pt; grind
      have i2 : cr (-(sb b a).2, (sb b a).1) (sb b (pt b c r)) = r * dt (sb b a) (sb c b) := by unfold cr dt sb pt; grind
      rw [i1, i2]
      have := Rat.mul_pos hr hd
      grind
    exact ⟨_, ⟨(key s s0).1, (key s s0).2⟩, (key t t0).1, (key t t0).2⟩
  · have key : ∀ r : Rat, 0 < r → 0 < cr (ng (sb b a)) (sb a (pt b c r)) ∧ 0 < cr (ng (sb b a)) (sb b (pt b c r)) := by
      intro r hr
      have i1 : cr (ng (sb b a)) (sb a (pt b c r)) = r * cr (sb b a) (sb c b) := by unfold cr ng sb pt; grind
      have i2 : cr (ng (sb b a)) (sb b (pt b c r)) = r * cr (sb b a) (sb c b) := by unfold cr ng sb pt; grind
      rw [i1, i2]
      have := Rat.mul_pos hr k
      exact ⟨this, this⟩
    exact ⟨ng (sb b a), ⟨(key s s0).1, (key s s0).2⟩, (key t t0).1, (key t t0).2⟩
theorem move_sum {P : Nat → Q2} {a m : Nat} {p q : Q2} (h : ∀ k, k < m → Sep (P (a + k)) (P (a + k + 1)) p q) :
    sm (fun k => sx P (a + k) p) m - sm (fun k => sx P (a + k) q) m = chi (sb (P a) p) (sb (P a) q) - chi (sb (P (a + m)) p) (sb (P (a + m)) q) := by
  have eT := sm_tel (fun k => sx P (a + k) p - sx P (a + k) q) (fun k => chi (sb (P (a + k)) p) (sb (P (a + k)) q)) m (fun k hk => move_side (h k hk))
  rw [sm_sub] at eT
  simpa using eT
/-- the other sides about a place inside side i -/
theorem side_th {P : Nat → Q2} {n : Nat} (h : Ring P n) {i : Nat} {s : Rat} (s0 : 0 < s) (s1 : s < 1) :
    sm (fun k => sx P (i + 1 + k) (pt (P i) (P (i + 1)) s)) (n - 1) = gg P n i - rr (dd P i) := by
  obtain ⟨m, rfl⟩ : ∃ m, n = m + 3 := ⟨n - 3, by have := h.n3; omega⟩
  have hp : P (i + 2 + (m + 1)) = P i := by
    rw [show i + 2 + (m + 1) = i + (m + 3) by omega]
    exact h.per i
  have hp2 : P (i + (m + 2) + 1) = P i := by
    rw [show i + (m + 2) + 1 = i + (m + 3) by omega]
    exact h.per i
  have e1 : pt (P i) (P (i + 1)) 1 = P (i + 1) := by unfold pt; refine Prod.ext ?_ ?_ <;> show _ = _ <;> grind
  have hm := move_sum (P := P) (a := i + 2) (m := m + 1) (p := pt (P i) (P (i + 1)) s) (q := P (i + 1)) (fun k hk => by
    rcases Nat.lt_or_ge k m with k1 | k1
    · have := h.sep i (2 + k) (by omega) (by omega)
      rw [← Nat.add_assoc] at this
      have := sep_sub (s := s) (t := 1) this (by grind) (by grind) (by grind) (by grind)
      rw [e1] at this
      exact this
    · obtain rfl : k = m := by omega
      have ho := h.opp (i + (k + 2))
      have hn := h.ne (i + (k + 2))
      have hq : P (i + (k + 2) + 2) = P (i + 1) := by
        rw [show i + (k + 2) + 2 = i + 1 + (k + 3) by omega]
        exact h.per _
      rw [hq, hp2] at ho
      rw [hp2] at hn
      rw [show i + 2 + k = i + (k + 2) by omega, hp2]
      have := sep_adj (t := 1) hn ho s0 (by grind)
      rw [e1] at this
      exact this)
  have hd : sm (fun k => sx P (i + 1 + k) (pt (P i) (P (i + 1)) s)) (m + 3 - 1) = sx P (i + 1) (pt (P i) (P (i + 1)) s) + sm (fun k => sx P (i + 2 + k) (pt (P i) (P (i + 1)) s)) (m + 1) := by
    rw [show m + 3 - 1 = m + 1 + 1 from rfl, sm_head]
    refine congrArg (_ + ·) (sm_congr _ fun j _ => ?_)
    rw [show i + 1 + (j + 1) = i + 2 + j by omega]
  have ht : th P (m + 3) (i + 1) (P (i + 1)) = sm (fun k => sx P (i + 2 + k) (P (i + 1))) (m + 1) := rfl
  have t0 : chi (sb (P (i + 2 + (m + 1))) (pt (P i) (P (i + 1)) s)) (sb (P (i + 2 + (m + 1))) (P (i + 1))) = 0 := by
    rw [hp]
    refine chi_zero ?_
    unfold cr sb pt
    grind
  have t1 : sx P (i + 1) (pt (P i) (P (i + 1)) s) + chi (sb (P (i + 2)) (pt (P i) (P (i + 1)) s)) (sb (P (i + 2)) (P (i + 1))) = chi (dd P i) (dd P (i + 1)) := by
    have h1 := chi_sum (sb (P (i + 1)) (pt (P i) (P (i + 1)) s)) (dd P (i + 1))
    have h2 : ad (sb (P (i + 1)) (pt (P i) (P (i + 1)) s)) (dd P (i + 1)) = sb (P (i + 2)) (pt (P i) (P (i + 1)) s) := by
      unfold ad dd sb
      refine Prod.ext ?_ ?_ <;> show _ = _ <;> grind
    have h3 : chi (sb (P (i + 1)) (pt (P i) (P (i + 1)) s)) (dd P (i + 1)) = chi (dd P i) (dd P (i + 1)) := chi_scale' (α := 1 - s) (by grind) (by unfold sb pt dd sb; grind) (by unfold sb pt dd sb; grind)
    rw [h2, h3] at h1
    exact h1
  unfold gg
  rw [hd]
  omega
theorem side_wn {P : Nat → Q2} {n : Nat} (h : Ring P n) {i : Nat} {s : Rat} {q : Q2} (s0 : 0 < s) (s1 : s < 1)
    (hs : ∀ k, k + 1 < n → Sep (P (i + 1 + k)) (P (i + 1 + k + 1)) q (pt (P i) (P (i + 1)) s)) :
    wn P n q = gg P n i - rr (dd P i) + chi (ng (dd P i)) (sb (pt (P i) (P (i + 1)) s) q) + chi (sb (pt (P i) (P (i + 1)) s) q) (dd P i) := by
  have hn := h.n3
  have hm := move_sum (P := P) (a := i + 1) (m := n - 1) (p := q) (q := pt (P i) (P (i + 1)) s) (fun k hk => hs k (by omega))
  rw [side_th h s0 s1, show i + 1 + (n - 1) = i + n by omega, h.per] at hm
  have hw : wn P n q = sx P i q + sm (fun k => sx P (i + 1 + k) q) (n - 1) := by
    unfold wn
    rw [← sm_shift (fun j => sx P j q) n (sx_per h q) i]
    have h1 := sm_head (fun j => sx P (i + j) q) (n - 1)
    rw [show n - 1 + 1 = n by omega] at h1
    rw [h1, Nat.add_zero]
    refine congrArg (_ + ·) (sm_congr _ fun j _ => ?_)
    rw [show i + (j + 1) = i + 1 + j by omega]
  generalize hz : pt (P i) (P (i + 1)) s = z at *
  have z1 : z.1 = (P i).1 + s * ((P (i + 1)).1 - (P i).1) := by rw [← hz]; rfl
  have z2 : z.2 = (P i).2 + s * ((P (i + 1)).2 - (P i).2) := by rw [← hz]; rfl
  have a1 : chi (sb (P i) q) (sb z q) + chi (sb z q) (sb (P (i + 1)) q) = chi (sb (P i) q) (sb (P (i + 1)) q) :=
    chi_mid (α := 1 - s) (β := s) (by grind) s0 (by unfold sb; grind) (by unfold sb; grind)
  have a2 : chi (sb z q) (sb (P (i + 1)) q) + chi (sb (P (i + 1)) q) (sb (P (i + 1)) z) = chi (sb z q) (sb (P (i + 1)) z) :=
    chi_mid (α := 1) (β := 1) (by grind) (by grind) (by unfold sb; grind) (by unfold sb; grind)
  have a3 : chi (sb (P i) z) (sb (P i) q) + chi (sb (P i) q) (sb z q) = chi (sb (P i) z) (sb z q) :=
    chi_mid (α := 1) (β := 1) (by grind) (by grind) (by unfold sb; grind) (by unfold sb; grind)
  have b1 : chi (sb z q) (sb (P (i + 1)) z) = chi (sb z q) (dd P i) := chi_scale (α := 1 - s) (by grind) (by unfold dd sb; grind) (by unfold dd sb; grind)
  have b2 : chi (sb (P i) z) (sb z q) = chi (ng (dd P i)) (sb z q) := chi_scale' (α := s) s0 (by unfold ng dd sb; grind) (by unfold ng dd sb; grind)
  have c1 := chi_swap (sb (P i) q) (sb (P i) z)
  have c2 : sx P i q = chi (sb (P i) q) (sb (P (i + 1)) q) := rfl
  rw [hw, c2]
  omega
/-! ### segments that meet -/
theorem div_in {x k : Rat} (h : (0 < k ∧ 0 ≤ x ∧ x ≤ k) ∨ (k < 0 ∧ k ≤ x ∧ x ≤ 0)) : 0 ≤ x / k ∧ x / k ≤ 1 := by
  have e : x / k * k = x := by grind
  have s1 := sgnmul (x / k) k
  have s2 := sgnmul (x / k - 1) k
  have e2 : (x / k - 1) * k = x - k := by grind
  grind
theorem pt_zero (a b : Q2) : pt a b 0 = a := by unfold pt; refine Prod.ext ?_ ?_ <;> show _ = _ <;> grind
theorem pt_one (a b : Q2) : pt a b 1 = b := by unfold pt; refine Prod.ext ?_ ?_ <;> show _ = _ <;> grind
theorem sep_or_meet {a b c d : Q2} (hab : (sb b a).1 ≠ 0 ∨ (sb b a).2 ≠ 0) (hcd : (sb d c).1 ≠ 0 ∨ (sb d c).2 ≠ 0) :
    Sep a b c d ∨ ∃ s t, 0 ≤ s ∧ s ≤ 1 ∧ 0 ≤ t ∧ t ≤ 1 ∧ pt a b s = pt c d t := by
  obtain ⟨f1, hf1⟩ : ∃ x, x = cr (sb d c) (sb a c) := ⟨_, rfl⟩
  obtain ⟨f2, hf2⟩ : ∃ x, x = cr (sb d c) (sb b c) := ⟨_, rfl⟩
  obtain ⟨g1, hg1⟩ : ∃ x, x = cr (sb b a) (sb c a) := ⟨_, rfl⟩
  obtain ⟨g2, hg2⟩ : ∃ x, x = cr (sb b a) (sb d a) := ⟨_, rfl⟩
  have hk : f1 - f2 = g2 - g1 := by rw [hf1, hf2, hg1, hg2]; unfold cr sb; grind
  by_cases c1 : 0 < f1 ∧ 0 < f2
  · refine .inl ⟨sb d c, ⟨?_, ?_⟩, ?_, ?_⟩ <;> unfold cr sb at * <;> grind
  by_cases c2 : f1 < 0 ∧ f2 < 0
  · refine .inl ⟨ng (sb d c), ⟨?_, ?_⟩, ?_, ?_⟩ <;> unfold cr sb ng at * <;> grind
  by_cases c3 : 0 < g1 ∧ 0 < g2
  · refine .inl ⟨ng (sb b a), ⟨?_, ?_⟩, ?_, ?_⟩ <;> unfold cr sb ng at * <;> grind
  by_cases c4 : g1 < 0 ∧ g2 < 0
  · refine .inl ⟨sb b a, ⟨?_, ?_⟩, ?_, ?_⟩ <;> unfold cr sb at * <;> grind
  by_cases k0 : f1 - f2 = 0
  · have z1 : f1 = 0 := by grind
    have z2 : f2 = 0 := by grind
    have z3 : g1 = 0 := by grind
    have z4 : g2 = 0 := by grind
    have pD := sq_pos' _ hcd
    obtain ⟨N, hN⟩ : ∃ x, x = (sb d c).1 * (sb d c).1 + (sb d c).2 * (sb d c).2 := ⟨_, rfl⟩
    rw [← hN] at pD
    obtain ⟨pa, hpa⟩ : ∃ x, x = dt (sb d c) (sb a c) := ⟨_, rfl⟩
    obtain ⟨pb, hpb⟩ : ∃ x, x = dt (sb d c) (sb b c) := ⟨_, rfl⟩
    have on : ∀ x : Q2, cr (sb d c) (sb x c) = 0 → N * (x.1 - c.1) = dt (sb d c) (sb x c) * (d.1 - c.1) ∧ N * (x.2 - c.2) = dt (sb d c) (sb x c) * (d.2 - c.2) := by
      intro x hx
      rw [hN]
      unfold cr dt sb at *
      constructor <;> grind
    obtain ⟨oa1, oa2⟩ := on a (by rw [← hf1, z1])
    obtain ⟨ob1, ob2⟩ := on b (by rw [← hf2, z2])
    rw [← hpa] at oa1 oa2
    rw [← hpb] at ob1 ob2
    have inv : N / N = 1 := by grind
    by_cases ia : 0 ≤ pa ∧ pa ≤ N
    · obtain ⟨t0, t1⟩ := div_in (x := pa) (k := N) (.inl ⟨pD, ia.1, ia.2⟩)
      refine .inr ⟨0, pa / N, by grind, by grind, t0, t1, ?_⟩
      rw [pt_zero]
      unfold pt
      refine Prod.ext ?_ ?_ <;> show _ = _ <;> grind
    by_cases ib : 0 ≤ pb ∧ pb ≤ N
    · obtain ⟨t0, t1⟩ := div_in (x := pb) (k := N) (.inl ⟨pD, ib.1, ib.2⟩)
      refine .inr ⟨1, pb / N, by grind, by grind, t0, t1, ?_⟩
      rw [pt_one]
      unfold pt
      refine Prod.ext ?_ ?_ <;> show _ = _ <;> grind
    by_cases ic : (pa < 0 ∧ pb < 0) ∨ (N < pa ∧ N < pb)
    · rcases ic with ic | ic
      · refine .inl ⟨(-(sb d c).2 * -1 * -1, (sb d c).1), ⟨?_, ?_⟩, ?_, ?_⟩ <;> unfold cr sb dt at * <;> grind
      · refine .inl ⟨((sb d c).2, -(sb d c).1), ⟨?_, ?_⟩, ?_, ?_⟩ <;> unfold cr sb dt at * <;> grind
    · have hne : pb - pa ≠ 0 := by grind
      obtain ⟨t0, t1⟩ := div_in (x := -pa) (k := pb - pa) (by grind)
      refine .inr ⟨-pa / (pb - pa), 0, t0, t1, by grind, by grind, ?_⟩
      rw [pt_zero]
      have e : -pa / (pb - pa) * (pb - pa) = -pa := by grind
      obtain ⟨s, hs⟩ : ∃ s, s = -pa / (pb - pa) := ⟨_, rfl⟩
      rw [← hs] at e ⊢
      have q1 : N * (a.1 - c.1 + s * (b.1 - a.1)) = 0 := by grind
      have q2 : N * (a.2 - c.2 + s * (b.2 - a.2)) = 0 := by grind
      have r1 : a.1 - c.1 + s * (b.1 - a.1) = 0 := by rcases Rat.mul_eq_zero.1 q1 with m | m <;> grind
      have r2 : a.2 - c.2 + s * (b.2 - a.2) = 0 := by rcases Rat.mul_eq_zero.1 q2 with m | m <;> grind
      unfold pt
      refine Prod.ext ?_ ?_ <;> show _ = _ <;> grind
  · obtain ⟨s0, s1⟩ := div_in (x := f1) (k := f1 - f2) (by grind)
    obtain ⟨t0, t1⟩ := div_in (x := -g1) (k := f1 - f2) (by grind)
    refine .inr ⟨f1 / (f1 - f2), -g1 / (f1 - f2), s0, s1, t0, t1, ?_⟩
    obtain ⟨K, hK⟩ : ∃ K, K = f1 - f2 := ⟨_, rfl⟩
    rw [← hK] at k0 s0 s1 t0 t1 ⊢
    obtain ⟨s, hs⟩ : ∃ s, s = f1 / K := ⟨_, rfl⟩
    obtain ⟨t, ht⟩ : ∃ t, t = -g1 / K := ⟨_, rfl⟩
    rw [← hs, ← ht]
    have es : s * K = f1 := by grind
    have et : t * K = -g1 := by grind
    have i1 : K * (a.1 - c.1) + f1 * (b.1 - a.1) + g1 * (d.1 - c.1) = 0 := by rw [hK, hf1, hf2, hg1]; unfold cr sb; grind
    have i2 : K * (a.2 - c.2) + f1 * (b.2 - a.2) + g1 * (d.2 - c.2) = 0 := by rw [hK, hf1, hf2, hg1]; unfold cr sb; grind
    have q1 : K * ((a.1 + s * (b.1 - a.1)) - (c.1 + t * (d.1 - c.1))) = 0 := by grind
    have q2 : K * ((a.2 + s * (b.2 - a.2)) - (c.2 + t * (d.2 - c.2))) = 0 := by grind
    unfold pt
    refine Prod.ext ?_ ?_ <;> show _ = _
    · rcases Rat.mul_eq_zero.1 q1 with m | m <;> grind
    · rcases Rat.mul_eq_zero.1 q2 with m | m <;> grind
theorem sep_no {a b c d : Q2} {s t : Rat} (h : Sep a b c d) (s0 : 0 ≤ s) (s1 : s ≤ 1) (t0 : 0 ≤ t) (t1 : t ≤ 1) : pt a b s ≠ pt c d t := by
  intro he
  have h1 := sep_sub h t0 t1 t0 t1
  have h2 := sep_sub h1.flip s0 s1 s0 s1
  obtain ⟨e, ⟨k, -⟩, -⟩ := h2
  rw [he] at k
  unfold cr sb at k
  grind
/-! ### the first place of the ring on a way -/
theorem pt_eq {a b c d : Q2} {s t : Rat} (h : pt a b s = pt c d t) : a.1 + s * (b.1 - a.1) = c.1 + t * (d.1 - c.1) ∧ a.2 + s * (b.2 - a.2) = c.2 + t * (d.2 - c.2) :=
  ⟨congrArg Prod.fst h, congrArg Prod.snd h⟩
theorem pt_of {a b c d : Q2} {s t : Rat} (h1 : a.1 + s * (b.1 - a.1) = c.1 + t * (d.1 - c.1)) (h2 : a.2 + s * (b.2 - a.2) = c.2 + t * (d.2 - c.2)) : pt a b s = pt c d t := Prod.ext h1 h2
theorem seg_first {q v a b : Q2} (hqv : (sb v q).1 ≠ 0 ∨ (sb v q).2 ≠ 0) (hab : (sb b a).1 ≠ 0 ∨ (sb b a).2 ≠ 0) (hq : ∀ s, 0 ≤ s → s ≤ 1 → q ≠ pt a b s) :
    (∀ τ s, 0 ≤ τ → τ ≤ 1 → 0 ≤ s → s ≤ 1 → pt q v τ ≠ pt a b s) ∨ ∃ τ₀ s₀, 0 < τ₀ ∧ τ₀ ≤ 1 ∧ 0 ≤ s₀ ∧ s₀ ≤ 1 ∧ pt q v τ₀ = pt a b s₀ ∧ ∀ τ s, 0 ≤ τ → τ ≤ 1 → 0 ≤ s → s ≤ 1 → pt q v τ = pt a b s → τ₀ ≤ τ := by
  by_cases hex : ∃ τ s, 0 ≤ τ ∧ τ ≤ 1 ∧ 0 ≤ s ∧ s ≤ 1 ∧ pt q v τ = pt a b s
  · right
    obtain ⟨τ₁, s₁, t0, t1, s0, s1, he⟩ := hex
    obtain ⟨x1, x2⟩ := pt_eq he
    have hq' : ∀ s, 0 ≤ s → s ≤ 1 → ¬ (q.1 = a.1 + s * (b.1 - a.1) ∧ q.2 = a.2 + s * (b.2 - a.2)) := fun s k0 k1 k => hq s k0 k1 (Prod.ext k.1 k.2)
    by_cases hk : cr (sb v q) (sb b a) = 0
    · have pV := sq_pos' _ hqv
      obtain ⟨N, hN⟩ : ∃ x, x = (sb v q).1 * (sb v q).1 + (sb v q).2 * (sb v q).2 := ⟨_, rfl⟩
      obtain ⟨ρ, hρ⟩ : ∃ x, x = dt (sb v q) (sb b a) / N := ⟨_, rfl⟩
      rw [← hN] at pV
      have e0 : ρ * N = dt (sb v q) (sb b a) := by rw [hρ]; grind
      have e1 : b.1 - a.1 = ρ * (v.1 - q.1) := by
        have : N * ((b.1 - a.1) - ρ * (v.1 - q.1)) = 0 := by
          have i : N * (b.1 - a.1) = dt (sb v q) (sb b a) * (v.1 - q.1) := by rw [hN]; unfold cr dt sb at *; grind
          grind
        rcases Rat.mul_eq_zero.1 this with m | m <;> grind
      have e2 : b.2 - a.2 = ρ * (v.2 - q.2) := by
        have : N * ((b.2 - a.2) - ρ * (v.2 - q.2)) = 0 := by
          have i : N * (b.2 - a.2) = dt (sb v q) (sb b a) * (v.2 - q.2) := by rw [hN]; unfold cr dt sb at *; grind
          grind
        rcases Rat.mul_eq_zero.1 this with m | m <;> grind
      have uni : ∀ τ s, pt q v τ = pt a b s → τ = τ₁ + (s - s₁) * ρ := by
        intro τ s h
        obtain ⟨y1, y2⟩ := pt_eq h
        have i1 : (τ - τ₁ - (s - s₁) * ρ) * (v.1 - q.1) = 0 := by rw [e1] at x1 y1; grind
        have i2 : (τ - τ₁ - (s - s₁) * ρ) * (v.2 - q.2) = 0 := by rw [e2] at x2 y2; grind
        unfold sb at hqv
        rcases Rat.mul_eq_zero.1 i1 with m | m
        · grind
        · rcases Rat.mul_eq_zero.1 i2 with m2 | m2 <;> grind
      have hit : ∀ s, pt q v (τ₁ + (s - s₁) * ρ) = pt a b s := fun s => pt_of (by rw [e1] at x1 ⊢; grind) (by rw [e2] at x2 ⊢; grind)
      rcases tri ρ with r | r | r
      · -- the last end first
        have h0 : 0 < τ₁ + (1 - s₁) * ρ := by
          rcases le_or (τ₁ + (1 - s₁) * ρ) with m | m
          · exfalso
            have p1 := Rat.mul_nonneg (a := 1 - s₁) (b := -ρ) (by grind) (by grind)
            have ew : τ₁ / -ρ * -ρ = τ₁ := by grind
            have w0 : 0 ≤ τ₁ / -ρ := by
              have := sgnmul (τ₁ / -ρ) (-ρ)
              grind
            have m1 : (1 - s₁ - τ₁ / -ρ) * -ρ = (1 - s₁) * -ρ - τ₁ := by grind
            have m2 : 0 ≤ 1 - s₁ - τ₁ / -ρ := by
              have := sgnmul (1 - s₁ - τ₁ / -ρ) (-ρ)
              grind
            have hz := hit (s₁ + τ₁ / -ρ)
            rw [show τ₁ + (s₁ + τ₁ / -ρ - s₁) * ρ = 0 by grind, pt_zero] at hz
            exact hq _ (by grind) (by grind) hz
          · exact m
        have p1 := Rat.mul_nonneg (a := 1 - s₁) (b := -ρ) (by grind) (by grind)
        refine ⟨τ₁ + (1 - s₁) * ρ, 1, h0, by grind, by grind, by grind, hit 1, fun τ s a0 a1 b0 b1 h => ?_⟩
        have := uni τ s h
        have := Rat.mul_nonneg (a := 1 - s) (b := -ρ) (by grind) (by grind)
        grind
      · exfalso
        unfold sb at hab
        rw [r] at e1 e2
        grind
      · have h0 : 0 < τ₁ + (0 - s₁) * ρ := by
          rcases le_or (τ₁ + (0 - s₁) * ρ) with m | m
          · exfalso
            have p1 := Rat.mul_nonneg (a := s₁) (b := ρ) s0 (by grind)
            have ew : τ₁ / ρ * ρ = τ₁ := by grind
            have m0 : 0 ≤ τ₁ / ρ := by
              have := sgnmul (τ₁ / ρ) ρ
              grind
            have m1 : (s₁ - τ₁ / ρ) * ρ = s₁ * ρ - τ₁ := by grind
            have m2 : 0 ≤ s₁ - τ₁ / ρ := by
              have := sgnmul (s₁ - τ₁ / ρ) ρ
              grind
            have hz := hit (s₁ - τ₁ / ρ)
            rw [show τ₁ + (s₁ - τ₁ / ρ - s₁) * ρ = 0 by grind, pt_zero] at hz
            exact hq _ (by grind) (by grind) hz
          · exact m
        have p1 := Rat.mul_nonneg (a := s₁) (b := ρ) s0 (by grind)
        refine ⟨τ₁ + (0 - s₁) * ρ, 0, h0, by grind, by grind, by grind, hit 0, fun τ s a0 a1 b0 b1 h => ?_⟩
        have := uni τ s h
        have := Rat.mul_nonneg (a := s) (b := ρ) b0 (by grind)
        grind
    · refine ⟨τ₁, s₁, ?_, t1, s0, s1, he, fun τ s a0 a1 b0 b1 h => ?_⟩
      · rcases (by grind : τ₁ = 0 ∨ 0 < τ₁) with m | m
        · exfalso
          rw [m, pt_zero] at he
          exact hq s₁ s0 s1 he
        · exact m
      · obtain ⟨y1, y2⟩ := pt_eq h
        have i : (τ - τ₁) * cr (sb v q) (sb b a) = 0 := by unfold cr sb; grind
        rcases Rat.mul_eq_zero.1 i with m | m <;> grind
  · left
    intro τ s t0 t1 s0 s1 h
    exact hex ⟨τ, s, t0, t1, s0, s1, h⟩
/-- a place that is on no side -/
def Off (P : Nat → Q2) (q : Q2) : Prop := ∀ j s, 0 ≤ s → s ≤ 1 → q ≠ pt (P j) (P (j + 1)) s
theorem first_hit {P : Nat → Q2} {q v : Q2} (hne : ∀ i, (sb (P (i + 1)) (P i)).1 ≠ 0 ∨ (sb (P (i + 1)) (P i)).2 ≠ 0) (hqv : (sb v q).1 ≠ 0 ∨ (sb v q).2 ≠ 0) (hq : Off P q) : ∀ m,
    (∀ j, j < m → ∀ τ s, 0 ≤ τ → τ ≤ 1 → 0 ≤ s → s ≤ 1 → pt q v τ ≠ pt (P j) (P (j + 1)) s) ∨
    ∃ i τ₀ s₀, i < m ∧ 0 < τ₀ ∧ τ₀ ≤ 1 ∧ 0 ≤ s₀ ∧ s₀ ≤ 1 ∧ pt q v τ₀ = pt (P i) (P (i + 1)) s₀ ∧ ∀ j, j < m → ∀ τ s, 0 ≤ τ → τ ≤ 1 → 0 ≤ s → s ≤ 1 → pt q v τ = pt (P j) (P (j + 1)) s → τ₀ ≤ τ
  | 0 => .inl fun j hj => absurd hj (Nat.not_lt_zero _)
  | m + 1 => by
    rcases first_hit hne hqv hq m with h1 | ⟨i, τ₀, s₀, a, b, c, d, e, f, g⟩
    · rcases seg_first hqv (hne m) (hq m) with h2 | ⟨τ₁, s₁, b', c', d', e', f', g'⟩
      · refine .inl fun j hj => ?_
        rcases Nat.lt_or_ge j m with k | k
        · exact h1 j k
        · obtain rfl : j = m := by omega
          exact h2
      · refine .inr ⟨m, τ₁, s₁, by omega, b', c', d', e', f', fun j hj => ?_⟩
        rcases Nat.lt_or_ge j m with k | k
        · exact fun τ s x0 x1 y0 y1 h => absurd h (h1 j k τ s x0 x1 y0 y1)
        · obtain rfl : j = m := by omega
          exact g'
    · rcases seg_first hqv (hne m) (hq m) with h2 | ⟨τ₁, s₁, b', c', d', e', f', g'⟩
      · refine .inr ⟨i, τ₀, s₀, by omega, b, c, d, e, f, fun j hj => ?_⟩
        rcases Nat.lt_or_ge j m with k | k
        · exact g j k
        · obtain rfl : j = m := by omega
          exact fun τ s x0 x1 y0 y1 h => absurd h (h2 τ s x0 x1 y0 y1)
      · rcases (by grind : τ₀ ≤ τ₁ ∨ τ₁ < τ₀) with k0 | k0
        · refine .inr ⟨i, τ₀, s₀, by omega, b, c, d, e, f, fun j hj => ?_⟩
          rcases Nat.lt_or_ge j m with k | k
          · exact g j k
          · obtain rfl : j = m := by omega
            exact fun τ s x0 x1 y0 y1 h => by have := g' τ s x0 x1 y0 y1 h; grind
        · refine .inr ⟨m, τ₁, s₁, by omega, b', c', d', e', f', fun j hj => ?_⟩
          rcases Nat.lt_or_ge j m with k | k
          · exact fun τ s x0 x1 y0 y1 h => by have := g j k τ s x0 x1 y0 y1 h; grind
          · obtain rfl : j = m := by omega
            exact g'
/-! ### places about a point of the ring -/
theorem sec_range {u d e : Q2} (he : e.1 ≠ 0 ∨ e.2 ≠ 0) : chi u e - rr e + chi (ng e) d - chi u d = 0 ∨ chi u e - rr e + chi (ng e) d - chi u d = -1 := by
  have a1 := sgnmul u.2 (cr d e)
  have a2 := sgnmul d.2 (cr u e)
  have a3 := sgnmul e.2 (cr u d)
  have p2 := plu2 u d e
  have z1 : u.2 = 0 → u.2 * cr d e = 0 := fun k => by rw [k]; grind
  have z2 : cr d e = 0 → u.2 * cr d e = 0 := fun k => by rw [k]; grind
  have z3 : cr u e = 0 → d.2 * cr u e = 0 := fun k => by rw [k]; grind
  have z4 : cr u d = 0 → e.2 * cr u d = 0 := fun k => by rw [k]; grind
  have z5 : d.2 = 0 → d.2 * cr u e = 0 := fun k => by rw [k]; grind
  have e2 : cr (ng e) d = cr d e := by unfold cr ng; grind
  have n2 : (ng e).2 = -e.2 := rfl
  have w1 : e.2 = 0 → cr u e = -(u.2 * e.1) ∧ cr d e = -(d.2 * e.1) := fun k => by unfold cr; rw [k]; grind
  have w2 := sgnmul u.2 e.1
  have w3 := sgnmul d.2 e.1
  have c1 := @chi_up u e
  have c2 := @chi_dn u e
  have c3 := @chi_lo u e
  have c4 := @chi_hi u e
  have f1 := @chi_up (ng e) d
  have f2 := @chi_dn (ng e) d
  have f3 := @chi_lo (ng e) d
  have f4 := @chi_hi (ng e) d
  have g1 := @chi_up u d
  have g2 := @chi_dn u d
  have g3 := @chi_lo u d
  have g4 := @chi_hi u d
  have hr1 : 0 < e.2 → rr e = 1 := fun k => by unfold rr; grind
  have hr2 : e.2 < 0 → rr e = 0 := fun k => by unfold rr; grind
  have hr3 : e.2 = 0 → e.1 < 0 → rr e = 1 := fun k l => by unfold rr; grind
  have hr4 : e.2 = 0 → 0 < e.1 → rr e = 0 := fun k l => by unfold rr; grind
  rcases tri e.2 with q | q | q
  · rw [hr2 q]
    rcases le_or u.2 with x | x <;> rcases le_or d.2 with y | y
    · rw [c3 x (by grind), f2 (by grind) y, g3 x y]
      try rw [e2]
      clear c1 c2 c3 c4 f1 f2 f3 f4 g1 g2 g3 g4 hr1 hr2 hr3 hr4
      grind (splits := 40)
    · rw [c3 x (by grind), f4 (by grind) y, g1 x y]
      try rw [e2]
      clear c1 c2 c3 c4 f1 f2 f3 f4 g1 g2 g3 g4 hr1 hr2 hr3 hr4
      grind (splits := 40)
    · rw [c2 x (by grind), f2 (by grind) y, g2 x y]
      try rw [e2]
      clear c1 c2 c3 c4 f1 f2 f3 f4 g1 g2 g3 g4 hr1 hr2 hr3 hr4
      grind (splits := 40)
    · rw [c2 x (by grind), f4 (by grind) y, g4 x y]
      try rw [e2]
      clear c1 c2 c3 c4 f1 f2 f3 f4 g1 g2 g3 g4 hr1 hr2 hr3 hr4
      grind (splits := 40)
  · rcases tri e.1 with z | z | z
    · rw [hr3 q z]
      rcases le_or u.2 with x | x <;> rcases le_or d.2 with y | y
      · rw [c3 x (by grind), f3 (by grind) y, g3 x y]
        try rw [e2]
        clear c1 c2 c3 c4 f1 f2 f3 f4 g1 g2 g3 g4 hr1 hr2 hr3 hr4
        grind (splits := 40)
      · rw [c3 x (by grind), f1 (by grind) y, g1 x y]
        try rw [e2]
        clear c1 c2 c3 c4 f1 f2 f3 f4 g1 g2 g3 g4 hr1 hr2 hr3 hr4
        grind (splits := 40)
      · rw [c2 x (by grind), f3 (by grind) y, g2 x y]
        try rw [e2]
        clear c1 c2 c3 c4 f1 f2 f3 f4 g1 g2 g3 g4 hr1 hr2 hr3 hr4
        grind (splits := 40)
      · rw [c2 x (by grind), f1 (by grind) y, g4 x y]
        try rw [e2]
        clear c1 c2 c3 c4 f1 f2 f3 f4 g1 g2 g3 g4 hr1 hr2 hr3 hr4
        grind (splits := 40)
    · grind
    · rw [hr4 q z]
      rcases le_or u.2 with x | x <;> rcases le_or d.2 with y | y
      · rw [c3 x (by grind), f3 (by grind) y, g3 x y]
        try rw [e2]
        clear c1 c2 c3 c4 f1 f2 f3 f4 g1 g2 g3 g4 hr1 hr2 hr3 hr4
        grind (splits := 40)
      · rw [c3 x (by grind), f1 (by grind) y, g1 x y]
        try rw [e2]
        clear c1 c2 c3 c4 f1 f2 f3 f4 g1 g2 g3 g4 hr1 hr2 hr3 hr4
        grind (splits := 40)
      · rw [c2 x (by grind), f3 (by grind) y, g2 x y]
        try rw [e2]
        clear c1 c2 c3 c4 f1 f2 f3 f4 g1 g2 g3 g4 hr1 hr2 hr3 hr4
        grind (splits := 40)
      · rw [c2 x (by grind), f1 (by grind) y, g4 x y]
        try rw [e2]
        clear c1 c2 c3 c4 f1 f2 f3 f4 g1 g2 g3 g4 hr1 hr2 hr3 hr4
        grind (splits := 40)
  · rw [hr1 q]
    rcases le_or u.2 with x | x <;> rcases le_or d.2 with y | y
    · rw [c1 x q, f3 (by grind) y, g3 x y]
      try rw [e2]
      clear c1 c2 c3 c4 f1 f2 f3 f4 g1 g2 g3 g4 hr1 hr2 hr3 hr4
      grind (splits := 40)
    · rw [c1 x q, f1 (by grind) y, g1 x y]
      try rw [e2]
      clear c1 c2 c3 c4 f1 f2 f3 f4 g1 g2 g3 g4 hr1 hr2 hr3 hr4
      grind (splits := 40)
    · rw [c4 x q, f3 (by grind) y, g2 x y]
      try rw [e2]
      clear c1 c2 c3 c4 f1 f2 f3 f4 g1 g2 g3 g4 hr1 hr2 hr3 hr4
      grind (splits := 40)
    · rw [c4 x q, f1 (by grind) y, g4 x y]
      try rw [e2]
      clear c1 c2 c3 c4 f1 f2 f3 f4 g1 g2 g3 g4 hr1 hr2 hr3 hr4
      grind (splits := 40)
/-! ### each place is on one of two sides -/
theorem div_mul' {D N : Rat} (hN : 0 < N) : D / N * N = D := by grind
theorem div_pos' {D N : Rat} (hD : 0 < D) (hN : 0 < N) : 0 < D / N := by
  have e := div_mul' (D := D) hN
  obtain ⟨x, hx⟩ : ∃ x, x = D / N := ⟨_, rfl⟩
  rw [← hx] at e ⊢
  rcases le_or x with k | k
  · have := Rat.mul_nonneg (a := -x) (b := N) (by grind) (by grind)
    grind
  · exact k
theorem div_eq' {x y D N : Rat} (hN : 0 < N) (h : N * x = D * y) : x = D / N * y := by
  have e := div_mul' (D := D) hN
  have : N * (x - D / N * y) = 0 := by grind
  rcases Rat.mul_eq_zero.1 this with m | m <;> grind
theorem rr_two (u : Q2) : rr u = 0 ∨ rr u = 1 := by unfold rr; grind
theorem per_mod {P : Nat → Q2} {n : Nat} (h : Ring P n) (j : Nat) : P j = P (j % n) := by
  have : ∀ k m, P (m + n * k) = P m := fun k => by
    induction k with
    | zero => intro m; rfl
    | succ k ih => intro m; rw [Nat.mul_succ, ← Nat.add_assoc, h.per, ih]
  have e := Nat.mod_add_div j n
  rw [← this (j / n) (j % n), e]
theorem per_mod' {P : Nat → Q2} {n : Nat} (h : Ring P n) (j : Nat) : P (j + 1) = P (j % n + 1) := by
  rw [per_mod h (j + 1), per_mod h (j % n + 1), Nat.add_mod j 1 n, Nat.add_mod (j % n) 1 n, Nat.mod_mod]
theorem side_next {P : Nat → Q2} {n : Nat} (h : Ring P n) {i : Nat} {s t : Rat} (s0 : 0 ≤ s) (s1 : s ≤ 1) (t0 : 0 ≤ t) (t1 : t ≤ 1) (he : pt (P i) (P (i + 1)) s = pt (P (i + 1)) (P (i + 2)) t) : s = 1 ∧ t = 0 := by
  rcases (by grind : t = 0 ∨ 0 < t) with k | k
  · refine ⟨?_, k⟩
    rw [k, pt_zero] at he
    have hn := h.ne i
    have x1 := congrArg Prod.fst he
    have x2 := congrArg Prod.snd he
    unfold pt at x1 x2
    unfold sb at hn
    have y1 : (1 - s) * ((P (i + 1)).1 - (P i).1) = 0 := by grind
    have y2 : (1 - s) * ((P (i + 1)).2 - (P i).2) = 0 := by grind
    rcases Rat.mul_eq_zero.1 y1 with m | m
    · grind
    · rcases Rat.mul_eq_zero.1 y2 with m2 | m2 <;> grind
  · exfalso
    have hS := sep_adj (s := t) (t := t) (h.ne i) (h.opp i) k k
    have := sep_no (s := s) (t := 0) hS s0 s1 (by grind) (by grind)
    rw [pt_zero] at this
    exact this he
theorem side_prev {P : Nat → Q2} {n : Nat} (h : Ring P n) {i : Nat} {s t : Rat} (s0 : 0 ≤ s) (s1 : s ≤ 1) (t0 : 0 ≤ t) (t1 : t ≤ 1) (he : pt (P i) (P (i + 1)) s = pt (P (i + (n - 1))) (P (i + (n - 1) + 1)) t) : s = 0 ∧ t = 1 := by
  have hn := h.n3
  have e1 : P (i + (n - 1) + 1) = P i := by rw [show i + (n - 1) + 1 = i + n by omega]; exact h.per i
  have e2 : P (i + (n - 1) + 2) = P (i + 1) := by rw [show i + (n - 1) + 2 = i + 1 + n by omega]; exact h.per _
  have := side_next h (i := i + (n - 1)) (s := t) (t := s) t0 t1 s0 s1 (by rw [e1, e2]; rw [e1] at he; exact he.symm)
  exact ⟨this.2, this.1⟩
/-- which sides have a place of side i -/
theorem side_meets {P : Nat → Q2} {n : Nat} (h : Ring P n) {i k : Nat} {s t : Rat} (k1 : 1 ≤ k) (kn : k < n) (s0 : 0 ≤ s) (s1 : s ≤ 1) (t0 : 0 ≤ t) (t1 : t ≤ 1) (he : pt (P i) (P (i + 1)) s = pt (P (i + k)) (P (i + k + 1)) t) :
    (k = 1 ∧ s = 1) ∨ (k = n - 1 ∧ s = 0) := by
  rcases Nat.lt_or_ge k 2 with a | a
  · obtain rfl : k = 1 := by omega
    exact .inl ⟨rfl, (side_next h s0 s1 t0 t1 he).1⟩
  · rcases Nat.lt_or_ge (n - 2) k with b | b
    · obtain rfl : k = n - 1 := by omega
      exact .inr ⟨rfl, (side_prev h s0 s1 t0 t1 he).1⟩
    · exact absurd he.symm (sep_no (h.sep i k a (by omega)) t0 t1 s0 s1)
theorem jordan {P : Nat → Q2} {n : Nat} (h : Ring P n) {q : Q2} (hq : Off P q) : wn P n q = gg P n 0 ∨ wn P n q = gg P n 0 - 1 := by
  have hn := h.n3
  have ne2 : ∀ a b : Q2, a ≠ b → (sb a b).1 ≠ 0 ∨ (sb a b).2 ≠ 0 := fun a b k => by
    rcases (by grind : (sb a b).1 = 0 ∨ (sb a b).1 ≠ 0) with m | m
    · rcases (by grind : (sb a b).2 = 0 ∨ (sb a b).2 ≠ 0) with m2 | m2
      · exfalso
        unfold sb at m m2
        exact k (Prod.ext (by grind) (by grind))
      · exact .inr m2
    · exact .inl m
  have hq0 : P 0 ≠ q := fun k => hq 0 0 (by grind) (by grind) (by rw [pt_zero]; exact k.symm)
  obtain ⟨i, τ, s, z, t0, t1, s0, s1, hz, hz2, hmin⟩ : ∃ i τ s z, 0 < τ ∧ τ ≤ 1 ∧ 0 < s ∧ s ≤ 1 ∧ z = pt q (P 0) τ ∧ z = pt (P i) (P (i + 1)) s ∧ ∀ j, ∀ τ' s', 0 ≤ τ' → τ' ≤ 1 → 0 ≤ s' → s' ≤ 1 → pt q (P 0) τ' = pt (P j) (P (j + 1)) s' → τ ≤ τ' := by
    rcases first_hit h.ne (ne2 _ _ hq0) hq n with no | ⟨i, τ, s, hi, t0, t1, s0, s1, he, hm⟩
    · exfalso
      refine no 0 (by omega) 1 0 (by grind) (by grind) (by grind) (by grind) ?_
      rw [pt_one, pt_zero]
    · have hm' : ∀ j, ∀ τ' s', 0 ≤ τ' → τ' ≤ 1 → 0 ≤ s' → s' ≤ 1 → pt q (P 0) τ' = pt (P j) (P (j + 1)) s' → τ ≤ τ' := fun j τ' s' a b c d k => by
        rw [per_mod h j, per_mod' h j] at k
        exact hm (j % n) (Nat.mod_lt _ (by omega)) τ' s' a b c d k
      rcases (by grind : s = 0 ∨ 0 < s) with k | k
      · refine ⟨i + (n - 1), τ, 1, _, t0, t1, by grind, by grind, rfl, ?_, hm'⟩
        rw [he, k, pt_zero, pt_one, show i + (n - 1) + 1 = i + n by omega, h.per]
      · exact ⟨i, τ, s, _, t0, t1, k, s1, rfl, he, hm'⟩
  have hzq : z ≠ q := fun k => hq i s (by grind) s1 (by rw [← hz2, k])
  have see : ∀ j, (∀ t, 0 ≤ t → t ≤ 1 → z ≠ pt (P j) (P (j + 1)) t) → Sep (P j) (P (j + 1)) q z := by
    intro j hj
    rcases sep_or_meet (a := P j) (b := P (j + 1)) (c := q) (d := z) (h.ne j) (ne2 _ _ hzq) with k | ⟨a, b, a0, a1, b0, b1, e⟩
    · exact k
    · exfalso
      have e2 : pt q z b = pt q (P 0) (b * τ) := by
        rw [hz]
        unfold pt
        refine Prod.ext ?_ ?_ <;> show _ = _ <;> grind
      have p0 : 0 ≤ b * τ := Rat.mul_nonneg b0 (by grind)
      have p1 : 0 ≤ (1 - b) * τ := Rat.mul_nonneg (by grind) (by grind)
      have m := hmin j (b * τ) a p0 (by grind) a0 a1 (by rw [← e2, e])
      have b2 : b = 1 := by
        rcases (by grind : b = 1 ∨ b < 1) with k | k
        · exact k
        · have := Rat.mul_pos (a := 1 - b) (b := τ) (by grind) t0
          grind
      rw [b2, pt_one] at e
      exact hj a a0 a1 e.symm
  have hg := gg_all h i
  rcases (by grind : s < 1 ∨ s = 1) with k | k
  · have hs := side_wn h (i := i) (s := s) (q := q) s0 k (fun k' hk' => by
      rw [← hz2]
      refine see _ fun t x0 x1 e => ?_
      rw [hz2, show i + 1 + k' = i + (1 + k') by omega] at e
      rcases side_meets h (by omega) (by omega) (by grind) s1 x0 x1 e with ⟨-, m⟩ | ⟨-, m⟩ <;> grind)
    rw [← hz2] at hs
    have hd : sb z q = ng (sb q z) := by unfold sb ng; refine Prod.ext ?_ ?_ <;> show _ = _ <;> grind
    have he := ne2 _ _ (fun k => hzq k.symm : q ≠ z)
    rw [hd] at hs
    have r2 := rr_two (dd P i)
    by_cases c0 : cr (dd P i) (sb q z) = 0
    · rw [chi_zero (u := ng (dd P i)) (v := ng (sb q z)) (by unfold cr ng at *; grind), chi_zero (u := ng (sb q z)) (v := dd P i) (by unfold cr ng at *; grind)] at hs
      omega
    · have r := rr_chi (u := dd P i) (v := sb q z) (h.ne i) he (fun o => c0 o.1)
      have v := sec_range (u := dd P i) (d := dd P i) he
      rw [chi_self] at v
      omega
  · rw [k, pt_one] at hz2
    have hs := sees_wn h (i := i) (q := q) (fun k' hk' => by
      rw [← hz2]
      refine see _ fun t x0 x1 e => ?_
      have e3 : pt (P i) (P (i + 1)) 1 = pt (P (i + (2 + k'))) (P (i + (2 + k') + 1)) t := by
        rw [pt_one, ← hz2, e, show i + 2 + k' = i + (2 + k') by omega]
      rcases side_meets h (by omega) (by omega) (by grind) (by grind) x0 x1 e3 with ⟨m, -⟩ | ⟨-, m⟩
      · omega
      · grind)
    rw [← hz2] at hs
    have hd : sb z q = ng (sb q z) := by unfold sb ng; refine Prod.ext ?_ ?_ <;> show _ = _ <;> grind
    have he := ne2 _ _ (fun k => hzq k.symm : q ≠ z)
    have hgi : gg P n i = th P n (i + 1) z + chi (dd P i) (dd P (i + 1)) + rr (dd P i) := by rw [hz2]; rfl
    have r2 := rr_two (dd P i)
    by_cases c0 : Opp (dd P i) (sb q z)
    · obtain ⟨k1, k2⟩ := c0
      have pu := sq_pos' (dd P i) (h.ne i)
      have a1 : chi (ng (dd P i)) (sb z q) = 0 := chi_zero (by rw [hd]; unfold cr ng at *; grind)
      obtain ⟨N, hN⟩ : ∃ x, x = (dd P i).1 * (dd P i).1 + (dd P i).2 * (dd P i).2 := ⟨_, rfl⟩
      obtain ⟨D, hD⟩ : ∃ x, x = dt (dd P i) (sb z q) := ⟨_, rfl⟩
      have i1 : N * (sb z q).1 = D * (dd P i).1 := by rw [hN, hD, hd]; unfold cr dt ng at *; grind
      have i2 : N * (sb z q).2 = D * (dd P i).2 := by rw [hN, hD, hd]; unfold cr dt ng at *; grind
      rw [← hN] at pu
      have hD0 : 0 ≤ D := by rw [hD, hd]; unfold dt ng at *; grind
      have hD1 : 0 < D := by
        rcases (by grind : D = 0 ∨ 0 < D) with m | m
        · exfalso
          rw [m] at i1 i2
          have hz' := ne2 _ _ hzq
          rcases Rat.mul_eq_zero.1 (show N * (sb z q).1 = 0 by grind) with m1 | m1
          · grind
          · rcases Rat.mul_eq_zero.1 (show N * (sb z q).2 = 0 by grind) with m2 | m2 <;> grind
        · exact m
      have a2 : chi (sb z q) (dd P (i + 1)) = chi (dd P i) (dd P (i + 1)) := by
        exact chi_scale' (α := D / N) (div_pos' hD1 pu) (div_eq' pu i1) (div_eq' pu i2)
      omega
    · have r := rr_chi (u := dd P i) (v := sb q z) (h.ne i) he c0
      have v := sec_range (u := dd P i) (d := dd P (i + 1)) he
      rw [← hd] at r v
      omega
/-! ### the ring turned by half a turn -/
def mr (P : Nat → Q2) (j : Nat) : Q2 := ng (P j)
theorem sb_ng (a b : Q2) : sb (ng a) (ng b) = ng (sb a b) := by unfold sb ng; refine Prod.ext ?_ ?_ <;> show _ = _ <;> grind
theorem cr_ng (a b : Q2) : cr (ng a) (ng b) = cr a b := by unfold cr ng; grind
theorem cr_ng1 (a b : Q2) : cr (ng a) b = -cr a b := by unfold cr ng; grind
theorem cr_ng2 (a b : Q2) : cr a (ng b) = -cr a b := by unfold cr ng; grind
theorem dt_ng (a b : Q2) : dt (ng a) (ng b) = dt a b := by unfold dt ng; grind
theorem ng_ng (a : Q2) : ng (ng a) = a := by unfold ng; refine Prod.ext ?_ ?_ <;> show _ = _ <;> grind
theorem pt_ng (a b : Q2) (t : Rat) : pt (ng a) (ng b) t = ng (pt a b t) := by unfold pt ng; refine Prod.ext ?_ ?_ <;> show _ = _ <;> grind
theorem Sep.mr {a b c d : Q2} (h : Sep a b c d) : Sep (ng a) (ng b) (ng c) (ng d) := by
  obtain ⟨e, ⟨h1, h2⟩, h3, h4⟩ := h
  refine ⟨ng e, ⟨?_, ?_⟩, ?_, ?_⟩ <;> rw [sb_ng, cr_ng] <;> assumption
theorem dd_mr (P : Nat → Q2) (i : Nat) : dd (mr P) i = ng (dd P i) := sb_ng _ _
theorem Ring.mr {P : Nat → Q2} {n : Nat} (h : Ring P n) : Ring (mr P) n where
  n3 := h.n3
  per i := congrArg ng (h.per i)
  sep i k a b := (h.sep i k a b).mr
  ne i := by
    have := h.ne i
    show (sb (ng _) (ng _)).1 ≠ 0 ∨ (sb (ng _) (ng _)).2 ≠ 0
    rw [sb_ng]
    unfold ng
    grind
  opp i := by
    have := h.opp i
    show ¬ Opp (sb (ng _) (ng _)) (sb (ng _) (ng _))
    rw [sb_ng, sb_ng]
    unfold Opp at *
    rw [cr_ng, dt_ng]
    exact this
/-- what the winding numbers differ by is the same for the ring turned by half a turn -/
theorem val_mr {u d e : Q2} (hu : u.1 ≠ 0 ∨ u.2 ≠ 0) (hd : d.1 ≠ 0 ∨ d.2 ≠ 0) (he : e.1 ≠ 0 ∨ e.2 ≠ 0) (o1 : ¬ Opp u d) (o2 : ¬ Opp u e) (o3 : ¬ Opp (ng e) d) :
    (chi (ng u) (ng e) + chi (ng e) d - chi u d - rr u = 0 ∨ chi (ng u) (ng e) + chi (ng e) d - chi u d - rr u = -1) ∧
    chi u e + chi e (ng d) - chi (ng u) (ng d) - rr (ng u) = chi (ng u) (ng e) + chi (ng e) d - chi u d - rr u := by
  have r1 := rr_chi hu hd o1
  have r2 := rr_chi hu he o2
  have hne : (ng e).1 ≠ 0 ∨ (ng e).2 ≠ 0 := by unfold ng; grind
  have r3 := rr_chi hne hd o3
  rw [ng_ng] at r3
  have r4 := rr_ng hu
  have r5 := rr_ng he
  have v := sec_range (u := u) (d := d) he
  omega
theorem jordan2 {P : Nat → Q2} {n : Nat} (h : Ring P n) {q : Q2} (hq : Off P q) : ∃ V : Int, (V = 0 ∨ V = -1) ∧ wn P n q = gg P n 0 + V ∧ wn (mr P) n (ng q) = gg (mr P) n 0 + V := by
  have hn := h.n3
  have ne2 : ∀ a b : Q2, a ≠ b → (sb a b).1 ≠ 0 ∨ (sb a b).2 ≠ 0 := fun a b k => by
    rcases (by grind : (sb a b).1 = 0 ∨ (sb a b).1 ≠ 0) with m | m
    · rcases (by grind : (sb a b).2 = 0 ∨ (sb a b).2 ≠ 0) with m2 | m2
      · exfalso
        unfold sb at m m2
        exact k (Prod.ext (by grind) (by grind))
      · exact .inr m2
    · exact .inl m
  have hq0 : P 0 ≠ q := fun k => hq 0 0 (by grind) (by grind) (by rw [pt_zero]; exact k.symm)
  obtain ⟨i, τ, s, z, t0, t1, s0, s1, hz, hz2, hmin⟩ : ∃ i τ s z, 0 < τ ∧ τ ≤ 1 ∧ 0 < s ∧ s ≤ 1 ∧ z = pt q (P 0) τ ∧ z = pt (P i) (P (i + 1)) s ∧ ∀ j, ∀ τ' s', 0 ≤ τ' → τ' ≤ 1 → 0 ≤ s' → s' ≤ 1 → pt q (P 0) τ' = pt (P j) (P (j + 1)) s' → τ ≤ τ' := by
    rcases first_hit h.ne (ne2 _ _ hq0) hq n with no | ⟨i, τ, s, hi, t0, t1, s0, s1, he, hm⟩
    · exfalso
      refine no 0 (by omega) 1 0 (by grind) (by grind) (by grind) (by grind) ?_
      rw [pt_one, pt_zero]
    · have hm' : ∀ j, ∀ τ' s', 0 ≤ τ' → τ' ≤ 1 → 0 ≤ s' → s' ≤ 1 → pt q (P 0) τ' = pt (P j) (P (j + 1)) s' → τ ≤ τ' := fun j τ' s' a b c d k => by
        rw [per_mod h j, per_mod' h j] at k
        exact hm (j % n) (Nat.mod_lt _ (by omega)) τ' s' a b c d k
      rcases (by grind : s = 0 ∨ 0 < s) with k | k
      · refine ⟨i + (n - 1), τ, 1, _, t0, t1, by grind, by grind, rfl, ?_, hm'⟩
        rw [he, k, pt_zero, pt_one, show i + (n - 1) + 1 = i + n by omega, h.per]
      · exact ⟨i, τ, s, _, t0, t1, k, s1, rfl, he, hm'⟩
  have hzq : z ≠ q := fun k => hq i s (by grind) s1 (by rw [← hz2, k])
  have see : ∀ j, (∀ t, 0 ≤ t → t ≤ 1 → z ≠ pt (P j) (P (j + 1)) t) → Sep (P j) (P (j + 1)) q z := by
    intro j hj
    rcases sep_or_meet (a := P j) (b := P (j + 1)) (c := q) (d := z) (h.ne j) (ne2 _ _ hzq) with k | ⟨a, b, a0, a1, b0, b1, e⟩
    · exact k
    · exfalso
      have e2 : pt q z b = pt q (P 0) (b * τ) := by
        rw [hz]
        unfold pt
        refine Prod.ext ?_ ?_ <;> show _ = _ <;> grind
      have p0 : 0 ≤ b * τ := Rat.mul_nonneg b0 (by grind)
      have p1 : 0 ≤ (1 - b) * τ := Rat.mul_nonneg (by grind) (by grind)
      have m := hmin j (b * τ) a p0 (by grind) a0 a1 (by rw [← e2, e])
      have b2 : b = 1 := by
        rcases (by grind : b = 1 ∨ b < 1) with k | k
        · exact k
        · have := Rat.mul_pos (a := 1 - b) (b := τ) (by grind) t0
          grind
      rw [b2, pt_one] at e
      exact hj a a0 a1 e.symm
  have hg := gg_all h i
  have hg2 := gg_all h.mr i
  have hd : sb z q = ng (sb q z) := by unfold sb ng; refine Prod.ext ?_ ?_ <;> show _ = _ <;> grind
  have he := ne2 _ _ (fun k => hzq k.symm : q ≠ z)
  -- no side that z is on leads to q, or away from it on the way
  have clear : ∀ j s', 0 ≤ s' → s' ≤ 1 → z = pt (P j) (P (j + 1)) s' → (0 < s' → ¬ Opp (dd P j) (sb q z)) ∧ (s' < 1 → ¬ Opp (ng (sb q z)) (dd P j)) := by
    intro j s' a0 a1 hj
    have pu := sq_pos' (dd P j) (h.ne j)
    obtain ⟨N, hN⟩ : ∃ x, x = (dd P j).1 * (dd P j).1 + (dd P j).2 * (dd P j).2 := ⟨_, rfl⟩
    rw [← hN] at pu
    -- q = z + μ d
    have lin : cr (dd P j) (sb q z) = 0 → ∃ μ, μ * N = dt (dd P j) (sb q z) ∧ q = pt (P j) (P (j + 1)) (s' + μ) := by
      intro c0
      refine ⟨dt (dd P j) (sb q z) / N, div_mul' pu, ?_⟩
      have i1 : (sb q z).1 = dt (dd P j) (sb q z) / N * (dd P j).1 := div_eq' pu (by rw [hN]; unfold cr dt at *; grind)
      have i2 : (sb q z).2 = dt (dd P j) (sb q z) / N * (dd P j).2 := div_eq' pu (by rw [hN]; unfold cr dt at *; grind)
      obtain ⟨μ, hμ⟩ : ∃ μ, μ = dt (dd P j) (sb q z) / N := ⟨_, rfl⟩
      rw [← hμ] at i1 i2 ⊢
      rw [hj] at i1 i2
      unfold sb dd sb pt at i1 i2
      unfold pt
      refine Prod.ext ?_ ?_ <;> show _ = _ <;> grind
    -- a place of side j between q and z is met earlier
    have early : ∀ μ x, q = pt (P j) (P (j + 1)) (s' + μ) → 0 ≤ x → x ≤ 1 → (s' < x ∧ x < s' + μ ∨ s' + μ < x ∧ x < s') → False := by
      intro μ x hqm x0 x1 hx
      obtain ⟨θ, hθ⟩ : ∃ θ, θ = (s' + μ - x) / μ := ⟨_, rfl⟩
      have hμ0 : μ ≠ 0 := by grind
      have e1 : θ * μ = s' + μ - x := by rw [hθ]; grind
      have e2 : (1 - θ) * μ = x - s' := by grind
      have b1 : 0 < 1 - θ := by
        have := sgnmul (1 - θ) μ
        have z1 : 1 - θ = 0 → (1 - θ) * μ = 0 := fun k => by rw [k]; grind
        grind
      have b0 : 0 ≤ θ := by
        have := sgnmul θ μ
        have z1 : θ = 0 → θ * μ = 0 := fun k => by rw [k]; grind
        grind
      have p1 := Rat.mul_pos b1 t0
      have p0 := Rat.mul_nonneg b0 (show 0 ≤ τ by grind)
      have := hmin j (θ * τ) x p0 (by grind) x0 x1 (by
        have h1 : pt q (P 0) (θ * τ) = pt q z θ := by
          rw [hz]
          unfold pt
          refine Prod.ext ?_ ?_ <;> show _ = _ <;> grind
        rw [h1, hj]
        have q1 := congrArg Prod.fst hqm
        have q2 := congrArg Prod.snd hqm
        unfold pt at q1 q2 ⊢
        refine Prod.ext ?_ ?_ <;> show _ = _
        · grind
        · grind)
      grind
    have noq : ∀ μ, q = pt (P j) (P (j + 1)) (s' + μ) → ¬ (0 ≤ s' + μ ∧ s' + μ ≤ 1) := fun μ k m => hq j _ m.1 m.2 k
    have hμz : ∀ μ, q = pt (P j) (P (j + 1)) (s' + μ) → μ ≠ 0 := fun μ k m => by
      rw [m, Rat.add_zero] at k
      exact hzq (by rw [hj, k])
    constructor
    · intro sp ho
      obtain ⟨c0, c1⟩ := ho
      obtain ⟨μ, m1, m2⟩ := lin c0
      have n1 := hμz μ m2
      have n2 := noq μ m2
      have hμ : μ < 0 := by
        have := sgnmul μ N
        grind
      rcases le_or (s' + μ) with k | k
      · exact early μ (s' / 2) m2 (by grind) (by grind) (.inr (by grind))
      · exact n2 (by grind)
    · intro sp ho
      obtain ⟨c0, c1⟩ := ho
      have c0' : cr (dd P j) (sb q z) = 0 := by unfold cr ng at *; grind
      have c1' : 0 ≤ dt (dd P j) (sb q z) := by unfold dt ng at *; grind
      obtain ⟨μ, m1, m2⟩ := lin c0'
      have n1 := hμz μ m2
      have n2 := noq μ m2
      have hμ : 0 < μ := by
        have := sgnmul μ N
        grind
      rcases le_or (s' + μ - 1) with k | k
      · exact n2 (by grind)
      · exact early μ ((s' + 1) / 2) m2 (by grind) (by grind) (.inl (by grind))
  have hmrq : sb (ng z) (ng q) = ng (sb z q) := sb_ng _ _
  rcases (by grind : s < 1 ∨ s = 1) with k | k
  · have see2 : ∀ k', k' + 1 < n → Sep (P (i + 1 + k')) (P (i + 1 + k' + 1)) q (pt (P i) (P (i + 1)) s) := fun k' hk' => by
      rw [← hz2]
      refine see _ fun t x0 x1 e => ?_
      rw [hz2, show i + 1 + k' = i + (1 + k') by omega] at e
      rcases side_meets h (by omega) (by omega) (by grind) s1 x0 x1 e with ⟨-, m⟩ | ⟨-, m⟩ <;> grind
    have hs := side_wn h (i := i) (s := s) (q := q) s0 k see2
    have hs2 := side_wn h.mr (i := i) (s := s) (q := ng q) s0 k (fun k' hk' => by
      have := (see2 k' hk').mr
      rw [← pt_ng] at this
      exact this)
    have hzm : pt (mr P i) (mr P (i + 1)) s = ng z := by rw [hz2]; exact pt_ng _ _ _
    rw [hzm, dd_mr, hmrq, ng_ng] at hs2
    rw [← hz2] at hs
    obtain ⟨o2, o3⟩ := clear i s (by grind) s1 hz2
    have v := val_mr (h.ne i) (h.ne i) he (fun o => by
      have := sq_pos' _ (h.ne i)
      unfold Opp dt at o
      grind) (o2 s0) (o3 k)
    have hdd : sb (P (i + 1)) (P i) = dd P i := rfl
    rw [hdd, chi_self, chi_self] at v
    rw [hd] at hs hs2
    rw [ng_ng] at hs2
    refine ⟨chi (ng (dd P i)) (ng (sb q z)) + chi (ng (sb q z)) (dd P i) - rr (dd P i), ?_, ?_, ?_⟩
    · have := v.1
      omega
    · omega
    · have := v.2
      omega
  · rw [k, pt_one] at hz2
    have see2 : Sees P n i q := fun k' hk' => by
      rw [← hz2]
      refine see _ fun t x0 x1 e => ?_
      have e3 : pt (P i) (P (i + 1)) 1 = pt (P (i + (2 + k'))) (P (i + (2 + k') + 1)) t := by
        rw [pt_one, ← hz2, e, show i + 2 + k' = i + (2 + k') by omega]
      rcases side_meets h (by omega) (by omega) (by grind) (by grind) x0 x1 e3 with ⟨m, -⟩ | ⟨-, m⟩
      · omega
      · grind
    have hs := sees_wn h see2
    have hs2 := sees_wn h.mr (i := i) (q := ng q) (fun k' hk' => (see2 k' hk').mr)
    have hzm : mr P (i + 1) = ng z := by rw [hz2]; rfl
    rw [hzm, dd_mr, dd_mr, hmrq, ng_ng] at hs2
    rw [← hz2] at hs
    have o2 := (clear i 1 (by grind) (by grind) (by rw [pt_one, hz2])).1 (by grind)
    have o3 := (clear (i + 1) 0 (by grind) (by grind) (by rw [pt_zero, hz2])).2 (by grind)
    have v := val_mr (h.ne i) (h.ne (i + 1)) he (h.opp i) o2 o3
    have hgi : gg P n i = th P n (i + 1) z + chi (dd P i) (dd P (i + 1)) + rr (dd P i) := by rw [hz2]; rfl
    have hgm : gg (mr P) n i = th (mr P) n (i + 1) (ng z) + chi (ng (dd P i)) (ng (dd P (i + 1))) + rr (ng (dd P i)) := by rw [← hzm, ← dd_mr, ← dd_mr]; rfl
    have hdd : sb (P (i + 1)) (P i) = dd P i := rfl
    have hdd2 : sb (P (i + 1 + 1)) (P (i + 1)) = dd P (i + 1) := rfl
    rw [hdd, hdd2] at v
    rw [hd] at hs hs2
    rw [ng_ng] at hs2
    refine ⟨chi (ng (dd P i)) (ng (sb q z)) + chi (ng (sb q z)) (dd P (i + 1)) - chi (dd P i) (dd P (i + 1)) - rr (dd P i), ?_, ?_, ?_⟩
    · have := v.1
      omega
    · omega
    · have := v.2
      omega
/-! ### turning -/
theorem th_mod {P : Nat → Q2} {n : Nat} (h : Ring P n) (i : Nat) (q : Q2) : th P n (i + n) q = th P n i q := by
  unfold th
  refine sm_congr _ fun j _ => ?_
  rw [show i + n + 1 + j = i + 1 + j + n by omega, sx_per h]
/-- the sides behind side i, up to the last one, about point i -/
def rs (P : Nat → Q2) (n i : Nat) : Int := sm (fun k => sx P (i + 1 + k) (P i)) (n - 1 - i)
theorem rs_step {P : Nat → Q2} {n : Nat} (h : Ring P n) {i : Nat} (hi : 1 ≤ i) (hn : i + 2 ≤ n) :
    rs P n i - rs P n (i + 1) = chi (dd P i) (dd P (i + 1)) - chi (sb (P n) (P i)) (sb (P n) (P (i + 1))) := by
  obtain ⟨m, hm⟩ : ∃ m, n - 1 - i = m + 1 := ⟨n - 2 - i, by omega⟩
  have hmv := move_sum (P := P) (a := i + 2) (m := m) (p := P i) (q := P (i + 1)) (fun k hk => by
    have hs := h.sep i (2 + k) (by omega) (by omega)
    rw [← Nat.add_assoc] at hs
    exact hs)
  have a1 : rs P n i = sx P (i + 1) (P i) + sm (fun k => sx P (i + 2 + k) (P i)) m := by
    unfold rs
    rw [hm, sm_head]
    refine congrArg (_ + ·) (sm_congr m fun j _ => ?_)
    rw [show i + 1 + (j + 1) = i + 2 + j by omega]
  have a2 : rs P n (i + 1) = sm (fun k => sx P (i + 2 + k) (P (i + 1))) m := by
    unfold rs
    rw [show n - 1 - (i + 1) = m by omega]
  have b1 := chi_sum (dd P i) (dd P (i + 1))
  have e1 : ad (dd P i) (dd P (i + 1)) = sb (P (i + 2)) (P i) := by
    unfold ad dd sb
    refine Prod.ext ?_ ?_ <;> show _ = _ <;> grind
  rw [e1] at b1
  have c1 : sx P (i + 1) (P i) = chi (dd P i) (sb (P (i + 2)) (P i)) := rfl
  have c2 : sb (P (i + 2)) (P (i + 1)) = dd P (i + 1) := rfl
  rw [c2, show i + 2 + m = n by omega] at hmv
  rw [a1, a2, c1]
  omega
theorem rs_sum {P : Nat → Q2} {n : Nat} (h : Ring P n) : ∀ k, k + 2 ≤ n →
    rs P n 1 - rs P n (1 + k) = sm (fun i => chi (dd P (1 + i)) (dd P (1 + i + 1))) k - sm (fun i => chi (sb (P n) (P (1 + i))) (sb (P n) (P (1 + i + 1)))) k
  | 0, _ => by simp [sm]
  | k + 1, hk => by
    have ih := rs_sum h k (by omega)
    have st := rs_step h (i := 1 + k) (by omega) (by omega)
    rw [sm, sm, ← Nat.add_assoc]
    omega
theorem turning {P : Nat → Q2} {n : Nat} (h : Ring P n) : sm (fun i => chi (dd P i) (dd P (i + 1))) n = gg P n 0 + gg (mr P) n 0 - 1 := by
  obtain ⟨m, rfl⟩ : ∃ m, n = m + 3 := ⟨n - 3, by have := h.n3; omega⟩
  have hs := rs_sum h (m + 1) (by omega)
  have z : rs P (m + 3) (1 + (m + 1)) = 0 := by
    unfold rs
    rw [show m + 3 - 1 - (1 + (m + 1)) = 0 by omega]
    rfl
  have t1 : rs P (m + 3) 1 = th P (m + 3) 1 (P 1) := by
    unfold rs th
    rw [show m + 3 - 1 - 1 = m + 3 - 2 by omega]
  have hP : P (m + 3) = P 0 := by have := h.per 0; rw [Nat.zero_add] at this; exact this
  have t2 : sm (fun i => chi (sb (P (m + 3)) (P (1 + i))) (sb (P (m + 3)) (P (1 + i + 1)))) (m + 1) = th (mr P) (m + 3) (m + 2 + 1) (mr P (m + 2 + 1)) := by
    have e0 : th (mr P) (m + 3) (m + 2 + 1) (mr P (m + 2 + 1)) = th (mr P) (m + 3) 0 (mr P (m + 3)) := by
      have := th_mod h.mr 0 (mr P (m + 3))
      rw [Nat.zero_add] at this
      exact this
    rw [e0]
    unfold th
    refine sm_congr _ fun j _ => ?_
    have e : ∀ a b : Q2, sb a b = sb (ng b) (ng a) := fun a b => by unfold sb ng; refine Prod.ext ?_ ?_ <;> show _ = _ <;> grind
    rw [e, e (P (m + 3)) (P (1 + j + 1)), show 0 + 1 + j = 1 + j by omega]
    rfl
  have g1 : gg P (m + 3) 0 = th P (m + 3) 1 (P 1) + chi (dd P 0) (dd P 1) + rr (dd P 0) := rfl
  have g2 := gg_all h.mr (m + 2)
  have g3 : gg (mr P) (m + 3) (m + 2) = th (mr P) (m + 3) (m + 2 + 1) (mr P (m + 2 + 1)) + chi (dd (mr P) (m + 2)) (dd (mr P) (m + 2 + 1)) + rr (dd (mr P) (m + 2)) := rfl
  rw [dd_mr, dd_mr] at g3
  have hd3 : dd P (m + 2 + 1) = dd P 0 := by have := dd_per h 0; rw [Nat.zero_add] at this; exact this
  rw [hd3] at g3
  have ho := h.opp (m + 2)
  have hne := h.ne (m + 2)
  have f1 : sb (P (m + 2 + 1)) (P (m + 2)) = dd P (m + 2) := rfl
  have f2 : sb (P (m + 2 + 2)) (P (m + 2 + 1)) = dd P (m + 2 + 1) := rfl
  rw [f1, f2, hd3] at ho
  rw [f1] at hne
  have r1 := rr_chi hne (h.ne 0) ho
  have r2 := rr_ng hne
  have f3 : sb (P (0 + 1)) (P 0) = dd P 0 := rfl
  rw [f3] at r1
  have hsum : sm (fun i => chi (dd P i) (dd P (i + 1))) (m + 3) = chi (dd P 0) (dd P 1) + sm (fun i => chi (dd P (1 + i)) (dd P (1 + i + 1))) (m + 1) + chi (dd P (m + 2)) (dd P 0) := by
    have h1 := sm_head (fun i => chi (dd P i) (dd P (i + 1))) (m + 2)
    have h2 : sm (fun j => chi (dd P (j + 1)) (dd P (j + 1 + 1))) (m + 2) = sm (fun j => chi (dd P (j + 1)) (dd P (j + 1 + 1))) (m + 1) + chi (dd P (m + 1 + 1)) (dd P (m + 1 + 1 + 1)) := rfl
    have h3 : sm (fun j => chi (dd P (j + 1)) (dd P (j + 1 + 1))) (m + 1) = sm (fun i => chi (dd P (1 + i)) (dd P (1 + i + 1))) (m + 1) := sm_congr _ fun j _ => by rw [show 1 + j = j + 1 by omega]
    rw [h1, h2, h3, show m + 1 + 1 + 1 = m + 2 + 1 by omega, hd3]
    change chi (dd P 0) (dd P 1) + (_ + chi (dd P (m + 2)) (dd P 0)) = _
    omega
  rw [hsum]
  rw [z, t1, t2] at hs
  omega
/-! ### winding numbers on the ring -/
theorem wn_vertex {P : Nat → Q2} {n : Nat} (h : Ring P n) (i : Nat) : wn P n (P (i + 1)) = gg P n 0 - chi (dd P i) (dd P (i + 1)) - rr (dd P i) := by
  obtain ⟨m, rfl⟩ : ∃ m, n = m + 3 := ⟨n - 3, by have := h.n3; omega⟩
  have a1 : wn P (m + 3) (P (i + 1)) = sx P i (P (i + 1)) + sx P (i + 1) (P (i + 1)) + sm (fun k => sx P (i + 2 + k) (P (i + 1))) (m + 1) := by
    unfold wn
    rw [← sm_shift (fun j => sx P j (P (i + 1))) (m + 3) (sx_per h _) i]
    have h1 := sm_head (fun j => sx P (i + j) (P (i + 1))) (m + 2)
    have h2 := sm_head (fun j => sx P (i + (j + 1)) (P (i + 1))) (m + 1)
    have h3 : sm (fun j => sx P (i + (j + 1 + 1)) (P (i + 1))) (m + 1) = sm (fun k => sx P (i + 2 + k) (P (i + 1))) (m + 1) := sm_congr _ fun j _ => by rw [show i + (j + 1 + 1) = i + 2 + j by omega]
    rw [h1, h2, h3, Nat.zero_add, Nat.add_zero]
    omega
  have z1 : sx P i (P (i + 1)) = 0 := chi_zero (by unfold cr sb; grind)
  have z2 : sx P (i + 1) (P (i + 1)) = 0 := chi_zero (by unfold cr sb; grind)
  have t : th P (m + 3) (i + 1) (P (i + 1)) = sm (fun k => sx P (i + 2 + k) (P (i + 1))) (m + 1) := rfl
  have g := gg_all h i
  unfold gg at g
  have g' : gg P (m + 3) 0 = th P (m + 3) 1 (P 1) + chi (dd P 0) (dd P 1) + rr (dd P 0) := rfl
  have g2 : th P (m + 3) (0 + 1) (P (0 + 1)) + chi (dd P 0) (dd P (0 + 1)) + rr (dd P 0) = gg P (m + 3) 0 := rfl
  rw [g2] at g
  rw [a1, z1, z2]
  omega
theorem wn_side {P : Nat → Q2} {n : Nat} (h : Ring P n) (i : Nat) {s : Rat} (s0 : 0 < s) (s1 : s < 1) : wn P n (pt (P i) (P (i + 1)) s) = gg P n 0 - rr (dd P i) := by
  have hn := h.n3
  have hw : wn P n (pt (P i) (P (i + 1)) s) = sx P i (pt (P i) (P (i + 1)) s) + sm (fun k => sx P (i + 1 + k) (pt (P i) (P (i + 1)) s)) (n - 1) := by
    unfold wn
    rw [← sm_shift (fun j => sx P j (pt (P i) (P (i + 1)) s)) n (sx_per h _) i]
    have h1 := sm_head (fun j => sx P (i + j) (pt (P i) (P (i + 1)) s)) (n - 1)
    rw [show n - 1 + 1 = n by omega] at h1
    rw [h1, Nat.add_zero]
    refine congrArg (_ + ·) (sm_congr _ fun j _ => ?_)
    rw [show i + (j + 1) = i + 1 + j by omega]
  have z1 : sx P i (pt (P i) (P (i + 1)) s) = 0 := chi_zero (by unfold cr sb pt; grind)
  rw [hw, z1, side_th h s0 s1, gg_all h i]
  omega
end Go.Proofs.Ytohkmkkcblbemaa.Jr
