/- Plain mathematics: sums over the points of a box, and a side about them. -/
import Derived.Test.YtohkmkkcblbemaaJor1
namespace Go.Proofs.Ytohkmkkcblbemaa.Jr
set_option linter.unusedVariables false
set_option linter.unusedSimpArgs false

theorem sm_add (f g : Nat → Int) : ∀ k, sm (fun j => f j + g j) k = sm f k + sm g k
  | 0 => by simp [sm]
  | k + 1 => by rw [sm, sm, sm, sm_add f g k]; omega
theorem sm_neg (f : Nat → Int) : ∀ k, sm (fun j => -f j) k = -sm f k
  | 0 => by simp [sm]
  | k + 1 => by rw [sm, sm, sm_neg f k]; omega
theorem sm_const (c : Int) : ∀ k, sm (fun _ => c) k = c * k
  | 0 => by simp [sm]
  | k + 1 => by rw [sm, sm_const c k, Int.natCast_add, Int.mul_add]; omega
theorem sm_swap (f : Nat → Nat → Int) (n : Nat) : ∀ k, sm (fun i => sm (fun j => f i j) n) k = sm (fun j => sm (fun i => f i j) k) n
  | 0 => by
    have : sm (fun j => sm (fun i => f i j) 0) n = sm (fun _ => 0) n := rfl
    rw [this, sm_const]
    simp [sm]
  | k + 1 => by
    have e : sm (fun j => sm (fun i => f i j) (k + 1)) n = sm (fun j => sm (fun i => f i j) k + f k j) n := rfl
    rw [e, sm_add, sm, sm_swap f n k]
theorem sm_zero {f : Nat → Int} {k : Nat} (h : ∀ j, j < k → f j = 0) : sm f k = 0 := by
  rw [sm_congr k h, sm_const]
  simp
theorem sm_mul (c : Int) (f : Nat → Int) : ∀ k, sm (fun j => c * f j) k = c * sm f k
  | 0 => by simp [sm]
  | k + 1 => by rw [sm, sm, sm_mul c f k, Int.mul_add]
theorem sm_le {f g : Nat → Int} : ∀ k, (∀ j, j < k → f j ≤ g j) → sm f k ≤ sm g k
  | 0, _ => Int.le_refl _
  | k + 1, h => by
    have := sm_le k (fun j hj => h j (by omega))
    have := h k (by omega)
    rw [sm, sm]
    omega
theorem sm_split (f : Nat → Int) (a : Nat) : ∀ b, sm f (a + b) = sm f a + sm (fun j => f (a + j)) b
  | 0 => by simp [sm]
  | b + 1 => by rw [← Nat.add_assoc, sm, sm_split f a b, sm]; omega
/-- a sum that is 0 outside a part -/
theorem sm_part {f : Nat → Int} {a b k : Nat} (hk : a + b ≤ k) (h : ∀ j, j < k → j < a ∨ a + b ≤ j → f j = 0) : sm f k = sm (fun j => f (a + j)) b := by
  obtain ⟨c, rfl⟩ : ∃ c, k = a + (b + c) := ⟨k - a - b, by omega⟩
  rw [sm_split f a, sm_split (fun j => f (a + j)) b]
  rw [sm_zero (fun j hj => h j (by omega) (.inl hj)), sm_zero (f := fun j => f (a + (b + j))) (fun j hj => h _ (by omega) (.inr (by omega)))]
  omega
theorem sm_rev (f : Nat → Int) : ∀ k, sm (fun j => f (k - 1 - j)) k = sm f k
  | 0 => rfl
  | k + 1 => by
    have h1 := sm_head (fun j => f (k + 1 - 1 - j)) k
    have h2 : sm (fun j => f (k + 1 - 1 - (j + 1))) k = sm (fun j => f (k - 1 - j)) k := sm_congr k fun j hj => by rw [show k + 1 - 1 - (j + 1) = k - 1 - j by omega]
    rw [h1, h2, sm_rev f k, sm]
    simp only [Nat.add_sub_cancel, Nat.sub_zero]
    omega
/-- how many numbers of a row are less than one -/
theorem sm_less (x0 L : Int) : ∀ w : Nat, x0 ≤ L → L ≤ x0 + w → sm (fun t => if x0 + (t : Int) < L then 1 else 0) w = L - x0
  | 0, a, b => by simp [sm]; omega
  | w + 1, a, b => by
    rcases (by omega : L ≤ x0 + w ∨ L = x0 + w + 1) with k | k
    · rw [sm, sm_less x0 L w a k, if_neg (by omega)]
      omega
    · rw [sm, sm_congr (g := fun _ => 1) w (fun j hj => if_pos (by omega)), sm_const, if_pos (by omega)]
      omega
theorem sm_more (x0 F : Int) (w : Nat) (a : x0 ≤ F + 1) (b : F + 1 ≤ x0 + w) : sm (fun t => if F < x0 + (t : Int) then 1 else 0) w = x0 + w - 1 - F := by
  have h := sm_less x0 (F + 1) w a b
  have h2 : sm (fun t => (if x0 + (t : Int) < F + 1 then 1 else 0) + (if F < x0 + (t : Int) then (1 : Int) else 0)) w = sm (fun _ => 1) w := sm_congr w fun j _ => by
    split <;> split <;> omega
  rw [sm_add, sm_const] at h2
  omega

/-! ### a side about the points of a box -/
def chiI (ux uy vx vy : Int) : Int :=
  if uy ≤ 0 ∧ 0 < vy ∧ 0 < ux * vy - uy * vx then 1 else if vy ≤ 0 ∧ 0 < uy ∧ ux * vy - uy * vx < 0 then -1 else 0
theorem chiI_swap (ux uy vx vy : Int) : chiI vx vy ux uy = -chiI ux uy vx vy := by
  have e : vx * uy - vy * ux = -(ux * vy - uy * vx) := by grind
  unfold chiI
  rw [e]
  generalize ux * vy - uy * vx = c
  split <;> split <;> (try split) <;> (try split) <;> omega
/-- a side about a point, from the right and from the left -/
def two (ax ay bx bz x y : Int) : Int := chiI (ax - x) (ay - y) (bx - x) (bz - y) + chiI (x - ax) (y - ay) (x - bx) (y - bz)
theorem two_swap (ax ay bx bz x y : Int) : two bx bz ax ay x y = -two ax ay bx bz x y := by
  unfold two
  rw [chiI_swap (ax - x) (ay - y), chiI_swap (x - ax) (y - ay)]
  omega
def bs (X0 Y0 : Int) (W H : Nat) (f : Int → Int → Int) : Int := sm (fun s => sm (fun t => f (X0 + (t : Int)) (Y0 + (s : Int))) W) H
theorem ceil_lt {m c x : Int} (hm : 0 < m) : m * x < c ↔ x < -(-c / m) := by
  have h1 := Int.mul_ediv_add_emod (-c) m
  have h2 := Int.emod_nonneg (-c) (show m ≠ 0 by omega)
  have h3 := Int.emod_lt_of_pos (-c) hm
  obtain ⟨k, hk⟩ : ∃ k, k = -c / m := ⟨_, rfl⟩
  rw [← hk] at h1 ⊢
  constructor
  · intro h
    rcases Int.lt_or_le x (-k) with a | a
    · exact a
    · have := Int.mul_le_mul_of_nonneg_left a (Int.le_of_lt hm)
      have e : m * -k = -(m * k) := by grind
      omega
  · intro h
    have := Int.mul_le_mul_of_nonneg_left (show x ≤ -k - 1 by omega) (Int.le_of_lt hm)
    have e : m * (-k - 1) = -(m * k) - m := by grind
    omega
theorem floor_lt {m c x : Int} (hm : 0 < m) : c < m * x ↔ c / m < x := by
  rw [Int.ediv_lt_iff_lt_mul hm, Int.mul_comm]
theorem side_up {ax ay bx bz X0 Y0 : Int} {W H : Nat} (hup : ay < bz) (a1 : X0 ≤ ax) (a2 : ax < X0 + W) (b1 : X0 ≤ bx) (b2 : bx < X0 + W) (c1 : Y0 ≤ ay) (c2 : bz < Y0 + H) :
    bs X0 Y0 W H (two ax ay bx bz) = (bz - ay) * (ax + bx - (2 * X0 + W - 1)) := by
  obtain ⟨m, hm⟩ : ∃ m : Nat, bz - ay = (m : Int) := ⟨(bz - ay).toNat, by omega⟩
  obtain ⟨a, ha⟩ : ∃ a : Nat, ay - Y0 = (a : Int) := ⟨(ay - Y0).toNat, by omega⟩
  have hm0 : (0 : Int) < m := by omega
  obtain ⟨c, hc⟩ : ∃ c : Int → Int, c = fun y => ax * (bz - y) + bx * (y - ay) := ⟨_, rfl⟩
  have hcr : ∀ x y, (ax - x) * (bz - y) - (ay - y) * (bx - x) = c y - m * x := fun x y => by rw [hc, ← hm]; grind
  have hcr2 : ∀ x y, (x - ax) * (y - bz) - (y - ay) * (x - bx) = c y - m * x := fun x y => by rw [hc, ← hm]; grind
  have hcb : ∀ y, ay ≤ y → y ≤ bz → m * X0 ≤ c y ∧ c y ≤ m * (X0 + W - 1) := fun y y0 y1 => by
    have k1 := Int.mul_nonneg (show 0 ≤ ax - X0 by omega) (show 0 ≤ bz - y by omega)
    have k2 := Int.mul_nonneg (show 0 ≤ bx - X0 by omega) (show 0 ≤ y - ay by omega)
    have k3 := Int.mul_nonneg (show 0 ≤ X0 + W - 1 - ax by omega) (show 0 ≤ bz - y by omega)
    have k4 := Int.mul_nonneg (show 0 ≤ X0 + W - 1 - bx by omega) (show 0 ≤ y - ay by omega)
    rw [hc, ← hm]
    constructor <;> grind
  -- a row
  have row : ∀ y, sm (fun t => two ax ay bx bz (X0 + (t : Int)) y) W = (if ay ≤ y ∧ y < bz then -(-c y / m) - X0 else 0) - (if ay < y ∧ y ≤ bz then X0 + W - 1 - c y / m else 0) := by
    intro y
    have e1 : sm (fun t => chiI (ax - (X0 + (t : Int))) (ay - y) (bx - (X0 + (t : Int))) (bz - y)) W = if ay ≤ y ∧ y < bz then -(-c y / m) - X0 else 0 := by
      by_cases hy : ay ≤ y ∧ y < bz
      · rw [if_pos hy]
        have hb := hcb y hy.1 (by omega)
        have q1 : X0 ≤ -(-c y / m) := by
          have h := (not_congr (ceil_lt (x := -(-c y / m)) (c := c y) hm0)).2 (by omega)
          rcases Int.lt_or_le (-(-c y / m)) X0 with k | k
          · have := (ceil_lt (x := X0 - 1) (c := c y) hm0)
            have k2 := Int.mul_le_mul_of_nonneg_left (show -(-c y / m) ≤ X0 - 1 by omega) (Int.le_of_lt hm0)
            have e : (m : Int) * (X0 - 1) = m * X0 - m := by grind
            omega
          · exact k
        have q2 : -(-c y / m) ≤ X0 + W := by
          rcases Int.lt_or_le (X0 + W) (-(-c y / m)) with k | k
          · have := (ceil_lt (x := X0 + W - 1) (c := c y) hm0).2 (by omega)
            omega
          · exact k
        rw [← sm_less X0 _ W q1 q2]
        refine sm_congr W fun t _ => ?_
        unfold chiI
        rw [hcr]
        have := ceil_lt (x := X0 + (t : Int)) (c := c y) hm0
        by_cases hx : X0 + (t : Int) < -(-c y / m)
        · rw [if_pos hx, if_pos ⟨by omega, by omega, by have := this.2 hx; omega⟩]
        · rw [if_neg hx, if_neg (fun k => hx (this.1 (by omega))), if_neg (fun k => by omega)]
      · rw [if_neg hy]
        refine sm_zero fun t _ => ?_
        unfold chiI
        rw [if_neg (fun k => hy ⟨by omega, by omega⟩), if_neg (fun k => by omega)]
    have e2 : sm (fun t => chiI (X0 + (t : Int) - ax) (y - ay) (X0 + (t : Int) - bx) (y - bz)) W = -(if ay < y ∧ y ≤ bz then X0 + W - 1 - c y / m else 0) := by
      by_cases hy : ay < y ∧ y ≤ bz
      · rw [if_pos hy]
        have hb := hcb y (by omega) hy.2
        have q1 : X0 ≤ c y / m + 1 := by
          have := (Int.le_ediv_iff_mul_le (a := X0) (b := c y) hm0).2 (by rw [Int.mul_comm]; exact hb.1)
          omega
        have q2 : c y / m + 1 ≤ X0 + W := by
          have := (floor_lt (x := X0 + W) (c := c y) hm0).1 (by
            have e : (m : Int) * (X0 + W) = m * (X0 + W - 1) + m := by grind
            omega)
          omega
        rw [← sm_more X0 _ W q1 q2, ← sm_neg]
        refine sm_congr W fun t _ => ?_
        unfold chiI
        rw [hcr2]
        have := floor_lt (x := X0 + (t : Int)) (c := c y) hm0
        by_cases hx : c y / m < X0 + (t : Int)
        · rw [if_pos hx, if_neg (fun k => by omega), if_pos ⟨by omega, by omega, by have := this.2 hx; omega⟩]
        · rw [if_neg hx, if_neg (fun k => by omega), if_neg (fun k => hx (this.1 (by omega)))]
          rfl
      · rw [if_neg hy]
        refine (sm_zero fun t _ => ?_).trans (by omega)
        unfold chiI
        rw [if_neg (fun k => by omega), if_neg (fun k => hy ⟨by omega, by omega⟩)]
    show sm (fun t => chiI (ax - (X0 + (t : Int))) (ay - y) (bx - (X0 + (t : Int))) (bz - y) + chiI (X0 + (t : Int) - ax) (y - ay) (X0 + (t : Int) - bx) (y - bz)) W = _
    rw [sm_add, e1, e2]
    omega
  unfold bs
  rw [sm_congr H (fun s _ => row (Y0 + (s : Int))), sm_sub]
  have s1 := sm_part (f := fun s : Nat => if ay ≤ Y0 + (s : Int) ∧ Y0 + (s : Int) < bz then -(-c (Y0 + (s : Int)) / m) - X0 else 0) (a := a) (b := m) (k := H) (by omega) (fun j hj k => if_neg (by omega))
  have s2 := sm_part (f := fun s : Nat => if ay < Y0 + (s : Int) ∧ Y0 + (s : Int) ≤ bz then X0 + W - 1 - c (Y0 + (s : Int)) / m else 0) (a := a + 1) (b := m) (k := H) (by omega) (fun j hj k => if_neg (by omega))
  rw [s1, s2]
  rw [← sm_rev (fun j => if ay < Y0 + ((a + 1 + j : Nat) : Int) ∧ Y0 + ((a + 1 + j : Nat) : Int) ≤ bz then X0 + W - 1 - c (Y0 + ((a + 1 + j : Nat) : Int)) / m else 0) m, ← sm_sub, hm]
  rw [sm_congr (g := fun _ => ax + bx - (2 * X0 + W - 1)) m, sm_const, Int.mul_comm]
  intro j hj
  rw [if_pos (by omega), if_pos (by omega)]
  have e1 : Y0 + ((a + j : Nat) : Int) = ay + j := by omega
  have e2 : Y0 + ((a + 1 + (m - 1 - j) : Nat) : Int) = bz - j := by omega
  have e3 : -c (ay + j) = c (bz - j) + m * (-(ax + bx)) := by rw [hc]; show -(ax * (bz - (ay + j)) + bx * (ay + j - ay)) = ax * (bz - (bz - j)) + bx * (bz - j - ay) + m * (-(ax + bx)); rw [← hm]; grind
  rw [e1, e2, e3, Int.add_mul_ediv_left _ _ (by omega)]
  omega
theorem side_box {ax ay bx bz X0 Y0 : Int} {W H : Nat} (a1 : X0 ≤ ax) (a2 : ax < X0 + W) (b1 : X0 ≤ bx) (b2 : bx < X0 + W) (c1 : Y0 ≤ ay) (c2 : ay < Y0 + H) (d1 : Y0 ≤ bz) (d2 : bz < Y0 + H) :
    bs X0 Y0 W H (two ax ay bx bz) = (bz - ay) * (ax + bx - (2 * X0 + W - 1)) := by
  rcases Int.lt_trichotomy ay bz with k | k | k
  · exact side_up k a1 a2 b1 b2 c1 d2
  · rw [k, Int.sub_self, Int.zero_mul]
    unfold bs
    refine sm_zero fun s _ => sm_zero fun t _ => ?_
    unfold two chiI
    rw [if_neg (by omega), if_neg (by omega), if_neg (by omega), if_neg (by omega)]
    rfl
  · have h := side_up (H := H) k b1 b2 a1 a2 d1 c2
    have e : bs X0 Y0 W H (two ax ay bx bz) = -bs X0 Y0 W H (two bx bz ax ay) := by
      unfold bs
      rw [← sm_neg]
      refine sm_congr H fun s _ => ?_
      rw [← sm_neg]
      exact sm_congr W fun t _ => two_swap ..
    rw [e, h]
    grind
end Go.Proofs.Ytohkmkkcblbemaa.Jr

/- Plain mathematics: rings of whole points; twice the area is what is counted of both winding numbers. -/
namespace Go.Proofs.Ytohkmkkcblbemaa.Jr
set_option linter.unusedVariables false
set_option linter.unusedSimpArgs false

def cQ (p : Int × Int) : Q2 := ((p.1 : Rat), (p.2 : Rat))
theorem chi_cast (a b c d : Int) : chi ((a : Rat), (b : Rat)) ((c : Rat), (d : Rat)) = chiI a b c d := by
  have e1 : ((b : Rat) ≤ 0) = (b ≤ 0) := by
    rw [show (0 : Rat) = ((0 : Int) : Rat) from rfl, Rat.intCast_le_intCast]
  have e2 : ((0 : Rat) < (d : Rat)) = (0 < d) := by
    rw [show (0 : Rat) = ((0 : Int) : Rat) from rfl, Rat.intCast_lt_intCast]
  have e3 : ((d : Rat) ≤ 0) = (d ≤ 0) := by
    rw [show (0 : Rat) = ((0 : Int) : Rat) from rfl, Rat.intCast_le_intCast]
  have e4 : ((0 : Rat) < (b : Rat)) = (0 < b) := by
    rw [show (0 : Rat) = ((0 : Int) : Rat) from rfl, Rat.intCast_lt_intCast]
  have e5 : (a : Rat) * (d : Rat) - (b : Rat) * (c : Rat) = ((a * d - b * c : Int) : Rat) := by
    rw [Rat.intCast_sub, Rat.intCast_mul, Rat.intCast_mul]
  have e6 : ((0 : Rat) < ((a * d - b * c : Int) : Rat)) = (0 < a * d - b * c) := by
    rw [show (0 : Rat) = ((0 : Int) : Rat) from rfl, Rat.intCast_lt_intCast]
  have e7 : (((a * d - b * c : Int) : Rat) < 0) = (a * d - b * c < 0) := by
    rw [show (0 : Rat) = ((0 : Int) : Rat) from rfl, Rat.intCast_lt_intCast]
  unfold chi chiI cr
  simp only [e1, e2, e3, e4, e5, e6, e7]
theorem sb_cast (a b : Int × Int) : sb (cQ a) (cQ b) = (((a.1 - b.1 : Int) : Rat), ((a.2 - b.2 : Int) : Rat)) := by
  unfold sb cQ
  rw [Rat.intCast_sub, Rat.intCast_sub]
theorem two_cast (a b p : Int × Int) : chi (sb (cQ a) (cQ p)) (sb (cQ b) (cQ p)) + chi (sb (ng (cQ a)) (ng (cQ p))) (sb (ng (cQ b)) (ng (cQ p))) = two a.1 a.2 b.1 b.2 p.1 p.2 := by
  have e : ∀ c : Int × Int, sb (ng (cQ c)) (ng (cQ p)) = sb (cQ p) (cQ c) := fun c => by unfold sb ng; refine Prod.ext ?_ ?_ <;> show _ = _ <;> grind
  rw [e, e, sb_cast, sb_cast, sb_cast, sb_cast, chi_cast, chi_cast]
  rfl
def PQ (l : Nat → Int × Int) (j : Nat) : Q2 := cQ (l j)
def area2 (l : Nat → Int × Int) (n : Nat) : Int := sm (fun j => (l j).1 * (l (j + 1)).2 - (l (j + 1)).1 * (l j).2) n
/-- both winding numbers together -/
def ff (P : Nat → Q2) (n : Nat) (q : Q2) : Int := wn P n q + wn (mr P) n (ng q)
theorem bs_swap (X0 Y0 : Int) (W H n : Nat) (f : Nat → Int → Int → Int) : bs X0 Y0 W H (fun x y => sm (fun j => f j x y) n) = sm (fun j => bs X0 Y0 W H (f j)) n := by
  unfold bs
  rw [← sm_swap (fun s j => sm (fun t => f j (X0 + (t : Int)) (Y0 + (s : Int))) W) n H]
  refine sm_congr H fun s _ => ?_
  exact sm_swap (fun t j => f j (X0 + (t : Int)) (Y0 + (s : Int))) n W
structure InBox (X0 Y0 : Int) (W H : Nat) (p : Int × Int) : Prop where
  a : X0 ≤ p.1
  b : p.1 < X0 + W
  c : Y0 ≤ p.2
  d : p.2 < Y0 + H
theorem box_area {l : Nat → Int × Int} {n : Nat} (hper : l n = l 0) {X0 Y0 : Int} {W H : Nat} (hb : ∀ j, InBox X0 Y0 W H (l j)) :
    bs X0 Y0 W H (fun x y => ff (PQ l) n (cQ (x, y))) = area2 l n := by
  have e : ∀ x y, ff (PQ l) n (cQ (x, y)) = sm (fun j => two (l j).1 (l j).2 (l (j + 1)).1 (l (j + 1)).2 x y) n := fun x y => by
    unfold ff wn
    rw [← sm_add]
    exact sm_congr n fun j _ => two_cast (l j) (l (j + 1)) (x, y)
  have e2 : bs X0 Y0 W H (fun x y => ff (PQ l) n (cQ (x, y))) = bs X0 Y0 W H (fun x y => sm (fun j => two (l j).1 (l j).2 (l (j + 1)).1 (l (j + 1)).2 x y) n) := by
    unfold bs
    exact sm_congr H fun s _ => sm_congr W fun t _ => e _ _
  rw [e2, bs_swap X0 Y0 W H n (fun j x y => two (l j).1 (l j).2 (l (j + 1)).1 (l (j + 1)).2 x y)]
  obtain ⟨C, hC⟩ : ∃ C, C = 2 * X0 + W - 1 := ⟨_, rfl⟩
  have e3 : ∀ j, j < n → bs X0 Y0 W H (two (l j).1 (l j).2 (l (j + 1)).1 (l (j + 1)).2) = ((l j).1 * (l (j + 1)).2 - (l (j + 1)).1 * (l j).2) + (((C * (l j).2 - (l j).1 * (l j).2)) - (C * (l (j + 1)).2 - (l (j + 1)).1 * (l (j + 1)).2)) := fun j _ => by
    rw [side_box (hb j).a (hb j).b (hb (j + 1)).a (hb (j + 1)).b (hb j).c (hb j).d (hb (j + 1)).c (hb (j + 1)).d, hC]
    grind
  rw [sm_congr n e3, sm_add, sm_tel (fun j => (C * (l j).2 - (l j).1 * (l j).2) - (C * (l (j + 1)).2 - (l (j + 1)).1 * (l (j + 1)).2)) (fun j => C * (l j).2 - (l j).1 * (l j).2) n (fun j _ => rfl)]
  show area2 l n + (C * (l 0).2 - (l 0).1 * (l 0).2 - (C * (l n).2 - (l n).1 * (l n).2)) = _
  rw [hper]
  omega
/-! ### the two constants are 1 -/
theorem off_low {l : Nat → Int × Int} {n : Nat} {X0 Y0 : Int} {W H : Nat} (hb : ∀ j, InBox X0 Y0 W H (l j)) : Off (PQ l) (cQ (X0, Y0 - 1)) := by
  intro j s s0 s1 he
  have h2 : ((Y0 - 1 : Int) : Rat) = ((l j).2 : Rat) + s * (((l (j + 1)).2 : Rat) - ((l j).2 : Rat)) := congrArg Prod.snd he
  have c1 := Rat.intCast_le_intCast.2 (hb j).c
  have c2 := Rat.intCast_le_intCast.2 (hb (j + 1)).c
  rw [Rat.intCast_sub] at h2
  have k1 := Rat.mul_nonneg (a := 1 - s) (b := ((l j).2 : Rat) - Y0) (by grind) (by grind)
  have k2 := Rat.mul_nonneg (a := s) (b := ((l (j + 1)).2 : Rat) - Y0) s0 (by grind)
  have : ((1 : Int) : Rat) = 1 := rfl
  grind
theorem chi_low {l : Nat → Int × Int} {n : Nat} {X0 Y0 : Int} {W H : Nat} (hb : ∀ j, InBox X0 Y0 W H (l j)) : wn (PQ l) n (cQ (X0, Y0 - 1)) = 0 ∧ wn (mr (PQ l)) n (ng (cQ (X0, Y0 - 1))) = 0 := by
  have up : ∀ j, 0 < (sb (PQ l j) (cQ (X0, Y0 - 1))).2 := fun j => by
    show 0 < ((l j).2 : Rat) - ((Y0 - 1 : Int) : Rat)
    have c1 := Rat.intCast_le_intCast.2 (hb j).c
    rw [Rat.intCast_sub]
    have : ((1 : Int) : Rat) = 1 := rfl
    grind
  constructor
  · exact sm_zero fun j _ => chi_hi (up j) (up (j + 1))
  · refine sm_zero fun j _ => chi_lo ?_ ?_
    · show (sb (ng _) (ng _)).2 ≤ 0
      rw [sb_ng]
      have := up j
      unfold ng
      grind
    · show (sb (ng _) (ng _)).2 ≤ 0
      rw [sb_ng]
      have := up (j + 1)
      unfold ng
      grind
theorem on_cases {P : Nat → Q2} {n : Nat} (h : Ring P n) (q : Q2) : Off P q ∨ (∃ i s, 0 < s ∧ s < 1 ∧ q = pt (P i) (P (i + 1)) s) ∨ ∃ i, i < n ∧ q = P (i + 1) := by
  have hn := h.n3
  by_cases ho : Off P q
  · exact .inl ho
  · right
    unfold Off at ho
    have : ∃ j s, 0 ≤ s ∧ s ≤ 1 ∧ q = pt (P j) (P (j + 1)) s := Classical.byContradiction fun k => ho fun j s a b e => k ⟨j, s, a, b, e⟩
    obtain ⟨j, s, s0, s1, e⟩ := this
    rcases (by grind : s = 0 ∨ s = 1 ∨ (0 < s ∧ s < 1)) with k | k | k
    · right
      refine ⟨(j + (n - 1)) % n, Nat.mod_lt _ (by omega), ?_⟩
      rw [← per_mod' h, e, k, pt_zero, show j + (n - 1) + 1 = j + n by omega, h.per]
    · right
      refine ⟨j % n, Nat.mod_lt _ (by omega), ?_⟩
      rw [← per_mod' h, e, k, pt_one]
    · exact .inl ⟨j, s, k.1, k.2, e⟩
theorem ff_off {P : Nat → Q2} {n : Nat} (h : Ring P n) {q : Q2} (hq : Off P q) : ∃ V : Int, (V = 0 ∨ V = -1) ∧ wn P n q = gg P n 0 + V ∧ ff P n q = gg P n 0 + gg (mr P) n 0 + 2 * V := by
  obtain ⟨V, hV, h1, h2⟩ := jordan2 h hq
  refine ⟨V, hV, h1, ?_⟩
  unfold ff
  omega
theorem ff_side {P : Nat → Q2} {n : Nat} (h : Ring P n) {i : Nat} {s : Rat} (s0 : 0 < s) (s1 : s < 1) : ff P n (pt (P i) (P (i + 1)) s) = gg P n 0 + gg (mr P) n 0 - 1 := by
  have h1 := wn_side h i s0 s1
  have h2 := wn_side h.mr i s0 s1
  have e : pt (mr P i) (mr P (i + 1)) s = ng (pt (P i) (P (i + 1)) s) := pt_ng _ _ _
  rw [e, dd_mr] at h2
  have h3 := rr_ng (h.ne i)
  have h4 : rr (ng (dd P i)) = 1 - rr (dd P i) := h3
  unfold ff
  omega
def kap (P : Nat → Q2) (i : Nat) : Int := chi (dd P i) (dd P (i + 1)) + chi (ng (dd P i)) (ng (dd P (i + 1)))
theorem ff_vertex {P : Nat → Q2} {n : Nat} (h : Ring P n) (i : Nat) : ff P n (P (i + 1)) = gg P n 0 + gg (mr P) n 0 - 1 - kap P i := by
  have h1 := wn_vertex h i
  have h2 := wn_vertex h.mr i
  rw [dd_mr, dd_mr] at h2
  have h3 : rr (ng (dd P i)) = 1 - rr (dd P i) := rr_ng (h.ne i)
  have h4 : wn (mr P) n (ng (P (i + 1))) = wn (mr P) n (mr P (i + 1)) := rfl
  unfold ff kap
  omega
theorem kap_bd (P : Nat → Q2) (i : Nat) : -1 ≤ kap P i ∧ kap P i ≤ 1 := by
  have n1 : (ng (dd P i)).2 = -(dd P i).2 := rfl
  have n2 : (ng (dd P (i + 1))).2 = -(dd P (i + 1)).2 := rfl
  unfold kap chi
  rw [cr_ng, n1, n2]
  constructor <;> grind
theorem kap_sum {P : Nat → Q2} {n : Nat} (h : Ring P n) : sm (kap P) n = 2 * (gg P n 0 + gg (mr P) n 0 - 1) := by
  have h1 := turning h
  have h2 := turning h.mr
  have e : mr (mr P) = P := funext fun j => ng_ng _
  rw [e] at h2
  have e2 : sm (fun i => chi (dd (mr P) i) (dd (mr P) (i + 1))) n = sm (fun i => chi (ng (dd P i)) (ng (dd P (i + 1)))) n := sm_congr n fun j _ => by rw [dd_mr, dd_mr]
  have e3 : sm (kap P) n = sm (fun i => chi (dd P i) (dd P (i + 1)) + chi (ng (dd P i)) (ng (dd P (i + 1)))) n := rfl
  rw [e3, sm_add]
  omega
theorem sm_nonpos {f : Nat → Int} {k : Nat} (h : ∀ j, f j ≤ 0) : sm f k ≤ 0 := by
  have := sm_le (f := f) (g := fun _ => 0) k (fun j _ => h j)
  rw [sm_const] at this
  simpa using this
theorem bs_nonpos {X0 Y0 : Int} {W H : Nat} {f : Int → Int → Int} (h : ∀ x y, f x y ≤ 0) : bs X0 Y0 W H f ≤ 0 :=
  sm_nonpos fun s => sm_nonpos fun t => h _ _
theorem gg_one {l : Nat → Int × Int} {n : Nat} (h : Ring (PQ l) n) (hper : l n = l 0) {X0 Y0 : Int} {W H : Nat} (hb : ∀ j, InBox X0 Y0 W H (l j)) (ha : 0 < area2 l n) :
    gg (PQ l) n 0 = 1 ∧ gg (mr (PQ l)) n 0 = 1 := by
  obtain ⟨V, hV, h1, h2⟩ := jordan2 h (off_low (n := n) hb)
  obtain ⟨z1, z2⟩ := chi_low (n := n) hb
  rw [z1] at h1
  rw [z2] at h2
  rcases hV with rfl | rfl
  · exfalso
    have hs := box_area hper hb
    have : bs X0 Y0 W H (fun x y => ff (PQ l) n (cQ (x, y))) ≤ 0 := bs_nonpos fun x y => by
      rcases on_cases h (cQ (x, y)) with k | ⟨i, s, s0, s1, e⟩ | ⟨i, hi, e⟩
      · obtain ⟨V, hV, -, h4⟩ := ff_off h k
        omega
      · rw [e, ff_side h s0 s1]
        omega
      · rw [e, ff_vertex h]
        have := kap_bd (PQ l) i
        omega
    omega
  · omega
end Go.Proofs.Ytohkmkkcblbemaa.Jr

/- Plain mathematics: the theorem of Pick. -/
namespace Go.Proofs.Ytohkmkkcblbemaa.Jr
set_option linter.unusedVariables false
set_option linter.unusedSimpArgs false
open Classical in
/-- 1 inside, 0 on the ring, -1 outside -/
noncomputable def wh (P : Nat → Q2) (n : Nat) (q : Q2) : Int := if Off P q then (if wn P n q = 0 then -1 else 1) else 0
theorem wh_off {P : Nat → Q2} {n : Nat} (h : Ring P n) (g : gg P n 0 = 1 ∧ gg (mr P) n 0 = 1) {q : Q2} (hq : Off P q) : (wn P n q = 0 ∨ wn P n q = 1) ∧ wh P n q = 2 * wn P n q - 1 ∧ wh P n q + 1 = ff P n q := by
  obtain ⟨V, hV, h1, h2⟩ := ff_off h hq
  unfold wh
  rw [if_pos hq]
  split <;> omega
theorem not_off_pt {P : Nat → Q2} {q : Q2} {i : Nat} {s : Rat} (s0 : 0 ≤ s) (s1 : s ≤ 1) (e : q = pt (P i) (P (i + 1)) s) : ¬ Off P q := fun k => k i s s0 s1 e
theorem wh_side {P : Nat → Q2} {n : Nat} {q : Q2} {i : Nat} {s : Rat} (s0 : 0 ≤ s) (s1 : s ≤ 1) (e : q = pt (P i) (P (i + 1)) s) : wh P n q = 0 := by
  unfold wh
  rw [if_neg (not_off_pt s0 s1 e)]
theorem vertex_ne {P : Nat → Q2} {n : Nat} (h : Ring P n) {a b : Nat} (ha : a < b) (hb : b < n) : P (a + 1) ≠ P (b + 1) := by
  intro e
  have e2 : pt (P (a + 1)) (P (a + 1 + 1)) 0 = pt (P (a + 1 + (b - a))) (P (a + 1 + (b - a) + 1)) 0 := by
    rw [pt_zero, pt_zero, show a + 1 + (b - a) = b + 1 by omega, e]
  rcases side_meets h (by omega) (by omega) (by grind) (by grind) (by grind) (by grind) e2 with ⟨-, m⟩ | ⟨k, -⟩
  · grind
  · -- the last side has both its ends apart
    have hn := h.n3
    have e3 : pt (P (b + 1)) (P (b + 1 + 1)) 0 = pt (P (b + 1 + 1)) (P (b + 1 + 1 + 1)) 0 := by
      rw [pt_zero, pt_zero, ← e, show b + 1 + 1 = a + 1 + n by omega, h.per]
    have := (side_next h (i := b + 1) (by grind) (by grind) (by grind) (by grind) e3).1
    grind
theorem sm_one {f : Nat → Int} {n i : Nat} (hi : i < n) {p : Nat → Prop} [DecidablePred p] (hp : p i) (hu : ∀ j, j < n → p j → j = i) : sm (fun j => if p j then f j else 0) n = f i := by
  rw [sm_part (a := i) (b := 1) (by omega) (fun j hj k => by
    rw [if_neg]
    intro hpj
    have := hu j hj hpj
    omega)]
  show (0 : Int) + (if p (i + 0) then f (i + 0) else 0) = f i
  rw [Nat.add_zero, if_pos hp]
  omega
theorem wh_ff {P : Nat → Q2} {n : Nat} (h : Ring P n) (g : gg P n 0 = 1 ∧ gg (mr P) n 0 = 1) (q : Q2) :
    wh P n q + 1 = ff P n q + sm (fun i => if q = P (i + 1) then kap P i else 0) n := by
  rcases on_cases h q with k | ⟨i, s, s0, s1, e⟩ | ⟨i, hi, e⟩
  · rw [sm_zero, (wh_off h g k).2.2]
    · omega
    · intro j _
      rw [if_neg]
      intro e
      exact k j 1 (by grind) (by grind) (by rw [pt_one]; exact e)
  · rw [sm_zero, wh_side (by grind) (by grind) e, e, ff_side h s0 s1]
    · omega
    · intro j _
      rw [if_neg]
      intro e2
      -- a corner is no place inside a side
      obtain ⟨k, hk, hk2⟩ : ∃ k, k < n ∧ P (j + 1) = P (i + k) := ⟨(j + 1 + (n - i % n)) % n, Nat.mod_lt _ (by have := h.n3; omega), by
        have hn := h.n3
        rw [per_mod h (j + 1), per_mod h (i + _)]
        congr 1
        have := Nat.mod_lt i (show 0 < n by omega)
        have e1 : (i + (j + 1 + (n - i % n)) % n) % n = (i + (j + 1 + (n - i % n))) % n := by rw [Nat.add_mod, Nat.mod_mod, ← Nat.add_mod]
        have e2 := Nat.mod_add_div i n
        have e3 : i + (j + 1 + (n - i % n)) = j + 1 + n * (i / n + 1) := by rw [Nat.mul_add]; omega
        rw [e1, e3, Nat.add_mul_mod_self_left]⟩
      have e3 : pt (P i) (P (i + 1)) s = pt (P (i + k)) (P (i + k + 1)) 0 := by rw [pt_zero, ← hk2, ← e2, e]
      rcases Nat.lt_or_ge 0 k with k1 | k1
      · rcases side_meets h k1 hk (by grind) (by grind) (by grind) (by grind) e3 with ⟨-, m⟩ | ⟨-, m⟩ <;> grind
      · obtain rfl : k = 0 := by omega
        have hne := h.ne i
        have x1 := congrArg Prod.fst e3
        have x2 := congrArg Prod.snd e3
        unfold pt at x1 x2
        unfold sb at hne
        simp only [Nat.add_zero] at x1 x2
        have y1 : s * ((P (i + 1)).1 - (P i).1) = 0 := by grind
        have y2 : s * ((P (i + 1)).2 - (P i).2) = 0 := by grind
        rcases Rat.mul_eq_zero.1 y1 with m | m
        · grind
        · rcases Rat.mul_eq_zero.1 y2 with m2 | m2 <;> grind
  · have hw : wh P n q = 0 := wh_side (i := i) (s := 1) (by grind) (by grind) (by rw [pt_one]; exact e)
    rw [sm_one (f := kap P) (p := fun j => q = P (j + 1)) hi e (fun j hj hpj => by
      rcases Nat.lt_trichotomy j i with k | k | k
      · exact absurd (hpj.symm.trans e) (vertex_ne h k hi)
      · exact k
      · exact absurd (e.symm.trans hpj) (vertex_ne h k hj)), hw, e, ff_vertex h]
    omega
theorem cQ_inj {a b : Int × Int} (h : cQ a = cQ b) : a = b :=
  Prod.ext (Rat.intCast_inj.1 (congrArg Prod.fst h)) (Rat.intCast_inj.1 (congrArg Prod.snd h))
theorem bs_point {X0 Y0 : Int} {W H : Nat} {p : Int × Int} (hp : InBox X0 Y0 W H p) (c : Int) : bs X0 Y0 W H (fun x y => if cQ (x, y) = cQ p then c else 0) = c := by
  obtain ⟨i, hi⟩ : ∃ i : Nat, p.1 = X0 + i := ⟨(p.1 - X0).toNat, by have := hp.a; omega⟩
  obtain ⟨k, hk⟩ : ∃ k : Nat, p.2 = Y0 + k := ⟨(p.2 - Y0).toNat, by have := hp.c; omega⟩
  have h1 := hp.b
  have h2 := hp.d
  unfold bs
  rw [sm_part (a := k) (b := 1) (by omega) (fun s hs q => sm_zero fun t _ => if_neg fun e => by
    have := congrArg Prod.snd (cQ_inj e)
    simp only at this
    omega)]
  show (0 : Int) + sm (fun t => if cQ (X0 + (t : Int), Y0 + ((k + 0 : Nat) : Int)) = cQ p then c else 0) W = c
  rw [sm_part (a := i) (b := 1) (by omega) (fun t ht q => if_neg fun e => by
    have := congrArg Prod.fst (cQ_inj e)
    simp only at this
    omega)]
  show (0 : Int) + ((0 : Int) + (if cQ (X0 + ((i + 0 : Nat) : Int), Y0 + ((k + 0 : Nat) : Int)) = cQ p then c else 0)) = c
  rw [if_pos]
  · omega
  · rw [Nat.add_zero, Nat.add_zero, ← hi, ← hk]
theorem bs_add {X0 Y0 : Int} {W H : Nat} (f g : Int → Int → Int) : bs X0 Y0 W H (fun x y => f x y + g x y) = bs X0 Y0 W H f + bs X0 Y0 W H g := by
  unfold bs
  rw [← sm_add]
  exact sm_congr H fun s _ => sm_add _ _ _
theorem bs_congr {X0 Y0 : Int} {W H : Nat} {f g : Int → Int → Int} (h : ∀ x y, f x y = g x y) : bs X0 Y0 W H f = bs X0 Y0 W H g := by
  unfold bs
  exact sm_congr H fun s _ => sm_congr W fun t _ => h _ _
/-- Pick: what is counted in a box around a ring -/
theorem pick {l : Nat → Int × Int} {n : Nat} (h : Ring (PQ l) n) (hper : l n = l 0) {X0 Y0 : Int} {W H : Nat} (hb : ∀ j, InBox X0 Y0 W H (l j)) (ha : 0 < area2 l n) :
    bs X0 Y0 W H (fun x y => wh (PQ l) n (cQ (x, y)) + 1) = area2 l n + 2 := by
  have g := gg_one h hper hb ha
  rw [bs_congr (fun x y => wh_ff h g (cQ (x, y))), bs_add, box_area hper hb]
  rw [bs_swap X0 Y0 W H n (fun i x y => if cQ (x, y) = PQ l (i + 1) then kap (PQ l) i else 0)]
  have e : sm (fun i => bs X0 Y0 W H (fun x y => if cQ (x, y) = PQ l (i + 1) then kap (PQ l) i else 0)) n = sm (kap (PQ l)) n := sm_congr n (fun i _ => bs_point (hb (i + 1)) _)
  rw [e, kap_sum h]
  omega
end Go.Proofs.Ytohkmkkcblbemaa.Jr

/- Plain mathematics of rings: what is near a place that is off a ring; a ring that is cut into two. -/
namespace Go.Proofs.Ytohkmkkcblbemaa.Jr
set_option linter.unusedVariables false
set_option linter.unusedSimpArgs false

/-- a place off a segment: a line through it leaves the segment on one side -/
theorem point_sep {a b q : Q2} (hab : (sb b a).1 ≠ 0 ∨ (sb b a).2 ≠ 0) (hq : ∀ s, 0 ≤ s → s ≤ 1 → q ≠ pt a b s) : ∃ e : Q2, 0 < cr e (sb a q) ∧ 0 < cr e (sb b q) := by
  rcases tri (cr (sb b a) (sb q a)) with k | k | k
  · refine ⟨sb b a, ?_, ?_⟩ <;> unfold cr sb at * <;> grind
  · have pN := sq_pos' _ hab
    obtain ⟨N, hN⟩ : ∃ x, x = (sb b a).1 * (sb b a).1 + (sb b a).2 * (sb b a).2 := ⟨_, rfl⟩
    obtain ⟨L, hL⟩ : ∃ x, x = dt (sb b a) (sb q a) := ⟨_, rfl⟩
    rw [← hN] at pN
    have i1 : N * (q.1 - a.1) = L * (b.1 - a.1) := by rw [hN, hL]; unfold cr dt sb at *; grind
    have i2 : N * (q.2 - a.2) = L * (b.2 - a.2) := by rw [hN, hL]; unfold cr dt sb at *; grind
    have j1 := div_eq' pN i1
    have j2 := div_eq' pN i2
    obtain ⟨s, hs⟩ : ∃ s, s = L / N := ⟨_, rfl⟩
    rw [← hs] at j1 j2
    have hn : ¬ (0 ≤ s ∧ s ≤ 1) := fun h => hq s h.1 h.2 (by unfold pt; refine Prod.ext ?_ ?_ <;> show _ = _ <;> grind)
    have e1 : dt (sb b a) (sb a q) = -s * N := by rw [hN]; unfold dt sb; grind
    have e2 : dt (sb b a) (sb b q) = (1 - s) * N := by rw [hN]; unfold dt sb; grind
    have c : ∀ v : Q2, cr ((sb b a).2, -(sb b a).1) v = dt (sb b a) v := fun v => by unfold cr dt; grind
    have c' : ∀ v : Q2, cr (-(sb b a).2, (sb b a).1) v = -dt (sb b a) v := fun v => by unfold cr dt; grind
    rcases (by grind : s < 0 ∨ 1 < s) with h | h
    · refine ⟨((sb b a).2, -(sb b a).1), ?_, ?_⟩
      · rw [c, e1]; exact Rat.mul_pos (by grind) pN
      · rw [c, e2]; exact Rat.mul_pos (by grind) pN
    · have p1 := Rat.mul_pos (a := s) (b := N) (by grind) pN
      have p2 := Rat.mul_pos (a := s - 1) (b := N) (by grind) pN
      refine ⟨(-(sb b a).2, (sb b a).1), ?_, ?_⟩
      · rw [c', e1]; grind
      · rw [c', e2]; grind
  · refine ⟨ng (sb b a), ?_, ?_⟩ <;> unfold cr sb ng at * <;> grind
def mv (q u : Q2) (t : Rat) : Q2 := (q.1 + t * u.1, q.2 + t * u.2)
/-- for small t what is positive stays so -/
theorem small_pos {x y : Rat} (hx : 0 < x) : ∃ δ : Rat, 0 < δ ∧ ∀ t, 0 ≤ t → t ≤ δ → 0 < x + t * y := by
  rcases le_or y with h | h
  · refine ⟨x / (1 - y), div_pos' hx (by grind), fun t t0 t1 => ?_⟩
    have e := div_mul' (D := x) (N := 1 - y) (by grind)
    have h1 := Rat.mul_nonneg (a := x / (1 - y) - t) (b := 1 - y) (by grind) (by grind)
    rcases (by grind : t = 0 ∨ 0 < t) with k | k
    · rw [k]; grind
    · grind
  · refine ⟨1, by grind, fun t t0 t1 => ?_⟩
    have := Rat.mul_nonneg t0 (show 0 ≤ y by grind)
    grind
theorem near_sep {a b q : Q2} (u : Q2) (hab : (sb b a).1 ≠ 0 ∨ (sb b a).2 ≠ 0) (hq : ∀ s, 0 ≤ s → s ≤ 1 → q ≠ pt a b s) : ∃ δ : Rat, 0 < δ ∧ ∀ t, 0 ≤ t → t ≤ δ → Sep a b q (mv q u t) := by
  obtain ⟨e, h1, h2⟩ := point_sep hab hq
  obtain ⟨d1, k1, m1⟩ := small_pos (y := -cr e u) h1
  obtain ⟨d2, k2, m2⟩ := small_pos (y := -cr e u) h2
  refine ⟨if d1 ≤ d2 then d1 else d2, by split <;> assumption, fun t t0 t1 => ⟨e, ⟨h1, h2⟩, ?_, ?_⟩⟩
  · have := m1 t t0 (by split at t1 <;> grind)
    have e1 : cr e (sb a (mv q u t)) = cr e (sb a q) + t * -cr e u := by unfold cr sb mv; grind
    rw [e1]; exact this
  · have := m2 t t0 (by split at t1 <;> grind)
    have e1 : cr e (sb b (mv q u t)) = cr e (sb b q) + t * -cr e u := by unfold cr sb mv; grind
    rw [e1]; exact this
/-- a place off the ring: for a while all that is in a direction sees it, past all sides -/
theorem near_off {P : Nat → Q2} {q : Q2} (u : Q2) (hne : ∀ i, (sb (P (i + 1)) (P i)).1 ≠ 0 ∨ (sb (P (i + 1)) (P i)).2 ≠ 0) (hq : Off P q) : ∀ n, ∃ δ : Rat, 0 < δ ∧ ∀ t, 0 ≤ t → t ≤ δ → ∀ j, j < n → Sep (P j) (P (j + 1)) q (mv q u t)
  | 0 => ⟨1, by grind, fun _ _ _ j hj => absurd hj (Nat.not_lt_zero _)⟩
  | n + 1 => by
    obtain ⟨d1, k1, m1⟩ := near_off u hne hq n
    obtain ⟨d2, k2, m2⟩ := near_sep u (hne n) (hq n)
    refine ⟨if d1 ≤ d2 then d1 else d2, by split <;> assumption, fun t t0 t1 j hj => ?_⟩
    rcases Nat.lt_or_ge j n with k | k
    · exact m1 t t0 (by split at t1 <;> grind) j k
    · obtain rfl : j = n := by omega
      exact m2 t t0 (by split at t1 <;> grind)
/-- along a way that no side meets the winding number stays, and all places are off the ring -/
theorem way_same {P : Nat → Q2} {n : Nat} (h : Ring P n) {p q : Q2} (hs : ∀ j, j < n → Sep (P j) (P (j + 1)) p q) : wn P n p = wn P n q ∧ Off P q := by
  have hm := move_sum (P := P) (a := 0) (m := n) (p := p) (q := q) (fun k hk => by rw [Nat.zero_add]; exact hs k hk)
  have hp : P (0 + n) = P 0 := h.per 0
  rw [hp] at hm
  constructor
  · unfold wn
    have e : ∀ r, sm (fun k => sx P (0 + k) r) n = sm (fun j => sx P j r) n := fun r => sm_congr n fun j _ => by rw [Nat.zero_add]
    rw [e, e] at hm
    omega
  · intro j s s0 s1 e
    have hn := h.n3
    rw [per_mod h j, per_mod' h j] at e
    have := sep_no (hs (j % n) (Nat.mod_lt _ (by omega))) s0 s1 (show (0 : Rat) ≤ 1 by grind) (by grind)
    rw [pt_one] at this
    exact this e.symm
theorem rr_chi_bd (u d : Q2) (hu : u.1 ≠ 0 ∨ u.2 ≠ 0) (hd : d.1 ≠ 0 ∨ d.2 ≠ 0) : 0 ≤ chi u d + rr u ∧ chi u d + rr u ≤ 1 := by
  have g1 := @chi_up u d
  have g2 := @chi_dn u d
  have g3 := @chi_lo u d
  have g4 := @chi_hi u d
  have z : u.2 = 0 → cr u d = u.1 * d.2 := fun k => by unfold cr; rw [k]; grind
  have s := sgnmul u.1 d.2
  have r1 : 0 < u.2 → rr u = 1 := fun k => by unfold rr; grind
  have r2 : u.2 < 0 → rr u = 0 := fun k => by unfold rr; grind
  have r3 : u.2 = 0 → u.1 < 0 → rr u = 1 := fun k l => by unfold rr; grind
  have r4 : u.2 = 0 → 0 < u.1 → rr u = 0 := fun k l => by unfold rr; grind
  rcases le_or u.2 with a | a <;> rcases le_or d.2 with b | b
  · rw [g3 a b]
    have := rr_two u
    omega
  · rw [g1 a b]
    split <;> grind
  · rw [g2 a b]
    split <;> grind
  · rw [g4 a b]
    have := rr_two u
    omega
/-- everywhere the winding number is 0 or 1 -/
theorem wn_01 {P : Nat → Q2} {n : Nat} (h : Ring P n) (g : gg P n 0 = 1) (q : Q2) : wn P n q = 0 ∨ wn P n q = 1 := by
  rcases on_cases h q with k | ⟨i, s, s0, s1, e⟩ | ⟨i, hi, e⟩
  · obtain ⟨V, hV, h1, -⟩ := jordan2 h k
    omega
  · rw [e, wn_side h i s0 s1]
    have := rr_two (dd P i)
    omega
  · rw [e, wn_vertex h i]
    have := rr_chi_bd (dd P i) (dd P (i + 1)) (h.ne i) (h.ne (i + 1))
    omega
/-- a ring that is cut into two: what is inside the one part is off the other one, inside the ring -/
theorem cut_inner {A B C : Nat → Q2} {nA nB nC : Nat} (hA : Ring A nA) (hB : Ring B nB) (hC : Ring C nC)
    (gA : gg A nA 0 = 1 ∧ gg (mr A) nA 0 = 1) (gB : gg B nB 0 = 1 ∧ gg (mr B) nB 0 = 1) (gC : gg C nC 0 = 1 ∧ gg (mr C) nC 0 = 1)
    (add : ∀ q, wn A nA q = wn B nB q + wn C nC q) (addm : ∀ q, wn (mr A) nA q = wn (mr B) nB q + wn (mr C) nC q)
    {q : Q2} (hq : Off B q) (h1 : wn B nB q = 1) : Off C q ∧ wn C nC q = 0 ∧ wn A nA q = 1 := by
  have key : ∀ p, Off B p → wn B nB p = 1 → wn C nC p = 0 ∧ wn (mr C) nC (ng p) = 0 := fun p hp k => by
    have a1 := add p
    have a2 := addm (ng p)
    have w1 := wn_01 hA gA.1 p
    have w2 := wn_01 hC gC.1 p
    have w3 := wn_01 hA.mr gA.2 (ng p)
    have w4 := wn_01 hC.mr gC.2 (ng p)
    obtain ⟨V, hV, v1, v2⟩ := jordan2 hB hp
    omega
  have side : ∀ p, Off B p → wn B nB p = 1 → ∀ i s, 0 < s → s < 1 → p ≠ pt (C i) (C (i + 1)) s := fun p hp k i s s0 s1 e => by
    have f := ff_side hC (i := i) s0 s1
    rw [← e] at f
    have := key p hp k
    unfold ff at f
    omega
  have k := key q hq h1
  have a := add q
  refine ⟨?_, k.1, by omega⟩
  rcases on_cases hC q with c | ⟨i, s, s0, s1, e⟩ | ⟨i, hi, e⟩
  · exact c
  · exact absurd e (side q hq h1 i s s0 s1)
  · -- a corner: a place beside it on the next side
    exfalso
    obtain ⟨δ, d0, hd⟩ := near_off (sb (C (i + 2)) (C (i + 1))) hB.ne hq nB
    obtain ⟨t, ht0, ht1, ht2⟩ : ∃ t : Rat, 0 < t ∧ t < 1 ∧ t ≤ δ := by
      rcases (by grind : δ < 1 ∨ 1 ≤ δ) with m | m
      · exact ⟨δ, d0, m, by grind⟩
      · exact ⟨1 / 2, by grind, by grind, by grind⟩
    obtain ⟨w, o⟩ := way_same hB (hd t (by grind) ht2)
    refine side _ o (by rw [← w]; exact h1) (i + 1) t ht0 ht1 ?_
    rw [e]
    unfold mv pt sb
    rfl
/-- the sides of both parts are those of the ring, and the cut there and back -/
theorem cut_sum {S : Type} (f : S → S → Int) (hf : ∀ x y, f y x = -f x y) {A B C : Nat → S} {i m1 m2 : Nat} (hB : ∀ j, j ≤ m1 → B j = A (i + j)) (hB0 : B (m1 + 1) = A i)
    (hC : ∀ j, j ≤ m2 → C j = A (i + m1 + j)) (hC0 : C (m2 + 1) = A (i + m1)) (hA : A (i + m1 + m2) = A i) :
    sm (fun j => f (A (i + j)) (A (i + j + 1))) (m1 + m2) = sm (fun j => f (B j) (B (j + 1))) (m1 + 1) + sm (fun j => f (C j) (C (j + 1))) (m2 + 1) := by
  have e1 : sm (fun j => f (B j) (B (j + 1))) m1 = sm (fun j => f (A (i + j)) (A (i + j + 1))) m1 := sm_congr m1 fun j hj => by rw [hB j (by omega), hB (j + 1) (by omega), Nat.add_assoc]
  have e2 : sm (fun j => f (C j) (C (j + 1))) m2 = sm (fun j => f (A (i + (m1 + j))) (A (i + (m1 + j) + 1))) m2 := sm_congr m2 fun j hj => by rw [hC j (by omega), hC (j + 1) (by omega), Nat.add_assoc i m1 j, ← Nat.add_assoc (i + m1) j 1, Nat.add_assoc i m1 j]
  have e3 : f (B m1) (B (m1 + 1)) = f (A (i + m1)) (A i) := by rw [hB m1 (by omega), hB0]
  have e4 : f (C m2) (C (m2 + 1)) = f (A i) (A (i + m1)) := by rw [hC m2 (by omega), hC0, hA]
  have e5 := hf (A (i + m1)) (A i)
  rw [sm_split, sm, sm, e1, e2, e3, e4]
  omega
theorem cut_wn {A B C : Nat → Q2} {n i m1 m2 : Nat} (hR : Ring A n) (hn : n = m1 + m2) (hB : ∀ j, j ≤ m1 → B j = A (i + j)) (hB0 : B (m1 + 1) = A i)
    (hC : ∀ j, j ≤ m2 → C j = A (i + m1 + j)) (hC0 : C (m2 + 1) = A (i + m1)) (q : Q2) : wn A n q = wn B (m1 + 1) q + wn C (m2 + 1) q := by
  have hA : A (i + m1 + m2) = A i := by rw [Nat.add_assoc, ← hn]; exact hR.per i
  have h := cut_sum (fun x y => chi (sb x q) (sb y q)) (fun x y => chi_swap _ _) hB hB0 hC hC0 hA
  have h2 := sm_shift (fun j => sx A j q) n (sx_per hR q) i
  have h3 : wn A n q = sm (fun j => sx A (i + j) q) n := h2.symm
  rw [h3, hn]
  exact h
end Go.Proofs.Ytohkmkkcblbemaa.Jr
