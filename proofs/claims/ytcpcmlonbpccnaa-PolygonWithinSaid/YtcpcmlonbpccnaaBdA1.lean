/- Points, turns, distances and segments, on whole numbers. -/
import Derived.WalkKit
namespace Go.Proofs.Ytcpcmlonbpccnaa.Ge
set_option linter.unusedVariables false
set_option linter.unusedSimpArgs false

/-- is a point on the grid? -/
def onP (x y : Int) : Prop := (0 ≤ x ∧ x ≤ 32767) ∧ 0 ≤ y ∧ y ≤ 32767
instance (x y : Int) : Decidable (onP x y) := inferInstanceAs (Decidable (_ ∧ _))
/-- the turn of a, b, c as a number -/
def areaN (ax ay bx bz cx cy : Int) : Int := (bx - ax) * (cy - ay) - (bz - ay) * (cx - ax)
/-- how far ahead of a in the direction to b the point c is -/
def alongN (ax ay bx bz cx cy : Int) : Int := (bx - ax) * (cx - ax) + (bz - ay) * (cy - ay)
def distN (ax ay bx bz : Int) : Int := alongN ax ay bx bz bx bz
def sgnI (n : Int) : Int := if n < 0 then -1 else if 0 < n then 1 else 0
/-- what Turn and Dist return -/
def turnV (ax ay bx bz cx cy : Int) : Int := if onP ax ay ∧ onP bx bz ∧ onP cx cy then sgnI (areaN ax ay bx bz cx cy) else 0
def distV (ax ay bx bz : Int) : Int := if onP ax ay ∧ onP bx bz then distN ax ay bx bz else 0
/-- is p on the segment of a and b? -/
def hasP (ax ay bx bz px py : Int) : Prop :=
  if ax = bx ∧ ay = bz then px = ax ∧ py = ay else areaN ax ay bx bz px py = 0 ∧ 0 ≤ alongN ax ay bx bz px py ∧ alongN ax ay bx bz px py ≤ distN ax ay bx bz
instance (ax ay bx bz px py : Int) : Decidable (hasP ax ay bx bz px py) := by unfold hasP; infer_instance
def hasB (ax ay bx bz px py : Int) : Bool := decide (hasP ax ay bx bz px py)
/-- what Between returns -/
def betB (px py ax ay bx bz : Int) : Bool := decide (onP px py ∧ onP ax ay ∧ onP bx bz ∧ hasP ax ay bx bz px py)
/-- are both ends of the segment a b on different sides of the segment c d? -/
def apartB (ax ay bx bz cx cy dx dy : Int) : Bool := decide (sgnI (areaN cx cy dx dy ax ay) * sgnI (areaN cx cy dx dy bx bz) < 0)
/-- what Cross returns -/
def crossV (ax ay bx bz cx cy dx dy : Int) : Int :=
  if onP ax ay ∧ onP bx bz ∧ onP cx cy ∧ onP dx dy then
    if apartB ax ay bx bz cx cy dx dy = true ∧ apartB cx cy dx dy ax ay bx bz = true then 2
    else if hasB ax ay bx bz cx cy = true ∨ hasB ax ay bx bz dx dy = true ∨ hasB cx cy dx dy ax ay = true ∨ hasB cx cy dx dy bx bz = true then 1 else 0
  else 0

/-- a product of two numbers within bounds -/
theorem mul_bd {a b m k : Int} (h1 : -m ≤ a) (h2 : a ≤ m) (h3 : -k ≤ b) (h4 : b ≤ k) (hm : 0 ≤ m) (hk : 0 ≤ k) : -(m * k) ≤ a * b ∧ a * b ≤ m * k := by
  have h : (a * b).natAbs ≤ m.natAbs * k.natAbs := by
    rw [Int.natAbs_mul]
    exact Nat.mul_le_mul (by omega) (by omega)
  have e : ((m.natAbs * k.natAbs : Nat) : Int) = m * k := by
    rw [Int.natCast_mul, Int.natAbs_of_nonneg hm, Int.natAbs_of_nonneg hk]
  omega
theorem d_bd {a b : Int} (ha0 : 0 ≤ a) (ha : a ≤ 32767) (hb0 : 0 ≤ b) (hb : b ≤ 32767) : -32767 ≤ b - a ∧ b - a ≤ 32767 := by omega
theorem p_bd {a b : Int} (h1 : -32767 ≤ a ∧ a ≤ 32767) (h2 : -32767 ≤ b ∧ b ≤ 32767) : -1073676289 ≤ a * b ∧ a * b ≤ 1073676289 :=
  mul_bd (m := 32767) (k := 32767) h1.1 h1.2 h2.1 h2.2 (by decide) (by decide)
theorem area_bd {ax ay bx bz cx cy : Int} (ha : onP ax ay) (hb : onP bx bz) (hc : onP cx cy) : -2147352578 ≤ areaN ax ay bx bz cx cy ∧ areaN ax ay bx bz cx cy ≤ 2147352578 := by
  obtain ⟨⟨a1, a2⟩, a3, a4⟩ := ha
  obtain ⟨⟨b1, b2⟩, b3, b4⟩ := hb
  obtain ⟨⟨c1, c2⟩, c3, c4⟩ := hc
  have h1 := p_bd (d_bd a1 a2 b1 b2) (d_bd a3 a4 c3 c4)
  have h2 := p_bd (d_bd a3 a4 b3 b4) (d_bd a1 a2 c1 c2)
  unfold areaN
  omega
theorem along_bd {ax ay bx bz cx cy : Int} (ha : onP ax ay) (hb : onP bx bz) (hc : onP cx cy) : -2147352578 ≤ alongN ax ay bx bz cx cy ∧ alongN ax ay bx bz cx cy ≤ 2147352578 := by
  obtain ⟨⟨a1, a2⟩, a3, a4⟩ := ha
  obtain ⟨⟨b1, b2⟩, b3, b4⟩ := hb
  obtain ⟨⟨c1, c2⟩, c3, c4⟩ := hc
  have h1 := p_bd (d_bd a1 a2 b1 b2) (d_bd a1 a2 c1 c2)
  have h2 := p_bd (d_bd a3 a4 b3 b4) (d_bd a3 a4 c3 c4)
  unfold alongN
  omega
theorem sq_nonneg (a : Int) : 0 ≤ a * a := by
  rcases Int.le_total 0 a with h | h
  · exact Int.mul_nonneg h h
  · exact Int.mul_nonneg_of_nonpos_of_nonpos h h
theorem dist_nonneg (ax ay bx bz : Int) : 0 ≤ distN ax ay bx bz := by
  have h1 := sq_nonneg (bx - ax)
  have h2 := sq_nonneg (bz - ay)
  unfold distN alongN
  omega
theorem dist_bd {ax ay bx bz : Int} (ha : onP ax ay) (hb : onP bx bz) : 0 ≤ distN ax ay bx bz ∧ distN ax ay bx bz ≤ 2147352578 :=
  ⟨dist_nonneg .., (along_bd ha hb hb).2⟩
theorem sq_zero {a : Int} (h : a * a = 0) : a = 0 := by
  rcases Int.mul_eq_zero.1 h with h | h <;> exact h
theorem dist_zero {ax ay bx bz : Int} (h : distN ax ay bx bz = 0) : ax = bx ∧ ay = bz := by
  have h1 := sq_nonneg (bx - ax)
  have h2 := sq_nonneg (bz - ay)
  unfold distN alongN at h
  have h3 := sq_zero (show (bx - ax) * (bx - ax) = 0 by omega)
  have h4 := sq_zero (show (bz - ay) * (bz - ay) = 0 by omega)
  omega
theorem sgn_cases (n : Int) : sgnI n = -1 ∧ n < 0 ∨ sgnI n = 0 ∧ n = 0 ∨ sgnI n = 1 ∧ 0 < n := by
  unfold sgnI
  split
  · omega
  · split <;> omega
theorem sgn_bd (n : Int) : -1 ≤ sgnI n ∧ sgnI n ≤ 1 := by
  have := sgn_cases n
  omega
end Go.Proofs.Ytcpcmlonbpccnaa.Ge

/- Rings of points, their sides, areas, and what is inside, on whole numbers. -/
namespace Go.Proofs.Ytcpcmlonbpccnaa.Ge
set_option linter.unusedVariables false
set_option linter.unusedSimpArgs false

/-- a place of the plane, by twice its coordinates, that lies within the grid -/
def onQ (x y : Int) : Prop := (0 ≤ x ∧ x ≤ 65534) ∧ 0 ≤ y ∧ y ≤ 65534
/-- twice the turn of both ends of a side and a place -/
def tuN (ax ay bx bz px py : Int) : Int := (bx - ax) * (py - 2 * ay) - (bz - ay) * (px - 2 * ax)
/-- is not positive where a place of the straight line is between both ends -/
def loN (ax ay bx bz px py : Int) : Int := (px - 2 * ax) * (px - 2 * bx) + (py - 2 * ay) * (py - 2 * bz)
def hsB (ax ay bx bz px py : Int) : Bool := decide (tuN ax ay bx bz px py = 0) && decide (loN ax ay bx bz px py ≤ 0)
def paV (ax ay bx bz px py : Int) : Int :=
  if 2 * ay ≤ py ∧ py < 2 * bz ∧ 0 < tuN ax ay bx bz px py then 1 else if 2 * bz ≤ py ∧ py < 2 * ay ∧ tuN ax ay bx bz px py < 0 then -1 else 0
def ptB (cx cy ax ay bx bz : Int) : Bool := decide (¬ (cx = ax ∧ cy = ay)) && (decide (¬ (cx = bx ∧ cy = bz)) && betB cx cy ax ay bx bz)

theorem pld_bd {a p : Int} (ha0 : 0 ≤ a) (ha : a ≤ 32767) (hp0 : 0 ≤ p) (hp : p ≤ 65534) : -65534 ≤ p - 2 * a ∧ p - 2 * a ≤ 65534 := by omega
theorem plq_bd {a b : Int} (h1 : -32767 ≤ a ∧ a ≤ 32767) (h2 : -65534 ≤ b ∧ b ≤ 65534) : -2147352578 ≤ a * b ∧ a * b ≤ 2147352578 :=
  mul_bd (m := 32767) (k := 65534) h1.1 h1.2 h2.1 h2.2 (by decide) (by decide)
theorem plr_bd {a b : Int} (h1 : -65534 ≤ a ∧ a ≤ 65534) (h2 : -65534 ≤ b ∧ b ≤ 65534) : -4294705156 ≤ a * b ∧ a * b ≤ 4294705156 :=
  mul_bd (m := 65534) (k := 65534) h1.1 h1.2 h2.1 h2.2 (by decide) (by decide)

/-! ### rings -/
abbrev Sd := (Int × Int) × (Int × Int)
/-- point number i, counted on from the beginning -/
def nth (l : List (Int × Int)) (i : Nat) : Int × Int := l.getD (i % l.length) (0, 0)
def sideAt (l : List (Int × Int)) (i : Nat) : Sd := (nth l i, nth l (i + 1))
def sidesL (l : List (Int × Int)) : List Sd := (List.range l.length).map (sideAt l)
def onL (l : List (Int × Int)) : Prop := ∀ p ∈ l, onP p.1 p.2
def onS (s : Sd) : Prop := onP s.1.1 s.1.2 ∧ onP s.2.1 s.2.2
def turnAt (l : List (Int × Int)) (i : Nat) : Int := turnV (nth l i).1 (nth l i).2 (nth l (i + 1)).1 (nth l (i + 1)).2 (nth l (i + 2)).1 (nth l (i + 2)).2
def bendsB (l : List (Int × Int)) : Bool := (List.range l.length).all fun i => turnAt l i != 0
def partS (s : Sd) : Int := s.1.1 * s.2.2 - s.2.1 * s.1.2
def sumS (f : Sd → Int) (ss : List Sd) : Int := (ss.map f).sum
def areaS (l : List (Int × Int)) : Int := sumS partS (sidesL l)
def crossS (s t : Sd) : Int := crossV s.1.1 s.1.2 s.2.1 s.2.2 t.1.1 t.1.2 t.2.1 t.2.2
/-- may both sides lie as they do? -/
def freeB (s t : Sd) : Bool := s.1 == t.2 || (t.1 == s.2 || crossS s t == 0)
def simpleB (l : List (Int × Int)) : Bool := (List.range l.length).all fun i => (List.range i).all fun k => freeB (sideAt l i) (sideAt l k)
def validB (l : List (Int × Int)) : Bool := decide (3 ≤ l.length) && (decide (l.length ≤ 40) && (bendsB l && (decide (0 < areaS l) && simpleB l)))
def hasS (p : Int × Int) (s : Sd) : Bool := hsB s.1.1 s.1.2 s.2.1 s.2.2 p.1 p.2
def passS (p : Int × Int) (s : Sd) : Int := paV s.1.1 s.1.2 s.2.1 s.2.2 p.1 p.2
/-- where a place (by twice its coordinates) is -/
def whereP (l : List (Int × Int)) (p : Int × Int) : Int := if (sidesL l).any (hasS p) = true then 0 else if sumS (passS p) (sidesL l) = 0 then -1 else 1
def twiceV (l : List (Int × Int)) : Int := if validB l = true then areaS l else 0
def whereV (l : List (Int × Int)) (x y : Int) : Int := if onP x y ∧ validB l = true then whereP l (x + x, y + y) else -1
def partedB (s : Sd) (c : Int × Int) : Bool := ptB c.1 c.2 s.1.1 s.1.2 s.2.1 s.2.2
def distP (p q : Int × Int) : Int := distV p.1 p.2 q.1 q.2
/-- points by their distances from one -/
def putD (o p : Int × Int) : List (Int × Int) → List (Int × Int)
  | [] => [p]
  | q :: l => if distP o p ≤ distP o q then p :: q :: l else q :: putD o p l
def sortD (o : Int × Int) (l : List (Int × Int)) : List (Int × Int) := l.foldr (putD o) []
def endsS (b : List (Int × Int)) (s : Sd) : List (Int × Int) := sortD s.1 (b.filter (partedB s) ++ [s.1, s.2])
def midP (p q : Int × Int) : Int × Int := (p.1 + q.1, p.2 + q.2)
def midsS (b : List (Int × Int)) (s : Sd) : List (Int × Int) := ((endsS b s).zip (endsS b s).tail).map fun x => midP x.1 x.2
def midsL (a b : List (Int × Int)) : List (Int × Int) := (sidesL a).flatMap (midsS b)
def crossingB (a b : List (Int × Int)) : Bool := (sidesL a).any fun s => (sidesL b).any fun t => crossS s t == 2
def reachesB (a b : List (Int × Int)) (there : Int) : Bool := (midsL a b).any fun p => whereP b p == there
def withinB (a b : List (Int × Int)) : Bool := validB a && (validB b && (!crossingB a b && !reachesB a b (-1)))
def apartR (a b : List (Int × Int)) : Bool := validB a && (validB b && (!crossingB a b && (!reachesB b a 1 && reachesB a b (-1))))
def minI (l : List Int) (d : Int) : Int := l.foldl min d
def maxI (l : List Int) (d : Int) : Int := l.foldl max d
def lowP (l : List (Int × Int)) : Int × Int := if validB l = true then (minI (l.map (·.1)) (nth l 0).1, minI (l.map (·.2)) (nth l 0).2) else (0, 0)
def highP (l : List (Int × Int)) : Int × Int := if validB l = true then (maxI (l.map (·.1)) (nth l 0).1, maxI (l.map (·.2)) (nth l 0).2) else (0, 0)

theorem nth_lt {l : List (Int × Int)} {i : Nat} (h : i < l.length) : nth l i = l[i] := by
  unfold nth
  rw [Nat.mod_eq_of_lt h, List.getD_eq_getElem?_getD, List.getElem?_eq_getElem h]
  rfl
theorem nth_mem {l : List (Int × Int)} (h : l ≠ []) (i : Nat) : nth l i ∈ l := by
  have hl : 0 < l.length := List.length_pos_iff.2 h
  have := Nat.mod_lt i hl
  unfold nth
  rw [List.getD_eq_getElem?_getD, List.getElem?_eq_getElem this]
  exact List.getElem_mem this
theorem nth_mod (l : List (Int × Int)) (i : Nat) : nth l (i % l.length) = nth l i := by
  unfold nth
  rw [Nat.mod_mod]
theorem onL_nth {l : List (Int × Int)} (h : onL l) (hl : 0 < l.length) (i : Nat) : onP (nth l i).1 (nth l i).2 := h _ (nth_mem (List.length_pos_iff.1 hl) i)
theorem sides_length (l : List (Int × Int)) : (sidesL l).length = l.length := by simp [sidesL]
theorem onS_at {l : List (Int × Int)} (h : onL l) (hl : 0 < l.length) (i : Nat) : onS (sideAt l i) := ⟨onL_nth h hl _, onL_nth h hl _⟩
theorem onS_of {l : List (Int × Int)} (h : onL l) {s : Sd} (hs : s ∈ sidesL l) : onS s := by
  obtain ⟨i, hi, rfl⟩ := List.mem_map.1 hs
  have := List.mem_range.1 hi
  exact onS_at h (by omega) i
theorem bends_on {l : List (Int × Int)} (h : bendsB l = true) : onL l := by
  intro p hp
  obtain ⟨i, hi, rfl⟩ := List.mem_iff_getElem.1 hp
  have := List.all_eq_true.1 h i (List.mem_range.2 hi)
  rw [← nth_lt hi]
  unfold turnAt turnV at this
  split at this
  · next hh => exact hh.1
  · simp at this
theorem valid_on {l : List (Int × Int)} (h : validB l = true) : onL l := by
  unfold validB at h
  simp only [Bool.and_eq_true] at h
  exact bends_on h.2.2.1
theorem valid_len {l : List (Int × Int)} (h : validB l = true) : 3 ≤ l.length ∧ l.length ≤ 40 := by
  unfold validB at h
  simp only [Bool.and_eq_true, decide_eq_true_eq] at h
  exact ⟨h.1, h.2.1⟩
theorem part_bd {s : Sd} (h : onS s) : -1073676289 ≤ partS s ∧ partS s ≤ 1073676289 := by
  obtain ⟨⟨⟨a1, a2⟩, a3, a4⟩, ⟨b1, b2⟩, b3, b4⟩ := h
  have h1 := mul_bd (a := s.1.1) (b := s.2.2) (m := 32767) (k := 32767) (by omega) a2 (by omega) b4 (by decide) (by decide)
  have h2 := mul_bd (a := s.2.1) (b := s.1.2) (m := 32767) (k := 32767) (by omega) b2 (by omega) a4 (by decide) (by decide)
  have h3 := Int.mul_nonneg a1 b3
  have h4 := Int.mul_nonneg b1 a3
  unfold partS
  omega
theorem sum_bd (f : Sd → Int) (m : Int) : ∀ ss : List Sd, (∀ s ∈ ss, -m ≤ f s ∧ f s ≤ m) → -(m * ss.length) ≤ sumS f ss ∧ sumS f ss ≤ m * ss.length
  | [], _ => by simp [sumS]
  | s :: ss, h => by
    have h1 := h s (List.mem_cons_self ..)
    have h2 := sum_bd f m ss (fun t ht => h t (List.mem_cons_of_mem _ ht))
    have e : sumS f (s :: ss) = f s + sumS f ss := by simp [sumS]
    have e2 : m * ((s :: ss).length : Int) = m + m * (ss.length : Int) := by
      rw [List.length_cons, Int.natCast_add, Int.mul_add]
      omega
    rw [e, e2]
    omega
theorem sumS_snoc (f : Sd → Int) (ss : List Sd) (s : Sd) : sumS f (ss ++ [s]) = sumS f ss + f s := by simp [sumS]
theorem pass_bd (p : Int × Int) (s : Sd) : -1 ≤ passS p s ∧ passS p s ≤ 1 := by
  unfold passS paV
  split
  · omega
  · split <;> omega
end Go.Proofs.Ytcpcmlonbpccnaa.Ge
