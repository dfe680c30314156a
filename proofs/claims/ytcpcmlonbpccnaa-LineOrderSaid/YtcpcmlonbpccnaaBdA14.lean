/- Lines of streets: their segments, places beside them, and the order of places, on whole numbers. -/
import Derived.Test.YtcpcmlonbpccnaaGeoFeet
import Derived.Test.YtcpcmlonbpccnaaBdA7
namespace Go.Proofs.Ytcpcmlonbpccnaa.Ge
set_option linter.unusedVariables false
set_option linter.unusedSimpArgs false
open Go.Proofs.Ytcpcmlonbpccnaa.Fr

/-- a segment: its number and both ends -/
abbrev Sg := Nat × Pt × Pt
/-- a place: Seg, Part, Side, Away -/
abbrev Sp := Int × (Int × Int) × Int × (Int × Int)
def spV (s : Sp) : Value := .agg #[.int .i64 s.1, .int .i64 s.2.1.1, .int .i64 s.2.1.2, .int .i64 s.2.2.1, .int .i64 s.2.2.2.1, .int .i64 s.2.2.2.2]
def spZ : Sp := (0, (0, 0), 0, (0, 0))
def lnAt (l : List Pt) (i : Nat) : Pt := l.getD i (0, 0)
def sgAt (l : List Pt) (i : Nat) : Sg := (i, lnAt l i, lnAt l (i + 1))
def sgUpto (l : List Pt) (k : Nat) : List Sg := (List.range k).map (sgAt l)
def sgs (l : List Pt) : List Sg := sgUpto l (l.length - 1)
def sgB (x : Sg) : Bool := !(x.2.1 == x.2.2) && (decide (onP x.2.1.1 x.2.1.2) && decide (onP x.2.2.1 x.2.2.2))
def lineB (l : List Pt) : Bool := decide (2 ≤ l.length) && (decide (l.length ≤ 40) && (sgs l).all sgB)
def spotS (p : Pt) (x : Sg) : Sp :=
  ((x.1 : Int), (ftN p.1 p.2 x.2.1.1 x.2.1.2 x.2.2.1 x.2.2.2, ftD p.1 p.2 x.2.1.1 x.2.1.2 x.2.2.1 x.2.2.2), turnV x.2.1.1 x.2.1.2 x.2.2.1 x.2.2.2 p.1 p.2, (ftM p.1 p.2 x.2.1.1 x.2.1.2 x.2.2.1 x.2.2.2, ftE p.1 p.2 x.2.1.1 x.2.1.2 x.2.2.1 x.2.2.2))
/-- the same, also off the grid -/
def spotW (p : Pt) (x : Sg) : Sp := if onP p.1 p.2 ∧ onP x.2.1.1 x.2.1.2 ∧ onP x.2.2.1 x.2.2.2 then spotS p x else ((x.1 : Int), (0, 0), 0, (0, 0))
theorem spotW_on {p : Pt} {x : Sg} (h : onP p.1 p.2) (h1 : onP x.2.1.1 x.2.1.2) (h2 : onP x.2.2.1 x.2.2.2) : spotW p x = spotS p x := if_pos ⟨h, h1, h2⟩
/-- is a fraction less? -/
def fLt (f g : Int × Int) : Bool := decide (cmpV f.1 f.2 g.1 g.2 < 0)
/-- what a keeper keeps, told of one thing more -/
def kp {α : Type} (s : Option (α × (Int × Int))) (x : α) (f : Int × Int) : α × (Int × Int) :=
  match s with
  | none => (x, f)
  | some b => if fLt f b.2 = true then (x, f) else b
def stOf (p : Pt) (pre : List Sg) : Option (Sp × (Int × Int)) := pre.foldl (fun s x => some (kp s (spotW p x) (spotW p x).2.2.2)) none
def bestS (s : Option (Sp × (Int × Int))) : Sp := match s with | none => spZ | some b => b.1
def locB (l : List Pt) (p : Pt) : Bool := lineB l && decide (onP p.1 p.2)
def locS (l : List Pt) (p : Pt) : Sp := if locB l p = true then bestS (stOf p (sgs l)) else spZ
def locE (l : List Pt) (p : Pt) : Int := if locB l p = true then 0 else 1

theorem sgUpto_succ (l : List Pt) (k : Nat) : sgUpto l (k + 1) = sgUpto l k ++ [sgAt l k] := by unfold sgUpto; rw [List.range_succ, List.map_append]; rfl
theorem sgUpto_length (l : List Pt) (k : Nat) : (sgUpto l k).length = k := by simp [sgUpto]
theorem sgUpto_zero (l : List Pt) : sgUpto l 0 = [] := rfl
theorem lnAt_lt {l : List Pt} {i : Nat} (h : i < l.length) : lnAt l i = l[i] := by unfold lnAt; rw [List.getD_eq_getElem?_getD, List.getElem?_eq_getElem h]; rfl
theorem stOf_snoc (p : Pt) (pre : List Sg) (x : Sg) : stOf p (pre ++ [x]) = some (kp (stOf p pre) (spotW p x) (spotW p x).2.2.2) := by unfold stOf; rw [List.foldl_append]; rfl
theorem sgs_mem {l : List Pt} {x : Sg} (h : x ∈ sgs l) : ∃ i, i + 1 < l.length ∧ x = sgAt l i := by
  obtain ⟨i, hi, rfl⟩ := List.mem_map.1 h
  have := List.mem_range.1 hi
  exact ⟨i, by omega, rfl⟩
theorem upto_mem {l : List Pt} {k : Nat} {x : Sg} (h : x ∈ sgUpto l k) (hk : k + 1 ≤ l.length) : x ∈ sgs l := by
  obtain ⟨i, hi, rfl⟩ := List.mem_map.1 h
  have := List.mem_range.1 hi
  exact List.mem_map.2 ⟨i, List.mem_range.2 (by omega), rfl⟩
theorem sgAt_mem {l : List Pt} {i : Nat} (h : i + 1 < l.length) : sgAt l i ∈ sgs l := List.mem_map.2 ⟨i, List.mem_range.2 (by omega), rfl⟩
theorem sgB_iff (x : Sg) : sgB x = true ↔ x.2.1 ≠ x.2.2 ∧ onP x.2.1.1 x.2.1.2 ∧ onP x.2.2.1 x.2.2.2 := by unfold sgB; simp
theorem line_iff (l : List Pt) : lineB l = true ↔ (2 ≤ l.length ∧ l.length ≤ 40) ∧ ∀ i, i + 1 < l.length → lnAt l i ≠ lnAt l (i + 1) ∧ onP (lnAt l i).1 (lnAt l i).2 ∧ onP (lnAt l (i + 1)).1 (lnAt l (i + 1)).2 := by
  unfold lineB
  simp only [Bool.and_eq_true, decide_eq_true_eq, List.all_eq_true]
  constructor
  · rintro ⟨h1, h2, h3⟩
    exact ⟨⟨h1, h2⟩, fun i hi => (sgB_iff _).1 (h3 _ (sgAt_mem hi))⟩
  · rintro ⟨⟨h1, h2⟩, h3⟩
    exact ⟨h1, h2, fun x hx => by obtain ⟨i, hi, rfl⟩ := sgs_mem hx; exact (sgB_iff _).2 (h3 i hi)⟩
/-- a valid line's points are on the grid -/
theorem line_on {l : List Pt} (h : lineB l = true) (i : Nat) (hi : i < l.length) : onP (lnAt l i).1 (lnAt l i).2 := by
  obtain ⟨⟨h1, h2⟩, h3⟩ := (line_iff l).1 h
  by_cases h0 : i + 1 < l.length
  · exact (h3 i h0).2.1
  · have := (h3 (i - 1) (by omega)).2.2
    rwa [show i - 1 + 1 = i by omega] at this

/-! ### the first one of those that are nearest -/
theorem cmp_fl {n d m e : Int} (h : valP n d) (k : valP m e) : (cmpV n d m e < 0 ↔ n * e < m * d) ∧ (cmpV n d m e = 0 ↔ n * e = m * d) ∧ (0 < cmpV n d m e ↔ m * d < n * e) := by
  unfold cmpV
  rw [if_pos ⟨h, k⟩]
  split
  · omega
  · split <;> omega
/-- cross products of valid fractions are an order -/
theorem frac_trans {a b c d e f : Int} (h : valP a b) (k : valP c d) (l : valP e f) (h1 : a * d ≤ c * b) (h2 : c * f ≤ e * d) : a * f ≤ e * b := by
  have hb := h.2.2.1
  have hd := k.2.2.1
  have hf := l.2.2.1
  have m1 : a * d * f ≤ c * b * f := Int.mul_le_mul_of_nonneg_right h1 (by omega)
  have m2 : c * f * b ≤ e * d * b := Int.mul_le_mul_of_nonneg_right h2 (by omega)
  have : d * (a * f) ≤ d * (e * b) := by
    have e1 : d * (a * f) = a * d * f := by grind
    have e2 : c * b * f = c * f * b := by grind
    have e3 : e * d * b = d * (e * b) := by grind
    omega
  exact Int.le_of_mul_le_mul_left this (by omega)
theorem frac_trans_lt {a b c d e f : Int} (h : valP a b) (k : valP c d) (l : valP e f) (h1 : a * d < c * b) (h2 : c * f ≤ e * d) : a * f < e * b := by
  have hb := h.2.2.1
  have hd := k.2.2.1
  have hf := l.2.2.1
  have m1 : a * d * f < c * b * f := Int.mul_lt_mul_of_pos_right h1 (by omega)
  have m2 : c * f * b ≤ e * d * b := Int.mul_le_mul_of_nonneg_right h2 (by omega)
  have : d * (a * f) < d * (e * b) := by
    have e1 : d * (a * f) = a * d * f := by grind
    have e2 : c * b * f = c * f * b := by grind
    have e3 : e * d * b = d * (e * b) := by grind
    omega
  exact Int.lt_of_mul_lt_mul_left this (by omega)
theorem frac_eq {a b c d : Int} (h : valP a b) (k : valP c d) (e : a * d = c * b) : a = c ∧ b = d := by
  refine rat_inj h k ?_
  have hb := h.2.2.1
  have hd := k.2.2.1
  unfold rat
  rw [Rat.mkRat_eq_iff (by omega) (by omega), Int.toNat_of_nonneg (by omega), Int.toNat_of_nonneg (by omega)]
  exact e
end Go.Proofs.Ytcpcmlonbpccnaa.Ge

/- Lines of streets: what the place of a point is, on whole numbers. -/
namespace Go.Proofs.Ytcpcmlonbpccnaa.Ge
set_option linter.unusedVariables false
set_option linter.unusedSimpArgs false
open Go.Proofs.Ytcpcmlonbpccnaa.Fr

/-- the square of the distance of segment i -/
def aw (l : List Pt) (p : Pt) (i : Nat) : Int × Int := (spotS p (sgAt l i)).2.2.2
def fLe (f g : Int × Int) : Prop := f.1 * g.2 ≤ g.1 * f.2
theorem spot_val {p : Pt} {x : Sg} (hp : onP p.1 p.2) (hx : sgB x = true) : valP (spotS p x).2.1.1 (spotS p x).2.1.2 ∧ valP (spotS p x).2.2.2.1 (spotS p x).2.2.2.2 := by
  obtain ⟨-, h1, h2⟩ := (sgB_iff x).1 hx
  exact ft_val hp h1 h2
theorem line_sgB {l : List Pt} (h : lineB l = true) {i : Nat} (hi : i + 1 < l.length) : sgB (sgAt l i) = true := (sgB_iff _).2 (((line_iff l).1 h).2 i hi)
theorem aw_val {l : List Pt} {p : Pt} (h : lineB l = true) (hp : onP p.1 p.2) {i : Nat} (hi : i + 1 < l.length) : valP (aw l p i).1 (aw l p i).2 := (spot_val hp (line_sgB h hi)).2
theorem fLt_iff {f g : Int × Int} (h : valP f.1 f.2) (k : valP g.1 g.2) : fLt f g = true ↔ f.1 * g.2 < g.1 * f.2 := by
  unfold fLt
  rw [decide_eq_true_eq]
  exact (cmp_fl h k).1
theorem st_spec {l : List Pt} {p : Pt} (h : lineB l = true) (hp : onP p.1 p.2) : ∀ k, 1 ≤ k → k + 1 ≤ l.length →
    ∃ j, j < k ∧ stOf p (sgUpto l k) = some (spotS p (sgAt l j), aw l p j) ∧ (∀ i, i < k → fLe (aw l p j) (aw l p i)) ∧ ∀ i, i < j → (aw l p j).1 * (aw l p i).2 < (aw l p i).1 * (aw l p j).2
  | 0, h0, _ => absurd h0 (by omega)
  | 1, _, hk => by
    have hx := (sgB_iff _).1 (line_sgB h (i := 0) (by omega))
    refine ⟨0, by omega, ?_, fun i hi => ?_, fun i hi => absurd hi (Nat.not_lt_zero _)⟩
    · show some (kp none (spotW p (sgAt l 0)) (spotW p (sgAt l 0)).2.2.2) = _
      rw [spotW_on hp hx.2.1 hx.2.2]
      rfl
    · obtain rfl : i = 0 := by omega
      exact Int.le_refl _
  | k + 2, _, hk => by
    obtain ⟨j, hj, e, h1, h2⟩ := st_spec h hp (k + 1) (by omega) (by omega)
    have vj := aw_val h hp (i := j) (by omega)
    have vk := aw_val h hp (i := k + 1) (by omega)
    have hx := (sgB_iff _).1 (line_sgB h (i := k + 1) (by omega))
    rw [sgUpto_succ, stOf_snoc, e, spotW_on hp hx.2.1 hx.2.2]
    have ef : (spotS p (sgAt l (k + 1))).2.2.2 = aw l p (k + 1) := rfl
    rw [ef]
    unfold kp
    dsimp only
    by_cases hlt : fLt (aw l p (k + 1)) (aw l p j) = true
    · rw [if_pos hlt]
      have hl := (fLt_iff vk vj).1 hlt
      refine ⟨k + 1, by omega, rfl, fun i hi => ?_, fun i hi => ?_⟩
      · rcases Nat.lt_or_ge i (k + 1) with m | m
        · exact frac_trans vk vj (aw_val h hp (by omega)) (Int.le_of_lt hl) (h1 i m)
        · obtain rfl : i = k + 1 := by omega
          exact Int.le_refl _
      · exact frac_trans_lt vk vj (aw_val h hp (by omega)) hl (h1 i hi)
    · rw [if_neg hlt]
      have hl : ¬ (aw l p (k + 1)).1 * (aw l p j).2 < (aw l p j).1 * (aw l p (k + 1)).2 := fun m => hlt ((fLt_iff vk vj).2 m)
      refine ⟨j, by omega, rfl, fun i hi => ?_, h2⟩
      rcases Nat.lt_or_ge i (k + 1) with m | m
      · exact h1 i m
      · obtain rfl : i = k + 1 := by omega
        exact Int.not_lt.1 hl
/-- the place of a point is that of the first segment of those that are nearest -/
theorem loc_spec {l : List Pt} {p : Pt} (h : lineB l = true) (hp : onP p.1 p.2) :
    ∃ j, j + 1 < l.length ∧ locS l p = spotS p (sgAt l j) ∧ (∀ i, i + 1 < l.length → fLe (aw l p j) (aw l p i)) ∧ ∀ i, i < j → (aw l p j).1 * (aw l p i).2 < (aw l p i).1 * (aw l p j).2 := by
  have hl := ((line_iff l).1 h).1
  obtain ⟨j, hj, e, h1, h2⟩ := st_spec h hp (l.length - 1) (by omega) (by omega)
  refine ⟨j, by omega, ?_, fun i hi => h1 i (by omega), h2⟩
  have hb : locB l p = true := by unfold locB; simp [h, hp]
  unfold locS sgs
  rw [if_pos hb, e]
  rfl
theorem locE_ok {l : List Pt} {p : Pt} (h : lineB l = true) (hp : onP p.1 p.2) : locE l p = 0 := by
  unfold locE locB
  rw [if_pos (by simp [h, hp])]
theorem loc_no {l : List Pt} {p : Pt} (h : ¬ (lineB l = true ∧ onP p.1 p.2)) : locE l p = 1 ∧ locS l p = spZ := by
  have : ¬ locB l p = true := by unfold locB; simpa using h
  unfold locE locS
  rw [if_neg this, if_neg this]
  exact ⟨rfl, rfl⟩
/-- a cross product of fractions as Compare's answer -/
theorem le_cmp {f g : Int × Int} (h : valP f.1 f.2) (k : valP g.1 g.2) (hl : fLe f g) : cmpE g.1 g.2 f.1 f.2 = 0 ∧ 0 ≤ cmpV g.1 g.2 f.1 f.2 := by
  have := cmp_fl k h
  refine ⟨by unfold cmpE; rw [if_pos ⟨k, h⟩], ?_⟩
  unfold fLe at hl
  omega
theorem lt_cmp' {f g : Int × Int} (h : valP f.1 f.2) (k : valP g.1 g.2) (hl : f.1 * g.2 < g.1 * f.2) : 0 < cmpV g.1 g.2 f.1 f.2 := (cmp_fl k h).2.2.2 hl
/-- the place is on the segment exactly if Away is 0 -/
theorem aw_zero {l : List Pt} {p : Pt} (h : lineB l = true) (hp : onP p.1 p.2) {i : Nat} (hi : i + 1 < l.length) :
    (betB p.1 p.2 (lnAt l i).1 (lnAt l i).2 (lnAt l (i + 1)).1 (lnAt l (i + 1)).2 = true ↔ (aw l p i).1 = 0) ∧ 0 ≤ (aw l p i).1 ∧ (betB p.1 p.2 (lnAt l i).1 (lnAt l i).2 (lnAt l (i + 1)).1 (lnAt l (i + 1)).2 = true → (aw l p i).2 = 1) := by
  obtain ⟨-, h1, h2⟩ := ((line_iff l).1 h).2 i hi
  have c := (ft_cmps hp h1 h2).2.1
  refine ⟨?_, by show 0 ≤ ftM p.1 p.2 (lnAt l i).1 (lnAt l i).2 (lnAt l (i + 1)).1 (lnAt l (i + 1)).2; omega, fun k => ?_⟩
  · show _ ↔ ftM p.1 p.2 (lnAt l i).1 (lnAt l i).2 (lnAt l (i + 1)).1 (lnAt l (i + 1)).2 = 0
    rcases ft_none hp h1 h2 with ⟨a, b, -⟩ | ⟨a, b⟩
    · exact ⟨fun _ => b, fun _ => a⟩
    · exact ⟨fun k => (by rw [a] at k; cases k), fun k => absurd k b⟩
  · rcases ft_none hp h1 h2 with ⟨a, -, b⟩ | ⟨a, b⟩
    · exact b
    · rw [a] at k; cases k
theorem on_any_iff {l : List Pt} {p : Pt} (h : lineB l = true) (hp : onP p.1 p.2) {j : Nat} (hj : j + 1 < l.length) (hm : ∀ i, i + 1 < l.length → fLe (aw l p j) (aw l p i)) :
    (∃ i, i + 1 < l.length ∧ betB p.1 p.2 (lnAt l i).1 (lnAt l i).2 (lnAt l (i + 1)).1 (lnAt l (i + 1)).2 = true) ↔ (aw l p j).1 = 0 := by
  constructor
  · rintro ⟨i, hi, hb⟩
    have z := (aw_zero h hp hi).1.1 hb
    have e := (aw_zero h hp hi).2.2 hb
    have := hm i hi
    unfold fLe at this
    rw [z, e] at this
    have := (aw_zero h hp hj).2.1
    omega
  · exact fun k => ⟨j, hj, (aw_zero h hp hj).1.2 k⟩
theorem turn_zero {p : Pt} {x : Sg} (hp : onP p.1 p.2) (hx : sgB x = true) : (spotS p x).2.2.1 = 0 ↔ areaN x.2.1.1 x.2.1.2 x.2.2.1 x.2.2.2 p.1 p.2 = 0 := by
  obtain ⟨-, h1, h2⟩ := (sgB_iff x).1 hx
  show turnV .. = 0 ↔ _
  unfold turnV
  rw [if_pos ⟨h1, h2, hp⟩]
  have := sgn_cases (areaN x.2.1.1 x.2.1.2 x.2.2.1 x.2.2.2 p.1 p.2)
  omega
/-- on the segment Side is 0; inside the segment only there -/
theorem side_zero {l : List Pt} {p : Pt} (h : lineB l = true) (hp : onP p.1 p.2) {j : Nat} (hj : j + 1 < l.length) :
    ((aw l p j).1 = 0 → (spotS p (sgAt l j)).2.2.1 = 0) ∧ (0 < (spotS p (sgAt l j)).2.1.1 → (spotS p (sgAt l j)).2.1.1 < (spotS p (sgAt l j)).2.1.2 → (spotS p (sgAt l j)).2.2.1 = 0 → (aw l p j).1 = 0) := by
  obtain ⟨hne, h1, h2⟩ := ((line_iff l).1 h).2 j hj
  have hS := dist_nonneg (lnAt l j).1 (lnAt l j).2 (lnAt l (j + 1)).1 (lnAt l (j + 1)).2
  have hab : ¬ ((lnAt l j).1 = (lnAt l (j + 1)).1 ∧ (lnAt l j).2 = (lnAt l (j + 1)).2) := fun e => hne (Prod.ext e.1 e.2)
  rw [turn_zero hp (line_sgB h hj)]
  refine ⟨fun k => ?_, fun k1 k2 k3 => ?_⟩
  · have hb := (aw_zero h hp hj).1.2 k
    unfold betB at hb
    rw [decide_eq_true_eq] at hb
    have hh := hb.2.2.2
    unfold hasP at hh
    rw [if_neg hab] at hh
    exact hh.1
  · have k3' : areaN (lnAt l j).1 (lnAt l j).2 (lnAt l (j + 1)).1 (lnAt l (j + 1)).2 p.1 p.2 = 0 := k3
    have k1' : 0 < ftN p.1 p.2 (lnAt l j).1 (lnAt l j).2 (lnAt l (j + 1)).1 (lnAt l (j + 1)).2 := k1
    have k2' : ftN p.1 p.2 (lnAt l j).1 (lnAt l j).2 (lnAt l (j + 1)).1 (lnAt l (j + 1)).2 < ftD p.1 p.2 (lnAt l j).1 (lnAt l j).2 (lnAt l (j + 1)).1 (lnAt l (j + 1)).2 := k2
    refine (aw_zero h hp hj).1.1 ?_
    unfold betB
    rw [decide_eq_true_eq]
    refine ⟨hp, h1, h2, ?_⟩
    unfold hasP
    rw [if_neg hab]
    rcases ft_case p.1 p.2 (lnAt l j).1 (lnAt l j).2 (lnAt l (j + 1)).1 (lnAt l (j + 1)).2 hS with ⟨-, e1, e2, -⟩ | ⟨-, -, e1, e2, -⟩ | ⟨a1, a2, -⟩
    · rw [e1] at k1'; omega
    · rw [e1, e2] at k2'; omega
    · exact ⟨k3', by omega, by omega⟩
end Go.Proofs.Ytcpcmlonbpccnaa.Ge
