/- Plain mathematics of GeomMoves: points that are moved, or have their coordinates exchanged. -/
import Derived.Test.YtohkmkkcblbemaaGeoLaw
namespace Go.Proofs.Ytohkmkkcblbemaa.Ge
set_option linter.unusedVariables false
set_option linter.unusedSimpArgs false

/-! What follows if turns agree but for a sign, and ways along segments agree -/
theorem like_turn {ax ay bx bz cx cy ax' ay' bx' bz' cx' cy' s : Int} (hs : s = 1 ∨ s = -1) (ha : onP ax ay) (hb : onP bx bz) (hc : onP cx cy) (ha' : onP ax' ay') (hb' : onP bx' bz') (hc' : onP cx' cy')
    (h : areaN ax' ay' bx' bz' cx' cy' = s * areaN ax ay bx bz cx cy) : turnV ax' ay' bx' bz' cx' cy' = s * turnV ax ay bx bz cx cy := by
  rw [turn_on ha hb hc, turn_on ha' hb' hc', h]
  rcases hs with rfl | rfl
  · rw [Int.one_mul, Int.one_mul]
  · have e : ∀ n : Int, -1 * n = -n := fun n => by omega
    rw [e, e, sgn_neg]
theorem like_has {ax ay bx bz cx cy ax' ay' bx' bz' cx' cy' s : Int} (hs : s = 1 ∨ s = -1) (h : areaN ax' ay' bx' bz' cx' cy' = s * areaN ax ay bx bz cx cy)
    (h1 : distN ax' ay' cx' cy' = distN ax ay cx cy) (h2 : distN cx' cy' bx' bz' = distN cx cy bx bz) (h3 : distN ax' ay' bx' bz' = distN ax ay bx bz) : hasB ax' ay' bx' bz' cx' cy' = hasB ax ay bx bz cx cy := by
  rw [Bool.eq_iff_iff]
  unfold hasB
  rw [decide_eq_true_iff, decide_eq_true_iff, has_iff, has_iff, h, h1, h2, h3]
  rcases hs with rfl | rfl <;> omega
theorem like_apart {ax ay bx bz cx cy dx dy ax' ay' bx' bz' cx' cy' dx' dy' s : Int} (hs : s = 1 ∨ s = -1) (h1 : areaN cx' cy' dx' dy' ax' ay' = s * areaN cx cy dx dy ax ay) (h2 : areaN cx' cy' dx' dy' bx' bz' = s * areaN cx cy dx dy bx bz) :
    apartB ax' ay' bx' bz' cx' cy' dx' dy' = apartB ax ay bx bz cx cy dx dy := by
  unfold apartB
  rw [h1, h2]
  rcases hs with rfl | rfl
  · rw [Int.one_mul, Int.one_mul]
  · have e : ∀ n : Int, -1 * n = -n := fun n => by omega
    rw [e, e, sgn_neg, sgn_neg, neg_prod]
theorem like_foot {px py ax ay bx bz px' py' ax' ay' bx' bz' s : Int} (hs : s = 1 ∨ s = -1) (h : areaN ax' ay' bx' bz' px' py' = s * areaN ax ay bx bz px py) (h0 : alongN ax' ay' bx' bz' px' py' = alongN ax ay bx bz px py)
    (h1 : distN ax' ay' bx' bz' = distN ax ay bx bz) (h2 : distN px' py' ax' ay' = distN px py ax ay) (h3 : distN px' py' bx' bz' = distN px py bx bz) :
    ftN px' py' ax' ay' bx' bz' = ftN px py ax ay bx bz ∧ ftD px' py' ax' ay' bx' bz' = ftD px py ax ay bx bz ∧ ftM px' py' ax' ay' bx' bz' = ftM px py ax ay bx bz ∧ ftE px' py' ax' ay' bx' bz' = ftE px py ax ay bx bz := by
  have hq : areaN ax' ay' bx' bz' px' py' * areaN ax' ay' bx' bz' px' py' = areaN ax ay bx bz px py * areaN ax ay bx bz px py := by
    rw [h]
    rcases hs with rfl | rfl
    · rw [Int.one_mul]
    · have e : ∀ n : Int, -1 * n = -n := fun n => by omega
      rw [e, neg_prod]
  unfold ftN ftD ftM ftE
  rw [h0, h1, h2, h3, hq]
  exact ⟨rfl, rfl, rfl, rfl⟩
/-- four points with other ones of the same form -/
structure Like (ax ay bx bz cx cy dx dy ax' ay' bx' bz' cx' cy' dx' dy' s : Int) : Prop where
  turn : turnV ax' ay' bx' bz' cx' cy' = s * turnV ax ay bx bz cx cy
  dist : distV ax' ay' bx' bz' = distV ax ay bx bz
  cross : crossV ax' ay' bx' bz' cx' cy' dx' dy' = crossV ax ay bx bz cx cy dx dy
  n : ftN ax' ay' bx' bz' cx' cy' = ftN ax ay bx bz cx cy
  d : ftD ax' ay' bx' bz' cx' cy' = ftD ax ay bx bz cx cy
  m : ftM ax' ay' bx' bz' cx' cy' = ftM ax ay bx bz cx cy
  e : ftE ax' ay' bx' bz' cx' cy' = ftE ax ay bx bz cx cy
theorem like_of {ax ay bx bz cx cy dx dy ax' ay' bx' bz' cx' cy' dx' dy' s : Int} (hs : s = 1 ∨ s = -1)
    (ha : onP ax ay) (hb : onP bx bz) (hc : onP cx cy) (hd : onP dx dy) (ha' : onP ax' ay') (hb' : onP bx' bz') (hc' : onP cx' cy') (hd' : onP dx' dy')
    (A1 : areaN ax' ay' bx' bz' cx' cy' = s * areaN ax ay bx bz cx cy) (A2 : areaN ax' ay' bx' bz' dx' dy' = s * areaN ax ay bx bz dx dy)
    (A3 : areaN cx' cy' dx' dy' ax' ay' = s * areaN cx cy dx dy ax ay) (A4 : areaN cx' cy' dx' dy' bx' bz' = s * areaN cx cy dx dy bx bz) (A5 : areaN bx' bz' cx' cy' ax' ay' = s * areaN bx bz cx cy ax ay)
    (L : alongN bx' bz' cx' cy' ax' ay' = alongN bx bz cx cy ax ay)
    (ab : distN ax' ay' bx' bz' = distN ax ay bx bz) (ac : distN ax' ay' cx' cy' = distN ax ay cx cy) (ad : distN ax' ay' dx' dy' = distN ax ay dx dy)
    (bc : distN bx' bz' cx' cy' = distN bx bz cx cy) (bd : distN bx' bz' dx' dy' = distN bx bz dx dy) (cd : distN cx' cy' dx' dy' = distN cx cy dx dy) :
    Like ax ay bx bz cx cy dx dy ax' ay' bx' bz' cx' cy' dx' dy' s := by
  have sy : ∀ {p q r t p' q' r' t' : Int}, distN p' q' r' t' = distN p q r t → distN r' t' p' q' = distN r t p q := fun {p q r t p' q' r' t'} h => by rw [dist_symm p q r t, dist_symm p' q' r' t', h]
  obtain ⟨f1, f2, f3, f4⟩ := like_foot hs A5 L bc ab ac
  refine ⟨like_turn hs ha hb hc ha' hb' hc' A1, by rw [dist_on ha hb, dist_on ha' hb', ab], ?_, f1, f2, f3, f4⟩
  rw [cross_on ha hb hc hd, cross_on ha' hb' hc' hd', like_apart hs A3 A4, like_apart hs A1 A2, like_has hs A1 ac (sy bc) ab, like_has hs A2 ad (sy bd) ab, like_has hs A3 (sy ac) ad cd, like_has hs A4 (sy bc) bd cd]
theorem like_moved {ax ay bx bz cx cy dx dy x y : Int} (ha : onP ax ay) (hb : onP bx bz) (hc : onP cx cy) (hd : onP dx dy)
    (ha' : onP (ax + x) (ay + y)) (hb' : onP (bx + x) (bz + y)) (hc' : onP (cx + x) (cy + y)) (hd' : onP (dx + x) (dy + y)) :
    Like ax ay bx bz cx cy dx dy (ax + x) (ay + y) (bx + x) (bz + y) (cx + x) (cy + y) (dx + x) (dy + y) 1 := by
  have A : ∀ p q r t u v : Int, areaN (p + x) (q + y) (r + x) (t + y) (u + x) (v + y) = 1 * areaN p q r t u v := fun p q r t u v => by unfold areaN; grind
  have G : ∀ p q r t u v : Int, alongN (p + x) (q + y) (r + x) (t + y) (u + x) (v + y) = alongN p q r t u v := fun p q r t u v => by unfold alongN; grind
  exact like_of (.inl rfl) ha hb hc hd ha' hb' hc' hd' (A ..) (A ..) (A ..) (A ..) (A ..) (G ..) (G ..) (G ..) (G ..) (G ..) (G ..) (G ..)
theorem on_swap {x y : Int} (h : onP x y) : onP y x := ⟨h.2, h.1.1, h.1.2⟩
theorem like_swapped {ax ay bx bz cx cy dx dy : Int} (ha : onP ax ay) (hb : onP bx bz) (hc : onP cx cy) (hd : onP dx dy) :
    Like ax ay bx bz cx cy dx dy ay ax bz bx cy cx dy dx (-1) := by
  have A : ∀ p q r t u v : Int, areaN q p t r v u = -1 * areaN p q r t u v := fun p q r t u v => by unfold areaN; grind
  have G : ∀ p q r t u v : Int, alongN q p t r v u = alongN p q r t u v := fun p q r t u v => by unfold alongN; grind
  exact like_of (.inr rfl) ha hb hc hd (on_swap ha) (on_swap hb) (on_swap hc) (on_swap hd) (A ..) (A ..) (A ..) (A ..) (A ..) (G ..) (G ..) (G ..) (G ..) (G ..) (G ..) (G ..)
end Go.Proofs.Ytohkmkkcblbemaa.Ge
