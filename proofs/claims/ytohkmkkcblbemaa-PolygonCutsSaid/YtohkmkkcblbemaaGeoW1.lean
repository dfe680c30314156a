/- Walks over package geom: points, segments, turns. -/
import Derived.Test.YtohkmkkcblbemaaGeoMath
import Derived.Test.YtohkmkkcblbemaaFrcW4
import Derived.RegionTactic
import Derived.Deep.DeepCutAuto
import Derived.Deep.RegionHeld3
namespace Go.Proofs.Ytohkmkkcblbemaa.Ge
set_option linter.unusedVariables false
set_option linter.unusedSimpArgs false
open Go.RowKit
open Go.Proofs.Ytohkmkkcblbemaa.Fr (Two)

theorem at_any (x y : Int) (w : World) :
    Calls Try.prog 14 #[.int .i64 x, .int .i64 y] w fun e w' => e = .returned (.agg #[.int .i64 x, .int .i64 y]) ∧ Below w.heap.size w w' := by
  go_enter Try.func14, Try.ntmps14
  go_wp2_with fail
  refine bodyPost_ret (v := .agg #[.int .i64 x, .int .i64 y]) ?_ rfl ⟨rfl, ?_⟩
  · simp [results, Try.results14, go_sem]
  · exact (Below.refl _ _).alloc (Nat.le_refl _) _

theorem two_set2 {w : World} {B : Nat} {t : TypeId} {x y : Value} (h : Two w B t x y) (a b : Value) : Two ((w.setCell ⟨B, 0, none⟩ a).setCell ⟨B, 1, none⟩ b) B t a b := by
  unfold Two at h ⊢
  rw [heap_setCell_same _ _ _ _ _ _ (heap_setCell_same _ _ _ _ _ _ h)]
  rfl
theorem set2_below {B b : Nat} {w wx : World} (h : Below B w wx) (hb : B ≤ b) (x y : Value) : Below B w ((wx.setCell ⟨b, 0, none⟩ x).setCell ⟨b, 1, none⟩ y) :=
  (h.setCell (p := ⟨b, 0, none⟩) hb _).setCell (p := ⟨b, 1, none⟩) hb _

/-- a coordinate taken modulo the size of the grid -/
theorem grid_mod (x : Int) : (x.tmod 32768 + 32768).tmod 32768 = x % 32768 := by
  have h1 := Int.mul_tdiv_add_tmod x 32768
  have h2 := Int.tmod_lt_of_pos x (b := 32768) (by decide)
  have h3 := Int.lt_tmod_of_pos x (b := 32768) (by decide)
  rw [Int.tmod_eq_emod_of_nonneg (by omega)]
  omega
theorem grid_any (x y : Int) (w : World) (hx1 : -9223372036854775808 ≤ x) (hx2 : x ≤ 9223372036854775807) (hy1 : -9223372036854775808 ≤ y) (hy2 : y ≤ 9223372036854775807) :
    Calls Try.prog 13 #[.agg #[.int .i64 x, .int .i64 y]] w fun e w' => e = .returned (.agg #[.int .i64 (x % 32768), .int .i64 (y % 32768)]) ∧ Below w.heap.size w w' := by
  have h2 := Int.tmod_lt_of_pos x (b := 32768) (by decide)
  have h3 := Int.lt_tmod_of_pos x (b := 32768) (by decide)
  have h4 := Int.tmod_lt_of_pos y (b := 32768) (by decide)
  have h5 := Int.lt_tmod_of_pos y (b := 32768) (by decide)
  have ex : x.tmod 32768 % 32768 = x % 32768 := by
    have := Int.mul_tdiv_add_tmod x 32768
    omega
  have ey : y.tmod 32768 % 32768 = y % 32768 := by
    have := Int.mul_tdiv_add_tmod y 32768
    omega
  go_enter Try.func13, Try.ntmps13
  go_wp2_with fail
  refine (at_any _ _ _).mono ?_
  rintro r w1 ⟨rfl, hb1⟩
  have o2 : Two w1 (w.heap.size + 1) 23 (.int .i64 0) (.int .i64 0) := (Two.at (by simp) _ _ _).below hb1 (by simp)
  obtain ⟨c1, c2, f1, f2⟩ := o2.facts
  have hs : w.heap.size + 1 + 1 ≤ w1.heap.size := by simpa using hb1.size
  go_wp2_with fail
  have o3 := two_set2 o2 (.int .i64 (x % 32768)) (.int .i64 (y % 32768))
  obtain ⟨d1, d2, -, -⟩ := o3.facts
  refine bodyPost_ret (v := .agg #[.int .i64 (x % 32768), .int .i64 (y % 32768)]) ?_ rfl ⟨rfl, ?_⟩
  · simp only [results, Try.results13, go_sem, ex, ey] at d1 d2 ⊢
    simp [d1, d2, ex, ey, go_sem]
  · have hb2 := (((Below.refl w.heap.size w).alloc (Nat.le_refl _) (.cells #[.int .i64 x, .int .i64 y] 23)).alloc (by simp) (.cells #[.int .i64 0, .int .i64 0] 23)).trans (hb1.mono (by simp; omega))
    exact set2_below hb2 (by omega) _ _

theorem on_yes (x y : Int) (h : onP x y) (w : World) :
    Calls Try.prog 37 #[.agg #[.int .i64 x, .int .i64 y]] w fun e w' => e = .returned (.bool true) ∧ Below w.heap.size w w' := by
  obtain ⟨⟨h1, h2⟩, h3, h4⟩ := h
  go_enter Try.func37, Try.ntmps37
  go_wp2_with fail
  go_ret
  exact ⟨rfl, (Below.refl _ _).alloc (Nat.le_refl _) _⟩
theorem on_no (x y : Int) (h : ¬ onP x y) (w : World) :
    Calls Try.prog 37 #[.agg #[.int .i64 x, .int .i64 y]] w fun e w' => e = .returned (.bool false) ∧ Below w.heap.size w w' := by
  unfold onP at h
  by_cases h1 : 0 ≤ x
  · by_cases h2 : x ≤ 32767
    · by_cases h3 : 0 ≤ y
      · have h4 : decide (y ≤ 32767) = false := by simp; omega
        clear h
        go_enter Try.func37, Try.ntmps37
        go_wp2_with fail
        go_ret
        exact ⟨rfl, (Below.refl _ _).alloc (Nat.le_refl _) _⟩
      · have h4 : decide (0 ≤ y) = false := by simpa using h3
        clear h
        go_enter Try.func37, Try.ntmps37
        go_wp2_with fail
        go_ret
        exact ⟨rfl, (Below.refl _ _).alloc (Nat.le_refl _) _⟩
    · have h4 : decide (x ≤ 32767) = false := by simpa using h2
      clear h
      go_enter Try.func37, Try.ntmps37
      go_wp2_with fail
      go_ret
      exact ⟨rfl, (Below.refl _ _).alloc (Nat.le_refl _) _⟩
  · have h4 : decide (0 ≤ x) = false := by simpa using h1
    clear h
    go_enter Try.func37, Try.ntmps37
    go_wp2_with fail
    go_ret
    exact ⟨rfl, (Below.refl _ _).alloc (Nat.le_refl _) _⟩
theorem on_any (x y : Int) (w : World) :
    Calls Try.prog 37 #[.agg #[.int .i64 x, .int .i64 y]] w fun e w' => e = .returned (.bool (decide (onP x y))) ∧ Below w.heap.size w w' := by
  by_cases h : onP x y
  · rw [decide_eq_true h]; exact on_yes x y h w
  · rw [decide_eq_false h]; exact on_no x y h w

theorem join_any (ax ay bx bz : Int) (w : World) :
    Calls Try.prog 41 #[.agg #[.int .i64 ax, .int .i64 ay], .agg #[.int .i64 bx, .int .i64 bz]] w fun e w' => e = .returned (.agg #[.int .i64 ax, .int .i64 ay, .int .i64 bx, .int .i64 bz]) ∧ Below w.heap.size w w' := by
  go_enter Try.func41, Try.ntmps41
  go_wp2_with fail
  refine bodyPost_ret (v := .agg #[.int .i64 ax, .int .i64 ay, .int .i64 bx, .int .i64 bz]) ?_ rfl ⟨rfl, ?_⟩
  · simp [results, Try.results41, go_sem]
  · exact (((Below.refl _ _).alloc (Nat.le_refl _) _).alloc (by simp) _).alloc (by simp; omega) _
theorem along_any (ax ay bx bz cx cy : Int) (ha : onP ax ay) (hb : onP bx bz) (hc : onP cx cy) (w : World) :
    Calls Try.prog 42 #[.agg #[.int .i64 ax, .int .i64 ay, .int .i64 bx, .int .i64 bz], .agg #[.int .i64 cx, .int .i64 cy]] w fun e w' => e = .returned (.int .i64 (alongN ax ay bx bz cx cy)) ∧ Below w.heap.size w w' := by
  obtain ⟨⟨a1, a2⟩, a3, a4⟩ := ha
  obtain ⟨⟨b1, b2⟩, b3, b4⟩ := hb
  obtain ⟨⟨c1, c2⟩, c3, c4⟩ := hc
  have h1 := p_bd (d_bd a1 a2 b1 b2) (d_bd a1 a2 c1 c2)
  have h2 := p_bd (d_bd a3 a4 b3 b4) (d_bd a3 a4 c3 c4)
  go_enter Try.func42, Try.ntmps42
  go_wp2_with fail
  go_ret
  exact ⟨rfl, ((Below.refl _ _).alloc (Nat.le_refl _) _).alloc (by simp) _⟩
theorem turn_any (ax ay bx bz cx cy : Int) (ha : onP ax ay) (hb : onP bx bz) (hc : onP cx cy) (w : World) :
    Calls Try.prog 43 #[.agg #[.int .i64 ax, .int .i64 ay, .int .i64 bx, .int .i64 bz], .agg #[.int .i64 cx, .int .i64 cy]] w fun e w' => e = .returned (.int .i64 (areaN ax ay bx bz cx cy)) ∧ Below w.heap.size w w' := by
  obtain ⟨⟨a1, a2⟩, a3, a4⟩ := ha
  obtain ⟨⟨b1, b2⟩, b3, b4⟩ := hb
  obtain ⟨⟨c1, c2⟩, c3, c4⟩ := hc
  have h1 := p_bd (d_bd a1 a2 b1 b2) (d_bd a3 a4 c3 c4)
  have h2 := p_bd (d_bd a3 a4 b3 b4) (d_bd a1 a2 c1 c2)
  go_enter Try.func43, Try.ntmps43
  go_wp2_with fail
  go_ret
  exact ⟨rfl, ((Below.refl _ _).alloc (Nat.le_refl _) _).alloc (by simp) _⟩
theorem nan_any (n : Int) (w : World) :
    Calls Try.prog 82 #[.int .i64 n] w fun e w' => e = .returned (.bool false) ∧ w = w' := by
  have h : (n != n) = false := by simp
  go_enter Try.func82, Try.ntmps82
  go_wp2_with fail
  go_ret
  exact ⟨rfl, rfl⟩
theorem sign_any (n : Int) (w : World) :
    Calls Try.prog 67 #[.int .i64 n, .int .i64 0] w fun e w' => e = .returned (.int .i64 (sgnI n)) ∧ w = w' := by
  unfold sgnI
  by_cases h1 : n < 0
  · rw [if_pos h1]
    go_enter Try.func67, Try.ntmps67
    go_wp2_with fail
    refine (nan_any _ _).mono ?_
    rintro r w' ⟨rfl, rfl⟩
    go_wp2_with fail
    refine (nan_any _ _).mono ?_
    rintro r w' ⟨rfl, rfl⟩
    go_wp2_with fail
    go_ret
    exact ⟨rfl, rfl⟩
  · rw [if_neg h1]
    have h2 : decide (n < 0) = false := by simpa using h1
    by_cases h3 : 0 < n
    · rw [if_pos h3]
      clear h1
      go_enter Try.func67, Try.ntmps67
      go_wp2_with fail
      refine (nan_any _ _).mono ?_
      rintro r w' ⟨rfl, rfl⟩
      go_wp2_with fail
      refine (nan_any _ _).mono ?_
      rintro r w' ⟨rfl, rfl⟩
      go_wp2_with fail
      go_ret
      exact ⟨rfl, rfl⟩
    · rw [if_neg h3]
      have h4 : decide (0 < n) = false := by simpa using h3
      clear h1 h3
      go_enter Try.func67, Try.ntmps67
      go_wp2_with fail
      refine (nan_any _ _).mono ?_
      rintro r w' ⟨rfl, rfl⟩
      go_wp2_with fail
      refine (nan_any _ _).mono ?_
      rintro r w' ⟨rfl, rfl⟩
      go_wp2_with fail
      go_ret
      exact ⟨rfl, rfl⟩
theorem side_any (ax ay bx bz cx cy : Int) (ha : onP ax ay) (hb : onP bx bz) (hc : onP cx cy) (w : World) :
    Calls Try.prog 45 #[.agg #[.int .i64 ax, .int .i64 ay, .int .i64 bx, .int .i64 bz], .agg #[.int .i64 cx, .int .i64 cy]] w fun e w' => e = .returned (.int .i64 (sgnI (areaN ax ay bx bz cx cy))) ∧ Below w.heap.size w w' := by
  go_enter Try.func45, Try.ntmps45
  go_wp2_with fail
  refine (turn_any _ _ _ _ _ _ ha hb hc _).mono ?_
  rintro r w1 ⟨rfl, hb1⟩
  go_wp2_with fail
  refine (sign_any _ _).mono ?_
  rintro r w' ⟨rfl, rfl⟩
  go_wp2_with fail
  go_ret
  exact ⟨rfl, (((Below.refl _ _).alloc (Nat.le_refl _) _).alloc (by simp) _).trans (hb1.mono (by simp; omega))⟩
end Go.Proofs.Ytohkmkkcblbemaa.Ge
