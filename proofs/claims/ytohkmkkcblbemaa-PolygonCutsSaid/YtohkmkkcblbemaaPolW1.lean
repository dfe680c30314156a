/- Walks over package polygon: what a side says of a place, of a corner, of another side. -/
import Derived.Test.YtohkmkkcblbemaaPolMath
import Derived.Test.YtohkmkkcblbemaaGeoW7
import Derived.Test.YtohkmkkcblbemaaGeoW5
import Derived.Test.YtohkmkkcblbemaaGeoPts
namespace Go.Proofs.Ytohkmkkcblbemaa.Ge
set_option linter.unusedVariables false
set_option linter.unusedSimpArgs false
open Go.RowKit
open Go.Proofs.Ytohkmkkcblbemaa.Fr (Two)

theorem middle_any (ax ay bx bz : Int) (ha : onP ax ay) (hb : onP bx bz) (w : World) :
    Calls Try.prog 58 #[.agg #[.int .i64 ax, .int .i64 ay], .agg #[.int .i64 bx, .int .i64 bz]] w fun e w' => e = .returned (.agg #[.int .i64 (ax + bx), .int .i64 (ay + bz)]) ∧ Below w.heap.size w w' := by
  obtain ⟨⟨a1, a2⟩, a3, a4⟩ := ha
  obtain ⟨⟨b1, b2⟩, b3, b4⟩ := hb
  go_enter Try.func58, Try.ntmps58
  go_wp2_with fail
  refine bodyPost_ret (v := .agg #[.int .i64 (ax + bx), .int .i64 (ay + bz)]) ?_ rfl ⟨rfl, ?_⟩
  · simp [results, Try.results58, go_sem]
  · have hb2 := (((Below.refl w.heap.size w).alloc (Nat.le_refl _) (.cells #[.int .i64 ax, .int .i64 ay] 23)).alloc (by simp) (.cells #[.int .i64 bx, .int .i64 bz] 23)).alloc (by simp only [World.size_alloc]; omega) (.cells #[.int .i64 (ax + bx), .int .i64 (ay + bz)] 72)
    exact hb2

theorem pturn_any (ax ay bx bz px py : Int) (ha : onP ax ay) (hb : onP bx bz) (hp : onQ px py) (w : World) :
    Calls Try.prog 85 #[.agg #[.int .i64 ax, .int .i64 ay, .int .i64 bx, .int .i64 bz], .agg #[.int .i64 px, .int .i64 py]] w fun e w' => e = .returned (.int .i64 (tuN ax ay bx bz px py)) ∧ Below w.heap.size w w' := by
  obtain ⟨⟨a1, a2⟩, a3, a4⟩ := ha
  obtain ⟨⟨b1, b2⟩, b3, b4⟩ := hb
  obtain ⟨⟨p1, p2⟩, p3, p4⟩ := hp
  have h1 := plq_bd (d_bd a1 a2 b1 b2) (pld_bd a3 a4 p3 p4)
  have h2 := plq_bd (d_bd a3 a4 b3 b4) (pld_bd a1 a2 p1 p2)
  go_enter Try.func85, Try.ntmps85
  go_wp2_with fail
  go_ret
  exact ⟨rfl, ((Below.refl _ _).alloc (Nat.le_refl _) _).alloc (by simp) _⟩

theorem phas_any (ax ay bx bz px py : Int) (ha : onP ax ay) (hb : onP bx bz) (hp : onQ px py) (w : World) :
    Calls Try.prog 75 #[.agg #[.int .i64 ax, .int .i64 ay, .int .i64 bx, .int .i64 bz], .agg #[.int .i64 px, .int .i64 py]] w fun e w' => e = .returned (.bool (hsB ax ay bx bz px py)) ∧ Below w.heap.size w w' := by
  have HT := Lib.hid (fun w => pturn_any ax ay bx bz px py ha hb hp w)
  obtain ⟨⟨a1, a2⟩, a3, a4⟩ := ha
  obtain ⟨⟨b1, b2⟩, b3, b4⟩ := hb
  obtain ⟨⟨p1, p2⟩, p3, p4⟩ := hp
  have h1 := plr_bd (pld_bd a1 a2 p1 p2) (pld_bd b1 b2 p1 p2)
  have h2 := plr_bd (pld_bd a3 a4 p3 p4) (pld_bd b3 b4 p3 p4)
  unfold hsB
  have hb0 := ((Below.refl w.heap.size w).alloc (Nat.le_refl _) (.cells #[.int .i64 ax, .int .i64 ay, .int .i64 bx, .int .i64 bz] 83)).alloc (by simp) (.cells #[.int .i64 px, .int .i64 py] 72)
  generalize hT : tuN ax ay bx bz px py = T at *
  have hL : (px - 2 * ax) * (px - 2 * bx) + (py - 2 * ay) * (py - 2 * bz) = loN ax ay bx bz px py := rfl
  clear hT
  by_cases k1 : T = 0
  · have e1 : (T == 0) = true := by simpa using k1
    have e2 : decide (T = 0) = true := by simpa using k1
    rw [e2, Bool.true_and]
    clear k1 e2
    go_enter Try.func75, Try.ntmps75
    go_wp2_with fail
    refine (HT.out _).mono ?_
    rintro r w1 ⟨rfl, hb1⟩
    go_wp2_with fail
    go_ret
    exact ⟨rfl, hb0.trans (hb1.mono hb0.size)⟩
  · have e1 : (T == 0) = false := by simpa using k1
    have e2 : decide (T = 0) = false := by simpa using k1
    rw [e2, Bool.false_and]
    clear k1 e2
    go_enter Try.func75, Try.ntmps75
    go_wp2_with fail
    refine (HT.out _).mono ?_
    rintro r w1 ⟨rfl, hb1⟩
    go_wp2_with fail
    go_ret
    exact ⟨rfl, hb0.trans (hb1.mono hb0.size)⟩

theorem paV_1 {ax ay bx bz px py : Int} (h1 : 2 * ay ≤ py) (h2 : py < 2 * bz) (h3 : 0 < tuN ax ay bx bz px py) : paV ax ay bx bz px py = 1 := by
  unfold paV; rw [if_pos ⟨h1, h2, h3⟩]
theorem paV_n {ax ay bx bz px py : Int} (h0 : ¬ (2 * ay ≤ py ∧ py < 2 * bz ∧ 0 < tuN ax ay bx bz px py)) (h1 : 2 * bz ≤ py) (h2 : py < 2 * ay) (h3 : tuN ax ay bx bz px py < 0) : paV ax ay bx bz px py = -1 := by
  unfold paV; rw [if_neg h0, if_pos ⟨h1, h2, h3⟩]
theorem paV_0 {ax ay bx bz px py : Int} (h0 : ¬ (2 * ay ≤ py ∧ py < 2 * bz ∧ 0 < tuN ax ay bx bz px py)) (h1 : ¬ (2 * bz ≤ py ∧ py < 2 * ay ∧ tuN ax ay bx bz px py < 0)) : paV ax ay bx bz px py = 0 := by
  unfold paV; rw [if_neg h0, if_neg h1]

/-- the ways through passes -/
theorem passes_way (ax ay bx bz px py : Int) (ha : onP ax ay) (hb : onP bx bz) (hp : onQ px py) (w : World) :
    Calls Try.prog 76 #[.agg #[.int .i64 ax, .int .i64 ay, .int .i64 bx, .int .i64 bz], .agg #[.int .i64 px, .int .i64 py]] w fun e w' => e = .returned (.int .i64 (paV ax ay bx bz px py)) ∧ Below w.heap.size w w' := by
  have HT := Lib.hid (fun w => pturn_any ax ay bx bz px py ha hb hp w)
  obtain ⟨⟨a1, a2⟩, a3, a4⟩ := ha
  obtain ⟨⟨b1, b2⟩, b3, b4⟩ := hb
  obtain ⟨⟨p1, p2⟩, p3, p4⟩ := hp
  have hb0 := ((Below.refl w.heap.size w).alloc (Nat.le_refl _) (.cells #[.int .i64 ax, .int .i64 ay, .int .i64 bx, .int .i64 bz] 83)).alloc (by simp) (.cells #[.int .i64 px, .int .i64 py] 72)
  have HV1 := Lib.hid (@paV_1 ax ay bx bz px py)
  have HVn := Lib.hid (@paV_n ax ay bx bz px py)
  have HV0 := Lib.hid (@paV_0 ax ay bx bz px py)
  generalize paV ax ay bx bz px py = V at *
  generalize tuN ax ay bx bz px py = T at *
  by_cases hA1 : 2 * ay ≤ py
  · by_cases hA2 : py < 2 * bz
    · by_cases hA3 : 0 < T
      · have e := HV1.out hA1 hA2 hA3
        rw [e]
        go_enter Try.func76, Try.ntmps76
        go_wp2_with fail
        refine (HT.out _).mono ?_
        rintro r w1 ⟨rfl, hb1⟩
        have hc1 := hb0.trans (hb1.mono hb0.size)
        go_wp2_with fail
        refine bodyPost_ret (v := .int .i64 1) ?_ ?_ ⟨rfl, hc1⟩
        · simp [results, Try.results76, go_sem]
        · rfl
      · have e := HV0.out (fun h => hA3 h.2.2) (fun h => by omega)
        have n1 : decide (0 < T) = false := by simp only [decide_eq_false_iff_not]; omega
        have n2 : decide (2 * bz ≤ py) = false := by simp only [decide_eq_false_iff_not]; omega
        clear hA3
        rw [e]
        go_enter Try.func76, Try.ntmps76
        go_wp2_with fail
        refine (HT.out _).mono ?_
        rintro r w1 ⟨rfl, hb1⟩
        have hc1 := hb0.trans (hb1.mono hb0.size)
        have k1 := (hb1.cell (p := ⟨w.heap.size, 3, none⟩) (by simp only [World.size_alloc]; omega)).trans (show ((w.alloc (.cells #[.int .i64 ax, .int .i64 ay, .int .i64 bx, .int .i64 bz] 83)).alloc (.cells #[.int .i64 px, .int .i64 py] 72)).cell? ⟨w.heap.size, 3, none⟩ = some (.int .i64 bz) by simp)
        have k2 := (hb1.cell (p := ⟨w.heap.size + 1, 1, none⟩) (by simp only [World.size_alloc]; omega)).trans (show ((w.alloc (.cells #[.int .i64 ax, .int .i64 ay, .int .i64 bx, .int .i64 bz] 83)).alloc (.cells #[.int .i64 px, .int .i64 py] 72)).cell? ⟨w.heap.size + 1, 1, none⟩ = some (.int .i64 py) by simp)
        clear hb1
        go_wp2_with fail
        refine bodyPost_ret (v := .int .i64 0) ?_ ?_ ⟨rfl, hc1⟩
        · simp [results, Try.results76, go_sem]
        · rfl
    · have e := HV0.out (fun h => hA2 h.2.1) (fun h => by omega)
      have n1 : decide (py < 2 * bz) = false := by simp only [decide_eq_false_iff_not]; omega
      have n2 : decide (py < 2 * ay) = false := by simp only [decide_eq_false_iff_not]; omega
      have hB1 : 2 * bz ≤ py := by omega
      clear hA2
      rw [e]
      go_enter Try.func76, Try.ntmps76
      go_wp2_with fail
      go_ret
      exact ⟨rfl, hb0⟩
  · have n1 : decide (2 * ay ≤ py) = false := by simp only [decide_eq_false_iff_not]; omega
    have hB2 : py < 2 * ay := by omega
    by_cases hB1 : 2 * bz ≤ py
    · by_cases hB3 : T < 0
      · have e := HVn.out (fun h => hA1 h.1) hB1 hB2 hB3
        clear hA1
        rw [e]
        go_enter Try.func76, Try.ntmps76
        go_wp2_with fail
        refine (HT.out _).mono ?_
        rintro r w1 ⟨rfl, hb1⟩
        have hc1 := hb0.trans (hb1.mono hb0.size)
        go_wp2_with fail
        go_ret
        exact ⟨rfl, hc1⟩
      · have e := HV0.out (fun h => hA1 h.1) (fun h => hB3 h.2.2)
        have n2 : decide (T < 0) = false := by simp only [decide_eq_false_iff_not]; omega
        clear hA1 hB3
        rw [e]
        go_enter Try.func76, Try.ntmps76
        go_wp2_with fail
        refine (HT.out _).mono ?_
        rintro r w1 ⟨rfl, hb1⟩
        have hc1 := hb0.trans (hb1.mono hb0.size)
        go_wp2_with fail
        go_ret
        exact ⟨rfl, hc1⟩
    · have e := HV0.out (fun h => hA1 h.1) (fun h => hB1 h.1)
      have n2 : decide (2 * bz ≤ py) = false := by simp only [decide_eq_false_iff_not]; omega
      clear hA1 hB1
      rw [e]
      go_enter Try.func76, Try.ntmps76
      go_wp2_with fail
      go_ret
      exact ⟨rfl, hb0⟩

theorem parted_any (ax ay bx bz cx cy : Int) (w : World) :
    Calls Try.prog 88 #[.agg #[.int .i64 ax, .int .i64 ay, .int .i64 bx, .int .i64 bz], .agg #[.int .i64 cx, .int .i64 cy]] w fun e w' => e = .returned (.bool (ptB cx cy ax ay bx bz)) ∧ Below w.heap.size w w' := by
  have HB := Lib.hid (fun w => Between_any cx cy ax ay bx bz w)
  have hb0 := ((Below.refl w.heap.size w).alloc (Nat.le_refl _) (.cells #[.int .i64 ax, .int .i64 ay, .int .i64 bx, .int .i64 bz] 83)).alloc (by simp) (.cells #[.int .i64 cx, .int .i64 cy] 23)
  unfold ptB
  generalize betB cx cy ax ay bx bz = V at *
  go_enter Try.func88, Try.ntmps88
  go_wp2_with fail
  all_goals subst_vars
  all_goals first
    | (go_ret; exact ⟨by simp, hb0⟩)
    | (refine (HB.out _).mono ?_; rintro r w1 ⟨rfl, hb1⟩; have hc := hb0.trans (hb1.mono hb0.size); go_wp2_with fail; go_ret; exact ⟨by simp [*], hc⟩)
theorem follows_any (ax ay bx bz cx cy dx dy : Int) (w : World) :
    Calls Try.prog 70 #[.agg #[.int .i64 ax, .int .i64 ay, .int .i64 bx, .int .i64 bz], .agg #[.int .i64 cx, .int .i64 cy, .int .i64 dx, .int .i64 dy]] w fun e w' => e = .returned (.bool (decide (ax = dx ∧ ay = dy))) ∧ Below w.heap.size w w' := by
  have hb0 := ((Below.refl w.heap.size w).alloc (Nat.le_refl _) (.cells #[.int .i64 ax, .int .i64 ay, .int .i64 bx, .int .i64 bz] 83)).alloc (by simp) (.cells #[.int .i64 cx, .int .i64 cy, .int .i64 dx, .int .i64 dy] 83)
  go_enter Try.func70, Try.ntmps70
  go_wp2_with fail
  all_goals
    go_ret
    exact ⟨by simp [*], by (try simp only [*] at hb0 ⊢) <;> exact hb0⟩
theorem pcross_any (ax ay bx bz cx cy dx dy : Int) (w : World) :
    Calls Try.prog 71 #[.agg #[.int .i64 ax, .int .i64 ay, .int .i64 bx, .int .i64 bz], .agg #[.int .i64 cx, .int .i64 cy, .int .i64 dx, .int .i64 dy]] w fun e w' => e = .returned (.int .i64 (crossV ax ay bx bz cx cy dx dy)) ∧ Below w.heap.size w w' := by
  have hb0 := ((Below.refl w.heap.size w).alloc (Nat.le_refl _) (.cells #[.int .i64 ax, .int .i64 ay, .int .i64 bx, .int .i64 bz] 83)).alloc (by simp) (.cells #[.int .i64 cx, .int .i64 cy, .int .i64 dx, .int .i64 dy] 83)
  have HC := Lib.hid (fun w => Cross_any ax ay bx bz cx cy dx dy w)
  generalize crossV ax ay bx bz cx cy dx dy = V at *
  go_enter Try.func71, Try.ntmps71
  go_wp2_with fail
  refine (HC.out _).mono ?_
  rintro r w1 ⟨rfl, hb1⟩
  go_wp2_with fail
  go_ret
  exact ⟨rfl, hb0.trans (hb1.mono hb0.size)⟩
end Go.Proofs.Ytohkmkkcblbemaa.Ge
