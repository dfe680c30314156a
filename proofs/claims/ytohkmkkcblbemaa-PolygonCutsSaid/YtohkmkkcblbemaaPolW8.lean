/- Walks over package polygon: Valid, Twice, Where. -/
import Derived.Test.YtohkmkkcblbemaaPolW7
namespace Go.Proofs.Ytohkmkkcblbemaa.Ge
set_option linter.unusedVariables false
set_option linter.unusedSimpArgs false
open Go.RowKit
open Go.Proofs.Ytohkmkkcblbemaa.Fr (Two)

theorem valid_short {r : List Pt} (h : r.length < 3) : validB r = false := by
  unfold validB
  rw [decide_eq_false (by omega), Bool.false_and]
theorem valid_far {r : List Pt} (h : 40 < r.length) : validB r = false := by
  unfold validB
  rw [decide_eq_false (show ¬ r.length ≤ 40 by omega), Bool.false_and, Bool.and_false]
theorem valid_mid {r : List Pt} (h : 3 ≤ r.length) (h2 : r.length ≤ 40) : validB r = (bendsB r && (decide (0 < areaS r) && simpleB r)) := by
  unfold validB
  rw [decide_eq_true h, decide_eq_true h2, Bool.true_and, Bool.true_and]

theorem Valid_short (v : Value) (r : List Pt) (w : World) (hv : PtSl w v r) (h : r.length < 3) :
    Calls Try.prog 23 #[v] w fun e w' => e = .returned (.bool false) ∧ Below w.heap.size w w' := by
  obtain ⟨a, cap, rfl⟩ := hv.form
  have g1 : (r.length : Int) < 3 := by omega
  clear hv h
  go_enter Try.func23, Try.ntmps23
  go_wp2_with fail
  go_ret
  exact ⟨rfl, Below.refl _ _⟩
theorem Valid_far (v : Value) (r : List Pt) (w : World) (hv : PtSl w v r) (h : 40 < r.length) :
    Calls Try.prog 23 #[v] w fun e w' => e = .returned (.bool false) ∧ Below w.heap.size w w' := by
  obtain ⟨a, cap, rfl⟩ := hv.form
  have g1 : decide ((r.length : Int) < 3) = false := by simp only [decide_eq_false_iff_not]; omega
  have g2 : (40 : Int) < r.length := by omega
  clear hv h
  go_enter Try.func23, Try.ntmps23
  go_wp2_with fail
  go_ret
  exact ⟨rfl, Below.refl _ _⟩
set_option maxHeartbeats 2000000 in
theorem Valid_mid (v : Value) (r : List Pt) (w : World) (hv : PtSl w v r) (h1 : 3 ≤ r.length) (h2 : r.length ≤ 40) :
    Calls Try.prog 23 #[v] w fun e w' => e = .returned (.bool (bendsB r && (decide (0 < areaS r) && simpleB r))) ∧ Below w.heap.size w w' := by
  have hR := hv.ring (by omega)
  have HB := Lib.hid (bends_any v r (by omega) w hR)
  obtain ⟨a, cap, rfl⟩ := hv.form
  have g1 : decide ((r.length : Int) < 3) = false := by simp only [decide_eq_false_iff_not]; omega
  have g2 : decide ((40 : Int) < r.length) = false := by simp only [decide_eq_false_iff_not]; omega
  have HON := Lib.hid (@bends_on r)
  cases hb : bendsB r with
  | false =>
    rw [hb] at HB
    rw [Bool.false_and]
    clear hv hR hb h1 h2
    go_enter Try.func23, Try.ntmps23
    go_wp2_with fail
    refine HB.out.mono ?_
    rintro e w1 ⟨rfl, hb1⟩
    go_wp2_with fail
    go_ret
    exact ⟨rfl, hb1⟩
  | true =>
    have hon := HON.out hb
    have HA := Lib.hid (fun (w1 : World) (h : Below w.heap.size w w1) => area_any _ r hon (by omega) w1 (hR.below h))
    have HS := Lib.hid (fun (w1 : World) (h : Below w.heap.size w w1) => simple_any _ r hon (by omega) w1 (hR.below h))
    rw [hb] at HB
    rw [Bool.true_and]
    clear hv hR hb h1 h2 hon HON
    generalize areaS r = A at *
    generalize simpleB r = S at *
    by_cases hA : 0 < A
    · rw [decide_eq_true hA, Bool.true_and]
      go_enter Try.func23, Try.ntmps23
      go_wp2_with fail
      refine HB.out.mono ?_
      rintro e w1 ⟨rfl, hb1⟩
      go_wp2_with fail
      refine (HA.out _ hb1).mono ?_
      rintro e w2 ⟨rfl, hb2'⟩
      have hb2 := hb1.trans (hb2'.mono hb1.size)
      go_wp2_with fail
      refine (HS.out _ hb2).mono ?_
      rintro e w3 ⟨rfl, hb3'⟩
      have hb3 := hb2.trans (hb3'.mono hb2.size)
      go_wp2_with fail
      go_ret
      exact ⟨rfl, hb3⟩
    · have g3 : decide (0 < A) = false := by simpa using hA
      rw [g3, Bool.false_and]
      clear hA
      go_enter Try.func23, Try.ntmps23
      go_wp2_with fail
      refine HB.out.mono ?_
      rintro e w1 ⟨rfl, hb1⟩
      go_wp2_with fail
      refine (HA.out _ hb1).mono ?_
      rintro e w2 ⟨rfl, hb2'⟩
      have hb2 := hb1.trans (hb2'.mono hb1.size)
      go_wp2_with fail
      go_ret
      exact ⟨rfl, hb2⟩
theorem Valid_any (v : Value) (r : List Pt) (w : World) (hv : PtSl w v r) :
    Calls Try.prog 23 #[v] w fun e w' => e = .returned (.bool (validB r)) ∧ Below w.heap.size w w' := by
  by_cases h1 : r.length < 3
  · rw [valid_short h1]; exact Valid_short v r w hv h1
  · by_cases h2 : 40 < r.length
    · rw [valid_far h2]; exact Valid_far v r w hv h2
    · rw [valid_mid (by omega) (by omega)]; exact Valid_mid v r w hv (by omega) (by omega)
theorem Twice_any (v : Value) (r : List Pt) (w : World) (hv : PtSl w v r) :
    Calls Try.prog 25 #[v] w fun e w' => e = .returned (.int .i64 (twiceV r)) ∧ Below w.heap.size w w' := by
  have HV := Lib.hid (Valid_any v r w hv)
  obtain ⟨a, cap, rfl⟩ := hv.form
  unfold twiceV
  cases hb : validB r with
  | false =>
    rw [hb] at HV
    rw [if_neg (by simp)]
    clear hv hb
    go_enter Try.func25, Try.ntmps25
    go_wp2_with fail
    refine HV.out.mono ?_
    rintro e w1 ⟨rfl, hb1⟩
    go_wp2_with fail
    go_ret
    exact ⟨rfl, hb1⟩
  | true =>
    have hl := valid_len hb
    have hR := hv.ring (by omega)
    have hon := valid_on hb
    have HA := Lib.hid (fun (w1 : World) (h : Below w.heap.size w w1) => area_any _ r hon (by omega) w1 (hR.below h))
    rw [hb] at HV
    rw [if_pos rfl]
    clear hv hb hR hl hon
    go_enter Try.func25, Try.ntmps25
    go_wp2_with fail
    refine HV.out.mono ?_
    rintro e w1 ⟨rfl, hb1⟩
    go_wp2_with fail
    refine (HA.out _ hb1).mono ?_
    rintro e w2 ⟨rfl, hb2'⟩
    go_wp2_with fail
    go_ret
    exact ⟨rfl, hb1.trans (hb2'.mono hb1.size)⟩
theorem onQ_dbl {x y : Int} (h : onP x y) : onQ (x + x) (y + y) := by
  obtain ⟨⟨h1, h2⟩, h3, h4⟩ := h
  unfold onQ
  omega
set_option maxHeartbeats 2000000 in
theorem Where_any (v : Value) (r : List Pt) (px py : Int) (w : World) (hv : PtSl w v r) :
    Calls Try.prog 27 #[v, .agg #[.int .i64 px, .int .i64 py]] w fun e w' => e = .returned (.int .i64 (whereV r px py)) ∧ Below w.heap.size w w' := by
  have HO := Lib.hid (fun w => on_any px py w)
  have HV := Lib.hid (fun (w1 : World) (h : Below w.heap.size w w1) => Valid_any v r w1 (hv.below h))
  have hb0 := (Below.refl w.heap.size w).alloc (Nat.le_refl _) (.cells #[.int .i64 px, .int .i64 py] 23)
  have t0 := Two.new w 23 (.int .i64 px) (.int .i64 py)
  unfold whereV
  by_cases ho : onP px py
  · rw [decide_eq_true ho] at HO
    cases hb : validB r with
    | false =>
      rw [hb] at HV
      rw [if_neg (by simp)]
      obtain ⟨a, cap, rfl⟩ := hv.form
      clear hv hb ho
      go_enter Try.func27, Try.ntmps27
      go_wp2_with fail
      refine (HO.out _).mono ?_
      rintro e w1 ⟨rfl, hb1'⟩
      have hb1 := hb0.trans (hb1'.mono hb0.size)
      go_wp2_with fail
      refine (HV.out _ hb1).mono ?_
      rintro e w2 ⟨rfl, hb2'⟩
      have hb2 := hb1.trans (hb2'.mono hb1.size)
      go_wp2_with fail
      go_ret
      exact ⟨rfl, hb2⟩
    | true =>
      have hl := valid_len hb
      have hR := hv.ring (by omega)
      have hon := valid_on hb
      have HM := Lib.hid (fun w => middle_any px py px py ho ho w)
      have HW := Lib.hid (fun (w1 : World) (h : Below w.heap.size w w1) => where_any v r hon (by omega) (px + px) (py + py) (onQ_dbl ho) w1 (hR.below h))
      rw [hb] at HV
      rw [if_pos ⟨ho, rfl⟩]
      obtain ⟨a, cap, rfl⟩ := hv.form
      clear hv hb ho hR hl hon
      go_enter Try.func27, Try.ntmps27
      go_wp2_with fail
      refine (HO.out _).mono ?_
      rintro e w1 ⟨rfl, hb1'⟩
      have hb1 := hb0.trans (hb1'.mono hb0.size)
      have t1 := t0.below hb1' t0.lt
      go_wp2_with fail
      refine (HV.out _ hb1).mono ?_
      rintro e w2 ⟨rfl, hb2'⟩
      have hb2 := hb1.trans (hb2'.mono hb1.size)
      obtain ⟨c1, c2, -, -⟩ := (t1.below hb2' t1.lt).facts
      go_wp2_with fail
      refine (HM.out _).mono ?_
      rintro e w3 ⟨rfl, hb3'⟩
      have hb3 := hb2.trans (hb3'.mono hb2.size)
      go_wp2_with fail
      refine (HW.out _ hb3).mono ?_
      rintro e w4 ⟨rfl, hb4'⟩
      go_wp2_with fail
      go_ret
      exact ⟨rfl, hb3.trans (hb4'.mono hb3.size)⟩
  · rw [decide_eq_false ho] at HO
    rw [if_neg (fun h => ho h.1)]
    obtain ⟨a, cap, rfl⟩ := hv.form
    clear hv ho
    go_enter Try.func27, Try.ntmps27
    go_wp2_with fail
    refine (HO.out _).mono ?_
    rintro e w1 ⟨rfl, hb1'⟩
    go_wp2_with fail
    go_ret
    exact ⟨rfl, hb0.trans (hb1'.mono hb0.size)⟩
end Go.Proofs.Ytohkmkkcblbemaa.Ge
