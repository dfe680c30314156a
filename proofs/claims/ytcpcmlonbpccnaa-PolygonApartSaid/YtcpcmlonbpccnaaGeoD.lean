/- Walks over package geom: Dist, and that its draws only grow. -/
import Derived.Test.YtcpcmlonbpccnaaBdA6
namespace Go.Proofs.Ytcpcmlonbpccnaa.Ge
set_option linter.unusedVariables false
set_option linter.unusedSimpArgs false
open Go.RowKit
open Go.Proofs.Ytcpcmlonbpccnaa.Fr (Two)

theorem on_yes_d (x y : Int) (h : onP x y) (w : World) :
    Calls Try.prog 26 #[.agg #[.int .i64 x, .int .i64 y]] w fun e w' => e = .returned (.bool true) ∧ Below w.heap.size w w' ∧ w.drawn ≤ w'.drawn := by
  obtain ⟨⟨h1, h2⟩, h3, h4⟩ := h
  go_enter Try.func26, Try.ntmps26
  go_wp2_with fail
  go_ret
  exact ⟨rfl, (Below.refl _ _).alloc (Nat.le_refl _) _, Nat.le_refl _⟩

theorem on_no_d (x y : Int) (h : ¬ onP x y) (w : World) :
    Calls Try.prog 26 #[.agg #[.int .i64 x, .int .i64 y]] w fun e w' => e = .returned (.bool false) ∧ Below w.heap.size w w' ∧ w.drawn ≤ w'.drawn := by
  unfold onP at h
  by_cases h1 : 0 ≤ x
  · by_cases h2 : x ≤ 32767
    · by_cases h3 : 0 ≤ y
      · have h4 : decide (y ≤ 32767) = false := by simp; omega
        clear h
        go_enter Try.func26, Try.ntmps26
        go_wp2_with fail
        go_ret
        exact ⟨rfl, (Below.refl _ _).alloc (Nat.le_refl _) _, Nat.le_refl _⟩
      · have h4 : decide (0 ≤ y) = false := by simpa using h3
        clear h
        go_enter Try.func26, Try.ntmps26
        go_wp2_with fail
        go_ret
        exact ⟨rfl, (Below.refl _ _).alloc (Nat.le_refl _) _, Nat.le_refl _⟩
    · have h4 : decide (x ≤ 32767) = false := by simpa using h2
      clear h
      go_enter Try.func26, Try.ntmps26
      go_wp2_with fail
      go_ret
      exact ⟨rfl, (Below.refl _ _).alloc (Nat.le_refl _) _, Nat.le_refl _⟩
  · have h4 : decide (0 ≤ x) = false := by simpa using h1
    clear h
    go_enter Try.func26, Try.ntmps26
    go_wp2_with fail
    go_ret
    exact ⟨rfl, (Below.refl _ _).alloc (Nat.le_refl _) _, Nat.le_refl _⟩

theorem join_d (ax ay bx bz : Int) (w : World) :
    Calls Try.prog 62 #[.agg #[.int .i64 ax, .int .i64 ay], .agg #[.int .i64 bx, .int .i64 bz]] w fun e w' => e = .returned (.agg #[.int .i64 ax, .int .i64 ay, .int .i64 bx, .int .i64 bz]) ∧ Below w.heap.size w w' ∧ w.drawn ≤ w'.drawn := by
  go_enter Try.func62, Try.ntmps62
  go_wp2_with fail
  refine bodyPost_ret (v := .agg #[.int .i64 ax, .int .i64 ay, .int .i64 bx, .int .i64 bz]) ?_ rfl ⟨rfl, ?_, Nat.le_refl _⟩
  · simp [results, Try.results62, go_sem]
  · exact (((Below.refl _ _).alloc (Nat.le_refl _) _).alloc (by simp) _).alloc (by simp; omega) _

theorem along_d (ax ay bx bz cx cy : Int) (ha : onP ax ay) (hb : onP bx bz) (hc : onP cx cy) (w : World) :
    Calls Try.prog 63 #[.agg #[.int .i64 ax, .int .i64 ay, .int .i64 bx, .int .i64 bz], .agg #[.int .i64 cx, .int .i64 cy]] w fun e w' => e = .returned (.int .i64 (alongN ax ay bx bz cx cy)) ∧ Below w.heap.size w w' ∧ w.drawn ≤ w'.drawn := by
  obtain ⟨⟨a1, a2⟩, a3, a4⟩ := ha
  obtain ⟨⟨b1, b2⟩, b3, b4⟩ := hb
  obtain ⟨⟨c1, c2⟩, c3, c4⟩ := hc
  have h1 := p_bd (d_bd a1 a2 b1 b2) (d_bd a1 a2 c1 c2)
  have h2 := p_bd (d_bd a3 a4 b3 b4) (d_bd a3 a4 c3 c4)
  go_enter Try.func63, Try.ntmps63
  go_wp2_with fail
  go_ret
  exact ⟨rfl, ((Below.refl _ _).alloc (Nat.le_refl _) _).alloc (by simp) _, Nat.le_refl _⟩

set_option maxRecDepth 100000 in
set_option maxHeartbeats 4000000 in
theorem allOn_yes_d (l : List (Int × Int)) (b cap : Nat) (w : World) (h : Pts w b l) (hl : l.length ≤ 9) (ha : allP l) :
    Calls Try.prog 61 #[.slice (some ⟨b, 0, none⟩) l.length cap] w fun e w' => e = .returned (.bool true) ∧ Below w.heap.size w w' ∧ w.drawn ≤ w'.drawn := by
  have HA := Lib.hid ha
  obtain ⟨hb, hc⟩ := h
  have HC := Lib.hid (fun (w' : World) (hw : Below w.heap.size w w') i (hi : i < l.length) => (Pts.below ⟨hb, hc⟩ hw).2 i hi)
  clear ha hc
  go_enter Try.func61, Try.ntmps61
  go_wp2_with fail
  go_loopw [7] (fun i wr => ∃ k : Nat, i = .int .i64 (k : Int) ∧ k ≤ l.length ∧ Below w.heap.size w wr ∧ w.drawn ≤ wr.drawn) (fun i _ => l.length - (intOf i).toNat)
  case atStart => exact ⟨0, rfl, Nat.zero_le _, Below.refl _ _, Nat.le_refl _⟩
  case round =>
    obtain ⟨k, rfl, hk, hbel, hdr⟩ := hrel
    by_cases hlt : k < l.length
    · obtain ⟨c1, c2⟩ := HC.out wr hbel k hlt
      have HCALL := Lib.hid (fun w => on_yes_d _ _ (HA.out k hlt) w)
      generalize l[k].1 = f at *
      generalize l[k].2 = u at *
      go_wp2_with fail
      refine (HCALL.out _).mono ?_
      rintro r w1 ⟨rfl, hb1, hd1⟩
      have hd2 : w.drawn ≤ w1.drawn := Nat.le_trans hdr hd1
      have hb2 := (hbel.alloc hbel.size (.cells #[.int .i64 f, .int .i64 u] 24)).trans (hb1.mono (by have := hbel.size; simp; omega))
      clear c1 c2
      go_wp2_with fail
      go_roundw
      case rel => exact ⟨k + 1, by go_num, by omega, hb2, hd2⟩
      case measure => simp [intOf]; omega
    · go_wp2_with fail
      go_ret
      exact ⟨rfl, hbel, hdr⟩

set_option maxRecDepth 100000 in
set_option maxHeartbeats 4000000 in
theorem allOn_no_d (l : List (Int × Int)) (b cap : Nat) (w : World) (h : Pts w b l) (hl : l.length ≤ 9) (ha : ¬ allP l) :
    Calls Try.prog 61 #[.slice (some ⟨b, 0, none⟩) l.length cap] w fun e w' => e = .returned (.bool false) ∧ Below w.heap.size w w' ∧ w.drawn ≤ w'.drawn := by
  have HA := Lib.hid ha
  obtain ⟨hb, hc⟩ := h
  have HC := Lib.hid (fun (w' : World) (hw : Below w.heap.size w w') i (hi : i < l.length) => (Pts.below ⟨hb, hc⟩ hw).2 i hi)
  clear ha hc
  go_enter Try.func61, Try.ntmps61
  go_wp2_with fail
  go_loopw [7] (fun i wr => ∃ k : Nat, i = .int .i64 (k : Int) ∧ k ≤ l.length ∧ (∀ j (hj : j < l.length), j < k → onP l[j].1 l[j].2) ∧ Below w.heap.size w wr ∧ w.drawn ≤ wr.drawn) (fun i _ => l.length - (intOf i).toNat)
  case atStart => exact ⟨0, rfl, Nat.zero_le _, fun j hj hk => by omega, Below.refl _ _, Nat.le_refl _⟩
  case round =>
    obtain ⟨k, rfl, hk, hall, hbel, hdr⟩ := hrel
    have HL := Lib.hid hall
    clear hall
    by_cases hlt : k < l.length
    · obtain ⟨c1, c2⟩ := HC.out wr hbel k hlt
      by_cases hq : onP l[k].1 l[k].2
      · have HCALL := Lib.hid (fun w => on_yes_d _ _ hq w)
        have HL2 := Lib.hid (show ∀ j (hj : j < l.length), j < k + 1 → onP l[j].1 l[j].2 from fun j hj hjk => by
          by_cases e : j = k
          · subst e; exact hq
          · exact HL.out j hj (by omega))
        clear hq
        generalize l[k].1 = f at *
        generalize l[k].2 = u at *
        go_wp2_with fail
        refine (HCALL.out _).mono ?_
        rintro r w1 ⟨rfl, hb1, hd1⟩
        have hd2 : w.drawn ≤ w1.drawn := Nat.le_trans hdr hd1
        have hb2 := (hbel.alloc hbel.size (.cells #[.int .i64 f, .int .i64 u] 24)).trans (hb1.mono (by have := hbel.size; simp; omega))
        clear c1 c2
        go_wp2_with fail
        go_roundw
        case rel => exact ⟨k + 1, by go_num, by omega, HL2.out, hb2, hd2⟩
        case measure => simp [intOf]; omega
      · have HCALL := Lib.hid (fun w => on_no_d _ _ hq w)
        clear hq
        generalize l[k].1 = f at *
        generalize l[k].2 = u at *
        go_wp2_with fail
        refine (HCALL.out _).mono ?_
        rintro r w1 ⟨rfl, hb1, hd1⟩
        have hd2 : w.drawn ≤ w1.drawn := Nat.le_trans hdr hd1
        have hb2 := (hbel.alloc hbel.size (.cells #[.int .i64 f, .int .i64 u] 24)).trans (hb1.mono (by have := hbel.size; simp; omega))
        clear c1 c2
        go_wp2_with fail
        go_ret
        exact ⟨rfl, hb2, hd2⟩
    · exfalso
      refine HA.out fun i hi => ?_
      exact HL.out i hi (by omega)

theorem allOn_any_d (l : List (Int × Int)) (P : Prop) [Decidable P] (hP : allP l ↔ P) (n : Nat) (hn : l.length = n) (h9 : n ≤ 9) (b cap : Nat) (w : World) (h : Pts w b l) :
    Calls Try.prog 61 #[.slice (some ⟨b, 0, none⟩) n cap] w fun e w' => e = .returned (.bool (decide P)) ∧ Below w.heap.size w w' ∧ w.drawn ≤ w'.drawn := by
  subst hn
  by_cases k : P
  · rw [decide_eq_true k]; exact allOn_yes_d l b cap w h h9 (hP.2 k)
  · rw [decide_eq_false k]; exact allOn_no_d l b cap w h h9 (fun q => k (hP.1 q))

theorem allOn2_d (ax ay bx bz : Int) (b cap : Nat) (w : World) (h : Pts w b [(ax, ay), (bx, bz)]) :
    Calls Try.prog 61 #[.slice (some ⟨b, 0, none⟩) 2 cap] w fun e w' => e = .returned (.bool (decide (onP ax ay ∧ onP bx bz))) ∧ Below w.heap.size w w' ∧ w.drawn ≤ w'.drawn :=
  allOn_any_d _ _ allP2 2 rfl (by decide) b cap w h

set_option maxHeartbeats 4000000 in
theorem Dist_d (ax ay bx bz : Int) (w : World) :
    Calls Try.prog 64 #[.agg #[.int .i64 ax, .int .i64 ay], .agg #[.int .i64 bx, .int .i64 bz]] w fun e w' => e = .returned (.int .i64 (distV ax ay bx bz)) ∧ Below w.heap.size w w' ∧ w.drawn ≤ w'.drawn := by
  unfold distV
  have HL := Lib.hid (fun b cap w k => allOn2_d ax ay bx bz b cap w k)
  by_cases h : onP ax ay ∧ onP bx bz
  · rw [if_pos h]
    rw [decide_eq_true h] at HL
    have HJ := Lib.hid (fun w => join_d ax ay bx bz w)
    have HS := Lib.hid (fun w => along_d ax ay bx bz bx bz h.1 h.2 h.2 w)
    have e : alongN ax ay bx bz bx bz = distN ax ay bx bz := rfl
    rw [e] at HS
    clear h e
    have t1 := (Two.new w 24 (.int .i64 ax) (.int .i64 ay)).alloc (.cells #[.int .i64 bx, .int .i64 bz] 24)
    have t2 := Two.at (w := w.alloc (.cells #[.int .i64 ax, .int .i64 ay] 24)) (B := w.heap.size + 1) (by simp) 24 (.int .i64 bx) (.int .i64 bz)
    have s1 := t1.alloc (.cells #[.int .i64 ax, .int .i64 ay, .int .i64 bx, .int .i64 bz] 24)
    have s2 := t2.alloc (.cells #[.int .i64 ax, .int .i64 ay, .int .i64 bx, .int .i64 bz] 24)
    have hb0 := ((((Below.refl w.heap.size w).alloc (Nat.le_refl _) (.cells #[.int .i64 ax, .int .i64 ay] 24)).alloc (by simp) (.cells #[.int .i64 bx, .int .i64 bz] 24))).alloc (by simp; omega) (.cells #[.int .i64 ax, .int .i64 ay, .int .i64 bx, .int .i64 bz] 24)
    clear t1 t2
    go_enter Try.func64, Try.ntmps64
    go_wp2_with fail
    refine (HL.out _ _ _ (pts2 (by simp) _ _ _ _ _)).mono ?_
    rintro r w1 ⟨rfl, hb1, hd1⟩
    have r1 := s1.below hb1 s1.lt
    have r2 := s2.below hb1 s2.lt
    have hb2 := hb0.trans (hb1.mono hb0.size)
    clear s1 s2 hb0 hb1
    go_upto_region 3 with fail
    have hS : ∀ w' : World, Below w1.heap.size w1 w' → (w'.cell? ⟨w.heap.size, 0, none⟩ = some (.int .i64 ax) ∧ w'.cell? ⟨w.heap.size, 1, none⟩ = some (.int .i64 ay)) ∧ w'.cell? ⟨w.heap.size + 1, 0, none⟩ = some (.int .i64 bx) ∧ w'.cell? ⟨w.heap.size + 1, 1, none⟩ = some (.int .i64 bz) := fun w' hb =>
      ⟨two_of r1 hb, two_of r2 hb⟩
    have hr := Below.refl w1.heap.size w1
    go_region_held3 (fun w' => (w'.cell? ⟨w.heap.size, 0, none⟩ = some (.int .i64 ax) ∧ w'.cell? ⟨w.heap.size, 1, none⟩ = some (.int .i64 ay)) ∧ w'.cell? ⟨w.heap.size + 1, 0, none⟩ = some (.int .i64 bx) ∧ w'.cell? ⟨w.heap.size + 1, 1, none⟩ = some (.int .i64 bz))
      (first | exact hS _ hr.drew | exact hS _ (by assumption))
      (first
        | (go_at_call 62; refine (HJ.out _).mono ?_; rintro r x1 ⟨rfl, hx1', hq1'⟩; have hq1 : w1.drawn ≤ x1.drawn := Nat.le_trans (Nat.le_succ _) hq1'; have hx1 : Below w1.heap.size w1 x1 := hr.drew.trans hx1')
        | (go_at_call 63; refine (HS.out _).mono ?_; rintro r x2 ⟨rfl, hx2', hq2'⟩; have hq2 : w1.drawn ≤ x2.drawn := Nat.le_trans hq1 hq2'; have hx2 : Below w1.heap.size w1 x2 := hx1.trans (hx2'.mono hx1.size)))
    all_goals
      go_wp2_with fail
      go_ret
      exact ⟨rfl, hb2.trans (hx2.mono hb2.size), Nat.le_trans hd1 hq2⟩
  · rw [if_neg h]
    rw [decide_eq_false h] at HL
    clear h
    have hb0 := ((((Below.refl w.heap.size w).alloc (Nat.le_refl _) (.cells #[.int .i64 ax, .int .i64 ay] 24)).alloc (by simp) (.cells #[.int .i64 bx, .int .i64 bz] 24))).alloc (by simp; omega) (.cells #[.int .i64 ax, .int .i64 ay, .int .i64 bx, .int .i64 bz] 24)
    go_enter Try.func64, Try.ntmps64
    go_wp2_with fail
    refine (HL.out _ _ _ (pts2 (by simp) _ _ _ _ _)).mono ?_
    rintro r w1 ⟨rfl, hb1, hd1⟩
    go_wp2_with fail
    go_ret
    exact ⟨rfl, hb0.trans (hb1.mono hb0.size), hd1⟩
end Go.Proofs.Ytcpcmlonbpccnaa.Ge
