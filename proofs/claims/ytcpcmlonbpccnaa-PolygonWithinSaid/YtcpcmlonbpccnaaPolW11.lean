/- Walks over package polygon: which of two points is nearer to the beginning of a side? -/
import Derived.Test.YtcpcmlonbpccnaaBdP15
import Derived.Test.YtcpcmlonbpccnaaGeoD
import Derived.Sort.Grow
namespace Go.Proofs.Ytcpcmlonbpccnaa.Ge
set_option linter.unusedVariables false
set_option linter.unusedSimpArgs false
open Go.RowKit
open Go.Proofs.Ytcpcmlonbpccnaa.Fr (Two)

def cmpI (a b : Int) : Int := if a < b then -1 else if b < a then 1 else 0
theorem compare_any (a b : Int) (w : World) :
    Calls Try.prog 104 #[.int .i64 a, .int .i64 b] w fun e w' => e = .returned (.int .i64 (cmpI a b)) ∧ w = w' := by
  unfold cmpI
  by_cases h1 : a < b
  · rw [if_pos h1]
    go_enter Try.func104, Try.ntmps104
    go_wp2_with (go_at_call 124; refine (nan_any _ _).mono ?_; rintro r w' ⟨rfl, rfl⟩)
    go_ret
    exact ⟨rfl, rfl⟩
  · rw [if_neg h1]
    have k1 : decide (a < b) = false := by simpa using h1
    by_cases h2 : b < a
    · rw [if_pos h2]
      go_enter Try.func104, Try.ntmps104
      go_wp2_with (go_at_call 124; refine (nan_any _ _).mono ?_; rintro r w' ⟨rfl, rfl⟩)
      go_ret
      exact ⟨rfl, rfl⟩
    · rw [if_neg h2]
      have k2 : decide (b < a) = false := by simpa using h2
      go_enter Try.func104, Try.ntmps104
      go_wp2_with (go_at_call 124; refine (nan_any _ _).mono ?_; rintro r w' ⟨rfl, rfl⟩)
      go_ret
      exact ⟨rfl, rfl⟩

set_option maxHeartbeats 4000000 in
theorem nearer_d (ox oy px py qx qy : Int) (B : Nat) (w : World) (h0 : w.cell? ⟨B, 0, none⟩ = some (.int .i64 ox)) (h1 : w.cell? ⟨B, 1, none⟩ = some (.int .i64 oy)) :
    Calls Try.prog 135 #[.agg #[.int .i64 px, .int .i64 py], .agg #[.int .i64 qx, .int .i64 qy], .pointer (some ⟨B, 0, none⟩)] w
      fun e w' => e = .returned (.int .i64 (cmpI (distV ox oy px py) (distV ox oy qx qy))) ∧ Below w.heap.size w w' ∧ w.drawn ≤ w'.drawn := by
  have hlt : B < w.heap.size := World.block_lt_of_cell? _ _ h0
  have H1 := Lib.hid (fun w => Dist_d ox oy px py w)
  have H2 := Lib.hid (fun w => Dist_d ox oy qx qy w)
  have HC := Lib.hid (fun w => compare_any (distV ox oy px py) (distV ox oy qx qy) w)
  generalize cmpI (distV ox oy px py) (distV ox oy qx qy) = C at *
  generalize distV ox oy px py = D1 at *
  generalize distV ox oy qx qy = D2 at *
  have t1 := (Two.new w 24 (.int .i64 px) (.int .i64 py)).alloc (.cells #[.int .i64 qx, .int .i64 qy] 24)
  have t2 := Two.at (w := w.alloc (.cells #[.int .i64 px, .int .i64 py] 24)) (B := w.heap.size + 1) (by simp) 24 (.int .i64 qx) (.int .i64 qy)
  have hb0 := ((Below.refl w.heap.size w).alloc (Nat.le_refl _) (.cells #[.int .i64 px, .int .i64 py] 24)).alloc (by simp) (.cells #[.int .i64 qx, .int .i64 qy] 24)
  have k0 := (hb0.cell (p := ⟨B, 0, none⟩) hlt).trans h0
  have k1 := (hb0.cell (p := ⟨B, 1, none⟩) hlt).trans h1
  have hd0 : w.drawn ≤ ((w.alloc (.cells #[.int .i64 px, .int .i64 py] 24)).alloc (.cells #[.int .i64 qx, .int .i64 qy] 24)).drawn := Nat.le_refl _
  have hltV : B < ((w.alloc (.cells #[.int .i64 px, .int .i64 py] 24)).alloc (.cells #[.int .i64 qx, .int .i64 qy] 24)).heap.size := by simp only [World.size_alloc]; omega
  clear h0 h1
  go_enter Try.func135, Try.ntmps135
  go_upto_region 1 with fail
  generalize (w.alloc (.cells #[.int .i64 px, .int .i64 py] 24)).alloc (.cells #[.int .i64 qx, .int .i64 qy] 24) = V at *
  have hS : ∀ w' : World, Below V.heap.size V w' → (w'.cell? ⟨B, 0, none⟩ = some (.int .i64 ox) ∧ w'.cell? ⟨B, 1, none⟩ = some (.int .i64 oy)) ∧ (w'.cell? ⟨w.heap.size, 0, none⟩ = some (.int .i64 px) ∧ w'.cell? ⟨w.heap.size, 1, none⟩ = some (.int .i64 py)) ∧ w'.cell? ⟨w.heap.size + 1, 0, none⟩ = some (.int .i64 qx) ∧ w'.cell? ⟨w.heap.size + 1, 1, none⟩ = some (.int .i64 qy) := fun w' hb =>
    ⟨⟨(hb.cell (p := ⟨B, 0, none⟩) hltV).trans k0, (hb.cell (p := ⟨B, 1, none⟩) hltV).trans k1⟩, two_of t1 hb, two_of t2 hb⟩
  have hr := Below.refl V.heap.size V
  clear k0 k1
  go_region_held3 (fun w' => (w'.cell? ⟨B, 0, none⟩ = some (.int .i64 ox) ∧ w'.cell? ⟨B, 1, none⟩ = some (.int .i64 oy)) ∧ (w'.cell? ⟨w.heap.size, 0, none⟩ = some (.int .i64 px) ∧ w'.cell? ⟨w.heap.size, 1, none⟩ = some (.int .i64 py)) ∧ w'.cell? ⟨w.heap.size + 1, 0, none⟩ = some (.int .i64 qx) ∧ w'.cell? ⟨w.heap.size + 1, 1, none⟩ = some (.int .i64 qy))
    (first | exact hS _ hr.drew | exact hS _ (by assumption))
    (first
      | (go_at_call 104; refine (HC.out _).mono ?_; rintro r x3 ⟨rfl, rfl⟩)
      | (go_at_call 64; have hz := hx1; refine (H2.out _).mono ?_; rintro r x2 ⟨rfl, hx2', hq2'⟩; have hq2 : V.drawn ≤ x2.drawn := Nat.le_trans hq1 hq2'; have hx2 : Below V.heap.size V x2 := hx1.trans (hx2'.mono hx1.size))
      | (go_at_call 64; refine (H1.out _).mono ?_; rintro r x1 ⟨rfl, hx1', hq1'⟩; have hq1 : V.drawn ≤ x1.drawn := Nat.le_trans (Nat.le_succ _) hq1'; have hx1 : Below V.heap.size V x1 := hr.drew.trans hx1'))
  all_goals
    go_wp2_with fail
    go_ret
    exact ⟨rfl, hb0.trans (hx2.mono hb0.size), Nat.le_trans hd0 hq2⟩

theorem grow_of {w w' : World} (h : Below w.heap.size w w') (hd : w.drawn ≤ w'.drawn) : ∃ q os', w' = Sort.grow (w.drewN q) os' := by
  refine ⟨w'.drawn - w.drawn, w'.heap.extract w.heap.size w'.heap.size, ?_⟩
  obtain ⟨heap, tape, drawn, os, output⟩ := w
  obtain ⟨heap', tape', drawn', os', output'⟩ := w'
  obtain ⟨h1, h2, h3, h4, h5⟩ := h
  simp only at h1 h2 h3 h4 h5 hd
  subst h1 h2 h3
  have e : heap' = heap ++ heap'.extract heap.size heap'.size := by
    apply Array.ext_getElem?
    intro i
    rw [Array.getElem?_append]
    split
    · next hi => exact h5 i hi
    · next hi =>
      rw [Array.getElem?_extract]
      split
      · congr 1; omega
      · exact Array.getElem?_eq_none (by omega)
  unfold Sort.grow World.drewN
  simp only [World.mk.injEq, true_and, and_true]
  exact ⟨e, by omega⟩
end Go.Proofs.Ytcpcmlonbpccnaa.Ge
