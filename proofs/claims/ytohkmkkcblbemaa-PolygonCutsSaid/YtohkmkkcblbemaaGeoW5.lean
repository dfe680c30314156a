/- Walks over package geom: Between. -/
import Derived.Test.YtohkmkkcblbemaaGeoW4
namespace Go.Proofs.Ytohkmkkcblbemaa.Ge
set_option linter.unusedVariables false
set_option linter.unusedSimpArgs false
open Go.RowKit
open Go.Proofs.Ytohkmkkcblbemaa.Fr (Two)

theorem Pts.drew {w : World} {b : Nat} {l : List (Int × Int)} (h : Pts w b l) : Pts w.drew b l := h
set_option maxHeartbeats 4000000 in
theorem Between_any (px py ax ay bx bz : Int) (w : World) :
    Calls Try.prog 34 #[.agg #[.int .i64 px, .int .i64 py], .agg #[.int .i64 ax, .int .i64 ay], .agg #[.int .i64 bx, .int .i64 bz]] w fun e w' => e = .returned (.bool (betB px py ax ay bx bz)) ∧ Below w.heap.size w w' := by
  have HL := Lib.hid (fun b cap w k => allOn3 px py ax ay bx bz b cap w k)
  have b0_0 := Two.at (w := w) (B := w.heap.size) (by simp) 23 (.int .i64 px) (.int .i64 py)
  have b1_1 := Two.at (w := (w.alloc (.cells #[.int .i64 px, .int .i64 py] 23))) (B := w.heap.size + 1) (by simp) 23 (.int .i64 ax) (.int .i64 ay)
  have b0_1 := b0_0.alloc (.cells #[.int .i64 ax, .int .i64 ay] 23)
  have b2_2 := Two.at (w := ((w.alloc (.cells #[.int .i64 px, .int .i64 py] 23)).alloc (.cells #[.int .i64 ax, .int .i64 ay] 23))) (B := w.heap.size + 1 + 1) (by simp) 23 (.int .i64 bx) (.int .i64 bz)
  have b0_2 := b0_1.alloc (.cells #[.int .i64 bx, .int .i64 bz] 23)
  have b1_2 := b1_1.alloc (.cells #[.int .i64 bx, .int .i64 bz] 23)
  have hb0 : Below w.heap.size w _ := ((((Below.refl w.heap.size w).alloc (by simp <;> omega) (.cells #[.int .i64 px, .int .i64 py] 23)).alloc (by simp <;> omega) (.cells #[.int .i64 ax, .int .i64 ay] 23)).alloc (by simp <;> omega) (.cells #[.int .i64 bx, .int .i64 bz] 23))
  by_cases h : onP px py ∧ onP ax ay ∧ onP bx bz
  · have e : betB px py ax ay bx bz = hasB ax ay bx bz px py := by
      rw [Bool.eq_iff_iff]
      unfold betB hasB
      rw [decide_eq_true_iff, decide_eq_true_iff]
      exact ⟨fun k => k.2.2.2, fun k => ⟨h.1, h.2.1, h.2.2, k⟩⟩
    rw [e]
    rw [decide_eq_true h] at HL
    have HJ := Lib.hid (fun w => join_any ax ay bx bz w)
    have HS := Lib.hid (fun w => has_any ax ay bx bz px py h.2.1 h.2.2 h.1 w)
    clear h e
    generalize hasB ax ay bx bz px py = R at *
    go_enter Try.func34, Try.ntmps34
    go_upto_region 1 with fail
    generalize (((w.alloc (.cells #[.int .i64 px, .int .i64 py] 23)).alloc (.cells #[.int .i64 ax, .int .i64 ay] 23)).alloc (.cells #[.int .i64 bx, .int .i64 bz] 23)) = W at *
    have hS : ∀ w' : World, Below W.heap.size W w' → (w'.cell? ⟨w.heap.size, 0, none⟩ = some (.int .i64 px) ∧ w'.cell? ⟨w.heap.size, 1, none⟩ = some (.int .i64 py)) ∧ (w'.cell? ⟨w.heap.size + 1, 0, none⟩ = some (.int .i64 ax) ∧ w'.cell? ⟨w.heap.size + 1, 1, none⟩ = some (.int .i64 ay)) ∧ (w'.cell? ⟨w.heap.size + 1 + 1, 0, none⟩ = some (.int .i64 bx) ∧ w'.cell? ⟨w.heap.size + 1 + 1, 1, none⟩ = some (.int .i64 bz)) := fun w' hb => ⟨two_of b0_2 hb, two_of b1_2 hb, two_of b2_2 hb⟩
    clear b0_0 b0_1 b1_1 b0_2 b1_2 b2_2
    have hr := Below.refl W.heap.size W
    go_region_held3 (fun w' => (w'.cell? ⟨w.heap.size, 0, none⟩ = some (.int .i64 px) ∧ w'.cell? ⟨w.heap.size, 1, none⟩ = some (.int .i64 py)) ∧ (w'.cell? ⟨w.heap.size + 1, 0, none⟩ = some (.int .i64 ax) ∧ w'.cell? ⟨w.heap.size + 1, 1, none⟩ = some (.int .i64 ay)) ∧ (w'.cell? ⟨w.heap.size + 1 + 1, 0, none⟩ = some (.int .i64 bx) ∧ w'.cell? ⟨w.heap.size + 1 + 1, 1, none⟩ = some (.int .i64 bz)))
      (first | exact hS _ hr.drew | exact hS _ (by assumption) | exact hS _ (hr.alloc hr.size _).drew)
      (first
        | (go_at_call 40; refine (HL.out _ _ _ (Pts.drew (pts3 (by simp) _ _ _ _ _ _ _))).mono ?_; rintro r x0 ⟨rfl, hx0'⟩; have hx0 : Below W.heap.size W x0 := (hr.alloc hr.size _).drew.trans (hx0'.mono (by simp)))
        | (go_at_call 41; refine (HJ.out _).mono ?_; rintro r x1 ⟨rfl, hx1'⟩; have hx1 : Below W.heap.size W x1 := hx0.trans (hx1'.mono hx0.size))
        | (go_at_call 47; refine (HS.out _).mono ?_; rintro r x2 ⟨rfl, hx2'⟩; have hx2 : Below W.heap.size W x2 := hx1.trans (hx2'.mono hx1.size)))
    all_goals
      go_wp2_with fail
      go_ret
      exact ⟨rfl, hb0.trans (hx2.mono hb0.size)⟩
  · have e : betB px py ax ay bx bz = false := decide_eq_false (fun k => h ⟨k.1, k.2.1, k.2.2.1⟩)
    rw [e]
    rw [decide_eq_false h] at HL
    clear h e
    go_enter Try.func34, Try.ntmps34
    go_upto_region 1 with fail
    first | go_region_with (first | (go_at_call 40; refine (HL.out _ _ _ (Pts.drew (pts3 (by simp) _ _ _ _ _ _ _))).mono ?_; rintro r x0 ⟨rfl, hx0'⟩; have hx0 := hb0.trans ((((Below.refl _ _).alloc (Nat.le_refl _) _).drew.trans (hx0'.mono (by simp))).mono hb0.size))) | fail
    all_goals
      go_wp2_with fail
      go_ret
      exact ⟨rfl, hx0⟩
end Go.Proofs.Ytohkmkkcblbemaa.Ge
