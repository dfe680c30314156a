/- Walks over package geom: Turn, Dist, segments' places. -/
import Derived.Test.YtohkmkkcblbemaaGeoW2
namespace Go.Proofs.Ytohkmkkcblbemaa.Ge
set_option linter.unusedVariables false
set_option linter.unusedSimpArgs false
open Go.RowKit
open Go.Proofs.Ytohkmkkcblbemaa.Fr (Two)

theorem two_of {w w' : World} {B : Nat} {t : TypeId} {x y : Value} (h : Two w B t x y) (hb : Below w.heap.size w w') : w'.cell? ⟨B, 0, none⟩ = some x ∧ w'.cell? ⟨B, 1, none⟩ = some y :=
  ⟨(h.below hb h.lt).facts.1, (h.below hb h.lt).facts.2.1⟩

set_option maxHeartbeats 4000000 in
theorem Dist_any (ax ay bx bz : Int) (w : World) :
    Calls Try.prog 17 #[.agg #[.int .i64 ax, .int .i64 ay], .agg #[.int .i64 bx, .int .i64 bz]] w fun e w' => e = .returned (.int .i64 (distV ax ay bx bz)) ∧ Below w.heap.size w w' := by
  unfold distV
  have HL := Lib.hid (fun b cap w k => allOn2 ax ay bx bz b cap w k)
  by_cases h : onP ax ay ∧ onP bx bz
  · rw [if_pos h]
    rw [decide_eq_true h] at HL
    have HJ := Lib.hid (fun w => join_any ax ay bx bz w)
    have HS := Lib.hid (fun w => along_any ax ay bx bz bx bz h.1 h.2 h.2 w)
    have e : alongN ax ay bx bz bx bz = distN ax ay bx bz := rfl
    rw [e] at HS
    clear h e
    have t1 := (Two.new w 23 (.int .i64 ax) (.int .i64 ay)).alloc (.cells #[.int .i64 bx, .int .i64 bz] 23)
    have t2 := Two.at (w := w.alloc (.cells #[.int .i64 ax, .int .i64 ay] 23)) (B := w.heap.size + 1) (by simp) 23 (.int .i64 bx) (.int .i64 bz)
    have s1 := t1.alloc (.cells #[.int .i64 ax, .int .i64 ay, .int .i64 bx, .int .i64 bz] 23)
    have s2 := t2.alloc (.cells #[.int .i64 ax, .int .i64 ay, .int .i64 bx, .int .i64 bz] 23)
    have hb0 := ((((Below.refl w.heap.size w).alloc (Nat.le_refl _) (.cells #[.int .i64 ax, .int .i64 ay] 23)).alloc (by simp) (.cells #[.int .i64 bx, .int .i64 bz] 23))).alloc (by simp; omega) (.cells #[.int .i64 ax, .int .i64 ay, .int .i64 bx, .int .i64 bz] 23)
    clear t1 t2
    go_enter Try.func17, Try.ntmps17
    go_wp2_with fail
    refine (HL.out _ _ _ (pts2 (by simp) _ _ _ _ _)).mono ?_
    rintro r w1 ⟨rfl, hb1⟩
    have r1 := s1.below hb1 s1.lt
    have r2 := s2.below hb1 s2.lt
    have hb2 := hb0.trans (hb1.mono hb0.size)
    clear s1 s2 hb0 hb1
    go_upto_region 3 with fail
    have hS : ∀ w' : World, Below w1.heap.size w1 w' → (w'.cell? ⟨w.heap.size, 0, none⟩ = some (.int .i64 ax) ∧ w'.cell? ⟨w.heap.size, 1, none⟩ = some (.int .i64 ay)) ∧ w'.cell? ⟨w.heap.size + 1, 0, none⟩ = some (.int .i64 bx) ∧ w'.cell? ⟨w.heap.size + 1, 1, none⟩ = some (.int .i64 bz) := fun w' hb =>
      ⟨two_of r1 hb, two_of r2 hb⟩
    have hr := Below.refl w1.heap.size w1
    go_region_held3 (fun w' => (w'.cell? ⟨w.heap.size, 0, none⟩ = some (.int .i64 ax) ∧ w'.cell? ⟨w.heap.size, 1, none⟩ = some (.int .i64 ay)) ∧ w'.cell? ⟨w.heap.size + 1, 0, none⟩ = some (.int .i64 bx) ∧ w'.cell? ⟨w.heap.size + 1, 1, none⟩ = some (.int .i64 bz))
      (first | exact hS _ hr.drew | exact hS _ (by assumption))
      (first
        | (go_at_call 41; refine (HJ.out _).mono ?_; rintro r x1 ⟨rfl, hx1'⟩; have hx1 : Below w1.heap.size w1 x1 := hr.drew.trans hx1')
        | (go_at_call 42; refine (HS.out _).mono ?_; rintro r x2 ⟨rfl, hx2'⟩; have hx2 : Below w1.heap.size w1 x2 := hx1.trans (hx2'.mono hx1.size)))
    all_goals
      go_wp2_with fail
      go_ret
      exact ⟨rfl, hb2.trans (hx2.mono hb2.size)⟩
  · rw [if_neg h]
    rw [decide_eq_false h] at HL
    clear h
    have hb0 := ((((Below.refl w.heap.size w).alloc (Nat.le_refl _) (.cells #[.int .i64 ax, .int .i64 ay] 23)).alloc (by simp) (.cells #[.int .i64 bx, .int .i64 bz] 23))).alloc (by simp; omega) (.cells #[.int .i64 ax, .int .i64 ay, .int .i64 bx, .int .i64 bz] 23)
    go_enter Try.func17, Try.ntmps17
    go_wp2_with fail
    refine (HL.out _ _ _ (pts2 (by simp) _ _ _ _ _)).mono ?_
    rintro r w1 ⟨rfl, hb1⟩
    go_wp2_with fail
    go_ret
    exact ⟨rfl, hb0.trans (hb1.mono hb0.size)⟩
end Go.Proofs.Ytohkmkkcblbemaa.Ge
