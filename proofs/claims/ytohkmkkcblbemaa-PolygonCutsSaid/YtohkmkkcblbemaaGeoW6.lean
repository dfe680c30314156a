/- Walks over package geom: ends of a segment on both sides of another one. -/
import Derived.Test.YtohkmkkcblbemaaGeoW4
namespace Go.Proofs.Ytohkmkkcblbemaa.Ge
set_option linter.unusedVariables false
set_option linter.unusedSimpArgs false
open Go.RowKit
open Go.Proofs.Ytohkmkkcblbemaa.Fr (Two)

set_option maxHeartbeats 4000000 in
theorem apart_any (ax ay bx bz cx cy dx dy : Int) (ha : onP ax ay) (hb : onP bx bz) (hc : onP cx cy) (hd : onP dx dy) (w : World) :
    Calls Try.prog 46 #[.agg #[.int .i64 ax, .int .i64 ay, .int .i64 bx, .int .i64 bz], .func (.func 45) #[.agg #[.int .i64 cx, .int .i64 cy, .int .i64 dx, .int .i64 dy]] #[]] w fun e w' => e = .returned (.bool (apartB ax ay bx bz cx cy dx dy)) ∧ Below w.heap.size w w' := by
  have HN := Lib.hid (fun w => side_any cx cy dx dy ax ay hc hd ha w)
  have HM := Lib.hid (fun w => side_any cx cy dx dy bx bz hc hd hb w)
  have bn := sgn_bd (areaN cx cy dx dy ax ay)
  have bm := sgn_bd (areaN cx cy dx dy bx bz)
  unfold apartB
  generalize sgnI (areaN cx cy dx dy ax ay) = N at *
  generalize sgnI (areaN cx cy dx dy bx bz) = M at *
  have bnm := mul_bd (m := 1) (k := 1) bn.1 bn.2 bm.1 bm.2 (by decide) (by decide)
  have hw : IntKind.i64.wrap (N * M) = N * M := by rw [IntKind.wrap_i64]; omega
  clear ha hb hc hd
  have s1 := Four.at (w := w) (B := w.heap.size) rfl ax ay bx bz
  have hb0 := (Below.refl w.heap.size w).alloc (Nat.le_refl _) (.cells #[.int .i64 ax, .int .i64 ay, .int .i64 bx, .int .i64 bz] 63)
  go_enter Try.func46, Try.ntmps46
  go_upto_region 1 with fail
  generalize w.alloc (.cells #[.int .i64 ax, .int .i64 ay, .int .i64 bx, .int .i64 bz] 63) = W at *
  have hS : ∀ w' : World, Below W.heap.size W w' → (w'.cell? ⟨w.heap.size, 0, none⟩ = some (.int .i64 ax) ∧ w'.cell? ⟨w.heap.size, 1, none⟩ = some (.int .i64 ay) ∧ w'.cell? ⟨w.heap.size, 2, none⟩ = some (.int .i64 bx) ∧ w'.cell? ⟨w.heap.size, 3, none⟩ = some (.int .i64 bz)) := fun w' hb => four_of s1 hb
  have hr := Below.refl W.heap.size W
  go_region_held3 (fun w' => (w'.cell? ⟨w.heap.size, 0, none⟩ = some (.int .i64 ax) ∧ w'.cell? ⟨w.heap.size, 1, none⟩ = some (.int .i64 ay) ∧ w'.cell? ⟨w.heap.size, 2, none⟩ = some (.int .i64 bx) ∧ w'.cell? ⟨w.heap.size, 3, none⟩ = some (.int .i64 bz)))
    (first | exact hS _ hr.drew | exact hS _ (by assumption))
    (first
      | (go_at_call 45; have hz := hx1; refine (HM.out _).mono ?_; rintro r x2 ⟨rfl, hx2'⟩; have hx2 : Below W.heap.size W x2 := hx1.trans (hx2'.mono hx1.size))
      | (go_at_call 45; refine (HN.out _).mono ?_; rintro r x1 ⟨rfl, hx1'⟩; have hx1 : Below W.heap.size W x1 := hr.drew.trans hx1'))
  all_goals
    go_wp2_with fail
    go_ret
    exact ⟨rfl, hb0.trans (hx2.mono hb0.size)⟩
end Go.Proofs.Ytohkmkkcblbemaa.Ge
