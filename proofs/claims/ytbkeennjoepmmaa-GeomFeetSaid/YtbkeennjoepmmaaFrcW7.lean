/- Walks over package fraction: validity, quotients, floors. -/
import Derived.Test.YtbkeennjoepmmaaFrcW6
namespace Go.Proofs.Ytbkeennjoepmmaa.Fr
set_option linter.unusedVariables false
set_option linter.unusedSimpArgs false
open Go.RowKit

theorem valid_yes (n d : Int) (h : valP n d) (w : World) :
    Calls Try.prog 39 #[.agg #[.int .i64 n, .int .i64 d]] w fun e w' => e = .returned (.bool true) ∧ Below w.heap.size w w' := by
  obtain ⟨h1, h2, h3, h4, h5⟩ := h
  have t1 := Two.new w 26 (.int .i64 n) (.int .i64 d)
  go_enter Try.func39, Try.ntmps39
  go_wp2_with (first
    | (go_at_call 48; refine (isTerm_yes _ (by omega) (by omega) _).mono ?_; rintro e w1 ⟨rfl, rfl⟩)
    | (go_at_call 42; refine (divisor_any _ _ (by omega) (by omega) (by omega) (by omega) _).mono ?_; rintro e w1 ⟨rfl, hb1⟩; rw [h5]))
  go_ret
  exact ⟨rfl, ((Below.refl _ _).alloc (Nat.le_refl _) _).trans (hb1.mono (by simp))⟩

theorem valid_no (n d : Int) (h : ¬ valP n d) (w : World) :
    Calls Try.prog 39 #[.agg #[.int .i64 n, .int .i64 d]] w fun e w' => e = .returned (.bool false) ∧ Below w.heap.size w w' := by
  by_cases h1 : -4611686018427387904 ≤ n ∧ n ≤ 4611686018427387904
  · by_cases h2 : -4611686018427387904 ≤ d ∧ d ≤ 4611686018427387904
    · by_cases h3 : 1 ≤ d
      · have h4 : ¬ Nat.gcd n.natAbs d.natAbs = 1 := fun k => h ⟨h1.1, h1.2, h3, h2.2, k⟩
        have h5 : (((Nat.gcd n.natAbs d.natAbs : Nat) : Int) == 1) = false := by
          simp only [beq_eq_false_iff_ne, ne_eq]
          omega
        clear h h4
        go_enter Try.func39, Try.ntmps39
        go_wp2_with fail
        refine (isTerm_yes _ (by omega) (by omega) _).mono ?_
        rintro e w1 ⟨rfl, rfl⟩
        go_wp2_with fail
        refine (isTerm_yes _ (by omega) (by omega) _).mono ?_
        rintro e w1 ⟨rfl, rfl⟩
        go_wp2_with fail
        refine (divisor_any _ _ (by omega) (by omega) (by omega) (by omega) _).mono ?_
        rintro e w1 ⟨rfl, hb1⟩
        go_wp2_with fail
        go_ret
        exact ⟨rfl, ((Below.refl _ _).alloc (Nat.le_refl _) _).trans (hb1.mono (by simp))⟩
      · have h4 : decide (1 ≤ d) = false := by simp; omega
        clear h
        go_enter Try.func39, Try.ntmps39
        go_wp2_with fail
        refine (isTerm_yes _ (by omega) (by omega) _).mono ?_
        rintro e w1 ⟨rfl, rfl⟩
        go_wp2_with fail
        refine (isTerm_yes _ (by omega) (by omega) _).mono ?_
        rintro e w1 ⟨rfl, rfl⟩
        go_wp2_with fail
        go_ret
        exact ⟨rfl, ((Below.refl _ _).alloc (Nat.le_refl _) _)⟩
    · clear h
      go_enter Try.func39, Try.ntmps39
      go_wp2_with fail
      refine (isTerm_yes _ (by omega) (by omega) _).mono ?_
      rintro e w1 ⟨rfl, rfl⟩
      go_wp2_with fail
      refine (isTerm_no _ h2 _).mono ?_
      rintro e w1 ⟨rfl, rfl⟩
      go_wp2_with fail
      go_ret
      exact ⟨rfl, ((Below.refl _ _).alloc (Nat.le_refl _) _)⟩
  · clear h
    go_enter Try.func39, Try.ntmps39
    go_wp2_with (first
      | (go_at_call 48; refine (isTerm_no _ h1 _).mono ?_; rintro e w1 ⟨rfl, rfl⟩))
    go_ret
    exact ⟨rfl, ((Below.refl _ _).alloc (Nat.le_refl _) _)⟩

theorem valid_any (n d : Int) (w : World) :
    Calls Try.prog 39 #[.agg #[.int .i64 n, .int .i64 d]] w fun e w' => e = .returned (.bool (valB n d)) ∧ Below w.heap.size w w' := by
  by_cases h : valP n d
  · rw [valB_iff.2 h]
    exact valid_yes n d h w
  · rw [valB_false h]
    exact valid_no n d h w

end Go.Proofs.Ytbkeennjoepmmaa.Fr
