/- Walks over package fraction: validity, quotients, floors. -/
import Derived.Test.YtflnhjfmlminoaaDoorFrcW6
namespace Go.Proofs.YtflnhjfmlminoaaDoor.Fr
set_option linter.unusedVariables false
set_option linter.unusedSimpArgs false
open Go.RowKit

theorem valid_yes (n d : Int) (h : valP n d) (w : World) :
    Calls Tryd.prog 16 #[.agg #[.int .i64 n, .int .i64 d]] w fun e w' => e = .returned (.bool true) ∧ Below w.heap.size w w' := by
  obtain ⟨h1, h2, h3, h4, h5⟩ := h
  have t1 := Two.new w 23 (.int .i64 n) (.int .i64 d)
  go_enter Tryd.func16, Tryd.ntmps16
  go_wp2_with (first
    | (go_at_call 40; refine (isTerm_yes _ (by omega) (by omega) _).mono ?_; rintro e w1 ⟨rfl, rfl⟩)
    | (go_at_call 33; refine (divisor_any _ _ (by omega) (by omega) (by omega) (by omega) _).mono ?_; rintro e w1 ⟨rfl, hb1⟩; rw [h5]))
  go_ret
  exact ⟨rfl, ((Below.refl _ _).alloc (Nat.le_refl _) _).trans (hb1.mono (by simp))⟩

theorem valid_no (n d : Int) (h : ¬ valP n d) (w : World) :
    Calls Tryd.prog 16 #[.agg #[.int .i64 n, .int .i64 d]] w fun e w' => e = .returned (.bool false) ∧ Below w.heap.size w w' := by
  by_cases h1 : -4611686018427387904 ≤ n ∧ n ≤ 4611686018427387904
  · by_cases h2 : -4611686018427387904 ≤ d ∧ d ≤ 4611686018427387904
    · by_cases h3 : 1 ≤ d
      · have h4 : ¬ Nat.gcd n.natAbs d.natAbs = 1 := fun k => h ⟨h1.1, h1.2, h3, h2.2, k⟩
        have h5 : (((Nat.gcd n.natAbs d.natAbs : Nat) : Int) == 1) = false := by
          simp only [beq_eq_false_iff_ne, ne_eq]
          omega
        clear h h4
        go_enter Tryd.func16, Tryd.ntmps16
        go_wp2_with fail
        refine (isTerm_yes _ (by omega) (by omega) _).mono ?_
        rintro e w1 ⟨rfl, rfl⟩
        go_wp2_with fail
        refine (isTerm_yes _ (by omega) (by omega) _).mono ?_
        rintro e w1 ⟨rfl, rfl⟩
        go_wp2_with fail
        refine (divisor_any _ _ (by omega) (by omega) (by omega) (by omega) _).mono ?_
        rintro e w1 ⟨rfl, hb1⟩
        go_wp2_with fail
        go_ret
        exact ⟨rfl, ((Below.refl _ _).alloc (Nat.le_refl _) _).trans (hb1.mono (by simp))⟩
      · have h4 : decide (1 ≤ d) = false := by simp; omega
        clear h
        go_enter Tryd.func16, Tryd.ntmps16
        go_wp2_with fail
        refine (isTerm_yes _ (by omega) (by omega) _).mono ?_
        rintro e w1 ⟨rfl, rfl⟩
        go_wp2_with fail
        refine (isTerm_yes _ (by omega) (by omega) _).mono ?_
        rintro e w1 ⟨rfl, rfl⟩
        go_wp2_with fail
        go_ret
        exact ⟨rfl, ((Below.refl _ _).alloc (Nat.le_refl _) _)⟩
    · clear h
      go_enter Tryd.func16, Tryd.ntmps16
      go_wp2_with fail
      refine (isTerm_yes _ (by omega) (by omega) _).mono ?_
      rintro e w1 ⟨rfl, rfl⟩
      go_wp2_with fail
      refine (isTerm_no _ h2 _).mono ?_
      rintro e w1 ⟨rfl, rfl⟩
      go_wp2_with fail
      go_ret
      exact ⟨rfl, ((Below.refl _ _).alloc (Nat.le_refl _) _)⟩
  · clear h
    go_enter Tryd.func16, Tryd.ntmps16
    go_wp2_with (first
      | (go_at_call 40; refine (isTerm_no _ h1 _).mono ?_; rintro e w1 ⟨rfl, rfl⟩))
    go_ret
    exact ⟨rfl, ((Below.refl _ _).alloc (Nat.le_refl _) _)⟩

theorem valid_any (n d : Int) (w : World) :
    Calls Tryd.prog 16 #[.agg #[.int .i64 n, .int .i64 d]] w fun e w' => e = .returned (.bool (valB n d)) ∧ Below w.heap.size w w' := by
  by_cases h : valP n d
  · rw [valB_iff.2 h]
    exact valid_yes n d h w
  · rw [valB_false h]
    exact valid_no n d h w

theorem floor_any (n d : Int) (w : World) (hn1 : -9223372036854775808 ≤ n) (hn2 : n ≤ 9223372036854775807) :
    Calls Tryd.prog 20 #[.agg #[.int .i64 n, .int .i64 d]] w fun e w' => e = .returned (.tuple #[.int .i64 (flV n d), .int .i64 (flE n d)]) ∧ Below w.heap.size w w' := by
  unfold flV flE
  have t1 := Two.new w 23 (.int .i64 n) (.int .i64 d)
  by_cases h : valP n d
  · rw [if_pos h, if_pos h]
    go_enter Tryd.func20, Tryd.ntmps20
    go_wp2_with fail
    refine (valid_yes n d h _).mono ?_
    rintro e w1 ⟨rfl, hb1⟩
    obtain ⟨h1, h2, h3, h4, h5⟩ := h
    have t2 := t1.below hb1 (by simp)
    obtain ⟨c1, c2, c3, c4⟩ := t2.facts
    go_wp2_with fail
    refine (divide_any n d hn1 hn2 h3 h4 _).mono ?_
    rintro e w2 ⟨rfl, hb2⟩
    go_wp2_with fail
    go_ret2
    exact ⟨rfl, (((Below.refl _ _).alloc (Nat.le_refl _) _).trans (hb1.mono (by simp))).trans (hb2.mono (by have := t2.lt; omega))⟩
  · rw [if_neg h, if_neg h]
    go_enter Tryd.func20, Tryd.ntmps20
    go_wp2_with fail
    refine (valid_no n d h _).mono ?_
    rintro e w1 ⟨rfl, hb1⟩
    go_wp2_with fail
    go_ret2
    exact ⟨rfl, (((Below.refl _ _).alloc (Nat.le_refl _) _).trans (hb1.mono (by simp)))⟩
end Go.Proofs.YtflnhjfmlminoaaDoor.Fr
