/- Walks over package date: leap years, lengths of months, the first day of a year. -/
import Derived.Test.YtdbffhcckmmgfaaDoorDatMath
import Derived.Test.YtdbffhcckmmgfaaDoorProg
import Derived.Test.YtdbffhcckmmgfaaDoorShelf
import Derived.WalkKit
import Derived.IntWalk
import Derived.LoopTactic
import Derived.BigQuiet
import Derived.Outline
import Derived.Lib.AppendIntMem
import Derived.Lib.SmallJoins
import Derived.Deep.DeepCutAuto
namespace Go.Proofs.YtdbffhcckmmgfaaDoor.Dt
set_option linter.unusedVariables false
set_option linter.unusedSimpArgs false
open Go.RowKit

theorem isDay_yes (n : Int) (h1 : 0 ≤ n) (h2 : n ≤ 100000) (w : World) :
    Calls Tryd.prog 37 #[.int .i64 n] w fun e w' => e = .returned (.bool true) ∧ w = w' := by
  go_enter Tryd.func37, Tryd.ntmps37
  go_wp2_with fail
  go_ret
  exact ⟨rfl, rfl⟩
theorem isDay_no (n : Int) (h : ¬ (0 ≤ n ∧ n ≤ 100000)) (w : World) :
    Calls Tryd.prog 37 #[.int .i64 n] w fun e w' => e = .returned (.bool false) ∧ w = w' := by
  by_cases h1 : n < 0
  · have h2 : decide (0 ≤ n) = false := by simp; omega
    go_enter Tryd.func37, Tryd.ntmps37
    go_wp2_with fail
    go_ret
    exact ⟨rfl, rfl⟩
  · have h2 : 100000 < n := by omega
    have h3 : decide (0 ≤ n) = true := by simp; omega
    have h4 : decide (n ≤ 100000) = false := by simp; omega
    go_enter Tryd.func37, Tryd.ntmps37
    go_wp2_with fail
    go_ret
    exact ⟨rfl, rfl⟩

theorem isLeap_any (y : Int) (h0 : 0 ≤ y) (h1 : y ≤ 100000) (w : World) :
    Calls Tryd.prog 56 #[.int .i64 y] w fun e w' => e = .returned (.bool (leapB y)) ∧ w = w' := by
  have hl := leapB_iff y
  generalize leapB y = B at *
  by_cases h4 : y % 4 = 0
  · have k4 : (y % 4 == 0) = true := by simpa using h4
    by_cases hh : y % 100 = 0
    · have kh : (y % 100 == 0) = true := by simpa using hh
      have kh2 : (y % 100 != 0) = false := by simpa using hh
      by_cases hf : y % 400 = 0
      · have kf : (y % 400 == 0) = true := by simpa using hf
        obtain rfl : B = true := hl.2 (.inr hf)
        clear hl h4 hh hf
        go_enter Tryd.func56, Tryd.ntmps56
        go_wp2_with fail
        go_ret
        exact ⟨rfl, rfl⟩
      · have kf : (y % 400 == 0) = false := by simpa using hf
        obtain rfl : B = false := by rw [Bool.eq_false_iff]; exact fun k => by have := hl.1 k; omega
        clear hl h4 hh hf
        go_enter Tryd.func56, Tryd.ntmps56
        go_wp2_with fail
        go_ret
        exact ⟨rfl, rfl⟩
    · have kh : (y % 100 == 0) = false := by simpa using hh
      have kh2 : (y % 100 != 0) = true := by simpa using hh
      obtain rfl : B = true := hl.2 (.inl ⟨h4, hh⟩)
      clear hl h4 hh
      go_enter Tryd.func56, Tryd.ntmps56
      go_wp2_with fail
      go_ret
      exact ⟨rfl, rfl⟩
  · have k4 : (y % 4 == 0) = false := by simpa using h4
    have kf : (y % 400 == 0) = false := by simp; omega
    obtain rfl : B = false := by rw [Bool.eq_false_iff]; exact fun k => by have := hl.1 k; omega
    clear hl h4
    go_enter Tryd.func56, Tryd.ntmps56
    go_wp2_with fail
    go_ret
    exact ⟨rfl, rfl⟩

/-- the table of lengths -/
def lenT : List Int := [31, 28, 31, 30, 31, 30, 31, 31, 30, 31, 30, 31]
/-- what the tables hold -/
def Lay (w : World) : Prop := Lib.TabIs Tryd.prog w "internal/strconv.uint64pow10" .u64 Lib.pow10Tab ∧ Lib.TabIs Tryd.prog w "gazetteer/date.lengths" .i64 lenT
theorem Lay.below {w w' : World} (h : Lay w) (hb : Below w.heap.size w w') : Lay w' := ⟨Lib.tabBelow_of_tabIs h.1 w' hb, Lib.tabBelow_of_tabIs h.2 w' hb⟩
theorem gLen : Tryd.prog.globalNamed "gazetteer/date.lengths" = some 0 := by kernel_rfl
theorem Lay.len {w : World} (h : Lay w) (k : Nat) (hk : k < 12) : w.cell? ⟨0, k, none⟩ = some (.int .i64 (lenT.getD k 0)) := by
  have hc := h.2.cell gLen k (by simpa [lenT] using hk)
  exact hc
theorem lenT_eq (y : Int) (k : Nat) (hk : k < 12) : lenM y ((k : Int) + 1) = lenT.getD k 0 + (if (k : Int) + 1 = 2 ∧ leapB y = true then 1 else 0) := by
  unfold lenM leapI
  obtain rfl | rfl | rfl | rfl | rfl | rfl | rfl | rfl | rfl | rfl | rfl | rfl : k = 0 ∨ k = 1 ∨ k = 2 ∨ k = 3 ∨ k = 4 ∨ k = 5 ∨ k = 6 ∨ k = 7 ∨ k = 8 ∨ k = 9 ∨ k = 10 ∨ k = 11 := by omega
  all_goals simp [lenT]

theorem length_any (y m : Int) (h0 : 1 ≤ y) (h1 : y ≤ 10000) (hm : 1 ≤ m) (hm2 : m ≤ 12) (w : World) (hl : Lay w) :
    Calls Tryd.prog 35 #[.int .i64 y, .int .i64 m] w fun e w' => e = .returned (.int .i64 (lenM y m)) ∧ w = w' := by
  obtain ⟨k, hk⟩ := Int.eq_ofNat_of_zero_le (show 0 ≤ m - 1 by omega)
  obtain rfl : m = (k : Int) + 1 := by omega
  have hk12 : k < 12 := by omega
  clear hk
  have e := lenT_eq y k hk12
  have hc := hl.len k hk12
  have htv : 28 ≤ lenT.getD k 0 ∧ lenT.getD k 0 ≤ 31 := by
    obtain rfl | rfl | rfl | rfl | rfl | rfl | rfl | rfl | rfl | rfl | rfl | rfl : k = 0 ∨ k = 1 ∨ k = 2 ∨ k = 3 ∨ k = 4 ∨ k = 5 ∨ k = 6 ∨ k = 7 ∨ k = 8 ∨ k = 9 ∨ k = 10 ∨ k = 11 := by omega
    all_goals decide
  generalize lenT.getD k 0 = v at *
  obtain ⟨hv1, hv2⟩ := htv
  have ew : (k : Int) + 1 - 1 = (k : Int) := by omega
  by_cases h2 : (k : Int) + 1 = 2
  · have kb : ((k : Int) + 1 == 2) = true := by simpa using h2
    have hcall := fun w => isLeap_any y (by omega) (by omega) w
    cases hb : leapB y with
    | true =>
      rw [hb, if_pos ⟨h2, rfl⟩] at e
      rw [hb] at hcall
      rw [e]
      have HC := Lib.hid hcall
      clear e hb hcall h2
      go_enter Tryd.func35, Tryd.ntmps35
      go_wp2_with fail
      refine (HC.out _).mono ?_
      rintro r w' ⟨rfl, rfl⟩
      go_wp2_with fail
      go_ret
      exact ⟨rfl, rfl⟩
    | false =>
      rw [hb, if_neg (by simp), Int.add_zero] at e
      rw [hb] at hcall
      rw [e]
      have HC := Lib.hid hcall
      clear e hb hcall h2
      go_enter Tryd.func35, Tryd.ntmps35
      go_wp2_with fail
      refine (HC.out _).mono ?_
      rintro r w' ⟨rfl, rfl⟩
      go_wp2_with fail
      go_ret
      exact ⟨rfl, rfl⟩
  · have kb : ((k : Int) + 1 == 2) = false := by simpa using h2
    rw [if_neg (fun h => h2 h.1), Int.add_zero] at e
    rw [e]
    clear e h2
    go_enter Tryd.func35, Tryd.ntmps35
    go_wp2_with fail
    go_ret
    exact ⟨rfl, rfl⟩

theorem leaps_any (y : Int) (h0 : 0 ≤ y) (h1 : y ≤ 10000) (w : World) :
    Calls Tryd.prog 57 #[.int .i64 y] w fun e w' => e = .returned (.int .i64 (y / 4 - y / 100 + y / 400)) ∧ w = w' := by
  go_enter Tryd.func57, Tryd.ntmps57
  go_wp2_with fail
  go_ret
  exact ⟨rfl, rfl⟩
theorem newYear_any (y : Int) (h0 : 1800 ≤ y) (h1 : y ≤ 10000) (w : World) :
    Calls Tryd.prog 36 #[.int .i64 y] w fun e w' => e = .returned (.int .i64 (firstN y)) ∧ w = w' := by
  have ef : firstN y = 365 * (y - 1800) + ((y - 1) / 4 - (y - 1) / 100 + (y - 1) / 400) - (1799 / 4 - 1799 / 100 + 1799 / 400) := by unfold firstN; omega
  rw [ef]
  clear ef
  go_enter Tryd.func36, Tryd.ntmps36
  go_wp2_with fail
  refine (leaps_any _ (by omega) (by omega) _).mono ?_
  rintro r w' ⟨rfl, rfl⟩
  go_wp2_with fail
  refine (leaps_any _ (by omega) (by omega) _).mono ?_
  rintro r w' ⟨rfl, rfl⟩
  go_wp2_with fail
  go_ret
  exact ⟨rfl, rfl⟩
end Go.Proofs.YtdbffhcckmmgfaaDoor.Dt
