/- The walk of DateFollows. -/
import Derived.Test.YtdbffhcckmmgfaaDoorDatH
import Derived.Test.YtdbffhcckmmgfaaDoorDatR1
namespace Go.Proofs.YtdbffhcckmmgfaaDoor.Dt
set_option linter.unusedVariables false
set_option linter.unusedSimpArgs false
open Go.RowKit

set_option maxRecDepth 100000 in
set_option maxHeartbeats 4000000 in
theorem lawFollows (n : Int) (hn1 : -9223372036854775808 ≤ n) (hn2 : n ≤ 9223372036854775807) (w : World) (hl : Lay w) :
    Calls Tryd.prog 5 #[.int .i64 n] w fun e w' => e = .returned (.bool true) ∧ Below w.heap.size w w' := by
  by_cases hn : 0 ≤ n ∧ n ≤ 99999
  · obtain ⟨n0, n1⟩ := hn
    obtain ⟨y, m, d, h⟩ := date_of n0
    have hy := date_year h (by omega)
    obtain ⟨y0, m0, m1, d0, d1, -⟩ := id h
    have hlb := len_bd y m
    have S1 := Lib.hid (fun w hl => split_any h (by omega) w hl)
    have HR := Lib.hid (fun w => rlength_any y m (by omega) (by omega) m0 m1 w)
    rcases date_next h with ⟨hd, h2⟩ | ⟨hd, hm, h2⟩ | ⟨hd, hm, h2⟩
    · have S2 := Lib.hid (fun w hl => split_any h2 (by omega) w hl)
      clear h h2
      generalize lenM y m = K at *
      have hb0 : Below w.heap.size w w := Below.refl _ _
      go_enter Tryd.func5, Tryd.ntmps5
      go_wp2_with fail
      refine (head_any _ hl).mono ?_
      rintro r v6 ⟨rfl, hx6⟩
      have hb6 := hb0.trans (hx6.mono hb0.size)
      go_wp2_with fail
      refine (S1.out _ (hl.below hb6)).mono ?_
      rintro r w' ⟨rfl, rfl⟩
      go_wp2_with fail
      refine (S2.out _ (hl.below hb6)).mono ?_
      rintro r w' ⟨rfl, rfl⟩
      go_wp2_with fail
      refine (HR.out _).mono ?_
      rintro r w' ⟨rfl, rfl⟩
      go_wp2_with fail
      go_ret
      exact ⟨rfl, hb6⟩
    · have S2 := Lib.hid (fun w hl => split_any h2 (by omega) w hl)
      clear h h2
      rw [← hd] at HR hlb
      have hdd : decide (d < d) = false := by simp
      clear hd d1
      have hb0 : Below w.heap.size w w := Below.refl _ _
      go_enter Tryd.func5, Tryd.ntmps5
      go_wp2_with fail
      refine (head_any _ hl).mono ?_
      rintro r v7 ⟨rfl, hx7⟩
      have hb7 := hb0.trans (hx7.mono hb0.size)
      go_wp2_with fail
      refine (S1.out _ (hl.below hb7)).mono ?_
      rintro r w' ⟨rfl, rfl⟩
      go_wp2_with fail
      refine (S2.out _ (hl.below hb7)).mono ?_
      rintro r w' ⟨rfl, rfl⟩
      go_wp2_with fail
      refine (HR.out _).mono ?_
      rintro r w' ⟨rfl, rfl⟩
      go_wp2_with fail
      refine (HR.out _).mono ?_
      rintro r w' ⟨rfl, rfl⟩
      go_wp2_with fail
      go_ret
      exact ⟨rfl, hb7⟩
    · have S2 := Lib.hid (fun w hl => split_any h2 (by omega) w hl)
      clear h h2
      rw [← hd] at HR hlb
      have hdd : decide (d < d) = false := by simp
      clear hd d1
      subst hm
      have hb0 : Below w.heap.size w w := Below.refl _ _
      go_enter Tryd.func5, Tryd.ntmps5
      go_wp2_with fail
      refine (head_any _ hl).mono ?_
      rintro r v8 ⟨rfl, hx8⟩
      have hb8 := hb0.trans (hx8.mono hb0.size)
      go_wp2_with fail
      refine (S1.out _ (hl.below hb8)).mono ?_
      rintro r w' ⟨rfl, rfl⟩
      go_wp2_with fail
      refine (S2.out _ (hl.below hb8)).mono ?_
      rintro r w' ⟨rfl, rfl⟩
      go_wp2_with fail
      refine (HR.out _).mono ?_
      rintro r w' ⟨rfl, rfl⟩
      go_wp2_with fail
      refine (HR.out _).mono ?_
      rintro r w' ⟨rfl, rfl⟩
      go_wp2_with fail
      go_ret
      exact ⟨rfl, hb8⟩
  · by_cases hm : n = 100000
    · subst hm
      obtain ⟨y, m, d, h⟩ := date_of (n := 100000) (by omega)
      have S1 := Lib.hid (fun w hl => split_any h (by omega) w hl)
      clear h hn
      have hb0 : Below w.heap.size w w := Below.refl _ _
      go_enter Tryd.func5, Tryd.ntmps5
      go_wp2_with fail
      refine (head_any _ hl).mono ?_
      rintro r v9 ⟨rfl, hx9⟩
      have hb9 := hb0.trans (hx9.mono hb0.size)
      go_wp2_with fail
      refine (S1.out _ (hl.below hb9)).mono ?_
      rintro r w' ⟨rfl, rfl⟩
      go_wp2_with fail
      go_ret
      exact ⟨rfl, hb9⟩
    · have S1 := Lib.hid (fun w => split_no n (by omega) w)
      have hmb : (n == 100000) = false := by simpa using hm
      have hmc : (n != 100000) = true := by simpa using hm
      by_cases h0 : n < 0
      · clear hn hm
        have hb0 : Below w.heap.size w w := Below.refl _ _
        go_enter Tryd.func5, Tryd.ntmps5
        go_wp2_with fail
        refine (head_any _ hl).mono ?_
        rintro r v10 ⟨rfl, hx10⟩
        have hb10 := hb0.trans (hx10.mono hb0.size)
        go_wp2_with fail
        refine (S1.out _).mono ?_
        rintro r w' ⟨rfl, rfl⟩
        go_wp2_with fail
        go_ret
        exact ⟨rfl, hb10⟩
      · have h1 : 100000 ≤ n := by omega
        have h2 : decide (n < 0) = false := by simpa using h0
        clear hn hm h0
        have hb0 : Below w.heap.size w w := Below.refl _ _
        go_enter Tryd.func5, Tryd.ntmps5
        go_wp2_with fail
        refine (head_any _ hl).mono ?_
        rintro r v11 ⟨rfl, hx11⟩
        have hb11 := hb0.trans (hx11.mono hb0.size)
        go_wp2_with fail
        refine (S1.out _).mono ?_
        rintro r w' ⟨rfl, rfl⟩
        go_wp2_with fail
        go_ret
        exact ⟨rfl, hb11⟩
end Go.Proofs.YtdbffhcckmmgfaaDoor.Dt
