/- The walk of DateWeeks. -/
import Derived.Test.YtdbffhcckmmgfaaDoorDatH
namespace Go.Proofs.YtdbffhcckmmgfaaDoor.Dt
set_option linter.unusedVariables false
set_option linter.unusedSimpArgs false
open Go.RowKit

set_option maxRecDepth 100000 in
set_option maxHeartbeats 4000000 in
theorem lawWeeks (a b : Int) (ha1 : -9223372036854775808 ≤ a) (ha2 : a ≤ 9223372036854775807) (hb1 : -9223372036854775808 ≤ b) (hb2 : b ≤ 9223372036854775807) (w : World) (hl : Lay w) :
    Calls Tryd.prog 7 #[.int .i64 a, .int .i64 b] w fun e w' => e = .returned (.bool true) ∧ Below w.heap.size w w' := by
  have hwk : ∀ n, 0 ≤ wkV n ∧ wkV n < 7 := fun n => by unfold wkV; omega
  by_cases ha : 0 ≤ a ∧ a ≤ 100000
  · obtain ⟨a0, a1⟩ := ha
    have HA := Lib.hid (fun w => weekday_any a a0 a1 w)
    obtain ⟨wa0, wa1⟩ := hwk a
    by_cases hb : 0 ≤ b ∧ b ≤ 100000
    · obtain ⟨b0, b1⟩ := hb
      have HB := Lib.hid (fun w => weekday_any b b0 b1 w)
      obtain ⟨wc0, wc1⟩ := hwk b
      by_cases hab : b < a
      · clear hwk
        generalize wkV a = x at *
        generalize wkV b = y at *
        have hb0 : Below w.heap.size w w := Below.refl _ _
        go_enter Tryd.func7, Tryd.ntmps7
        go_wp2_with fail
        refine (head_any _ hl).mono ?_
        rintro r v1 ⟨rfl, hx1⟩
        have hb1 := hb0.trans (hx1.mono hb0.size)
        go_wp2_with fail
        refine (HA.out _).mono ?_
        rintro r w' ⟨rfl, rfl⟩
        go_wp2_with fail
        refine (HB.out _).mono ?_
        rintro r w' ⟨rfl, rfl⟩
        go_wp2_with fail
        go_ret
        exact ⟨rfl, hb1⟩
      · have hle : a ≤ b := by omega
        have hnl : decide (b < a) = false := by simpa using hab
        have hf : ((wkV a + (b - a) % 7) % 7 == wkV b) = true := by
          rw [beq_iff_eq]
          unfold wkV
          omega
        have hf2 : ((wkV a + (b - a)) % 7 == wkV b) = true := by
          rw [beq_iff_eq]
          unfold wkV
          omega
        clear hwk hab
        generalize wkV a = x at *
        generalize wkV b = y at *
        have hb0 : Below w.heap.size w w := Below.refl _ _
        go_enter Tryd.func7, Tryd.ntmps7
        go_wp2_with fail
        refine (head_any _ hl).mono ?_
        rintro r v2 ⟨rfl, hx2⟩
        have hb2 := hb0.trans (hx2.mono hb0.size)
        go_wp2_with fail
        refine (HA.out _).mono ?_
        rintro r w' ⟨rfl, rfl⟩
        go_wp2_with fail
        refine (HB.out _).mono ?_
        rintro r w' ⟨rfl, rfl⟩
        go_wp2_with fail
        go_ret
        exact ⟨rfl, hb2⟩
    · have HB := Lib.hid (fun w => weekday_no b hb w)
      clear hwk hb
      generalize wkV a = x at *
      have hb0 : Below w.heap.size w w := Below.refl _ _
      go_enter Tryd.func7, Tryd.ntmps7
      go_wp2_with fail
      refine (head_any _ hl).mono ?_
      rintro r v3 ⟨rfl, hx3⟩
      have hb3 := hb0.trans (hx3.mono hb0.size)
      go_wp2_with fail
      refine (HA.out _).mono ?_
      rintro r w' ⟨rfl, rfl⟩
      go_wp2_with fail
      refine (HB.out _).mono ?_
      rintro r w' ⟨rfl, rfl⟩
      go_wp2_with fail
      go_ret
      exact ⟨rfl, hb3⟩
  · have HA := Lib.hid (fun w => weekday_no a ha w)
    by_cases hb : 0 ≤ b ∧ b ≤ 100000
    · obtain ⟨b0, b1⟩ := hb
      have HB := Lib.hid (fun w => weekday_any b b0 b1 w)
      clear hwk ha
      generalize wkV b = y at *
      have hb0 : Below w.heap.size w w := Below.refl _ _
      go_enter Tryd.func7, Tryd.ntmps7
      go_wp2_with fail
      refine (head_any _ hl).mono ?_
      rintro r v4 ⟨rfl, hx4⟩
      have hb4 := hb0.trans (hx4.mono hb0.size)
      go_wp2_with fail
      refine (HA.out _).mono ?_
      rintro r w' ⟨rfl, rfl⟩
      go_wp2_with fail
      refine (HB.out _).mono ?_
      rintro r w' ⟨rfl, rfl⟩
      go_wp2_with fail
      go_ret
      exact ⟨rfl, hb4⟩
    · have HB := Lib.hid (fun w => weekday_no b hb w)
      clear hwk ha hb
      have hb0 : Below w.heap.size w w := Below.refl _ _
      go_enter Tryd.func7, Tryd.ntmps7
      go_wp2_with fail
      refine (head_any _ hl).mono ?_
      rintro r v5 ⟨rfl, hx5⟩
      have hb5 := hb0.trans (hx5.mono hb0.size)
      go_wp2_with fail
      refine (HA.out _).mono ?_
      rintro r w' ⟨rfl, rfl⟩
      go_wp2_with fail
      refine (HB.out _).mono ?_
      rintro r w' ⟨rfl, rfl⟩
      go_wp2_with fail
      go_ret
      exact ⟨rfl, hb5⟩
end Go.Proofs.YtdbffhcckmmgfaaDoor.Dt
