/- The walk of DateBack. -/
import Derived.Test.YtdbffhcckmmgfaaDoorDatH
namespace Go.Proofs.YtdbffhcckmmgfaaDoor.Dt
set_option linter.unusedVariables false
set_option linter.unusedSimpArgs false
open Go.RowKit

set_option maxRecDepth 100000 in
set_option maxHeartbeats 4000000 in
theorem lawBack (n y m d : Int) (hn1 : -9223372036854775808 ≤ n) (hn2 : n ≤ 9223372036854775807) (hy1 : -9223372036854775808 ≤ y) (hy2 : y ≤ 9223372036854775807) (hm1 : -9223372036854775808 ≤ m) (hm2 : m ≤ 9223372036854775807) (hd1 : -9223372036854775808 ≤ d) (hd2 : d ≤ 9223372036854775807) (w : World) (hl : Lay w) :
    Calls Tryd.prog 6 #[.int .i64 n, .int .i64 y, .int .i64 m, .int .i64 d] w fun e w' => e = .returned (.bool true) ∧ Below w.heap.size w w' := by
  have HM := Lib.hid (fun w hl => make_any y m d w hl)
  have HF := Lib.hid (fun w hl => make_any y 1 1 w hl)
  have hmk := mkV_ok y m d
  have hfirst : (mkV y m d).2 = 0 → (mkV y 1 1).2 = 0 ∧ (mkV y 1 1).1 ≤ (mkV y m d).1 := by
    intro h
    rcases hmk with ⟨-, hD, hN⟩ | e | e
    · have hy := date_year hD hN
      obtain ⟨y0, m0, m1, d0, d1, e⟩ := hD
      have hb := num_bd m0 m1 d0 d1
      have hl1 := len_bd y 1
      have hc : numB y 1 1 = firstN y := by unfold numB; rw [cum_one]; omega
      have e1 : mkV y 1 1 = (numB y 1 1, 0) := by
        unfold mkV
        rw [if_neg (by omega), if_neg (by omega), if_neg (by omega)]
      rw [e1]
      exact ⟨rfl, by show numB y 1 1 ≤ _; omega⟩
    · rw [e] at h; simp at h
    · rw [e] at h; simp at h
  by_cases hn : 0 ≤ n ∧ n ≤ 100000
  · obtain ⟨n0, n1⟩ := hn
    obtain ⟨z, o, c, h⟩ := date_of n0
    have S1 := Lib.hid (fun w hl => split_any h n1 w hl)
    have hz := mkV_date h n1
    have M1 := Lib.hid (fun w hl => make_any z o c w hl)
    rw [hz] at M1
    clear h hz
    rcases hmk with ⟨e, hD, hN⟩ | e | e
    · obtain ⟨f1, f2⟩ := hfirst e
      have HS := Lib.hid (fun w hl => split_any hD hN w hl)
      have h0 := date_ge hD
      generalize mkV y m d = M at *
      generalize mkV y 1 1 = F at *
      obtain ⟨k, ek⟩ := M
      obtain ⟨j, ej⟩ := F
      simp only at e f1 f2 h0
      subst e
      subst f1
      clear hD hN hfirst
      have hb0 : Below w.heap.size w w := Below.refl _ _
      go_enter Tryd.func6, Tryd.ntmps6
      go_wp2_with fail
      refine (head_any _ hl).mono ?_
      rintro r v12 ⟨rfl, hx12⟩
      have hb12 := hb0.trans (hx12.mono hb0.size)
      go_wp2_with fail
      refine (S1.out _ (hl.below hb12)).mono ?_
      rintro r w' ⟨rfl, rfl⟩
      go_wp2_with fail
      refine (M1.out _ (hl.below hb12)).mono ?_
      rintro r w' ⟨rfl, rfl⟩
      go_wp2_with fail
      refine (HM.out _ (hl.below hb12)).mono ?_
      rintro r w' ⟨rfl, rfl⟩
      go_wp2_with fail
      refine (HS.out _ (hl.below hb12)).mono ?_
      rintro r w' ⟨rfl, rfl⟩
      go_wp2_with fail
      refine (HF.out _ (hl.below hb12)).mono ?_
      rintro r w' ⟨rfl, rfl⟩
      go_wp2_with fail
      go_ret
      exact ⟨rfl, hb12⟩
    · rw [e] at HM
      clear hfirst HF e
      have hb0 : Below w.heap.size w w := Below.refl _ _
      go_enter Tryd.func6, Tryd.ntmps6
      go_wp2_with fail
      refine (head_any _ hl).mono ?_
      rintro r v13 ⟨rfl, hx13⟩
      have hb13 := hb0.trans (hx13.mono hb0.size)
      go_wp2_with fail
      refine (S1.out _ (hl.below hb13)).mono ?_
      rintro r w' ⟨rfl, rfl⟩
      go_wp2_with fail
      refine (M1.out _ (hl.below hb13)).mono ?_
      rintro r w' ⟨rfl, rfl⟩
      go_wp2_with fail
      refine (HM.out _ (hl.below hb13)).mono ?_
      rintro r w' ⟨rfl, rfl⟩
      go_wp2_with fail
      go_ret
      exact ⟨rfl, hb13⟩
    · rw [e] at HM
      clear hfirst HF e
      have hb0 : Below w.heap.size w w := Below.refl _ _
      go_enter Tryd.func6, Tryd.ntmps6
      go_wp2_with fail
      refine (head_any _ hl).mono ?_
      rintro r v14 ⟨rfl, hx14⟩
      have hb14 := hb0.trans (hx14.mono hb0.size)
      go_wp2_with fail
      refine (S1.out _ (hl.below hb14)).mono ?_
      rintro r w' ⟨rfl, rfl⟩
      go_wp2_with fail
      refine (M1.out _ (hl.below hb14)).mono ?_
      rintro r w' ⟨rfl, rfl⟩
      go_wp2_with fail
      refine (HM.out _ (hl.below hb14)).mono ?_
      rintro r w' ⟨rfl, rfl⟩
      go_wp2_with fail
      go_ret
      exact ⟨rfl, hb14⟩
  · have S1 := Lib.hid (fun w => split_no n hn w)
    clear hn
    rcases hmk with ⟨e, hD, hN⟩ | e | e
    · obtain ⟨f1, f2⟩ := hfirst e
      have HS := Lib.hid (fun w hl => split_any hD hN w hl)
      have h0 := date_ge hD
      generalize mkV y m d = M at *
      generalize mkV y 1 1 = F at *
      obtain ⟨k, ek⟩ := M
      obtain ⟨j, ej⟩ := F
      simp only at e f1 f2 h0
      subst e
      subst f1
      clear hD hN hfirst
      have hb0 : Below w.heap.size w w := Below.refl _ _
      go_enter Tryd.func6, Tryd.ntmps6
      go_wp2_with fail
      refine (head_any _ hl).mono ?_
      rintro r v15 ⟨rfl, hx15⟩
      have hb15 := hb0.trans (hx15.mono hb0.size)
      go_wp2_with fail
      refine (S1.out _).mono ?_
      rintro r w' ⟨rfl, rfl⟩
      go_wp2_with fail
      refine (HM.out _ (hl.below hb15)).mono ?_
      rintro r w' ⟨rfl, rfl⟩
      go_wp2_with fail
      refine (HS.out _ (hl.below hb15)).mono ?_
      rintro r w' ⟨rfl, rfl⟩
      go_wp2_with fail
      refine (HF.out _ (hl.below hb15)).mono ?_
      rintro r w' ⟨rfl, rfl⟩
      go_wp2_with fail
      go_ret
      exact ⟨rfl, hb15⟩
    · rw [e] at HM
      clear hfirst HF e
      have hb0 : Below w.heap.size w w := Below.refl _ _
      go_enter Tryd.func6, Tryd.ntmps6
      go_wp2_with fail
      refine (head_any _ hl).mono ?_
      rintro r v16 ⟨rfl, hx16⟩
      have hb16 := hb0.trans (hx16.mono hb0.size)
      go_wp2_with fail
      refine (S1.out _).mono ?_
      rintro r w' ⟨rfl, rfl⟩
      go_wp2_with fail
      refine (HM.out _ (hl.below hb16)).mono ?_
      rintro r w' ⟨rfl, rfl⟩
      go_wp2_with fail
      go_ret
      exact ⟨rfl, hb16⟩
    · rw [e] at HM
      clear hfirst HF e
      have hb0 : Below w.heap.size w w := Below.refl _ _
      go_enter Tryd.func6, Tryd.ntmps6
      go_wp2_with fail
      refine (head_any _ hl).mono ?_
      rintro r v17 ⟨rfl, hx17⟩
      have hb17 := hb0.trans (hx17.mono hb0.size)
      go_wp2_with fail
      refine (S1.out _).mono ?_
      rintro r w' ⟨rfl, rfl⟩
      go_wp2_with fail
      refine (HM.out _ (hl.below hb17)).mono ?_
      rintro r w' ⟨rfl, rfl⟩
      go_wp2_with fail
      go_ret
      exact ⟨rfl, hb17⟩
end Go.Proofs.YtdbffhcckmmgfaaDoor.Dt
