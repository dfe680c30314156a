/- The walk of DateMonths. -/
import Derived.Test.YtdbffhcckmmgfaaDoorDatH
import Derived.Test.YtdbffhcckmmgfaaDoorDatR1
namespace Go.Proofs.YtdbffhcckmmgfaaDoor.Dt
set_option linter.unusedVariables false
set_option linter.unusedSimpArgs false
open Go.RowKit

set_option maxRecDepth 100000 in
set_option maxHeartbeats 4000000 in
theorem lawMonths (n a b : Int) (hn1 : -9223372036854775808 ≤ n) (hn2 : n ≤ 9223372036854775807) (ha1 : -32768 ≤ a) (ha2 : a ≤ 32767) (hbb1 : -32768 ≤ b) (hbb2 : b ≤ 32767) (w : World) (hl : Lay w) :
    Calls Tryd.prog 8 #[.int .i64 n, .int .i16 a, .int .i16 b] w fun e w' => e = .returned (.bool true) ∧ Below w.heap.size w w' := by
  by_cases hn : 0 ≤ n ∧ n ≤ 100000
  · obtain ⟨n0, n1⟩ := hn
    obtain ⟨y, m, d, h⟩ := date_of n0
    have hy := date_year h n1
    obtain ⟨y0, m0, m1, d0, d1, -⟩ := id h
    have hlb := len_bd y m
    have S1 := Lib.hid (fun w hl => split_any h n1 w hl)
    have M1 := Lib.hid (fun w hl => months_any h n1 a w hl)
    have M3 := Lib.hid (fun w hl => months_any h n1 (a + b) w hl)
    rcases moV_ok (y := y) (m := m) (d := d) (k := a) d0 with ⟨k, z, o, c, e, hD, hk, hs, hc⟩ | ⟨e, hr⟩
    · have hz := date_year hD hk
      have hk0 := date_ge hD
      obtain ⟨z0, o0, o1, c0, c1, -⟩ := id hD
      have S2 := Lib.hid (fun w hl => split_any hD hk w hl)
      have M2 := Lib.hid (fun w hl => months_any hD hk b w hl)
      have HR := Lib.hid (fun w => rlength_any z o (by omega) (by omega) o0 o1 w)
      have hsB : (12 * z + o == 12 * y + m + a) = true := by simpa using hs
      have hsC : (12 * z + o != 12 * y + m + a) = false := by simpa using hs
      have hlz := len_bd z o
      rw [e] at M1
      have HC := Lib.hid hc
      by_cases hd : 28 < d
      · clear h hD hs e M2 M3
        generalize lenM z o = K at *
        have hcB : (c == min d K) = true := by simpa using HC.out
        have hcC : (c != min d K) = false := by simpa using HC.out
        have hcI : c = min d K := HC.out
        clear hc
        subst hcI
        have hb0 : Below w.heap.size w w := Below.refl _ _
        go_enter Tryd.func8, Tryd.ntmps8
        go_wp2_with fail
        refine (head_any _ hl).mono ?_
        rintro r v18 ⟨rfl, hx18⟩
        have hb18 := hb0.trans (hx18.mono hb0.size)
        go_wp2_with fail
        refine (S1.out _ (hl.below hb18)).mono ?_
        rintro r w' ⟨rfl, rfl⟩
        go_wp2_with fail
        refine (M1.out _ (hl.below hb18)).mono ?_
        rintro r w' ⟨rfl, rfl⟩
        go_wp2_with fail
        refine (S2.out _ (hl.below hb18)).mono ?_
        rintro r w' ⟨rfl, rfl⟩
        go_wp2_with fail
        refine (HR.out _).mono ?_
        rintro r w' ⟨rfl, rfl⟩
        go_wp2_with fail
        go_ret
        exact ⟨rfl, hb18⟩
      · have hadd := moV_add (b := b) d0 (by omega) e hD hk
        rw [hadd] at M2
        generalize moV y m d (a + b) = M at *
        clear h hD hs e hadd
        generalize lenM z o = K at *
        have hcI : c = min d K := HC.out
        clear hc
        subst hcI
        have hb0 : Below w.heap.size w w := Below.refl _ _
        go_enter Tryd.func8, Tryd.ntmps8
        go_wp2_with fail
        refine (head_any _ hl).mono ?_
        rintro r v19 ⟨rfl, hx19⟩
        have hb19 := hb0.trans (hx19.mono hb0.size)
        go_wp2_with fail
        refine (S1.out _ (hl.below hb19)).mono ?_
        rintro r w' ⟨rfl, rfl⟩
        go_wp2_with fail
        refine (M1.out _ (hl.below hb19)).mono ?_
        rintro r w' ⟨rfl, rfl⟩
        go_wp2_with fail
        refine (S2.out _ (hl.below hb19)).mono ?_
        rintro r w' ⟨rfl, rfl⟩
        go_wp2_with fail
        refine (HR.out _).mono ?_
        rintro r w' ⟨rfl, rfl⟩
        go_wp2_with fail
        refine (M2.out _ (hl.below hb19)).mono ?_
        rintro r w' ⟨rfl, rfl⟩
        go_wp2_with fail
        refine (M3.out _ (hl.below hb19)).mono ?_
        rintro r w' ⟨rfl, rfl⟩
        go_wp2_with fail
        go_ret
        exact ⟨rfl, hb19⟩
    · rw [e] at M1
      clear h e M3
      rcases hr with hr | hr
      · have hrr : 12 * y + m - 1 + a < 21600 := hr
        have hb0 : Below w.heap.size w w := Below.refl _ _
        go_enter Tryd.func8, Tryd.ntmps8
        go_wp2_with fail
        refine (head_any _ hl).mono ?_
        rintro r v20 ⟨rfl, hx20⟩
        have hb20 := hb0.trans (hx20.mono hb0.size)
        go_wp2_with fail
        refine (S1.out _ (hl.below hb20)).mono ?_
        rintro r w' ⟨rfl, rfl⟩
        go_wp2_with fail
        refine (M1.out _ (hl.below hb20)).mono ?_
        rintro r w' ⟨rfl, rfl⟩
        go_wp2_with fail
        go_ret
        exact ⟨rfl, hb20⟩
      · have hrr : 24885 ≤ 12 * y + m - 1 + a := hr
        have hr2 : decide (12 * y + m - 1 + a < 21600) = false := by simp; omega
        have hb0 : Below w.heap.size w w := Below.refl _ _
        go_enter Tryd.func8, Tryd.ntmps8
        go_wp2_with fail
        refine (head_any _ hl).mono ?_
        rintro r v21 ⟨rfl, hx21⟩
        have hb21 := hb0.trans (hx21.mono hb0.size)
        go_wp2_with fail
        refine (S1.out _ (hl.below hb21)).mono ?_
        rintro r w' ⟨rfl, rfl⟩
        go_wp2_with fail
        refine (M1.out _ (hl.below hb21)).mono ?_
        rintro r w' ⟨rfl, rfl⟩
        go_wp2_with fail
        go_ret
        exact ⟨rfl, hb21⟩
  · have S1 := Lib.hid (fun w => split_no n hn w)
    have M1 := Lib.hid (fun w => months_no n a hn w)
    clear hn
    have hb0 : Below w.heap.size w w := Below.refl _ _
    go_enter Tryd.func8, Tryd.ntmps8
    go_wp2_with fail
    refine (head_any _ hl).mono ?_
    rintro r v22 ⟨rfl, hx22⟩
    have hb22 := hb0.trans (hx22.mono hb0.size)
    go_wp2_with fail
    refine (S1.out _).mono ?_
    rintro r w' ⟨rfl, rfl⟩
    go_wp2_with fail
    refine (M1.out _).mono ?_
    rintro r w' ⟨rfl, rfl⟩
    go_wp2_with fail
    go_ret
    exact ⟨rfl, hb22⟩
end Go.Proofs.YtdbffhcckmmgfaaDoor.Dt
