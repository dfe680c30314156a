/- Walks over package polygon: Within, Apart. -/
import Derived.Test.YtohkmkkcblbemaaPolW14
namespace Go.Proofs.Ytohkmkkcblbemaa.Ge
set_option linter.unusedVariables false
set_option linter.unusedSimpArgs false
open Go.RowKit
open Go.Proofs.Ytohkmkkcblbemaa.Fr (Two)

set_option maxHeartbeats 4000000 in
theorem Within_any (va vb : Value) (ra rb : List Pt) (w : World) (ha : PtSl w va ra) (hb : PtSl w vb rb) :
    Calls Try.prog 29 #[va, vb] w fun e w' => e = .returned (.bool (withinB ra rb)) ∧ Below w.heap.size w w' := by
  have HVA := Lib.hid (Valid_any va ra w ha)
  have HVB := Lib.hid (fun (w1 : World) (h : Below w.heap.size w w1) => Valid_any vb rb w1 (hb.below h))
  obtain ⟨a1, a2, ea⟩ := ha.form
  obtain ⟨b1, b2, eb⟩ := hb.form
  unfold withinB
  cases hva : validB ra with
  | false =>
    rw [hva] at HVA; rw [Bool.false_and]
    subst ea eb; clear ha hb hva
    go_enter Try.func29, Try.ntmps29
    go_wp2_with fail
    refine (HVA.out).mono ?_
    rintro e w1 ⟨rfl, hx1⟩
    have hy1 := (Below.refl w.heap.size w).trans (hx1.mono (Below.refl w.heap.size w).size)
    go_wp2_with fail
    go_ret
    exact ⟨rfl, hy1⟩
  | true =>
    rw [hva] at HVA; rw [Bool.true_and]
    cases hvb : validB rb with
    | false =>
      rw [hvb] at HVB; rw [Bool.false_and]
      subst ea eb; clear ha hb hva hvb
      go_enter Try.func29, Try.ntmps29
      go_wp2_with fail
      refine (HVA.out).mono ?_
      rintro e w1 ⟨rfl, hx1⟩
      have hy1 := (Below.refl w.heap.size w).trans (hx1.mono (Below.refl w.heap.size w).size)
      go_wp2_with fail
      refine (HVB.out _ hy1).mono ?_
      rintro e w2 ⟨rfl, hx2⟩
      have hy2 := hy1.trans (hx2.mono hy1.size)
      go_wp2_with fail
      go_ret
      exact ⟨rfl, hy2⟩
    | true =>
      rw [hvb] at HVB; rw [Bool.true_and]
      have la := valid_len hva
      have lb := valid_len hvb
      have na := valid_on hva
      have nb := valid_on hvb
      have ra1 := ha.ring (by omega)
      have rb1 := hb.ring (by omega)
      have HX := Lib.hid (fun (w1 : World) (h : Below w.heap.size w w1) => crossing_any va vb ra rb na nb (by omega) (by omega) w1 (ra1.below h) (rb1.below h))
      have HR := Lib.hid (fun (th : Int) (w1 : World) (h : Below w.heap.size w w1) => reaches_any va vb ra rb th na nb (by omega) (by omega) w1 (ra1.below h) (rb1.below h))
      clear la lb na nb ra1 rb1 ha hb hva hvb
      subst ea eb
      cases hx : crossingB ra rb with
      | true =>
        rw [hx] at HX; rw [Bool.not_true, Bool.false_and]
        clear hx
        go_enter Try.func29, Try.ntmps29
        go_wp2_with fail
        refine (HVA.out).mono ?_
        rintro e w1 ⟨rfl, hx1⟩
        have hy1 := (Below.refl w.heap.size w).trans (hx1.mono (Below.refl w.heap.size w).size)
        go_wp2_with fail
        refine (HVB.out _ hy1).mono ?_
        rintro e w2 ⟨rfl, hx2⟩
        have hy2 := hy1.trans (hx2.mono hy1.size)
        go_wp2_with fail
        refine (HX.out _ hy2).mono ?_
        rintro e w3 ⟨rfl, hx3⟩
        have hy3 := hy2.trans (hx3.mono hy2.size)
        go_wp2_with fail
        go_ret
        exact ⟨rfl, hy3⟩
      | false =>
        rw [hx] at HX; rw [Bool.not_false, Bool.true_and]
        have HR1 := Lib.hid (fun w1 h => HR.out (-1) w1 h)
        cases hq : reachesB ra rb (-1) with
        | true =>
          rw [hq] at HR1
          clear hx hq
          go_enter Try.func29, Try.ntmps29
          go_wp2_with fail
          refine (HVA.out).mono ?_
          rintro e w1 ⟨rfl, hx1⟩
          have hy1 := (Below.refl w.heap.size w).trans (hx1.mono (Below.refl w.heap.size w).size)
          go_wp2_with fail
          refine (HVB.out _ hy1).mono ?_
          rintro e w2 ⟨rfl, hx2⟩
          have hy2 := hy1.trans (hx2.mono hy1.size)
          go_wp2_with fail
          refine (HX.out _ hy2).mono ?_
          rintro e w3 ⟨rfl, hx3⟩
          have hy3 := hy2.trans (hx3.mono hy2.size)
          go_wp2_with fail
          refine (HR1.out _ hy3).mono ?_
          rintro e w4 ⟨rfl, hx4⟩
          have hy4 := hy3.trans (hx4.mono hy3.size)
          go_wp2_with fail
          go_ret
          exact ⟨rfl, hy4⟩
        | false =>
          rw [hq] at HR1
          clear hx hq
          go_enter Try.func29, Try.ntmps29
          go_wp2_with fail
          refine (HVA.out).mono ?_
          rintro e w1 ⟨rfl, hx1⟩
          have hy1 := (Below.refl w.heap.size w).trans (hx1.mono (Below.refl w.heap.size w).size)
          go_wp2_with fail
          refine (HVB.out _ hy1).mono ?_
          rintro e w2 ⟨rfl, hx2⟩
          have hy2 := hy1.trans (hx2.mono hy1.size)
          go_wp2_with fail
          refine (HX.out _ hy2).mono ?_
          rintro e w3 ⟨rfl, hx3⟩
          have hy3 := hy2.trans (hx3.mono hy2.size)
          go_wp2_with fail
          refine (HR1.out _ hy3).mono ?_
          rintro e w4 ⟨rfl, hx4⟩
          have hy4 := hy3.trans (hx4.mono hy3.size)
          go_wp2_with fail
          go_ret
          exact ⟨rfl, hy4⟩

set_option maxHeartbeats 4000000 in
theorem Apart_any (va vb : Value) (ra rb : List Pt) (w : World) (ha : PtSl w va ra) (hb : PtSl w vb rb) :
    Calls Try.prog 31 #[va, vb] w fun e w' => e = .returned (.bool (apartR ra rb)) ∧ Below w.heap.size w w' := by
  have HVA := Lib.hid (Valid_any va ra w ha)
  have HVB := Lib.hid (fun (w1 : World) (h : Below w.heap.size w w1) => Valid_any vb rb w1 (hb.below h))
  obtain ⟨a1, a2, ea⟩ := ha.form
  obtain ⟨b1, b2, eb⟩ := hb.form
  unfold apartR
  cases hva : validB ra with
  | false =>
    rw [hva] at HVA; rw [Bool.false_and]
    subst ea eb; clear ha hb hva
    go_enter Try.func31, Try.ntmps31
    go_wp2_with fail
    refine (HVA.out).mono ?_
    rintro e w1 ⟨rfl, hx1⟩
    have hy1 := (Below.refl w.heap.size w).trans (hx1.mono (Below.refl w.heap.size w).size)
    go_wp2_with fail
    go_ret
    exact ⟨rfl, hy1⟩
  | true =>
    rw [hva] at HVA; rw [Bool.true_and]
    cases hvb : validB rb with
    | false =>
      rw [hvb] at HVB; rw [Bool.false_and]
      subst ea eb; clear ha hb hva hvb
      go_enter Try.func31, Try.ntmps31
      go_wp2_with fail
      refine (HVA.out).mono ?_
      rintro e w1 ⟨rfl, hx1⟩
      have hy1 := (Below.refl w.heap.size w).trans (hx1.mono (Below.refl w.heap.size w).size)
      go_wp2_with fail
      refine (HVB.out _ hy1).mono ?_
      rintro e w2 ⟨rfl, hx2⟩
      have hy2 := hy1.trans (hx2.mono hy1.size)
      go_wp2_with fail
      go_ret
      exact ⟨rfl, hy2⟩
    | true =>
      rw [hvb] at HVB; rw [Bool.true_and]
      have la := valid_len hva
      have lb := valid_len hvb
      have na := valid_on hva
      have nb := valid_on hvb
      have ra1 := ha.ring (by omega)
      have rb1 := hb.ring (by omega)
      have HX := Lib.hid (fun (w1 : World) (h : Below w.heap.size w w1) => crossing_any va vb ra rb na nb (by omega) (by omega) w1 (ra1.below h) (rb1.below h))
      have HR := Lib.hid (fun (th : Int) (w1 : World) (h : Below w.heap.size w w1) => reaches_any va vb ra rb th na nb (by omega) (by omega) w1 (ra1.below h) (rb1.below h))
      have HS := Lib.hid (fun (th : Int) (w1 : World) (h : Below w.heap.size w w1) => reaches_any vb va rb ra th nb na (by omega) (by omega) w1 (rb1.below h) (ra1.below h))
      clear la lb na nb ra1 rb1 ha hb hva hvb
      subst ea eb
      cases hx : crossingB ra rb with
      | true =>
        rw [hx] at HX; rw [Bool.not_true, Bool.false_and]
        clear hx
        go_enter Try.func31, Try.ntmps31
        go_wp2_with fail
        refine (HVA.out).mono ?_
        rintro e w1 ⟨rfl, hx1⟩
        have hy1 := (Below.refl w.heap.size w).trans (hx1.mono (Below.refl w.heap.size w).size)
        go_wp2_with fail
        refine (HVB.out _ hy1).mono ?_
        rintro e w2 ⟨rfl, hx2⟩
        have hy2 := hy1.trans (hx2.mono hy1.size)
        go_wp2_with fail
        refine (HX.out _ hy2).mono ?_
        rintro e w3 ⟨rfl, hx3⟩
        have hy3 := hy2.trans (hx3.mono hy2.size)
        go_wp2_with fail
        go_ret
        exact ⟨rfl, hy3⟩
      | false =>
        rw [hx] at HX; rw [Bool.not_false, Bool.true_and]
        have HR1 := Lib.hid (fun w1 h => HR.out (-1) w1 h)
        have HS1 := Lib.hid (fun w1 h => HS.out 1 w1 h)
        cases hp : reachesB rb ra 1 with
        | true =>
          rw [hp] at HS1; rw [Bool.not_true, Bool.false_and]
          clear hx hp
          go_enter Try.func31, Try.ntmps31
          go_wp2_with fail
          refine (HVA.out).mono ?_
          rintro e w1 ⟨rfl, hx1⟩
          have hy1 := (Below.refl w.heap.size w).trans (hx1.mono (Below.refl w.heap.size w).size)
          go_wp2_with fail
          refine (HVB.out _ hy1).mono ?_
          rintro e w2 ⟨rfl, hx2⟩
          have hy2 := hy1.trans (hx2.mono hy1.size)
          go_wp2_with fail
          refine (HX.out _ hy2).mono ?_
          rintro e w3 ⟨rfl, hx3⟩
          have hy3 := hy2.trans (hx3.mono hy2.size)
          go_wp2_with fail
          refine (HS1.out _ hy3).mono ?_
          rintro e w4 ⟨rfl, hx4⟩
          have hy4 := hy3.trans (hx4.mono hy3.size)
          go_wp2_with fail
          go_ret
          exact ⟨rfl, hy4⟩
        | false =>
          rw [hp] at HS1; rw [Bool.not_false, Bool.true_and]
          generalize reachesB ra rb (-1) = Q at *
          clear hx hp
          go_enter Try.func31, Try.ntmps31
          go_wp2_with fail
          refine (HVA.out).mono ?_
          rintro e w1 ⟨rfl, hx1⟩
          have hy1 := (Below.refl w.heap.size w).trans (hx1.mono (Below.refl w.heap.size w).size)
          go_wp2_with fail
          refine (HVB.out _ hy1).mono ?_
          rintro e w2 ⟨rfl, hx2⟩
          have hy2 := hy1.trans (hx2.mono hy1.size)
          go_wp2_with fail
          refine (HX.out _ hy2).mono ?_
          rintro e w3 ⟨rfl, hx3⟩
          have hy3 := hy2.trans (hx3.mono hy2.size)
          go_wp2_with fail
          refine (HS1.out _ hy3).mono ?_
          rintro e w4 ⟨rfl, hx4⟩
          have hy4 := hy3.trans (hx4.mono hy3.size)
          go_wp2_with fail
          refine (HR1.out _ hy4).mono ?_
          rintro e w5 ⟨rfl, hx5⟩
          have hy5 := hy4.trans (hx5.mono hy4.size)
          go_wp2_with fail
          go_ret
          exact ⟨rfl, hy5⟩
end Go.Proofs.Ytohkmkkcblbemaa.Ge
