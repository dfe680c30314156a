/- Walks over package gazetteerref02: Root, Path, Link. -/
import Derived.Test.YtohhkgnddeeomaaDoorTreeR1
namespace Go.Proofs.YtohhkgnddeeomaaDoor.Dig
set_option linter.unusedVariables false
set_option linter.unusedSimpArgs false
open Go.RowKit

set_option maxHeartbeats 1000000 in
theorem rRoot_yes (v : Value) (l : List ByteArray) (hsm : small l) (hmax : l.length ≤ 1000000) (hd : l.all digB = true) (w : World) (hl : StrSl w v l) :
    Calls Tryd.prog 29 #[v] w fun e w' => e = .returned (.tuple #[.string (rootB l), .int .i64 0]) ∧ Below w.heap.size w w' := by
  have Hd := Lib.hid hd
  clear hd
  go_enter Tryd.func29, Tryd.ntmps29
  go_wp2_with fail
  refine (rdigests_any v l hsm _ hl).mono ?_
  rintro e w1 ⟨rfl, rfl⟩
  rw [Hd.out]
  go_wp2_with fail
  refine (rroot_any v l (by omega) hsm _ hl).mono ?_
  rintro e w1 ⟨rfl, hb⟩
  go_wp2_with fail
  go_ret2
  exact ⟨rfl, hb⟩

set_option maxHeartbeats 1000000 in
theorem rRoot_no (v : Value) (l : List ByteArray) (hsm : small l) (hd : l.all digB = false) (w : World) (hl : StrSl w v l) :
    Calls Tryd.prog 29 #[v] w fun e w' => e = .returned (.tuple #[.string ByteArray.empty, .int .i64 1]) ∧ w = w' := by
  have Hd := Lib.hid hd
  clear hd
  go_enter Tryd.func29, Tryd.ntmps29
  go_wp2_with fail
  refine (rdigests_any v l hsm _ hl).mono ?_
  rintro e w1 ⟨rfl, rfl⟩
  rw [Hd.out]
  go_wp2_with fail
  go_ret2
  exact ⟨rfl, rfl⟩

set_option maxHeartbeats 1000000 in
theorem rPath_yes (v : Value) (l : List ByteArray) (hsm : small l) (i : Int) (hok : pathOk l i = true) (hmax : l.length ≤ 1000000) (w : World) (hl : StrSl w v l) :
    Calls Tryd.prog 38 #[v, .int .i64 i] w (RetOwn0 w (pathB l i.toNat)) := by
  unfold pathOk at hok
  rw [Bool.and_eq_true, decide_eq_true_iff] at hok
  obtain ⟨hd, hi0, hi1⟩ := hok
  have Hd := Lib.hid hd
  have Hl := Lib.hid hl
  obtain ⟨a, cap, rfl, hm⟩ := strSl_form hl
  clear hd hl
  go_enter Tryd.func38, Tryd.ntmps38
  go_wp2_with fail
  refine (rdigests_any _ l hsm _ Hl.out).mono ?_
  rintro e w1 ⟨rfl, rfl⟩
  rw [Hd.out]
  go_wp2_with fail
  refine (rpath_on w l.length _ l i (Nat.le_refl _) hmax hsm Hl.out hi0 hi1 w (Below.refl _ _)).mono ?_
  rintro e w1 ⟨u, rfl, ho, hb⟩
  go_wp2_with fail
  go_ret2
  exact ⟨u, rfl, ho, hb⟩

set_option maxHeartbeats 1000000 in
theorem rPath_no (v : Value) (l : List ByteArray) (hsm : small l) (i : Int) (hok : pathOk l i = false) (w : World) (hl : StrSl w v l) :
    Calls Tryd.prog 38 #[v, .int .i64 i] w fun e w' => e = .returned (.tuple #[.slice none 0 0, .int .i64 1]) ∧ w = w' := by
  unfold pathOk at hok
  have Hl := Lib.hid hl
  obtain ⟨a, cap, rfl, hm⟩ := strSl_form hl
  clear hl
  cases hd : l.all digB with
  | false =>
    have Hd := Lib.hid hd
    clear hd hok
    go_enter Tryd.func38, Tryd.ntmps38
    go_wp2_with fail
    refine (rdigests_any _ l hsm _ Hl.out).mono ?_
    rintro e w1 ⟨rfl, rfl⟩
    rw [Hd.out]
    go_wp2_with fail
    go_ret2
    exact ⟨rfl, rfl⟩
  | true =>
    rw [hd, Bool.true_and, decide_eq_false_iff_not] at hok
    have Hd := Lib.hid hd
    clear hd
    by_cases h1 : i < 0
    · clear hok
      go_enter Tryd.func38, Tryd.ntmps38
      go_wp2_with fail
      refine (rdigests_any _ l hsm _ Hl.out).mono ?_
      rintro e w1 ⟨rfl, rfl⟩
      rw [Hd.out]
      go_wp2_with fail
      go_ret2
      exact ⟨rfl, rfl⟩
    · have h2 : (l.length : Int) ≤ i := by omega
      clear hok
      go_enter Tryd.func38, Tryd.ntmps38
      go_wp2_with fail
      refine (rdigests_any _ l hsm _ Hl.out).mono ?_
      rintro e w1 ⟨rfl, rfl⟩
      rw [Hd.out]
      go_wp2_with fail
      go_ret2
      exact ⟨rfl, rfl⟩

end Go.Proofs.YtohhkgnddeeomaaDoor.Dig
