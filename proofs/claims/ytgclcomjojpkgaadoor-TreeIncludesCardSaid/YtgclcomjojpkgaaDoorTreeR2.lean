/- Walks over package gazetteerref02: Root, Path, Link. -/
import Derived.Test.YtgclcomjojpkgaaDoorTreeR1
namespace Go.Proofs.YtgclcomjojpkgaaDoor.Dig
set_option linter.unusedVariables false
set_option linter.unusedSimpArgs false
open Go.RowKit

set_option maxHeartbeats 1000000 in
theorem rRoot_yes (v : Value) (l : List ByteArray) (hsm : small l) (hmax : l.length ≤ 1000000) (hd : l.all digB = true) (w : World) (hl : StrSl w v l) :
    Calls Tryd.prog 12 #[v] w fun e w' => e = .returned (.tuple #[.string (rootB l), .int .i64 0]) ∧ Below w.heap.size w w' := by
  have Hd := Lib.hid hd
  clear hd
  go_enter Tryd.func12, Tryd.ntmps12
  go_wp2_with fail
  refine (rdigests_any v l hsm _ hl).mono ?_
  rintro e w1 ⟨rfl, rfl⟩
  rw [Hd.out]
  go_wp2_with fail
  refine (rroot_any v l (by omega) hsm _ hl).mono ?_
  rintro e w1 ⟨rfl, hb⟩
  go_wp2_with fail
  go_ret2
  exact ⟨rfl, hb⟩

set_option maxHeartbeats 1000000 in
theorem rRoot_no (v : Value) (l : List ByteArray) (hsm : small l) (hd : l.all digB = false) (w : World) (hl : StrSl w v l) :
    Calls Tryd.prog 12 #[v] w fun e w' => e = .returned (.tuple #[.string ByteArray.empty, .int .i64 1]) ∧ w = w' := by
  have Hd := Lib.hid hd
  clear hd
  go_enter Tryd.func12, Tryd.ntmps12
  go_wp2_with fail
  refine (rdigests_any v l hsm _ hl).mono ?_
  rintro e w1 ⟨rfl, rfl⟩
  rw [Hd.out]
  go_wp2_with fail
  go_ret2
  exact ⟨rfl, rfl⟩

set_option maxHeartbeats 1000000 in
theorem rPath_yes (v : Value) (l : List ByteArray) (hsm : small l) (i : Int) (hok : pathOk l i = true) (hmax : l.length ≤ 1000000) (w : World) (hl : StrSl w v l) :
    Calls Tryd.prog 14 #[v, .int .i64 i] w (RetOwn0 w (pathB l i.toNat)) := by
  unfold pathOk at hok
  rw [Bool.and_eq_true, decide_eq_true_iff] at hok
  obtain ⟨hd, hi0, hi1⟩ := hok
  have Hd := Lib.hid hd
  have Hl := Lib.hid hl
  obtain ⟨a, cap, rfl, hm⟩ := strSl_form hl
  clear hd hl
  go_enter Tryd.func14, Tryd.ntmps14
  go_wp2_with fail
  refine (rdigests_any _ l hsm _ Hl.out).mono ?_
  rintro e w1 ⟨rfl, rfl⟩
  rw [Hd.out]
  go_wp2_with fail
  refine (rpath_on w l.length _ l i (Nat.le_refl _) hmax hsm Hl.out hi0 hi1 w (Below.refl _ _)).mono ?_
  rintro e w1 ⟨u, rfl, ho, hb⟩
  go_wp2_with fail
  go_ret2
  exact ⟨u, rfl, ho, hb⟩

set_option maxHeartbeats 1000000 in
theorem rPath_no (v : Value) (l : List ByteArray) (hsm : small l) (i : Int) (hok : pathOk l i = false) (w : World) (hl : StrSl w v l) :
    Calls Tryd.prog 14 #[v, .int .i64 i] w fun e w' => e = .returned (.tuple #[.slice none 0 0, .int .i64 1]) ∧ w = w' := by
  unfold pathOk at hok
  have Hl := Lib.hid hl
  obtain ⟨a, cap, rfl, hm⟩ := strSl_form hl
  clear hl
  cases hd : l.all digB with
  | false =>
    have Hd := Lib.hid hd
    clear hd hok
    go_enter Tryd.func14, Tryd.ntmps14
    go_wp2_with fail
    refine (rdigests_any _ l hsm _ Hl.out).mono ?_
    rintro e w1 ⟨rfl, rfl⟩
    rw [Hd.out]
    go_wp2_with fail
    go_ret2
    exact ⟨rfl, rfl⟩
  | true =>
    rw [hd, Bool.true_and, decide_eq_false_iff_not] at hok
    have Hd := Lib.hid hd
    clear hd
    by_cases h1 : i < 0
    · clear hok
      go_enter Tryd.func14, Tryd.ntmps14
      go_wp2_with fail
      refine (rdigests_any _ l hsm _ Hl.out).mono ?_
      rintro e w1 ⟨rfl, rfl⟩
      rw [Hd.out]
      go_wp2_with fail
      go_ret2
      exact ⟨rfl, rfl⟩
    · have h2 : (l.length : Int) ≤ i := by omega
      clear hok
      go_enter Tryd.func14, Tryd.ntmps14
      go_wp2_with fail
      refine (rdigests_any _ l hsm _ Hl.out).mono ?_
      rintro e w1 ⟨rfl, rfl⟩
      rw [Hd.out]
      go_wp2_with fail
      go_ret2
      exact ⟨rfl, rfl⟩

set_option maxHeartbeats 1000000 in
theorem rLink_yes (v : Value) (l : List ByteArray) (hsm : small l) (m : Int) (hok : linkOk l m = true) (hmax : l.length ≤ 1000000) (w : World) (hl : StrSl w v l) :
    Calls Tryd.prog 16 #[v, .int .i64 m] w (RetOwn0 w (linkZ l m.toNat)) := by
  unfold linkOk at hok
  rw [Bool.and_eq_true, decide_eq_true_iff] at hok
  obtain ⟨hd, hi0, hi1⟩ := hok
  have Hd := Lib.hid hd
  have Hl := Lib.hid hl
  obtain ⟨a, cap, rfl, hm⟩ := strSl_form hl
  clear hd hl
  by_cases hz : m = 0
  · subst hz
    have He := Lib.hid (show linkZ l (0 : Int).toNat = [] from rfl)
    rw [He.out]
    go_enter Tryd.func16, Tryd.ntmps16
    go_wp2_with fail
    refine (rdigests_any _ l hsm _ Hl.out).mono ?_
    rintro e w1 ⟨rfl, rfl⟩
    rw [Hd.out]
    go_wp2_with fail
    go_ret2
    exact ⟨_, rfl, OwnStr.nil _ _, Below.refl _ _⟩
  · have hne : (m == 0) = false := by rw [beq_eq_false_iff_ne]; exact hz
    by_cases hml : m = (l.length : Int)
    · subst hml
      rw [Int.toNat_natCast]
      have He := Lib.hid (show linkZ l l.length = [] by unfold linkZ; rw [if_neg (by omega), linkB_eq, if_pos (.inl rfl)]; rfl)
      rw [He.out]
      clear hz
      go_enter Tryd.func16, Tryd.ntmps16
      go_wp2_with fail
      refine (rdigests_any _ l hsm _ Hl.out).mono ?_
      rintro e w1 ⟨rfl, rfl⟩
      rw [Hd.out]
      go_wp2_with fail
      go_ret2
      exact ⟨_, rfl, OwnStr.nil _ _, Below.refl _ _⟩
    · have hne2 : (m == (l.length : Int)) = false := by rw [beq_eq_false_iff_ne]; exact hml
      have He := Lib.hid (show linkZ l m.toNat = linkB l m.toNat true by unfold linkZ; rw [if_neg (by omega)])
      rw [He.out]
      have h1 : 1 ≤ m := by omega
      clear hz hml
      go_enter Tryd.func16, Tryd.ntmps16
      go_wp2_with fail
      refine (rdigests_any _ l hsm _ Hl.out).mono ?_
      rintro e w1 ⟨rfl, rfl⟩
      rw [Hd.out]
      go_wp2_with fail
      refine (rlink_on w l.length _ l m true (Nat.le_refl _) hmax hsm Hl.out h1 hi1 w (Below.refl _ _)).mono ?_
      rintro e w1 ⟨u, rfl, ho, hb⟩
      go_wp2_with fail
      go_ret2
      exact ⟨u, rfl, ho, hb⟩

set_option maxHeartbeats 1000000 in
theorem rLink_no (v : Value) (l : List ByteArray) (hsm : small l) (m : Int) (hok : linkOk l m = false) (w : World) (hl : StrSl w v l) :
    Calls Tryd.prog 16 #[v, .int .i64 m] w fun e w' => e = .returned (.tuple #[.slice none 0 0, .int .i64 1]) ∧ w = w' := by
  unfold linkOk at hok
  have Hl := Lib.hid hl
  obtain ⟨a, cap, rfl, hm⟩ := strSl_form hl
  clear hl
  cases hd : l.all digB with
  | false =>
    have Hd := Lib.hid hd
    clear hd hok
    go_enter Tryd.func16, Tryd.ntmps16
    go_wp2_with fail
    refine (rdigests_any _ l hsm _ Hl.out).mono ?_
    rintro e w1 ⟨rfl, rfl⟩
    rw [Hd.out]
    go_wp2_with fail
    go_ret2
    exact ⟨rfl, rfl⟩
  | true =>
    rw [hd, Bool.true_and, decide_eq_false_iff_not] at hok
    have Hd := Lib.hid hd
    clear hd
    by_cases h1 : m < 0
    · clear hok
      go_enter Tryd.func16, Tryd.ntmps16
      go_wp2_with fail
      refine (rdigests_any _ l hsm _ Hl.out).mono ?_
      rintro e w1 ⟨rfl, rfl⟩
      rw [Hd.out]
      go_wp2_with fail
      go_ret2
      exact ⟨rfl, rfl⟩
    · have h2 : (l.length : Int) < m := by omega
      clear hok
      go_enter Tryd.func16, Tryd.ntmps16
      go_wp2_with fail
      refine (rdigests_any _ l hsm _ Hl.out).mono ?_
      rintro e w1 ⟨rfl, rfl⟩
      rw [Hd.out]
      go_wp2_with fail
      go_ret2
      exact ⟨rfl, rfl⟩

end Go.Proofs.YtgclcomjojpkgaaDoor.Dig
