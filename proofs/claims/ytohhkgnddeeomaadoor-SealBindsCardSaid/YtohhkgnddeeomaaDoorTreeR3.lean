/- Walks over package gazetteerref02: Check, Extends. -/
import Derived.Test.YtohhkgnddeeomaaDoorTreeR2
namespace Go.Proofs.YtohhkgnddeeomaaDoor.Dig
set_option linter.unusedVariables false
set_option linter.unusedSimpArgs false
open Go.RowKit

set_option maxRecDepth 100000 in
set_option maxHeartbeats 1000000 in
theorem rCheck_far (root : ByteArray) (n i : Int) (leaf : ByteArray) (v : Value) (p : List ByteArray) (w : World) (hr : ¬ (0 ≤ i ∧ i < n ∧ n ≤ 1000000)) (hl : StrSl w v p) :
    Calls Tryd.prog 44 #[.string root, .int .i64 n, .int .i64 i, .string leaf, v] w fun e w' => e = .returned (.bool false) ∧ Below w.heap.size w w' := by
  obtain ⟨a, cap, rfl, hm⟩ := strSl_form hl
  clear hl
  have hb := Below.refl w.heap.size w
  by_cases h3 : 1000000 < n
  · clear hr
    go_enter Tryd.func44, Tryd.ntmps44
    go_wp2_with fail
    go_ret
    exact ⟨rfl, hb⟩
  · by_cases h1 : i < 0
    · clear hr
      go_enter Tryd.func44, Tryd.ntmps44
      go_wp2_with fail
      go_ret
      exact ⟨rfl, hb⟩
    · have h2 : n ≤ i := by omega
      clear hr
      go_enter Tryd.func44, Tryd.ntmps44
      go_wp2_with fail
      go_ret
      exact ⟨rfl, hb⟩

set_option maxRecDepth 100000 in
set_option maxHeartbeats 1000000 in
theorem rCheck_near (root : ByteArray) (n i : Nat) (leaf : ByteArray) (v : Value) (p : List ByteArray) (hsm : small p) (hls : leaf.size ≤ 1000) (w : World) (hi : i < n) (hn : n ≤ 1000000) (hl : StrSl w v p) :
    Calls Tryd.prog 44 #[.string root, .int .i64 (n : Int), .int .i64 (i : Int), .string leaf, v] w
      fun e w' => e = .returned (.bool (digB leaf && (p.all digB && (decide (p.length = depth n i) && decide (upB n i leaf p = root))))) ∧ Below w.heap.size w w' := by
  have Hl := Lib.hid hl
  obtain ⟨a, cap, rfl, hm⟩ := strSl_form hl
  have hb := Below.refl w.heap.size w
  clear hl
  by_cases hq : p.length = depth n i
  · have hlz : ((p.length : Int) != ((depth n i : Nat) : Int)) = false := by rw [hq]; simp
    have Hq := Lib.hid hq
    cases ha : p.all digB with
    | false =>
      have Ha := Lib.hid ha
      clear ha hq
      rw [Bool.false_and, Bool.and_false]
      go_enter Tryd.func44, Tryd.ntmps44
      go_wp2_with fail
      refine (rlength_any n n i _ (Nat.le_refl _) (by omega) hn hi).mono ?_
      rintro e w1 ⟨rfl, rfl⟩
      go_wp2_with fail
      refine (rdigests_any _ p hsm _ Hl.out).mono ?_
      rintro e w1 ⟨rfl, rfl⟩
      rw [Ha.out]
      go_wp2_with fail
      go_ret
      exact ⟨rfl, hb⟩
    | true =>
      have Ha := Lib.hid ha
      clear ha
      cases hd : digB leaf with
      | false =>
        have Hd := Lib.hid (show isDig (bl leaf) = false from hd)
        clear hd hq
        rw [Bool.false_and]
        go_enter Tryd.func44, Tryd.ntmps44
        go_wp2_with fail
        refine (rlength_any n n i _ (Nat.le_refl _) (by omega) hn hi).mono ?_
        rintro e w1 ⟨rfl, rfl⟩
        go_wp2_with fail
        refine (rdigests_any _ p hsm _ Hl.out).mono ?_
        rintro e w1 ⟨rfl, rfl⟩
        rw [Ha.out]
        go_wp2_with fail
        refine (ris_any leaf (by omega) _).mono ?_
        rintro e w1 ⟨rfl, rfl⟩
        rw [Hd.out]
        go_wp2_with fail
        go_ret
        exact ⟨rfl, hb⟩
      | true =>
        have Hd := Lib.hid (show isDig (bl leaf) = true from hd)
        have hds : leaf.size ≤ 1000 := by rw [digB_size hd]; decide
        rw [decide_eq_true hq, Bool.true_and, Bool.true_and, Bool.true_and]
        clear hd hq
        by_cases hu : upB n i leaf p = root
        · have hs := str_eq hu
          rw [decide_eq_true hu]
          clear hu
          go_enter Tryd.func44, Tryd.ntmps44
          go_wp2_with fail
          refine (rlength_any n n i _ (Nat.le_refl _) (by omega) hn hi).mono ?_
          rintro e w1 ⟨rfl, rfl⟩
          go_wp2_with fail
          refine (rdigests_any _ p hsm _ Hl.out).mono ?_
          rintro e w1 ⟨rfl, rfl⟩
          rw [Ha.out]
          go_wp2_with fail
          refine (ris_any leaf (by omega) _).mono ?_
          rintro e w1 ⟨rfl, rfl⟩
          rw [Hd.out]
          go_wp2_with fail
          refine (rup_on w n n i leaf _ p _ (Nat.le_refl _) (by omega) hn hi hds hsm Hq.out Hl.out (Below.refl _ _)).mono ?_
          rintro e w1 ⟨rfl, hb1⟩
          go_wp2_with fail
          go_ret
          exact ⟨rfl, hb1⟩
        · have hs := str_ne hu
          rw [decide_eq_false hu]
          clear hu
          go_enter Tryd.func44, Tryd.ntmps44
          go_wp2_with fail
          refine (rlength_any n n i _ (Nat.le_refl _) (by omega) hn hi).mono ?_
          rintro e w1 ⟨rfl, rfl⟩
          go_wp2_with fail
          refine (rdigests_any _ p hsm _ Hl.out).mono ?_
          rintro e w1 ⟨rfl, rfl⟩
          rw [Ha.out]
          go_wp2_with fail
          refine (ris_any leaf (by omega) _).mono ?_
          rintro e w1 ⟨rfl, rfl⟩
          rw [Hd.out]
          go_wp2_with fail
          refine (rup_on w n n i leaf _ p _ (Nat.le_refl _) (by omega) hn hi hds hsm Hq.out Hl.out (Below.refl _ _)).mono ?_
          rintro e w1 ⟨rfl, hb1⟩
          go_wp2_with fail
          go_ret
          exact ⟨rfl, hb1⟩
  · have hlz : ((p.length : Int) != ((depth n i : Nat) : Int)) = true := by rw [bne_iff_ne]; omega
    have Hz := Lib.hid (show (digB leaf && (p.all digB && (decide (p.length = depth n i) && decide (upB n i leaf p = root)))) = false by rw [decide_eq_false hq]; simp)
    rw [Hz.out]
    clear hq
    go_enter Tryd.func44, Tryd.ntmps44
    go_wp2_with fail
    refine (rlength_any n n i _ (Nat.le_refl _) (by omega) hn hi).mono ?_
    rintro e w1 ⟨rfl, rfl⟩
    go_wp2_with fail
    go_ret
    exact ⟨rfl, hb⟩

theorem rCheck_any (root : ByteArray) (n i : Int) (leaf : ByteArray) (v : Value) (p : List ByteArray) (hsm : small p) (hls : leaf.size ≤ 1000) (w : World) (hl : StrSl w v p) :
    Calls Tryd.prog 44 #[.string root, .int .i64 n, .int .i64 i, .string leaf, v] w fun e w' => e = .returned (.bool (checkB root n i leaf p)) ∧ Below w.heap.size w w' := by
  unfold checkB
  by_cases h : 0 ≤ i ∧ i < n ∧ n ≤ 1000000
  · obtain ⟨i', rfl⟩ := Int.eq_ofNat_of_zero_le h.1
    obtain ⟨n', rfl⟩ := Int.eq_ofNat_of_zero_le (show 0 ≤ n by omega)
    rw [decide_eq_true h, Bool.true_and, Int.toNat_natCast, Int.toNat_natCast]
    exact rCheck_near root n' i' leaf v p hsm hls w (by omega) (by omega) hl
  · rw [decide_eq_false h, Bool.false_and]
    exact rCheck_far root n i leaf v p w h hl

end Go.Proofs.YtohhkgnddeeomaaDoor.Dig
