/- Walks over package digest: List, Is. -/
import Derived.Test.YteapfoadfjjicaaDoorDigW5
namespace Go.Proofs.YteapfoadfjjicaaDoor.Dig
set_option linter.unusedVariables false
set_option linter.unusedSimpArgs false
open Go.RowKit

set_option maxHeartbeats 400000 in
theorem list_any (v : Value) (l : List ByteArray) (w : World) (ht : Tab w) (hl : StrSl w v l) (hlim : (joinB l).length ≤ 140737488355328) :
    Calls Tryd.prog 90 #[v] w fun e w' => e = .returned (.string ⟨(dsum (joinB l)).toArray⟩) ∧ Below w.heap.size w w' := by
  have hsz : (ByteArray.mk (joinB l).toArray).size ≤ 9223372036854775806 := by
    rw [Lib.size_eq]
    simp only [List.toList_toArray]
    omega
  go_enter Tryd.func90, Tryd.ntmps90
  go_wp2_with fail
  refine (joined_any v l w ht hl hlim).mono ?_
  rintro e w1 ⟨rfl, hb1⟩
  go_wp2_with fail
  refine (sum_any _ hsz _).mono ?_
  rintro e w2 ⟨rfl, hb2⟩
  go_wp2
  go_ret
  exact ⟨rfl, hb1.trans (hb2.mono hb1.size)⟩

def hexL : List UInt8 := [48, 49, 50, 51, 52, 53, 54, 55, 56, 57, 97, 98, 99, 100, 101, 102]
theorem idx_hexFin : ∀ n : Fin 256, decide (Lib.indexByte hexL (UInt8.ofNat n.val) < 0) = !isHex (UInt8.ofNat n.val) := by decide +kernel
theorem idx_hex (c : UInt8) : decide (Lib.indexByte hexL c < 0) = !isHex c := by
  have h := idx_hexFin ⟨c.toNat, UInt8.toNat_lt c⟩
  simpa using h

theorem isDig_of (s : ByteArray) (h : s.size = 16) (b : Bool) (hb : (bl s).all isHex = b) : isDig (bl s) = b := by
  unfold isDig
  rw [show (bl s).length = 16 by rw [← Lib.size_eq]; exact h, hb]
  simp

theorem all_take_succ (l : List UInt8) (k : Nat) (h : k < l.length) : (l.take (k + 1)).all isHex = ((l.take k).all isHex && isHex l[k]) := by
  rw [List.take_succ_eq_append_getElem h, List.all_append]
  simp

theorem all_false_of (l : List UInt8) (k : Nat) (h : k < l.length) (hf : isHex l[k] = false) : l.all isHex = false := by
  rw [List.all_eq_false]
  exact ⟨l[k], List.getElem_mem h, by simp [hf]⟩

theorem hexIdx_yes (c : UInt8) (hc : isHex c = true) (w : World) :
    Calls Tryd.prog 89 #[.string { data := #[48, 49, 50, 51, 52, 53, 54, 55, 56, 57, 97, 98, 99, 100, 101, 102] }, .int .u8 (c.toNat : Int)] w fun e w' => ∃ n : Int, e = .returned (.int .i64 n) ∧ 0 ≤ n ∧ w = w' :=
  (Tryd.strings_IndexByte _ _ w).mono fun e w' ⟨he, hw⟩ => by
    have h := idx_hex c
    rw [hc] at h
    have h2 := of_decide_eq_false (h.trans rfl)
    refine ⟨_, he, ?_, hw.symm⟩
    simpa [hexL] using h2

theorem hexIdx_no (c : UInt8) (hc : isHex c = false) (w : World) :
    Calls Tryd.prog 89 #[.string { data := #[48, 49, 50, 51, 52, 53, 54, 55, 56, 57, 97, 98, 99, 100, 101, 102] }, .int .u8 (c.toNat : Int)] w fun e w' => ∃ n : Int, e = .returned (.int .i64 n) ∧ n < 0 ∧ w = w' :=
  (Tryd.strings_IndexByte _ _ w).mono fun e w' ⟨he, hw⟩ => by
    have h := idx_hex c
    rw [hc] at h
    have h2 := of_decide_eq_true (h.trans rfl)
    refine ⟨_, he, ?_, hw.symm⟩
    simpa [hexL] using h2

set_option maxHeartbeats 1000000 in
theorem is_any (s : ByteArray) (w : World) :
    Calls Tryd.prog 94 #[.string s] w fun e w' => e = .returned (.bool (isDig (bl s))) ∧ w = w' := by
  by_cases h16 : s.size = 16
  · have Hd := Lib.hid (fun b hb => isDig_of s h16 b hb)
    have hl : (bl s).length = 16 := by rw [← Lib.size_eq]; exact h16
    have hne : ((s.size : Int) != 16) = false := by rw [h16]; rfl
    have H16 := Lib.hid h16
    clear h16
    go_enter Tryd.func94, Tryd.ntmps94
    go_wp2_with fail
    go_loop [7] (fun i => ∃ k : Nat, k ≤ 16 ∧ i = .int .i64 k ∧ Hid (((bl s).take k).all isHex = true)) (fun i => 16 - (intOf i).toNat)
    case atStart => exact ⟨0, by omega, rfl, Lib.hid rfl⟩
    case round =>
      obtain ⟨k, hk, rfl, Hall⟩ := hrel
      by_cases hlt : k < 16
      · have hks : k < s.size := by rw [H16.out]; exact hlt
        have hkl : k < (bl s).length := by omega
        have Hsucc := Lib.hid (all_take_succ (bl s) k hkl)
        have Hbad := Lib.hid (all_false_of (bl s) k hkl)
        cases hx : isHex s[k] with
        | true =>
          have Hx := Lib.hid hx
          clear hx
          go_wp2_with fail
          refine (hexIdx_yes _ Hx.out _).mono ?_
          rintro e w1 ⟨n, rfl, hn, rfl⟩
          go_wp2_with fail
          go_round
          case rel => exact ⟨k + 1, by omega, by go_num, Lib.hid (by rw [Hsucc.out, Hall.out, Bool.true_and]; exact Hx.out)⟩
          case measure => simp [intOf]; omega
        | false =>
          have Hx := Lib.hid hx
          clear hx
          go_wp2_with fail
          refine (hexIdx_no _ Hx.out _).mono ?_
          rintro e w1 ⟨n, rfl, hn, rfl⟩
          go_wp2_with fail
          go_ret
          rw [Hd.out false (Hbad.out Hx.out)]
          exact ⟨rfl, rfl⟩
      · obtain rfl : k = 16 := by omega
        rw [List.take_of_length_le (by omega)] at Hall
        go_wp2_with fail
        go_ret
        rw [Hd.out true Hall.out]
        exact ⟨rfl, rfl⟩
  · have hne : ((s.size : Int) != 16) = true := by simp; omega
    have Hd := Lib.hid (show isDig (bl s) = false by
      have hl : (bl s).length ≠ 16 := by rw [← Lib.size_eq]; exact h16
      unfold isDig
      rw [beq_eq_false_iff_ne.2 hl]
      rfl)
    clear h16
    go_enter Tryd.func94, Tryd.ntmps94
    go_wp2_with fail
    go_ret
    rw [Hd.out]
    exact ⟨rfl, rfl⟩

end Go.Proofs.YteapfoadfjjicaaDoor.Dig
