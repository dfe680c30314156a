/- The walk over DigestBlock. -/
import Derived.Test.YtgmncimfpbjmjaaDoorDigLawShort
import Derived.Deep.RegionHeld3
import Derived.Deep.DeepMust
import Derived.Deep.Cut
import Derived.Deep.CutRange
import Derived.Deep.DeepCutAuto
namespace Go.Proofs.YtgmncimfpbjmjaaDoor.Dig
set_option linter.unusedVariables false
set_option linter.unusedSimpArgs false
open Go.RowKit

theorem block_inj (P A B R : List UInt8) (p n : Nat) (hP : P.length = 8 * p) (hA : A.length = n) (hB : B.length = n) (h8 : n ≤ 8) (hR : (P ++ (A ++ R)).length < 18446744073709551616)
    (h : dsum (P ++ (A ++ R)) = dsum (P ++ (B ++ R))) : A = B := by
  have h2 := dsum_block (P ++ (A ++ R)) (P ++ (B ++ R)) (by simp [hA, hB]) hR p (by simp [hP]; omega) (fun i hi => by
    rcases hi with hi | hi
    · simp only [List.getD_eq_getElem?_getD]
      rw [List.getElem?_append_left (by omega), List.getElem?_append_left (by omega)]
    · simp only [List.getD_eq_getElem?_getD]
      rw [List.getElem?_append_right (by omega), List.getElem?_append_right (by omega), List.getElem?_append_right (by omega), List.getElem?_append_right (by omega), hA, hB]) h
  have h3 := List.append_cancel_left h2
  exact (List.append_inj h3 (by rw [hA, hB])).1

theorem block_eq (P R : List UInt8) (A B : ByteArray) (p n : Nat) (hP : P.length = 8 * p) (hA : A.size = n) (hB : B.size = n) (h8 : n ≤ 8) (hR : (P ++ (A.data.toList ++ R)).length < 18446744073709551616) :
    ((dsum (P ++ (A.data.toList ++ R)) == dsum (P ++ (B.data.toList ++ R))) == (A.toList == B.toList)) = true := by
  have h : (dsum (P ++ (A.data.toList ++ R)) == dsum (P ++ (B.data.toList ++ R))) = (A.toList == B.toList) := by
    rw [ByteArray.toList_eq, ByteArray.toList_eq, Bool.eq_iff_iff]
    simp only [beq_iff_eq]
    exact ⟨fun h => block_inj P _ _ R p n hP (by rw [← Lib.size_eq]; exact hA) (by rw [← Lib.size_eq]; exact hB) h8 hR h, fun h => by rw [h]⟩
  rw [h]
  simp

theorem sum_on (W : World) (s : ByteArray) (hs : s.size ≤ 9223372036854775806) (w : World) (hb : Below W.heap.size W w) :
    Calls Tryd.prog 12 #[.string s] w fun e w' => e = .returned (.string ⟨(dsum s.data.toList).toArray⟩) ∧ Below W.heap.size W w' :=
  (sum_any s hs w).mono fun _ _ ⟨he, h⟩ => ⟨he, hb.trans (h.mono hb.size)⟩

set_option maxHeartbeats 1000000 in
theorem block_walk (s a b : ByteArray) (p : Nat) (hp1 : (p : Int) ≤ 255) (hs : s.size ≤ maxLen) (ha : a.size ≤ maxLen) (hb : b.size ≤ maxLen) (w : World) (ht : Tab w) :
    Calls Tryd.prog 7 #[.string s, .int .u8 (p : Int), .string a, .string b] w fun e w' => e = .returned (.bool true) ∧ Below w.heap.size w w' := by
  unfold maxLen at hs ha hb
  go_enter Tryd.func7, Tryd.ntmps7
  go_wp2_with fail
  refine (head_any _ ht).mono ?_
  rintro e w1 ⟨rfl, hb1⟩
  go_upto_region 2 with fail
  go_cut [10] (fun v wx => ∃ n : Nat, v = .int .i64 n ∧ n ≤ 8 ∧ n ≤ a.size ∧ n ≤ b.size ∧ wx = w1)
  case first =>
    go_wp2_with fail
    all_goals go_meet
    all_goals first | exact ⟨8, rfl, by omega, by omega, by omega, rfl⟩ | exact ⟨a.size, rfl, by omega, by omega, by omega, rfl⟩ | exact ⟨b.size, rfl, by omega, by omega, by omega, rfl⟩
  case rest =>
    obtain ⟨n, rfl, h8, hna, hnb, rfl⟩ := hcut
    by_cases hbig : 2000 < s.size
    · go_wp2_with fail
      go_ret
      exact ⟨rfl, hb1⟩
    · by_cases hat : s.size < 8 * p
      · go_wp2_with fail
        all_goals go_ret
        all_goals exact ⟨rfl, hb1⟩
      · go_upto_region 9 with fail
        have hA : (a.extract 0 n).size = n := by simp; omega
        have hB : (b.extract 0 n).size = n := by simp; omega
        have hR : (s.extract (min (8 * (p : Int) + (n : Int)) (s.size : Int)).toNat s.size).size = s.size - (min (8 * (p : Int) + (n : Int)) (s.size : Int)).toNat := by simp
        generalize a.extract 0 n = A at *
        generalize b.extract 0 n = B at *
        generalize s.extract (min (8 * (p : Int) + (n : Int)) (s.size : Int)).toNat s.size = R at *
        have g0 : (0 : Int) ≤ 8 * (p : Int) := by omega
        have g1 : 8 * (p : Int) ≤ (s.size : Int) := by omega
        have c1 : (9223372036854775807 < (8 * (p : Int)).toNat + A.size) = False := eq_false (by omega)
        have c2 : (9223372036854775807 < (8 * (p : Int)).toNat + B.size) = False := eq_false (by omega)
        have c3 : (9223372036854775807 < (8 * (p : Int)).toNat + A.size + R.size) = False := eq_false (by omega)
        have c4 : (9223372036854775807 < (8 * (p : Int)).toNat + B.size + R.size) = False := eq_false (by omega)
        have z1 : (s.extract 0 (8 * (p : Int)).toNat ++ A ++ R).size ≤ 9223372036854775806 := by simp; omega
        have z2 : (s.extract 0 (8 * (p : Int)).toNat ++ B ++ R).size ≤ 9223372036854775806 := by simp; omega
        have HA := Lib.hid hA
        have HB := Lib.hid hB
        have HR := Lib.hid hR
        clear hA hB hR
        go_region_held3 (fun w' => Below w.heap.size w w') (first | exact hb1.drew | assumption) (first | (go_at_call_of 12 (Value.string (s.extract 0 (8 * (p : Int)).toNat ++ A ++ R)); refine (sum_on w _ z1 _ (by first | assumption | exact hb1.drew)).mono ?_; rintro e w2 ⟨rfl, hb2⟩) | (go_at_call_of 12 (Value.string (s.extract 0 (8 * (p : Int)).toNat ++ B ++ R)); refine (sum_on w _ z2 _ (by first | assumption | exact hb1.drew)).mono ?_; rintro e w2 ⟨rfl, hb2⟩))
        have Heq := Lib.hid (block_eq (List.take (8 * (p : Int)).toNat s.data.toList) R.data.toList A B p n (by rw [List.length_take, ← Lib.size_eq]; omega) HA.out HB.out h8 (by
          rw [List.length_append, List.length_append, List.length_take, ← Lib.size_eq, ← Lib.size_eq, ← Lib.size_eq, HA.out, HR.out]
          omega))
        go_wp2_with fail
        go_ret
        exact ⟨ret_true Heq.out, by assumption⟩

theorem block_walk' (s a b : ByteArray) (place : Int) (hp0 : 0 ≤ place) (hp1 : place ≤ 255) (hs : s.size ≤ maxLen) (ha : a.size ≤ maxLen) (hb : b.size ≤ maxLen) (w : World) (ht : Tab w) :
    Calls Tryd.prog 7 #[.string s, .int .u8 place, .string a, .string b] w fun e w' => e = .returned (.bool true) ∧ Below w.heap.size w w' := by
  obtain ⟨p, rfl⟩ := Int.eq_ofNat_of_zero_le hp0
  exact block_walk s a b p hp1 hs ha hb w ht

end Go.Proofs.YtgmncimfpbjmjaaDoor.Dig
