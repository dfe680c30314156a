/- Walks over layer 6's reference: Text, Parse. -/
import Derived.Test.YtdbffhcckmmgfaaDoorDatR1
import Derived.Test.YtdbffhcckmmgfaaDoorDatW3
namespace Go.Proofs.YtdbffhcckmmgfaaDoor.Dt
set_option linter.unusedVariables false
set_option linter.unusedSimpArgs false
open Go.RowKit

/-- a number in k digits -/
def padL : Nat → Nat → List UInt8
  | 0, _ => []
  | k + 1, x => padL k (x / 10) ++ [dg (x : Int)]
theorem padL_len : ∀ k x, (padL k x).length = k
  | 0, _ => rfl
  | k + 1, x => by simp [padL, padL_len k]
def tenS : ByteArray := ⟨#[48, 49, 50, 51, 52, 53, 54, 55, 56, 57]⟩
theorem ten_cut (x : Nat) : tenS.extract (x % 10) (x % 10 + 1) = ⟨#[dg (x : Int)]⟩ := by
  have e : dg (x : Int) = dg ((x % 10 : Nat) : Int) := by unfold dg; congr 2; omega
  rw [e]
  have h : x % 10 < 10 := Nat.mod_lt _ (by omega)
  generalize x % 10 = k at *
  obtain rfl | rfl | rfl | rfl | rfl | rfl | rfl | rfl | rfl | rfl : k = 0 ∨ k = 1 ∨ k = 2 ∨ k = 3 ∨ k = 4 ∨ k = 5 ∨ k = 6 ∨ k = 7 ∨ k = 8 ∨ k = 9 := by omega
  all_goals decide
theorem ten_run1 (c : Int) (h0 : 0 ≤ c) (h1 : c < 10) (w : World) : (Instr.slice 9 (Value.string { data := #[48, 49, 50, 51, 52, 53, 54, 55, 56, 57] }) (some (Value.int IntKind.i64 c)) (some (Value.int IntKind.i64 (c + 1))) none).run Tryd.prog w = .ok (.string ⟨#[dg c]⟩) w := by
  obtain rfl | rfl | rfl | rfl | rfl | rfl | rfl | rfl | rfl | rfl : c = 0 ∨ c = 1 ∨ c = 2 ∨ c = 3 ∨ c = 4 ∨ c = 5 ∨ c = 6 ∨ c = 7 ∨ c = 8 ∨ c = 9 := by omega
  all_goals kernel_rfl
theorem ten_run (k : Nat) (w : World) : (Instr.slice 9 (Value.string { data := #[48, 49, 50, 51, 52, 53, 54, 55, 56, 57] }) (some (Value.int IntKind.i64 ((k : Int) % 10))) (some (Value.int IntKind.i64 ((k : Int) % 10 + 1))) none).run Tryd.prog w = .ok (.string ⟨#[dg (k : Int)]⟩) w := by
  have e : dg (k : Int) = dg ((k : Int) % 10) := by unfold dg; rw [Int.emod_emod]
  rw [e]
  exact ten_run1 _ (by omega) (by omega) w
theorem one_append (c : UInt8) (l : List UInt8) : (ByteArray.mk #[c]) ++ (ByteArray.mk l.toArray) = ByteArray.mk (c :: l).toArray := by
  apply ByteArray.ext
  simp [ByteArray.data_append]

set_option maxRecDepth 100000 in
set_option maxHeartbeats 1000000 in
theorem rdigits_any (x n : Nat) (hx : x < 10 ^ n) (hn : n ≤ 4) (w : World) :
    Calls Tryd.prog 43 #[.int .i64 (x : Int), .int .i64 (n : Int)] w fun e w' => e = .returned (.string ⟨(padL n x).toArray⟩) ∧ w = w' := by
  have HX := Lib.hid hx
  clear hx
  go_enter Tryd.func43, Tryd.ntmps43
  go_wp2_with fail
  go_loop [0, 1, 5] (fun a b s => ∃ (k m : Nat) (t : List UInt8), a = .int .i64 (k : Int) ∧ b = .int .i64 (m : Int) ∧ s = .string ⟨t.toArray⟩ ∧ m ≤ n ∧ k < 10 ^ m ∧ t.length ≤ 4 - m ∧ padL n x = padL m k ++ t) (fun _ b _ => (intOf b).toNat)
  case atStart => exact ⟨x, n, [], rfl, rfl, rfl, Nat.le_refl _, HX.out, by simp, by simp⟩
  case round =>
    obtain ⟨k, m, t, rfl, rfl, rfl, hm, hk, ht, hp⟩ := hrel
    have HP := Lib.hid hp
    clear hp
    cases m with
    | zero =>
      have hk0 : k = 0 := by simpa using hk
      subst hk0
      have HP2 := Lib.hid (HP.out.trans (List.nil_append t))
      clear HP hk
      go_wp2_with fail
      go_ret
      exact ⟨by rw [HP2.out]; rfl, rfl⟩
    | succ m =>
      have hk2 : k / 10 < 10 ^ m := by rw [Nat.pow_succ] at hk; omega
      have HP2 := Lib.hid (show padL n x = padL m (k / 10) ++ (dg (k : Int) :: t) by rw [HP.out]; simp [padL])
      have hk4 : (k : Int) < 10000 := by
        have : 10 ^ (m + 1) ≤ 10 ^ 4 := Nat.pow_le_pow_right (by decide) (by omega)
        omega
      have HK2 := Lib.hid hk2
      have HC := Lib.hid (ten_cut k)
      have HA := Lib.hid (one_append (dg (k : Int)) t)
      have hb : 0 < m + 1 := by omega
      have hts : (ByteArray.mk t.toArray).size ≤ 4 := by simp [ByteArray.size]; omega
      clear HP hk hk2
      by_cases hk0 : k = 0
      · subst hk0
        go_wp2_with fail
        go_round
        case rel => exact ⟨0, m, dg ((0 : Nat) : Int) :: t, rfl, by go_num, congrArg Value.string ((congrArg (· ++ _) HC.out).trans HA.out), by omega, HK2.out, by simp; omega, HP2.out⟩
        case measure => simp [intOf]
      · have hk1 : 0 < (k : Int) := by omega
        have hrun := fun w => ten_run k w
        have hone : (ByteArray.mk #[dg (k : Int)]).size = 1 := rfl
        go_wp2_with fail
        go_round
        case rel => exact ⟨k / 10, m, dg (k : Int) :: t, by simp, by go_num, congrArg Value.string HA.out, by omega, HK2.out, by simp; omega, HP2.out⟩
        case measure => simp [intOf]
theorem pad_four {y : Int} (h0 : 0 ≤ y) (h1 : y ≤ 9999) : padL 4 y.toNat = [dg (y / 1000), dg (y / 100), dg (y / 10), dg y] := by
  obtain ⟨k, rfl⟩ := Int.eq_ofNat_of_zero_le h0
  simp only [padL, Int.toNat_natCast, List.nil_append, List.cons_append]
  rw [show ((k / 10 / 10 / 10 : Nat) : Int) = (k : Int) / 1000 by omega, show ((k / 10 / 10 : Nat) : Int) = (k : Int) / 100 by omega, show ((k / 10 : Nat) : Int) = (k : Int) / 10 by omega]
theorem pad_two {y : Int} (h0 : 0 ≤ y) (h1 : y ≤ 99) : padL 2 y.toNat = [dg (y / 10), dg y] := by
  obtain ⟨k, rfl⟩ := Int.eq_ofNat_of_zero_le h0
  simp only [padL, Int.toNat_natCast, List.nil_append, List.cons_append]
  rw [show ((k / 10 : Nat) : Int) = (k : Int) / 10 by omega]
theorem rdigits_four (y : Int) (h0 : 0 ≤ y) (h1 : y ≤ 9999) (w : World) :
    Calls Tryd.prog 43 #[.int .i64 y, .int .i64 4] w fun e w' => e = .returned (.string ⟨#[dg (y / 1000), dg (y / 100), dg (y / 10), dg y]⟩) ∧ w = w' := by
  have h := rdigits_any y.toNat 4 (by omega) (Nat.le_refl _) w
  rw [pad_four h0 h1, Int.toNat_of_nonneg h0] at h
  exact h
theorem rdigits_two (y : Int) (h0 : 0 ≤ y) (h1 : y ≤ 99) (w : World) :
    Calls Tryd.prog 43 #[.int .i64 y, .int .i64 2] w fun e w' => e = .returned (.string ⟨#[dg (y / 10), dg y]⟩) ∧ w = w' := by
  have h := rdigits_any y.toNat 2 (by omega) (by omega) w
  rw [pad_two h0 h1, Int.toNat_of_nonneg h0] at h
  exact h

theorem rtext_no (n : Int) (h : ¬ (0 ≤ n ∧ n ≤ 100000)) (w : World) :
    Calls Tryd.prog 22 #[.int .i64 n] w fun e w' => e = .returned (.tuple #[.string ⟨#[]⟩, .int .i64 1]) ∧ w = w' := by
  have HN := Lib.hid (fun w => rsplit_no n h w)
  clear h
  go_enter Tryd.func22, Tryd.ntmps22
  go_wp2_with fail
  refine (HN.out _).mono ?_
  rintro r w' ⟨rfl, rfl⟩
  go_wp2_with fail
  go_ret2
  exact ⟨rfl, rfl⟩
theorem rtext_any (n : Int) (h0 : 0 ≤ n) (hn : n ≤ 100000) (w : World) :
    Calls Tryd.prog 22 #[.int .i64 n] w fun e w' => e = .returned (.tuple #[.string ⟨(txN n).toArray⟩, .int .i64 0]) ∧ w = w' := by
  obtain ⟨y, m, d, h⟩ := date_of h0
  obtain ⟨s1, s2, s3⟩ := date_small h hn
  rw [txN_eq h]
  have HS := Lib.hid (fun w => rsplit_any h hn w)
  clear h
  go_enter Tryd.func22, Tryd.ntmps22
  go_wp2_with fail
  refine (HS.out _).mono ?_
  rintro r w' ⟨rfl, rfl⟩
  go_wp2_with fail
  refine (rdigits_four y s1.1 s1.2 _).mono ?_
  rintro r w' ⟨rfl, rfl⟩
  go_wp2_with fail
  refine (rdigits_two m s2.1 s2.2 _).mono ?_
  rintro r w' ⟨rfl, rfl⟩
  go_wp2_with fail
  refine (rdigits_two d s3.1 s3.2 _).mono ?_
  rintro r w' ⟨rfl, rfl⟩
  go_wp2_with fail
  go_ret2
  exact ⟨rfl, rfl⟩
end Go.Proofs.YtdbffhcckmmgfaaDoor.Dt
