/- Walks over package gazetteerref01: digits, Decimal, Joined, List. -/
import Derived.Test.YtflnhjfmlminoaaDoorFrcR14
import Derived.LoopTactic
import Derived.Lib.ItoaLen
import Derived.WalkSpells
import Derived.WalkLawsBesides
namespace Go.Proofs.YtflnhjfmlminoaaDoor.Fr
set_option linter.unusedVariables false
set_option linter.unusedSimpArgs false
open Go.RowKit

/-- what the digits still to come are -/
def more (x : Nat) : List UInt8 := if x = 0 then [] else Lib.decDigits x

theorem more_step (x : Nat) (h : 0 < x) : more x = more (x / 10) ++ [UInt8.ofNat (48 + x % 10)] := by
  unfold more
  rw [if_neg (by omega)]
  by_cases h10 : x < 10
  · rw [if_pos (by omega), Lib.decDigits_one h10]
    simp [Nat.mod_eq_of_lt h10]
  · rw [if_neg (by omega), Lib.decDigits, dif_neg h10]

theorem dec_more (n : Nat) : Lib.decDigits n = more (n / 10) ++ [UInt8.ofNat (48 + n % 10)] := by
  by_cases h0 : n = 0
  · subst h0
    rw [Lib.decDigits_one (by omega)]
    rfl
  · rw [← more_step n (by omega), more, if_neg h0]

def decAll : ByteArray := { data := #[48, 49, 50, 51, 52, 53, 54, 55, 56, 57] }
theorem decAll_cut (n : Nat) (h : n < 10) : decAll.extract n (n + 1) = ByteArray.mk [UInt8.ofNat (48 + n)].toArray := by
  have h1 : (decAll.extract n (n + 1)).data.toList = [UInt8.ofNat (48 + n)] := by
    rw [Lib.extract_data]
    obtain rfl | rfl | rfl | rfl | rfl | rfl | rfl | rfl | rfl | rfl : n = 0 ∨ n = 1 ∨ n = 2 ∨ n = 3 ∨ n = 4 ∨ n = 5 ∨ n = 6 ∨ n = 7 ∨ n = 8 ∨ n = 9 := by omega
    all_goals rfl
  apply ByteArray.ext
  apply Array.toList_inj.1
  rw [h1]

theorem mk_append (a b : List UInt8) : ByteArray.mk a.toArray ++ ByteArray.mk b.toArray = ByteArray.mk (a ++ b).toArray := by
  apply ByteArray.ext
  rw [ByteArray.data_append]
  simp

set_option maxRecDepth 100000 in
set_option maxHeartbeats 1000000 in
theorem rdig_any (n : Nat) (hn : n ≤ 9223372036854775807) (w : World) :
    Calls Tryd.prog 64 #[.int .u64 (n : Int)] w fun e w' => e = .returned (.string ⟨(Lib.decDigits n).toArray⟩) ∧ w = w' := by
  have h21 : (Lib.decDigits n).length ≤ 21 := by rw [← Lib.itoa_nonneg]; exact Lib.itoa_length_le _ (by omega) (by omega)
  have Hdec := Lib.hid (dec_more n)
  have Hcut := Lib.hid (decAll_cut (n % 10) (Nat.mod_lt _ (by decide)))
  go_enter Tryd.func64, Tryd.ntmps64
  go_wp2_with fail
  go_loop [0, 3] (fun x v => ∃ (y : Nat) (l : List UInt8), y ≤ n ∧ x = .int .u64 (y : Int) ∧ v = .string ⟨l.toArray⟩ ∧ Hid (Lib.decDigits n = more y ++ l)) (fun x _ => (intOf x).toNat)
  case atStart => exact ⟨n / 10, [UInt8.ofNat (48 + n % 10)], Nat.div_le_self _ _, by simp, by rw [← Hcut.out]; rfl, Hdec⟩
  case round =>
    obtain ⟨y, l, hy, rfl, rfl, Hl⟩ := hrel
    have hll : l.length ≤ 21 := by
      have h := congrArg List.length Hl.out
      rw [List.length_append] at h
      omega
    by_cases h0 : 0 < y
    · have Hcut2 := Lib.hid (decAll_cut (y % 10) (Nat.mod_lt _ (by decide)))
      have Hstep := Lib.hid (more_step y h0)
      clear h21
      go_wp2_with fail
      go_round
      case rel => exact ⟨y / 10, UInt8.ofNat (48 + y % 10) :: l, by omega, by simp, by
        have h := mk_append [UInt8.ofNat (48 + y % 10)] l
        rw [← Hcut2.out] at h
        exact congrArg Value.string h, Lib.hid (by rw [Hl.out, Hstep.out]; simp)⟩
      case measure => simp [intOf]; omega
    · obtain rfl : y = 0 := by omega
      have He := Lib.hid (show Lib.decDigits n = l by rw [Hl.out]; rfl)
      go_wp2_with fail
      go_ret
      rw [He.out]
      exact ⟨rfl, rfl⟩

set_option maxHeartbeats 1000000 in
theorem rDecimal_any (n : Nat) (hn : n ≤ 9223372036854775807) (w : World) :
    Calls Tryd.prog 58 #[.int .i64 (n : Int)] w fun e w' => e = .returned (.string ⟨(Lib.itoa n).toArray⟩) ∧ w = w' := by
  rw [Lib.itoa_nonneg]
  go_enter Tryd.func58, Tryd.ntmps58
  go_wp2_with (go_at_call 64; refine (rdig_any n hn _).mono ?_; rintro e w1 ⟨rfl, rfl⟩)
  go_ret
  exact ⟨rfl, rfl⟩


theorem rdecimal_any (n : Int) (h1 : -9223372036854775807 ≤ n) (h2 : n ≤ 9223372036854775807) (w : World) :
    Calls Tryd.prog 45 #[.int .i64 n] w fun e w' => e = .returned (.string ⟨(Lib.itoa n).toArray⟩) ∧ w = w' := by
  by_cases hn : n < 0
  · obtain ⟨k, hk⟩ : ∃ k : Nat, n = -(k : Int) := ⟨n.natAbs, by omega⟩
    subst hk
    have hk0 : 0 < k := by omega
    have HL := Lib.itoa_length_le (k : Int) (by omega) (by omega)
    have e1 : Lib.itoa (-(k : Int)) = 45 :: Lib.itoa (k : Int) := (Lib.itoa_neg k hk0).trans (by rw [Lib.itoa_nonneg])
    rw [e1]
    have k1 : decide (-(k : Int) < 0) = true := decide_eq_true hn
    have k2 : IntKind.i64.wrap (- -(k : Int)) = (k : Int) := by rw [Int.neg_neg]; exact IntWalk.i64_in _ (by omega)
    have k3 : IntKind.i64.wrap (k : Int) = (k : Int) := IntWalk.i64_in _ (by omega)
    have k4 : wrap64 (k : Int) = (k : Int) := IntWalk.wrap64_in _ (by omega)
    have HD := Lib.hid (fun w => rDecimal_any k (by omega) w)
    go_enter Tryd.func45, Tryd.ntmps45
    go_wp2_with fail
    refine (HD.out _).mono ?_
    rintro r w1 ⟨rfl, rfl⟩
    go_wp2_with fail
    go_ret
    exact ⟨rfl, rfl⟩
  · obtain ⟨k, rfl⟩ : ∃ k : Nat, n = (k : Int) := ⟨n.toNat, by omega⟩
    have k1 : decide ((k : Int) < 0) = false := decide_eq_false hn
    have HD := Lib.hid (fun w => rDecimal_any k (by omega) w)
    clear hn
    go_enter Tryd.func45, Tryd.ntmps45
    go_wp2_with fail
    refine (HD.out _).mono ?_
    rintro r w1 ⟨rfl, rfl⟩
    go_wp2_with fail
    go_ret
    exact ⟨rfl, rfl⟩
end Go.Proofs.YtflnhjfmlminoaaDoor.Fr
