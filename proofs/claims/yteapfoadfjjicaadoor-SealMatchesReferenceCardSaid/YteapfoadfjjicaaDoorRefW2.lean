/- Walks over package gazetteerref01: Sum. -/
import Derived.Test.YteapfoadfjjicaaDoorRefW1
namespace Go.Proofs.YteapfoadfjjicaaDoor.Dig
set_option linter.unusedVariables false
set_option linter.unusedSimpArgs false
open Go.RowKit

theorem ret_v {k : IntKind} {a b : Int} (h : a = b) : Value.int k a = Value.int k b := by rw [h]
theorem u64_small (n : Nat) (h : n < 18446744073709551616) : IntKind.u64.wrap (n : Int) = (n : Int) := by
  rw [IntKind.wrap_u64]
  omega

theorem hex_prepend (n : Nat) (h : n < 16) (l : List UInt8) : hexAll.extract n (n + 1) ++ ⟨l.toArray⟩ = ByteArray.mk (hexDigit n :: l).toArray := by
  have h1 : (hexAll.extract n (n + 1)).data.toList = [hexDigit n] := by
    rw [Lib.extract_data]
    obtain rfl | rfl | rfl | rfl | rfl | rfl | rfl | rfl | rfl | rfl | rfl | rfl | rfl | rfl | rfl | rfl : n = 0 ∨ n = 1 ∨ n = 2 ∨ n = 3 ∨ n = 4 ∨ n = 5 ∨ n = 6 ∨ n = 7 ∨ n = 8 ∨ n = 9 ∨ n = 10 ∨ n = 11 ∨ n = 12 ∨ n = 13 ∨ n = 14 ∨ n = 15 := by omega
    all_goals rfl
  apply ByteArray.ext
  rw [ByteArray.data_append]
  apply Array.toList_inj.1
  rw [Array.toList_append, h1]
  simp

theorem rnum_in (s : ByteArray) (p j : Nat) (hj : j < 8) (hin : p + j < s.size) :
    IntKind.u64.wrap (IntKind.u64.wrap ((numTo (bl s) p j : Int) * 256) + IntKind.u64.wrap ((s[p + j].toNat : Nat) : Int)) = ((numTo (bl s) p (j + 1) : Nat) : Int) := by
  have h1 := numTo_lt (bl s) p j
  have h2 : 256 ^ j ≤ 256 ^ 7 := Nat.pow_le_pow_right (by decide) (by omega)
  have h3 : numTo (bl s) p j < 72057594037927936 := Nat.lt_of_lt_of_le h1 h2
  have h4 := UInt8.toNat_lt s[p + j]
  have e3 : byteAt (bl s) (p + j) = s[p + j].toNat := by
    unfold byteAt
    have hl : p + j < (bl s).length := by rw [← Lib.size_eq]; exact hin
    rw [List.getD_eq_getElem?_getD, List.getElem?_eq_getElem hl]
    rfl
  rw [numTo, e3, IntKind.wrap_u64, IntKind.wrap_u64, IntKind.wrap_u64]
  omega

theorem rnum_out (s : ByteArray) (p j : Nat) (hj : j < 8) (hout : s.size ≤ p + j) :
    IntKind.u64.wrap ((numTo (bl s) p j : Int) * 256) = ((numTo (bl s) p (j + 1) : Nat) : Int) := by
  have h1 := numTo_lt (bl s) p j
  have h2 : 256 ^ j ≤ 256 ^ 7 := Nat.pow_le_pow_right (by decide) (by omega)
  have h3 : numTo (bl s) p j < 72057594037927936 := Nat.lt_of_lt_of_le h1 h2
  have e3 : byteAt (bl s) (p + j) = 0 := by
    unfold byteAt
    have hl : (bl s).length ≤ p + j := by rw [← Lib.size_eq]; exact hout
    rw [List.getD_eq_getElem?_getD, List.getElem?_eq_none hl]
    rfl
  rw [numTo, e3, IntKind.wrap_u64]
  omega

set_option maxRecDepth 100000 in
set_option maxHeartbeats 1000000 in
theorem rsum_any (s : ByteArray) (hs : s.size ≤ 4611686018427387904) (w : World) :
    Calls Tryd.prog 66 #[.string s] w fun e w' => e = .returned (.string ⟨(dsum (bl s)).toArray⟩) ∧ w = w' := by
  have hsz := Lib.size_eq s
  have hlen : (bl s).length < 18446744073709551616 := by rw [← hsz]; omega
  have Hst := Lib.hid (bits_xor_u64_nat 7640891576956012809 (bl s).length (by decide) hlen)
  have Hsz := Lib.hid hsz
  clear hsz
  go_enter Tryd.func66, Tryd.ntmps66
  go_wp2_with fail
  go_loop [3, 4] (fun v i => ∃ k : Nat, k ≤ s.size / 8 + 1 ∧ i = .int .i64 (8 * (k : Int)) ∧ v = .int .u64 ((stN (bl s) k : Nat) : Int)) (fun _ i => s.size + 8 - (intOf i).toNat)
  case atStart => exact ⟨0, by omega, rfl, by rw [stN, ← Hst.out, ← Hsz.out]; rfl⟩
  case round =>
    obtain ⟨k, hk, rfl, rfl⟩ := hrel
    by_cases hlt : k < s.size / 8 + 1
    · have h8 : 8 * k ≤ s.size := by omega
      go_wp2_with fail
      go_loop [5, 6] (fun v i => ∃ j : Nat, j ≤ 8 ∧ i = .int .i64 (8 * (k : Int) + (j : Int)) ∧ v = .int .u64 ((numTo (bl s) (8 * k) j : Nat) : Int)) (fun _ i => 8 * k + 8 - (intOf i).toNat)
      case atStart => exact ⟨0, by omega, by simp, rfl⟩
      case round =>
        obtain ⟨j, hj, rfl, rfl⟩ := hrel
        by_cases hj8 : j < 8
        · by_cases hin : 8 * k + j < s.size
          · have HS := Lib.hid (rnum_in s (8 * k) j hj8 hin)
            go_wp2_with fail
            go_round
            case rel => exact ⟨j + 1, by omega, ret_v (by omega), ret_v HS.out⟩
            case measure => simp [intOf]; omega
          · have HS := Lib.hid (rnum_out s (8 * k) j hj8 (by omega))
            go_wp2_with fail
            go_round
            case rel => exact ⟨j + 1, by omega, ret_v (by omega), ret_v HS.out⟩
            case measure => simp [intOf]; omega
        · obtain rfl : j = 8 := by omega
          have hX := stN_lt (bl s) hlen k
          have hb := blk_lt (bl s) k
          have Hx := Lib.hid (bits_xor_u64_nat _ _ hX hb)
          have Hb := Lib.hid (show numTo (bl s) (8 * k) 8 = blk (bl s) k from rfl)
          have Hnext := Lib.hid (show stN (bl s) (k + 1) = mixN (stN (bl s) k ^^^ blk (bl s) k) from rfl)
          have hxl : stN (bl s) k ^^^ blk (bl s) k < 18446744073709551616 := Nat.xor_lt_two_pow (n := 64) hX hb
          rw [Hb.out]
          go_wp2_with fail
          rw [Hx.out]
          refine (rmix_any _ _ hxl).mono ?_
          rintro e w3 ⟨rfl, rfl⟩
          go_wp2_with fail
          go_round
          case rel => exact ⟨k + 1, by omega, ret_v (by omega), by rw [Hnext.out]⟩
          case measure => simp [intOf]; omega
    · obtain rfl : k = s.size / 8 + 1 := by omega
      have hX := stN_lt (bl s) hlen (s.size / 8 + 1)
      have Hd := Lib.hid (show dsum (bl s) = hexTo (stN (bl s) (s.size / 8 + 1)) 16 by rw [dsum, ← Hsz.out]; rfl)
      generalize stN (bl s) (s.size / 8 + 1) = X at *
      go_wp2_with fail
      go_loop [3, 7, 8] (fun x v i => ∃ j : Nat, j ≤ 16 ∧ i = .int .i64 (j : Int) ∧ x = .int .u64 ((X / 16 ^ j : Nat) : Int) ∧ v = .string ⟨(hexTo X j).toArray⟩) (fun _ _ i => 16 - (intOf i).toNat)
      case atStart => exact ⟨0, by omega, rfl, by simp, rfl⟩
      case round =>
        obtain ⟨j, hj, rfl, rfl, rfl⟩ := hrel
        by_cases hj16 : j < 16
        · have hY : X / 16 ^ j < 18446744073709551616 := Nat.lt_of_le_of_lt (Nat.div_le_self _ _) hX
          have Hl := Lib.hid (hexTo_length X j)
          have Hnext := Lib.hid (show X / 16 ^ j / 16 = X / 16 ^ (j + 1) by rw [Nat.div_div_eq_div_mul, Nat.pow_succ])
          have Hcons := Lib.hid (hexTo_cons j X)
          have hl : (hexTo X j).length ≤ 16 := by rw [Hl.out]; omega
          generalize X / 16 ^ j = Y at *
          have Hpre := Lib.hid (hex_prepend (Y % 16) (Nat.mod_lt _ (by decide)) (hexTo X j))
          go_wp2_with fail
          go_round
          case rel => exact ⟨j + 1, by omega, by go_num, by rw [← Hnext.out]; simp, by rw [Hcons.out, ← Hpre.out]; rfl⟩
          case measure => simp [intOf]; omega
        · obtain rfl : j = 16 := by omega
          go_wp2_with fail
          go_ret
          rw [Hd.out]
          exact ⟨rfl, rfl⟩

end Go.Proofs.YteapfoadfjjicaaDoor.Dig
