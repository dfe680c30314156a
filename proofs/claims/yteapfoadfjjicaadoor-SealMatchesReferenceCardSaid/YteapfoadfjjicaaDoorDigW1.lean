/- Walks over package digest: blocks, mix, number. -/
import Derived.Test.YteapfoadfjjicaaDoorChecked
import Derived.Test.YteapfoadfjjicaaDoorDigMath
import Derived.WalkKit
import Derived.WalkSpells
import Derived.WalkLawsBesides
import Derived.Lib.Hide
import Derived.Laws.Bits64
import Derived.Laws.BitsAllLaws
namespace Go.Proofs.YteapfoadfjjicaaDoor.Dig
set_option linter.unusedVariables false
set_option linter.unusedSimpArgs false
open Go.RowKit

theorem ret_int {k : IntKind} {a b : Int} (h : a = b) : Ending.returned (.int k a) = .returned (.int k b) := by rw [h]

set_option maxHeartbeats 400000 in
theorem blocks_any (s : ByteArray) (w : World) (hs : s.size ≤ 9223372036854775806) :
    Calls Tryd.prog 113 #[.string s] w fun e w' => e = .returned (.int .i64 ((s.size / 8 + 1 : Nat) : Int)) ∧ w = w' := by
  go_enter Tryd.func113, Tryd.ntmps113
  go_wp2
  go_ret
  exact ⟨by simp, rfl⟩

theorem mix_int (x : Nat) (hx : x < 18446744073709551616) (a b : Int)
    (ha : a = IntKind.u64.wrap (bits .xor .u64 (x : Int) ((x : Int) / 2147483648) * 11400714819323198485))
    (hb : b = IntKind.u64.wrap (bits .xor .u64 a (a / 134217728) * 15074714826142052245)) :
    bits .xor .u64 b (b / 8589934592) = (mixN x : Int) := by
  have H1 : IntKind.u64.wrap (bits .xor .u64 (x : Int) ((x : Int) / 2147483648) * 11400714819323198485) = (((x ^^^ x / 2147483648) * 11400714819323198485 % 18446744073709551616 : Nat) : Int) :=
    mixStep_u64 x 2147483648 11400714819323198485 hx
  rw [H1] at ha
  rw [ha] at hb
  have H2 := mixStep_u64 ((x ^^^ x / 2147483648) * 11400714819323198485 % 18446744073709551616) 134217728 15074714826142052245 (Nat.mod_lt _ (by decide))
  rw [hb.trans H2]
  exact xorShift_u64 _ 8589934592 (Nat.mod_lt _ (by decide))

set_option maxHeartbeats 400000 in
theorem mix_any (x : Nat) (w : World) (hx : x < 18446744073709551616) :
    Calls Tryd.prog 114 #[.int .u64 (x : Int)] w fun e w' => e = .returned (.int .u64 (mixN x : Int)) ∧ w = w' := by
  go_enter Tryd.func114, Tryd.ntmps114
  go_wp2
  go_ret
  exact ⟨ret_int (mix_int x hx _ _ rfl rfl), rfl⟩

theorem number_step (l : List UInt8) (k : Nat) (hk : k < 8) (hkl : k < l.length) :
    bits .or .u64 (IntKind.u64.wrap ((numTo l 0 k : Int) * 256)) (IntKind.u64.wrap (l[k].toNat : Int)) = (numTo l 0 (k + 1) : Int) := by
  have h1 := numTo_lt l 0 k
  have h2 : 256 ^ k ≤ 256 ^ 7 := Nat.pow_le_pow_right (by decide) (by omega)
  have h3 : numTo l 0 k < 72057594037927936 := Nat.lt_of_lt_of_le h1 h2
  have h4 := UInt8.toNat_lt l[k]
  have e1 : IntKind.u64.wrap ((numTo l 0 k : Int) * 256) = ((numTo l 0 k * 256 : Nat) : Int) := by
    rw [IntKind.wrap_u64]
    omega
  have e2 : IntKind.u64.wrap (l[k].toNat : Int) = (l[k].toNat : Int) := by
    rw [IntKind.wrap_u64]
    omega
  have e3 : l.getD k 0 = l[k] := by simp [hkl]
  rw [e1, e2, u64_or_nat _ _ (by omega) (by omega), nat_join 8 _ _ (by omega) (by omega), numTo, byteAt, Nat.zero_add, e3]

set_option maxHeartbeats 400000 in
theorem number_any (l : List UInt8) (hl : l.length = 8) (w : World) :
    Calls Tryd.prog 115 #[.agg (l.map fun c => .int .u8 (c.toNat : Int)).toArray] w fun e w' => e = .returned (.int .u64 (numTo l 0 8 : Int)) ∧ Below w.heap.size w w' := by
  have hcell : ∀ k, k < 8 → (w.alloc (Obj.cells (List.map (fun c => Value.int IntKind.u8 ↑c.toNat) l).toArray 119)).cell? ⟨w.heap.size, k, none⟩ = some (.int .u8 ((l.getD k 0).toNat : Int)) := by
    intro k hk
    rw [cell_of_row _ _ _ _ _ _ (heap_alloc_new w _)]
    have : k < l.length := by omega
    simp [this]
  go_enter Tryd.func115, Tryd.ntmps115
  go_wp2
  go_loop [3, 5] (fun x i => ∃ k : Nat, k ≤ 8 ∧ i = .int .i64 k ∧ x = .int .u64 (numTo l 0 k)) (fun _ i => 8 - (intOf i).toNat)
  case atStart => exact ⟨0, by omega, rfl, rfl⟩
  case round =>
    obtain ⟨k, hk, rfl, rfl⟩ := hrel
    by_cases hlt : k < 8
    · have hc := hcell k hlt
      have HS := Lib.hid (number_step l k hlt (by omega))
      clear hcell
      go_wp2
      go_round
      case rel => exact ⟨k + 1, by omega, by go_num, by rw [← HS.out]⟩
      case measure => simp [intOf]; omega
    · obtain rfl : k = 8 := by omega
      go_wp2
      go_ret
      exact ⟨rfl, (Below.refl _ _).alloc (Nat.le_refl _) _⟩

end Go.Proofs.YteapfoadfjjicaaDoor.Dig
