/- Walks over package digest: Sum. -/
import Derived.Test.YteapfoadfjjicaaDoorDigW2
import Derived.Test.YteapfoadfjjicaaDoorDigW3
namespace Go.Proofs.YteapfoadfjjicaaDoor.Dig
set_option linter.unusedVariables false
set_option linter.unusedSimpArgs false
open Go.RowKit

set_option maxHeartbeats 400000 in
theorem sum_any (s : ByteArray) (hs : s.size ≤ 9223372036854775806) (w : World) :
    Calls Tryd.prog 88 #[.string s] w fun e w' => e = .returned (.string ⟨(dsum s.data.toList).toArray⟩) ∧ Below w.heap.size w w' := by
  have hsz := Lib.size_eq s
  have hlen : s.data.toList.length < 18446744073709551616 := by rw [← hsz]; omega
  have Hst := Lib.hid (bits_xor_u64_nat 7640891576956012809 s.data.toList.length (by decide) hlen)
  have Hsz := Lib.hid hsz
  clear hsz
  go_enter Tryd.func88, Tryd.ntmps88
  go_wp2_with (go_at_call 113; refine (blocks_any s _ hs).mono ?_; rintro e w' ⟨rfl, rfl⟩)
  go_loopw [5, 16] (fun v i wr => ∃ k : Nat, k ≤ s.size / 8 + 1 ∧ i = .int .i64 k ∧ v = .int .u64 ((stN s.data.toList k : Nat) : Int) ∧ Below w.heap.size w wr) (fun _ i _ => s.size / 8 + 1 - (intOf i).toNat)
  case atStart => exact ⟨0, by omega, rfl, by rw [stN, ← Hst.out, ← Hsz.out]; rfl, Below.refl _ _⟩
  case round =>
    obtain ⟨k, hk, rfl, rfl, hbel⟩ := hrel
    by_cases hlt : k < s.size / 8 + 1
    · have hX := stN_lt s.data.toList hlen k
      have hb := blk_lt s.data.toList k
      have Hx := Lib.hid (bits_xor_u64_nat _ _ hX hb)
      have Hnext := Lib.hid (show stN s.data.toList (k + 1) = mixN (stN s.data.toList k ^^^ blk s.data.toList k) from rfl)
      have hxl : stN s.data.toList k ^^^ blk s.data.toList k < 18446744073709551616 := Nat.xor_lt_two_pow (n := 64) hX hb
      go_wp2_with fail
      refine (block_any s k (by omega) hs _).mono ?_
      rintro e w1 ⟨rfl, hb1⟩
      go_wp2_with fail
      refine (number_any _ (blkBytes_length _ _) _).mono ?_
      rintro e w2 ⟨rfl, hb2⟩
      rw [blkBytes_num]
      go_wp2_with fail
      rw [Hx.out]
      refine (mix_any _ _ hxl).mono ?_
      rintro e w3 ⟨rfl, rfl⟩
      have hbel2 := ((hbel.trans (hb1.mono hbel.size)).trans (hb2.mono (Nat.le_trans hbel.size hb1.size)))
      go_wp2
      go_roundw
      case rel => exact ⟨k + 1, by omega, by go_num, by rw [Hnext.out], hbel2⟩
      case measure => simp [intOf]; omega
    · obtain rfl : k = s.size / 8 + 1 := by omega
      have hX := stN_lt s.data.toList hlen (s.size / 8 + 1)
      have Hd := Lib.hid (show dsum s.data.toList = hexN (stN s.data.toList (s.size / 8 + 1)) by rw [dsum, Hsz.out])
      go_wp2_with (go_at_call 116; refine (hex_any _ hX _).mono ?_; rintro e w1 ⟨rfl, hb1⟩)
      go_ret
      rw [Hd.out]
      exact ⟨rfl, hbel.trans (hb1.mono hbel.size)⟩

end Go.Proofs.YteapfoadfjjicaaDoor.Dig
