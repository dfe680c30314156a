/- Walks over package digest: Sum, Chain. -/
import Derived.Test.YtgmncimfpbjmjaaDoorDigW2
import Derived.Test.YtgmncimfpbjmjaaDoorDigW3
namespace Go.Proofs.YtgmncimfpbjmjaaDoor.Dig
set_option linter.unusedVariables false
set_option linter.unusedSimpArgs false
open Go.RowKit

set_option maxHeartbeats 400000 in
theorem sum_any (s : ByteArray) (hs : s.size ≤ 9223372036854775806) (w : World) :
    Calls Tryd.prog 12 #[.string s] w fun e w' => e = .returned (.string ⟨(dsum s.data.toList).toArray⟩) ∧ Below w.heap.size w w' := by
  have hsz := Lib.size_eq s
  have hlen : s.data.toList.length < 18446744073709551616 := by rw [← hsz]; omega
  have Hst := Lib.hid (bits_xor_u64_nat 7640891576956012809 s.data.toList.length (by decide) hlen)
  have Hsz := Lib.hid hsz
  clear hsz
  go_enter Tryd.func12, Tryd.ntmps12
  go_wp2_with (go_at_call 23; refine (blocks_any s _ hs).mono ?_; rintro e w' ⟨rfl, rfl⟩)
  go_loopw [5, 16] (fun v i wr => ∃ k : Nat, k ≤ s.size / 8 + 1 ∧ i = .int .i64 k ∧ v = .int .u64 ((stN s.data.toList k : Nat) : Int) ∧ Below w.heap.size w wr) (fun _ i _ => s.size / 8 + 1 - (intOf i).toNat)
  case atStart => exact ⟨0, by omega, rfl, by rw [stN, ← Hst.out, ← Hsz.out]; rfl, Below.refl _ _⟩
  case round =>
    obtain ⟨k, hk, rfl, rfl, hbel⟩ := hrel
    by_cases hlt : k < s.size / 8 + 1
    · have hX := stN_lt s.data.toList hlen k
      have hb := blk_lt s.data.toList k
      have Hx := Lib.hid (bits_xor_u64_nat _ _ hX hb)
      have Hnext := Lib.hid (show stN s.data.toList (k + 1) = mixN (stN s.data.toList k ^^^ blk s.data.toList k) from rfl)
      have hxl : stN s.data.toList k ^^^ blk s.data.toList k < 18446744073709551616 := Nat.xor_lt_two_pow (n := 64) hX hb
      go_wp2_with fail
      refine (block_any s k (by omega) hs _).mono ?_
      rintro e w1 ⟨rfl, hb1⟩
      go_wp2_with fail
      refine (number_any _ (blkBytes_length _ _) _).mono ?_
      rintro e w2 ⟨rfl, hb2⟩
      rw [blkBytes_num]
      go_wp2_with fail
      rw [Hx.out]
      refine (mix_any _ _ hxl).mono ?_
      rintro e w3 ⟨rfl, rfl⟩
      have hbel2 := ((hbel.trans (hb1.mono hbel.size)).trans (hb2.mono (Nat.le_trans hbel.size hb1.size)))
      go_wp2
      go_roundw
      case rel => exact ⟨k + 1, by omega, by go_num, by rw [Hnext.out], hbel2⟩
      case measure => simp [intOf]; omega
    · obtain rfl : k = s.size / 8 + 1 := by omega
      have hX := stN_lt s.data.toList hlen (s.size / 8 + 1)
      have Hd := Lib.hid (show dsum s.data.toList = hexN (stN s.data.toList (s.size / 8 + 1)) by rw [dsum, Hsz.out])
      go_wp2_with (go_at_call 26; refine (hex_any _ hX _).mono ?_; rintro e w1 ⟨rfl, hb1⟩)
      go_ret
      rw [Hd.out]
      exact ⟨rfl, hbel.trans (hb1.mono hbel.size)⟩

theorem chain_size (l : List UInt8) (n : Nat) (hl : l.length ≤ 9223372036854775806) : (ByteArray.mk (dchain l n).toArray).size ≤ 9223372036854775806 := by
  have := dchain_size l n
  rw [Lib.size_eq]
  show (dchain l n).toArray.toList.length ≤ _
  simp only [List.toList_toArray]
  omega

/-- Chain: n as it came (an int), cut at 0 and at 1000. -/
def chainN (n : Int) : Nat := min n.toNat 1000

set_option maxRecDepth 100000 in
set_option maxHeartbeats 400000 in
theorem chain_any (s : ByteArray) (hs : s.size ≤ 9223372036854775806) (n : Int) (hn : n ≤ 9223372036854775807) (w : World) :
    Calls Tryd.prog 16 #[.string s, .int .i64 n] w fun e w' => e = .returned (.string ⟨(dchain s.data.toList (chainN n)).toArray⟩) ∧ Below w.heap.size w w' := by
  have hlen : s.data.toList.length ≤ 9223372036854775806 := by rw [← Lib.size_eq]; exact hs
  by_cases hgt : 1000 < n
  · have HN := Lib.hid (show chainN n = 1000 by unfold chainN; omega)
    go_enter Tryd.func16, Tryd.ntmps16
    go_wp2_with fail
    go_loopw [0, 7] (fun v i wr => ∃ k : Nat, k ≤ 1000 ∧ i = .int .i64 k ∧ v = .string ⟨(dchain s.data.toList k).toArray⟩ ∧ Below w.heap.size w wr) (fun _ i _ => 1000 - (intOf i).toNat)
    case atStart => exact ⟨0, by omega, rfl, rfl, Below.refl _ _⟩
    case round =>
      obtain ⟨k, hk, rfl, rfl, hbel⟩ := hrel
      by_cases hlt : k < 1000
      · have hsz := chain_size _ k hlen
        have Hnext := Lib.hid (show dsum (dchain s.data.toList k) = dchain s.data.toList (k + 1) from rfl)
        go_wp2_with (go_at_call 12; refine (sum_any _ hsz _).mono ?_; rintro e w1 ⟨rfl, hb1⟩)
        go_roundw
        case rel => exact ⟨k + 1, by omega, by go_num, by rw [← Hnext.out], hbel.trans (hb1.mono hbel.size)⟩
        case measure => simp [intOf]; omega
      · obtain rfl : k = 1000 := by omega
        go_wp2_with fail
        go_ret
        rw [HN.out]
        exact ⟨rfl, hbel⟩
  · have HN := Lib.hid (show chainN n = n.toNat by unfold chainN; omega)
    have hle : n ≤ 1000 := by omega
    go_enter Tryd.func16, Tryd.ntmps16
    go_wp2_with fail
    go_loopw [0, 7] (fun v i wr => ∃ k : Nat, k ≤ n.toNat ∧ i = .int .i64 k ∧ v = .string ⟨(dchain s.data.toList k).toArray⟩ ∧ Below w.heap.size w wr) (fun _ i _ => n.toNat - (intOf i).toNat)
    case atStart => exact ⟨0, by omega, rfl, rfl, Below.refl _ _⟩
    case round =>
      obtain ⟨k, hk, rfl, rfl, hbel⟩ := hrel
      by_cases hlt : (k : Int) < n
      · have hsz := chain_size _ k hlen
        have Hnext := Lib.hid (show dsum (dchain s.data.toList k) = dchain s.data.toList (k + 1) from rfl)
        go_wp2_with (go_at_call 12; refine (sum_any _ hsz _).mono ?_; rintro e w1 ⟨rfl, hb1⟩)
        go_roundw
        case rel => exact ⟨k + 1, by omega, by go_num, by rw [← Hnext.out], hbel.trans (hb1.mono hbel.size)⟩
        case measure => simp [intOf]; omega
      · obtain rfl : k = n.toNat := by omega
        go_wp2_with fail
        go_ret
        rw [HN.out]
        exact ⟨rfl, hbel⟩

end Go.Proofs.YtgmncimfpbjmjaaDoor.Dig
