/- Walks over package digest: Chain. -/
import Derived.Test.YteapfoadfjjicaaDoorDigW4
namespace Go.Proofs.YteapfoadfjjicaaDoor.Dig
set_option linter.unusedVariables false
set_option linter.unusedSimpArgs false
open Go.RowKit

theorem chain_size (l : List UInt8) (n : Nat) (hl : l.length ≤ 9223372036854775806) : (ByteArray.mk (dchain l n).toArray).size ≤ 9223372036854775806 := by
  have := dchain_size l n
  rw [Lib.size_eq]
  show (dchain l n).toArray.toList.length ≤ _
  simp only [List.toList_toArray]
  omega

/-- Chain: n as it came (an int), cut at 0 and at 1000. -/
def chainN (n : Int) : Nat := min n.toNat 1000

set_option maxRecDepth 100000 in
set_option maxHeartbeats 400000 in
theorem chain_any (s : ByteArray) (hs : s.size ≤ 9223372036854775806) (n : Int) (hn : n ≤ 9223372036854775807) (w : World) :
    Calls Tryd.prog 59 #[.string s, .int .i64 n] w fun e w' => e = .returned (.string ⟨(dchain s.data.toList (chainN n)).toArray⟩) ∧ Below w.heap.size w w' := by
  have hlen : s.data.toList.length ≤ 9223372036854775806 := by rw [← Lib.size_eq]; exact hs
  by_cases hgt : 1000 < n
  · have HN := Lib.hid (show chainN n = 1000 by unfold chainN; omega)
    go_enter Tryd.func59, Tryd.ntmps59
    go_wp2_with fail
    go_loopw [0, 7] (fun v i wr => ∃ k : Nat, k ≤ 1000 ∧ i = .int .i64 k ∧ v = .string ⟨(dchain s.data.toList k).toArray⟩ ∧ Below w.heap.size w wr) (fun _ i _ => 1000 - (intOf i).toNat)
    case atStart => exact ⟨0, by omega, rfl, rfl, Below.refl _ _⟩
    case round =>
      obtain ⟨k, hk, rfl, rfl, hbel⟩ := hrel
      by_cases hlt : k < 1000
      · have hsz := chain_size _ k hlen
        have Hnext := Lib.hid (show dsum (dchain s.data.toList k) = dchain s.data.toList (k + 1) from rfl)
        go_wp2_with (go_at_call 88; refine (sum_any _ hsz _).mono ?_; rintro e w1 ⟨rfl, hb1⟩)
        go_roundw
        case rel => exact ⟨k + 1, by omega, by go_num, by rw [← Hnext.out], hbel.trans (hb1.mono hbel.size)⟩
        case measure => simp [intOf]; omega
      · obtain rfl : k = 1000 := by omega
        go_wp2_with fail
        go_ret
        rw [HN.out]
        exact ⟨rfl, hbel⟩
  · have HN := Lib.hid (show chainN n = n.toNat by unfold chainN; omega)
    have hle : n ≤ 1000 := by omega
    go_enter Tryd.func59, Tryd.ntmps59
    go_wp2_with fail
    go_loopw [0, 7] (fun v i wr => ∃ k : Nat, k ≤ n.toNat ∧ i = .int .i64 k ∧ v = .string ⟨(dchain s.data.toList k).toArray⟩ ∧ Below w.heap.size w wr) (fun _ i _ => n.toNat - (intOf i).toNat)
    case atStart => exact ⟨0, by omega, rfl, rfl, Below.refl _ _⟩
    case round =>
      obtain ⟨k, hk, rfl, rfl, hbel⟩ := hrel
      by_cases hlt : (k : Int) < n
      · have hsz := chain_size _ k hlen
        have Hnext := Lib.hid (show dsum (dchain s.data.toList k) = dchain s.data.toList (k + 1) from rfl)
        go_wp2_with (go_at_call 88; refine (sum_any _ hsz _).mono ?_; rintro e w1 ⟨rfl, hb1⟩)
        go_roundw
        case rel => exact ⟨k + 1, by omega, by go_num, by rw [← Hnext.out], hbel.trans (hb1.mono hbel.size)⟩
        case measure => simp [intOf]; omega
      · obtain rfl : k = n.toNat := by omega
        go_wp2_with fail
        go_ret
        rw [HN.out]
        exact ⟨rfl, hbel⟩

end Go.Proofs.YteapfoadfjjicaaDoor.Dig
