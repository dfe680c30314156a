/- Walks over package gazetteerref01: Chain. -/
import Derived.Test.YteapfoadfjjicaaDoorRefW2
import Derived.Test.YteapfoadfjjicaaDoorDigChain
namespace Go.Proofs.YteapfoadfjjicaaDoor.Dig
set_option linter.unusedVariables false
set_option linter.unusedSimpArgs false
open Go.RowKit

theorem rchain_size (l : List UInt8) (n : Nat) (hl : l.length ≤ 4611686018427387904) : (ByteArray.mk (dchain l n).toArray).size ≤ 4611686018427387904 := by
  have := dchain_size l n
  rw [Lib.size_eq]
  show (dchain l n).toArray.toList.length ≤ _
  simp only [List.toList_toArray]
  omega

set_option maxRecDepth 100000 in
set_option maxHeartbeats 1000000 in
theorem rchain_any (s : ByteArray) (hs : s.size ≤ 4611686018427387904) (n : Int) (hn : n ≤ 1000) (w : World) :
    Calls Tryd.prog 54 #[.string s, .int .i64 n] w fun e w' => e = .returned (.string ⟨(dchain (bl s) (chainN n)).toArray⟩) ∧ w = w' := by
  have hlen : (bl s).length ≤ 4611686018427387904 := by rw [← Lib.size_eq]; exact hs
  have HN := Lib.hid (show chainN n = n.toNat by unfold chainN; omega)
  go_enter Tryd.func54, Tryd.ntmps54
  go_wp2_with fail
  go_loop [0, 5] (fun v i => ∃ k : Nat, k ≤ n.toNat ∧ i = .int .i64 k ∧ v = .string ⟨(dchain (bl s) k).toArray⟩) (fun _ i => n.toNat - (intOf i).toNat)
  case atStart => exact ⟨0, by omega, rfl, rfl⟩
  case round =>
    obtain ⟨k, hk, rfl, rfl⟩ := hrel
    by_cases hlt : (k : Int) < n
    · have hsz := rchain_size (bl s) k hlen
      have Hnext := Lib.hid (show dsum (dchain (bl s) k) = dchain (bl s) (k + 1) from rfl)
      go_wp2_with (go_at_call 66; refine (rsum_any _ hsz _).mono ?_; rintro e w1 ⟨rfl, rfl⟩)
      go_round
      case rel => exact ⟨k + 1, by omega, by go_num, by rw [← Hnext.out]⟩
      case measure => simp [intOf]; omega
    · obtain rfl : k = n.toNat := by omega
      go_wp2_with fail
      go_ret
      rw [HN.out]
      exact ⟨rfl, rfl⟩

end Go.Proofs.YteapfoadfjjicaaDoor.Dig
