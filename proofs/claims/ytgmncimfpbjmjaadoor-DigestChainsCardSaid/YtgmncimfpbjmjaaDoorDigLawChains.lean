/- The walk over DigestChains. -/
import Derived.Test.YtgmncimfpbjmjaaDoorDigHead
namespace Go.Proofs.YtgmncimfpbjmjaaDoor.Dig
set_option linter.unusedVariables false
set_option linter.unusedSimpArgs false
open Go.RowKit

theorem chains_eq (l : List UInt8) (a b : Int) (ha : 0 ≤ a) (ha2 : a ≤ 50) (hb : 0 ≤ b) (hb2 : b ≤ 50) :
    dchain (dchain l (chainN a)) (chainN b) = dchain l (chainN (a + b)) := by
  rw [dchain_add]
  congr 1
  unfold chainN
  omega

set_option maxHeartbeats 1000000 in
theorem chains_walk (s : ByteArray) (one two : Int) (h1 : 0 ≤ one) (h1' : one ≤ 255) (h2 : 0 ≤ two) (h2' : two ≤ 255) (w : World) (ht : Tab w) :
    Calls Tryd.prog 8 #[.string s, .int .u8 one, .int .u8 two] w fun e w' => e = .returned (.bool true) ∧ Below w.heap.size w w' := by
  by_cases hbig : 2000 < s.size
  · go_enter Tryd.func8, Tryd.ntmps8
    go_wp2_with (go_at_call 10; refine (head_any _ ht).mono ?_; rintro e w1 ⟨rfl, hb1⟩)
    go_ret
    exact ⟨rfl, hb1⟩
  · have hs : s.size ≤ 9223372036854775806 := by omega
    go_enter Tryd.func8, Tryd.ntmps8
    go_wp2_with fail
    refine (head_any _ ht).mono ?_
    rintro e w1 ⟨rfl, hb1⟩
    go_wp2_with fail
    refine (chain_any s hs _ (by omega) _).mono ?_
    rintro e w2 ⟨rfl, hb2⟩
    have Heq := Lib.hid (chains_eq (bl s) (one % 51) (two % 51) (by omega) (by omega) (by omega) (by omega))
    have hsz := chain_size s.data.toList (chainN (one % 51)) (by rw [← Lib.size_eq]; exact hs)
    go_wp2_with fail
    refine (chain_any _ hsz _ (by omega) _).mono ?_
    rintro e w3 ⟨rfl, hb3⟩
    rw [show ({ data := (dchain s.data.toList (chainN (one % 51))).toArray } : ByteArray).data.toList = dchain (bl s) (chainN (one % 51)) from rfl, Heq.out]
    go_wp2_with fail
    refine (chain_any s hs _ (by omega) _).mono ?_
    rintro e w4 ⟨rfl, hb4⟩
    go_wp2_with fail
    go_ret
    have s1 := hb1.size
    have s2 := hb2.size
    have s3 := hb3.size
    exact ⟨rfl, ((hb1.trans (hb2.mono (by omega))).trans (hb3.mono (by omega))).trans (hb4.mono (by omega))⟩

end Go.Proofs.YtgmncimfpbjmjaaDoor.Dig
