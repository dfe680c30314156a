/- The walk over DigestLong. -/
import Derived.Test.YtgmncimfpbjmjaaDoorDigHead
import Derived.Test.YtgmncimfpbjmjaaDoorRefW2
namespace Go.Proofs.YtgmncimfpbjmjaaDoor.Dig
set_option linter.unusedVariables false
set_option linter.unusedSimpArgs false
open Go.RowKit

set_option maxRecDepth 100000 in
set_option maxHeartbeats 1000000 in
theorem long_walk (s : ByteArray) (n : Int) (hn : n ≤ 9223372036854775807) (w : World) (ht : Tab w) :
    Calls Tryd.prog 4 #[.string s, .int .i64 n] w fun e w' => e = .returned (.bool true) ∧ Below w.heap.size w w' := by
  go_enter Tryd.func4, Tryd.ntmps4
  go_wp2_with fail
  refine (head_any _ ht).mono ?_
  rintro e w1 ⟨rfl, hb1⟩
  by_cases hbig : 200 < s.size
  · go_wp2_with fail
    go_ret
    exact ⟨rfl, hb1⟩
  · by_cases hsm : n ≤ 1000
    · go_wp2_with fail
      go_ret
      exact ⟨rfl, hb1⟩
    · have Hq := Lib.hid (show chainN n = chainN 1000 by unfold chainN; omega)
      go_wp2_with fail
      refine (chain_any s (by omega) n hn _).mono ?_
      rintro e w2 ⟨rfl, hb2⟩
      rw [Hq.out]
      go_wp2_with fail
      refine (rchain_any s (by omega) 1000 (by decide) _).mono ?_
      rintro e w3 ⟨rfl, rfl⟩
      go_wp2_with fail
      go_ret
      exact ⟨rfl, hb1.trans (hb2.mono hb1.size)⟩

end Go.Proofs.YtgmncimfpbjmjaaDoor.Dig
