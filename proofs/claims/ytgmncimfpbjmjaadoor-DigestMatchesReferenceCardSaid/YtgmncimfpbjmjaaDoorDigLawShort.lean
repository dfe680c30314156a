/- The walk over DigestShort. -/
import Derived.Test.YtgmncimfpbjmjaaDoorDigHead
import Derived.Test.YtgmncimfpbjmjaaDoorDigInj
namespace Go.Proofs.YtgmncimfpbjmjaaDoor.Dig
set_option linter.unusedVariables false
set_option linter.unusedSimpArgs false
open Go.RowKit

theorem cut7 (a : ByteArray) : (a.extract 0 (min (a.size : Int) 7).toNat).size ≤ 7 := by
  simp
  omega

theorem short_eq (a b : ByteArray) (ha : a.size ≤ 7) (hb : b.size ≤ 7) : (dsum (bl a) == dsum (bl b)) = ((bl a) == (bl b)) := by
  rw [Bool.eq_iff_iff]
  simp only [beq_iff_eq]
  exact ⟨fun h => dsum_short _ _ (by rw [← Lib.size_eq]; exact ha) (by rw [← Lib.size_eq]; exact hb) h, fun h => by rw [h]⟩

theorem same_eq (A B : ByteArray) : ((A.data == B.data) == (A.toList == B.toList)) = true := by
  rw [ByteArray.toList_eq, ByteArray.toList_eq]
  have h : (A.data == B.data) = (A.data.toList == B.data.toList) := by
    rw [Bool.eq_iff_iff]
    simp only [beq_iff_eq]
    exact ⟨fun h => by rw [h], fun h => Array.toList_inj.1 h⟩
  rw [h]
  simp

theorem ret_true {b : Bool} (h : b = true) : Ending.returned (.bool b) = .returned (.bool true) := by rw [h]

set_option maxHeartbeats 1000000 in
theorem short_walk (a b : ByteArray) (ha : a.size ≤ maxLen) (hb : b.size ≤ maxLen) (w : World) (ht : Tab w) :
    Calls Tryd.prog 6 #[.string a, .string b] w fun e w' => e = .returned (.bool true) ∧ Below w.heap.size w w' := by
  unfold maxLen at ha hb
  have ca := cut7 a
  have cb := cut7 b
  go_enter Tryd.func6, Tryd.ntmps6
  go_wp2_with fail
  refine (head_any _ ht).mono ?_
  rintro e w1 ⟨rfl, hb1⟩
  go_wp2_with fail
  generalize a.extract 0 (min (a.size : Int) 7).toNat = A at *
  generalize b.extract 0 (min (b.size : Int) 7).toNat = B at *
  refine (sum_any A (by omega) _).mono ?_
  rintro e w2 ⟨rfl, hb2⟩
  go_wp2_with fail
  refine (sum_any B (by omega) _).mono ?_
  rintro e w3 ⟨rfl, hb3⟩
  have hq := short_eq A B ca cb
  go_wp2_with fail
  go_ret
  have s1 := hb1.size
  have s2 := hb2.size
  exact ⟨ret_true (same_eq A B), (hb1.trans (hb2.mono (by omega))).trans (hb3.mono (by omega))⟩

end Go.Proofs.YtgmncimfpbjmjaaDoor.Dig
