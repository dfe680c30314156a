/- Walks over layer 3's program: chains of keys, leaves of keys. -/
import Derived.Test.YtohhkgnddeeomaaDoorSlmColl
import Derived.Test.YtohhkgnddeeomaaDoorTreeT4
import Derived.Test.YtohhkgnddeeomaaDoorDigChain
import Derived.Test.YtohhkgnddeeomaaDoorRefChain
namespace Go.Proofs.YtohhkgnddeeomaaDoor.Dig
set_option linter.unusedVariables false
set_option linter.unusedSimpArgs false
open Go.RowKit

theorem chainN_small (k : Nat) (hk : k ≤ 1000) : chainN (k : Int) = k := by unfold chainN; omega

theorem chain_k (s : ByteArray) (hs : s.size ≤ 1000) (k : Nat) (hk : k ≤ 1000) (w : World) :
    Calls Tryd.prog 40 #[.string s, .int .i64 (k : Int)] w fun e w' => e = .returned (.string (chainB s k)) ∧ Below w.heap.size w w' := by
  have h := chain_any s (by omega) (k : Int) (by omega) w
  rw [chainN_small k hk] at h
  exact h

theorem decB_eq (n : Nat) : (⟨(Lib.itoa (n : Int)).toArray⟩ : ByteArray) = decB n := rfl
theorem decB_size (n : Nat) (hn : n ≤ 9223372036854775807) : (decB n).size ≤ 1000 := by
  have := Lib.itoa_length_le (n : Int) (by omega) (by omega)
  unfold decB
  rw [size_mk]
  omega

set_option maxRecDepth 100000 in
set_option maxHeartbeats 1000000 in
theorem at_any (s : ByteArray) (hs : s.size ≤ 1000) (i k n : Nat) (hi : i ≤ 1000) (hk : k ≤ 1000) (hn : n ≤ 1000) (w : World) (ht : Tab w) :
    Calls Tryd.prog 33 #[.agg #[.string s, .int .i64 (i : Int)], .int .i64 (k : Int), .int .i64 (n : Int)] w fun e w' => e = .returned (.string (chainB (startB s i k) n)) ∧ Below w.heap.size w w' := by
  have hb0 := new_below w (.cells #[.string s, .int .i64 (i : Int)] 56)
  go_enter Tryd.func33, Tryd.ntmps33
  have hc0 : (w.alloc (.cells #[.string s, .int .i64 (i : Int)] 56)).cell? ⟨w.heap.size, 0, none⟩ = some (.string s) := by simp
  have hc1 : (w.alloc (.cells #[.string s, .int .i64 (i : Int)] 56)).cell? ⟨w.heap.size, 1, none⟩ = some (.int .i64 (i : Int)) := by simp
  have hlt : w.heap.size < (w.alloc (.cells #[.string s, .int .i64 (i : Int)] 56)).heap.size := by simp
  have Hst := Lib.hid (show lsum [s, ⟨(Lib.itoa (i : Int)).toArray⟩, ⟨(Lib.itoa (k : Int)).toArray⟩] = startB s i k from rfl)
  have hzi := decB_size i (by omega)
  have hzk := decB_size k (by omega)
  unfold decB at hzi hzk
  go_wp2_with fail
  obtain ⟨W, hW⟩ : ∃ W, w.alloc (.cells #[.string s, .int .i64 (i : Int)] 56) = W := ⟨_, rfl⟩
  rw [hW] at hb0 hc0 hc1 hlt ⊢
  have htW := ht.below hb0
  have hr := Below.refl W.heap.size W
  go_region_held3 (fun w' => (w'.cell? ⟨w.heap.size, 0, none⟩ = some (.string s) ∧ w'.cell? ⟨w.heap.size, 1, none⟩ = some (.int .i64 (i : Int))) ∧ Below W.heap.size W w')
    (first
      | exact ⟨⟨(Below.cell (p := ⟨w.heap.size, 0, none⟩) hr.drew hlt).trans hc0, (Below.cell (p := ⟨w.heap.size, 1, none⟩) hr.drew hlt).trans hc1⟩, hr.drew⟩
      | exact ⟨⟨(Below.cell (p := ⟨w.heap.size, 0, none⟩) (by assumption) hlt).trans hc0, (Below.cell (p := ⟨w.heap.size, 1, none⟩) (by assumption) hlt).trans hc1⟩, by assumption⟩
      | exact ⟨⟨(Below.cell (p := ⟨w.heap.size, 0, none⟩) (hb2.alloc hb2.size _) hlt).trans hc0, (Below.cell (p := ⟨w.heap.size, 1, none⟩) (hb2.alloc hb2.size _) hlt).trans hc1⟩, hb2.alloc hb2.size _⟩)
    (first
      | (go_at_call 63; refine (itoa_any i (by omega) _ (htW.below hr.drew)).mono ?_; rintro e w1 ⟨rfl, hb1'⟩; have hb1 := hr.drew.trans (hb1'.mono hr.drew.size))
      | (go_at_call 63; refine (itoa_any k (by omega) _ (htW.below hb1)).mono ?_; rintro e w2 ⟨rfl, hb2'⟩; have hb2 := hb1.trans (hb2'.mono hb1.size))
      | (go_at_call 62; refine (list3 s ⟨(Lib.itoa (i : Int)).toArray⟩ ⟨(Lib.itoa (k : Int)).toArray⟩ hs hzi hzk w2 (htW.below hb2)).mono ?_; rintro e w3 ⟨rfl, hb3'⟩; have hb3 := hb2.trans (hb3'.mono hb2.size); rw [Hst.out]))
  go_wp2_with fail
  refine (chain_k (startB s i k) (by rw [startB, lsum_size]; decide) n hn _).mono ?_
  rintro e w4 ⟨rfl, hb4⟩
  go_wp2_with fail
  go_ret
  exact ⟨rfl, hb0.trans ((hb3.trans (hb4.mono hb3.size)).mono hb0.size)⟩

end Go.Proofs.YtohhkgnddeeomaaDoor.Dig
