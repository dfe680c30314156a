/- Walks over layer 5's reference: digits, less. -/
import Derived.Test.YtflnhjfmlminoaaDoorFrcR1
namespace Go.Proofs.YtflnhjfmlminoaaDoor.Fr
set_option linter.unusedVariables false
set_option linter.unusedSimpArgs false
open Go.RowKit

/-- what hands back the digits of a number -/
def RetBin (w : World) (n : Nat) (e : Ending) (w' : World) : Prop := ∃ u, e = .returned u ∧ IntSl w' u (bin n) ∧ Below w.heap.size w w' ∧ ∀ k, u.ownBlock = some k → w.heap.size ≤ k

theorem natAbs_mod (z : Int) : (z.tmod 2).natAbs = z.natAbs % 2 := by rw [Int.natAbs_tmod]; rfl
theorem natAbs_div (z : Int) : (z.tdiv 2).natAbs = z.natAbs / 2 := by rw [Int.natAbs_tdiv]; rfl

set_option maxRecDepth 100000 in
set_option maxHeartbeats 1000000 in
theorem digits_any (n : Int) (h1 : -9223372036854775808 ≤ n) (h2 : n ≤ 9223372036854775807) (w : World) :
    Calls Tryd.prog 32 #[.int .i64 n] w (RetBin w n.natAbs) := by
  have hlen0 : (bin n.natAbs).length ≤ 64 := bin_length_le (by omega)
  have Hlen0 := Lib.hid hlen0
  clear hlen0
  go_enter Tryd.func32, Tryd.ntmps32
  go_wp2_with fail
  go_loopw [0, 3] (fun n0 v wr => ∃ (z : Int) (out : List Nat), n0 = .int .i64 z ∧ -9223372036854775808 ≤ z ∧ z ≤ 9223372036854775807 ∧ OwnInt wr w.heap.size v out ∧ Below w.heap.size w wr ∧ Hid (bin n.natAbs = out ++ bin z.natAbs)) (fun n0 _ _ => (intOf n0).natAbs)
  case atStart => exact ⟨n, [], rfl, h1, h2, OwnInt.nil _ _, Below.refl _ _, Lib.hid rfl⟩
  case round =>
    obtain ⟨z, out, rfl, hz1, hz2, own, hb, He⟩ := hrel
    by_cases hz : z = 0
    · subst hz
      go_wp2_with fail
      go_ret
      refine ⟨_, rfl, ?_, hb, fun k hk => (World.ownsRow.lt own k hk).1⟩
      have e := He.out
      rw [show (0 : Int).natAbs = 0 from rfl, bin_zero, List.append_nil] at e
      rw [e]
      exact own.sl
    · have hl : out.length ≤ 64 := by
        have e := congrArg List.length He.out
        rw [List.length_append] at e
        have := Hlen0.out
        omega
      obtain ⟨t, ht⟩ : ∃ t, z.tmod 2 = t := ⟨_, rfl⟩
      obtain ⟨q, hq⟩ : ∃ q, z.tdiv 2 = q := ⟨_, rfl⟩
      obtain ⟨d, hd⟩ : ∃ d : Nat, z.natAbs % 2 = d := ⟨_, rfl⟩
      have ht2 : t.natAbs = d := by rw [← ht, natAbs_mod, hd]
      have hq2 : q.natAbs = z.natAbs / 2 := by rw [← hq, natAbs_div]
      have Hnew := Lib.hid (show bin n.natAbs = (out ++ [d]) ++ bin q.natAbs by rw [He.out, bin_step (show z.natAbs ≠ 0 by omega), hq2, hd, List.append_assoc]; rfl)
      have hq3 : q.natAbs < z.natAbs := by omega
      have hq4 : -9223372036854775808 ≤ q ∧ q ≤ 9223372036854775807 := by omega
      have hd2 : d ≤ 1 := by omega
      have Hq3 := Lib.hid hq3
      clear hd hq2 hq3 He Hlen0
      by_cases htn : t < 0
      · obtain rfl : d = 1 := by omega
        obtain rfl : t = -1 := by omega
        clear ht2 htn
        go_wp2_with (at_builtin; refine list_int _ (by rfl) _ _ rfl w.heap.size _ ⟨wr.heap.size, 0, none⟩ 1 1 out [1] rfl rfl rfl (own.ofAlloc _) (cells1 wr 1) (by simp; omega) (by have := hb.size; simp; omega) ?_; intro v2 w2 own2 grow2; have hb2 := (hb.alloc hb.size (.cells #[.int .i64 ((1 : Nat) : Int)] 3)).grown grow2 (by have := hb.size; simp; omega) (fun k hk => (World.ownsRow.lt own k hk).1))
        go_roundw
        case rel => exact ⟨q, out ++ [1], by go_num, hq4.1, hq4.2, own2, hb2, Hnew⟩
        case measure => simp [intOf]; exact Hq3.out
      · obtain rfl : t = (d : Int) := by omega
        clear ht2
        go_wp2_with (at_builtin; refine list_int _ (by rfl) _ _ rfl w.heap.size _ ⟨wr.heap.size, 0, none⟩ 1 1 out [d] rfl rfl rfl (own.ofAlloc _) (cells1 wr d) (by simp; omega) (by have := hb.size; simp; omega) ?_; intro v2 w2 own2 grow2; have hb2 := (hb.alloc hb.size (.cells #[.int .i64 (d : Int)] 3)).grown grow2 (by have := hb.size; simp; omega) (fun k hk => (World.ownsRow.lt own k hk).1))
        go_roundw
        case rel => exact ⟨q, out ++ [d], by go_num, hq4.1, hq4.2, own2, hb2, Hnew⟩
        case measure => simp [intOf]; exact Hq3.out

end Go.Proofs.YtflnhjfmlminoaaDoor.Fr
