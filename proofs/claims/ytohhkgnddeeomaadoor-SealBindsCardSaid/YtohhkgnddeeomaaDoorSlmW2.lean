/- Walks over layer 3's program: leaves of keys, all leaves, heights, lists of digests. -/
import Derived.Test.YtohhkgnddeeomaaDoorSlmW1
namespace Go.Proofs.YtohhkgnddeeomaaDoor.Dig
set_option linter.unusedVariables false
set_option linter.unusedSimpArgs false
open Go.RowKit

/-- append in a plain region, onto a list of the call's own -/
theorem list_app (w : World) {ops : Array Oper} {rest : List Oper} {o : Oper} {a : Act} {Q : Exit → Act → World → Prop} (hw : Region.wanted o (yielded ops a.tmps) = true) (s x : Operand)
    (ho : o.op = .call { callee := .builtin .append, args := #[s, x], argTypes := #[22, 22] })
    (B : Nat) (v u : Value) (p q : List ByteArray) (hs : a.eval s = v) (hx : a.eval x = u) (own : OwnStr w B v p) (hq : StrSl w u q) (hlen : p.length + q.length ≤ 1000000) (hB : B ≤ w.heap.size)
    (h : ∀ v' w', OwnStr w' B v' (p ++ q) → w.grownBy w' v.ownBlock → (v'.ownBlock = v.ownBlock ∨ v'.ownBlock = some w.heap.size) → wpList Tryd.prog ops Q rest (a.put o.dst v') w') : wpList Tryd.prog ops Q (o :: rest) a w :=
  wpList_step fun K hK => by
    rw [if_pos hw]
    exact wp_append_str w s x ho B v u p q hs hx own hq hlen hB fun v' w' h2 h3 h4 => hK _ _ (h v' w' h2 h3 h4)

theorem snoc_map_range (f : Nat → ByteArray) (k : Nat) : (List.range (k + 1)).map f = (List.range k).map f ++ [f k] := by
  rw [List.range_succ, List.map_append]; rfl

theorem endsB_size (s : ByteArray) (i k : Nat) : (chainB (startB s i k) 15).size ≤ 1000 := chainB_size _ _ _ (by decide) (by rw [startB, lsum_size]; decide)
theorem join_lim (l : List ByteArray) (hs : small l) (hn : l.length ≤ 1000) : (joinB l).length ≤ 140737488355328 := by
  have h1 := joinB_len' 1000 (by decide) l hs
  have h2 : l.length * (1000 + 22) ≤ 1000 * (1000 + 22) := Nat.mul_le_mul_right _ hn
  omega

theorem leafOf_any (v : Value) (l : List ByteArray) (hs : small l) (hn : l.length ≤ 1000) (w : World) (ht : Tab w) (hl : StrSl w v l) :
    Calls Tryd.prog 42 #[v] w fun e w' => e = .returned (.string (leafOf l)) ∧ Below w.heap.size w w' := by
  have Hl := Lib.hid (show (⟨(dsum (joinB l)).toArray⟩ : ByteArray) = lsum l from rfl)
  go_enter Tryd.func42, Tryd.ntmps42
  go_wp2_with fail
  refine (list_any v l _ ht hl (join_lim l hs hn)).mono ?_
  rintro e w1 ⟨rfl, hb1⟩
  rw [Hl.out]
  go_wp2_with fail
  refine (leaf_any (lsum l) (by rw [lsum_size]; decide) _ (ht.below hb1)).mono ?_
  rintro e w2 ⟨rfl, hb2⟩
  go_wp2_with fail
  go_ret
  exact ⟨rfl, hb1.trans (hb2.mono hb1.size)⟩

set_option maxRecDepth 100000 in
set_option maxHeartbeats 1000000 in
theorem key_any (s : ByteArray) (hs : s.size ≤ 1000) (i : Nat) (hi : i ≤ 1000) (w : World) (ht : Tab w) :
    Calls Tryd.prog 55 #[.agg #[.string s, .int .i64 (i : Int)]] w fun e w' => e = .returned (.string (keyL s i)) ∧ Below w.heap.size w w' := by
  have hb0 := new_below w (.cells #[.string s, .int .i64 (i : Int)] 56)
  have hc0 : (w.alloc (.cells #[.string s, .int .i64 (i : Int)] 56)).cell? ⟨w.heap.size, 0, none⟩ = some (.string s) := by simp
  have hc1 : (w.alloc (.cells #[.string s, .int .i64 (i : Int)] 56)).cell? ⟨w.heap.size, 1, none⟩ = some (.int .i64 (i : Int)) := by simp
  have hlt : w.heap.size < (w.alloc (.cells #[.string s, .int .i64 (i : Int)] 56)).heap.size := by simp
  have Hk := Lib.hid (show leafOf ((List.range 18).map fun k => chainB (startB s i k) 15) = keyL s i from rfl)
  go_enter Tryd.func55, Tryd.ntmps55
  go_wp2_with fail
  obtain ⟨W, hW⟩ : ∃ W, w.alloc (.cells #[.string s, .int .i64 (i : Int)] 56) = W := ⟨_, rfl⟩
  rw [hW] at hb0 hc0 hc1 hlt ⊢
  have htW := ht.below hb0
  go_loopw [3, 5] (fun v c wr => ∃ k : Nat, k ≤ 18 ∧ c = .int .i64 (k : Int) ∧ OwnStr wr W.heap.size v ((List.range k).map fun k => chainB (startB s i k) 15) ∧ Below W.heap.size W wr) (fun _ c _ => 18 - (intOf c).toNat)
  case atStart => exact ⟨0, by omega, rfl, OwnStr.nil _ _, Below.refl _ _⟩
  case round =>
    obtain ⟨k, hk, rfl, own, hb⟩ := hrel
    have d0 := (hb.cell (p := ⟨w.heap.size, 0, none⟩) hlt).trans hc0
    have d1 := (hb.cell (p := ⟨w.heap.size, 1, none⟩) hlt).trans hc1
    by_cases hlt18 : k < 18
    · have Hn := Lib.hid (snoc_map_range (fun k => chainB (startB s i k) 15) k)
      have hlen : ((List.range k).map fun k => chainB (startB s i k) 15).length = k := by simp
      go_wp2_with (first
        | (go_at_call 33; refine (at_any s hs i k 15 hi (by omega) (by decide) _ (htW.below hb)).mono ?_; rintro e w1 ⟨rfl, hb1'⟩; have hb1 := hb.trans (hb1'.mono hb.size); have own1 := own.below hb1')
        | (at_builtin; refine list_app _ (by rfl) _ _ rfl W.heap.size _ _ _ [chainB (startB s i k) 15] rfl rfl (own1.ofAlloc _) (sl1' _ w1) (by rw [hlen, List.length_singleton]; omega) (by have := hb1.size; simp; omega) ?_; intro v2 w2 own2 grow2 at2; have hb2 := below_grow' (own1.ofAlloc _) (hb1.alloc hb1.size _) grow2))
      go_roundw
      case rel => exact ⟨k + 1, by omega, by go_num, by rw [Hn.out]; exact own2, hb2⟩
      case measure => simp [intOf]; omega
    · obtain rfl : k = 18 := by omega
      go_wp2_with fail
      refine (leafOf_any _ _ (fun x hx => by obtain ⟨j, _, rfl⟩ := List.mem_map.1 hx; exact endsB_size s i j) (by simp) _ (htW.below hb) own.sl).mono ?_
      rintro e w1 ⟨rfl, hb1⟩
      rw [Hk.out]
      go_wp2_with fail
      go_ret
      exact ⟨rfl, hb0.trans ((hb.trans (hb1.mono hb.size)).mono hb0.size)⟩

def okH (h : Int) : Bool := decide (0 ≤ h ∧ h ≤ 8)
theorem isHeight_any (h : Int) (w : World) :
    Calls Tryd.prog 26 #[.int .i64 h] w fun e w' => e = .returned (.bool (okH h)) ∧ w = w' := by
  by_cases h0 : 0 ≤ h
  · by_cases h8 : h ≤ 8
    · have Hd := Lib.hid (show okH h = true from decide_eq_true ⟨h0, h8⟩)
      go_enter Tryd.func26, Tryd.ntmps26
      go_wp2_with fail
      go_ret
      rw [Hd.out]
      exact ⟨rfl, rfl⟩
    · have Hd := Lib.hid (show okH h = false from decide_eq_false fun x => h8 x.2)
      go_enter Tryd.func26, Tryd.ntmps26
      go_wp2_with fail
      go_ret
      rw [Hd.out]
      exact ⟨rfl, rfl⟩
  · have Hd := Lib.hid (show okH h = false from decide_eq_false fun x => h0 x.1)
    go_enter Tryd.func26, Tryd.ntmps26
    go_wp2_with fail
    go_ret
    rw [Hd.out]
    exact ⟨rfl, rfl⟩

end Go.Proofs.YtohhkgnddeeomaaDoor.Dig
