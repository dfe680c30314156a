/- Walks over layer 3's program: chains of keys, leaves of keys. -/
import Derived.Test.YteapfoadfjjicaaDoorSlmColl
import Derived.Test.YteapfoadfjjicaaDoorTreeT4
import Derived.Test.YteapfoadfjjicaaDoorDigChain
import Derived.Test.YteapfoadfjjicaaDoorRefChain
namespace Go.Proofs.YteapfoadfjjicaaDoor.Dig
set_option linter.unusedVariables false
set_option linter.unusedSimpArgs false
open Go.RowKit

theorem chainN_small (k : Nat) (hk : k ≤ 1000) : chainN (k : Int) = k := by unfold chainN; omega

theorem chain_k (s : ByteArray) (hs : s.size ≤ 1000) (k : Nat) (hk : k ≤ 1000) (w : World) :
    Calls Tryd.prog 59 #[.string s, .int .i64 (k : Int)] w fun e w' => e = .returned (.string (chainB s k)) ∧ Below w.heap.size w w' := by
  have h := chain_any s (by omega) (k : Int) (by omega) w
  rw [chainN_small k hk] at h
  exact h

theorem decB_eq (n : Nat) : (⟨(Lib.itoa (n : Int)).toArray⟩ : ByteArray) = decB n := rfl
theorem decB_size (n : Nat) (hn : n ≤ 9223372036854775807) : (decB n).size ≤ 1000 := by
  have := Lib.itoa_length_le (n : Int) (by omega) (by omega)
  unfold decB
  rw [size_mk]
  omega

set_option maxRecDepth 100000 in
set_option maxHeartbeats 1000000 in
theorem at_any (s : ByteArray) (hs : s.size ≤ 1000) (i k n : Nat) (hi : i ≤ 1000) (hk : k ≤ 1000) (hn : n ≤ 1000) (w : World) (ht : Tab w) :
    Calls Tryd.prog 51 #[.agg #[.string s, .int .i64 (i : Int)], .int .i64 (k : Int), .int .i64 (n : Int)] w fun e w' => e = .returned (.string (chainB (startB s i k) n)) ∧ Below w.heap.size w w' := by
  have hb0 := new_below w (.cells #[.string s, .int .i64 (i : Int)] 76)
  go_enter Tryd.func51, Tryd.ntmps51
  have hc0 : (w.alloc (.cells #[.string s, .int .i64 (i : Int)] 76)).cell? ⟨w.heap.size, 0, none⟩ = some (.string s) := by simp
  have hc1 : (w.alloc (.cells #[.string s, .int .i64 (i : Int)] 76)).cell? ⟨w.heap.size, 1, none⟩ = some (.int .i64 (i : Int)) := by simp
  have hlt : w.heap.size < (w.alloc (.cells #[.string s, .int .i64 (i : Int)] 76)).heap.size := by simp
  have Hst := Lib.hid (show lsum [s, ⟨(Lib.itoa (i : Int)).toArray⟩, ⟨(Lib.itoa (k : Int)).toArray⟩] = startB s i k from rfl)
  have hzi := decB_size i (by omega)
  have hzk := decB_size k (by omega)
  unfold decB at hzi hzk
  go_wp2_with fail
  obtain ⟨W, hW⟩ : ∃ W, w.alloc (.cells #[.string s, .int .i64 (i : Int)] 76) = W := ⟨_, rfl⟩
  rw [hW] at hb0 hc0 hc1 hlt ⊢
  have htW := ht.below hb0
  have hr := Below.refl W.heap.size W
  go_region_held3 (fun w' => (w'.cell? ⟨w.heap.size, 0, none⟩ = some (.string s) ∧ w'.cell? ⟨w.heap.size, 1, none⟩ = some (.int .i64 (i : Int))) ∧ Below W.heap.size W w')
    (first
      | exact ⟨⟨(Below.cell (p := ⟨w.heap.size, 0, none⟩) hr.drew hlt).trans hc0, (Below.cell (p := ⟨w.heap.size, 1, none⟩) hr.drew hlt).trans hc1⟩, hr.drew⟩
      | exact ⟨⟨(Below.cell (p := ⟨w.heap.size, 0, none⟩) (by assumption) hlt).trans hc0, (Below.cell (p := ⟨w.heap.size, 1, none⟩) (by assumption) hlt).trans hc1⟩, by assumption⟩
      | exact ⟨⟨(Below.cell (p := ⟨w.heap.size, 0, none⟩) (hb2.alloc hb2.size _) hlt).trans hc0, (Below.cell (p := ⟨w.heap.size, 1, none⟩) (hb2.alloc hb2.size _) hlt).trans hc1⟩, hb2.alloc hb2.size _⟩)
    (first
      | (go_at_call 91; refine (itoa_any i (by omega) _ (htW.below hr.drew)).mono ?_; rintro e w1 ⟨rfl, hb1'⟩; have hb1 := hr.drew.trans (hb1'.mono hr.drew.size))
      | (go_at_call 91; refine (itoa_any k (by omega) _ (htW.below hb1)).mono ?_; rintro e w2 ⟨rfl, hb2'⟩; have hb2 := hb1.trans (hb2'.mono hb1.size))
      | (go_at_call 90; refine (list3 s ⟨(Lib.itoa (i : Int)).toArray⟩ ⟨(Lib.itoa (k : Int)).toArray⟩ hs hzi hzk w2 (htW.below hb2)).mono ?_; rintro e w3 ⟨rfl, hb3'⟩; have hb3 := hb2.trans (hb3'.mono hb2.size); rw [Hst.out]))
  go_wp2_with fail
  refine (chain_k (startB s i k) (by rw [startB, lsum_size]; decide) n hn _).mono ?_
  rintro e w4 ⟨rfl, hb4⟩
  go_wp2_with fail
  go_ret
  exact ⟨rfl, hb0.trans ((hb3.trans (hb4.mono hb3.size)).mono hb0.size)⟩

end Go.Proofs.YteapfoadfjjicaaDoor.Dig

/- Walks over layer 3's program: leaves of keys, all leaves, heights, lists of digests. -/
namespace Go.Proofs.YteapfoadfjjicaaDoor.Dig
set_option linter.unusedVariables false
set_option linter.unusedSimpArgs false
open Go.RowKit

/-- append in a plain region, onto a list of the call's own -/
theorem list_app (w : World) {ops : Array Oper} {rest : List Oper} {o : Oper} {a : Act} {Q : Exit → Act → World → Prop} (hw : Region.wanted o (yielded ops a.tmps) = true) (s x : Operand)
    (ho : o.op = .call { callee := .builtin .append, args := #[s, x], argTypes := #[41, 41] })
    (B : Nat) (v u : Value) (p q : List ByteArray) (hs : a.eval s = v) (hx : a.eval x = u) (own : OwnStr w B v p) (hq : StrSl w u q) (hlen : p.length + q.length ≤ 1000000) (hB : B ≤ w.heap.size)
    (h : ∀ v' w', OwnStr w' B v' (p ++ q) → w.grownBy w' v.ownBlock → (v'.ownBlock = v.ownBlock ∨ v'.ownBlock = some w.heap.size) → wpList Tryd.prog ops Q rest (a.put o.dst v') w') : wpList Tryd.prog ops Q (o :: rest) a w :=
  wpList_step fun K hK => by
    rw [if_pos hw]
    exact wp_append_str w s x ho B v u p q hs hx own hq hlen hB fun v' w' h2 h3 h4 => hK _ _ (h v' w' h2 h3 h4)

theorem snoc_map_range (f : Nat → ByteArray) (k : Nat) : (List.range (k + 1)).map f = (List.range k).map f ++ [f k] := by
  rw [List.range_succ, List.map_append]; rfl

theorem endsB_size (s : ByteArray) (i k : Nat) : (chainB (startB s i k) 15).size ≤ 1000 := chainB_size _ _ _ (by decide) (by rw [startB, lsum_size]; decide)
theorem join_lim (l : List ByteArray) (hs : small l) (hn : l.length ≤ 1000) : (joinB l).length ≤ 140737488355328 := by
  have h1 := joinB_len' 1000 (by decide) l hs
  have h2 : l.length * (1000 + 22) ≤ 1000 * (1000 + 22) := Nat.mul_le_mul_right _ hn
  omega

theorem leafOf_any (v : Value) (l : List ByteArray) (hs : small l) (hn : l.length ≤ 1000) (w : World) (ht : Tab w) (hl : StrSl w v l) :
    Calls Tryd.prog 61 #[v] w fun e w' => e = .returned (.string (leafOf l)) ∧ Below w.heap.size w w' := by
  have Hl := Lib.hid (show (⟨(dsum (joinB l)).toArray⟩ : ByteArray) = lsum l from rfl)
  go_enter Tryd.func61, Tryd.ntmps61
  go_wp2_with fail
  refine (list_any v l _ ht hl (join_lim l hs hn)).mono ?_
  rintro e w1 ⟨rfl, hb1⟩
  rw [Hl.out]
  go_wp2_with fail
  refine (leaf_any (lsum l) (by rw [lsum_size]; decide) _ (ht.below hb1)).mono ?_
  rintro e w2 ⟨rfl, hb2⟩
  go_wp2_with fail
  go_ret
  exact ⟨rfl, hb1.trans (hb2.mono hb1.size)⟩

set_option maxRecDepth 100000 in
set_option maxHeartbeats 1000000 in
theorem key_any (s : ByteArray) (hs : s.size ≤ 1000) (i : Nat) (hi : i ≤ 1000) (w : World) (ht : Tab w) :
    Calls Tryd.prog 82 #[.agg #[.string s, .int .i64 (i : Int)]] w fun e w' => e = .returned (.string (keyL s i)) ∧ Below w.heap.size w w' := by
  have hb0 := new_below w (.cells #[.string s, .int .i64 (i : Int)] 76)
  have hc0 : (w.alloc (.cells #[.string s, .int .i64 (i : Int)] 76)).cell? ⟨w.heap.size, 0, none⟩ = some (.string s) := by simp
  have hc1 : (w.alloc (.cells #[.string s, .int .i64 (i : Int)] 76)).cell? ⟨w.heap.size, 1, none⟩ = some (.int .i64 (i : Int)) := by simp
  have hlt : w.heap.size < (w.alloc (.cells #[.string s, .int .i64 (i : Int)] 76)).heap.size := by simp
  have Hk := Lib.hid (show leafOf ((List.range 18).map fun k => chainB (startB s i k) 15) = keyL s i from rfl)
  go_enter Tryd.func82, Tryd.ntmps82
  go_wp2_with fail
  obtain ⟨W, hW⟩ : ∃ W, w.alloc (.cells #[.string s, .int .i64 (i : Int)] 76) = W := ⟨_, rfl⟩
  rw [hW] at hb0 hc0 hc1 hlt ⊢
  have htW := ht.below hb0
  go_loopw [3, 5] (fun v c wr => ∃ k : Nat, k ≤ 18 ∧ c = .int .i64 (k : Int) ∧ OwnStr wr W.heap.size v ((List.range k).map fun k => chainB (startB s i k) 15) ∧ Below W.heap.size W wr) (fun _ c _ => 18 - (intOf c).toNat)
  case atStart => exact ⟨0, by omega, rfl, OwnStr.nil _ _, Below.refl _ _⟩
  case round =>
    obtain ⟨k, hk, rfl, own, hb⟩ := hrel
    have d0 := (hb.cell (p := ⟨w.heap.size, 0, none⟩) hlt).trans hc0
    have d1 := (hb.cell (p := ⟨w.heap.size, 1, none⟩) hlt).trans hc1
    by_cases hlt18 : k < 18
    · have Hn := Lib.hid (snoc_map_range (fun k => chainB (startB s i k) 15) k)
      have hlen : ((List.range k).map fun k => chainB (startB s i k) 15).length = k := by simp
      go_wp2_with (first
        | (go_at_call 51; refine (at_any s hs i k 15 hi (by omega) (by decide) _ (htW.below hb)).mono ?_; rintro e w1 ⟨rfl, hb1'⟩; have hb1 := hb.trans (hb1'.mono hb.size); have own1 := own.below hb1')
        | (at_builtin; refine list_app _ (by rfl) _ _ rfl W.heap.size _ _ _ [chainB (startB s i k) 15] rfl rfl (own1.ofAlloc _) (sl1' _ w1) (by rw [hlen, List.length_singleton]; omega) (by have := hb1.size; simp; omega) ?_; intro v2 w2 own2 grow2 at2; have hb2 := below_grow' (own1.ofAlloc _) (hb1.alloc hb1.size _) grow2))
      go_roundw
      case rel => exact ⟨k + 1, by omega, by go_num, by rw [Hn.out]; exact own2, hb2⟩
      case measure => simp [intOf]; omega
    · obtain rfl : k = 18 := by omega
      go_wp2_with fail
      refine (leafOf_any _ _ (fun x hx => by obtain ⟨j, _, rfl⟩ := List.mem_map.1 hx; exact endsB_size s i j) (by simp) _ (htW.below hb) own.sl).mono ?_
      rintro e w1 ⟨rfl, hb1⟩
      rw [Hk.out]
      go_wp2_with fail
      go_ret
      exact ⟨rfl, hb0.trans ((hb.trans (hb1.mono hb.size)).mono hb0.size)⟩

def okH (h : Int) : Bool := decide (0 ≤ h ∧ h ≤ 8)
theorem isHeight_any (h : Int) (w : World) :
    Calls Tryd.prog 44 #[.int .i64 h] w fun e w' => e = .returned (.bool (okH h)) ∧ w = w' := by
  by_cases h0 : 0 ≤ h
  · by_cases h8 : h ≤ 8
    · have Hd := Lib.hid (show okH h = true from decide_eq_true ⟨h0, h8⟩)
      go_enter Tryd.func44, Tryd.ntmps44
      go_wp2_with fail
      go_ret
      rw [Hd.out]
      exact ⟨rfl, rfl⟩
    · have Hd := Lib.hid (show okH h = false from decide_eq_false fun x => h8 x.2)
      go_enter Tryd.func44, Tryd.ntmps44
      go_wp2_with fail
      go_ret
      rw [Hd.out]
      exact ⟨rfl, rfl⟩
  · have Hd := Lib.hid (show okH h = false from decide_eq_false fun x => h0 x.1)
    go_enter Tryd.func44, Tryd.ntmps44
    go_wp2_with fail
    go_ret
    rw [Hd.out]
    exact ⟨rfl, rfl⟩

end Go.Proofs.YteapfoadfjjicaaDoor.Dig

/- Walks over layer 3's program: lists of digests, the leaves of all keys, public keys. -/
namespace Go.Proofs.YteapfoadfjjicaaDoor.Dig
set_option linter.unusedVariables false
set_option linter.unusedSimpArgs false
open Go.RowKit

set_option maxHeartbeats 1000000 in
theorem allDig_none (a : Option Addr) (cap : Nat) (w : World) :
    Calls Tryd.prog 58 #[.slice a 0 cap] w fun e w' => e = .returned (.bool true) ∧ w = w' := by
  go_enter Tryd.func58, Tryd.ntmps58
  go_wp2_with fail
  refine wp_loop_rounds 1 ?_
  rw [rounds_succ]
  go_wp2_with fail
  go_ret
  exact ⟨rfl, rfl⟩

set_option maxHeartbeats 1000000 in
theorem allDig_some (l : List ByteArray) (b off cap : Nat) (w : World) (h0 : 0 < l.length) (hm : l.length ≤ maxLen)
    (hc : ∀ i (h : i < l.length), w.cell? ⟨b, off + i, none⟩ = some (.string l[i])) :
    Calls Tryd.prog 58 #[.slice (some ⟨b, off, none⟩) l.length cap] w fun e w' => e = .returned (.bool (l.all digB)) ∧ w = w' := by
  unfold maxLen at hm
  go_enter Tryd.func58, Tryd.ntmps58
  go_wp2_with fail
  go_loop [7] (fun i => ∃ k : Nat, k ≤ l.length ∧ i = .int .i64 k ∧ Hid ((l.take k).all digB = true)) (fun i => l.length - (intOf i).toNat)
  case atStart => exact ⟨0, by omega, rfl, Lib.hid (by simp)⟩
  case round =>
    obtain ⟨k, hk, rfl, Hall⟩ := hrel
    by_cases hlt : k < l.length
    · have hck := hc k hlt
      have Hs := Lib.hid (all_snoc digB l k hlt)
      have Hf := Lib.hid (all_false digB l k hlt)
      clear hc
      cases hd : digB l[k] with
      | true =>
        have Hd := Lib.hid hd
        have Hd' := Lib.hid (show isDig (bl l[k]) = true from hd)
        clear hd
        go_wp2_with fail
        refine (is_any l[k] _).mono ?_
        rintro e w1 ⟨rfl, rfl⟩
        rw [Hd'.out]
        go_wp2_with fail
        go_round
        case rel => exact ⟨k + 1, by omega, by go_num, Lib.hid (by rw [Hs.out, Hall.out, Hd.out]; rfl)⟩
        case measure => simp [intOf]; omega
      | false =>
        have HF := Lib.hid (Hf.out hd)
        have Hd' := Lib.hid (show isDig (bl l[k]) = false from hd)
        clear hd
        go_wp2_with fail
        refine (is_any l[k] _).mono ?_
        rintro e w1 ⟨rfl, rfl⟩
        rw [Hd'.out]
        go_wp2_with fail
        go_ret
        rw [HF.out]
        exact ⟨rfl, rfl⟩
    · obtain rfl : k = l.length := by omega
      rw [List.take_length] at Hall
      clear hc
      go_wp2_with fail
      go_ret
      rw [Hall.out]
      exact ⟨rfl, rfl⟩

theorem allDig_any (v : Value) (l : List ByteArray) (w : World) (hl : StrSl w v l) :
    Calls Tryd.prog 58 #[v] w fun e w' => e = .returned (.bool (l.all digB)) ∧ w = w' := by
  rcases hl with ⟨rfl, a, cap, rfl⟩ | ⟨b, off, cap, rfl, h0, hb, hm, hc⟩
  · exact allDig_none a cap w
  · exact allDig_some l b off cap w h0 (capLen hm) hc

theorem pow_wrap (h : Nat) (hh : h ≤ 8) : wrap64 ((2 : Int) ^ h) = ((2 ^ h : Nat) : Int) := by
  have k : ∀ k : Fin 9, wrap64 ((2 : Int) ^ k.val) = ((2 ^ k.val : Nat) : Int) := by decide +kernel
  exact k ⟨h, by omega⟩
theorem pow_le (h : Nat) (hh : h ≤ 8) : 2 ^ h ≤ 256 := Nat.pow_le_pow_right (by decide) hh

set_option maxRecDepth 100000 in
set_option maxHeartbeats 1000000 in
theorem leaves_any (s : ByteArray) (hs : s.size ≤ 1000) (h : Nat) (hh : h ≤ 8) (w : World) (ht : Tab w) :
    Calls Tryd.prog 46 #[.string s, .int .i64 (h : Int)] w (RetOwn w (leavesB s h)) := by
  have Hw := Lib.hid (pow_wrap h hh)
  have hle := pow_le h hh
  have Hd := Lib.hid (show leavesB s h = (List.range (2 ^ h)).map (keyL s) from rfl)
  go_enter Tryd.func46, Tryd.ntmps46
  go_wp2_with fail
  rw [Hw.out]
  generalize 2 ^ h = n at *
  go_loopw [5, 9] (fun v c wr => ∃ k : Nat, k ≤ n ∧ c = .int .i64 (k : Int) ∧ OwnStr wr w.heap.size v ((List.range k).map (keyL s)) ∧ Below w.heap.size w wr) (fun _ c _ => n - (intOf c).toNat)
  case atStart => exact ⟨0, by omega, rfl, OwnStr.nil _ _, Below.refl _ _⟩
  case round =>
    obtain ⟨k, hk, rfl, own, hb⟩ := hrel
    by_cases hlt : k < n
    · have Hn := Lib.hid (snoc_map_range (keyL s) k)
      have hlen : ((List.range k).map (keyL s)).length = k := by simp
      go_wp2_with (first
        | (go_at_call 82; refine (key_any s hs k (by omega) _ (ht.below hb)).mono ?_; rintro e w1 ⟨rfl, hb1'⟩; have hb1 := hb.trans (hb1'.mono hb.size); have own1 := own.below hb1')
        | (at_builtin; refine list_app _ (by rfl) _ _ rfl w.heap.size _ _ _ [keyL s k] rfl rfl (own1.ofAlloc _) (sl1' _ w1) (by rw [hlen, List.length_singleton]; omega) (by have := hb1.size; simp; omega) ?_; intro v2 w2 own2 grow2 at2; have hb2 := below_grow' (own1.ofAlloc _) (hb1.alloc hb1.size _) grow2))
      go_roundw
      case rel => exact ⟨k + 1, by omega, by go_num, by rw [Hn.out]; exact own2, hb2⟩
      case measure => simp [intOf]; omega
    · obtain rfl : k = n := by omega
      go_wp2_with fail
      go_ret
      rw [Hd.out]
      exact ⟨_, rfl, own, hb⟩

/-- the public key -/
def pubB (s : ByteArray) (h : Nat) : ByteArray := rootB (leavesB s h)
theorem pubB_dig (s : ByteArray) (h : Nat) : digB (pubB s h) = true := rootB_dig _ (leavesB_dig s h)

theorem Public_no (s : ByteArray) (h : Int) (hh : okH h = false) (w : World) :
    Calls Tryd.prog 27 #[.string s, .int .i64 h] w fun e w' => e = .returned (.tuple #[.string ⟨#[]⟩, .int .i64 1]) ∧ w = w' := by
  have Hh := Lib.hid hh
  clear hh
  go_enter Tryd.func27, Tryd.ntmps27
  go_wp2_with fail
  refine (isHeight_any h _).mono ?_
  rintro e w1 ⟨rfl, rfl⟩
  rw [Hh.out]
  go_wp2_with fail
  go_ret2
  exact ⟨rfl, rfl⟩

theorem Public_yes (s : ByteArray) (hs : s.size ≤ 1000) (h : Nat) (hh : h ≤ 8) (w : World) (ht : Tab w) :
    Calls Tryd.prog 27 #[.string s, .int .i64 (h : Int)] w fun e w' => e = .returned (.tuple #[.string (pubB s h), .int .i64 0]) ∧ Below w.heap.size w w' := by
  have Hh := Lib.hid (show okH (h : Int) = true from decide_eq_true (by omega))
  have Hp := Lib.hid (show rootB (leavesB s h) = pubB s h from rfl)
  have Hd := Lib.hid (leavesB_dig s h)
  go_enter Tryd.func27, Tryd.ntmps27
  go_wp2_with fail
  refine (isHeight_any h _).mono ?_
  rintro e w1 ⟨rfl, rfl⟩
  rw [Hh.out]
  go_wp2_with fail
  refine (leaves_any s hs h hh _ ht).mono ?_
  rintro e w1 ⟨v, rfl, own, hb1⟩
  go_wp2_with fail
  refine (Root_yes v _ Hd.out _ (ht.below hb1) own.sl).mono ?_
  rintro e w2 ⟨rfl, hb2⟩
  rw [Hp.out]
  go_wp2_with fail
  go_ret2
  exact ⟨rfl, hb1.trans (hb2.mono hb1.size)⟩

end Go.Proofs.YteapfoadfjjicaaDoor.Dig
