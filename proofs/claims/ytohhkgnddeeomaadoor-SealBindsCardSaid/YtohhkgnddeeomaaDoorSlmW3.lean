/- Walks over layer 3's program: lists of digests, the leaves of all keys, public keys. -/
import Derived.Test.YtohhkgnddeeomaaDoorSlmW2
namespace Go.Proofs.YtohhkgnddeeomaaDoor.Dig
set_option linter.unusedVariables false
set_option linter.unusedSimpArgs false
open Go.RowKit

set_option maxHeartbeats 1000000 in
theorem allDig_none (a : Option Addr) (cap : Nat) (w : World) :
    Calls Tryd.prog 39 #[.slice a 0 cap] w fun e w' => e = .returned (.bool true) ∧ w = w' := by
  go_enter Tryd.func39, Tryd.ntmps39
  go_wp2_with fail
  refine wp_loop_rounds 1 ?_
  rw [rounds_succ]
  go_wp2_with fail
  go_ret
  exact ⟨rfl, rfl⟩

set_option maxHeartbeats 1000000 in
theorem allDig_some (l : List ByteArray) (b off cap : Nat) (w : World) (h0 : 0 < l.length) (hm : l.length ≤ maxLen)
    (hc : ∀ i (h : i < l.length), w.cell? ⟨b, off + i, none⟩ = some (.string l[i])) :
    Calls Tryd.prog 39 #[.slice (some ⟨b, off, none⟩) l.length cap] w fun e w' => e = .returned (.bool (l.all digB)) ∧ w = w' := by
  unfold maxLen at hm
  go_enter Tryd.func39, Tryd.ntmps39
  go_wp2_with fail
  go_loop [7] (fun i => ∃ k : Nat, k ≤ l.length ∧ i = .int .i64 k ∧ Hid ((l.take k).all digB = true)) (fun i => l.length - (intOf i).toNat)
  case atStart => exact ⟨0, by omega, rfl, Lib.hid (by simp)⟩
  case round =>
    obtain ⟨k, hk, rfl, Hall⟩ := hrel
    by_cases hlt : k < l.length
    · have hck := hc k hlt
      have Hs := Lib.hid (all_snoc digB l k hlt)
      have Hf := Lib.hid (all_false digB l k hlt)
      clear hc
      cases hd : digB l[k] with
      | true =>
        have Hd := Lib.hid hd
        have Hd' := Lib.hid (show isDig (bl l[k]) = true from hd)
        clear hd
        go_wp2_with fail
        refine (is_any l[k] _).mono ?_
        rintro e w1 ⟨rfl, rfl⟩
        rw [Hd'.out]
        go_wp2_with fail
        go_round
        case rel => exact ⟨k + 1, by omega, by go_num, Lib.hid (by rw [Hs.out, Hall.out, Hd.out]; rfl)⟩
        case measure => simp [intOf]; omega
      | false =>
        have HF := Lib.hid (Hf.out hd)
        have Hd' := Lib.hid (show isDig (bl l[k]) = false from hd)
        clear hd
        go_wp2_with fail
        refine (is_any l[k] _).mono ?_
        rintro e w1 ⟨rfl, rfl⟩
        rw [Hd'.out]
        go_wp2_with fail
        go_ret
        rw [HF.out]
        exact ⟨rfl, rfl⟩
    · obtain rfl : k = l.length := by omega
      rw [List.take_length] at Hall
      clear hc
      go_wp2_with fail
      go_ret
      rw [Hall.out]
      exact ⟨rfl, rfl⟩

theorem allDig_any (v : Value) (l : List ByteArray) (w : World) (hl : StrSl w v l) :
    Calls Tryd.prog 39 #[v] w fun e w' => e = .returned (.bool (l.all digB)) ∧ w = w' := by
  rcases hl with ⟨rfl, a, cap, rfl⟩ | ⟨b, off, cap, rfl, h0, hb, hm, hc⟩
  · exact allDig_none a cap w
  · exact allDig_some l b off cap w h0 (capLen hm) hc

theorem pow_wrap (h : Nat) (hh : h ≤ 8) : wrap64 ((2 : Int) ^ h) = ((2 ^ h : Nat) : Int) := by
  have k : ∀ k : Fin 9, wrap64 ((2 : Int) ^ k.val) = ((2 ^ k.val : Nat) : Int) := by decide +kernel
  exact k ⟨h, by omega⟩
theorem pow_le (h : Nat) (hh : h ≤ 8) : 2 ^ h ≤ 256 := Nat.pow_le_pow_right (by decide) hh

set_option maxRecDepth 100000 in
set_option maxHeartbeats 1000000 in
theorem leaves_any (s : ByteArray) (hs : s.size ≤ 1000) (h : Nat) (hh : h ≤ 8) (w : World) (ht : Tab w) :
    Calls Tryd.prog 28 #[.string s, .int .i64 (h : Int)] w (RetOwn w (leavesB s h)) := by
  have Hw := Lib.hid (pow_wrap h hh)
  have hle := pow_le h hh
  have Hd := Lib.hid (show leavesB s h = (List.range (2 ^ h)).map (keyL s) from rfl)
  go_enter Tryd.func28, Tryd.ntmps28
  go_wp2_with fail
  rw [Hw.out]
  generalize 2 ^ h = n at *
  go_loopw [5, 9] (fun v c wr => ∃ k : Nat, k ≤ n ∧ c = .int .i64 (k : Int) ∧ OwnStr wr w.heap.size v ((List.range k).map (keyL s)) ∧ Below w.heap.size w wr) (fun _ c _ => n - (intOf c).toNat)
  case atStart => exact ⟨0, by omega, rfl, OwnStr.nil _ _, Below.refl _ _⟩
  case round =>
    obtain ⟨k, hk, rfl, own, hb⟩ := hrel
    by_cases hlt : k < n
    · have Hn := Lib.hid (snoc_map_range (keyL s) k)
      have hlen : ((List.range k).map (keyL s)).length = k := by simp
      go_wp2_with (first
        | (go_at_call 55; refine (key_any s hs k (by omega) _ (ht.below hb)).mono ?_; rintro e w1 ⟨rfl, hb1'⟩; have hb1 := hb.trans (hb1'.mono hb.size); have own1 := own.below hb1')
        | (at_builtin; refine list_app _ (by rfl) _ _ rfl w.heap.size _ _ _ [keyL s k] rfl rfl (own1.ofAlloc _) (sl1' _ w1) (by rw [hlen, List.length_singleton]; omega) (by have := hb1.size; simp; omega) ?_; intro v2 w2 own2 grow2 at2; have hb2 := below_grow' (own1.ofAlloc _) (hb1.alloc hb1.size _) grow2))
      go_roundw
      case rel => exact ⟨k + 1, by omega, by go_num, by rw [Hn.out]; exact own2, hb2⟩
      case measure => simp [intOf]; omega
    · obtain rfl : k = n := by omega
      go_wp2_with fail
      go_ret
      rw [Hd.out]
      exact ⟨_, rfl, own, hb⟩

/-- the public key -/
def pubB (s : ByteArray) (h : Nat) : ByteArray := rootB (leavesB s h)
theorem pubB_dig (s : ByteArray) (h : Nat) : digB (pubB s h) = true := rootB_dig _ (leavesB_dig s h)

theorem Public_no (s : ByteArray) (h : Int) (hh : okH h = false) (w : World) :
    Calls Tryd.prog 13 #[.string s, .int .i64 h] w fun e w' => e = .returned (.tuple #[.string ⟨#[]⟩, .int .i64 1]) ∧ w = w' := by
  have Hh := Lib.hid hh
  clear hh
  go_enter Tryd.func13, Tryd.ntmps13
  go_wp2_with fail
  refine (isHeight_any h _).mono ?_
  rintro e w1 ⟨rfl, rfl⟩
  rw [Hh.out]
  go_wp2_with fail
  go_ret2
  exact ⟨rfl, rfl⟩

theorem Public_yes (s : ByteArray) (hs : s.size ≤ 1000) (h : Nat) (hh : h ≤ 8) (w : World) (ht : Tab w) :
    Calls Tryd.prog 13 #[.string s, .int .i64 (h : Int)] w fun e w' => e = .returned (.tuple #[.string (pubB s h), .int .i64 0]) ∧ Below w.heap.size w w' := by
  have Hh := Lib.hid (show okH (h : Int) = true from decide_eq_true (by omega))
  have Hp := Lib.hid (show rootB (leavesB s h) = pubB s h from rfl)
  have Hd := Lib.hid (leavesB_dig s h)
  go_enter Tryd.func13, Tryd.ntmps13
  go_wp2_with fail
  refine (isHeight_any h _).mono ?_
  rintro e w1 ⟨rfl, rfl⟩
  rw [Hh.out]
  go_wp2_with fail
  refine (leaves_any s hs h hh _ ht).mono ?_
  rintro e w1 ⟨v, rfl, own, hb1⟩
  go_wp2_with fail
  refine (Root_yes v _ Hd.out _ (ht.below hb1) own.sl).mono ?_
  rintro e w2 ⟨rfl, hb2⟩
  rw [Hp.out]
  go_wp2_with fail
  go_ret2
  exact ⟨rfl, hb1.trans (hb2.mono hb1.size)⟩

end Go.Proofs.YtohhkgnddeeomaaDoor.Dig
