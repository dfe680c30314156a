/- Walks over layer 3's reference: Start, Key, Keys, Leaves, Public. -/
import Derived.Test.YteapfoadfjjicaaDoorSlmT4
namespace Go.Proofs.YteapfoadfjjicaaDoor.Dig
set_option linter.unusedVariables false
set_option linter.unusedSimpArgs false
open Go.RowKit

theorem rchain_k (s : ByteArray) (hs : s.size ≤ 1000) (k : Nat) (hk : k ≤ 1000) (w : World) :
    Calls Tryd.prog 54 #[.string s, .int .i64 (k : Int)] w fun e w' => e = .returned (.string (chainB s k)) ∧ w = w' := by
  have h := rchain_any s (by omega) (k : Int) (by omega) w
  rw [chainN_small k hk] at h
  exact h

set_option maxHeartbeats 1000000 in
theorem rstart_any (s : ByteArray) (hs : s.size ≤ 1000) (i k : Nat) (hi : i ≤ 1000) (hk : k ≤ 1000) (w : World) :
    Calls Tryd.prog 55 #[.string s, .int .i64 (i : Int), .int .i64 (k : Int)] w fun e w' => e = .returned (.string (startB s i k)) ∧ Below w.heap.size w w' := by
  have Hst := Lib.hid (show lsum [s, ⟨(Lib.itoa (i : Int)).toArray⟩, ⟨(Lib.itoa (k : Int)).toArray⟩] = startB s i k from rfl)
  have hzi := decB_size i (by omega)
  have hzk := decB_size k (by omega)
  unfold decB at hzi hzk
  go_enter Tryd.func55, Tryd.ntmps55
  go_wp2_with fail
  refine (decimal_any i (by omega) w).mono ?_
  rintro e w1 ⟨rfl, rfl⟩
  go_wp2_with fail
  refine (decimal_any k (by omega) w).mono ?_
  rintro e w1 ⟨rfl, rfl⟩
  go_wp2_with fail
  refine (rlist3 s ⟨(Lib.itoa (i : Int)).toArray⟩ ⟨(Lib.itoa (k : Int)).toArray⟩ hs hzi hzk w).mono ?_
  rintro e w1 ⟨rfl, hb1⟩
  rw [Hst.out]
  go_wp2_with fail
  go_ret
  exact ⟨rfl, hb1⟩

theorem rlist_all (v : Value) (l : List ByteArray) (hs : small l) (hn : l.length ≤ 1000) (w : World) (hl : StrSl w v l) :
    Calls Tryd.prog 65 #[v] w fun e w' => e = .returned (.string (lsum l)) ∧ Below w.heap.size w w' := by
  refine rlist_any v l w hl (join_lim l hs hn) ?_
  have h1 := sumB_len' 1000 l hs
  have h2 : l.length * (1000 + 21) ≤ 1000 * (1000 + 21) := Nat.mul_le_mul_right _ hn
  omega

theorem startB_size (s : ByteArray) (i k : Nat) : (startB s i k).size ≤ 1000 := by rw [startB, lsum_size]; decide

set_option maxRecDepth 100000 in
set_option maxHeartbeats 1000000 in
theorem rkey_any (s : ByteArray) (hs : s.size ≤ 1000) (i : Nat) (hi : i ≤ 1000) (w : World) :
    Calls Tryd.prog 111 #[.string s, .int .i64 (i : Int)] w fun e w' => e = .returned (.string (lsum (endsB s i))) ∧ Below w.heap.size w w' := by
  have Hk := Lib.hid (endsK_all s i)
  go_enter Tryd.func111, Tryd.ntmps111
  go_wp2_with fail
  go_loopw [5, 6] (fun v c wr => ∃ k : Nat, k ≤ 18 ∧ c = .int .i64 (k : Int) ∧ OwnStr wr w.heap.size v (endsK s i k) ∧ Below w.heap.size w wr) (fun _ c _ => 18 - (intOf c).toNat)
  case atStart => exact ⟨0, by omega, rfl, OwnStr.nil _ _, Below.refl _ _⟩
  case round =>
    obtain ⟨k, hk, rfl, own, hb⟩ := hrel
    by_cases hlt18 : k < 18
    · have Hn := Lib.hid (endsK_succ s i k)
      have hlen := endsK_len s i k
      have HC : Hid (∀ w : World, Calls Tryd.prog 54 #[.string (startB s i k), .int .i64 15] w fun e w' => e = .returned (.string (chainB (startB s i k) 15)) ∧ w = w') := Lib.hid (fun w => rchain_k (startB s i k) (startB_size s i k) 15 (by decide) w)
      have HS : Hid (∀ w : World, Calls Tryd.prog 55 #[.string s, .int .i64 (i : Int), .int .i64 (k : Int)] w fun e w' => e = .returned (.string (startB s i k)) ∧ Below w.heap.size w w') := Lib.hid (fun w => rstart_any s hs i k hi (by omega) w)
      generalize chainB (startB s i k) 15 = X at *
      generalize startB s i k = Y at *
      go_wp2_with (first
        | (go_at_call 55; refine (HS.out _).mono ?_; rintro e w1 ⟨rfl, hb1'⟩; have hb1 := hb.trans (hb1'.mono hb.size); have own1 := own.below hb1')
        | (go_at_call 54; refine (HC.out _).mono ?_; rintro e w2 ⟨rfl, rfl⟩)
        | (at_builtin; refine list_app _ (by rfl) _ _ rfl w.heap.size _ _ _ [X] rfl rfl (own1.ofAlloc _) (sl1' _ w1) (by rw [hlen, List.length_singleton]; omega) (by have := hb1.size; simp; omega) ?_; intro v2 w2 own2 grow2 at2; have hb2 := below_grow' (own1.ofAlloc _) (hb1.alloc hb1.size _) grow2))
      go_roundw
      case rel => exact ⟨k + 1, by omega, by go_num, by rw [Hn.out]; exact own2, hb2⟩
      case measure => simp [intOf]; omega
    · obtain rfl : k = 18 := by omega
      rw [Hk.out] at own
      go_wp2_with fail
      refine (rlist_all _ _ (ends_small s i) (by rw [endsB_len]; decide) _ own.sl).mono ?_
      rintro e w1 ⟨rfl, hb1⟩
      go_wp2_with fail
      go_ret
      exact ⟨rfl, hb.trans (hb1.mono hb.size)⟩

/-- the keys, before they are leaves -/
def rkeysB (s : ByteArray) (n : Nat) : List ByteArray := (List.range n).map fun i => lsum (endsB s i)
theorem rkeysB_succ (s : ByteArray) (n : Nat) : rkeysB s (n + 1) = rkeysB s n ++ [lsum (endsB s n)] := snoc_map_range _ _
theorem rkeysB_len (s : ByteArray) (n : Nat) : (rkeysB s n).length = n := by simp [rkeysB]
theorem rkeysB_get (s : ByteArray) (n k : Nat) (h : k < (rkeysB s n).length) : (rkeysB s n)[k] = lsum (endsB s k) := by simp [rkeysB]

set_option maxRecDepth 100000 in
set_option maxHeartbeats 1000000 in
theorem rkeys_any (s : ByteArray) (hs : s.size ≤ 1000) (h : Nat) (hh : h ≤ 8) (w : World) :
    Calls Tryd.prog 85 #[.string s, .int .i64 (h : Int)] w (RetOwn w (rkeysB s (2 ^ h))) := by
  have hle := pow_le h hh
  have HP := Lib.hid (fun w => Power_any h hh w)
  go_enter Tryd.func85, Tryd.ntmps85
  go_wp2_with fail
  generalize 2 ^ h = n at *
  go_loopw [5, 6] (fun v c wr => ∃ k : Nat, k ≤ n ∧ c = .int .i64 (k : Int) ∧ OwnStr wr w.heap.size v (rkeysB s k) ∧ Below w.heap.size w wr) (fun _ c _ => n - (intOf c).toNat)
  case atStart => exact ⟨0, by omega, rfl, OwnStr.nil _ _, Below.refl _ _⟩
  case round =>
    obtain ⟨k, hk, rfl, own, hb⟩ := hrel
    by_cases hlt : k < n
    · have Hn := Lib.hid (rkeysB_succ s k)
      have hlen := rkeysB_len s k
      go_wp2_with fail
      refine (HP.out _).mono ?_
      rintro e w0 ⟨rfl, rfl⟩
      go_wp2_with (first
        | (go_at_call 111; refine (rkey_any s hs k (by omega) _).mono ?_; rintro e w1 ⟨rfl, hb1'⟩; have hb1 := hb.trans (hb1'.mono hb.size); have own1 := own.below hb1')
        | (at_builtin; refine list_app _ (by rfl) _ _ rfl w.heap.size _ _ _ [lsum (endsB s k)] rfl rfl (own1.ofAlloc _) (sl1' _ w1) (by rw [hlen, List.length_singleton]; omega) (by have := hb1.size; simp; omega) ?_; intro v2 w2 own2 grow2 at2; have hb2 := below_grow' (own1.ofAlloc _) (hb1.alloc hb1.size _) grow2))
      go_roundw
      case rel => exact ⟨k + 1, by omega, by go_num, by rw [Hn.out]; exact own2, hb2⟩
      case measure => simp [intOf]; omega
    · obtain rfl : k = n := by omega
      go_wp2_with fail
      refine (HP.out _).mono ?_
      rintro e w0 ⟨rfl, rfl⟩
      go_wp2_with fail
      go_ret
      exact ⟨_, rfl, own, hb⟩

theorem keyL_eq (s : ByteArray) (k : Nat) : leafB (lsum (endsB s k)) = keyL s k := rfl

set_option maxRecDepth 100000 in
set_option maxHeartbeats 1000000 in
theorem rleaves_any (s : ByteArray) (hs : s.size ≤ 1000) (h : Nat) (hh : h ≤ 8) (w : World) :
    Calls Tryd.prog 48 #[.string s, .int .i64 (h : Int)] w (RetOwn w (leavesB s h)) := by
  have hle := pow_le h hh
  have Hd := Lib.hid (show leavesB s h = levI s (2 ^ h) from rfl)
  have HK := Lib.hid (rkeys_any s hs h hh w)
  rw [Hd.out]
  clear Hd
  go_enter Tryd.func48, Tryd.ntmps48
  go_wp2_with fail
  refine HK.out.mono ?_
  clear HK
  generalize 2 ^ h = n at *
  rintro e w1 ⟨vk, rfl, ownk, hb1⟩
  obtain ⟨a, c, rfl, hm1, G⟩ := ownk.sl.any
  have G := Lib.hid G
  have hkl := rkeysB_len s n
  clear ownk
  go_wp2_with fail
  go_loopw [6, 7] (fun v c wr => ∃ k : Nat, k ≤ n ∧ c = .int .i64 (k : Int) ∧ OwnStr wr w1.heap.size v (levI s k) ∧ Below w1.heap.size w1 wr) (fun _ c _ => n - (intOf c).toNat)
  case atStart => exact ⟨0, by omega, rfl, OwnStr.nil _ _, Below.refl _ _⟩
  case round =>
    obtain ⟨k, hk, rfl, own, hb⟩ := hrel
    have hklI : ((rkeysB s n).length : Int) = (n : Int) := by omega
    by_cases hlt : k < n
    · have hks : k < (rkeysB s n).length := by omega
      obtain ⟨g1, o1, rfl, hck⟩ := G.out k hks
      have hck2 := (hb.cell (p := ⟨g1, o1 + k, none⟩) (World.block_lt_of_cell? _ _ hck)).trans hck
      rw [rkeysB_get] at hck2
      have Hn := Lib.hid (levI_succ s k)
      have hlen := levI_len s k
      have gl : (k : Int) < ((rkeysB s n).length : Int) := by omega
      have hz : (lsum (endsB s k)).size ≤ 1000 := by rw [lsum_size]; decide
      have Hle := Lib.hid (keyL_eq s k)
      have bsz := hb.size
      have hgl : g1 < wr.heap.size := Nat.lt_of_lt_of_le (World.block_lt_of_cell? _ _ hck) hb.size
      clear hck
      go_wp2_with (first
        | (go_at_call 64; refine (rleaf_any (lsum (endsB s k)) hz _).mono ?_; rintro e w2 ⟨rfl, hb2'⟩; rw [Hle.out]; have hb2 := hb.trans (hb2'.mono hb.size); have own2 := own.below hb2')
        | (at_builtin; refine list_app _ (by rfl) _ _ rfl w1.heap.size _ _ _ [keyL s k] rfl rfl (own2.ofAlloc _) (sl1' _ w2) (by rw [hlen, List.length_singleton]; omega) (by have := hb2.size; simp; omega) ?_; intro v3 w3 own3 grow3 at3; have hb3 := below_grow' (own2.ofAlloc _) (hb2.alloc hb2.size _) grow3))
      go_roundw
      case rel => exact ⟨k + 1, by omega, by go_num, by rw [Hn.out]; exact own3, hb3⟩
      case measure => simp [intOf]; omega
    · obtain rfl : k = n := by omega
      go_wp2_with fail
      go_ret
      exact ⟨_, rfl, own.mono hb1.size, hb1.trans (hb.mono hb1.size)⟩

theorem leavesB_small (s : ByteArray) (h : Nat) : small (leavesB s h) := fun x hx => by
  unfold leavesB at hx
  obtain ⟨j, _, rfl⟩ := List.mem_map.1 hx
  unfold keyL leafOf leafB
  rw [lsum_size]
  decide

theorem rPublic_no (s : ByteArray) (h : Int) (hh : okH h = false) (w : World) :
    Calls Tryd.prog 28 #[.string s, .int .i64 h] w fun e w' => e = .returned (.tuple #[.string ⟨#[]⟩, .int .i64 1]) ∧ w = w' := by
  unfold okH at hh
  simp only [decide_eq_false_iff_not] at hh
  by_cases h0 : h < 0
  · clear hh
    go_enter Tryd.func28, Tryd.ntmps28
    go_wp2_with fail
    go_ret2
    exact ⟨rfl, rfl⟩
  · have h8 : 8 < h := by omega
    clear hh
    go_enter Tryd.func28, Tryd.ntmps28
    go_wp2_with fail
    go_ret2
    exact ⟨rfl, rfl⟩

theorem rPublic_yes (s : ByteArray) (hs : s.size ≤ 1000) (h : Nat) (hh : h ≤ 8) (w : World) :
    Calls Tryd.prog 28 #[.string s, .int .i64 (h : Int)] w fun e w' => e = .returned (.tuple #[.string (pubB s h), .int .i64 0]) ∧ Below w.heap.size w w' := by
  have Hp := Lib.hid (show rootB (leavesB s h) = pubB s h from rfl)
  have Hd := Lib.hid (leavesB_dig s h)
  have Hs := Lib.hid (leavesB_small s h)
  have Hl := Lib.hid (show (leavesB s h).length ≤ 1000000 by rw [leavesB_length]; have := pow_le h hh; omega)
  have h1 : ¬ (h : Int) < 0 := by omega
  have h2 : ¬ (8 : Int) < (h : Int) := by omega
  go_enter Tryd.func28, Tryd.ntmps28
  go_wp2_with fail
  refine (rleaves_any s hs h hh _).mono ?_
  rintro e w1 ⟨v, rfl, own, hb1⟩
  go_wp2_with fail
  refine (rRoot_yes v _ Hs.out Hl.out Hd.out _ own.sl).mono ?_
  rintro e w2 ⟨rfl, hb2⟩
  rw [Hp.out]
  go_wp2_with fail
  go_ret2
  exact ⟨rfl, hb1.trans (hb2.mono hb1.size)⟩

end Go.Proofs.YteapfoadfjjicaaDoor.Dig
