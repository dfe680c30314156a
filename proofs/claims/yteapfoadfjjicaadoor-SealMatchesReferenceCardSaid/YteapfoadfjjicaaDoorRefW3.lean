/- Walks over package gazetteerref01: Digit, Is, Same. -/
import Derived.Test.YteapfoadfjjicaaDoorRefW2
import Derived.Deep.QuietTactic
import Derived.BigQuiet
namespace Go.Proofs.YteapfoadfjjicaaDoor.Dig
set_option linter.unusedVariables false
set_option linter.unusedSimpArgs false
open Go.RowKit

theorem isHex_iff (c : UInt8) : isHex c = true ↔ ((48 ≤ (c.toNat : Int) ∧ (c.toNat : Int) ≤ 57) ∨ (97 ≤ (c.toNat : Int) ∧ (c.toNat : Int) ≤ 102)) := by
  unfold isHex
  simp only [Bool.or_eq_true, Bool.and_eq_true, decide_eq_true_eq]
  omega

set_option maxHeartbeats 400000 in
theorem digit_yes (c : UInt8) (h : isHex c = true) (w : World) :
    Calls Tryd.prog 92 #[.int .u8 (c.toNat : Int)] w fun e w' => (∃ n : Int, e = .returned (.int .i64 n) ∧ 0 ≤ n) ∧ w = w' := by
  rw [isHex_iff] at h
  have hc := UInt8.toNat_lt c
  generalize (c.toNat : Int) = x at *
  rcases h with ⟨h1, h2⟩ | ⟨h1, h2⟩
  · go_enter Tryd.func92, Tryd.ntmps92
    go_wp2
    go_ret
    exact ⟨⟨_, rfl, by omega⟩, rfl⟩
  · have h3 : ¬ x ≤ 57 := by omega
    go_enter Tryd.func92, Tryd.ntmps92
    go_wp2
    go_ret
    exact ⟨⟨_, rfl, by omega⟩, rfl⟩

set_option maxHeartbeats 400000 in
theorem digit_no (c : UInt8) (h : isHex c = false) (w : World) :
    Calls Tryd.prog 92 #[.int .u8 (c.toNat : Int)] w fun e w' => e = .returned (.int .i64 (-1)) ∧ w = w' := by
  have h0 : ¬ ((48 ≤ (c.toNat : Int) ∧ (c.toNat : Int) ≤ 57) ∨ (97 ≤ (c.toNat : Int) ∧ (c.toNat : Int) ≤ 102)) := by
    rw [← isHex_iff, h]
    simp
  have hc0 : (0 : Int) ≤ (c.toNat : Int) := by omega
  have hc := UInt8.toNat_lt c
  have hc1 : (c.toNat : Int) ≤ 255 := by omega
  clear hc h
  generalize (c.toNat : Int) = x at *
  by_cases h1 : x < 48
  · have h2 : ¬ 97 ≤ x := by omega
    clear h0
    go_enter Tryd.func92, Tryd.ntmps92
    go_wp2
    go_ret
    exact ⟨rfl, rfl⟩
  · have h2 : 57 < x := by omega
    by_cases h3 : x < 97
    · clear h0
      go_enter Tryd.func92, Tryd.ntmps92
      go_wp2
      go_ret
      exact ⟨rfl, rfl⟩
    · have h4 : 102 < x := by omega
      clear h0
      go_enter Tryd.func92, Tryd.ntmps92
      go_wp2
      go_ret
      exact ⟨rfl, rfl⟩

theorem ret_size16 (s : ByteArray) : Ending.returned (.bool ((s.size : Int) == 16)) = .returned (.bool (decide (s.size = 16))) := by
  have h : ((s.size : Int) == 16) = decide (s.size = 16) := by
    rw [Bool.eq_iff_iff]
    simp
    omega
  rw [h]

set_option maxHeartbeats 1000000 in
theorem ris_any (s : ByteArray) (hs : s.size ≤ 4611686018427387904) (w : World) :
    Calls Tryd.prog 62 #[.string s] w fun e w' => e = .returned (.bool (isDig (bl s))) ∧ w = w' := by
  have hl : s.size = (bl s).length := Lib.size_eq s
  have Hl := Lib.hid hl
  clear hl
  go_enter Tryd.func62, Tryd.ntmps62
  go_wp2_with fail
  go_loop [3] (fun i => ∃ k : Nat, k ≤ s.size ∧ k ≤ 16 ∧ i = .int .i64 k ∧ Hid (((bl s).take k).all isHex = true)) (fun i => 16 - (intOf i).toNat)
  case atStart => exact ⟨0, by omega, by omega, rfl, Lib.hid rfl⟩
  case round =>
    obtain ⟨k, hks, hk16, rfl, Hall⟩ := hrel
    by_cases hlt : k < s.size
    · by_cases h16 : k < 16
      · have hkl : k < (bl s).length := by have h := Hl.out; omega
        have Hsucc := Lib.hid (all_take_succ (bl s) k hkl)
        have Hbad := Lib.hid (all_false_of (bl s) k hkl)
        cases hx : isHex s[k] with
        | true =>
          have Hx := Lib.hid hx
          clear hx
          go_wp2_with fail
          refine (digit_yes _ Hx.out _).mono ?_
          rintro e w1 ⟨⟨n, rfl, hn⟩, rfl⟩
          go_wp2_with fail
          go_round
          case rel => exact ⟨k + 1, by omega, by omega, by go_num, Lib.hid (by rw [Hsucc.out, Hall.out, Bool.true_and]; exact Hx.out)⟩
          case measure => simp [intOf]; omega
        | false =>
          have Hx := Lib.hid hx
          clear hx
          have Hd := Lib.hid (show isDig (bl s) = false by unfold isDig; rw [Hbad.out Hx.out, Bool.and_false])
          go_wp2_with fail
          refine (digit_no _ Hx.out _).mono ?_
          rintro e w1 ⟨rfl, rfl⟩
          go_wp2_with fail
          go_ret
          rw [Hd.out]
          exact ⟨rfl, rfl⟩
      · obtain rfl : k = 16 := by omega
        have Hd := Lib.hid (show isDig (bl s) = decide (s.size = 16) by
          by_cases h : s.size = 16
          · have h2 : (bl s).all isHex = true := by
              have h3 := Hall.out
              rw [List.take_of_length_le (by have h4 := Hl.out; omega)] at h3
              exact h3
            rw [isDig_of s h true h2]
            simp [h]
          · have h4 := Hl.out
            unfold isDig
            rw [beq_eq_false_iff_ne.2 (by omega)]
            simp [h])
        go_wp2_with fail
        go_ret
        rw [Hd.out]
        exact ⟨ret_size16 s, rfl⟩
    · obtain rfl : k = s.size := by omega
      have Hd := Lib.hid (show isDig (bl s) = decide (s.size = 16) by
          by_cases h : s.size = 16
          · have h2 : (bl s).all isHex = true := by
              have h3 := Hall.out
              rw [List.take_of_length_le (by have h4 := Hl.out; omega)] at h3
              exact h3
            rw [isDig_of s h true h2]
            simp [h]
          · have h4 := Hl.out
            unfold isDig
            rw [beq_eq_false_iff_ne.2 (by omega)]
            simp [h])
      go_wp2_with fail
      go_ret
      rw [Hd.out]
      exact ⟨ret_size16 s, rfl⟩

/-- equal lists, as the program compares them -/
def sameB (l m : List ByteArray) : Bool := decide (l.map bl = m.map bl)

theorem sameB_len (l m : List ByteArray) (h : l.length ≠ m.length) : sameB l m = false := by
  unfold sameB
  simp only [decide_eq_false_iff_not]
  intro h2
  exact h (by simpa using congrArg List.length h2)

set_option maxHeartbeats 400000 in
theorem rsame_len (a a' : Option Addr) (n n' cap cap' : Nat) (h : n ≠ n') (w : World) :
    Calls Tryd.prog 57 #[.slice a n cap, .slice a' n' cap'] w fun e w' => e = .returned (.bool false) ∧ Below w.heap.size w w' := by
  have hne : ((n : Int) != (n' : Int)) = true := by simp; omega
  go_enter Tryd.func57, Tryd.ntmps57
  go_wp2_with fail
  go_ret
  exact ⟨rfl, Below.refl _ _⟩

set_option maxHeartbeats 400000 in
theorem rsame_none (a a' : Option Addr) (cap cap' : Nat) (w : World) :
    Calls Tryd.prog 57 #[.slice a 0 cap, .slice a' 0 cap'] w fun e w' => e = .returned (.bool true) ∧ Below w.heap.size w w' := by
  go_enter Tryd.func57, Tryd.ntmps57
  go_wp2_with fail
  refine wp_loop_rounds 1 ?_
  rw [rounds_succ]
  go_wp2_with fail
  go_ret
  exact ⟨rfl, Below.refl _ _⟩

theorem take_map_succ (l m : List ByteArray) (k : Nat) (hl : k < l.length) (hm : k < m.length) (h : (l.take k).map bl = (m.take k).map bl) (h2 : bl l[k] = bl m[k]) :
    (l.take (k + 1)).map bl = (m.take (k + 1)).map bl := by
  rw [List.take_succ_eq_append_getElem hl, List.take_succ_eq_append_getElem hm, List.map_append, List.map_append, h]
  simp [h2]

theorem sameB_at (l m : List ByteArray) (k : Nat) (hl : k < l.length) (hm : k < m.length) (h2 : bl l[k] ≠ bl m[k]) : sameB l m = false := by
  unfold sameB
  simp only [decide_eq_false_iff_not]
  intro h
  apply h2
  have h3 := congrArg (·[k]?) h
  simpa [hl, hm] using h3

set_option maxHeartbeats 1000000 in
theorem rsame_some (l m : List ByteArray) (hlm : l.length = m.length) (b off cap b' off' cap' : Nat) (w : World) (h0 : 0 < l.length) (hm : l.length ≤ maxLen)
    (hc : ∀ i (h : i < l.length), w.cell? ⟨b, off + i, none⟩ = some (.string l[i])) (hc' : ∀ i (h : i < m.length), w.cell? ⟨b', off' + i, none⟩ = some (.string m[i])) (hb : b < w.heap.size) (hb' : b' < w.heap.size) :
    Calls Tryd.prog 57 #[.slice (some ⟨b, off, none⟩) l.length cap, .slice (some ⟨b', off', none⟩) m.length cap'] w fun e w' => e = .returned (.bool (sameB l m)) ∧ Below w.heap.size w w' := by
  unfold maxLen at hm
  have Hlm := Lib.hid hlm
  rw [← hlm]
  clear hlm
  have hne : ((l.length : Int) != (l.length : Int)) = false := by simp
  go_enter Tryd.func57, Tryd.ntmps57
  go_wp2_with fail
  go_loopw [5] (fun i wr => ∃ k : Nat, k ≤ l.length ∧ i = .int .i64 k ∧ Hid ((l.take k).map bl = (m.take k).map bl) ∧ Below w.heap.size w wr) (fun i _ => l.length - (intOf i).toNat)
  case atStart => exact ⟨0, by omega, rfl, Lib.hid rfl, Below.refl _ _⟩
  case round =>
    obtain ⟨k, hk, rfl, Hsame, hbel⟩ := hrel
    by_cases hlt : k < l.length
    · have hlt' : k < m.length := by rw [← Hlm.out]; exact hlt
      have hck : wr.cell? ⟨b, off + k, none⟩ = some (.string l[k]) := (hbel.cell (p := ⟨b, off + k, none⟩) hb).trans (hc k hlt)
      have hck' : wr.cell? ⟨b', off' + k, none⟩ = some (.string m[k]) := (hbel.cell (p := ⟨b', off' + k, none⟩) hb').trans (hc' k hlt')
      have Hs := Lib.hid (take_map_succ l m k hlt hlt' Hsame.out)
      have Hn := Lib.hid (sameB_at l m k hlt hlt')
      have k0 : (0 : Int) ≤ (k : Int) := by omega
      have k1 : (k : Int) < (l.length : Int) := by omega
      clear hc hc'
      go_wp2_with fail
      go_quiet (fail)
      have hbel2 : Below w.heap.size w (wr.drewN nq) := hbel.trans ⟨rfl, rfl, rfl, Nat.le_refl _, fun _ _ => rfl⟩
      cases hq : (l[k].toList == m[k].toList) with
      | true =>
        have Hq := Lib.hid (show bl l[k] = bl m[k] by simpa [ByteArray.toList_eq] using hq)
        go_wp2_with fail
        go_roundw
        case rel => exact ⟨k + 1, by omega, by go_num, Lib.hid (Hs.out Hq.out), hbel2⟩
        case measure => simp [intOf]; omega
      | false =>
        have Hq := Lib.hid (show bl l[k] ≠ bl m[k] by simpa [ByteArray.toList_eq] using hq)
        go_wp2_with fail
        go_ret
        rw [Hn.out Hq.out]
        exact ⟨rfl, hbel2⟩
    · obtain rfl : k = l.length := by omega
      have HS := Lib.hid (show sameB l m = true by
        have h := Hsame.out
        rw [List.take_length, List.take_of_length_le (by rw [Hlm.out]; exact Nat.le_refl _)] at h
        unfold sameB
        simpa using h)
      clear hc hc'
      go_wp2_with fail
      go_ret
      rw [HS.out]
      exact ⟨rfl, hbel⟩

theorem rsame_any (v u : Value) (l m : List ByteArray) (w : World) (hl : StrSl w v l) (hm : StrSl w u m) :
    Calls Tryd.prog 57 #[v, u] w fun e w' => e = .returned (.bool (sameB l m)) ∧ Below w.heap.size w w' := by
  rcases hl with ⟨rfl, a, cap, rfl⟩ | ⟨b, off, cap, rfl, h0, hb, hml, hc⟩
  · rcases hm with ⟨rfl, a', cap', rfl⟩ | ⟨b', off', cap', rfl, h0', hb', hml', hc'⟩
    · exact rsame_none a a' cap cap' w
    · rw [sameB_len [] m (by simp only [List.length_nil]; omega)]
      exact rsame_len _ _ 0 m.length _ _ (by omega) w
  · rcases hm with ⟨rfl, a', cap', rfl⟩ | ⟨b', off', cap', rfl, h0', hb', hml', hc'⟩
    · rw [sameB_len l [] (by simp only [List.length_nil]; omega)]
      exact rsame_len _ _ l.length 0 _ _ (by omega) w
    · by_cases hlm : l.length = m.length
      · exact rsame_some l m hlm b off cap b' off' cap' w h0 (capLen hml) hc hc' hb hb'
      · rw [sameB_len l m hlm]
        exact rsame_len _ _ l.length m.length _ _ hlm w

end Go.Proofs.YteapfoadfjjicaaDoor.Dig
