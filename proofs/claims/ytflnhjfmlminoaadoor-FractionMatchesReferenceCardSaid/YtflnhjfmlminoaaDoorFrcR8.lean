/- Walks over layer 5's reference: value. -/
import Derived.Test.YtflnhjfmlminoaaDoorFrcR7
namespace Go.Proofs.YtflnhjfmlminoaaDoor.Fr
set_option linter.unusedVariables false
set_option linter.unusedSimpArgs false
open Go.RowKit

set_option maxRecDepth 100000 in
set_option maxHeartbeats 1000000 in
theorem value_hi (v : Value) (m : Nat) (hm : (bin m).length ≤ 1000) (hbig : 4611686018427387904 < m) (w : World) (hv : IntSl w v (bin m)) :
    Calls Tryd.prog 51 #[v] w fun e w' => e = .returned (.tuple #[.int .i64 0, .bool false]) ∧ Below w.heap.size w w' := by
  obtain ⟨a1, c1, rfl⟩ := hv.shape
  have Hv := Lib.hid hv
  clear hv
  have hlen0 : (bin 4611686018427387904).length ≤ 100000 := Nat.le_trans (bin_length_le (k := 64) (by decide)) (by decide)
  go_enter Tryd.func51, Tryd.ntmps51
  go_wp2_with (first
    | (go_at_call 32; refine (digits_any 4611686018427387904 (by omega) (by omega) _).mono ?_; rintro e w1 ⟨u1, rfl, hu1, hb1, _⟩)
    | (go_at_call 38; refine (less_any u1 _ 4611686018427387904 m hlen0 (by omega) _ hu1 (Hv.out.below hb1)).mono ?_; rintro e w2 ⟨rfl, hb2⟩))
  go_ret2
  exact ⟨rfl, hb1.trans (hb2.mono hb1.size)⟩

set_option maxRecDepth 100000 in
set_option maxHeartbeats 1000000 in
theorem value_lo (v : Value) (m : Nat) (hsm : m ≤ 4611686018427387904) (w : World) (hv : IntSl w v (bin m)) :
    Calls Tryd.prog 51 #[v] w fun e w' => e = .returned (.tuple #[.int .i64 (m : Int), .bool true]) ∧ Below w.heap.size w w' := by
  have hlen : (bin m).length ≤ 64 := bin_length_le (by omega)
  obtain ⟨a1, c1, rfl, hc1⟩ := hv.open_
  have Hv := Lib.hid hv
  have Hc1 := Lib.hid hc1
  have Hlen := Lib.hid hlen
  obtain ⟨L, hL⟩ : ∃ L, (bin m).length = L := ⟨_, rfl⟩
  have HL := Lib.hid hL
  rw [hL] at hlen Hv ⊢
  clear hv hc1 hL
  have hlen0 : (bin 4611686018427387904).length ≤ 100000 := Nat.le_trans (bin_length_le (k := 64) (by decide)) (by decide)
  have hnl : ¬ 4611686018427387904 < m := by omega
  go_enter Tryd.func51, Tryd.ntmps51
  go_wp2_with (first
    | (go_at_call 32; refine (digits_any 4611686018427387904 (by omega) (by omega) _).mono ?_; rintro e w1 ⟨u1, rfl, hu1, hb1, _⟩)
    | (go_at_call 38; refine (less_any u1 _ 4611686018427387904 m hlen0 (by have := Hlen.out; omega) _ hu1 (Hv.out.below hb1)).mono ?_; rintro e w2 ⟨rfl, hb2⟩))
  have Hb := Lib.hid (hb1.trans (hb2.mono hb1.size))
  clear hu1 hb1 hb2
  go_loopw [4, 5] (fun nv iv wr => ∃ k q : Nat, k ≤ L ∧ iv = .int .i64 ((k : Int) - 1) ∧ nv = .int .i64 (q : Int) ∧ Below w.heap.size w wr ∧ Hid (m / 2 ^ k = q)) (fun _ iv _ => (intOf iv + 1).toNat)
  case atStart => exact ⟨L, 0, by omega, by go_num, rfl, Hb.out, Lib.hid (by rw [← HL.out, div_top])⟩
  case round =>
    obtain ⟨k, q, hk, rfl, rfl, hb, Hq⟩ := hrel
    by_cases hx : 0 < k
    · obtain ⟨j, rfl⟩ : ∃ j, k = j + 1 := ⟨k - 1, by omega⟩
      obtain ⟨b1, o1, rfl, hb1, hcx⟩ := Hc1.out j (by rw [HL.out]; omega)
      replace hcx := (hb.cell (p := ⟨b1, o1 + j, none⟩) hb1).trans hcx
      unfold ival at hcx
      rw [bin_get] at hcx
      obtain ⟨x, hxe⟩ : ∃ x, m / 2 ^ j % 2 = x := ⟨_, rfl⟩
      have e1 := div_step m j
      rw [Hq.out, hxe] at e1
      have e2 : m / 2 ^ j ≤ m := Nat.div_le_self _ _
      have hq2 : 2 * q + x ≤ 4611686018427387904 := by omega
      have Hn := Lib.hid e1
      rw [hxe] at hcx
      clear hxe e1 e2
      go_wp2_with fail
      go_roundw
      case rel => exact ⟨j, 2 * q + x, by omega, by go_num, by go_num, hb, Hn⟩
      case measure => (try simp [intOf]) <;> omega
    · obtain rfl : k = 0 := by omega
      have e := Hq.out
      rw [Nat.pow_zero, Nat.div_one] at e
      subst e
      go_wp2_with fail
      go_ret2
      exact ⟨rfl, hb⟩

/-- what value returns -/
def vaN (m : Nat) : Nat := if m ≤ 4611686018427387904 then m else 0
theorem value_any (v : Value) (m : Nat) (hm : (bin m).length ≤ 1000) (w : World) (hv : IntSl w v (bin m)) :
    Calls Tryd.prog 51 #[v] w fun e w' => e = .returned (.tuple #[.int .i64 (vaN m : Int), .bool (decide (m ≤ 4611686018427387904))]) ∧ Below w.heap.size w w' := by
  unfold vaN
  by_cases h : m ≤ 4611686018427387904
  · rw [if_pos h, decide_eq_true h]
    exact value_lo v m h w hv
  · rw [if_neg h, decide_eq_false h]
    exact value_hi v m hm (by omega) w hv

end Go.Proofs.YtflnhjfmlminoaaDoor.Fr
