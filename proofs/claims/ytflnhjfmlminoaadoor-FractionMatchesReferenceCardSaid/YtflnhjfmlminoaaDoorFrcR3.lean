/- Walks over layer 5's reference: less. -/
import Derived.Test.YtflnhjfmlminoaaDoorFrcR2
namespace Go.Proofs.YtflnhjfmlminoaaDoor.Fr
set_option linter.unusedVariables false
set_option linter.unusedSimpArgs false
open Go.RowKit

theorem IntSl.shape {w : World} {v : Value} {l : List Nat} (h : IntSl w v l) : ∃ a cap, v = .slice a l.length cap := by
  rcases h with ⟨rfl, a, cap, rfl⟩ | ⟨b, off, cap, rfl, _⟩
  · exact ⟨a, cap, rfl⟩
  · exact ⟨_, _, rfl⟩
theorem lt_of_len {m n : Nat} (h : (bin m).length < (bin n).length) : m < n := by
  have hn : n ≠ 0 := by rintro rfl; rw [bin_zero] at h; simp at h
  have h1 := bin_ge n hn
  have h2 := bin_lt m
  have h3 : 2 ^ (bin m).length ≤ 2 ^ ((bin n).length - 1) := Nat.pow_le_pow_right (by decide) (by omega)
  omega
theorem div_step (m j : Nat) : m / 2 ^ j = 2 * (m / 2 ^ (j + 1)) + m / 2 ^ j % 2 := by
  rw [Nat.pow_succ, ← Nat.div_div_eq_div_mul]
  omega
theorem div_top (m : Nat) : m / 2 ^ (bin m).length = 0 := Nat.div_eq_of_lt (bin_lt m)

set_option maxHeartbeats 400000 in
theorem less_len (a1 a2 : Option Addr) (n m c1 c2 : Nat) (hn : n ≤ 100000) (hm : m ≤ 100000) (h : n ≠ m) (w : World) :
    Calls Tryd.prog 38 #[.slice a1 n c1, .slice a2 m c2] w fun e w' => e = .returned (.bool (decide (n < m))) ∧ w = w' := by
  have hd : ¬ (n : Int) = (m : Int) := by omega
  go_enter Tryd.func38, Tryd.ntmps38
  go_wp2_with fail
  go_ret
  exact ⟨rfl, rfl⟩
set_option maxHeartbeats 400000 in
theorem less_none (a1 a2 : Option Addr) (c1 c2 : Nat) (w : World) :
    Calls Tryd.prog 38 #[.slice a1 0 c1, .slice a2 0 c2] w fun e w' => e = .returned (.bool false) ∧ w = w' := by
  go_enter Tryd.func38, Tryd.ntmps38
  go_wp2_with fail
  refine wp_loop_rounds 1 ?_
  rw [rounds_succ]
  go_wp2_with fail
  go_ret
  exact ⟨rfl, rfl⟩

set_option maxRecDepth 100000 in
set_option maxHeartbeats 1000000 in
theorem less_same (b off cap b2 off2 cap2 m n L : Nat) (hL : L ≤ 100000) (hm : (bin m).length = L) (hn : (bin n).length = L) (w : World) (hb : b < w.heap.size) (hb2 : b2 < w.heap.size)
    (hc : ∀ i (h : i < (bin m).length), w.cell? ⟨b, off + i, none⟩ = some (ival (bin m)[i])) (hc2 : ∀ i (h : i < (bin n).length), w.cell? ⟨b2, off2 + i, none⟩ = some (ival (bin n)[i])) (hcap : L ≤ cap ∧ cap ≤ maxLen) (hcap2 : L ≤ cap2 ∧ cap2 ≤ maxLen) :
    Calls Tryd.prog 38 #[.slice (some ⟨b, off, none⟩) L cap, .slice (some ⟨b2, off2, none⟩) L cap2] w fun e w' => e = .returned (.bool (decide (m < n))) ∧ Below w.heap.size w w' := by
  have Hc := Lib.hid hc
  have Hc2 := Lib.hid hc2
  have Hm := Lib.hid hm
  have Hn := Lib.hid hn
  have H0 := Lib.hid (show m / 2 ^ L = n / 2 ^ L by rw [← hm, div_top, hm, ← hn, div_top])
  unfold maxLen at hcap hcap2
  clear hc hc2 hm hn
  go_enter Tryd.func38, Tryd.ntmps38
  go_wp2_with fail
  go_loopw [5] (fun i wr => ∃ k : Nat, k ≤ L ∧ i = .int .i64 ((k : Int) - 1) ∧ Below w.heap.size w wr ∧ Hid (m / 2 ^ k = n / 2 ^ k)) (fun i _ => (intOf i + 1).toNat)
  case atStart => exact ⟨L, by omega, by go_num, Below.refl _ _, H0⟩
  case round =>
    obtain ⟨k, hk, rfl, hbel, He⟩ := hrel
    by_cases hlt : 0 < k
    · obtain ⟨j, rfl⟩ : ∃ j, k = j + 1 := ⟨k - 1, by omega⟩
      have g1 : j < (bin m).length := by rw [Hm.out]; omega
      have g2 : j < (bin n).length := by rw [Hn.out]; omega
      have hcj : wr.cell? ⟨b, off + j, none⟩ = some (ival (bin m)[j]) := (hbel.cell (p := ⟨b, off + j, none⟩) hb).trans (Hc.out j g1)
      have hcj2 : wr.cell? ⟨b2, off2 + j, none⟩ = some (ival (bin n)[j]) := (hbel.cell (p := ⟨b2, off2 + j, none⟩) hb2).trans (Hc2.out j g2)
      unfold ival at hcj hcj2
      rw [bin_get] at hcj hcj2
      obtain ⟨x, hx⟩ : ∃ x, m / 2 ^ j % 2 = x := ⟨_, rfl⟩
      obtain ⟨y, hy⟩ : ∃ y, n / 2 ^ j % 2 = y := ⟨_, rfl⟩
      have Hx := Lib.hid hx
      have Hy := Lib.hid hy
      rw [hx] at hcj
      rw [hy] at hcj2
      clear hx hy g1 g2
      by_cases hxy : x = y
      · subst hxy
        go_wp2_with fail
        go_quiet (fail)
        go_wp2_with fail
        go_roundw
        case rel => exact ⟨j, by omega, by go_num, hbel.trans ((below_drewN _ _ _).mono hbel.size), Lib.hid (by rw [div_step m j, div_step n j, He.out, Hx.out, Hy.out])⟩
        case measure => simp [intOf] <;> omega
      · have hxy2 : ¬ (x : Int) = (y : Int) := by omega
        have Hr := Lib.hid (show decide (x < y) = decide (m < n) from decide_eq_decide.2 (by
          have e1 := div_step m j
          have e2 := div_step n j
          rw [He.out, Hx.out] at e1
          rw [Hy.out] at e2
          constructor
          · intro h
            exact Nat.lt_of_div_lt_div (show m / 2 ^ j < n / 2 ^ j by omega)
          · intro h
            have := Nat.div_le_div_right (c := 2 ^ j) (Nat.le_of_lt h)
            omega))
        go_wp2_with fail
        go_quiet (fail)
        go_wp2_with fail
        go_quiet (fail)
        go_wp2_with fail
        go_ret
        rw [Hr.out]
        exact ⟨rfl, hbel.trans (((below_drewN _ _ _).trans (below_drewN _ _ _)).mono hbel.size)⟩
    · obtain rfl : k = 0 := by omega
      have Hr := Lib.hid (show decide (m < n) = false by
        have := He.out
        simp at this
        simp [this])
      go_wp2_with fail
      go_ret
      rw [Hr.out]
      exact ⟨rfl, hbel⟩

theorem less_any (v u : Value) (m n : Nat) (hm : (bin m).length ≤ 100000) (hn : (bin n).length ≤ 100000) (w : World) (hv : IntSl w v (bin m)) (hu : IntSl w u (bin n)) :
    Calls Tryd.prog 38 #[v, u] w fun e w' => e = .returned (.bool (decide (m < n))) ∧ Below w.heap.size w w' := by
  by_cases hl : (bin m).length = (bin n).length
  · rcases hv with ⟨h0, a, cap, rfl⟩ | ⟨b, off, cap, rfl, h0, hb, hcap, hc⟩
    · obtain ⟨a2, cap2, rfl⟩ := hu.shape
      rw [h0] at hl
      rw [← hl]
      have e1 := bin_nil.1 h0
      have e2 := bin_nil.1 (List.eq_nil_of_length_eq_zero hl.symm)
      subst e1 e2
      exact (less_none a a2 cap cap2 w).mono fun e w' ⟨he, hw⟩ => ⟨by rw [he]; rfl, hw ▸ Below.refl _ _⟩
    · rcases hu with ⟨h1, _⟩ | ⟨b2, off2, cap2, rfl, h2, hb2, hcap2, hc2⟩
      · rw [h1] at hl; rw [hl] at h0; simp at h0
      · rw [hl] at hcap
        have := less_same b off cap b2 off2 cap2 m n (bin n).length hn hl rfl w hb hb2 hc hc2 hcap hcap2
        rw [hl]
        exact this
  · obtain ⟨a1, c1, rfl⟩ := hv.shape
    obtain ⟨a2, c2, rfl⟩ := hu.shape
    refine (less_len a1 a2 _ _ c1 c2 hm hn hl w).mono ?_
    rintro e w' ⟨rfl, rfl⟩
    refine ⟨?_, Below.refl _ _⟩
    congr 2
    rw [decide_eq_decide]
    constructor
    · exact lt_of_len
    · intro h
      rcases Nat.lt_or_ge (bin n).length (bin m).length with h2 | h2
      · have := lt_of_len h2; omega
      · omega

end Go.Proofs.YtflnhjfmlminoaaDoor.Fr
