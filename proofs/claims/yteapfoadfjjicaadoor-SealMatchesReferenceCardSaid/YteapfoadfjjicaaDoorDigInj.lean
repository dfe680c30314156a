/- Different short texts, and texts that differ in one block, have different digests: plain. -/
import Derived.Test.YteapfoadfjjicaaDoorDigMath
namespace Go.Proofs.YteapfoadfjjicaaDoor.Dig
set_option linter.unusedVariables false
set_option linter.unusedSimpArgs false

theorem xor_cancel (a x y : Nat) (h : a ^^^ x = a ^^^ y) : x = y := by
  have h2 : a ^^^ (a ^^^ x) = a ^^^ (a ^^^ y) := by rw [h]
  rw [← Nat.xor_assoc, ← Nat.xor_assoc, Nat.xor_self, Nat.zero_xor, Nat.zero_xor] at h2
  exact h2

theorem xor_cancel' (a x y : Nat) (h : x ^^^ a = y ^^^ a) : x = y := by
  rw [Nat.xor_comm x, Nat.xor_comm y] at h
  exact xor_cancel a x y h

theorem getD_ext (l m : List UInt8) (hl : l.length = m.length) (h : ∀ i, i < l.length → l.getD i 0 = m.getD i 0) : l = m := by
  apply List.ext_getElem hl
  intro i h1 h2
  have := h i h1
  simpa [h1, h2] using this

theorem getD_far (l : List UInt8) (i : Nat) (h : l.length ≤ i) : l.getD i 0 = 0 := by simp [h]

theorem byteAt_inj {l m : List UInt8} {i : Nat} (h : byteAt l i = byteAt m i) : l.getD i 0 = m.getD i 0 := UInt8.toNat_inj.1 h

/-- from a later state back to an earlier one -/
theorem stN_back (l m : List UInt8) (hl : l.length < 18446744073709551616) (hm : m.length < 18446744073709551616) (p : Nat) : ∀ j, stN l (p + j) = stN m (p + j) → (∀ k, p ≤ k → k < p + j → blk l k = blk m k) → stN l p = stN m p
  | 0, h, _ => h
  | j + 1, h, hb => by
    have h1 : stN l (p + j) ^^^ blk l (p + j) = stN m (p + j) ^^^ blk m (p + j) := mixN_inj _ _ (Nat.xor_lt_two_pow (n := 64) (stN_lt l hl _) (blk_lt l _)) (Nat.xor_lt_two_pow (n := 64) (stN_lt m hm _) (blk_lt m _)) h
    rw [hb (p + j) (by omega) (by omega)] at h1
    exact stN_back l m hl hm p j (xor_cancel' _ _ _ h1) (fun k h2 h3 => hb k h2 (by omega))

/-- equal beginnings have equal states -/
theorem stN_same (l m : List UInt8) (hlen : l.length = m.length) : ∀ p, (∀ k, k < p → blk l k = blk m k) → stN l p = stN m p
  | 0, _ => by rw [stN, stN, hlen]
  | p + 1, h => by rw [stN, stN, stN_same l m hlen p (fun k hk => h k (by omega)), h p (by omega)]

theorem dsum_block (l m : List UInt8) (hlen : l.length = m.length) (hlt : l.length < 18446744073709551616) (p : Nat) (hp : p ≤ l.length / 8)
    (hag : ∀ i, (i < 8 * p ∨ 8 * p + 8 ≤ i) → l.getD i 0 = m.getD i 0) (h : dsum l = dsum m) : l = m := by
  have hm : m.length < 18446744073709551616 := by omega
  have hbk : ∀ k, k ≠ p → blk l k = blk m k := fun k hk => numTo_congr l m _ _ 8 fun i hi => by
    unfold byteAt
    rw [hag (8 * k + i) (by omega)]
  have h1 := hexN_inj _ _ (stN_lt l hlt _) (stN_lt m hm _) h
  rw [← hlen] at h1
  obtain ⟨j, hj⟩ : ∃ j, l.length / 8 + 1 = p + 1 + j := ⟨l.length / 8 - p, by omega⟩
  rw [hj] at h1
  have h2 := stN_back l m hlt hm (p + 1) j h1 (fun k h3 _ => hbk k (by omega))
  have h3 := mixN_inj _ _ (Nat.xor_lt_two_pow (n := 64) (stN_lt l hlt _) (blk_lt l _)) (Nat.xor_lt_two_pow (n := 64) (stN_lt m hm _) (blk_lt m _)) h2
  rw [stN_same l m hlen p (fun k hk => hbk k (by omega))] at h3
  have h4 := xor_cancel _ _ _ h3
  have h5 := numTo_inj l m (8 * p) 8 h4
  apply getD_ext l m hlen
  intro i _
  by_cases hi : i < 8 * p ∨ 8 * p + 8 ≤ i
  · exact hag i hi
  · have h6 := h5 (i - 8 * p) (by omega)
    rw [show 8 * p + (i - 8 * p) = i by omega] at h6
    exact byteAt_inj h6

theorem dsum_short (l m : List UInt8) (hl : l.length ≤ 7) (hm : m.length ≤ 7) (h : dsum l = dsum m) : l = m := by
  have hl' : l.length < 18446744073709551616 := by omega
  have hm' : m.length < 18446744073709551616 := by omega
  have h1 := hexN_inj _ _ (stN_lt l hl' _) (stN_lt m hm' _) h
  rw [show l.length / 8 + 1 = 1 by omega, show m.length / 8 + 1 = 1 by omega] at h1
  have h2 := mixN_inj _ _ (Nat.xor_lt_two_pow (n := 64) (stN_lt l hl' _) (blk_lt l _)) (Nat.xor_lt_two_pow (n := 64) (stN_lt m hm' _) (blk_lt m _)) h1
  rw [stN, stN, Nat.xor_assoc, Nat.xor_assoc] at h2
  have h3 := xor_cancel _ _ _ h2
  have low : ∀ x : List UInt8, x.length ≤ 7 → blk x 0 % 2 ^ 8 = 0 := fun x hx => by
    have h7 : byteAt x (8 * 0 + 7) = 0 := by
      unfold byteAt
      rw [getD_far _ _ (by omega)]
      rfl
    rw [blk, numTo, h7]
    omega
  have h4 := congrArg (· % 2 ^ 8) h3
  simp only [Nat.xor_mod_two_pow, low l hl, low m hm, Nat.xor_zero] at h4
  have hlen : l.length = m.length := by omega
  exact dsum_block l m hlen hl' 0 (by omega) (fun i hi => by
    rw [getD_far _ _ (by omega), getD_far _ _ (by omega)]) h

end Go.Proofs.YteapfoadfjjicaaDoor.Dig
