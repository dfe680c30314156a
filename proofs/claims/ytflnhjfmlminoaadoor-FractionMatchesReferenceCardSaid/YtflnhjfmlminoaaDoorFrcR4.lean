/- Walks over layer 5's reference: plus. Written by wip/tools/frplus.py. -/
import Derived.Test.YtflnhjfmlminoaaDoorFrcR3
namespace Go.Proofs.YtflnhjfmlminoaaDoor.Fr
set_option linter.unusedVariables false
set_option linter.unusedSimpArgs false
open Go.RowKit

theorem IntSl.open_ {w : World} {v : Value} {l : List Nat} (h : IntSl w v l) :
    ∃ a cap, v = .slice a l.length cap ∧ ∀ i (h : i < l.length), ∃ b off, a = some ⟨b, off, none⟩ ∧ b < w.heap.size ∧ w.cell? ⟨b, off + i, none⟩ = some (ival l[i]) := by
  rcases h with ⟨rfl, a, cap, rfl⟩ | ⟨b, off, cap, rfl, h0, hb, hm, hc⟩
  · exact ⟨a, cap, rfl, fun i h => absurd h (by simp)⟩
  · exact ⟨_, _, rfl, fun i h => ⟨b, off, rfl, hb, hc i h⟩⟩
theorem mod_step (m i : Nat) : m % 2 ^ (i + 1) = m % 2 ^ i + 2 ^ i * (m / 2 ^ i % 2) := by
  rw [Nat.pow_succ, Nat.mod_mul]
theorem plus_step {out : List Nat} {c m n i x y s t q : Nat} (hl : out.length = i) (h : bv out + 2 ^ i * c = m % 2 ^ i + n % 2 ^ i) (hx : m / 2 ^ i % 2 = x) (hy : n / 2 ^ i % 2 = y) (hs : s = c + x + y) (ht : s = t + 2 * q) :
    bv (out ++ [t]) + 2 ^ (i + 1) * q = m % 2 ^ (i + 1) + n % 2 ^ (i + 1) := by
  rw [bv_snoc, hl, mod_step, mod_step, hx, hy, Nat.pow_succ]
  have e : 2 ^ i * s = 2 ^ i * c + 2 ^ i * x + 2 ^ i * y := by rw [hs, Nat.mul_add, Nat.mul_add]
  have e2 : 2 ^ i * s = 2 ^ i * t + 2 ^ i * 2 * q := by rw [ht, Nat.mul_add, Nat.mul_assoc]
  omega
theorem ge_of_len {m i : Nat} (h : i < (bin m).length) : 2 ^ i ≤ m := by
  have hn : m ≠ 0 := by rintro rfl; rw [bin_zero] at h; simp at h
  exact Nat.le_trans (Nat.pow_le_pow_right (by decide) (by omega)) (bin_ge m hn)
theorem div_of_len {m i : Nat} (h : (bin m).length ≤ i) : m / 2 ^ i = 0 := Nat.div_eq_of_lt (Nat.lt_of_lt_of_le (bin_lt m) (Nat.pow_le_pow_right (by decide) h))
theorem mod_of_len {m i : Nat} (h : (bin m).length ≤ i) : m % 2 ^ i = m := Nat.mod_eq_of_lt (Nat.lt_of_lt_of_le (bin_lt m) (Nat.pow_le_pow_right (by decide) h))
theorem bit_of_len {m i : Nat} (h : (bin m).length ≤ i) : m / 2 ^ i % 2 = 0 := by rw [div_of_len h]
/-- what the rounds of plus keep -/
def PlusAt (m n i c : Nat) (out : List Nat) : Prop := out.length = i ∧ c ≤ 1 ∧ Bits out ∧ bv out + 2 ^ i * c = m % 2 ^ i + n % 2 ^ i ∧ (i = 0 ∨ 2 ^ (i - 1) ≤ m + n)
theorem PlusAt.next {m n i c x y t q : Nat} {out : List Nat} (h : PlusAt m n i c out) (hx : m / 2 ^ i % 2 = x) (hy : n / 2 ^ i % 2 = y) (ht : c + x + y = t + 2 * q) (ht1 : t ≤ 1) (hm : i < (bin m).length ∨ i < (bin n).length ∨ 0 < c) : PlusAt m n (i + 1) q (out ++ [t]) := by
  obtain ⟨h1, h2, h3, h4, h5⟩ := h
  refine ⟨by rw [List.length_append, h1]; rfl, by omega, h3.append (Bits.cons ht1 Bits.nil), plus_step h1 h4 hx hy rfl ht, .inr ?_⟩
  rw [Nat.add_sub_cancel]
  rcases hm with h | h | h
  · have := ge_of_len h; omega
  · have := ge_of_len h; omega
  · have e1 := Nat.mod_le m (2 ^ i)
    have e2 := Nat.mod_le n (2 ^ i)
    have e3 : 2 ^ i * 1 ≤ 2 ^ i * c := Nat.mul_le_mul_left _ h
    omega
theorem PlusAt.done {m n i : Nat} {out : List Nat} (h : PlusAt m n i 0 out) (hm : (bin m).length ≤ i) (hn : (bin n).length ≤ i) : out = bin (m + n) := by
  obtain ⟨h1, h2, h3, h4, h5⟩ := h
  rw [mod_of_len hm, mod_of_len hn] at h4
  have e : bv out = m + n := by omega
  rw [← e]
  refine canon out h3 ?_
  rw [e, h1]
  rcases h5 with h | h
  · exact .inl (List.eq_nil_of_length_eq_zero (by omega))
  · exact .inr h
theorem PlusAt.small_ {m n i c N : Nat} {out : List Nat} (h : PlusAt m n i c out) (hm : (bin m).length ≤ N) (hn : (bin n).length ≤ N) : i ≤ N + 1 := by
  obtain ⟨h1, h2, h3, h4, h5⟩ := h
  rcases h5 with h | h
  · omega
  · have e1 : m < 2 ^ N := Nat.lt_of_lt_of_le (bin_lt m) (Nat.pow_le_pow_right (by decide) hm)
    have e2 : n < 2 ^ N := Nat.lt_of_lt_of_le (bin_lt n) (Nat.pow_le_pow_right (by decide) hn)
    refine Nat.le_of_not_lt fun hk => ?_
    have e3 : 2 ^ (N + 1) ≤ 2 ^ (i - 1) := Nat.pow_le_pow_right (by decide) (by omega)
    rw [Nat.pow_succ] at e3
    omega
theorem PlusAt.small {m n i c : Nat} {out : List Nat} (h : PlusAt m n i c out) (hm : (bin m).length ≤ 100000) (hn : (bin n).length ≤ 100000) : i ≤ 100001 := h.small_ hm hn

set_option maxRecDepth 100000 in
set_option maxHeartbeats 4000000 in
theorem rplus_any (v u : Value) (m n : Nat) (hm : (bin m).length ≤ 100000) (hn : (bin n).length ≤ 100000) (w : World) (hv : IntSl w v (bin m)) (hu : IntSl w u (bin n)) :
    Calls Tryd.prog 37 #[v, u] w (RetBin w (m + n)) := by
  obtain ⟨a1, c1, rfl, hc1⟩ := hv.open_
  obtain ⟨a2, c2, rfl, hc2⟩ := hu.open_
  have Hc1 := Lib.hid hc1
  have Hc2 := Lib.hid hc2
  have Hm := Lib.hid hm
  have Hn := Lib.hid hn
  obtain ⟨L1, hL1⟩ : ∃ L, (bin m).length = L := ⟨_, rfl⟩
  obtain ⟨L2, hL2⟩ : ∃ L, (bin n).length = L := ⟨_, rfl⟩
  have HL1 := Lib.hid hL1
  have HL2 := Lib.hid hL2
  rw [hL1] at hm ⊢
  rw [hL2] at hn ⊢
  clear hc1 hc2 hv hu hL1 hL2
  go_enter Tryd.func37, Tryd.ntmps37
  go_wp2_with fail
  go_loopw [5, 6, 7] (fun v cv iv wr => ∃ (i c : Nat) (out : List Nat), iv = .int .i64 (i : Int) ∧ cv = .int .i64 (c : Int) ∧ OwnInt wr w.heap.size v out ∧ Below w.heap.size w wr ∧ Hid (PlusAt m n i c out)) (fun _ cv iv _ => 2 * (L1 + L2 - (intOf iv).toNat) + (intOf cv).toNat)
  case atStart => exact ⟨0, 0, [], rfl, rfl, OwnInt.nil _ _, Below.refl _ _, Lib.hid ⟨rfl, by omega, Bits.nil, by simp [bv, Nat.mod_one], .inl rfl⟩⟩
  case round =>
    obtain ⟨i, c, out, rfl, rfl, own, hb, Hp⟩ := hrel
    have hi := Hp.out.small Hm.out Hn.out
    have hlo : out.length = i := Hp.out.1
    have hcc : c ≤ 1 := Hp.out.2.1
    by_cases hx : i < L1
    · by_cases hy : i < L2
      · skip
        obtain ⟨b1, o1, rfl, hb1, hcx⟩ := Hc1.out i (by rw [HL1.out]; exact hx)
        replace hcx := (hb.cell (p := ⟨b1, o1 + i, none⟩) hb1).trans hcx
        unfold ival at hcx
        rw [bin_get] at hcx
        obtain ⟨x, hxe⟩ : ∃ x, m / 2 ^ i % 2 = x := ⟨_, rfl⟩
        have Hx := Lib.hid hxe
        have hx1 : x ≤ 1 := by omega
        rw [hxe] at hcx
        clear hxe
        obtain ⟨b2, o2, rfl, hb2, hcy⟩ := Hc2.out i (by rw [HL2.out]; exact hy)
        replace hcy := (hb.cell (p := ⟨b2, o2 + i, none⟩) hb2).trans hcy
        unfold ival at hcy
        rw [bin_get] at hcy
        obtain ⟨y, hye⟩ : ∃ y, n / 2 ^ i % 2 = y := ⟨_, rfl⟩
        have Hy := Lib.hid hye
        have hy1 : y ≤ 1 := by omega
        rw [hye] at hcy
        clear hye
        obtain ⟨t, ht⟩ : ∃ t, (c + x + y) % 2 = t := ⟨_, rfl⟩
        obtain ⟨q, hq⟩ : ∃ q, (c + x + y) / 2 = q := ⟨_, rfl⟩
        have ht0 : ((c : Int) + (x : Int) + (y : Int)).tmod 2 = (t : Int) := by rw [Int.tmod_eq_emod_of_nonneg (by omega)]; omega
        have hq0 : ((c : Int) + (x : Int) + (y : Int)).tdiv 2 = (q : Int) := by rw [Int.tdiv_eq_ediv_of_nonneg (by omega)]; omega
        have Hnew := Lib.hid (Hp.out.next Hx.out Hy.out (t := t) (q := q) (by omega) (by omega) (.inl (by rw [HL1.out]; exact hx)))
        have hq1 : q ≤ 1 := by omega
        have ht1 : t ≤ 1 := by omega
        have Hms := Lib.hid (show 2 * (L1 + L2 - (i + 1)) + q < 2 * (L1 + L2 - i) + c by omega)
        clear ht hq
        go_wp2_with (at_builtin; refine list_int _ (by rfl) _ _ rfl w.heap.size _ ⟨wr.heap.size, 0, none⟩ 1 1 out [t] rfl rfl rfl (own.ofAlloc _) (cells1 wr t) (by simp; omega) (by have := hb.size; simp; omega) ?_; intro v2 w2 own2 grow2; have hb2' := (hb.alloc hb.size (.cells #[.int .i64 (t : Int)] 3)).grown grow2 (by have := hb.size; simp; omega) (fun k hk => (World.ownsRow.lt own k hk).1))
        go_roundw
        case rel => exact ⟨i + 1, q, out ++ [t], by go_num, by go_num, own2, hb2', Hnew⟩
        case measure => simp [intOf]; have := Hms.out; omega
      · skip
        obtain ⟨b1, o1, rfl, hb1, hcx⟩ := Hc1.out i (by rw [HL1.out]; exact hx)
        replace hcx := (hb.cell (p := ⟨b1, o1 + i, none⟩) hb1).trans hcx
        unfold ival at hcx
        rw [bin_get] at hcx
        obtain ⟨x, hxe⟩ : ∃ x, m / 2 ^ i % 2 = x := ⟨_, rfl⟩
        have Hx := Lib.hid hxe
        have hx1 : x ≤ 1 := by omega
        rw [hxe] at hcx
        clear hxe
        have Hy := Lib.hid (bit_of_len (m := n) (i := i) (by rw [HL2.out]; omega))
        obtain ⟨t, ht⟩ : ∃ t, (c + x + 0) % 2 = t := ⟨_, rfl⟩
        obtain ⟨q, hq⟩ : ∃ q, (c + x + 0) / 2 = q := ⟨_, rfl⟩
        have ht0 : ((c : Int) + (x : Int)).tmod 2 = (t : Int) := by rw [Int.tmod_eq_emod_of_nonneg (by omega)]; omega
        have hq0 : ((c : Int) + (x : Int)).tdiv 2 = (q : Int) := by rw [Int.tdiv_eq_ediv_of_nonneg (by omega)]; omega
        have Hnew := Lib.hid (Hp.out.next Hx.out Hy.out (t := t) (q := q) (by omega) (by omega) (.inl (by rw [HL1.out]; exact hx)))
        have hq1 : q ≤ 1 := by omega
        have ht1 : t ≤ 1 := by omega
        have Hms := Lib.hid (show 2 * (L1 + L2 - (i + 1)) + q < 2 * (L1 + L2 - i) + c by omega)
        clear ht hq
        go_wp2_with (at_builtin; refine list_int _ (by rfl) _ _ rfl w.heap.size _ ⟨wr.heap.size, 0, none⟩ 1 1 out [t] rfl rfl rfl (own.ofAlloc _) (cells1 wr t) (by simp; omega) (by have := hb.size; simp; omega) ?_; intro v2 w2 own2 grow2; have hb2' := (hb.alloc hb.size (.cells #[.int .i64 (t : Int)] 3)).grown grow2 (by have := hb.size; simp; omega) (fun k hk => (World.ownsRow.lt own k hk).1))
        go_roundw
        case rel => exact ⟨i + 1, q, out ++ [t], by go_num, by go_num, own2, hb2', Hnew⟩
        case measure => simp [intOf]; have := Hms.out; omega
    · by_cases hy : i < L2
      · skip
        have Hx := Lib.hid (bit_of_len (m := m) (i := i) (by rw [HL1.out]; omega))
        obtain ⟨b2, o2, rfl, hb2, hcy⟩ := Hc2.out i (by rw [HL2.out]; exact hy)
        replace hcy := (hb.cell (p := ⟨b2, o2 + i, none⟩) hb2).trans hcy
        unfold ival at hcy
        rw [bin_get] at hcy
        obtain ⟨y, hye⟩ : ∃ y, n / 2 ^ i % 2 = y := ⟨_, rfl⟩
        have Hy := Lib.hid hye
        have hy1 : y ≤ 1 := by omega
        rw [hye] at hcy
        clear hye
        obtain ⟨t, ht⟩ : ∃ t, (c + 0 + y) % 2 = t := ⟨_, rfl⟩
        obtain ⟨q, hq⟩ : ∃ q, (c + 0 + y) / 2 = q := ⟨_, rfl⟩
        have ht0 : ((c : Int) + (y : Int)).tmod 2 = (t : Int) := by rw [Int.tmod_eq_emod_of_nonneg (by omega)]; omega
        have hq0 : ((c : Int) + (y : Int)).tdiv 2 = (q : Int) := by rw [Int.tdiv_eq_ediv_of_nonneg (by omega)]; omega
        have Hnew := Lib.hid (Hp.out.next Hx.out Hy.out (t := t) (q := q) (by omega) (by omega) (.inr (.inl (by rw [HL2.out]; exact hy))))
        have hq1 : q ≤ 1 := by omega
        have ht1 : t ≤ 1 := by omega
        have Hms := Lib.hid (show 2 * (L1 + L2 - (i + 1)) + q < 2 * (L1 + L2 - i) + c by omega)
        clear ht hq
        go_wp2_with (at_builtin; refine list_int _ (by rfl) _ _ rfl w.heap.size _ ⟨wr.heap.size, 0, none⟩ 1 1 out [t] rfl rfl rfl (own.ofAlloc _) (cells1 wr t) (by simp; omega) (by have := hb.size; simp; omega) ?_; intro v2 w2 own2 grow2; have hb2' := (hb.alloc hb.size (.cells #[.int .i64 (t : Int)] 3)).grown grow2 (by have := hb.size; simp; omega) (fun k hk => (World.ownsRow.lt own k hk).1))
        go_roundw
        case rel => exact ⟨i + 1, q, out ++ [t], by go_num, by go_num, own2, hb2', Hnew⟩
        case measure => simp [intOf]; have := Hms.out; omega
      · by_cases h0 : c = 0
        · subst h0
          go_wp2_with fail
          go_ret
          exact ⟨_, rfl, by rw [← Hp.out.done (by rw [HL1.out]; omega) (by rw [HL2.out]; omega)]; exact own.sl, hb, fun k hk => (World.ownsRow.lt own k hk).1⟩
        · obtain rfl : c = 1 := by omega
          have Hx := Lib.hid (bit_of_len (m := m) (i := i) (by rw [HL1.out]; omega))
          have Hy := Lib.hid (bit_of_len (m := n) (i := i) (by rw [HL2.out]; omega))
          obtain ⟨t, ht⟩ : ∃ t, (1 + 0 + 0) % 2 = t := ⟨_, rfl⟩
          obtain ⟨q, hq⟩ : ∃ q, (1 + 0 + 0) / 2 = q := ⟨_, rfl⟩
          have ht0 : ((1 : Int)).tmod 2 = (t : Int) := by rw [Int.tmod_eq_emod_of_nonneg (by omega)]; omega
          have hq0 : ((1 : Int)).tdiv 2 = (q : Int) := by rw [Int.tdiv_eq_ediv_of_nonneg (by omega)]; omega
          have Hnew := Lib.hid (Hp.out.next Hx.out Hy.out (t := t) (q := q) (by omega) (by omega) (.inr (.inr (by omega))))
          have hq1 : q ≤ 1 := by omega
          have ht1 : t ≤ 1 := by omega
          have Hms := Lib.hid (show 2 * (L1 + L2 - (i + 1)) + q < 2 * (L1 + L2 - i) + 1 by omega)
          clear ht hq
          go_wp2_with (at_builtin; refine list_int _ (by rfl) _ _ rfl w.heap.size _ ⟨wr.heap.size, 0, none⟩ 1 1 out [t] rfl rfl rfl (own.ofAlloc _) (cells1 wr t) (by simp; omega) (by have := hb.size; simp; omega) ?_; intro v2 w2 own2 grow2; have hb2' := (hb.alloc hb.size (.cells #[.int .i64 (t : Int)] 3)).grown grow2 (by have := hb.size; simp; omega) (fun k hk => (World.ownsRow.lt own k hk).1))
          go_roundw
          case rel => exact ⟨i + 1, q, out ++ [t], by go_num, by go_num, own2, hb2', Hnew⟩
          case measure => simp [intOf]; have := Hms.out; omega

end Go.Proofs.YtflnhjfmlminoaaDoor.Fr
