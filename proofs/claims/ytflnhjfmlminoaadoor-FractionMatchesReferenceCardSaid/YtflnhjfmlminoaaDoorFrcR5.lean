/- Walks over layer 5's reference: minus. Written by wip/tools/frminus.py. -/
import Derived.Test.YtflnhjfmlminoaaDoorFrcR4
namespace Go.Proofs.YtflnhjfmlminoaaDoor.Fr
set_option linter.unusedVariables false
set_option linter.unusedSimpArgs false
open Go.RowKit

/-- what the rounds of minus keep -/
def MinusAt (m n i c : Nat) (out : List Nat) : Prop := out.length = i ∧ c ≤ 1 ∧ Bits out ∧ bv out + n % 2 ^ i = m % 2 ^ i + 2 ^ i * c
theorem MinusAt.next {m n i c x y t q : Nat} {out : List Nat} (h : MinusAt m n i c out) (hx : m / 2 ^ i % 2 = x) (hy : n / 2 ^ i % 2 = y) (ht : x + 2 * q = t + c + y) (ht1 : t ≤ 1) (hq : q ≤ 1) : MinusAt m n (i + 1) q (out ++ [t]) := by
  obtain ⟨h1, h2, h3, h4⟩ := h
  refine ⟨by rw [List.length_append, h1]; rfl, hq, h3.append (Bits.cons ht1 Bits.nil), ?_⟩
  rw [bv_snoc, h1, mod_step m, mod_step n, hx, hy, Nat.pow_succ]
  have e1 : 2 ^ i * (x + 2 * q) = 2 ^ i * x + 2 ^ i * 2 * q := by rw [Nat.mul_add, Nat.mul_assoc]
  have e2 : 2 ^ i * (t + c + y) = 2 ^ i * t + 2 ^ i * c + 2 ^ i * y := by rw [Nat.mul_add, Nat.mul_add]
  rw [ht] at e1
  omega
theorem MinusAt.done {m n c : Nat} {out : List Nat} (h : MinusAt m n (bin m).length c out) (hn : n ≤ m) : bv out = m - n := by
  obtain ⟨h1, h2, h3, h4⟩ := h
  have e1 := bin_lt m
  have e2 := bv_lt out h3
  rw [Nat.mod_eq_of_lt e1, Nat.mod_eq_of_lt (by omega)] at h4
  rw [h1] at e2
  by_cases hc : c = 0
  · subst hc
    omega
  · obtain rfl : c = 1 := by omega
    omega

set_option maxRecDepth 100000 in
set_option maxHeartbeats 4000000 in
theorem rminus_any (v u : Value) (m n : Nat) (hmn : n ≤ m) (hm : (bin m).length ≤ 100000) (w : World) (hv : IntSl w v (bin m)) (hu : IntSl w u (bin n)) :
    Calls Tryd.prog 39 #[v, u] w (RetBin w (m - n)) := by
  obtain ⟨a1, c1, rfl, hc1⟩ := hv.open_
  obtain ⟨a2, c2, rfl, hc2⟩ := hu.open_
  have Hmn := Lib.hid hmn
  have Hc1 := Lib.hid hc1
  have Hc2 := Lib.hid hc2
  have Hl := Lib.hid (show (bin n).length ≤ (bin m).length by
    refine Nat.le_of_not_lt fun h => ?_
    have := lt_of_len h
    omega)
  obtain ⟨L1, hL1⟩ : ∃ L, (bin m).length = L := ⟨_, rfl⟩
  obtain ⟨L2, hL2⟩ : ∃ L, (bin n).length = L := ⟨_, rfl⟩
  have HL1 := Lib.hid hL1
  have HL2 := Lib.hid hL2
  have hll := Hl.out
  rw [hL1, hL2] at hll
  rw [hL1] at hm ⊢
  rw [hL2]
  clear hc1 hc2 hv hu hL1 hL2 hmn
  go_enter Tryd.func39, Tryd.ntmps39
  go_wp2_with fail
  go_loopw [5, 6, 7, 8] (fun v cv iv dv wr => ∃ (i c : Nat) (out : List Nat), i ≤ L1 ∧ iv = .int .i64 (i : Int) ∧ cv = .int .i64 (c : Int) ∧ OwnInt wr w.heap.size v out ∧ Below w.heap.size w wr ∧ Hid (MinusAt m n i c out)) (fun _ cv iv _ _ => L1 - (intOf iv).toNat)
  case atStart => exact ⟨0, 0, [], by omega, rfl, rfl, OwnInt.nil _ _, Below.refl _ _, Lib.hid ⟨rfl, by omega, Bits.nil, by simp [bv, Nat.mod_one]⟩⟩
  case round =>
    obtain ⟨i, c, out, hi, rfl, rfl, own, hb, Hp⟩ := hrel
    have hlo : out.length = i := Hp.out.1
    have hcc : c ≤ 1 := Hp.out.2.1
    by_cases hx : i < L1
    · obtain ⟨b1, o1, rfl, hb1, hcx⟩ := Hc1.out i (by rw [HL1.out]; exact hx)
      replace hcx := (hb.cell (p := ⟨b1, o1 + i, none⟩) hb1).trans hcx
      unfold ival at hcx
      rw [bin_get] at hcx
      obtain ⟨x, hxe⟩ : ∃ x, m / 2 ^ i % 2 = x := ⟨_, rfl⟩
      have Hx := Lib.hid hxe
      have hx1 : x ≤ 1 := by omega
      rw [hxe] at hcx
      clear hxe
      by_cases hy : i < L2
      · obtain ⟨b2, o2, rfl, hb2, hcy⟩ := Hc2.out i (by rw [HL2.out]; exact hy)
        replace hcy := (hb.cell (p := ⟨b2, o2 + i, none⟩) hb2).trans hcy
        unfold ival at hcy
        rw [bin_get] at hcy
        obtain ⟨y, hye⟩ : ∃ y, n / 2 ^ i % 2 = y := ⟨_, rfl⟩
        have Hy := Lib.hid hye
        have hy1 : y ≤ 1 := by omega
        rw [hye] at hcy
        clear hye
        by_cases hneg : (x : Int) - (c : Int) - (y : Int) < 0
        · skip
          obtain ⟨t, ht⟩ : ∃ t : Nat, (x : Int) - (c : Int) - (y : Int) + 2 = (t : Int) := ⟨((x : Int) - (c : Int) - (y : Int) + 2).toNat, by omega⟩
          have Hnew := Lib.hid (Hp.out.next Hx.out Hy.out (t := t) (q := 1) (by omega) (by omega) (by omega))
          go_wp2_with (at_builtin; refine list_int _ (by rfl) _ _ rfl w.heap.size _ ⟨wr.heap.size, 0, none⟩ 1 1 out [t] rfl rfl rfl (own.ofAlloc _) (cells1 wr t) (by simp; omega) (by have := hb.size; simp; omega) ?_; intro v2 w2 own2 grow2; have hb2' := (hb.alloc hb.size (.cells #[.int .i64 (t : Int)] 3)).grown grow2 (by have := hb.size; simp; omega) (fun k hk => (World.ownsRow.lt own k hk).1))
          go_roundw
          case rel => exact ⟨i + 1, 1, out ++ [t], by omega, by go_num, by go_num, own2, hb2', Hnew⟩
          case measure => simp [intOf]; omega
        · skip
          obtain ⟨t, ht⟩ : ∃ t : Nat, (x : Int) - (c : Int) - (y : Int) = (t : Int) := ⟨((x : Int) - (c : Int) - (y : Int)).toNat, by omega⟩
          have Hnew := Lib.hid (Hp.out.next Hx.out Hy.out (t := t) (q := 0) (by omega) (by omega) (by omega))
          go_wp2_with (at_builtin; refine list_int _ (by rfl) _ _ rfl w.heap.size _ ⟨wr.heap.size, 0, none⟩ 1 1 out [t] rfl rfl rfl (own.ofAlloc _) (cells1 wr t) (by simp; omega) (by have := hb.size; simp; omega) ?_; intro v2 w2 own2 grow2; have hb2' := (hb.alloc hb.size (.cells #[.int .i64 (t : Int)] 3)).grown grow2 (by have := hb.size; simp; omega) (fun k hk => (World.ownsRow.lt own k hk).1))
          go_roundw
          case rel => exact ⟨i + 1, 0, out ++ [t], by omega, by go_num, by go_num, own2, hb2', Hnew⟩
          case measure => simp [intOf]; omega
      · have Hy := Lib.hid (bit_of_len (m := n) (i := i) (by rw [HL2.out]; omega))
        by_cases hneg : (x : Int) - (c : Int) < 0
        · skip
          obtain ⟨t, ht⟩ : ∃ t : Nat, (x : Int) - (c : Int) + 2 = (t : Int) := ⟨((x : Int) - (c : Int) + 2).toNat, by omega⟩
          have Hnew := Lib.hid (Hp.out.next Hx.out Hy.out (t := t) (q := 1) (by omega) (by omega) (by omega))
          go_wp2_with (at_builtin; refine list_int _ (by rfl) _ _ rfl w.heap.size _ ⟨wr.heap.size, 0, none⟩ 1 1 out [t] rfl rfl rfl (own.ofAlloc _) (cells1 wr t) (by simp; omega) (by have := hb.size; simp; omega) ?_; intro v2 w2 own2 grow2; have hb2' := (hb.alloc hb.size (.cells #[.int .i64 (t : Int)] 3)).grown grow2 (by have := hb.size; simp; omega) (fun k hk => (World.ownsRow.lt own k hk).1))
          go_roundw
          case rel => exact ⟨i + 1, 1, out ++ [t], by omega, by go_num, by go_num, own2, hb2', Hnew⟩
          case measure => simp [intOf]; omega
        · skip
          obtain ⟨t, ht⟩ : ∃ t : Nat, (x : Int) - (c : Int) = (t : Int) := ⟨((x : Int) - (c : Int)).toNat, by omega⟩
          have Hnew := Lib.hid (Hp.out.next Hx.out Hy.out (t := t) (q := 0) (by omega) (by omega) (by omega))
          go_wp2_with (at_builtin; refine list_int _ (by rfl) _ _ rfl w.heap.size _ ⟨wr.heap.size, 0, none⟩ 1 1 out [t] rfl rfl rfl (own.ofAlloc _) (cells1 wr t) (by simp; omega) (by have := hb.size; simp; omega) ?_; intro v2 w2 own2 grow2; have hb2' := (hb.alloc hb.size (.cells #[.int .i64 (t : Int)] 3)).grown grow2 (by have := hb.size; simp; omega) (fun k hk => (World.ownsRow.lt own k hk).1))
          go_roundw
          case rel => exact ⟨i + 1, 0, out ++ [t], by omega, by go_num, by go_num, own2, hb2', Hnew⟩
          case measure => simp [intOf]; omega
    · obtain rfl : i = L1 := by omega
      have He := Lib.hid ((by rw [HL1.out]; exact Hp.out : MinusAt m n (bin m).length c out).done Hmn.out)
      go_wp2_with fail
      refine (trim_any _ out Hp.out.2.2.1 (by omega) _ own.sl).mono ?_
      rintro e w1 ⟨u1, rfl, hu1, rfl, hob⟩
      go_wp2_with fail
      go_ret
      rw [He.out] at hu1
      exact ⟨_, rfl, hu1, hb, fun k hk => (World.ownsRow.lt own k (hob.symm.trans hk)).1⟩

end Go.Proofs.YtflnhjfmlminoaaDoor.Fr
