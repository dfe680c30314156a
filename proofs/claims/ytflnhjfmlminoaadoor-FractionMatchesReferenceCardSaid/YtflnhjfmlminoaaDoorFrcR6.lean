/- Walks over layer 5's reference: times. Written by wip/tools/frtimes.py. -/
import Derived.Test.YtflnhjfmlminoaaDoorFrcR5
namespace Go.Proofs.YtflnhjfmlminoaaDoor.Fr
set_option linter.unusedVariables false
set_option linter.unusedSimpArgs false
open Go.RowKit

/-- block g holds just these ints -/
def Row (w : World) (g : Nat) (out : List Nat) : Prop := ∃ cur : Array Value, w.heap[g]? = some (.cells cur 3 (0, 0)) ∧ cur.toList = out.map ival
theorem Row.own {w : World} {g : Nat} {out : List Nat} (h : Row w g out) (hL : out.length ≤ 100000) : OwnInt w g (.slice (some ⟨g, 0, none⟩) out.length out.length) out := by
  obtain ⟨cur, h1, h2⟩ := h
  have h3 : cur.size = out.length := by rw [← Array.length_toList, h2, List.length_map]
  exact ⟨by simp, .inr ⟨g, out.length, cur, rfl, Nat.le_refl _, h1, Nat.le_refl _, by unfold maxLen; omega, by omega, by rw [h2, List.take_of_length_le (by simp)]⟩⟩
theorem Row.cell {w : World} {g : Nat} {out : List Nat} (h : Row w g out) (hL : out.length ≤ 100000) (i : Nat) (hi : i < out.length) : w.cell? ⟨g, i, none⟩ = some (ival out[i]) := by
  rw [World.ownsRow.cellAt (h.own hL) i (by omega)]
  simp [hi]
theorem Row.frozen {w : World} {g : Nat} {out : List Nat} (h : Row w g out) (i : Nat) : w.frozen? ⟨g, i, none⟩ = false := by
  obtain ⟨cur, h1, h2⟩ := h
  unfold World.frozen?
  rw [h1]
  simp
theorem Row.set {w : World} {g : Nat} {out : List Nat} (h : Row w g out) (i t : Nat) : Row (w.setCell ⟨g, i, none⟩ (.int .i64 (t : Int))) g (out.set i t) := by
  obtain ⟨cur, h1, h2⟩ := h
  refine ⟨_, heap_setCell_same w g i cur _ _ h1, ?_⟩
  rw [Array.toList_setIfInBounds, h2, List.map_set]
  rfl
theorem Row.below {w w' : World} {g : Nat} {out : List Nat} (h : Row w g out) (hb : Below w.heap.size w w') : Row w' g out := by
  obtain ⟨cur, h1, h2⟩ := h
  refine ⟨cur, ?_, h2⟩
  rw [hb.block g (by
    refine Nat.lt_of_not_le fun hk => ?_
    rw [Array.getElem?_eq_none hk] at h1
    cases h1), h1]
theorem made_zero (n : Nat) : (madeCells #[Value.int .i64 0] n).toList = (List.replicate n 0).map ival := by
  apply List.ext_getElem
  · simp [madeCells]
  · intro i h1 h2
    simp [madeCells, ival, Nat.mod_one]
theorem Row.made {w : World} {B g n : Nat} (h : w.ownsRow B 3 1 (.slice (some ⟨g, 0, none⟩) n n) n (madeCells #[Value.int .i64 0] n).toList) : Row w g (List.replicate n 0) := by
  obtain ⟨h1, h2 | ⟨g', cap, cur, he, hb, hh, hn, hm, hs, ht⟩⟩ := h
  · obtain ⟨h3, _⟩ := h2
    cases h3
  · cases he
    refine ⟨cur, hh, ?_⟩
    rw [← made_zero, ← ht, List.take_of_length_le (by rw [Array.length_toList]; omega)]

theorem bv_set : ∀ (l : List Nat) (j t : Nat) (h : j < l.length), bv (l.set j t) + 2 ^ j * l[j] = bv l + 2 ^ j * t
  | x :: l, 0, t, _ => by
    show t + 2 * bv l + 2 ^ 0 * x = x + 2 * bv l + 2 ^ 0 * t
    omega
  | x :: l, j + 1, t, h => by
    have h' : j < l.length := by simpa using h
    have ih := bv_set l j t h'
    show x + 2 * bv (l.set j t) + 2 ^ (j + 1) * l[j] = x + 2 * bv l + 2 ^ (j + 1) * t
    rw [Nat.pow_succ, Nat.mul_comm (2 ^ j) 2, Nat.mul_assoc, Nat.mul_assoc]
    omega
/-- what the rounds of times keep -/
def TimesAt (m n L i : Nat) (out : List Nat) : Prop := out.length = L ∧ Bits out ∧ bv out = m % 2 ^ i * n
/-- what the rounds within a round keep -/
def InAt (n L i k c : Nat) (out out2 : List Nat) : Prop := out2.length = L ∧ c ≤ 1 ∧ Bits out2 ∧ bv out2 + 2 ^ (i + k) * c = bv out + 2 ^ i * (n % 2 ^ k)
theorem TimesAt.start (m n L : Nat) : TimesAt m n L 0 (List.replicate L 0) :=
  ⟨by simp, fun x hx => by rw [List.eq_of_mem_replicate hx]; omega, by rw [bv_zeros, Nat.pow_zero, Nat.mod_one, Nat.zero_mul]⟩
theorem TimesAt.skip {m n L i : Nat} {out : List Nat} (h : TimesAt m n L i out) (hx : m / 2 ^ i % 2 = 0) : TimesAt m n L (i + 1) out :=
  ⟨h.1, h.2.1, by rw [mod_step, hx, Nat.mul_zero, Nat.add_zero]; exact h.2.2⟩
theorem InAt.start {m n L i : Nat} {out : List Nat} (h : TimesAt m n L i out) : InAt n L i 0 0 out out :=
  ⟨h.1, by omega, h.2.1, by rw [Nat.mul_zero, Nat.pow_zero, Nat.mod_one, Nat.mul_zero]⟩
theorem InAt.next {n L i k c d y t q j : Nat} {out out2 : List Nat} (h : InAt n L i k c out out2) (hj : i + k = j) (hjl : j < out2.length) (hd : out2[j] = d) (hy : n / 2 ^ k % 2 = y) (ht : c + d + y = t + 2 * q) (ht1 : t ≤ 1) (hq1 : q ≤ 1) : InAt n L i (k + 1) q out (out2.set j t) := by
  obtain ⟨h1, h2, h3, h4⟩ := h
  refine ⟨by rw [List.length_set]; exact h1, hq1, h3.set _ _ ht1, ?_⟩
  have e := bv_set out2 j t hjl
  rw [hd] at e
  have e1 : i + (k + 1) = j + 1 := by omega
  rw [hj] at h4
  rw [e1, mod_step, hy, Nat.mul_add, ← Nat.mul_assoc (2 ^ i), ← Nat.pow_add, hj, Nat.pow_succ]
  have e2 : 2 ^ j * (c + d + y) = 2 ^ j * c + 2 ^ j * d + 2 ^ j * y := by rw [Nat.mul_add, Nat.mul_add]
  have e3 : 2 ^ j * (t + 2 * q) = 2 ^ j * t + 2 ^ j * 2 * q := by rw [Nat.mul_add, Nat.mul_assoc]
  rw [ht, e3] at e2
  omega
theorem InAt.done {m n L i k c : Nat} {out out2 : List Nat} (h : InAt n L i k c out out2) (ho : TimesAt m n L i out) (hi : i < (bin m).length) (hL : (bin m).length + (bin n).length + 1 = L) (hk : i + k = L) (hx : m / 2 ^ i % 2 = 1) : TimesAt m n L (i + 1) out2 := by
  obtain ⟨h1, h2, h3, h4⟩ := h
  refine ⟨h1, h3, ?_⟩
  rw [mod_of_len (m := n) (i := k) (by omega), ho.2.2, hk, Nat.mul_comm (2 ^ i) n, ← Nat.mul_comm n] at h4
  have e1 : n * (m % 2 ^ i) + n * 2 ^ i = m % 2 ^ (i + 1) * n := by rw [mod_step, hx, Nat.mul_one, Nat.add_mul, Nat.mul_comm n, Nat.mul_comm n]
  rw [e1] at h4
  have e2 : m % 2 ^ (i + 1) * n < 2 ^ L := by
    have a1 : m % 2 ^ (i + 1) ≤ 2 ^ (i + 1) := Nat.le_of_lt (Nat.mod_lt _ (Nat.two_pow_pos _))
    have a2 : n < 2 ^ (bin n).length := bin_lt n
    have a3 : m % 2 ^ (i + 1) * n ≤ 2 ^ (i + 1) * n := Nat.mul_le_mul_right _ a1
    have a4 : 2 ^ (i + 1) * n < 2 ^ (i + 1) * 2 ^ (bin n).length := Nat.mul_lt_mul_of_pos_left a2 (Nat.two_pow_pos _)
    have a5 : 2 ^ (i + 1) * 2 ^ (bin n).length ≤ 2 ^ L := by rw [← Nat.pow_add]; exact Nat.pow_le_pow_right (by decide) (by omega)
    omega
  have e3 : c = 0 := by
    refine Nat.eq_zero_of_not_pos fun hc => ?_
    have := Nat.mul_le_mul_left (2 ^ L) hc
    omega
  rw [e3, Nat.mul_zero, Nat.add_zero] at h4
  exact h4
theorem TimesAt.done {m n L : Nat} {out : List Nat} (h : TimesAt m n L (bin m).length out) : bv out = m * n := by
  rw [h.2.2, mod_of_len (Nat.le_refl _)]

set_option maxRecDepth 100000 in
set_option maxHeartbeats 4000000 in
theorem times_any (v u : Value) (m n : Nat) (hm : (bin m).length ≤ 1000) (hn : (bin n).length ≤ 1000) (w : World) (hv : IntSl w v (bin m)) (hu : IntSl w u (bin n)) :
    Calls Tryd.prog 36 #[v, u] w (RetBin w (m * n)) := by
  obtain ⟨a1, c1, rfl, hc1⟩ := hv.open_
  obtain ⟨a2, c2, rfl, hc2⟩ := hu.open_
  have Hc1 := Lib.hid hc1
  have Hc2 := Lib.hid hc2
  obtain ⟨i0, hi, hz0, hz1, hz2⟩ := info_parts infoI
  obtain ⟨L1, hL1⟩ : ∃ L, (bin m).length = L := ⟨_, rfl⟩
  obtain ⟨L2, hL2⟩ : ∃ L, (bin n).length = L := ⟨_, rfl⟩
  obtain ⟨L, hL⟩ : ∃ L, L1 + L2 + 1 = L := ⟨_, rfl⟩
  have HL1 := Lib.hid hL1
  have HL2 := Lib.hid hL2
  have HL := Lib.hid (show (bin m).length + (bin n).length + 1 = L by rw [hL1, hL2, hL])
  have HLz := Lib.hid (show (L1 : Int) + (L2 : Int) + 1 = (L : Int) by omega)
  rw [hL1] at hm ⊢
  rw [hL2] at hn ⊢
  clear hc1 hc2 hv hu hL1 hL2
  go_enter Tryd.func36, Tryd.ntmps36
  go_wp2_with (at_make; refine wpList_make_full _ rfl _ _ 48 rfl w.heap.size 3 i0 (.int .i64 0) 1 Tryd.underlying48 hi hz0 hz1 .i64 .i64 _ _ L rfl rfl ?h1 ?h2 ?b2 ?b3 (Nat.le_refl _) ?_)
  case h1 => exact HLz.out
  case h2 => exact HLz.out
  case b2 => rw [hz2]; omega
  case b3 => unfold maxLen; omega
  intro w1 hown1 hgrow1
  have row1 : Row w1 w.heap.size (List.replicate L 0) := Row.made hown1
  have hbel1 : Below w.heap.size w w1 := (Below.refl _ _).grown hgrow1 (Nat.le_refl _) (fun k hk => by simp at hk)
  clear hown1 hgrow1
  go_wp2_with fail
  go_loopw [6, 7, 8] (fun iv _ _ wr => ∃ (i : Nat) (out : List Nat), i ≤ L1 ∧ iv = .int .i64 (i : Int) ∧ Row wr w.heap.size out ∧ Below w.heap.size w wr ∧ Hid (TimesAt m n L i out)) (fun iv _ _ _ => L1 - (intOf iv).toNat)
  case atStart => exact ⟨0, _, by omega, rfl, row1, hbel1, Lib.hid (TimesAt.start m n L)⟩
  case round =>
    clear row1 hbel1
    obtain ⟨i, out, hi, rfl, row, hb, Hp⟩ := hrel
    by_cases hx : i < L1
    · obtain ⟨b1, o1, rfl, hb1, hcx⟩ := Hc1.out i (by rw [HL1.out]; exact hx)
      replace hcx := (hb.cell (p := ⟨b1, o1 + i, none⟩) hb1).trans hcx
      unfold ival at hcx
      rw [bin_get] at hcx
      obtain ⟨x, hxe⟩ : ∃ x, m / 2 ^ i % 2 = x := ⟨_, rfl⟩
      have Hx := Lib.hid hxe
      have hx1 : x ≤ 1 := by omega
      rw [hxe] at hcx
      clear hxe
      by_cases hx0 : x = 0
      · subst hx0
        go_wp2_with fail
        go_roundw
        case rel => exact ⟨i + 1, out, by omega, by go_num, row, hb, Lib.hid (Hp.out.skip Hx.out)⟩
        case measure => simp [intOf]; omega
      · obtain rfl : x = 1 := by omega
        go_wp2_with fail
        have Hstart := Lib.hid (InAt.start Hp.out)
        have Row0 := Lib.hid row
        have Hb0 := Lib.hid hb
        clear row hb hcx
        go_loopw [7, 8] (fun cv kv wr2 => ∃ (k c : Nat) (out2 : List Nat), i + k ≤ L ∧ kv = .int .i64 (k : Int) ∧ cv = .int .i64 (c : Int) ∧ Row wr2 w.heap.size out2 ∧ Below w.heap.size w wr2 ∧ Hid (InAt n L i k c out out2)) (fun _ kv _ => L - i - (intOf kv).toNat)
        case atStart => exact ⟨0, 0, out, by omega, rfl, rfl, Row0.out, Hb0.out, Hstart⟩
        case round =>
          obtain ⟨k, c, out2, hk, rfl, rfl, row, hb, Hq⟩ := hrel
          have hcc : c ≤ 1 := Hq.out.2.1
          obtain ⟨j, hj⟩ : ∃ j, i + k = j := ⟨_, rfl⟩
          have Hj := Lib.hid hj
          have hjz : (i : Int) + (k : Int) = (j : Int) := by omega
          by_cases hlt : j < L
          · have hjl : j < out2.length := by rw [Hq.out.1]; exact hlt
            have hcd := row.cell (by rw [Hq.out.1]; omega) j hjl
            have hfr := row.frozen j
            unfold ival at hcd
            obtain ⟨d, hde⟩ : ∃ d, out2[j] = d := ⟨_, rfl⟩
            have Hd : Hid (∃ h : j < out2.length, out2[j] = d) := Lib.hid ⟨hjl, hde⟩
            have hd1 : d ≤ 1 := by rw [← hde]; exact Hq.out.2.2.1.get j hjl
            rw [hde] at hcd
            clear hde hjl
            by_cases hy : k < L2
            · obtain ⟨b2, o2, rfl, hb2, hcy⟩ := Hc2.out k (by rw [HL2.out]; exact hy)
              replace hcy := (hb.cell (p := ⟨b2, o2 + k, none⟩) hb2).trans hcy
              unfold ival at hcy
              rw [bin_get] at hcy
              obtain ⟨y, hye⟩ : ∃ y, n / 2 ^ k % 2 = y := ⟨_, rfl⟩
              have Hy := Lib.hid hye
              have hy1 : y ≤ 1 := by omega
              rw [hye] at hcy
              clear hye
              obtain ⟨t, ht⟩ : ∃ t, (c + d + y) % 2 = t := ⟨_, rfl⟩
              obtain ⟨q, hq⟩ : ∃ q, (c + d + y) / 2 = q := ⟨_, rfl⟩
              have ht0 : ((c : Int) + (d : Int) + (y : Int)).tmod 2 = (t : Int) := by rw [Int.tmod_eq_emod_of_nonneg (by omega)]; omega
              have hq0 : ((c : Int) + (d : Int) + (y : Int)).tdiv 2 = (q : Int) := by rw [Int.tdiv_eq_ediv_of_nonneg (by omega)]; omega
              have Hnew := Lib.hid (Hq.out.next Hj.out Hd.out.1 Hd.out.2 Hy.out (t := t) (q := q) (by omega) (by omega) (by omega))
              have ht1 : t ≤ 1 := by omega
              have hq1 : q ≤ 1 := by omega
              clear ht hq
              go_wp2_with fail
              go_roundw
              case rel => exact ⟨k + 1, q, out2.set j t, by omega, by go_num, by go_num, row.set j t, hb.setCell (p := ⟨w.heap.size, j, none⟩) (Nat.le_refl _) _, Hnew⟩
              case measure => simp [intOf]; omega
            · have Hy := Lib.hid (bit_of_len (m := n) (i := k) (by rw [HL2.out]; omega))
              obtain ⟨t, ht⟩ : ∃ t, (c + d + 0) % 2 = t := ⟨_, rfl⟩
              obtain ⟨q, hq⟩ : ∃ q, (c + d + 0) / 2 = q := ⟨_, rfl⟩
              have ht0 : ((c : Int) + (d : Int)).tmod 2 = (t : Int) := by rw [Int.tmod_eq_emod_of_nonneg (by omega)]; omega
              have hq0 : ((c : Int) + (d : Int)).tdiv 2 = (q : Int) := by rw [Int.tdiv_eq_ediv_of_nonneg (by omega)]; omega
              have Hnew := Lib.hid (Hq.out.next Hj.out Hd.out.1 Hd.out.2 Hy.out (t := t) (q := q) (by omega) (by omega) (by omega))
              have ht1 : t ≤ 1 := by omega
              have hq1 : q ≤ 1 := by omega
              clear ht hq
              go_wp2_with fail
              go_roundw
              case rel => exact ⟨k + 1, q, out2.set j t, by omega, by go_num, by go_num, row.set j t, hb.setCell (p := ⟨w.heap.size, j, none⟩) (Nat.le_refl _) _, Hnew⟩
              case measure => simp [intOf]; omega
          · obtain rfl : j = L := by omega
            go_wp2_with fail
            go_roundw
            case rel => exact ⟨i + 1, out2, by omega, by go_num, row, hb, Lib.hid (Hq.out.done Hp.out (by rw [HL1.out]; exact hx) HL.out Hj.out Hx.out)⟩
            case measure => simp [intOf]; omega
    · obtain rfl : i = L1 := by omega
      have hlen : out.length = L := Hp.out.1
      have hbits := Lib.hid Hp.out.2.1
      have He := Lib.hid ((by rw [HL1.out]; exact Hp.out : TimesAt m n L (bin m).length out).done)
      have own := row.own (by omega)
      rw [hlen] at own
      go_wp2_with fail
      refine (trim_any _ out hbits.out (by omega) _ own.sl).mono ?_
      rintro e w1 ⟨u1, rfl, hu1, rfl, hob⟩
      go_wp2_with fail
      go_ret
      rw [He.out] at hu1
      exact ⟨_, rfl, hu1, hb, fun k hk => (World.ownsRow.lt own k (hob.symm.trans hk)).1⟩

end Go.Proofs.YtflnhjfmlminoaaDoor.Fr
