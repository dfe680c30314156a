/- Walks over layer 5's reference: append from any list; over. -/
import Derived.Test.YtflnhjfmlminoaaDoorFrcR6
import Derived.Deep.RegionHeld
namespace Go.Proofs.YtflnhjfmlminoaaDoor.Fr
set_option linter.unusedVariables false
set_option linter.unusedSimpArgs false
open Go.RowKit

section
variable (w : World)
/-- what append does: the source may be nil, empty, or not -/
theorem run_append_int (ty : TypeId) (B : Nat) (v u : Value) (p q : List Nat) (own : OwnInt w B v p) (hq : IntSl w u q) (hlen : p.length + q.length ≤ 1000000) (hB : B ≤ w.heap.size) :
    ∃ v' w', (Builtin.append_ #[48, 48] ty #[v, u]).run Tryd.prog w = .ok v' w' ∧ OwnInt w' B v' (p ++ q) ∧ w.grownBy w' v.ownBlock := by
  obtain ⟨i0, hi, hz0, hz1, hz2⟩ := info_parts infoI
  have key : ∀ (ad : Addr) (c : Nat), u = .slice (some ad) q.length c → (∀ j x, (q.map ival)[j]? = some x → w.cell? (ad.add j) = some x) →
      ∃ v' w', (Builtin.append_ #[48, 48] ty #[v, u]).run Tryd.prog w = .ok v' w' ∧ OwnInt w' B v' (p ++ q) ∧ w.grownBy w' v.ownBlock := by
    intro ad c hu hcells
    subst hu
    obtain ⟨v', w', hr, h2, h3, _, h5⟩ := run_append_own_at (P := Tryd.prog) w B 48 ty 3 i0 _ 1 8 Tryd.underlying48 hi hz0 hz1 hz2 rfl (by decide) v p.length (p.map ival) own ad q.length c (q.map ival)
      (by simp) hcells (by intro x hx; obtain ⟨s, _, rfl⟩ := List.mem_map.1 hx; rfl) (by unfold maxLen; omega) (by omega) hB
    refine ⟨v', w', hr, ?_, h3⟩
    unfold OwnInt
    rw [List.length_append, List.map_append]
    exact h2
  rcases hq with ⟨rfl, a, c, rfl⟩ | ⟨b, off, c, rfl, h0, hbb, hm, hc⟩
  · cases a with
    | some ad => exact key ad c rfl (by intro j x hx; simp at hx)
    | none =>
      refine ⟨v, w, ?_, by rw [List.append_nil]; exact own, World.grownBy.refl w _⟩
      rcases own.2 with ⟨rfl, hn⟩ | ⟨g, cap, cur, rfl, _, _, hnc, _⟩
      · simp [Builtin.append_, run_underlying Tryd.underlying48, sizeOf, typeInfo, hi, Builtin.lenOf, Builtin.firstCells]
      · simp [Builtin.append_, run_underlying Tryd.underlying48, sizeOf, typeInfo, hi, Builtin.lenOf, Builtin.firstCells, hnc, storeCells]
  · refine key ⟨b, off, none⟩ c rfl fun j x hx => ?_
    have hadd : (⟨b, off, none⟩ : Addr).add j = ⟨b, off + j, none⟩ := by unfold Addr.add; split <;> simp_all
    rw [List.getElem?_map] at hx
    by_cases hj : j < q.length
    · rw [List.getElem?_eq_getElem hj] at hx
      rw [hadd, hc j hj]
      simpa using hx
    · rw [List.getElem?_eq_none (by omega)] at hx
      simp at hx
theorem list_append_int {ops : Array Oper} {rest : List Oper} {o : Oper} {a : Act} {Q : Exit → Act → World → Prop} (hgd : o.guard = none) (s x : Operand)
    (ho : o.op = .call { callee := .builtin .append, args := #[s, x], argTypes := #[48, 48] })
    (B : Nat) (v u : Value) (p q : List Nat) (hs : a.eval s = v) (hx : a.eval x = u) (own : OwnInt w B v p) (hq : IntSl w u q) (hlen : p.length + q.length ≤ 1000000) (hB : B ≤ w.heap.size)
    (h : ∀ v' w', OwnInt w' B v' (p ++ q) → w.grownBy w' v.ownBlock → wpList Tryd.prog ops Q rest (a.put o.dst v') w') : wpList Tryd.prog ops Q (o :: rest) a w :=
  wpList_plain hgd fun K hK => by
    obtain ⟨v', w', hr, h2, h3⟩ := run_append_int w o.type B v u p q own hq hlen hB
    unfold Oper.wp execOp
    simp only [ho, resolve, invoke, builtin, Sem.run_bind, Sem.run_pure, Result.andThen_ok, List.map_toArray, List.map_cons, List.map_nil, hs, hx, hr]
    exact hK _ _ (h v' w' h2 h3)
end
theorem OwnInt.lit (w : World) (B : Nat) (x : Nat) (hB : B ≤ w.heap.size) : OwnInt (w.alloc (.cells #[.int .i64 (x : Int)] 3)) B (.slice (some ⟨w.heap.size, 0, none⟩) 1 1) [x] :=
  World.ownsRow_lit w #[.int .i64 (x : Int)] 1 hB (by decide) (by rfl)

theorem IntSl.far {w : World} {v : Value} {l : List Nat} (h : IntSl w v l) (p : Addr) (u : Value) (hne : v.ownBlock ≠ some p.block) : IntSl (w.setCell p u) v l := by
  rcases h with ⟨rfl, a, cap, rfl⟩ | ⟨b, off, cap, rfl, h0, hbb, hm, hc⟩
  · exact .inl ⟨rfl, _, _, rfl⟩
  · refine .inr ⟨b, off, cap, rfl, h0, by simpa [World.setCell] using hbb, hm, fun i hi => ?_⟩
    rw [World.cell?_setCell_far w p ⟨b, off + i, none⟩ u (fun e => hne (by simp [Value.ownBlock, e])), hc i hi]

/-! ### over -/
/-- what the rounds of over keep -/
def OverAt (m n L i r : Nat) (out : List Nat) : Prop := out.length = L ∧ Bits out ∧ m / 2 ^ i % n = r ∧ bv out = m / 2 ^ i / n * 2 ^ i ∧ ∀ j (h : j < out.length), j < i → out[j] = 0
theorem OverAt.start {m n : Nat} : OverAt m n (bin m).length (bin m).length 0 (List.replicate (bin m).length 0) :=
  ⟨by simp, fun x hx => by rw [List.eq_of_mem_replicate hx]; omega, by rw [div_top, Nat.zero_mod], by rw [bv_zeros, div_top, Nat.zero_div, Nat.zero_mul], fun j h _ => by simp⟩
theorem quot_step {m n j r x s : Nat} (hn : 0 < n) (hr : m / 2 ^ (j + 1) % n = r) (hx : m / 2 ^ j % 2 = x) (hs : x + 2 * r = s) :
    m / 2 ^ j % n = (if s < n then s else s - n) ∧ m / 2 ^ j / n = 2 * (m / 2 ^ (j + 1) / n) + if s < n then 0 else 1 := by
  have e1 := div_step m j
  have e2 := Nat.div_add_mod (m / 2 ^ (j + 1)) n
  have e3 := Nat.mod_lt (m / 2 ^ (j + 1)) hn
  rw [hx] at e1
  rw [hr] at e2 e3
  generalize m / 2 ^ (j + 1) / n = q at *
  generalize m / 2 ^ (j + 1) = Q at *
  have e4 : m / 2 ^ j = s + n * (2 * q) := by
    rw [e1, ← e2, Nat.mul_left_comm]
    omega
  rw [e4]
  by_cases h : s < n
  · rw [if_pos h, if_pos h, Nat.add_mul_mod_self_left, Nat.add_mul_div_left _ _ hn, Nat.mod_eq_of_lt h, Nat.div_eq_of_lt h]
    omega
  · have e5 : s + n * (2 * q) = (s - n) + n * (2 * q + 1) := by rw [Nat.mul_add]; omega
    rw [if_neg h, if_neg h, e5, Nat.add_mul_mod_self_left, Nat.add_mul_div_left _ _ hn, Nat.mod_eq_of_lt (by omega), Nat.div_eq_of_lt (by omega)]
    omega
theorem OverAt.lo {m n L j r x s : Nat} {out : List Nat} (h : OverAt m n L (j + 1) r out) (hn : 0 < n) (hx : m / 2 ^ j % 2 = x) (hs : x + 2 * r = s) (hlt : s < n) : OverAt m n L j s out := by
  obtain ⟨h1, h2, h3, h4, h5⟩ := h
  obtain ⟨e1, e2⟩ := quot_step hn h3 hx hs
  rw [if_pos hlt] at e1 e2
  refine ⟨h1, h2, e1, ?_, fun k hk hkj => h5 k hk (by omega)⟩
  rw [h4, e2, Nat.pow_succ, Nat.add_zero, Nat.mul_comm (2 ^ j) 2, ← Nat.mul_assoc, Nat.mul_comm _ 2]
theorem OverAt.hi {m n L j r x s : Nat} {out : List Nat} (h : OverAt m n L (j + 1) r out) (hn : 0 < n) (hx : m / 2 ^ j % 2 = x) (hs : x + 2 * r = s) (hlt : ¬ s < n) (hjL : j < L) : OverAt m n L j (s - n) (out.set j 1) := by
  obtain ⟨h1, h2, h3, h4, h5⟩ := h
  obtain ⟨e1, e2⟩ := quot_step hn h3 hx hs
  rw [if_neg hlt] at e1 e2
  have hjl : j < out.length := by omega
  have e := bv_set out j 1 hjl
  rw [h5 j hjl (by omega), Nat.mul_zero, Nat.mul_one, Nat.add_zero] at e
  refine ⟨by rw [List.length_set]; exact h1, h2.set _ _ (Nat.le_refl _), e1, ?_, fun k hk hkj => ?_⟩
  · rw [e, h4, e2, Nat.pow_succ, Nat.mul_comm (2 ^ j) 2, ← Nat.mul_assoc, Nat.mul_comm _ 2, Nat.add_mul, Nat.one_mul]
  · rw [List.getElem_set_ne (by omega)]
    exact h5 k (by simpa using hk) (by omega)
theorem OverAt.done {m n L r : Nat} {out : List Nat} (h : OverAt m n L 0 r out) : bv out = m / n := by
  rw [h.2.2.2.1, Nat.pow_zero, Nat.div_one, Nat.mul_one]

theorem bin_len_le {a b : Nat} (h : a ≤ b) : (bin a).length ≤ (bin b).length := by
  refine Nat.le_of_not_lt fun hk => ?_
  have := lt_of_len hk
  omega
theorem bin_len_step (x r : Nat) (hx : x ≤ 1) : (bin (x + 2 * r)).length ≤ (bin r).length + 1 :=
  bin_length_le (by have := bin_lt r; rw [Nat.pow_succ]; omega)

set_option maxRecDepth 100000 in
set_option maxHeartbeats 4000000 in
theorem over_any (v u : Value) (m n : Nat) (hn0 : 0 < n) (hm : (bin m).length ≤ 1000) (hn : (bin n).length ≤ 1000) (w : World) (hv : IntSl w v (bin m)) (hu : IntSl w u (bin n)) :
    Calls Tryd.prog 52 #[v, u] w (RetBin w (m / n)) := by
  obtain ⟨a1, c1, rfl, hc1⟩ := hv.open_
  obtain ⟨a2, c2, rfl⟩ := hu.shape
  have Hc1 := Lib.hid hc1
  have Hu := Lib.hid hu
  have Hn := Lib.hid hn
  obtain ⟨i0, hi, hz0, hz1, hz2⟩ := info_parts infoI
  obtain ⟨L, hL⟩ : ∃ L, (bin m).length = L := ⟨_, rfl⟩
  obtain ⟨L2, hL2⟩ : ∃ L, (bin n).length = L := ⟨_, rfl⟩
  have HL := Lib.hid hL
  have HL2 := Lib.hid hL2
  have Hst := Lib.hid (OverAt.start (m := m) (n := n))
  rw [hL] at hm ⊢ Hst
  rw [hL2] at hn ⊢ Hu
  clear hc1 hv hu hL hL2
  go_enter Tryd.func52, Tryd.ntmps52
  go_wp2_with (at_make; refine wpList_make_full _ rfl _ _ 48 rfl w.heap.size 3 i0 (.int .i64 0) 1 Tryd.underlying48 hi hz0 hz1 .i64 .i64 _ _ L rfl rfl ?h1 ?h2 ?b2 ?b3 (Nat.le_refl _) ?_)
  case h1 => rfl
  case h2 => rfl
  case b2 => rw [hz2]; omega
  case b3 => unfold maxLen; omega
  intro w1 hown1 hgrow1
  have row1 : Row w1 w.heap.size (List.replicate L 0) := Row.made hown1
  have hbel1 : Below w.heap.size w w1 := (Below.refl _ _).grown hgrow1 (Nat.le_refl _) (fun k hk => by simp at hk)
  have hsz1 : w.heap.size < w1.heap.size := (World.ownsRow.lt hown1 w.heap.size rfl).2
  clear hown1 hgrow1
  go_wp2_with fail
  go_loopw [6, 7] (fun rv iv wr => ∃ (i r : Nat) (out : List Nat), i ≤ L ∧ iv = .int .i64 ((i : Int) - 1) ∧ IntSl wr rv (bin r) ∧ (∀ k, rv.ownBlock = some k → w.heap.size < k) ∧ w.heap.size < wr.heap.size ∧ Row wr w.heap.size out ∧ Below w.heap.size w wr ∧ Hid (OverAt m n L i r out)) (fun _ iv _ => (intOf iv + 1).toNat)
  case atStart => exact ⟨L, 0, _, by omega, by go_num, .inl ⟨bin_zero, _, _, rfl⟩, fun k hk => by simp [Value.ownBlock] at hk, hsz1, row1, hbel1, Hst⟩
  case round =>
    clear row1 hbel1 hsz1
    obtain ⟨i, r, out, hi, rfl, hr, hrf, hsz, row, hb, Hp⟩ := hrel
    by_cases hx : 0 < i
    · obtain ⟨j, rfl⟩ : ∃ j, i = j + 1 := ⟨i - 1, by omega⟩
      obtain ⟨b1, o1, rfl, hb1, hcx⟩ := Hc1.out j (by rw [HL.out]; omega)
      replace hcx := (hb.cell (p := ⟨b1, o1 + j, none⟩) hb1).trans hcx
      unfold ival at hcx
      rw [bin_get] at hcx
      obtain ⟨x, hxe⟩ : ∃ x, m / 2 ^ j % 2 = x := ⟨_, rfl⟩
      have Hx := Lib.hid hxe
      have hx1 : x ≤ 1 := by omega
      rw [hxe] at hcx
      clear hxe
      have hrn : r < n := by rw [← Hp.out.2.2.1]; exact Nat.mod_lt _ hn0
      have hlr : (bin r).length ≤ 1000 := Nat.le_trans (bin_len_le (Nat.le_of_lt hrn)) Hn.out
      obtain ⟨s, hs⟩ : ∃ s, x + 2 * r = s := ⟨_, rfl⟩
      have Hs := Lib.hid hs
      have Hls := Lib.hid (show (bin s).length ≤ 1001 by rw [← hs]; have := bin_len_step x r hx1; omega)
      have Hbits := Lib.hid (show Bits ([x] ++ bin r) from Bits.cons hx1 (bin_bits r))
      have Hbv := Lib.hid (show bv ([x] ++ bin r) = s by rw [← hs]; show x + 2 * bv (bin r) = _; rw [bv_bin])
      have Hrl := Lib.hid hrn
      have Hlr := Lib.hid hlr
      clear hs hrn hlr
      by_cases hlt : s < n
      · go_wp2_with (first
          | (at_builtin; refine list_append_int _ rfl _ _ rfl wr.heap.size (.slice (some ⟨wr.heap.size, 0, none⟩) 1 1) _ [x] (bin r) rfl rfl (OwnInt.lit wr _ x (Nat.le_refl _)) (hr.below ((Below.refl _ _).alloc (Nat.le_refl _) _)) (by have := Hlr.out; simp; omega) (by simp) ?_; intro v2 w2 own2 grow2; have hbw2 : Below wr.heap.size wr w2 := ((Below.refl _ _).alloc (Nat.le_refl _) _).grown grow2 (by simp) (fun k hk => by simp [Value.ownBlock] at hk; omega))
          | (go_at_call 56; refine (trim_any v2 ([x] ++ bin r) Hbits.out (by have := Hlr.out; simp; omega) _ own2.sl).mono ?_; rintro e w3 ⟨u3, rfl, hu3, rfl, hob3⟩; rw [Hbv.out] at hu3)
          | (go_at_call 38; refine (less_any u3 _ s n (by have := Hls.out; omega) (by have := Hn.out; omega) _ hu3 (Hu.out.below (hb.trans (hbw2.mono hb.size)))).mono ?_; rintro e w4 ⟨rfl, hb4⟩))
        go_roundw
        case rel =>
          have hbw4 := hbw2.trans (hb4.mono hbw2.size)
          exact ⟨j, s, out, by omega, by go_num, hu3.below hb4, fun k hk => Nat.lt_of_lt_of_le hsz (World.ownsRow.lt own2 k (hob3.symm.trans hk)).1, Nat.lt_of_lt_of_le hsz hbw4.size, row.below hbw4, hb.trans (hbw4.mono hb.size), Lib.hid (Hp.out.lo hn0 Hx.out Hs.out hlt)⟩
        case measure => (try simp [intOf]) <;> omega
      · have Hj := Lib.hid (show j < out.length by rw [Hp.out.1]; omega)
        have Hlo := Lib.hid (show out.length ≤ 100000 by rw [Hp.out.1]; omega)
        have hns : n ≤ s := by omega
        go_wp2_with (first
          | (at_builtin; refine list_append_int _ rfl _ _ rfl wr.heap.size (.slice (some ⟨wr.heap.size, 0, none⟩) 1 1) _ [x] (bin r) rfl rfl (OwnInt.lit wr _ x (Nat.le_refl _)) (hr.below ((Below.refl _ _).alloc (Nat.le_refl _) _)) (by have := Hlr.out; simp; omega) (by simp) ?_; intro v2 w2 own2 grow2; have hbw2 : Below wr.heap.size wr w2 := ((Below.refl _ _).alloc (Nat.le_refl _) _).grown grow2 (by simp) (fun k hk => by simp [Value.ownBlock] at hk; omega))
          | (go_at_call 56; refine (trim_any v2 ([x] ++ bin r) Hbits.out (by have := Hlr.out; simp; omega) _ own2.sl).mono ?_; rintro e w3 ⟨u3, rfl, hu3, rfl, hob3⟩; rw [Hbv.out] at hu3)
          | (go_at_call 38; refine (less_any u3 _ s n (by have := Hls.out; omega) (by have := Hn.out; omega) _ hu3 (Hu.out.below (hb.trans (hbw2.mono hb.size)))).mono ?_; rintro e w4 ⟨rfl, hb4⟩; have hbw4 := hbw2.trans (hb4.mono hbw2.size))
          | (go_at_call 39; refine (rminus_any u3 _ s n hns (by have := Hls.out; omega) _ (hu3.below hb4) (Hu.out.below (hb.trans (hbw4.mono hb.size)))).mono ?_; rintro e w5 ⟨u5, rfl, hu5, hb5, hf5⟩; have hbw5 := hbw4.trans (hb5.mono hbw4.size); have row5 := row.below hbw5; have hcd := row5.cell Hlo.out j Hj.out; have hfr := row5.frozen j; unfold ival at hcd))
        go_roundw
        case rel =>
          have hf5' : ∀ k, u5.ownBlock = some k → w.heap.size < k := fun k hk => Nat.lt_of_lt_of_le hsz (Nat.le_trans hbw4.size (hf5 k hk))
          exact ⟨j, s - n, out.set j 1, by omega, by go_num, hu5.far _ _ (fun h => absurd (hf5' _ h) (Nat.lt_irrefl _)), hf5', by have := hbw5.size; simp [World.setCell]; omega, row5.set j 1, (hb.trans (hbw5.mono hb.size)).setCell (p := ⟨w.heap.size, j, none⟩) (Nat.le_refl _) _, Lib.hid (Hp.out.hi hn0 Hx.out Hs.out hlt (by omega))⟩
        case measure => (try simp [intOf]) <;> omega
    · obtain rfl : i = 0 := by omega
      have hlen : out.length = L := Hp.out.1
      have hbits := Lib.hid Hp.out.2.1
      have He := Lib.hid Hp.out.done
      have own := row.own (by omega)
      rw [hlen] at own
      go_wp2_with fail
      refine (trim_any _ out hbits.out (by omega) _ own.sl).mono ?_
      rintro e w1 ⟨u1, rfl, hu1, rfl, hob⟩
      go_wp2_with fail
      go_ret
      rw [He.out] at hu1
      exact ⟨_, rfl, hu1, hb, fun k hk => (World.ownsRow.lt own k (hob.symm.trans hk)).1⟩

end Go.Proofs.YtflnhjfmlminoaaDoor.Fr
