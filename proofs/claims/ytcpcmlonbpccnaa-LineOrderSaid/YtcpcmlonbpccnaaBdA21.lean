/- Walks over layer 5's reference: append from any list; over. -/
import Derived.Test.YtcpcmlonbpccnaaBdA20
import Derived.Deep.RegionHeld
namespace Go.Proofs.Ytcpcmlonbpccnaa.Fr
set_option linter.unusedVariables false
set_option linter.unusedSimpArgs false
open Go.RowKit

section
variable (w : World)
/-- what append does: the source may be nil, empty, or not -/
theorem run_append_int (ty : TypeId) (B : Nat) (v u : Value) (p q : List Nat) (own : OwnInt w B v p) (hq : IntSl w u q) (hlen : p.length + q.length ≤ 1000000) (hB : B ≤ w.heap.size) :
    ∃ v' w', (Builtin.append_ #[112, 112] ty #[v, u]).run Try.prog w = .ok v' w' ∧ OwnInt w' B v' (p ++ q) ∧ w.grownBy w' v.ownBlock := by
  obtain ⟨i0, hi, hz0, hz1, hz2⟩ := info_parts infoI
  have key : ∀ (ad : Addr) (c : Nat), u = .slice (some ad) q.length c → (∀ j x, (q.map ival)[j]? = some x → w.cell? (ad.add j) = some x) →
      ∃ v' w', (Builtin.append_ #[112, 112] ty #[v, u]).run Try.prog w = .ok v' w' ∧ OwnInt w' B v' (p ++ q) ∧ w.grownBy w' v.ownBlock := by
    intro ad c hu hcells
    subst hu
    obtain ⟨v', w', hr, h2, h3, _, h5⟩ := run_append_own_at (P := Try.prog) w B 112 ty 3 i0 _ 1 8 Try.underlying112 hi hz0 hz1 hz2 rfl (by decide) v p.length (p.map ival) own ad q.length c (q.map ival)
      (by simp) hcells (by intro x hx; obtain ⟨s, _, rfl⟩ := List.mem_map.1 hx; rfl) (by unfold maxLen; omega) (by omega) hB
    refine ⟨v', w', hr, ?_, h3⟩
    unfold OwnInt
    rw [List.length_append, List.map_append]
    exact h2
  rcases hq with ⟨rfl, a, c, rfl⟩ | ⟨b, off, c, rfl, h0, hbb, hm, hc⟩
  · cases a with
    | some ad => exact key ad c rfl (by intro j x hx; simp at hx)
    | none =>
      refine ⟨v, w, ?_, by rw [List.append_nil]; exact own, World.grownBy.refl w _⟩
      rcases own.2 with ⟨rfl, hn⟩ | ⟨g, cap, cur, rfl, _, _, hnc, _⟩
      · simp [Builtin.append_, run_underlying Try.underlying112, sizeOf, typeInfo, hi, Builtin.lenOf, Builtin.firstCells]
      · simp [Builtin.append_, run_underlying Try.underlying112, sizeOf, typeInfo, hi, Builtin.lenOf, Builtin.firstCells, hnc, storeCells]
  · refine key ⟨b, off, none⟩ c rfl fun j x hx => ?_
    have hadd : (⟨b, off, none⟩ : Addr).add j = ⟨b, off + j, none⟩ := by unfold Addr.add; split <;> simp_all
    rw [List.getElem?_map] at hx
    by_cases hj : j < q.length
    · rw [List.getElem?_eq_getElem hj] at hx
      rw [hadd, hc j hj]
      simpa using hx
    · rw [List.getElem?_eq_none (by omega)] at hx
      simp at hx
theorem list_append_int {ops : Array Oper} {rest : List Oper} {o : Oper} {a : Act} {Q : Exit → Act → World → Prop} (hgd : o.guard = none) (s x : Operand)
    (ho : o.op = .call { callee := .builtin .append, args := #[s, x], argTypes := #[112, 112] })
    (B : Nat) (v u : Value) (p q : List Nat) (hs : a.eval s = v) (hx : a.eval x = u) (own : OwnInt w B v p) (hq : IntSl w u q) (hlen : p.length + q.length ≤ 1000000) (hB : B ≤ w.heap.size)
    (h : ∀ v' w', OwnInt w' B v' (p ++ q) → w.grownBy w' v.ownBlock → wpList Try.prog ops Q rest (a.put o.dst v') w') : wpList Try.prog ops Q (o :: rest) a w :=
  wpList_plain hgd fun K hK => by
    obtain ⟨v', w', hr, h2, h3⟩ := run_append_int w o.type B v u p q own hq hlen hB
    unfold Oper.wp execOp
    simp only [ho, resolve, invoke, builtin, Sem.run_bind, Sem.run_pure, Result.andThen_ok, List.map_toArray, List.map_cons, List.map_nil, hs, hx, hr]
    exact hK _ _ (h v' w' h2 h3)
end
theorem OwnInt.lit (w : World) (B : Nat) (x : Nat) (hB : B ≤ w.heap.size) : OwnInt (w.alloc (.cells #[.int .i64 (x : Int)] 3)) B (.slice (some ⟨w.heap.size, 0, none⟩) 1 1) [x] :=
  World.ownsRow_lit w #[.int .i64 (x : Int)] 1 hB (by decide) (by rfl)

theorem IntSl.far {w : World} {v : Value} {l : List Nat} (h : IntSl w v l) (p : Addr) (u : Value) (hne : v.ownBlock ≠ some p.block) : IntSl (w.setCell p u) v l := by
  rcases h with ⟨rfl, a, cap, rfl⟩ | ⟨b, off, cap, rfl, h0, hbb, hm, hc⟩
  · exact .inl ⟨rfl, _, _, rfl⟩
  · refine .inr ⟨b, off, cap, rfl, h0, by simpa [World.setCell] using hbb, hm, fun i hi => ?_⟩
    rw [World.cell?_setCell_far w p ⟨b, off + i, none⟩ u (fun e => hne (by simp [Value.ownBlock, e])), hc i hi]

/-! ### over -/
/-- what the rounds of over keep -/
def OverAt (m n L i r : Nat) (out : List Nat) : Prop := out.length = L ∧ Bits out ∧ m / 2 ^ i % n = r ∧ bv out = m / 2 ^ i / n * 2 ^ i ∧ ∀ j (h : j < out.length), j < i → out[j] = 0
theorem OverAt.start {m n : Nat} : OverAt m n (bin m).length (bin m).length 0 (List.replicate (bin m).length 0) :=
  ⟨by simp, fun x hx => by rw [List.eq_of_mem_replicate hx]; omega, by rw [div_top, Nat.zero_mod], by rw [bv_zeros, div_top, Nat.zero_div, Nat.zero_mul], fun j h _ => by simp⟩
theorem quot_step {m n j r x s : Nat} (hn : 0 < n) (hr : m / 2 ^ (j + 1) % n = r) (hx : m / 2 ^ j % 2 = x) (hs : x + 2 * r = s) :
    m / 2 ^ j % n = (if s < n then s else s - n) ∧ m / 2 ^ j / n = 2 * (m / 2 ^ (j + 1) / n) + if s < n then 0 else 1 := by
  have e1 := div_step m j
  have e2 := Nat.div_add_mod (m / 2 ^ (j + 1)) n
  have e3 := Nat.mod_lt (m / 2 ^ (j + 1)) hn
  rw [hx] at e1
  rw [hr] at e2 e3
  generalize m / 2 ^ (j + 1) / n = q at *
  generalize m / 2 ^ (j + 1) = Q at *
  have e4 : m / 2 ^ j = s + n * (2 * q) := by
    rw [e1, ← e2, Nat.mul_left_comm]
    omega
  rw [e4]
  by_cases h : s < n
  · rw [if_pos h, if_pos h, Nat.add_mul_mod_self_left, Nat.add_mul_div_left _ _ hn, Nat.mod_eq_of_lt h, Nat.div_eq_of_lt h]
    omega
  · have e5 : s + n * (2 * q) = (s - n) + n * (2 * q + 1) := by rw [Nat.mul_add]; omega
    rw [if_neg h, if_neg h, e5, Nat.add_mul_mod_self_left, Nat.add_mul_div_left _ _ hn, Nat.mod_eq_of_lt (by omega), Nat.div_eq_of_lt (by omega)]
    omega
theorem OverAt.lo {m n L j r x s : Nat} {out : List Nat} (h : OverAt m n L (j + 1) r out) (hn : 0 < n) (hx : m / 2 ^ j % 2 = x) (hs : x + 2 * r = s) (hlt : s < n) : OverAt m n L j s out := by
  obtain ⟨h1, h2, h3, h4, h5⟩ := h
  obtain ⟨e1, e2⟩ := quot_step hn h3 hx hs
  rw [if_pos hlt] at e1 e2
  refine ⟨h1, h2, e1, ?_, fun k hk hkj => h5 k hk (by omega)⟩
  rw [h4, e2, Nat.pow_succ, Nat.add_zero, Nat.mul_comm (2 ^ j) 2, ← Nat.mul_assoc, Nat.mul_comm _ 2]
theorem OverAt.hi {m n L j r x s : Nat} {out : List Nat} (h : OverAt m n L (j + 1) r out) (hn : 0 < n) (hx : m / 2 ^ j % 2 = x) (hs : x + 2 * r = s) (hlt : ¬ s < n) (hjL : j < L) : OverAt m n L j (s - n) (out.set j 1) := by
  obtain ⟨h1, h2, h3, h4, h5⟩ := h
  obtain ⟨e1, e2⟩ := quot_step hn h3 hx hs
  rw [if_neg hlt] at e1 e2
  have hjl : j < out.length := by omega
  have e := bv_set out j 1 hjl
  rw [h5 j hjl (by omega), Nat.mul_zero, Nat.mul_one, Nat.add_zero] at e
  refine ⟨by rw [List.length_set]; exact h1, h2.set _ _ (Nat.le_refl _), e1, ?_, fun k hk hkj => ?_⟩
  · rw [e, h4, e2, Nat.pow_succ, Nat.mul_comm (2 ^ j) 2, ← Nat.mul_assoc, Nat.mul_comm _ 2, Nat.add_mul, Nat.one_mul]
  · rw [List.getElem_set_ne (by omega)]
    exact h5 k (by simpa using hk) (by omega)
theorem OverAt.done {m n L r : Nat} {out : List Nat} (h : OverAt m n L 0 r out) : bv out = m / n := by
  rw [h.2.2.2.1, Nat.pow_zero, Nat.div_one, Nat.mul_one]

theorem bin_len_le {a b : Nat} (h : a ≤ b) : (bin a).length ≤ (bin b).length := by
  refine Nat.le_of_not_lt fun hk => ?_
  have := lt_of_len hk
  omega
theorem bin_len_step (x r : Nat) (hx : x ≤ 1) : (bin (x + 2 * r)).length ≤ (bin r).length + 1 :=
  bin_length_le (by have := bin_lt r; rw [Nat.pow_succ]; omega)

end Go.Proofs.Ytcpcmlonbpccnaa.Fr

/- Walks over layer 5's reference: value. -/
namespace Go.Proofs.Ytcpcmlonbpccnaa.Fr
set_option linter.unusedVariables false
set_option linter.unusedSimpArgs false
open Go.RowKit

/-- what value returns -/
def vaN (m : Nat) : Nat := if m ≤ 4611686018427387904 then m else 0
end Go.Proofs.Ytcpcmlonbpccnaa.Fr

/- Walks over layer 5's reference: divisor. Written by wip/tools/frdivisor.py. -/
namespace Go.Proofs.Ytcpcmlonbpccnaa.Fr
set_option linter.unusedVariables false
set_option linter.unusedSimpArgs false
open Go.RowKit

def slLen : Value → Nat
  | .slice _ n _ => n
  | _ => 0
theorem IntSl.inj {w : World} {v : Value} {l k : List Nat} (h : IntSl w v l) (h' : IntSl w v k) : l = k := by
  obtain ⟨a, c, e, hc⟩ := h.open_
  obtain ⟨a', c', e', hc'⟩ := h'.open_
  rw [e] at e'
  simp only [Value.slice.injEq] at e'
  obtain ⟨rfl, hl, rfl⟩ := e'
  refine List.ext_getElem hl fun i h1 h2 => ?_
  obtain ⟨b, off, ea, _, hx⟩ := hc i h1
  obtain ⟨b', off', ea', _, hx'⟩ := hc' i h2
  rw [ea] at ea'
  simp only [Option.some.injEq, Addr.mk.injEq, and_true] at ea'
  obtain ⟨rfl, rfl⟩ := ea'
  rw [hx] at hx'
  simp only [Option.some.injEq, ival, Value.int.injEq, true_and] at hx'
  omega
open Classical in
noncomputable def valOf (w : World) (v : Value) : Nat := if h : ∃ n, IntSl w v (bin n) then h.choose else 0
theorem valOf_eq {w : World} {v : Value} {n : Nat} (h : IntSl w v (bin n)) : valOf w v = n := by
  have hx : ∃ n, IntSl w v (bin n) := ⟨n, h⟩
  unfold valOf
  rw [dif_pos hx]
  exact bin_inj (hx.choose_spec.inj h)
theorem IntSl.pos {w : World} {v : Value} {p : Nat} (h : IntSl w v (bin p)) (hp : 0 < p) : ∃ b off K C, v = .slice (some ⟨b, off, none⟩) (K + 1) (C + 1) ∧ (bin p).length = K + 1 ∧ K ≤ C ∧ C + 1 ≤ 9223372036854775807 ∧ b < w.heap.size ∧
    w.cell? ⟨b, off, none⟩ = some (.int .i64 ((p % 2 : Nat) : Int)) ∧ (p % 2 = 0 → 0 < K ∧ (bin (p / 2)).length = K ∧ IntSl w (.slice (some ⟨b, off + 1, none⟩) K C) (bin (p / 2))) := by
  have hl := bin_length_pos (n := p) (by omega)
  rcases h with ⟨h0, _⟩ | ⟨b, off, cap, rfl, h0, hb, hm, hc⟩
  · rw [h0] at hl; simp at hl
  · have hsl : IntSl w (.slice (some ⟨b, off, none⟩) (bin p).length cap) (bin p) := .inr ⟨b, off, cap, rfl, h0, hb, hm, hc⟩
    have hc0 := hc 0 h0
    rw [bin_get, Nat.pow_zero, Nat.div_one, Nat.add_zero] at hc0
    unfold maxLen at hm
    refine ⟨b, off, (bin p).length - 1, cap - 1, by congr 1 <;> omega, by omega, by omega, by omega, hb, hc0, fun he => ?_⟩
    have h2 : 1 < (bin p).length := by
      rw [bin_step (by omega), List.length_cons]
      have := bin_length_pos (n := p / 2) (by omega)
      omega
    have e := hsl.drop 1 h2
    have e2 : (bin p).drop 1 = bin (p / 2) := by rw [bin_drop]
    refine ⟨by omega, by rw [← e2, List.length_drop], ?_⟩
    rw [← e2]
    exact e
theorem IntSl.zero {w : World} {v : Value} (h : IntSl w v (bin 0)) : ∃ a c, v = .slice a 0 c := by
  obtain ⟨a, c, e⟩ := h.shape
  rw [bin_zero] at e
  exact ⟨a, c, e⟩
theorem bin_shift (t p : Nat) (hp : 0 < p) : List.replicate t 0 ++ bin p = bin (2 ^ t * p) := by
  have e : bv (List.replicate t 0 ++ bin p) = 2 ^ t * p := by rw [bv_append, bv_zeros, bv_bin, List.length_replicate, Nat.zero_add]
  rw [← e]
  refine canon _ (Bits.append (fun x hx => by rw [List.eq_of_mem_replicate hx]; omega) (bin_bits p)) (.inr ?_)
  have hl := bin_length_pos (n := p) (by omega)
  rw [e, List.length_append, List.length_replicate, Nat.add_sub_assoc hl, Nat.pow_add]
  exact Nat.mul_le_mul_left _ (bin_ge p (by omega))
theorem gcd_strip {p k q : Nat} (h : Nat.gcd (p * 2 ^ k) q % 2 = 1) : Nat.gcd p q = Nat.gcd (p * 2 ^ k) q := by
  apply Nat.dvd_antisymm
  · exact Nat.dvd_gcd (Nat.dvd_trans (Nat.gcd_dvd_left _ _) (Nat.dvd_mul_right _ _)) (Nat.gcd_dvd_right _ _)
  · refine Nat.dvd_gcd ?_ (Nat.gcd_dvd_right _ _)
    have hc : Nat.Coprime (Nat.gcd (p * 2 ^ k) q) (2 ^ k) := by
      refine Nat.Coprime.pow_right k ?_
      rw [Nat.coprime_iff_gcd_eq_one, Nat.gcd_comm, Nat.gcd_rec, h, Nat.gcd_one_left]
    exact hc.dvd_of_dvd_mul_right (Nat.gcd_dvd_left _ _)
theorem gcd_strip' {p k q : Nat} (h : Nat.gcd p (q * 2 ^ k) % 2 = 1) : Nat.gcd p q = Nat.gcd p (q * 2 ^ k) := by
  rw [Nat.gcd_comm p q, Nat.gcd_comm p] 
  rw [Nat.gcd_comm p] at h
  exact gcd_strip h
theorem gcd_odd {p q : Nat} (h : p % 2 = 1 ∨ q % 2 = 1) : Nat.gcd p q % 2 = 1 := by
  have h1 := Nat.gcd_dvd_left p q
  have h2 := Nat.gcd_dvd_right p q
  refine Classical.byContradiction fun hn => ?_
  have h3 : 2 ∣ Nat.gcd p q := Nat.dvd_of_mod_eq_zero (by omega)
  have h4 := Nat.dvd_trans h3 h1
  have h5 := Nat.dvd_trans h3 h2
  omega
theorem half_pow {m p t : Nat} (h : m = p * 2 ^ t) (he : p % 2 = 0) : m = p / 2 * 2 ^ (t + 1) := by
  rw [h, Nat.pow_succ, Nat.mul_comm (2 ^ t) 2, ← Nat.mul_assoc]
  congr 1
  omega
/-- what hands back a number's digits -/
def RetSl (w : World) (n : Nat) (e : Ending) (w' : World) : Prop := ∃ u, e = .returned u ∧ IntSl w' u (bin n) ∧ Below w.heap.size w w'
theorem made_own {w : World} {B t : Nat} {v : Value} (h : w.ownsRow B 3 1 v t (madeCells #[Value.int .i64 0] t).toList) : OwnInt w B v (List.replicate t 0) := by
  unfold OwnInt
  rw [List.length_replicate, ← made_zero]
  exact h

theorem made_own' {w : World} {B t : Nat} {v : Value} (h : w.ownsRow B 3 1 v t (madeCells (Value.int .i64 0).cells (t * 1)).toList) : OwnInt w B v (List.replicate t 0) := by
  rw [Nat.mul_one] at h
  exact made_own h

set_option maxRecDepth 100000 in
set_option maxHeartbeats 4000000 in
theorem divisor_pos (v u : Value) (m n : Nat) (hm0 : 0 < m) (hn0 : 0 < n) (hm : (bin m).length ≤ 500) (hn : (bin n).length ≤ 500) (w : World) (hv : IntSl w v (bin m)) (hu : IntSl w u (bin n)) :
    Calls Try.prog 112 #[v, u] w (RetSl w (Nat.gcd m n)) := by
  obtain ⟨a1, c1, rfl⟩ := hv.shape
  obtain ⟨a2, c2, rfl⟩ := hu.shape
  have hl1 := bin_length_pos (n := m) (by omega)
  have hl2 := bin_length_pos (n := n) (by omega)
  have Hv := Lib.hid hv
  have Hu := Lib.hid hu
  obtain ⟨i0, hi, hz0, hz1, hz2⟩ := info_parts infoI
  obtain ⟨L1, hL1⟩ : ∃ L, (bin m).length = L := ⟨_, rfl⟩
  obtain ⟨L2, hL2⟩ : ∃ L, (bin n).length = L := ⟨_, rfl⟩
  have HL1 := Lib.hid hL1
  have HL2 := Lib.hid hL2
  rw [hL1] at hm hl1 Hv ⊢
  rw [hL2] at hn hl2 Hu ⊢
  clear hv hu hL1 hL2
  have z1 : ((L1 : Int) == 0) = false := by rw [beq_eq_false_iff_ne]; omega
  have z2 : ((L2 : Int) == 0) = false := by rw [beq_eq_false_iff_ne]; omega
  go_enter Try.func112, Try.ntmps112
  go_wp2_with fail
  go_loopw [0, 1, 5] (fun av bv tv wr => ∃ p q t : Nat, 0 < p ∧ 0 < q ∧ (bin p).length + t ≤ 500 ∧ (bin q).length + t ≤ 500 ∧ tv = .int .i64 (t : Int) ∧ IntSl wr av (bin p) ∧ IntSl wr bv (bin q) ∧ w = wr ∧ Hid (m = p * 2 ^ t ∧ n = q * 2 ^ t)) (fun av _ _ _ => slLen av)
  case atStart => exact ⟨m, n, 0, hm0, hn0, by rw [HL1.out]; exact hm, by rw [HL2.out]; exact hn, rfl, Hv.out, Hu.out, by simp, Lib.hid ⟨by simp, by simp⟩⟩
  case round =>
    obtain ⟨p, q, t, hp0, hq0, hlp, hlq, rfl, ha, hb, rfl, He⟩ := hrel
    obtain ⟨b1, o1, K1, C1, rfl, hK1, hKC1, hC1, hbb1, hc1, hh1⟩ := ha.pos hp0
    obtain ⟨b2, o2, K2, C2, rfl, hK2, hKC2, hC2, hbb2, hc2, hh2⟩ := hb.pos hq0
    obtain ⟨x, hx⟩ : ∃ x, p % 2 = x := ⟨_, rfl⟩
    obtain ⟨y, hy⟩ : ∃ y, q % 2 = y := ⟨_, rfl⟩
    have Hx := Lib.hid hx
    have Hy := Lib.hid hy
    have hx1 : x ≤ 1 := by omega
    have hy1 : y ≤ 1 := by omega
    rw [hx] at hc1 hh1
    rw [hy] at hc2 hh2
    rw [hK1] at hlp
    rw [hK2] at hlq
    have Ha := Lib.hid ha
    have Hb := Lib.hid hb
    clear ha hb hx hy hK1 hK2
    by_cases hx0 : x = 0
    · subst hx0
      obtain ⟨hk1, hl1', hs1⟩ := hh1 rfl
      clear hh1
      by_cases hy0 : y = 0
      · subst hy0
        obtain ⟨hk2, hl2', hs2⟩ := hh2 rfl
        have g1 : ¬ C1 = 0 := by omega
        have g2 : ¬ C2 = 0 := by omega
        have Hs1 := Lib.hid hs1
        have Hs2 := Lib.hid hs2
        have Hl1 := Lib.hid hl1'
        have Hl2 := Lib.hid hl2'
        clear hh2 hs1 hs2 hl1' hl2'
        go_wp2_with fail
        go_roundw
        case rel => exact ⟨p / 2, q / 2, t + 1, by have := Hx.out; omega, by have := Hy.out; omega, by rw [Hl1.out]; omega, by rw [Hl2.out]; omega, by go_num, Hs1.out, Hs2.out, by simp, Lib.hid ⟨half_pow He.out.1 Hx.out, half_pow He.out.2 Hy.out⟩⟩
        case measure => simp [slLen]
      · obtain rfl : y = 1 := by omega
        clear hh2 hs1 hl1'
        have Ho := Lib.hid (gcd_odd (p := p) (q := q) (.inr Hy.out))
        go_wp2_with fail
        go_loopw [0, 1] (fun av bv wr => ∃ r s : Nat, IntSl wr av (bin r) ∧ IntSl wr bv (bin s) ∧ Below w.heap.size w wr ∧ Hid (Nat.gcd r s = Nat.gcd p q ∧ r ≤ p ∧ s ≤ q)) (fun av bv wr => valOf wr av + valOf wr bv)
        case atStart => exact ⟨p, q, Ha.out, Hb.out, Below.refl _ _, Lib.hid ⟨rfl, Nat.le_refl _, Nat.le_refl _⟩⟩
        case round =>
          clear hc1 hc2
          obtain ⟨r, s, ha, hb, hbl, Hr⟩ := hrel
          have HG := Lib.hid (show Nat.gcd m n = 2 ^ t * Nat.gcd r s by rw [He.out.1, He.out.2, Nat.gcd_mul_right, Hr.out.1, Nat.mul_comm])
          have Hlr := Lib.hid (show (bin r).length ≤ 500 from Nat.le_trans (bin_len_le (Nat.le_trans Hr.out.2.1 (show p ≤ m by rw [He.out.1]; exact Nat.le_mul_of_pos_right _ (Nat.two_pow_pos _)))) (by rw [HL1.out]; exact hm))
          have Hls := Lib.hid (show (bin s).length ≤ 500 from Nat.le_trans (bin_len_le (Nat.le_trans Hr.out.2.2 (show q ≤ n by rw [He.out.2]; exact Nat.le_mul_of_pos_right _ (Nat.two_pow_pos _)))) (by rw [HL2.out]; exact hn))
          by_cases hr0 : r = 0
          · subst hr0
            obtain ⟨a3, c3, rfl⟩ := ha.zero
            have hs0 : 0 < s := by
              have e := Hr.out.1
              rw [Nat.gcd_zero_left] at e
              have := Ho.out
              omega
            have Hsl := Lib.hid hb
            clear ha hb
            go_wp2_with (first | (at_make; refine wpList_make_full _ rfl _ _ 112 rfl wr.heap.size 3 i0 (.int .i64 0) 1 Try.underlying112 hi hz0 hz1 .i64 .i64 _ _ t rfl rfl rfl rfl (by rw [hz2]; omega) (by unfold maxLen; omega) (Nat.le_refl _) ?_; intro w1 hown1 hgrow1; have own1 : OwnInt w1 wr.heap.size _ (List.replicate t 0) := made_own' hown1; have hbw1 : Below wr.heap.size wr w1 := (Below.refl _ _).grown hgrow1 (Nat.le_refl _) (fun k hk => by simp at hk); clear hown1) | (at_builtin; refine list_append_int _ rfl _ _ rfl wr.heap.size _ _ (List.replicate t 0) (bin s) rfl rfl own1 (Hsl.out.below hbw1) (by have := Hls.out; rw [List.length_replicate]; omega) hbw1.size ?_; intro v2 w2 own2 grow2; have hbw2 : Below wr.heap.size wr w2 := hbw1.grown grow2 hbw1.size (fun k hk => (World.ownsRow.lt own1 k hk).1)))
            go_ret
            refine ⟨_, rfl, ?_, hbl.trans (hbw2.mono hbl.size)⟩
            rw [HG.out, Nat.gcd_zero_left, ← bin_shift t s hs0]
            exact own2.sl
          · by_cases hs0 : s = 0
            · subst hs0
              obtain ⟨a3, c3, rfl⟩ := hb.zero
              have Hsl := Lib.hid ha
              obtain ⟨b3, o3, K3, C3, rfl, hK3, hKC3, hC3, hbb3, hc3, hh3⟩ := ha.pos (by omega)
              clear hb ha hc3 hh3
              go_wp2_with (first | (at_make; refine wpList_make_full _ rfl _ _ 112 rfl wr.heap.size 3 i0 (.int .i64 0) 1 Try.underlying112 hi hz0 hz1 .i64 .i64 _ _ t rfl rfl rfl rfl (by rw [hz2]; omega) (by unfold maxLen; omega) (Nat.le_refl _) ?_; intro w1 hown1 hgrow1; have own1 : OwnInt w1 wr.heap.size _ (List.replicate t 0) := made_own' hown1; have hbw1 : Below wr.heap.size wr w1 := (Below.refl _ _).grown hgrow1 (Nat.le_refl _) (fun k hk => by simp at hk); clear hown1) | (at_builtin; refine list_append_int _ rfl _ _ rfl wr.heap.size _ _ (List.replicate t 0) (bin r) rfl rfl own1 (Hsl.out.below hbw1) (by have := Hlr.out; rw [List.length_replicate]; omega) hbw1.size ?_; intro v2 w2 own2 grow2; have hbw2 : Below wr.heap.size wr w2 := hbw1.grown grow2 hbw1.size (fun k hk => (World.ownsRow.lt own1 k hk).1)))
              go_ret
              refine ⟨_, rfl, ?_, hbl.trans (hbw2.mono hbl.size)⟩
              rw [HG.out, Nat.gcd_zero_right, ← bin_shift t r (by omega)]
              exact own2.sl
            · have Hva := Lib.hid (valOf_eq ha)
              have Hvb := Lib.hid (valOf_eq hb)
              have Hsa := Lib.hid ha
              have Hsb := Lib.hid hb
              obtain ⟨b3, o3, K3, C3, rfl, hK3, hKC3, hC3, hbb3, hc3, hh3⟩ := ha.pos (by omega)
              obtain ⟨b4, o4, K4, C4, rfl, hK4, hKC4, hC4, hbb4, hc4, hh4⟩ := hb.pos (by omega)
              have Hbl := Lib.hid hbl
              clear hb ha hc3 hh3 hc4 hh4 hbl hK3 hK4
              go_wp2_with fail
              go_loopw [0] (fun av wr2 => ∃ r2 : Nat, 0 < r2 ∧ IntSl wr2 av (bin r2) ∧ wr = wr2 ∧ Hid (∃ k, r = r2 * 2 ^ k)) (fun av _ => slLen av)
              case atStart => exact ⟨r, by omega, Hsa.out, by simp, Lib.hid ⟨0, by simp⟩⟩
              case round =>
                obtain ⟨r2, hr2, ha, rfl, Hr2⟩ := hrel
                obtain ⟨b5, o5, K5, C5, rfl, hK5, hKC5, hC5, hbb5, hc5, hh5⟩ := ha.pos hr2
                obtain ⟨x5, hx5⟩ : ∃ x, r2 % 2 = x := ⟨_, rfl⟩
                have Hx5 := Lib.hid hx5
                have hx51 : x5 ≤ 1 := by omega
                rw [hx5] at hc5 hh5
                have Ha5 := Lib.hid ha
                clear ha hx5 hK5
                by_cases hx50 : x5 = 0
                · subst hx50
                  obtain ⟨hk5, hl5, hs5⟩ := hh5 rfl
                  have g5 : ¬ C5 = 0 := by omega
                  have Hs5 := Lib.hid hs5
                  clear hh5 hs5 hl5
                  go_wp2_with fail
                  go_roundw
                  case rel => exact ⟨r2 / 2, by have := Hx5.out; omega, Hs5.out, by simp, Lib.hid (by obtain ⟨k, hk⟩ := Hr2.out; exact ⟨k + 1, half_pow hk Hx5.out⟩)⟩
                  case measure => simp [slLen]
                · obtain rfl : x5 = 1 := by omega
                  clear hh5
                  go_wp2_with fail
                  clear hc5
                  go_loopw [1] (fun bv wr2 => ∃ s2 : Nat, 0 < s2 ∧ IntSl wr2 bv (bin s2) ∧ wr = wr2 ∧ Hid (∃ k, s = s2 * 2 ^ k)) (fun bv _ => slLen bv)
                  case atStart => exact ⟨s, by omega, Hsb.out, by simp, Lib.hid ⟨0, by simp⟩⟩
                  case round =>
                    obtain ⟨s2, hs2, hb, rfl, Hs2⟩ := hrel
                    obtain ⟨b6, o6, K6, C6, rfl, hK6, hKC6, hC6, hbb6, hc6, hh6⟩ := hb.pos hs2
                    obtain ⟨x6, hx6⟩ : ∃ x, s2 % 2 = x := ⟨_, rfl⟩
                    have Hx6 := Lib.hid hx6
                    have hx61 : x6 ≤ 1 := by omega
                    rw [hx6] at hc6 hh6
                    have Hb6 := Lib.hid hb
                    clear hb hx6 hK6
                    by_cases hx60 : x6 = 0
                    · subst hx60
                      obtain ⟨hk6, hl6, hs6⟩ := hh6 rfl
                      have g6 : ¬ C6 = 0 := by omega
                      have Hs6 := Lib.hid hs6
                      clear hh6 hs6 hl6
                      go_wp2_with fail
                      go_roundw
                      case rel => exact ⟨s2 / 2, by have := Hx6.out; omega, Hs6.out, by simp, Lib.hid (by obtain ⟨k, hk⟩ := Hs2.out; exact ⟨k + 1, half_pow hk Hx6.out⟩)⟩
                      case measure => simp [slLen]
                    · obtain rfl : x6 = 1 := by omega
                      clear hh6
                      have Hle := Lib.hid (show r2 ≤ r ∧ s2 ≤ s from by
                        obtain ⟨k, hk⟩ := Hr2.out
                        obtain ⟨k', hk'⟩ := Hs2.out
                        exact ⟨by rw [hk]; exact Nat.le_mul_of_pos_right _ (Nat.two_pow_pos _), by rw [hk']; exact Nat.le_mul_of_pos_right _ (Nat.two_pow_pos _)⟩)
                      have Hgg := Lib.hid (show Nat.gcd r2 s2 = Nat.gcd p q from by
                        obtain ⟨k, hk⟩ := Hr2.out
                        obtain ⟨k', hk'⟩ := Hs2.out
                        have h1 := Hr.out.1
                        have h2 := Ho.out
                        rw [hk, hk'] at h1
                        rw [← h1] at h2
                        have e1 := gcd_strip h2
                        rw [← e1] at h2
                        rw [gcd_strip' h2, e1, h1])
                      have Hl2 := Lib.hid (show (bin r2).length ≤ 500 ∧ (bin s2).length ≤ 500 from ⟨Nat.le_trans (bin_len_le Hle.out.1) Hlr.out, Nat.le_trans (bin_len_le Hle.out.2) Hls.out⟩)
                      by_cases hlt : r2 < s2
                      · have hle : r2 ≤ s2 := by omega
                        go_wp2_with (first
                          | (go_at_call 100; refine (less_any _ _ r2 s2 (by have := Hl2.out.1; omega) (by have := Hl2.out.2; omega) _ Ha5.out Hb6.out).mono ?_; rintro e w4 ⟨rfl, hb4⟩)
                          | (go_at_call 126; refine (rminus_any _ _ s2 r2 hle (by have := Hl2.out.2; omega) _ (Hb6.out.below hb4) (Ha5.out.below hb4)).mono ?_; rintro e w5 ⟨u5, rfl, hu5, hb5, _⟩))
                        have hbw5 := hb4.trans (hb5.mono hb4.size)
                        have ha5' := Ha5.out.below hbw5
                        go_roundw
                        case rel => exact ⟨r2, s2 - r2, ha5', hu5, Hbl.out.trans (hbw5.mono Hbl.out.size), Lib.hid ⟨by rw [Nat.gcd_sub_self_right hle]; exact Hgg.out, Nat.le_trans Hle.out.1 Hr.out.2.1, Nat.le_trans (Nat.sub_le _ _) (Nat.le_trans Hle.out.2 Hr.out.2.2)⟩⟩
                        case measure =>
                          have e1 := Hva.out
                          have e2 := Hvb.out
                          have e3 := valOf_eq ha5'
                          have e4 := valOf_eq hu5
                          have e5 := Hle.out
                          simp only [e1, e2, e3, e4]
                          omega
                      · have hle : s2 ≤ r2 := by omega
                        go_wp2_with (first
                          | (go_at_call 100; refine (less_any _ _ r2 s2 (by have := Hl2.out.1; omega) (by have := Hl2.out.2; omega) _ Ha5.out Hb6.out).mono ?_; rintro e w4 ⟨rfl, hb4⟩)
                          | (go_at_call 126; refine (rminus_any _ _ r2 s2 hle (by have := Hl2.out.1; omega) _ (Ha5.out.below hb4) (Hb6.out.below hb4)).mono ?_; rintro e w5 ⟨u5, rfl, hu5, hb5, _⟩))
                        have hbw5 := hb4.trans (hb5.mono hb4.size)
                        have hb6' := Hb6.out.below hbw5
                        go_roundw
                        case rel => exact ⟨r2 - s2, s2, hu5, hb6', Hbl.out.trans (hbw5.mono Hbl.out.size), Lib.hid ⟨by rw [Nat.gcd_sub_self_left hle]; exact Hgg.out, Nat.le_trans (Nat.sub_le _ _) (Nat.le_trans Hle.out.1 Hr.out.2.1), Nat.le_trans Hle.out.2 Hr.out.2.2⟩⟩
                        case measure =>
                          have e1 := Hva.out
                          have e2 := Hvb.out
                          have e3 := valOf_eq hb6'
                          have e4 := valOf_eq hu5
                          have e5 := Hle.out
                          simp only [e1, e2, e3, e4]
                          omega
    · obtain rfl : x = 1 := by omega
      clear hh1 hh2
      have Ho := Lib.hid (gcd_odd (p := p) (q := q) (.inl Hx.out))
      go_wp2_with fail
      go_loopw [0, 1] (fun av bv wr => ∃ r s : Nat, IntSl wr av (bin r) ∧ IntSl wr bv (bin s) ∧ Below w.heap.size w wr ∧ Hid (Nat.gcd r s = Nat.gcd p q ∧ r ≤ p ∧ s ≤ q)) (fun av bv wr => valOf wr av + valOf wr bv)
      case atStart => exact ⟨p, q, Ha.out, Hb.out, Below.refl _ _, Lib.hid ⟨rfl, Nat.le_refl _, Nat.le_refl _⟩⟩
      case round =>
        clear hc1 hc2
        obtain ⟨r, s, ha, hb, hbl, Hr⟩ := hrel
        have HG := Lib.hid (show Nat.gcd m n = 2 ^ t * Nat.gcd r s by rw [He.out.1, He.out.2, Nat.gcd_mul_right, Hr.out.1, Nat.mul_comm])
        have Hlr := Lib.hid (show (bin r).length ≤ 500 from Nat.le_trans (bin_len_le (Nat.le_trans Hr.out.2.1 (show p ≤ m by rw [He.out.1]; exact Nat.le_mul_of_pos_right _ (Nat.two_pow_pos _)))) (by rw [HL1.out]; exact hm))
        have Hls := Lib.hid (show (bin s).length ≤ 500 from Nat.le_trans (bin_len_le (Nat.le_trans Hr.out.2.2 (show q ≤ n by rw [He.out.2]; exact Nat.le_mul_of_pos_right _ (Nat.two_pow_pos _)))) (by rw [HL2.out]; exact hn))
        by_cases hr0 : r = 0
        · subst hr0
          obtain ⟨a3, c3, rfl⟩ := ha.zero
          have hs0 : 0 < s := by
            have e := Hr.out.1
            rw [Nat.gcd_zero_left] at e
            have := Ho.out
            omega
          have Hsl := Lib.hid hb
          clear ha hb
          go_wp2_with (first | (at_make; refine wpList_make_full _ rfl _ _ 112 rfl wr.heap.size 3 i0 (.int .i64 0) 1 Try.underlying112 hi hz0 hz1 .i64 .i64 _ _ t rfl rfl rfl rfl (by rw [hz2]; omega) (by unfold maxLen; omega) (Nat.le_refl _) ?_; intro w1 hown1 hgrow1; have own1 : OwnInt w1 wr.heap.size _ (List.replicate t 0) := made_own' hown1; have hbw1 : Below wr.heap.size wr w1 := (Below.refl _ _).grown hgrow1 (Nat.le_refl _) (fun k hk => by simp at hk); clear hown1) | (at_builtin; refine list_append_int _ rfl _ _ rfl wr.heap.size _ _ (List.replicate t 0) (bin s) rfl rfl own1 (Hsl.out.below hbw1) (by have := Hls.out; rw [List.length_replicate]; omega) hbw1.size ?_; intro v2 w2 own2 grow2; have hbw2 : Below wr.heap.size wr w2 := hbw1.grown grow2 hbw1.size (fun k hk => (World.ownsRow.lt own1 k hk).1)))
          go_ret
          refine ⟨_, rfl, ?_, hbl.trans (hbw2.mono hbl.size)⟩
          rw [HG.out, Nat.gcd_zero_left, ← bin_shift t s hs0]
          exact own2.sl
        · by_cases hs0 : s = 0
          · subst hs0
            obtain ⟨a3, c3, rfl⟩ := hb.zero
            have Hsl := Lib.hid ha
            obtain ⟨b3, o3, K3, C3, rfl, hK3, hKC3, hC3, hbb3, hc3, hh3⟩ := ha.pos (by omega)
            clear hb ha hc3 hh3
            go_wp2_with (first | (at_make; refine wpList_make_full _ rfl _ _ 112 rfl wr.heap.size 3 i0 (.int .i64 0) 1 Try.underlying112 hi hz0 hz1 .i64 .i64 _ _ t rfl rfl rfl rfl (by rw [hz2]; omega) (by unfold maxLen; omega) (Nat.le_refl _) ?_; intro w1 hown1 hgrow1; have own1 : OwnInt w1 wr.heap.size _ (List.replicate t 0) := made_own' hown1; have hbw1 : Below wr.heap.size wr w1 := (Below.refl _ _).grown hgrow1 (Nat.le_refl _) (fun k hk => by simp at hk); clear hown1) | (at_builtin; refine list_append_int _ rfl _ _ rfl wr.heap.size _ _ (List.replicate t 0) (bin r) rfl rfl own1 (Hsl.out.below hbw1) (by have := Hlr.out; rw [List.length_replicate]; omega) hbw1.size ?_; intro v2 w2 own2 grow2; have hbw2 : Below wr.heap.size wr w2 := hbw1.grown grow2 hbw1.size (fun k hk => (World.ownsRow.lt own1 k hk).1)))
            go_ret
            refine ⟨_, rfl, ?_, hbl.trans (hbw2.mono hbl.size)⟩
            rw [HG.out, Nat.gcd_zero_right, ← bin_shift t r (by omega)]
            exact own2.sl
          · have Hva := Lib.hid (valOf_eq ha)
            have Hvb := Lib.hid (valOf_eq hb)
            have Hsa := Lib.hid ha
            have Hsb := Lib.hid hb
            obtain ⟨b3, o3, K3, C3, rfl, hK3, hKC3, hC3, hbb3, hc3, hh3⟩ := ha.pos (by omega)
            obtain ⟨b4, o4, K4, C4, rfl, hK4, hKC4, hC4, hbb4, hc4, hh4⟩ := hb.pos (by omega)
            have Hbl := Lib.hid hbl
            clear hb ha hc3 hh3 hc4 hh4 hbl hK3 hK4
            go_wp2_with fail
            go_loopw [0] (fun av wr2 => ∃ r2 : Nat, 0 < r2 ∧ IntSl wr2 av (bin r2) ∧ wr = wr2 ∧ Hid (∃ k, r = r2 * 2 ^ k)) (fun av _ => slLen av)
            case atStart => exact ⟨r, by omega, Hsa.out, by simp, Lib.hid ⟨0, by simp⟩⟩
            case round =>
              obtain ⟨r2, hr2, ha, rfl, Hr2⟩ := hrel
              obtain ⟨b5, o5, K5, C5, rfl, hK5, hKC5, hC5, hbb5, hc5, hh5⟩ := ha.pos hr2
              obtain ⟨x5, hx5⟩ : ∃ x, r2 % 2 = x := ⟨_, rfl⟩
              have Hx5 := Lib.hid hx5
              have hx51 : x5 ≤ 1 := by omega
              rw [hx5] at hc5 hh5
              have Ha5 := Lib.hid ha
              clear ha hx5 hK5
              by_cases hx50 : x5 = 0
              · subst hx50
                obtain ⟨hk5, hl5, hs5⟩ := hh5 rfl
                have g5 : ¬ C5 = 0 := by omega
                have Hs5 := Lib.hid hs5
                clear hh5 hs5 hl5
                go_wp2_with fail
                go_roundw
                case rel => exact ⟨r2 / 2, by have := Hx5.out; omega, Hs5.out, by simp, Lib.hid (by obtain ⟨k, hk⟩ := Hr2.out; exact ⟨k + 1, half_pow hk Hx5.out⟩)⟩
                case measure => simp [slLen]
              · obtain rfl : x5 = 1 := by omega
                clear hh5
                go_wp2_with fail
                clear hc5
                go_loopw [1] (fun bv wr2 => ∃ s2 : Nat, 0 < s2 ∧ IntSl wr2 bv (bin s2) ∧ wr = wr2 ∧ Hid (∃ k, s = s2 * 2 ^ k)) (fun bv _ => slLen bv)
                case atStart => exact ⟨s, by omega, Hsb.out, by simp, Lib.hid ⟨0, by simp⟩⟩
                case round =>
                  obtain ⟨s2, hs2, hb, rfl, Hs2⟩ := hrel
                  obtain ⟨b6, o6, K6, C6, rfl, hK6, hKC6, hC6, hbb6, hc6, hh6⟩ := hb.pos hs2
                  obtain ⟨x6, hx6⟩ : ∃ x, s2 % 2 = x := ⟨_, rfl⟩
                  have Hx6 := Lib.hid hx6
                  have hx61 : x6 ≤ 1 := by omega
                  rw [hx6] at hc6 hh6
                  have Hb6 := Lib.hid hb
                  clear hb hx6 hK6
                  by_cases hx60 : x6 = 0
                  · subst hx60
                    obtain ⟨hk6, hl6, hs6⟩ := hh6 rfl
                    have g6 : ¬ C6 = 0 := by omega
                    have Hs6 := Lib.hid hs6
                    clear hh6 hs6 hl6
                    go_wp2_with fail
                    go_roundw
                    case rel => exact ⟨s2 / 2, by have := Hx6.out; omega, Hs6.out, by simp, Lib.hid (by obtain ⟨k, hk⟩ := Hs2.out; exact ⟨k + 1, half_pow hk Hx6.out⟩)⟩
                    case measure => simp [slLen]
                  · obtain rfl : x6 = 1 := by omega
                    clear hh6
                    have Hle := Lib.hid (show r2 ≤ r ∧ s2 ≤ s from by
                      obtain ⟨k, hk⟩ := Hr2.out
                      obtain ⟨k', hk'⟩ := Hs2.out
                      exact ⟨by rw [hk]; exact Nat.le_mul_of_pos_right _ (Nat.two_pow_pos _), by rw [hk']; exact Nat.le_mul_of_pos_right _ (Nat.two_pow_pos _)⟩)
                    have Hgg := Lib.hid (show Nat.gcd r2 s2 = Nat.gcd p q from by
                      obtain ⟨k, hk⟩ := Hr2.out
                      obtain ⟨k', hk'⟩ := Hs2.out
                      have h1 := Hr.out.1
                      have h2 := Ho.out
                      rw [hk, hk'] at h1
                      rw [← h1] at h2
                      have e1 := gcd_strip h2
                      rw [← e1] at h2
                      rw [gcd_strip' h2, e1, h1])
                    have Hl2 := Lib.hid (show (bin r2).length ≤ 500 ∧ (bin s2).length ≤ 500 from ⟨Nat.le_trans (bin_len_le Hle.out.1) Hlr.out, Nat.le_trans (bin_len_le Hle.out.2) Hls.out⟩)
                    by_cases hlt : r2 < s2
                    · have hle : r2 ≤ s2 := by omega
                      go_wp2_with (first
                        | (go_at_call 100; refine (less_any _ _ r2 s2 (by have := Hl2.out.1; omega) (by have := Hl2.out.2; omega) _ Ha5.out Hb6.out).mono ?_; rintro e w4 ⟨rfl, hb4⟩)
                        | (go_at_call 126; refine (rminus_any _ _ s2 r2 hle (by have := Hl2.out.2; omega) _ (Hb6.out.below hb4) (Ha5.out.below hb4)).mono ?_; rintro e w5 ⟨u5, rfl, hu5, hb5, _⟩))
                      have hbw5 := hb4.trans (hb5.mono hb4.size)
                      have ha5' := Ha5.out.below hbw5
                      go_roundw
                      case rel => exact ⟨r2, s2 - r2, ha5', hu5, Hbl.out.trans (hbw5.mono Hbl.out.size), Lib.hid ⟨by rw [Nat.gcd_sub_self_right hle]; exact Hgg.out, Nat.le_trans Hle.out.1 Hr.out.2.1, Nat.le_trans (Nat.sub_le _ _) (Nat.le_trans Hle.out.2 Hr.out.2.2)⟩⟩
                      case measure =>
                        have e1 := Hva.out
                        have e2 := Hvb.out
                        have e3 := valOf_eq ha5'
                        have e4 := valOf_eq hu5
                        have e5 := Hle.out
                        simp only [e1, e2, e3, e4]
                        omega
                    · have hle : s2 ≤ r2 := by omega
                      go_wp2_with (first
                        | (go_at_call 100; refine (less_any _ _ r2 s2 (by have := Hl2.out.1; omega) (by have := Hl2.out.2; omega) _ Ha5.out Hb6.out).mono ?_; rintro e w4 ⟨rfl, hb4⟩)
                        | (go_at_call 126; refine (rminus_any _ _ r2 s2 hle (by have := Hl2.out.1; omega) _ (Ha5.out.below hb4) (Hb6.out.below hb4)).mono ?_; rintro e w5 ⟨u5, rfl, hu5, hb5, _⟩))
                      have hbw5 := hb4.trans (hb5.mono hb4.size)
                      have hb6' := Hb6.out.below hbw5
                      go_roundw
                      case rel => exact ⟨r2 - s2, s2, hu5, hb6', Hbl.out.trans (hbw5.mono Hbl.out.size), Lib.hid ⟨by rw [Nat.gcd_sub_self_left hle]; exact Hgg.out, Nat.le_trans (Nat.sub_le _ _) (Nat.le_trans Hle.out.1 Hr.out.2.1), Nat.le_trans Hle.out.2 Hr.out.2.2⟩⟩
                      case measure =>
                        have e1 := Hva.out
                        have e2 := Hvb.out
                        have e3 := valOf_eq hb6'
                        have e4 := valOf_eq hu5
                        have e5 := Hle.out
                        simp only [e1, e2, e3, e4]
                        omega

theorem rdivisor_any (v u : Value) (m n : Nat) (hm : (bin m).length ≤ 500) (hn : (bin n).length ≤ 500) (w : World) (hv : IntSl w v (bin m)) (hu : IntSl w u (bin n)) :
    Calls Try.prog 112 #[v, u] w (RetSl w (Nat.gcd m n)) := by
  by_cases hm0 : m = 0
  · subst hm0
    obtain ⟨a, c, rfl⟩ := hv.zero
    rw [Nat.gcd_zero_left]
    have Hu := Lib.hid hu
    clear hu hv
    go_enter Try.func112, Try.ntmps112
    go_wp2_with fail
    go_ret
    exact ⟨_, rfl, Hu.out, Below.refl _ _⟩
  · by_cases hn0 : n = 0
    · subst hn0
      obtain ⟨a, c, rfl⟩ := hu.zero
      obtain ⟨a1, c1, rfl⟩ := hv.shape
      rw [Nat.gcd_zero_right]
      have hl := bin_length_pos (n := m) hm0
      obtain ⟨L1, hL1⟩ : ∃ L, (bin m).length = L := ⟨_, rfl⟩
      rw [hL1] at hl hv ⊢
      have Hv := Lib.hid hv
      have hl' : ¬ L1 = 0 := by omega
      clear hu hv hL1
      go_enter Try.func112, Try.ntmps112
      go_wp2_with fail
      go_ret
      exact ⟨_, rfl, Hv.out, Below.refl _ _⟩
    · exact divisor_pos v u m n (by omega) (by omega) hm hn w hv hu

end Go.Proofs.Ytcpcmlonbpccnaa.Fr
