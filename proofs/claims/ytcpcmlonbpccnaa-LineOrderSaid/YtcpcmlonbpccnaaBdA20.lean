/- Walks over layer 5's reference: lists of binary digits; trim, digits. -/
import Derived.Test.YtcpcmlonbpccnaaBdA2
import Derived.Test.YtcpcmlonbpccnaaBdA3
import Derived.Maps.AppendAt
import Derived.Deep.AppendLies
namespace Go.Proofs.Ytcpcmlonbpccnaa.Fr
set_option linter.unusedVariables false
set_option linter.unusedSimpArgs false
open Go.RowKit

theorem infoI : (Try.prog.info? 3).map (fun i => (i.zero, i.size, i.bytes)) = some (some (.int .i64 0), 1, 8) := by kernel_rfl
def ival (d : Nat) : Value := .int .i64 (d : Int)

/-- the value v is a slice of ints, which has just these elements -/
def IntSl (w : World) (v : Value) (l : List Nat) : Prop :=
  (l = [] ∧ ∃ a cap, v = .slice a 0 cap) ∨
  ∃ b off cap, v = .slice (some ⟨b, off, none⟩) l.length cap ∧ 0 < l.length ∧ b < w.heap.size ∧ (l.length ≤ cap ∧ cap ≤ maxLen) ∧ ∀ i (h : i < l.length), w.cell? ⟨b, off + i, none⟩ = some (ival l[i])
theorem IntSl.below {w w' : World} {v : Value} {l : List Nat} (h : IntSl w v l) (hb : Below w.heap.size w w') : IntSl w' v l := by
  rcases h with h | ⟨b, off, cap, hv, h0, hlt, hm, hc⟩
  · exact .inl h
  · exact .inr ⟨b, off, cap, hv, h0, Nat.lt_of_lt_of_le hlt hb.size, hm, fun i hi => (hb.cell (p := ⟨b, off + i, none⟩) hlt).trans (hc i hi)⟩
theorem IntSl.take {w : World} {b off cap : Nat} {l : List Nat} (h : IntSl w (.slice (some ⟨b, off, none⟩) l.length cap) l) (k : Nat) (hk : k ≤ l.length) : IntSl w (.slice (some ⟨b, off, none⟩) k cap) (l.take k) := by
  have hlen : (l.take k).length = k := by rw [List.length_take]; omega
  by_cases hz : k = 0
  · subst hz
    exact .inl ⟨rfl, _, _, rfl⟩
  · rcases h with ⟨rfl, a, cap', _⟩ | ⟨b', off', cap', he, h0, hbb, hm, hc⟩
    · simp at hk; omega
    · simp only [Value.slice.injEq, Option.some.injEq, Addr.mk.injEq, true_and, and_true] at he
      obtain ⟨⟨rfl, rfl⟩, rfl⟩ := he
      refine .inr ⟨b, off, cap, by rw [hlen], by omega, hbb, by omega, fun i hi => ?_⟩
      rw [hlen] at hi
      rw [hc i (by omega), List.getElem_take]
theorem IntSl.drop {w : World} {b off cap : Nat} {l : List Nat} (h : IntSl w (.slice (some ⟨b, off, none⟩) l.length cap) l) (k : Nat) (hk : k < l.length) : IntSl w (.slice (some ⟨b, off + k, none⟩) (l.length - k) (cap - k)) (l.drop k) := by
  have hlen : (l.drop k).length = l.length - k := List.length_drop
  rcases h with ⟨rfl, a, cap', _⟩ | ⟨b', off', cap', he, h0, hbb, hm, hc⟩
  · simp at hk
  · simp only [Value.slice.injEq, Option.some.injEq, Addr.mk.injEq, true_and, and_true] at he
    obtain ⟨⟨rfl, rfl⟩, rfl⟩ := he
    refine .inr ⟨b, off + k, _, by rw [hlen], by omega, hbb, by omega, fun i hi => ?_⟩
    rw [hlen] at hi
    rw [Nat.add_assoc, hc (k + i) (by omega), List.getElem_drop]

/-! ### lists of the call's own -/
theorem grownBelow {w w' : World} (h : Below w.heap.size w w') (row : Option Nat) : w.grownBy w' row := ⟨h.os, h.tape, h.output, h.size, fun i hi _ => h.block i hi⟩
def OwnInt (w : World) (B : Nat) (v : Value) (l : List Nat) : Prop := w.ownsRow B 3 1 v l.length (l.map ival)
theorem OwnInt.below {w w' : World} {B : Nat} {v : Value} {l : List Nat} (h : OwnInt w B v l) (hb : Below w.heap.size w w') : OwnInt w' B v l := by
  have hg := grownBelow hb (some w.heap.size)
  refine World.ownsRow.kept h hg ?_
  right
  intro he
  have := (World.ownsRow.lt h _ he).2
  omega
theorem OwnInt.nil (w : World) (B : Nat) : OwnInt w B (.slice none 0 0) [] := World.ownsRow_nil w B _ 1
theorem OwnInt.ofAlloc {w : World} {B : Nat} {v : Value} {l : List Nat} (h : OwnInt w B v l) (o : Obj) : OwnInt (w.alloc o) B v l := World.ownsRow.alloc h o
theorem OwnInt.sl {w : World} {B : Nat} {v : Value} {l : List Nat} (h : OwnInt w B v l) : IntSl w v l := by
  have h' := h
  rcases h.2 with ⟨rfl, hn⟩ | ⟨g, cap, cur, rfl, hb, hg, hnc, hcm, hs, ht⟩
  · exact .inl ⟨List.eq_nil_of_length_eq_zero hn, _, _, rfl⟩
  · by_cases h0 : l.length = 0
    · rw [h0]
      exact .inl ⟨List.eq_nil_of_length_eq_zero h0, _, _, rfl⟩
    · refine .inr ⟨g, 0, cap, rfl, by omega, (World.ownsRow.lt h' g rfl).2, ⟨hnc, hcm⟩, fun i hi => ?_⟩
      have hc := World.ownsRow.cellAt h' i (by omega)
      rw [Nat.zero_add, hc]
      simp [hi]
theorem list_int (w : World) {ops : Array Oper} {rest : List Oper} {o : Oper} {a : Act} {Q : Exit → Act → World → Prop} (hw : Region.wanted o (yielded ops a.tmps) = true) (s x : Operand)
    (ho : o.op = .call { callee := .builtin .append, args := #[s, x], argTypes := #[112, 112] })
    (B : Nat) (v : Value) (ad : Addr) (n c : Nat) (p q : List Nat) (hs : a.eval s = v) (hx : a.eval x = .slice (some ad) n c) (hn : n = q.length) (own : OwnInt w B v p) (hcells : ∀ j x, (q.map ival)[j]? = some x → w.cell? (ad.add j) = some x) (hlen : p.length + q.length ≤ 1000000) (hB : B ≤ w.heap.size)
    (h : ∀ v' w', OwnInt w' B v' (p ++ q) → w.grownBy w' v.ownBlock → wpList Try.prog ops Q rest (a.put o.dst v') w') : wpList Try.prog ops Q (o :: rest) a w :=
  wpList_step fun K hK => by
    rw [if_pos hw]
    obtain ⟨i0, hi, hz0, hz1, hz2⟩ := info_parts infoI
    subst hn
    obtain ⟨v', w', hr, h2, h3, _, h5⟩ := run_append_own_at (P := Try.prog) w B 112 o.type 3 i0 _ 1 8 Try.underlying112 hi hz0 hz1 hz2 rfl (by decide) v p.length (p.map ival) own ad q.length c (q.map ival)
      (by simp) hcells (by intro x hx; obtain ⟨s, _, rfl⟩ := List.mem_map.1 hx; rfl) (by unfold maxLen; omega) (by omega) hB
    unfold Oper.wp execOp
    simp only [ho, resolve, invoke, builtin, Sem.run_bind, Sem.run_pure, Result.andThen_ok, List.map_toArray, List.map_cons, List.map_nil, hs, hx, hr]
    refine hK _ _ (h v' w' ?_ h3)
    unfold OwnInt
    rw [List.length_append, List.map_append]
    exact h2
theorem cells1 (w : World) (d : Nat) : ∀ j x, (([d] : List Nat).map ival)[j]? = some x → (w.alloc (.cells #[.int .i64 (d : Int)] 3)).cell? ((⟨w.heap.size, 0, none⟩ : Addr).add j) = some x := by
  intro j x hx
  match j with
  | 0 => simp [ival] at hx; subst hx; simp [Addr.add]
  | j + 1 => simp at hx

/-! ### trim -/
set_option maxRecDepth 100000 in
set_option maxHeartbeats 1000000 in
theorem trim_any (v : Value) (l : List Nat) (hb : Bits l) (hlen : l.length ≤ 100000) (w : World) (hs : IntSl w v l) :
    Calls Try.prog 122 #[v] w fun e w' => ∃ u, e = .returned u ∧ IntSl w u (bin (bv l)) ∧ w = w' ∧ u.ownBlock = v.ownBlock := by
  rcases hs with ⟨rfl, a, cap, rfl⟩ | ⟨b, off, cap, rfl, h0, hbb, hm, hc⟩
  · go_enter Try.func122, Try.ntmps122
    go_wp2_with fail
    refine wp_loop_rounds 1 ?_
    rw [rounds_succ]
    go_wp2_with fail
    go_ret
    exact ⟨_, rfl, .inl ⟨by rw [show bv [] = 0 from rfl, bin_zero], _, _, rfl⟩, rfl, rfl⟩
  · have hsl : IntSl w (.slice (some ⟨b, off, none⟩) l.length cap) l := .inr ⟨b, off, cap, rfl, h0, hbb, hm, hc⟩
    have Hb := Lib.hid hb
    have Hsl := Lib.hid hsl
    unfold maxLen at hm
    clear hb hsl
    go_enter Try.func122, Try.ntmps122
    go_wp2_with fail
    go_loopw [3] (fun n wr => ∃ k : Nat, k ≤ l.length ∧ n = .int .i64 (k : Int) ∧ Hid (∀ i (h : i < l.length), k ≤ i → l[i] = 0) ∧ w = wr) (fun n _ => (intOf n).toNat)
    case atStart => exact ⟨l.length, by omega, rfl, Lib.hid (fun i h h2 => by omega), by simp⟩
    case round =>
      obtain ⟨k, hk, rfl, Hz, rfl⟩ := hrel
      by_cases hlt : 0 < k
      · obtain ⟨j, rfl⟩ : ∃ j, k = j + 1 := ⟨k - 1, by omega⟩
        have hcj := hc j (by omega)
        unfold ival at hcj
        obtain ⟨x, hx⟩ : ∃ x, l[j] = x := ⟨_, rfl⟩
        have Hx := Lib.hid hx
        rw [hx] at hcj
        clear hc hx
        by_cases hx0 : x = 0
        · subst hx0
          go_wp2_with fail
          go_roundw
          case rel => exact ⟨j, by omega, by go_num, Lib.hid (fun i h h2 => by
            by_cases e : i = j
            · subst e; exact Hx.out
            · exact Hz.out i h (by omega)), by simp⟩
          case measure => simp [intOf]
        · have hx1 : ¬ (x : Int) = 0 := by omega
          go_wp2_with fail
          go_ret
          have e := take_bin l (j + 1) Hb.out (by omega) Hz.out (.inr ⟨by omega, by rw [show l[j + 1 - 1] = l[j] from rfl, Hx.out]; exact hx0⟩)
          exact ⟨_, rfl, by rw [← e]; exact Hsl.out.take (j + 1) hk, rfl, rfl⟩
      · obtain rfl : k = 0 := by omega
        clear hc
        go_wp2_with fail
        go_ret
        have e := take_bin l 0 Hb.out (by omega) Hz.out (.inl rfl)
        exact ⟨_, rfl, by rw [← e]; exact Hsl.out.take 0 hk, rfl, rfl⟩

end Go.Proofs.Ytcpcmlonbpccnaa.Fr

/- Walks over layer 5's reference: digits, less. -/
namespace Go.Proofs.Ytcpcmlonbpccnaa.Fr
set_option linter.unusedVariables false
set_option linter.unusedSimpArgs false
open Go.RowKit

/-- what hands back the digits of a number -/
def RetBin (w : World) (n : Nat) (e : Ending) (w' : World) : Prop := ∃ u, e = .returned u ∧ IntSl w' u (bin n) ∧ Below w.heap.size w w' ∧ ∀ k, u.ownBlock = some k → w.heap.size ≤ k

theorem natAbs_mod (z : Int) : (z.tmod 2).natAbs = z.natAbs % 2 := by rw [Int.natAbs_tmod]; rfl
theorem natAbs_div (z : Int) : (z.tdiv 2).natAbs = z.natAbs / 2 := by rw [Int.natAbs_tdiv]; rfl

set_option maxRecDepth 100000 in
set_option maxHeartbeats 1000000 in
theorem digits_any (n : Int) (h1 : -9223372036854775808 ≤ n) (h2 : n ≤ 9223372036854775807) (w : World) :
    Calls Try.prog 99 #[.int .i64 n] w (RetBin w n.natAbs) := by
  have hlen0 : (bin n.natAbs).length ≤ 64 := bin_length_le (by omega)
  have Hlen0 := Lib.hid hlen0
  clear hlen0
  go_enter Try.func99, Try.ntmps99
  go_wp2_with fail
  go_loopw [0, 3] (fun n0 v wr => ∃ (z : Int) (out : List Nat), n0 = .int .i64 z ∧ -9223372036854775808 ≤ z ∧ z ≤ 9223372036854775807 ∧ OwnInt wr w.heap.size v out ∧ Below w.heap.size w wr ∧ Hid (bin n.natAbs = out ++ bin z.natAbs)) (fun n0 _ _ => (intOf n0).natAbs)
  case atStart => exact ⟨n, [], rfl, h1, h2, OwnInt.nil _ _, Below.refl _ _, Lib.hid rfl⟩
  case round =>
    obtain ⟨z, out, rfl, hz1, hz2, own, hb, He⟩ := hrel
    by_cases hz : z = 0
    · subst hz
      go_wp2_with fail
      go_ret
      refine ⟨_, rfl, ?_, hb, fun k hk => (World.ownsRow.lt own k hk).1⟩
      have e := He.out
      rw [show (0 : Int).natAbs = 0 from rfl, bin_zero, List.append_nil] at e
      rw [e]
      exact own.sl
    · have hl : out.length ≤ 64 := by
        have e := congrArg List.length He.out
        rw [List.length_append] at e
        have := Hlen0.out
        omega
      obtain ⟨t, ht⟩ : ∃ t, z.tmod 2 = t := ⟨_, rfl⟩
      obtain ⟨q, hq⟩ : ∃ q, z.tdiv 2 = q := ⟨_, rfl⟩
      obtain ⟨d, hd⟩ : ∃ d : Nat, z.natAbs % 2 = d := ⟨_, rfl⟩
      have ht2 : t.natAbs = d := by rw [← ht, natAbs_mod, hd]
      have hq2 : q.natAbs = z.natAbs / 2 := by rw [← hq, natAbs_div]
      have Hnew := Lib.hid (show bin n.natAbs = (out ++ [d]) ++ bin q.natAbs by rw [He.out, bin_step (show z.natAbs ≠ 0 by omega), hq2, hd, List.append_assoc]; rfl)
      have hq3 : q.natAbs < z.natAbs := by omega
      have hq4 : -9223372036854775808 ≤ q ∧ q ≤ 9223372036854775807 := by omega
      have hd2 : d ≤ 1 := by omega
      have Hq3 := Lib.hid hq3
      clear hd hq2 hq3 He Hlen0
      by_cases htn : t < 0
      · obtain rfl : d = 1 := by omega
        obtain rfl : t = -1 := by omega
        clear ht2 htn
        go_wp2_with (at_builtin; refine list_int _ (by rfl) _ _ rfl w.heap.size _ ⟨wr.heap.size, 0, none⟩ 1 1 out [1] rfl rfl rfl (own.ofAlloc _) (cells1 wr 1) (by simp; omega) (by have := hb.size; simp; omega) ?_; intro v2 w2 own2 grow2; have hb2 := (hb.alloc hb.size (.cells #[.int .i64 ((1 : Nat) : Int)] 3)).grown grow2 (by have := hb.size; simp; omega) (fun k hk => (World.ownsRow.lt own k hk).1))
        go_roundw
        case rel => exact ⟨q, out ++ [1], by go_num, hq4.1, hq4.2, own2, hb2, Hnew⟩
        case measure => simp [intOf]; exact Hq3.out
      · obtain rfl : t = (d : Int) := by omega
        clear ht2
        go_wp2_with (at_builtin; refine list_int _ (by rfl) _ _ rfl w.heap.size _ ⟨wr.heap.size, 0, none⟩ 1 1 out [d] rfl rfl rfl (own.ofAlloc _) (cells1 wr d) (by simp; omega) (by have := hb.size; simp; omega) ?_; intro v2 w2 own2 grow2; have hb2 := (hb.alloc hb.size (.cells #[.int .i64 (d : Int)] 3)).grown grow2 (by have := hb.size; simp; omega) (fun k hk => (World.ownsRow.lt own k hk).1))
        go_roundw
        case rel => exact ⟨q, out ++ [d], by go_num, hq4.1, hq4.2, own2, hb2, Hnew⟩
        case measure => simp [intOf]; exact Hq3.out

end Go.Proofs.Ytcpcmlonbpccnaa.Fr

/- Walks over layer 5's reference: less. -/
namespace Go.Proofs.Ytcpcmlonbpccnaa.Fr
set_option linter.unusedVariables false
set_option linter.unusedSimpArgs false
open Go.RowKit

theorem IntSl.shape {w : World} {v : Value} {l : List Nat} (h : IntSl w v l) : ∃ a cap, v = .slice a l.length cap := by
  rcases h with ⟨rfl, a, cap, rfl⟩ | ⟨b, off, cap, rfl, _⟩
  · exact ⟨a, cap, rfl⟩
  · exact ⟨_, _, rfl⟩
theorem lt_of_len {m n : Nat} (h : (bin m).length < (bin n).length) : m < n := by
  have hn : n ≠ 0 := by rintro rfl; rw [bin_zero] at h; simp at h
  have h1 := bin_ge n hn
  have h2 := bin_lt m
  have h3 : 2 ^ (bin m).length ≤ 2 ^ ((bin n).length - 1) := Nat.pow_le_pow_right (by decide) (by omega)
  omega
theorem div_step (m j : Nat) : m / 2 ^ j = 2 * (m / 2 ^ (j + 1)) + m / 2 ^ j % 2 := by
  rw [Nat.pow_succ, ← Nat.div_div_eq_div_mul]
  omega
theorem div_top (m : Nat) : m / 2 ^ (bin m).length = 0 := Nat.div_eq_of_lt (bin_lt m)

set_option maxHeartbeats 400000 in
theorem less_len (a1 a2 : Option Addr) (n m c1 c2 : Nat) (hn : n ≤ 100000) (hm : m ≤ 100000) (h : n ≠ m) (w : World) :
    Calls Try.prog 100 #[.slice a1 n c1, .slice a2 m c2] w fun e w' => e = .returned (.bool (decide (n < m))) ∧ w = w' := by
  have hd : ¬ (n : Int) = (m : Int) := by omega
  go_enter Try.func100, Try.ntmps100
  go_wp2_with fail
  go_ret
  exact ⟨rfl, rfl⟩
set_option maxHeartbeats 400000 in
theorem less_none (a1 a2 : Option Addr) (c1 c2 : Nat) (w : World) :
    Calls Try.prog 100 #[.slice a1 0 c1, .slice a2 0 c2] w fun e w' => e = .returned (.bool false) ∧ w = w' := by
  go_enter Try.func100, Try.ntmps100
  go_wp2_with fail
  refine wp_loop_rounds 1 ?_
  rw [rounds_succ]
  go_wp2_with fail
  go_ret
  exact ⟨rfl, rfl⟩

set_option maxRecDepth 100000 in
set_option maxHeartbeats 1000000 in
theorem less_same (b off cap b2 off2 cap2 m n L : Nat) (hL : L ≤ 100000) (hm : (bin m).length = L) (hn : (bin n).length = L) (w : World) (hb : b < w.heap.size) (hb2 : b2 < w.heap.size)
    (hc : ∀ i (h : i < (bin m).length), w.cell? ⟨b, off + i, none⟩ = some (ival (bin m)[i])) (hc2 : ∀ i (h : i < (bin n).length), w.cell? ⟨b2, off2 + i, none⟩ = some (ival (bin n)[i])) (hcap : L ≤ cap ∧ cap ≤ maxLen) (hcap2 : L ≤ cap2 ∧ cap2 ≤ maxLen) :
    Calls Try.prog 100 #[.slice (some ⟨b, off, none⟩) L cap, .slice (some ⟨b2, off2, none⟩) L cap2] w fun e w' => e = .returned (.bool (decide (m < n))) ∧ Below w.heap.size w w' := by
  have Hc := Lib.hid hc
  have Hc2 := Lib.hid hc2
  have Hm := Lib.hid hm
  have Hn := Lib.hid hn
  have H0 := Lib.hid (show m / 2 ^ L = n / 2 ^ L by rw [← hm, div_top, hm, ← hn, div_top])
  unfold maxLen at hcap hcap2
  clear hc hc2 hm hn
  go_enter Try.func100, Try.ntmps100
  go_wp2_with fail
  go_loopw [5] (fun i wr => ∃ k : Nat, k ≤ L ∧ i = .int .i64 ((k : Int) - 1) ∧ Below w.heap.size w wr ∧ Hid (m / 2 ^ k = n / 2 ^ k)) (fun i _ => (intOf i + 1).toNat)
  case atStart => exact ⟨L, by omega, by go_num, Below.refl _ _, H0⟩
  case round =>
    obtain ⟨k, hk, rfl, hbel, He⟩ := hrel
    by_cases hlt : 0 < k
    · obtain ⟨j, rfl⟩ : ∃ j, k = j + 1 := ⟨k - 1, by omega⟩
      have g1 : j < (bin m).length := by rw [Hm.out]; omega
      have g2 : j < (bin n).length := by rw [Hn.out]; omega
      have hcj : wr.cell? ⟨b, off + j, none⟩ = some (ival (bin m)[j]) := (hbel.cell (p := ⟨b, off + j, none⟩) hb).trans (Hc.out j g1)
      have hcj2 : wr.cell? ⟨b2, off2 + j, none⟩ = some (ival (bin n)[j]) := (hbel.cell (p := ⟨b2, off2 + j, none⟩) hb2).trans (Hc2.out j g2)
      unfold ival at hcj hcj2
      rw [bin_get] at hcj hcj2
      obtain ⟨x, hx⟩ : ∃ x, m / 2 ^ j % 2 = x := ⟨_, rfl⟩
      obtain ⟨y, hy⟩ : ∃ y, n / 2 ^ j % 2 = y := ⟨_, rfl⟩
      have Hx := Lib.hid hx
      have Hy := Lib.hid hy
      rw [hx] at hcj
      rw [hy] at hcj2
      clear hx hy g1 g2
      by_cases hxy : x = y
      · subst hxy
        go_wp2_with fail
        go_quiet (fail)
        go_wp2_with fail
        go_roundw
        case rel => exact ⟨j, by omega, by go_num, hbel.trans ((below_drewN _ _ _).mono hbel.size), Lib.hid (by rw [div_step m j, div_step n j, He.out, Hx.out, Hy.out])⟩
        case measure => simp [intOf] <;> omega
      · have hxy2 : ¬ (x : Int) = (y : Int) := by omega
        have Hr := Lib.hid (show decide (x < y) = decide (m < n) from decide_eq_decide.2 (by
          have e1 := div_step m j
          have e2 := div_step n j
          rw [He.out, Hx.out] at e1
          rw [Hy.out] at e2
          constructor
          · intro h
            exact Nat.lt_of_div_lt_div (show m / 2 ^ j < n / 2 ^ j by omega)
          · intro h
            have := Nat.div_le_div_right (c := 2 ^ j) (Nat.le_of_lt h)
            omega))
        go_wp2_with fail
        go_quiet (fail)
        go_wp2_with fail
        go_quiet (fail)
        go_wp2_with fail
        go_ret
        rw [Hr.out]
        exact ⟨rfl, hbel.trans (((below_drewN _ _ _).trans (below_drewN _ _ _)).mono hbel.size)⟩
    · obtain rfl : k = 0 := by omega
      have Hr := Lib.hid (show decide (m < n) = false by
        have := He.out
        simp at this
        simp [this])
      go_wp2_with fail
      go_ret
      rw [Hr.out]
      exact ⟨rfl, hbel⟩

theorem less_any (v u : Value) (m n : Nat) (hm : (bin m).length ≤ 100000) (hn : (bin n).length ≤ 100000) (w : World) (hv : IntSl w v (bin m)) (hu : IntSl w u (bin n)) :
    Calls Try.prog 100 #[v, u] w fun e w' => e = .returned (.bool (decide (m < n))) ∧ Below w.heap.size w w' := by
  by_cases hl : (bin m).length = (bin n).length
  · rcases hv with ⟨h0, a, cap, rfl⟩ | ⟨b, off, cap, rfl, h0, hb, hcap, hc⟩
    · obtain ⟨a2, cap2, rfl⟩ := hu.shape
      rw [h0] at hl
      rw [← hl]
      have e1 := bin_nil.1 h0
      have e2 := bin_nil.1 (List.eq_nil_of_length_eq_zero hl.symm)
      subst e1 e2
      exact (less_none a a2 cap cap2 w).mono fun e w' ⟨he, hw⟩ => ⟨by rw [he]; rfl, hw ▸ Below.refl _ _⟩
    · rcases hu with ⟨h1, _⟩ | ⟨b2, off2, cap2, rfl, h2, hb2, hcap2, hc2⟩
      · rw [h1] at hl; rw [hl] at h0; simp at h0
      · rw [hl] at hcap
        have := less_same b off cap b2 off2 cap2 m n (bin n).length hn hl rfl w hb hb2 hc hc2 hcap hcap2
        rw [hl]
        exact this
  · obtain ⟨a1, c1, rfl⟩ := hv.shape
    obtain ⟨a2, c2, rfl⟩ := hu.shape
    refine (less_len a1 a2 _ _ c1 c2 hm hn hl w).mono ?_
    rintro e w' ⟨rfl, rfl⟩
    refine ⟨?_, Below.refl _ _⟩
    congr 2
    rw [decide_eq_decide]
    constructor
    · exact lt_of_len
    · intro h
      rcases Nat.lt_or_ge (bin n).length (bin m).length with h2 | h2
      · have := lt_of_len h2; omega
      · omega

end Go.Proofs.Ytcpcmlonbpccnaa.Fr

/- Walks over layer 5's reference: plus. Written by wip/tools/frplus.py. -/
namespace Go.Proofs.Ytcpcmlonbpccnaa.Fr
set_option linter.unusedVariables false
set_option linter.unusedSimpArgs false
open Go.RowKit

theorem IntSl.open_ {w : World} {v : Value} {l : List Nat} (h : IntSl w v l) :
    ∃ a cap, v = .slice a l.length cap ∧ ∀ i (h : i < l.length), ∃ b off, a = some ⟨b, off, none⟩ ∧ b < w.heap.size ∧ w.cell? ⟨b, off + i, none⟩ = some (ival l[i]) := by
  rcases h with ⟨rfl, a, cap, rfl⟩ | ⟨b, off, cap, rfl, h0, hb, hm, hc⟩
  · exact ⟨a, cap, rfl, fun i h => absurd h (by simp)⟩
  · exact ⟨_, _, rfl, fun i h => ⟨b, off, rfl, hb, hc i h⟩⟩
theorem mod_step (m i : Nat) : m % 2 ^ (i + 1) = m % 2 ^ i + 2 ^ i * (m / 2 ^ i % 2) := by
  rw [Nat.pow_succ, Nat.mod_mul]
theorem plus_step {out : List Nat} {c m n i x y s t q : Nat} (hl : out.length = i) (h : bv out + 2 ^ i * c = m % 2 ^ i + n % 2 ^ i) (hx : m / 2 ^ i % 2 = x) (hy : n / 2 ^ i % 2 = y) (hs : s = c + x + y) (ht : s = t + 2 * q) :
    bv (out ++ [t]) + 2 ^ (i + 1) * q = m % 2 ^ (i + 1) + n % 2 ^ (i + 1) := by
  rw [bv_snoc, hl, mod_step, mod_step, hx, hy, Nat.pow_succ]
  have e : 2 ^ i * s = 2 ^ i * c + 2 ^ i * x + 2 ^ i * y := by rw [hs, Nat.mul_add, Nat.mul_add]
  have e2 : 2 ^ i * s = 2 ^ i * t + 2 ^ i * 2 * q := by rw [ht, Nat.mul_add, Nat.mul_assoc]
  omega
theorem ge_of_len {m i : Nat} (h : i < (bin m).length) : 2 ^ i ≤ m := by
  have hn : m ≠ 0 := by rintro rfl; rw [bin_zero] at h; simp at h
  exact Nat.le_trans (Nat.pow_le_pow_right (by decide) (by omega)) (bin_ge m hn)
theorem div_of_len {m i : Nat} (h : (bin m).length ≤ i) : m / 2 ^ i = 0 := Nat.div_eq_of_lt (Nat.lt_of_lt_of_le (bin_lt m) (Nat.pow_le_pow_right (by decide) h))
theorem mod_of_len {m i : Nat} (h : (bin m).length ≤ i) : m % 2 ^ i = m := Nat.mod_eq_of_lt (Nat.lt_of_lt_of_le (bin_lt m) (Nat.pow_le_pow_right (by decide) h))
theorem bit_of_len {m i : Nat} (h : (bin m).length ≤ i) : m / 2 ^ i % 2 = 0 := by rw [div_of_len h]
/-- what the rounds of plus keep -/
def PlusAt (m n i c : Nat) (out : List Nat) : Prop := out.length = i ∧ c ≤ 1 ∧ Bits out ∧ bv out + 2 ^ i * c = m % 2 ^ i + n % 2 ^ i ∧ (i = 0 ∨ 2 ^ (i - 1) ≤ m + n)
theorem PlusAt.next {m n i c x y t q : Nat} {out : List Nat} (h : PlusAt m n i c out) (hx : m / 2 ^ i % 2 = x) (hy : n / 2 ^ i % 2 = y) (ht : c + x + y = t + 2 * q) (ht1 : t ≤ 1) (hm : i < (bin m).length ∨ i < (bin n).length ∨ 0 < c) : PlusAt m n (i + 1) q (out ++ [t]) := by
  obtain ⟨h1, h2, h3, h4, h5⟩ := h
  refine ⟨by rw [List.length_append, h1]; rfl, by omega, h3.append (Bits.cons ht1 Bits.nil), plus_step h1 h4 hx hy rfl ht, .inr ?_⟩
  rw [Nat.add_sub_cancel]
  rcases hm with h | h | h
  · have := ge_of_len h; omega
  · have := ge_of_len h; omega
  · have e1 := Nat.mod_le m (2 ^ i)
    have e2 := Nat.mod_le n (2 ^ i)
    have e3 : 2 ^ i * 1 ≤ 2 ^ i * c := Nat.mul_le_mul_left _ h
    omega
theorem PlusAt.done {m n i : Nat} {out : List Nat} (h : PlusAt m n i 0 out) (hm : (bin m).length ≤ i) (hn : (bin n).length ≤ i) : out = bin (m + n) := by
  obtain ⟨h1, h2, h3, h4, h5⟩ := h
  rw [mod_of_len hm, mod_of_len hn] at h4
  have e : bv out = m + n := by omega
  rw [← e]
  refine canon out h3 ?_
  rw [e, h1]
  rcases h5 with h | h
  · exact .inl (List.eq_nil_of_length_eq_zero (by omega))
  · exact .inr h
theorem PlusAt.small_ {m n i c N : Nat} {out : List Nat} (h : PlusAt m n i c out) (hm : (bin m).length ≤ N) (hn : (bin n).length ≤ N) : i ≤ N + 1 := by
  obtain ⟨h1, h2, h3, h4, h5⟩ := h
  rcases h5 with h | h
  · omega
  · have e1 : m < 2 ^ N := Nat.lt_of_lt_of_le (bin_lt m) (Nat.pow_le_pow_right (by decide) hm)
    have e2 : n < 2 ^ N := Nat.lt_of_lt_of_le (bin_lt n) (Nat.pow_le_pow_right (by decide) hn)
    refine Nat.le_of_not_lt fun hk => ?_
    have e3 : 2 ^ (N + 1) ≤ 2 ^ (i - 1) := Nat.pow_le_pow_right (by decide) (by omega)
    rw [Nat.pow_succ] at e3
    omega
theorem PlusAt.small {m n i c : Nat} {out : List Nat} (h : PlusAt m n i c out) (hm : (bin m).length ≤ 100000) (hn : (bin n).length ≤ 100000) : i ≤ 100001 := h.small_ hm hn

end Go.Proofs.Ytcpcmlonbpccnaa.Fr

/- Walks over layer 5's reference: minus. Written by wip/tools/frminus.py. -/
namespace Go.Proofs.Ytcpcmlonbpccnaa.Fr
set_option linter.unusedVariables false
set_option linter.unusedSimpArgs false
open Go.RowKit

/-- what the rounds of minus keep -/
def MinusAt (m n i c : Nat) (out : List Nat) : Prop := out.length = i ∧ c ≤ 1 ∧ Bits out ∧ bv out + n % 2 ^ i = m % 2 ^ i + 2 ^ i * c
theorem MinusAt.next {m n i c x y t q : Nat} {out : List Nat} (h : MinusAt m n i c out) (hx : m / 2 ^ i % 2 = x) (hy : n / 2 ^ i % 2 = y) (ht : x + 2 * q = t + c + y) (ht1 : t ≤ 1) (hq : q ≤ 1) : MinusAt m n (i + 1) q (out ++ [t]) := by
  obtain ⟨h1, h2, h3, h4⟩ := h
  refine ⟨by rw [List.length_append, h1]; rfl, hq, h3.append (Bits.cons ht1 Bits.nil), ?_⟩
  rw [bv_snoc, h1, mod_step m, mod_step n, hx, hy, Nat.pow_succ]
  have e1 : 2 ^ i * (x + 2 * q) = 2 ^ i * x + 2 ^ i * 2 * q := by rw [Nat.mul_add, Nat.mul_assoc]
  have e2 : 2 ^ i * (t + c + y) = 2 ^ i * t + 2 ^ i * c + 2 ^ i * y := by rw [Nat.mul_add, Nat.mul_add]
  rw [ht] at e1
  omega
theorem MinusAt.done {m n c : Nat} {out : List Nat} (h : MinusAt m n (bin m).length c out) (hn : n ≤ m) : bv out = m - n := by
  obtain ⟨h1, h2, h3, h4⟩ := h
  have e1 := bin_lt m
  have e2 := bv_lt out h3
  rw [Nat.mod_eq_of_lt e1, Nat.mod_eq_of_lt (by omega)] at h4
  rw [h1] at e2
  by_cases hc : c = 0
  · subst hc
    omega
  · obtain rfl : c = 1 := by omega
    omega

set_option maxRecDepth 100000 in
set_option maxHeartbeats 4000000 in
theorem rminus_any (v u : Value) (m n : Nat) (hmn : n ≤ m) (hm : (bin m).length ≤ 100000) (w : World) (hv : IntSl w v (bin m)) (hu : IntSl w u (bin n)) :
    Calls Try.prog 126 #[v, u] w (RetBin w (m - n)) := by
  obtain ⟨a1, c1, rfl, hc1⟩ := hv.open_
  obtain ⟨a2, c2, rfl, hc2⟩ := hu.open_
  have Hmn := Lib.hid hmn
  have Hc1 := Lib.hid hc1
  have Hc2 := Lib.hid hc2
  have Hl := Lib.hid (show (bin n).length ≤ (bin m).length by
    refine Nat.le_of_not_lt fun h => ?_
    have := lt_of_len h
    omega)
  obtain ⟨L1, hL1⟩ : ∃ L, (bin m).length = L := ⟨_, rfl⟩
  obtain ⟨L2, hL2⟩ : ∃ L, (bin n).length = L := ⟨_, rfl⟩
  have HL1 := Lib.hid hL1
  have HL2 := Lib.hid hL2
  have hll := Hl.out
  rw [hL1, hL2] at hll
  rw [hL1] at hm ⊢
  rw [hL2]
  clear hc1 hc2 hv hu hL1 hL2 hmn
  go_enter Try.func126, Try.ntmps126
  go_wp2_with fail
  go_loopw [5, 6, 7, 8] (fun v cv iv dv wr => ∃ (i c : Nat) (out : List Nat), i ≤ L1 ∧ iv = .int .i64 (i : Int) ∧ cv = .int .i64 (c : Int) ∧ OwnInt wr w.heap.size v out ∧ Below w.heap.size w wr ∧ Hid (MinusAt m n i c out)) (fun _ cv iv _ _ => L1 - (intOf iv).toNat)
  case atStart => exact ⟨0, 0, [], by omega, rfl, rfl, OwnInt.nil _ _, Below.refl _ _, Lib.hid ⟨rfl, by omega, Bits.nil, by simp [bv, Nat.mod_one]⟩⟩
  case round =>
    obtain ⟨i, c, out, hi, rfl, rfl, own, hb, Hp⟩ := hrel
    have hlo : out.length = i := Hp.out.1
    have hcc : c ≤ 1 := Hp.out.2.1
    by_cases hx : i < L1
    · obtain ⟨b1, o1, rfl, hb1, hcx⟩ := Hc1.out i (by rw [HL1.out]; exact hx)
      replace hcx := (hb.cell (p := ⟨b1, o1 + i, none⟩) hb1).trans hcx
      unfold ival at hcx
      rw [bin_get] at hcx
      obtain ⟨x, hxe⟩ : ∃ x, m / 2 ^ i % 2 = x := ⟨_, rfl⟩
      have Hx := Lib.hid hxe
      have hx1 : x ≤ 1 := by omega
      rw [hxe] at hcx
      clear hxe
      by_cases hy : i < L2
      · obtain ⟨b2, o2, rfl, hb2, hcy⟩ := Hc2.out i (by rw [HL2.out]; exact hy)
        replace hcy := (hb.cell (p := ⟨b2, o2 + i, none⟩) hb2).trans hcy
        unfold ival at hcy
        rw [bin_get] at hcy
        obtain ⟨y, hye⟩ : ∃ y, n / 2 ^ i % 2 = y := ⟨_, rfl⟩
        have Hy := Lib.hid hye
        have hy1 : y ≤ 1 := by omega
        rw [hye] at hcy
        clear hye
        by_cases hneg : (x : Int) - (c : Int) - (y : Int) < 0
        · skip
          obtain ⟨t, ht⟩ : ∃ t : Nat, (x : Int) - (c : Int) - (y : Int) + 2 = (t : Int) := ⟨((x : Int) - (c : Int) - (y : Int) + 2).toNat, by omega⟩
          have Hnew := Lib.hid (Hp.out.next Hx.out Hy.out (t := t) (q := 1) (by omega) (by omega) (by omega))
          go_wp2_with (at_builtin; refine list_int _ (by rfl) _ _ rfl w.heap.size _ ⟨wr.heap.size, 0, none⟩ 1 1 out [t] rfl rfl rfl (own.ofAlloc _) (cells1 wr t) (by simp; omega) (by have := hb.size; simp; omega) ?_; intro v2 w2 own2 grow2; have hb2' := (hb.alloc hb.size (.cells #[.int .i64 (t : Int)] 3)).grown grow2 (by have := hb.size; simp; omega) (fun k hk => (World.ownsRow.lt own k hk).1))
          go_roundw
          case rel => exact ⟨i + 1, 1, out ++ [t], by omega, by go_num, by go_num, own2, hb2', Hnew⟩
          case measure => simp [intOf]; omega
        · skip
          obtain ⟨t, ht⟩ : ∃ t : Nat, (x : Int) - (c : Int) - (y : Int) = (t : Int) := ⟨((x : Int) - (c : Int) - (y : Int)).toNat, by omega⟩
          have Hnew := Lib.hid (Hp.out.next Hx.out Hy.out (t := t) (q := 0) (by omega) (by omega) (by omega))
          go_wp2_with (at_builtin; refine list_int _ (by rfl) _ _ rfl w.heap.size _ ⟨wr.heap.size, 0, none⟩ 1 1 out [t] rfl rfl rfl (own.ofAlloc _) (cells1 wr t) (by simp; omega) (by have := hb.size; simp; omega) ?_; intro v2 w2 own2 grow2; have hb2' := (hb.alloc hb.size (.cells #[.int .i64 (t : Int)] 3)).grown grow2 (by have := hb.size; simp; omega) (fun k hk => (World.ownsRow.lt own k hk).1))
          go_roundw
          case rel => exact ⟨i + 1, 0, out ++ [t], by omega, by go_num, by go_num, own2, hb2', Hnew⟩
          case measure => simp [intOf]; omega
      · have Hy := Lib.hid (bit_of_len (m := n) (i := i) (by rw [HL2.out]; omega))
        by_cases hneg : (x : Int) - (c : Int) < 0
        · skip
          obtain ⟨t, ht⟩ : ∃ t : Nat, (x : Int) - (c : Int) + 2 = (t : Int) := ⟨((x : Int) - (c : Int) + 2).toNat, by omega⟩
          have Hnew := Lib.hid (Hp.out.next Hx.out Hy.out (t := t) (q := 1) (by omega) (by omega) (by omega))
          go_wp2_with (at_builtin; refine list_int _ (by rfl) _ _ rfl w.heap.size _ ⟨wr.heap.size, 0, none⟩ 1 1 out [t] rfl rfl rfl (own.ofAlloc _) (cells1 wr t) (by simp; omega) (by have := hb.size; simp; omega) ?_; intro v2 w2 own2 grow2; have hb2' := (hb.alloc hb.size (.cells #[.int .i64 (t : Int)] 3)).grown grow2 (by have := hb.size; simp; omega) (fun k hk => (World.ownsRow.lt own k hk).1))
          go_roundw
          case rel => exact ⟨i + 1, 1, out ++ [t], by omega, by go_num, by go_num, own2, hb2', Hnew⟩
          case measure => simp [intOf]; omega
        · skip
          obtain ⟨t, ht⟩ : ∃ t : Nat, (x : Int) - (c : Int) = (t : Int) := ⟨((x : Int) - (c : Int)).toNat, by omega⟩
          have Hnew := Lib.hid (Hp.out.next Hx.out Hy.out (t := t) (q := 0) (by omega) (by omega) (by omega))
          go_wp2_with (at_builtin; refine list_int _ (by rfl) _ _ rfl w.heap.size _ ⟨wr.heap.size, 0, none⟩ 1 1 out [t] rfl rfl rfl (own.ofAlloc _) (cells1 wr t) (by simp; omega) (by have := hb.size; simp; omega) ?_; intro v2 w2 own2 grow2; have hb2' := (hb.alloc hb.size (.cells #[.int .i64 (t : Int)] 3)).grown grow2 (by have := hb.size; simp; omega) (fun k hk => (World.ownsRow.lt own k hk).1))
          go_roundw
          case rel => exact ⟨i + 1, 0, out ++ [t], by omega, by go_num, by go_num, own2, hb2', Hnew⟩
          case measure => simp [intOf]; omega
    · obtain rfl : i = L1 := by omega
      have He := Lib.hid ((by rw [HL1.out]; exact Hp.out : MinusAt m n (bin m).length c out).done Hmn.out)
      go_wp2_with fail
      refine (trim_any _ out Hp.out.2.2.1 (by omega) _ own.sl).mono ?_
      rintro e w1 ⟨u1, rfl, hu1, rfl, hob⟩
      go_wp2_with fail
      go_ret
      rw [He.out] at hu1
      exact ⟨_, rfl, hu1, hb, fun k hk => (World.ownsRow.lt own k (hob.symm.trans hk)).1⟩

end Go.Proofs.Ytcpcmlonbpccnaa.Fr

/- Walks over layer 5's reference: times. Written by wip/tools/frtimes.py. -/
namespace Go.Proofs.Ytcpcmlonbpccnaa.Fr
set_option linter.unusedVariables false
set_option linter.unusedSimpArgs false
open Go.RowKit

/-- block g holds just these ints -/
def Row (w : World) (g : Nat) (out : List Nat) : Prop := ∃ cur : Array Value, w.heap[g]? = some (.cells cur 3 (0, 0)) ∧ cur.toList = out.map ival
theorem Row.own {w : World} {g : Nat} {out : List Nat} (h : Row w g out) (hL : out.length ≤ 100000) : OwnInt w g (.slice (some ⟨g, 0, none⟩) out.length out.length) out := by
  obtain ⟨cur, h1, h2⟩ := h
  have h3 : cur.size = out.length := by rw [← Array.length_toList, h2, List.length_map]
  exact ⟨by simp, .inr ⟨g, out.length, cur, rfl, Nat.le_refl _, h1, Nat.le_refl _, by unfold maxLen; omega, by omega, by rw [h2, List.take_of_length_le (by simp)]⟩⟩
theorem Row.cell {w : World} {g : Nat} {out : List Nat} (h : Row w g out) (hL : out.length ≤ 100000) (i : Nat) (hi : i < out.length) : w.cell? ⟨g, i, none⟩ = some (ival out[i]) := by
  rw [World.ownsRow.cellAt (h.own hL) i (by omega)]
  simp [hi]
theorem Row.frozen {w : World} {g : Nat} {out : List Nat} (h : Row w g out) (i : Nat) : w.frozen? ⟨g, i, none⟩ = false := by
  obtain ⟨cur, h1, h2⟩ := h
  unfold World.frozen?
  rw [h1]
  simp
theorem Row.set {w : World} {g : Nat} {out : List Nat} (h : Row w g out) (i t : Nat) : Row (w.setCell ⟨g, i, none⟩ (.int .i64 (t : Int))) g (out.set i t) := by
  obtain ⟨cur, h1, h2⟩ := h
  refine ⟨_, heap_setCell_same w g i cur _ _ h1, ?_⟩
  rw [Array.toList_setIfInBounds, h2, List.map_set]
  rfl
theorem Row.below {w w' : World} {g : Nat} {out : List Nat} (h : Row w g out) (hb : Below w.heap.size w w') : Row w' g out := by
  obtain ⟨cur, h1, h2⟩ := h
  refine ⟨cur, ?_, h2⟩
  rw [hb.block g (by
    refine Nat.lt_of_not_le fun hk => ?_
    rw [Array.getElem?_eq_none hk] at h1
    cases h1), h1]
theorem made_zero (n : Nat) : (madeCells #[Value.int .i64 0] n).toList = (List.replicate n 0).map ival := by
  apply List.ext_getElem
  · simp [madeCells]
  · intro i h1 h2
    simp [madeCells, ival, Nat.mod_one]
theorem Row.made {w : World} {B g n : Nat} (h : w.ownsRow B 3 1 (.slice (some ⟨g, 0, none⟩) n n) n (madeCells #[Value.int .i64 0] n).toList) : Row w g (List.replicate n 0) := by
  obtain ⟨h1, h2 | ⟨g', cap, cur, he, hb, hh, hn, hm, hs, ht⟩⟩ := h
  · obtain ⟨h3, _⟩ := h2
    cases h3
  · cases he
    refine ⟨cur, hh, ?_⟩
    rw [← made_zero, ← ht, List.take_of_length_le (by rw [Array.length_toList]; omega)]

theorem bv_set : ∀ (l : List Nat) (j t : Nat) (h : j < l.length), bv (l.set j t) + 2 ^ j * l[j] = bv l + 2 ^ j * t
  | x :: l, 0, t, _ => by
    show t + 2 * bv l + 2 ^ 0 * x = x + 2 * bv l + 2 ^ 0 * t
    omega
  | x :: l, j + 1, t, h => by
    have h' : j < l.length := by simpa using h
    have ih := bv_set l j t h'
    show x + 2 * bv (l.set j t) + 2 ^ (j + 1) * l[j] = x + 2 * bv l + 2 ^ (j + 1) * t
    rw [Nat.pow_succ, Nat.mul_comm (2 ^ j) 2, Nat.mul_assoc, Nat.mul_assoc]
    omega
/-- what the rounds of times keep -/
def TimesAt (m n L i : Nat) (out : List Nat) : Prop := out.length = L ∧ Bits out ∧ bv out = m % 2 ^ i * n
/-- what the rounds within a round keep -/
def InAt (n L i k c : Nat) (out out2 : List Nat) : Prop := out2.length = L ∧ c ≤ 1 ∧ Bits out2 ∧ bv out2 + 2 ^ (i + k) * c = bv out + 2 ^ i * (n % 2 ^ k)
theorem TimesAt.start (m n L : Nat) : TimesAt m n L 0 (List.replicate L 0) :=
  ⟨by simp, fun x hx => by rw [List.eq_of_mem_replicate hx]; omega, by rw [bv_zeros, Nat.pow_zero, Nat.mod_one, Nat.zero_mul]⟩
theorem TimesAt.skip {m n L i : Nat} {out : List Nat} (h : TimesAt m n L i out) (hx : m / 2 ^ i % 2 = 0) : TimesAt m n L (i + 1) out :=
  ⟨h.1, h.2.1, by rw [mod_step, hx, Nat.mul_zero, Nat.add_zero]; exact h.2.2⟩
theorem InAt.start {m n L i : Nat} {out : List Nat} (h : TimesAt m n L i out) : InAt n L i 0 0 out out :=
  ⟨h.1, by omega, h.2.1, by rw [Nat.mul_zero, Nat.pow_zero, Nat.mod_one, Nat.mul_zero]⟩
theorem InAt.next {n L i k c d y t q j : Nat} {out out2 : List Nat} (h : InAt n L i k c out out2) (hj : i + k = j) (hjl : j < out2.length) (hd : out2[j] = d) (hy : n / 2 ^ k % 2 = y) (ht : c + d + y = t + 2 * q) (ht1 : t ≤ 1) (hq1 : q ≤ 1) : InAt n L i (k + 1) q out (out2.set j t) := by
  obtain ⟨h1, h2, h3, h4⟩ := h
  refine ⟨by rw [List.length_set]; exact h1, hq1, h3.set _ _ ht1, ?_⟩
  have e := bv_set out2 j t hjl
  rw [hd] at e
  have e1 : i + (k + 1) = j + 1 := by omega
  rw [hj] at h4
  rw [e1, mod_step, hy, Nat.mul_add, ← Nat.mul_assoc (2 ^ i), ← Nat.pow_add, hj, Nat.pow_succ]
  have e2 : 2 ^ j * (c + d + y) = 2 ^ j * c + 2 ^ j * d + 2 ^ j * y := by rw [Nat.mul_add, Nat.mul_add]
  have e3 : 2 ^ j * (t + 2 * q) = 2 ^ j * t + 2 ^ j * 2 * q := by rw [Nat.mul_add, Nat.mul_assoc]
  rw [ht, e3] at e2
  omega
theorem InAt.done {m n L i k c : Nat} {out out2 : List Nat} (h : InAt n L i k c out out2) (ho : TimesAt m n L i out) (hi : i < (bin m).length) (hL : (bin m).length + (bin n).length + 1 = L) (hk : i + k = L) (hx : m / 2 ^ i % 2 = 1) : TimesAt m n L (i + 1) out2 := by
  obtain ⟨h1, h2, h3, h4⟩ := h
  refine ⟨h1, h3, ?_⟩
  rw [mod_of_len (m := n) (i := k) (by omega), ho.2.2, hk, Nat.mul_comm (2 ^ i) n, ← Nat.mul_comm n] at h4
  have e1 : n * (m % 2 ^ i) + n * 2 ^ i = m % 2 ^ (i + 1) * n := by rw [mod_step, hx, Nat.mul_one, Nat.add_mul, Nat.mul_comm n, Nat.mul_comm n]
  rw [e1] at h4
  have e2 : m % 2 ^ (i + 1) * n < 2 ^ L := by
    have a1 : m % 2 ^ (i + 1) ≤ 2 ^ (i + 1) := Nat.le_of_lt (Nat.mod_lt _ (Nat.two_pow_pos _))
    have a2 : n < 2 ^ (bin n).length := bin_lt n
    have a3 : m % 2 ^ (i + 1) * n ≤ 2 ^ (i + 1) * n := Nat.mul_le_mul_right _ a1
    have a4 : 2 ^ (i + 1) * n < 2 ^ (i + 1) * 2 ^ (bin n).length := Nat.mul_lt_mul_of_pos_left a2 (Nat.two_pow_pos _)
    have a5 : 2 ^ (i + 1) * 2 ^ (bin n).length ≤ 2 ^ L := by rw [← Nat.pow_add]; exact Nat.pow_le_pow_right (by decide) (by omega)
    omega
  have e3 : c = 0 := by
    refine Nat.eq_zero_of_not_pos fun hc => ?_
    have := Nat.mul_le_mul_left (2 ^ L) hc
    omega
  rw [e3, Nat.mul_zero, Nat.add_zero] at h4
  exact h4
theorem TimesAt.done {m n L : Nat} {out : List Nat} (h : TimesAt m n L (bin m).length out) : bv out = m * n := by
  rw [h.2.2, mod_of_len (Nat.le_refl _)]

set_option maxRecDepth 100000 in
set_option maxHeartbeats 4000000 in
theorem times_any (v u : Value) (m n : Nat) (hm : (bin m).length ≤ 1000) (hn : (bin n).length ≤ 1000) (w : World) (hv : IntSl w v (bin m)) (hu : IntSl w u (bin n)) :
    Calls Try.prog 98 #[v, u] w (RetBin w (m * n)) := by
  obtain ⟨a1, c1, rfl, hc1⟩ := hv.open_
  obtain ⟨a2, c2, rfl, hc2⟩ := hu.open_
  have Hc1 := Lib.hid hc1
  have Hc2 := Lib.hid hc2
  obtain ⟨i0, hi, hz0, hz1, hz2⟩ := info_parts infoI
  obtain ⟨L1, hL1⟩ : ∃ L, (bin m).length = L := ⟨_, rfl⟩
  obtain ⟨L2, hL2⟩ : ∃ L, (bin n).length = L := ⟨_, rfl⟩
  obtain ⟨L, hL⟩ : ∃ L, L1 + L2 + 1 = L := ⟨_, rfl⟩
  have HL1 := Lib.hid hL1
  have HL2 := Lib.hid hL2
  have HL := Lib.hid (show (bin m).length + (bin n).length + 1 = L by rw [hL1, hL2, hL])
  have HLz := Lib.hid (show (L1 : Int) + (L2 : Int) + 1 = (L : Int) by omega)
  rw [hL1] at hm ⊢
  rw [hL2] at hn ⊢
  clear hc1 hc2 hv hu hL1 hL2
  go_enter Try.func98, Try.ntmps98
  go_wp2_with (at_make; refine wpList_make_full _ rfl _ _ 112 rfl w.heap.size 3 i0 (.int .i64 0) 1 Try.underlying112 hi hz0 hz1 .i64 .i64 _ _ L rfl rfl ?h1 ?h2 ?b2 ?b3 (Nat.le_refl _) ?_)
  case h1 => exact HLz.out
  case h2 => exact HLz.out
  case b2 => rw [hz2]; omega
  case b3 => unfold maxLen; omega
  intro w1 hown1 hgrow1
  have row1 : Row w1 w.heap.size (List.replicate L 0) := Row.made hown1
  have hbel1 : Below w.heap.size w w1 := (Below.refl _ _).grown hgrow1 (Nat.le_refl _) (fun k hk => by simp at hk)
  clear hown1 hgrow1
  go_wp2_with fail
  go_loopw [6, 7, 8] (fun iv _ _ wr => ∃ (i : Nat) (out : List Nat), i ≤ L1 ∧ iv = .int .i64 (i : Int) ∧ Row wr w.heap.size out ∧ Below w.heap.size w wr ∧ Hid (TimesAt m n L i out)) (fun iv _ _ _ => L1 - (intOf iv).toNat)
  case atStart => exact ⟨0, _, by omega, rfl, row1, hbel1, Lib.hid (TimesAt.start m n L)⟩
  case round =>
    clear row1 hbel1
    obtain ⟨i, out, hi, rfl, row, hb, Hp⟩ := hrel
    by_cases hx : i < L1
    · obtain ⟨b1, o1, rfl, hb1, hcx⟩ := Hc1.out i (by rw [HL1.out]; exact hx)
      replace hcx := (hb.cell (p := ⟨b1, o1 + i, none⟩) hb1).trans hcx
      unfold ival at hcx
      rw [bin_get] at hcx
      obtain ⟨x, hxe⟩ : ∃ x, m / 2 ^ i % 2 = x := ⟨_, rfl⟩
      have Hx := Lib.hid hxe
      have hx1 : x ≤ 1 := by omega
      rw [hxe] at hcx
      clear hxe
      by_cases hx0 : x = 0
      · subst hx0
        go_wp2_with fail
        go_roundw
        case rel => exact ⟨i + 1, out, by omega, by go_num, row, hb, Lib.hid (Hp.out.skip Hx.out)⟩
        case measure => simp [intOf]; omega
      · obtain rfl : x = 1 := by omega
        go_wp2_with fail
        have Hstart := Lib.hid (InAt.start Hp.out)
        have Row0 := Lib.hid row
        have Hb0 := Lib.hid hb
        clear row hb hcx
        go_loopw [7, 8] (fun cv kv wr2 => ∃ (k c : Nat) (out2 : List Nat), i + k ≤ L ∧ kv = .int .i64 (k : Int) ∧ cv = .int .i64 (c : Int) ∧ Row wr2 w.heap.size out2 ∧ Below w.heap.size w wr2 ∧ Hid (InAt n L i k c out out2)) (fun _ kv _ => L - i - (intOf kv).toNat)
        case atStart => exact ⟨0, 0, out, by omega, rfl, rfl, Row0.out, Hb0.out, Hstart⟩
        case round =>
          obtain ⟨k, c, out2, hk, rfl, rfl, row, hb, Hq⟩ := hrel
          have hcc : c ≤ 1 := Hq.out.2.1
          obtain ⟨j, hj⟩ : ∃ j, i + k = j := ⟨_, rfl⟩
          have Hj := Lib.hid hj
          have hjz : (i : Int) + (k : Int) = (j : Int) := by omega
          by_cases hlt : j < L
          · have hjl : j < out2.length := by rw [Hq.out.1]; exact hlt
            have hcd := row.cell (by rw [Hq.out.1]; omega) j hjl
            have hfr := row.frozen j
            unfold ival at hcd
            obtain ⟨d, hde⟩ : ∃ d, out2[j] = d := ⟨_, rfl⟩
            have Hd : Hid (∃ h : j < out2.length, out2[j] = d) := Lib.hid ⟨hjl, hde⟩
            have hd1 : d ≤ 1 := by rw [← hde]; exact Hq.out.2.2.1.get j hjl
            rw [hde] at hcd
            clear hde hjl
            by_cases hy : k < L2
            · obtain ⟨b2, o2, rfl, hb2, hcy⟩ := Hc2.out k (by rw [HL2.out]; exact hy)
              replace hcy := (hb.cell (p := ⟨b2, o2 + k, none⟩) hb2).trans hcy
              unfold ival at hcy
              rw [bin_get] at hcy
              obtain ⟨y, hye⟩ : ∃ y, n / 2 ^ k % 2 = y := ⟨_, rfl⟩
              have Hy := Lib.hid hye
              have hy1 : y ≤ 1 := by omega
              rw [hye] at hcy
              clear hye
              obtain ⟨t, ht⟩ : ∃ t, (c + d + y) % 2 = t := ⟨_, rfl⟩
              obtain ⟨q, hq⟩ : ∃ q, (c + d + y) / 2 = q := ⟨_, rfl⟩
              have ht0 : ((c : Int) + (d : Int) + (y : Int)).tmod 2 = (t : Int) := by rw [Int.tmod_eq_emod_of_nonneg (by omega)]; omega
              have hq0 : ((c : Int) + (d : Int) + (y : Int)).tdiv 2 = (q : Int) := by rw [Int.tdiv_eq_ediv_of_nonneg (by omega)]; omega
              have Hnew := Lib.hid (Hq.out.next Hj.out Hd.out.1 Hd.out.2 Hy.out (t := t) (q := q) (by omega) (by omega) (by omega))
              have ht1 : t ≤ 1 := by omega
              have hq1 : q ≤ 1 := by omega
              clear ht hq
              go_wp2_with fail
              go_roundw
              case rel => exact ⟨k + 1, q, out2.set j t, by omega, by go_num, by go_num, row.set j t, hb.setCell (p := ⟨w.heap.size, j, none⟩) (Nat.le_refl _) _, Hnew⟩
              case measure => simp [intOf]; omega
            · have Hy := Lib.hid (bit_of_len (m := n) (i := k) (by rw [HL2.out]; omega))
              obtain ⟨t, ht⟩ : ∃ t, (c + d + 0) % 2 = t := ⟨_, rfl⟩
              obtain ⟨q, hq⟩ : ∃ q, (c + d + 0) / 2 = q := ⟨_, rfl⟩
              have ht0 : ((c : Int) + (d : Int)).tmod 2 = (t : Int) := by rw [Int.tmod_eq_emod_of_nonneg (by omega)]; omega
              have hq0 : ((c : Int) + (d : Int)).tdiv 2 = (q : Int) := by rw [Int.tdiv_eq_ediv_of_nonneg (by omega)]; omega
              have Hnew := Lib.hid (Hq.out.next Hj.out Hd.out.1 Hd.out.2 Hy.out (t := t) (q := q) (by omega) (by omega) (by omega))
              have ht1 : t ≤ 1 := by omega
              have hq1 : q ≤ 1 := by omega
              clear ht hq
              go_wp2_with fail
              go_roundw
              case rel => exact ⟨k + 1, q, out2.set j t, by omega, by go_num, by go_num, row.set j t, hb.setCell (p := ⟨w.heap.size, j, none⟩) (Nat.le_refl _) _, Hnew⟩
              case measure => simp [intOf]; omega
          · obtain rfl : j = L := by omega
            go_wp2_with fail
            go_roundw
            case rel => exact ⟨i + 1, out2, by omega, by go_num, row, hb, Lib.hid (Hq.out.done Hp.out (by rw [HL1.out]; exact hx) HL.out Hj.out Hx.out)⟩
            case measure => simp [intOf]; omega
    · obtain rfl : i = L1 := by omega
      have hlen : out.length = L := Hp.out.1
      have hbits := Lib.hid Hp.out.2.1
      have He := Lib.hid ((by rw [HL1.out]; exact Hp.out : TimesAt m n L (bin m).length out).done)
      have own := row.own (by omega)
      rw [hlen] at own
      go_wp2_with fail
      refine (trim_any _ out hbits.out (by omega) _ own.sl).mono ?_
      rintro e w1 ⟨u1, rfl, hu1, rfl, hob⟩
      go_wp2_with fail
      go_ret
      rw [He.out] at hu1
      exact ⟨_, rfl, hu1, hb, fun k hk => (World.ownsRow.lt own k (hob.symm.trans hk)).1⟩

end Go.Proofs.Ytcpcmlonbpccnaa.Fr
