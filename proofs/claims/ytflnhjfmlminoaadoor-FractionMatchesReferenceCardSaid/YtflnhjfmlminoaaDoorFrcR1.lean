/- Walks over layer 5's reference: lists of binary digits; trim, digits. -/
import Derived.Test.YtflnhjfmlminoaaDoorFrcBin
import Derived.Test.YtflnhjfmlminoaaDoorFrcW2
import Derived.Maps.AppendAt
import Derived.Deep.AppendLies
namespace Go.Proofs.YtflnhjfmlminoaaDoor.Fr
set_option linter.unusedVariables false
set_option linter.unusedSimpArgs false
open Go.RowKit

theorem infoI : (Tryd.prog.info? 3).map (fun i => (i.zero, i.size, i.bytes)) = some (some (.int .i64 0), 1, 8) := by kernel_rfl
def ival (d : Nat) : Value := .int .i64 (d : Int)

/-- the value v is a slice of ints, which has just these elements -/
def IntSl (w : World) (v : Value) (l : List Nat) : Prop :=
  (l = [] ∧ ∃ a cap, v = .slice a 0 cap) ∨
  ∃ b off cap, v = .slice (some ⟨b, off, none⟩) l.length cap ∧ 0 < l.length ∧ b < w.heap.size ∧ (l.length ≤ cap ∧ cap ≤ maxLen) ∧ ∀ i (h : i < l.length), w.cell? ⟨b, off + i, none⟩ = some (ival l[i])
theorem IntSl.below {w w' : World} {v : Value} {l : List Nat} (h : IntSl w v l) (hb : Below w.heap.size w w') : IntSl w' v l := by
  rcases h with h | ⟨b, off, cap, hv, h0, hlt, hm, hc⟩
  · exact .inl h
  · exact .inr ⟨b, off, cap, hv, h0, Nat.lt_of_lt_of_le hlt hb.size, hm, fun i hi => (hb.cell (p := ⟨b, off + i, none⟩) hlt).trans (hc i hi)⟩
theorem IntSl.take {w : World} {b off cap : Nat} {l : List Nat} (h : IntSl w (.slice (some ⟨b, off, none⟩) l.length cap) l) (k : Nat) (hk : k ≤ l.length) : IntSl w (.slice (some ⟨b, off, none⟩) k cap) (l.take k) := by
  have hlen : (l.take k).length = k := by rw [List.length_take]; omega
  by_cases hz : k = 0
  · subst hz
    exact .inl ⟨rfl, _, _, rfl⟩
  · rcases h with ⟨rfl, a, cap', _⟩ | ⟨b', off', cap', he, h0, hbb, hm, hc⟩
    · simp at hk; omega
    · simp only [Value.slice.injEq, Option.some.injEq, Addr.mk.injEq, true_and, and_true] at he
      obtain ⟨⟨rfl, rfl⟩, rfl⟩ := he
      refine .inr ⟨b, off, cap, by rw [hlen], by omega, hbb, by omega, fun i hi => ?_⟩
      rw [hlen] at hi
      rw [hc i (by omega), List.getElem_take]
theorem IntSl.drop {w : World} {b off cap : Nat} {l : List Nat} (h : IntSl w (.slice (some ⟨b, off, none⟩) l.length cap) l) (k : Nat) (hk : k < l.length) : IntSl w (.slice (some ⟨b, off + k, none⟩) (l.length - k) (cap - k)) (l.drop k) := by
  have hlen : (l.drop k).length = l.length - k := List.length_drop
  rcases h with ⟨rfl, a, cap', _⟩ | ⟨b', off', cap', he, h0, hbb, hm, hc⟩
  · simp at hk
  · simp only [Value.slice.injEq, Option.some.injEq, Addr.mk.injEq, true_and, and_true] at he
    obtain ⟨⟨rfl, rfl⟩, rfl⟩ := he
    refine .inr ⟨b, off + k, _, by rw [hlen], by omega, hbb, by omega, fun i hi => ?_⟩
    rw [hlen] at hi
    rw [Nat.add_assoc, hc (k + i) (by omega), List.getElem_drop]

/-! ### lists of the call's own -/
theorem grownBelow {w w' : World} (h : Below w.heap.size w w') (row : Option Nat) : w.grownBy w' row := ⟨h.os, h.tape, h.output, h.size, fun i hi _ => h.block i hi⟩
def OwnInt (w : World) (B : Nat) (v : Value) (l : List Nat) : Prop := w.ownsRow B 3 1 v l.length (l.map ival)
theorem OwnInt.below {w w' : World} {B : Nat} {v : Value} {l : List Nat} (h : OwnInt w B v l) (hb : Below w.heap.size w w') : OwnInt w' B v l := by
  have hg := grownBelow hb (some w.heap.size)
  refine World.ownsRow.kept h hg ?_
  right
  intro he
  have := (World.ownsRow.lt h _ he).2
  omega
theorem OwnInt.nil (w : World) (B : Nat) : OwnInt w B (.slice none 0 0) [] := World.ownsRow_nil w B _ 1
theorem OwnInt.ofAlloc {w : World} {B : Nat} {v : Value} {l : List Nat} (h : OwnInt w B v l) (o : Obj) : OwnInt (w.alloc o) B v l := World.ownsRow.alloc h o
theorem OwnInt.sl {w : World} {B : Nat} {v : Value} {l : List Nat} (h : OwnInt w B v l) : IntSl w v l := by
  have h' := h
  rcases h.2 with ⟨rfl, hn⟩ | ⟨g, cap, cur, rfl, hb, hg, hnc, hcm, hs, ht⟩
  · exact .inl ⟨List.eq_nil_of_length_eq_zero hn, _, _, rfl⟩
  · by_cases h0 : l.length = 0
    · rw [h0]
      exact .inl ⟨List.eq_nil_of_length_eq_zero h0, _, _, rfl⟩
    · refine .inr ⟨g, 0, cap, rfl, by omega, (World.ownsRow.lt h' g rfl).2, ⟨hnc, hcm⟩, fun i hi => ?_⟩
      have hc := World.ownsRow.cellAt h' i (by omega)
      rw [Nat.zero_add, hc]
      simp [hi]
theorem list_int (w : World) {ops : Array Oper} {rest : List Oper} {o : Oper} {a : Act} {Q : Exit → Act → World → Prop} (hw : Region.wanted o (yielded ops a.tmps) = true) (s x : Operand)
    (ho : o.op = .call { callee := .builtin .append, args := #[s, x], argTypes := #[48, 48] })
    (B : Nat) (v : Value) (ad : Addr) (n c : Nat) (p q : List Nat) (hs : a.eval s = v) (hx : a.eval x = .slice (some ad) n c) (hn : n = q.length) (own : OwnInt w B v p) (hcells : ∀ j x, (q.map ival)[j]? = some x → w.cell? (ad.add j) = some x) (hlen : p.length + q.length ≤ 1000000) (hB : B ≤ w.heap.size)
    (h : ∀ v' w', OwnInt w' B v' (p ++ q) → w.grownBy w' v.ownBlock → wpList Tryd.prog ops Q rest (a.put o.dst v') w') : wpList Tryd.prog ops Q (o :: rest) a w :=
  wpList_step fun K hK => by
    rw [if_pos hw]
    obtain ⟨i0, hi, hz0, hz1, hz2⟩ := info_parts infoI
    subst hn
    obtain ⟨v', w', hr, h2, h3, _, h5⟩ := run_append_own_at (P := Tryd.prog) w B 48 o.type 3 i0 _ 1 8 Tryd.underlying48 hi hz0 hz1 hz2 rfl (by decide) v p.length (p.map ival) own ad q.length c (q.map ival)
      (by simp) hcells (by intro x hx; obtain ⟨s, _, rfl⟩ := List.mem_map.1 hx; rfl) (by unfold maxLen; omega) (by omega) hB
    unfold Oper.wp execOp
    simp only [ho, resolve, invoke, builtin, Sem.run_bind, Sem.run_pure, Result.andThen_ok, List.map_toArray, List.map_cons, List.map_nil, hs, hx, hr]
    refine hK _ _ (h v' w' ?_ h3)
    unfold OwnInt
    rw [List.length_append, List.map_append]
    exact h2
theorem cells1 (w : World) (d : Nat) : ∀ j x, (([d] : List Nat).map ival)[j]? = some x → (w.alloc (.cells #[.int .i64 (d : Int)] 3)).cell? ((⟨w.heap.size, 0, none⟩ : Addr).add j) = some x := by
  intro j x hx
  match j with
  | 0 => simp [ival] at hx; subst hx; simp [Addr.add]
  | j + 1 => simp at hx

/-! ### trim -/
set_option maxRecDepth 100000 in
set_option maxHeartbeats 1000000 in
theorem trim_any (v : Value) (l : List Nat) (hb : Bits l) (hlen : l.length ≤ 100000) (w : World) (hs : IntSl w v l) :
    Calls Tryd.prog 56 #[v] w fun e w' => ∃ u, e = .returned u ∧ IntSl w u (bin (bv l)) ∧ w = w' ∧ u.ownBlock = v.ownBlock := by
  rcases hs with ⟨rfl, a, cap, rfl⟩ | ⟨b, off, cap, rfl, h0, hbb, hm, hc⟩
  · go_enter Tryd.func56, Tryd.ntmps56
    go_wp2_with fail
    refine wp_loop_rounds 1 ?_
    rw [rounds_succ]
    go_wp2_with fail
    go_ret
    exact ⟨_, rfl, .inl ⟨by rw [show bv [] = 0 from rfl, bin_zero], _, _, rfl⟩, rfl, rfl⟩
  · have hsl : IntSl w (.slice (some ⟨b, off, none⟩) l.length cap) l := .inr ⟨b, off, cap, rfl, h0, hbb, hm, hc⟩
    have Hb := Lib.hid hb
    have Hsl := Lib.hid hsl
    unfold maxLen at hm
    clear hb hsl
    go_enter Tryd.func56, Tryd.ntmps56
    go_wp2_with fail
    go_loopw [3] (fun n wr => ∃ k : Nat, k ≤ l.length ∧ n = .int .i64 (k : Int) ∧ Hid (∀ i (h : i < l.length), k ≤ i → l[i] = 0) ∧ w = wr) (fun n _ => (intOf n).toNat)
    case atStart => exact ⟨l.length, by omega, rfl, Lib.hid (fun i h h2 => by omega), by simp⟩
    case round =>
      obtain ⟨k, hk, rfl, Hz, rfl⟩ := hrel
      by_cases hlt : 0 < k
      · obtain ⟨j, rfl⟩ : ∃ j, k = j + 1 := ⟨k - 1, by omega⟩
        have hcj := hc j (by omega)
        unfold ival at hcj
        obtain ⟨x, hx⟩ : ∃ x, l[j] = x := ⟨_, rfl⟩
        have Hx := Lib.hid hx
        rw [hx] at hcj
        clear hc hx
        by_cases hx0 : x = 0
        · subst hx0
          go_wp2_with fail
          go_roundw
          case rel => exact ⟨j, by omega, by go_num, Lib.hid (fun i h h2 => by
            by_cases e : i = j
            · subst e; exact Hx.out
            · exact Hz.out i h (by omega)), by simp⟩
          case measure => simp [intOf]
        · have hx1 : ¬ (x : Int) = 0 := by omega
          go_wp2_with fail
          go_ret
          have e := take_bin l (j + 1) Hb.out (by omega) Hz.out (.inr ⟨by omega, by rw [show l[j + 1 - 1] = l[j] from rfl, Hx.out]; exact hx0⟩)
          exact ⟨_, rfl, by rw [← e]; exact Hsl.out.take (j + 1) hk, rfl, rfl⟩
      · obtain rfl : k = 0 := by omega
        clear hc
        go_wp2_with fail
        go_ret
        have e := take_bin l 0 Hb.out (by omega) Hz.out (.inl rfl)
        exact ⟨_, rfl, by rw [← e]; exact Hsl.out.take 0 hk, rfl, rfl⟩

end Go.Proofs.YtflnhjfmlminoaaDoor.Fr
