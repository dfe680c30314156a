/- Walks over package alphabet: the places and letters of a text, which are ranged over. -/
import Derived.Test.YtcabhanmeookkaaDoorAlpW6
import Derived.Test.YtcabhanmeookkaaDoorAlpRd
import Derived.RangeFuncNested
import Derived.RangeFuncBound
import Derived.RangeFuncCalls
import Derived.RangeFuncLeaves
import Derived.RangeFuncBox
import Derived.Shelf.Abstract
import Derived.Shelf.RegionOpen
import Derived.OwnWalkIn
import Derived.TacticsInMore
import Derived.LoopNIn
import Derived.LoopIn
import Derived.Maps.AppendAt
namespace Go.Proofs.YtcabhanmeookkaaDoor.Al
set_option linter.unusedVariables false
set_option linter.unusedSimpArgs false
open Go.RowKit Go.Shelf
attribute [local go_sem] Oper.semAt_some

theorem read_any (v : Value) (Bm : Nat) (t : ByteArray) (w : World) :
    Calls Tryd.prog 27 #[.agg #[v, .map (some Bm)], .string t] w fun e w' => e = .returned (.func (.func 37) #[] #[.pointer (some ⟨w.heap.size + 1, 0, none⟩), .pointer (some ⟨w.heap.size, 0, none⟩)]) ∧ w' = (w.alloc (.cells #[v, .map (some Bm)] 44)).alloc (.cells #[.string t] 9) := by
  go_enter Tryd.func27, Tryd.ntmps27
  go_wp2_with fail
  go_ret
  exact ⟨rfl, rfl⟩

/-- a place and the letter there -/
abbrev Pl (m : Nat) := { x : Nat × Nat // x.1 ≤ 100000 ∧ x.2 < m }
abbrev encR {m : Nat} (x : Pl m) : Array Value := #[.int .i64 (x.1.1 : Int), .int .i64 (x.1.2 : Int)]
/-- these blocks stay as they are -/
def Kp3 (b1 b2 b3 : Nat) (W W' : World) : Prop := W'.heap[b1]? = W.heap[b1]? ∧ W'.heap[b2]? = W.heap[b2]? ∧ W'.heap[b3]? = W.heap[b3]?
theorem Kp3.refl (b1 b2 b3 : Nat) (W : World) : Kp3 b1 b2 b3 W W := ⟨rfl, rfl, rfl⟩
theorem Kp3.trans {b1 b2 b3 : Nat} {X Y Z : World} (h : Kp3 b1 b2 b3 X Y) (k : Kp3 b1 b2 b3 Y Z) : Kp3 b1 b2 b3 X Z := ⟨k.1.trans h.1, k.2.1.trans h.2.1, k.2.2.trans h.2.2⟩
theorem Kp3.bk {b1 b2 b3 : Nat} {w : World} (h1 : b1 < w.heap.size) (h2 : b2 < w.heap.size) (h3 : b3 < w.heap.size) (W : World) (l : Nat) (o o' : Obj) (hl : w.heap.size ≤ l) (h : W.heap[l]? = some o) (_ : o.isCells = false) (_ : o.isWalk = false) : Kp3 b1 b2 b3 W (W.putObj l o') :=
  ⟨World.putObj_heap_other (by omega), World.putObj_heap_other (by omega), World.putObj_heap_other (by omega)⟩
theorem Kp3.grown {b1 b2 b3 : Nat} {W W' : World} {row : Option Nat} (hg : W.grownBy W' row) (l1 : b1 < W.heap.size) (l2 : b2 < W.heap.size) (l3 : b3 < W.heap.size) (h1 : some b1 ≠ row) (h2 : some b2 ≠ row) (h3 : some b3 ≠ row) : Kp3 b1 b2 b3 W W' :=
  ⟨hg.block _ l1 h1, hg.block _ l2 h2, hg.block _ l3 h3⟩
theorem Kp3.set {b1 b2 b3 c i : Nat} {W : World} (v : Value) (h1 : b1 ≠ c) (h2 : b2 ≠ c) (h3 : b3 ≠ c) : Kp3 b1 b2 b3 W (W.setCell ⟨c, i, none⟩ v) :=
  ⟨heap_setCell_other _ _ _ _ h1, heap_setCell_other _ _ _ _ h2, heap_setCell_other _ _ _ _ h3⟩

/-- what the iterator reads -/
structure ItAt (W : World) (L : List Bs) (t : ByteArray) (v : Value) (Bt Bc Bm n : Nat) : Prop where
  tx : Blk W Bt 9 #[.string t]
  sc : Blk W Bc 44 #[v, .map (some Bm)]
  mp : IxMap W L Bm n L.length
theorem ItAt.kept {W W' : World} {L : List Bs} {t : ByteArray} {v : Value} {Bt Bc Bm n : Nat} (h : ItAt W L t v Bt Bc Bm n) (k : Kp3 Bt Bc Bm W W') : ItAt W' L t v Bt Bc Bm n :=
  ⟨k.1.trans h.tx, k.2.1.trans h.sc, by obtain ⟨es, clock, h1, r⟩ := h.mp; exact ⟨es, clock, k.2.2.trans h1, r⟩⟩

set_option maxRecDepth 100000 in
set_option maxHeartbeats 4000000 in
theorem read1_gen (n : Nat) (hn : 1 ≤ n) (l Bt Bc Bm nn : Nat) (L : List Bs) (F : Fine L) (t : ByteArray) (ht : t.size ≤ 100000) (v : Value) (J Jx : List (Pl L.length) → World → Prop)
    (hJ : ∀ s (X Y : World), J s X → Below X.heap.size X Y → J s Y)
    (hY : ∀ pre x W, J pre W → pre.length < t.size → YieldAt Fence.wide (n - 1) Tryd.prog l (encR x) W fun e W' =>
      (e = .returned (.bool true) ∧ J (pre ++ [x]) W' ∧ Kp3 Bt Bc Bm W W') ∨ (e = .returned (.bool false) ∧ Jx (pre ++ [x]) W'))
    (W : World) (hI : ItAt W L t v Bt Bc Bm nn) (h0 : J [] W) :
    CallsIn Fence.wide n Tryd.prog 37 #[.func (.yield l) #[] #[], .pointer (some ⟨Bt, 0, none⟩), .pointer (some ⟨Bc, 0, none⟩)] W fun e W' => (∃ v, e = .returned v) ∧
      ((∃ ys : List (Pl L.length), ys.map (·.1) = plc L (rd L (bl t)).1 ∧ J ys W') ∨ (∃ pre : List (Pl L.length), (∃ k, k ≤ (rd L (bl t)).1.length ∧ pre.map (·.1) = plc L ((rd L (bl t)).1.take k)) ∧ Jx pre W')) := by
  refine callsIn_of_wp Tryd.func37 rfl trivial ?_ rfl
  simp only [Tryd.ntmps37, List.size_toArray, List.length_cons, List.length_nil, Nat.reduceAdd, Nat.reduceSub, Array.replicate_succ, Array.replicate_zero, List.push_toArray, List.append_toArray, List.nil_append, List.cons_append]
  have HRd := Lib.hid (RdAt.start L (bl t))
  refine wpIn_wide.2 (wp_scope_straight ((wpIn_wide (n := n)).1 ?_))
  gi_wp2
  refine wpIn_label ?_
  gi_wp2
  gi_loopw [4] (fun p wr => ∃ (q : Nat) (a : List Nat) (pre : List (Pl L.length)), p = .int .i64 q ∧ Hid (RdAt L (bl t) a q) ∧ Hid (pre.map (·.1) = plc L a) ∧ J pre wr ∧ ItAt wr L t v Bt Bc Bm nn)
    (fun p _ => t.size - (intOf p).toNat)
  case atStart => exact ⟨0, [], [], rfl, HRd, Lib.hid rfl, h0, hI⟩
  case round =>
    obtain ⟨q, a, pre, rfl, HR, HP, hj, hI1⟩ := hrel
    have hq : q ≤ t.size := by have := HR.out.le; rwa [bl_len] at this
    have ht0 : wr.cell? ⟨Bt, 0, none⟩ = some (.string t) := hI1.tx.cell 0
    by_cases hlt : q < t.size
    · have hmin : min 3 ((t.size : Int) - (q : Int)) = ((min 3 (t.size - q) : Nat) : Int) := by omega
      have hml : min 3 (t.size - q) ≤ t.size - q := Nat.min_le_right _ _
      have hm3 : min 3 (t.size - q) ≤ 3 := Nat.min_le_left _ _
      have HH := Lib.hid (show at1 L ((bl t).drop q) = hit L ((bl t).drop q) (min 3 (t.size - q)) by rw [hit_min, List.length_drop, bl_len])
      generalize min 3 (t.size - q) = s0 at *
      have Hmin := Lib.hid hmin
      clear hmin
      gi_wp2
      generalize wr = w1 at *
      gi_loopw [4, 5] (fun p z wr => ∃ s : Nat, p = .int .i64 q ∧ z = .int .i64 s ∧ s ≤ 3 ∧ s ≤ t.size - q ∧ Hid (at1 L ((bl t).drop q) = hit L ((bl t).drop q) s) ∧ J pre wr ∧ ItAt wr L t v Bt Bc Bm nn) (fun _ z _ => (intOf z).toNat)
      case atStart => exact ⟨s0, rfl, by rw [Hmin.out], hm3, hml, HH, hj, hI1⟩
      case round =>
        obtain ⟨s, rfl, rfl, hs3, hsl, HS, hj2, hI2⟩ := hrel
        cases s with
        | zero =>
          have he := HR.out.stop HS.out
          have Hes := Lib.hid (show pre.map (·.1) = plc L (rd L (bl t)).1 by rw [he]; exact HP.out)
          clear he
          gi_wp2
          rw [Exit.noGoto_ret]
          refine bodyPost_ret (results_none rfl _ _ _) rfl ?_
          exact ⟨⟨_, rfl⟩, .inl ⟨pre, Hes.out, hj2⟩⟩
        | succ s =>
          have ht2 : wr.cell? ⟨Bt, 0, none⟩ = some (.string t) := hI2.tx.cell 0
          have hc1 : wr.cell? ⟨Bc, 1, none⟩ = some (.map (some Bm)) := hI2.sc.cell 1
          have e1 : bl (t.extract q (q + (s + 1))) = ((bl t).drop q).take (s + 1) := by rw [bl_ext, Nat.add_sub_cancel_left]
          have hsz : (t.extract q (q + (s + 1))).size ≤ 1000000 := by rw [← bl_len, e1, List.length_take]; omega
          have hw1 : IntKind.i64.wrap ((q : Int) + ((s + 1 : Nat) : Int)) = (q : Int) + ((s + 1 : Nat) : Int) := IntWalk.i64_in _ (by omega)
          cases hc : L.contains (((bl t).drop q).take (s + 1)) with
          | false =>
            have hrun := fun k => IxMap.no (w := wr.drewN k) hI2.mp (t.extract q (q + (s + 1))) hsz (by rw [e1]; exact hc)
            gi_wp2
            refine wpIn_wide.2 ?_
            go_quiet (fail)
            have hj3 := hJ _ _ _ hj2 (below_drewN wr nq wr.heap.size)
            have hI3 : ItAt (wr.drewN nq) L t v Bt Bc Bm nn := hI2.kept ⟨rfl, rfl, rfl⟩
            have HN := Lib.hid (show at1 L ((bl t).drop q) = hit L ((bl t).drop q) s by rw [HS.out, hit_no hc])
            clear hrun hc
            generalize wr.drewN nq = w2 at *
            gi_wp2
            go_roundw
            case rel => exact ⟨s, rfl, by go_num, by omega, by omega, HN, hj3, hI3⟩
            case measure => simp [intOf]
          | true =>
            have hrun := fun k => IxMap.yes (w := wr.drewN k) hI2.mp F.nodup (t.extract q (q + (s + 1))) hsz (by rw [e1]; exact hc)
            have hAt : at1 L ((bl t).drop q) = some (idxA L (bl (t.extract q (q + (s + 1))))) := by rw [HS.out, e1, hit_yes (by rw [List.length_drop, bl_len]; omega) hc]
            have hil := at1_lt hAt
            have hNx := HR.out.next hAt
            have hle := (show (ltA L (idxA L (bl (t.extract q (q + (s + 1)))))).length = s + 1 by
              rw [e1, ltA_idx (by simpa using hc), List.length_take, List.length_drop, bl_len]; omega)
            rw [hle] at hNx
            have hpl : pre.length < t.size := by
              have h1 := congrArg List.length HP.out
              rw [List.length_map, plc_len] at h1
              have h2 := HR.out.count F
              omega
            have HP2 : Hid (∀ x : Pl L.length, x.1 = (q, idxA L (bl (t.extract q (q + (s + 1))))) → (pre ++ [x]).map (·.1) = plc L (a ++ [idxA L (bl (t.extract q (q + (s + 1))))])) := Lib.hid fun x hx => by
              rw [plc_snoc, List.map_append, HP.out, List.map_cons, List.map_nil, hx, HR.out.at_]
            have HNx := Lib.hid hNx
            clear hc hAt hle hNx e1
            generalize idxA L (bl (t.extract q (q + (s + 1)))) = i at *
            gi_wp2
            refine wpIn_wide.2 ?_
            go_quiet (fail)
            have hj3 := hJ _ _ _ hj2 (below_drewN wr nq wr.heap.size)
            have hI3 : ItAt (wr.drewN nq) L t v Bt Bc Bm nn := hI2.kept ⟨rfl, rfl, rfl⟩
            clear hrun
            generalize wr.drewN nq = w2 at *
            obtain ⟨fn, tmps, assign, body, hy, hR⟩ := hY pre ⟨(q, i), by dsimp only; omega, hil⟩ w2 hj3 hpl
            gi_wp2
            refine hR.mono ?_
            rintro e W3 (⟨rfl, hJ3, hk3⟩ | ⟨rfl, hJx3⟩)
            · have hI4 := hI3.kept hk3
              gi_wp2
              exact ⟨⟨q + (s + 1), a ++ [i], pre ++ [⟨(q, i), by dsimp only; omega, hil⟩], by go_num, HNx, Lib.hid (HP2.out _ rfl), hJ3, hI4⟩, by simp [intOf]; omega⟩
            · gi_wp2
              rw [Exit.noGoto_ret]
              refine bodyPost_ret (results_none rfl _ _ _) rfl ?_
              obtain ⟨q1, q2⟩ := HNx.out.pre
              exact ⟨⟨_, rfl⟩, .inr ⟨_, ⟨a.length + 1, q1, by rw [← q2]; exact HP2.out _ rfl⟩, hJx3⟩⟩
    · obtain rfl : q = t.size := by omega
      have he := HR.out.stop (by rw [List.drop_of_length_le (by rw [bl_len]; omega)]; exact at1_nil L)
      have Hes := Lib.hid (show pre.map (·.1) = plc L (rd L (bl t)).1 by rw [he]; exact HP.out)
      clear he
      gi_wp2
      rw [Exit.noGoto_normal]
      go_end0
      exact ⟨⟨_, rfl⟩, .inl ⟨pre, Hes.out, hj⟩⟩

theorem read_stops (n : Nat) (hn : 1 ≤ n) (Bt Bc Bm nn : Nat) (L : List Bs) (F : Fine L) (t : ByteArray) (ht : t.size ≤ 100000) (v : Value) (w : World) (hI : ItAt w L t v Bt Bc Bm nn) :
    SeqStopsK Fence.wide n Tryd.prog 37 #[.pointer (some ⟨Bt, 0, none⟩), .pointer (some ⟨Bc, 0, none⟩)] (encR (m := L.length)) (Kp3 Bt Bc Bm)
      (fun ys => ys.map (·.1) = plc L (rd L (bl t)).1) (fun pre => ∃ k, k ≤ (rd L (bl t)).1.length ∧ pre.map (·.1) = plc L ((rd L (bl t)).1.take k)) t.size w := fun l J Jx W hW hJ _ hY h0 =>
  read1_gen n hn l Bt Bc Bm nn L F t ht v J Jx (fun s X Y hs hb => hJ s X Y none hs (grownBelow hb none) (fun r e => by cases e)) hY W
    ⟨hI.tx.below hW hI.tx.lt, hI.sc.below hW hI.sc.lt, hI.mp.below hW hI.mp.lt⟩ h0
end Go.Proofs.YtcabhanmeookkaaDoor.Al
