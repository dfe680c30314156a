/- Walks over package polygon: the sides of a ring, which are ranged over. -/
import Derived.Test.YtohkmkkcblbemaaPolW1
import Derived.Test.YtohkmkkcblbemaaRegIn
import Derived.RangeFuncNested
import Derived.RangeFuncBound
import Derived.RangeFuncCalls
import Derived.RangeFuncLeaves
import Derived.Shelf.Abstract
import Derived.Shelf.RegionOpen
import Derived.WalkKit
import Derived.OwnWalkIn
import Derived.TacticsInMore
import Derived.LoopNIn
import Derived.LoopIn
import Derived.Maps.AppendAt
namespace Go.Proofs.Ytohkmkkcblbemaa.Ge
set_option linter.unusedVariables false
set_option linter.unusedSimpArgs false
open Go.RowKit Go.Shelf
open Go.Proofs.Ytohkmkkcblbemaa.Fr (Two)
attribute [local go_sem] Oper.semAt_some

theorem sides_any (a : Option Addr) (k c : Nat) (w : World) :
    Calls Try.prog 68 #[.slice a k c] w fun e w' => e = .returned (.func (.func 83) #[] #[.pointer (some ⟨w.heap.size, 0, none⟩)]) ∧ w' = w.alloc (.cells #[.slice a k c] 27) := by
  go_enter Try.func68, Try.ntmps68
  go_wp2_with fail
  go_ret
  exact ⟨rfl, rfl⟩

/-- the sides on the grid -/
abbrev OSd := { s : Sd // onS s }
abbrev encS (x : OSd) : Array Value := #[.agg #[.int .i64 x.1.1.1, .int .i64 x.1.1.2, .int .i64 x.1.2.1, .int .i64 x.1.2.2]]
instance (s : Sd) : Decidable (onS s) := inferInstanceAs (Decidable (_ ∧ _))
def oAt (l : List (Int × Int)) (i : Nat) : OSd := if h : onS (sideAt l i) then ⟨sideAt l i, h⟩ else ⟨((0, 0), (0, 0)), by decide⟩
theorem oAt_val {l : List (Int × Int)} {i : Nat} (h : onS (sideAt l i)) : (oAt l i).1 = sideAt l i := by unfold oAt; rw [dif_pos h]
def oUpto (l : List (Int × Int)) (k : Nat) : List OSd := (List.range k).map (oAt l)
def oSides (l : List (Int × Int)) : List OSd := oUpto l l.length
theorem oUpto_succ (l : List (Int × Int)) (k : Nat) : oUpto l (k + 1) = oUpto l k ++ [oAt l k] := by unfold oUpto; rw [List.range_succ, List.map_append]; rfl
theorem oUpto_length (l : List (Int × Int)) (k : Nat) : (oUpto l k).length = k := by simp [oUpto]
theorem oSides_val {l : List (Int × Int)} (h : onL l) : (oSides l).map (·.1) = sidesL l := by
  unfold oSides oUpto sidesL
  rw [List.map_map]
  refine List.map_congr_left fun i hi => ?_
  have hi := List.mem_range.1 hi
  exact oAt_val (onS_at h (by omega) i)

/-- what a round that goes on keeps: what lay below n₀, and the box B -/
structure KpB (n₀ B : Nat) (W W' : World) : Prop where
  below : Below n₀ W W'
  box : W'.heap[B]? = W.heap[B]?
theorem KpB.refl (n₀ B : Nat) (W : World) : KpB n₀ B W W := ⟨Below.refl _ _, rfl⟩
theorem KpB.trans {n₀ B : Nat} {X Y Z : World} (h : KpB n₀ B X Y) (k : KpB n₀ B Y Z) : KpB n₀ B X Z := ⟨h.below.trans k.below, k.box.trans h.box⟩
theorem KpB.cell {n₀ B : Nat} {X Y : World} (h : KpB n₀ B X Y) (o : Nat) : Y.cell? ⟨B, o, none⟩ = X.cell? ⟨B, o, none⟩ := by unfold World.cell?; rw [h.box]
theorem KpB.of_below {n₀ B N : Nat} {X Y : World} (h : Below N X Y) (hn : n₀ ≤ N) (hB : B < N) : KpB n₀ B X Y := ⟨h.mono hn, h.block B hB⟩
theorem KpB.alloc {n₀ B : Nat} {X Y : World} (h : KpB n₀ B X Y) (hn : n₀ ≤ Y.heap.size) (hB : B < Y.heap.size) (o : Obj) : KpB n₀ B X (Y.alloc o) := h.trans (KpB.of_below ((Below.refl Y.heap.size Y).alloc (Nat.le_refl _) o) hn hB)
theorem KpB.drew {n₀ B : Nat} {X Y : World} (h : KpB n₀ B X Y) : KpB n₀ B X Y.drew := ⟨h.below.drew, h.box⟩
theorem KpB.bk {n₀ B : Nat} {w : World} (hn : n₀ ≤ w.heap.size) (hB : B < w.heap.size) (W : World) (l : Nat) (o o' : Obj) (hl : w.heap.size ≤ l) (h : W.heap[l]? = some o) (hc : o.isCells = false) (hw : o.isWalk = false) : KpB n₀ B W (W.putObj l o') :=
  ⟨belowK_b hn W l o o' hl h hc hw, World.putObj_heap_other (by omega)⟩

set_option maxRecDepth 100000 in
set_option maxHeartbeats 2000000 in
theorem sides_gen (n : Nat) (hn : 1 ≤ n) (l B n₀ b off cap : Nat) (r : List Pt) (hlen : 1 ≤ r.length ∧ r.length ≤ 1000) (E : Nat → OSd) (hE : ∀ k, k < r.length → (E k).1 = sideAt r k) (P : Nat → List OSd)
    (hP0 : P 0 = []) (hP : ∀ k, P (k + 1) = P k ++ [E k]) (hPl : ∀ k, (P k).length = k) (J Jx : List OSd → World → Prop)
    (hJ : ∀ s (X Y : World), J s X → Below X.heap.size X Y → J s Y)
    (hY : ∀ pre x W, J pre W → pre.length < r.length → YieldAt Fence.wide (n - 1) Try.prog l (encS x) W fun e W' =>
      (e = .returned (.bool true) ∧ J (pre ++ [x]) W' ∧ KpB n₀ B W W') ∨ (e = .returned (.bool false) ∧ Jx (pre ++ [x]) W'))
    (W : World) (hB : B < W.heap.size) (hb : b < n₀) (hW : n₀ ≤ W.heap.size) (hc : W.cell? ⟨B, 0, none⟩ = some (.slice (some ⟨b, off, none⟩) r.length cap)) (hr : ∀ i (h : i < r.length), Cells2 W b (off + i * 2) r[i]) (h0 : J [] W) :
    CallsIn Fence.wide n Try.prog 83 #[.func (.yield l) #[] #[], .pointer (some ⟨B, 0, none⟩)] W fun e W' => (∃ v, e = .returned v) ∧
      ((∃ ys, ys = P r.length ∧ J ys W') ∨ (∃ pre : List OSd, (∃ k, k ≤ r.length ∧ pre = P k) ∧ Jx pre W')) := by
  obtain ⟨hl1, hl2⟩ := hlen
  have HC := Lib.hid (fun (w' : World) (hw : KpB n₀ B W w') => (hw.cell 0).trans hc)
  have HR := Lib.hid (fun (w' : World) (hw : KpB n₀ B W w') i (hi : i < r.length) => (hr i hi).below hw.below hb)
  have HCC := hc
  rw [← hP0] at h0
  clear hr hP0
  refine callsIn_of_wp Try.func83 rfl trivial ?_ rfl
  simp only [Try.ntmps83, List.size_toArray, List.length_cons, List.length_nil, Nat.reduceAdd, Nat.reduceSub, Array.replicate_succ, Array.replicate_zero, List.push_toArray, List.append_toArray, List.nil_append, List.cons_append]
  gi_wp2
  clear hc HCC
  gi_loopw [7] (fun c wr => ∃ k : Nat, k ≤ r.length ∧ c = .int .i64 (k : Int) ∧ J (P k) wr ∧ KpB n₀ B W wr) (fun c _ => r.length - (intOf c).toNat)
  case atStart => exact ⟨0, by omega, rfl, h0, KpB.refl _ _ _⟩
  case round =>
    obtain ⟨k, hk, rfl, hj, hbel⟩ := hrel
    by_cases hlt : k < r.length
    · have hwz := hbel.below.size
      obtain ⟨c1, c2⟩ := HR.out wr hbel k hlt
      obtain ⟨d1, d2⟩ := HR.out wr hbel ((k + 1) % r.length) (Nat.mod_lt _ (by omega))
      have c0 := HC.out wr hbel
      have Hp := Lib.hid (hP k)
      obtain ⟨x, hx⟩ : ∃ x, E k = x := ⟨_, rfl⟩
      have hEk := hE k hlt
      rw [hx] at hEk Hp
      have hm : (k + 1) % r.length < r.length := Nat.mod_lt _ (by omega)
      have e1 : x.1.1 = r[k] := by rw [hEk]; exact nth_lt hlt
      have e2 : x.1.2 = r[(k + 1) % r.length] := by rw [hEk]; exact (nth_mod r (k + 1)).symm.trans (nth_lt (Nat.mod_lt _ (by omega)))
      rw [← e1] at c1 c2
      rw [← e2] at d1 d2
      have HY := Lib.hid (fun W' (h : J (P k) W') => hY (P k) x W' h (by rw [hPl]; exact hlt))
      have hmi : (((k + 1) % r.length : Nat) : Int) = ((k : Int) + 1).tmod (r.length : Int) := by
        rw [Int.tmod_eq_emod_of_nonneg (by omega), Int.natCast_emod]; rfl
      clear hE hEk hx e1 e2 hP hPl hY
      generalize (k + 1) % r.length = m at *
      gi_wp2
      have tP := (Two.new wr 23 (.int .i64 x.1.1.1) (.int .i64 x.1.1.2)).facts
      have hbV : KpB n₀ B W (wr.alloc (.cells #[.int .i64 x.1.1.1, .int .i64 x.1.1.2] 23)) := hbel.alloc (by omega) (by omega) _
      have hbv : Below wr.heap.size wr (wr.alloc (.cells #[.int .i64 x.1.1.1, .int .i64 x.1.1.2] 23)) := (Below.refl wr.heap.size wr).alloc (Nat.le_refl _) _
      have hS0 : ((wr.alloc (.cells #[.int .i64 x.1.1.1, .int .i64 x.1.1.2] 23)).cell? ⟨B, 0, none⟩ = some (.slice (some ⟨b, off, none⟩) r.length cap) ∧ ((wr.alloc (.cells #[.int .i64 x.1.1.1, .int .i64 x.1.1.2] 23)).cell? ⟨wr.heap.size, 0, none⟩ = some (.int .i64 x.1.1.1) ∧ (wr.alloc (.cells #[.int .i64 x.1.1.1, .int .i64 x.1.1.2] 23)).cell? ⟨wr.heap.size, 0 + 1, none⟩ = some (.int .i64 x.1.1.2)) ∧ (wr.alloc (.cells #[.int .i64 x.1.1.1, .int .i64 x.1.1.2] 23)).cell? ⟨b, off + m * 2, none⟩ = some (.int .i64 x.1.2.1) ∧ (wr.alloc (.cells #[.int .i64 x.1.1.1, .int .i64 x.1.1.2] 23)).cell? ⟨b, off + m * 2 + 1, none⟩ = some (.int .i64 x.1.2.2)) := ⟨(hbv.cell (p := ⟨B, 0, none⟩) (show B < wr.heap.size by omega)).trans c0, ⟨tP.1, tP.2.1⟩, (hbv.cell (p := ⟨b, off + m * 2, none⟩) (show b < wr.heap.size by omega)).trans d1, (hbv.cell (p := ⟨b, off + m * 2 + 1, none⟩) (show b < wr.heap.size by omega)).trans d2⟩
      have hjV : J (P k) (wr.alloc (.cells #[.int .i64 x.1.1.1, .int .i64 x.1.1.2] 23)).drew := hJ _ _ _ hj (hbv.drew)
      obtain ⟨fn, tmps, assign, body, hy, hR⟩ := HY.out _ hjV
      clear hbv tP c0 c1 c2 d1 d2 hj HY
      have HMI := Lib.hid hmi
      clear hmi
      have hrn : ¬ r = [] := fun e => by rw [e] at hl1; simp at hl1
      have hbW : KpB n₀ B W (wr.alloc (.cells #[.int .i64 x.1.1.1, .int .i64 x.1.1.2] 23)).drew := hbV.drew
      change ((wr.alloc (.cells #[.int .i64 x.1.1.1, .int .i64 x.1.1.2] 23)).drew.cell? ⟨B, 0, none⟩ = some (.slice (some ⟨b, off, none⟩) r.length cap) ∧ ((wr.alloc (.cells #[.int .i64 x.1.1.1, .int .i64 x.1.1.2] 23)).drew.cell? ⟨wr.heap.size, 0, none⟩ = some (.int .i64 x.1.1.1) ∧ (wr.alloc (.cells #[.int .i64 x.1.1.1, .int .i64 x.1.1.2] 23)).drew.cell? ⟨wr.heap.size, 0 + 1, none⟩ = some (.int .i64 x.1.1.2)) ∧ (wr.alloc (.cells #[.int .i64 x.1.1.1, .int .i64 x.1.1.2] 23)).drew.cell? ⟨b, off + m * 2, none⟩ = some (.int .i64 x.1.2.1) ∧ (wr.alloc (.cells #[.int .i64 x.1.1.1, .int .i64 x.1.1.2] 23)).drew.cell? ⟨b, off + m * 2 + 1, none⟩ = some (.int .i64 x.1.2.2)) at hS0
      clear hbV
      refine Rl.start_in 11 (fun w' => (w'.cell? ⟨B, 0, none⟩ = some (.slice (some ⟨b, off, none⟩) r.length cap) ∧ (w'.cell? ⟨wr.heap.size, 0, none⟩ = some (.int .i64 x.1.1.1) ∧ w'.cell? ⟨wr.heap.size, 0 + 1, none⟩ = some (.int .i64 x.1.1.2)) ∧ w'.cell? ⟨b, off + m * 2, none⟩ = some (.int .i64 x.1.2.1) ∧ w'.cell? ⟨b, off + m * 2 + 1, none⟩ = some (.int .i64 x.1.2.2))) (by kernel_rfl) ?_
      generalize (wr.alloc (.cells #[.int .i64 x.1.1.1, .int .i64 x.1.1.2] 23)).drew = U at *
      refine Rl.take_in (i := 1) (v := .agg #[.int .i64 x.1.1.1, .int .i64 x.1.1.2]) 10 [1] (by kernel_rfl) rfl (by decide) (by kernel_rfl) (by kernel_rfl) (by kernel_rfl) (by kernel_rfl) (by kernel_rfl) (by kernel_rfl) (by kernel_rfl) (fun _ _ _ h => h) ⟨Or.inl ⟨by rfl, ?_⟩, fun _ => rfl⟩ hS0 ?_
      · intro w' hSw
        obtain ⟨s0, ⟨s1, s2⟩, s3, s4⟩ := hSw
        go_simp
      simp only [Act.put, List.setIfInBounds_toArray, List.set_cons_zero, List.set_cons_succ]
      refine Rl.take_in (i := 2) (v := .slice (some ⟨b, off, none⟩) r.length cap) 10 [9, 8, 2] (by kernel_rfl) rfl (by decide) (by kernel_rfl) (by kernel_rfl) (by kernel_rfl) (by kernel_rfl) (by kernel_rfl) (by kernel_rfl) (by kernel_rfl) (fun _ _ _ h => h) ⟨Or.inl ⟨by rfl, ?_⟩, fun _ => rfl⟩ hS0 ?_
      · intro w' hSw
        obtain ⟨s0, ⟨s1, s2⟩, s3, s4⟩ := hSw
        go_simp
      simp only [Act.put, List.setIfInBounds_toArray, List.set_cons_zero, List.set_cons_succ]
      refine Rl.take_in (i := 3) (v := .int .i64 k) 10 [9, 8, 7, 4, 3] (by kernel_rfl) rfl (by decide) (by kernel_rfl) (by kernel_rfl) (by kernel_rfl) (by kernel_rfl) (by kernel_rfl) (by kernel_rfl) (by kernel_rfl) (fun _ _ _ h => h) ⟨Or.inl ⟨by rfl, ?_⟩, fun _ => rfl⟩ hS0 ?_
      · intro w' hSw
        obtain ⟨s0, ⟨s1, s2⟩, s3, s4⟩ := hSw
        go_simp
      simp only [Act.put, List.setIfInBounds_toArray, List.set_cons_zero, List.set_cons_succ]
      refine Rl.take_in (i := 4) (v := .int .i64 (k + 1)) 10 [9, 8, 7, 4] (by kernel_rfl) rfl (by decide) (by kernel_rfl) (by kernel_rfl) (by kernel_rfl) (by kernel_rfl) (by kernel_rfl) (by kernel_rfl) (by kernel_rfl) (fun _ _ _ h => h) ⟨Or.inl ⟨by rfl, ?_⟩, fun _ => rfl⟩ hS0 ?_
      · intro w' hSw
        obtain ⟨s0, ⟨s1, s2⟩, s3, s4⟩ := hSw
        go_simp
        rw [IntKind.wrap_i64]; omega
      simp only [Act.put, List.setIfInBounds_toArray, List.set_cons_zero, List.set_cons_succ]
      refine Rl.take_in (i := 5) (v := .slice (some ⟨b, off, none⟩) r.length cap) 10 [9, 8, 7, 6, 5] (by kernel_rfl) rfl (by decide) (by kernel_rfl) (by kernel_rfl) (by kernel_rfl) (by kernel_rfl) (by kernel_rfl) (by kernel_rfl) (by kernel_rfl) (fun _ _ _ h => h) ⟨Or.inl ⟨by rfl, ?_⟩, fun _ => rfl⟩ hS0 ?_
      · intro w' hSw
        obtain ⟨s0, ⟨s1, s2⟩, s3, s4⟩ := hSw
        go_simp
      simp only [Act.put, List.setIfInBounds_toArray, List.set_cons_zero, List.set_cons_succ]
      refine Rl.take_in (i := 6) (v := .int .i64 r.length) 10 [9, 8, 7, 6] (by kernel_rfl) rfl (by decide) (by kernel_rfl) (by kernel_rfl) (by kernel_rfl) (by kernel_rfl) (by kernel_rfl) (by kernel_rfl) (by kernel_rfl) (fun _ _ _ h => h) ⟨Or.inl ⟨by rfl, ?_⟩, fun _ => rfl⟩ hS0 ?_
      · intro w' hSw
        obtain ⟨s0, ⟨s1, s2⟩, s3, s4⟩ := hSw
        go_simp
      simp only [Act.put, List.setIfInBounds_toArray, List.set_cons_zero, List.set_cons_succ]
      refine Rl.take_in (i := 7) (v := .int .i64 m) 10 [9, 8, 7] (by kernel_rfl) rfl (by decide) (by kernel_rfl) (by kernel_rfl) (by kernel_rfl) (by kernel_rfl) (by kernel_rfl) (by kernel_rfl) (by kernel_rfl) (fun _ _ _ h => h) ⟨Or.inl ⟨by rfl, ?_⟩, fun _ => rfl⟩ hS0 ?_
      · intro w' hSw
        obtain ⟨s0, ⟨s1, s2⟩, s3, s4⟩ := hSw
        go_simp
        exact HMI.out.symm
      simp only [Act.put, List.setIfInBounds_toArray, List.set_cons_zero, List.set_cons_succ]
      refine Rl.take_in (i := 8) (v := .pointer (some ⟨b, off + m * 2, none⟩)) 10 [9, 8] (by kernel_rfl) rfl (by decide) (by kernel_rfl) (by kernel_rfl) (by kernel_rfl) (by kernel_rfl) (by kernel_rfl) (by kernel_rfl) (by kernel_rfl) (fun _ _ _ h => h) ⟨Or.inl ⟨by rfl, ?_⟩, fun _ => rfl⟩ hS0 ?_
      · intro w' hSw
        obtain ⟨s0, ⟨s1, s2⟩, s3, s4⟩ := hSw
        go_simp
      simp only [Act.put, List.setIfInBounds_toArray, List.set_cons_zero, List.set_cons_succ]
      refine Rl.take_in (i := 9) (v := .agg #[.int .i64 x.1.2.1, .int .i64 x.1.2.2]) 10 [9] (by kernel_rfl) rfl (by decide) (by kernel_rfl) (by kernel_rfl) (by kernel_rfl) (by kernel_rfl) (by kernel_rfl) (by kernel_rfl) (by kernel_rfl) (fun _ _ _ h => h) ⟨Or.inl ⟨by rfl, ?_⟩, fun _ => rfl⟩ hS0 ?_
      · intro w' hSw
        obtain ⟨s0, ⟨s1, s2⟩, s3, s4⟩ := hSw
        go_simp
      simp only [Act.put, List.setIfInBounds_toArray, List.set_cons_zero, List.set_cons_succ]
      refine Rl.take_in (i := 10) (v := .agg #[.int .i64 x.1.1.1, .int .i64 x.1.1.2, .int .i64 x.1.2.1, .int .i64 x.1.2.2]) 10 [] (by kernel_rfl) rfl (by decide) (by kernel_rfl) (by kernel_rfl) (by kernel_rfl) (by kernel_rfl) (by kernel_rfl) (by kernel_rfl) (by kernel_rfl) (fun _ _ _ h => h) ⟨Or.inl ⟨by rfl, ?_⟩, fun _ => rfl⟩ hS0 ?_
      · intro w' hSw
        obtain ⟨s0, ⟨s1, s2⟩, s3, s4⟩ := hSw
        go_simp
      simp only [Act.put, List.setIfInBounds_toArray, List.set_cons_zero, List.set_cons_succ]
      refine Rl.take_in (i := 0) (v := .func (.yield l) #[] #[]) 0 [] (by kernel_rfl) rfl (by decide) (by kernel_rfl) (by kernel_rfl) (by kernel_rfl) (by kernel_rfl) (by kernel_rfl) (by kernel_rfl) (by kernel_rfl) (fun _ _ _ h => h) ⟨Or.inl ⟨by rfl, ?_⟩, fun _ => rfl⟩ hS0 ?_
      · intro w' hSw
        obtain ⟨s0, ⟨s1, s2⟩, s3, s4⟩ := hSw
        go_simp
      simp only [Act.put, List.setIfInBounds_toArray, List.set_cons_zero, List.set_cons_succ]
      refine Rl.one_in (i := 11) rfl (by kernel_rfl) (fun K hK => ?_)
      rw [if_pos (by rfl)]
      unfold Oper.wpIn
      refine ⟨fun _ _ => trivial, ?_⟩
      go_simp
      refine hR.mono ?_
      rintro e W3 (⟨rfl, hJ3, hk3⟩ | ⟨rfl, hJx3⟩)
      · refine hK.out _ _ (fun h => Bool.noConfusion (show true = false from h)) ?_
        clear hK K
        try simp only [Act.put, List.setIfInBounds_toArray, List.set_cons_zero, List.set_cons_succ]
        refine Rl.one_in (i := 12) rfl (by kernel_rfl) (fun K hK => ?_)
        rw [if_pos (by rfl)]
        unfold Oper.wpIn
        refine ⟨fun _ _ => trivial, ?_⟩
        go_simp
        refine hK.out _ _ (fun h => Bool.noConfusion (show true = false from h)) ?_
        clear hK K
        try simp only [Act.put, List.setIfInBounds_toArray, List.set_cons_zero, List.set_cons_succ]
        refine Rl.done_in (by kernel_rfl) ?_ _
        gi_wp2
        go_roundw
        case rel => exact ⟨k + 1, by omega, by go_num, by rw [Hp.out]; exact hJ3, hbW.trans hk3⟩
        case measure => simp [intOf]; omega
      · refine hK.out _ _ (fun h => Bool.noConfusion (show true = false from h)) ?_
        clear hK K
        try simp only [Act.put, List.setIfInBounds_toArray, List.set_cons_zero, List.set_cons_succ]
        refine Rl.one_in (i := 12) rfl (by kernel_rfl) (fun K hK => ?_)
        rw [if_pos (by rfl)]
        unfold Oper.wpIn
        refine ⟨fun _ _ => trivial, ?_⟩
        go_simp
        refine hK.out _ _ (fun h => Bool.noConfusion (show true = false from h)) ?_
        clear hK K
        try simp only [Act.put, List.setIfInBounds_toArray, List.set_cons_zero, List.set_cons_succ]
        refine Rl.done_in (by kernel_rfl) ?_ _
        gi_wp2
        refine bodyPost_ret (results_none rfl _ _ _) rfl ?_
        exact ⟨⟨_, rfl⟩, .inr ⟨P (k + 1), ⟨k + 1, by omega, rfl⟩, by rw [Hp.out]; exact hJx3⟩⟩
    · obtain rfl : k = r.length := by omega
      gi_wp2
      go_end0
      exact ⟨⟨_, rfl⟩, .inl ⟨_, rfl, hj⟩⟩

theorem sides_stops (n : Nat) (hn : 1 ≤ n) (B n₀ b off cap : Nat) (r : List Pt) (hr : onL r) (hlen : 1 ≤ r.length ∧ r.length ≤ 1000) (w : World) (hB : B < w.heap.size) (hb : b < n₀) (hw : n₀ ≤ w.heap.size)
    (hc : w.cell? ⟨B, 0, none⟩ = some (.slice (some ⟨b, off, none⟩) r.length cap)) (hcells : ∀ i (h : i < r.length), Cells2 w b (off + i * 2) r[i]) :
    SeqStopsK Fence.wide n Try.prog 83 #[.pointer (some ⟨B, 0, none⟩)] encS (KpB n₀ B) (fun ys => ys = oSides r) (fun pre => ∃ k, k ≤ r.length ∧ pre = oUpto r k) r.length w := fun l J Jx W hW hJ _ hY h0 =>
  sides_gen n hn l B n₀ b off cap r hlen (oAt r) (fun k hk => oAt_val (onS_at hr (by omega) k)) (oUpto r) rfl (oUpto_succ r) (oUpto_length r) J Jx
    (fun s X Y hs hb => hJ s X Y none hs (grownBelow hb none) (fun r e => by cases e)) hY W (Nat.lt_of_lt_of_le hB hW.size) hb (Nat.le_trans hw hW.size)
    ((hW.cell (p := ⟨B, 0, none⟩) hB).trans hc) (fun i h => (hcells i h).below hW (Nat.lt_of_lt_of_le hb hw)) h0
theorem oUpto_mem {r : List Pt} (hr : onL r) {k : Nat} (hk : k ≤ r.length) {x : OSd} (hx : x ∈ oUpto r k) : x.1 ∈ sidesL r := by
  obtain ⟨i, hi, rfl⟩ := List.mem_map.1 hx
  have hi := List.mem_range.1 hi
  rw [oAt_val (onS_at hr (by omega) i)]
  exact List.mem_map.2 ⟨i, List.mem_range.2 (by omega), rfl⟩
/-- block B holds a side -/
def SdAt (W : World) (B : Nat) (s : Sd) : Prop := W.heap[B]? = some (.cells #[.int .i64 s.1.1, .int .i64 s.1.2, .int .i64 s.2.1, .int .i64 s.2.2] 83 (0, 0))
theorem SdAt.lt {W : World} {B : Nat} {s : Sd} (h : SdAt W B s) : B < W.heap.size := (Array.getElem?_eq_some_iff.1 h).1
theorem SdAt.new (W : World) (s : Sd) : SdAt (W.alloc (.cells #[.int .i64 s.1.1, .int .i64 s.1.2, .int .i64 s.2.1, .int .i64 s.2.2] 83)) W.heap.size s := World.alloc_heap_new W _
theorem SdAt.facts {W : World} {B : Nat} {s : Sd} (h : SdAt W B s) : W.cell? ⟨B, 0, none⟩ = some (.int .i64 s.1.1) ∧ W.cell? ⟨B, 1, none⟩ = some (.int .i64 s.1.2) ∧ W.cell? ⟨B, 2, none⟩ = some (.int .i64 s.2.1) ∧ W.cell? ⟨B, 3, none⟩ = some (.int .i64 s.2.2) := by
  unfold SdAt at h
  simp [World.cell?, h]
theorem SdAt.kept {W W' : World} {row : Option Nat} {B : Nat} {s : Sd} (h : SdAt W B s) (hg : W.grownBy W' row) (hne : some B ≠ row) : SdAt W' B s := (hg.block B h.lt hne).trans h
theorem SdAt.alloc {W : World} {B : Nat} {s : Sd} (h : SdAt W B s) (o : Obj) : SdAt (W.alloc o) B s := h.kept (World.grownBy_alloc W o none) (by simp)
theorem SdAt.below {W W' : World} {N B : Nat} {s : Sd} (h : SdAt W B s) (hb : Below N W W') (hlt : B < N) : SdAt W' B s := (hb.block B hlt).trans h
theorem SdAt.set {W : World} {B B' : Nat} {s : Sd} (h : SdAt W B s) (hne : B ≠ B') (v : Value) : SdAt (W.setCell ⟨B', 0, none⟩ v) B s := h.kept (grownBy_setCell' W B' v) (fun e => hne (by cases e; rfl))
theorem sd_own {β : Type} (B : Nat) (f : β → Sd) : Own (fun s W => SdAt W B (f s)) := fun s X Y row hs hg hrow =>
  hs.kept hg (fun e' => by obtain ⟨o, ho, hc⟩ := hrow B e'.symm; rw [show X.heap[B]? = _ from hs] at ho; cases ho; cases hc)
end Go.Proofs.Ytohkmkkcblbemaa.Ge
