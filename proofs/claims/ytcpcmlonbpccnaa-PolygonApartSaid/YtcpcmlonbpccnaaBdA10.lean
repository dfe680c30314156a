/- Walks over package polygon: the sides of a ring, which are ranged over. -/
import Derived.Test.YtcpcmlonbpccnaaBdA7
import Derived.Test.YtcpcmlonbpccnaaBdA9
import Derived.RangeFuncNested
import Derived.RangeFuncBound
import Derived.RangeFuncCalls
import Derived.RangeFuncLeaves
import Derived.Shelf.Abstract
import Derived.Shelf.RegionOpen
import Derived.WalkKit
import Derived.OwnWalkIn
import Derived.TacticsInMore
import Derived.LoopNIn
import Derived.LoopIn
import Derived.Maps.AppendAt
namespace Go.Proofs.Ytcpcmlonbpccnaa.Ge
set_option linter.unusedVariables false
set_option linter.unusedSimpArgs false
open Go.RowKit Go.Shelf
open Go.Proofs.Ytcpcmlonbpccnaa.Fr (Two)
attribute [local go_sem] Oper.semAt_some

theorem sides_any (a : Option Addr) (k c : Nat) (w : World) :
    Calls Try.prog 113 #[.slice a k c] w fun e w' => e = .returned (.func (.func 127) #[] #[.pointer (some ⟨w.heap.size, 0, none⟩)]) ∧ w' = w.alloc (.cells #[.slice a k c] 22) := by
  go_enter Try.func113, Try.ntmps113
  go_wp2_with fail
  go_ret
  exact ⟨rfl, rfl⟩

/-- the sides on the grid -/
abbrev OSd := { s : Sd // onS s }
abbrev encS (x : OSd) : Array Value := #[.agg #[.int .i64 x.1.1.1, .int .i64 x.1.1.2, .int .i64 x.1.2.1, .int .i64 x.1.2.2]]
instance (s : Sd) : Decidable (onS s) := inferInstanceAs (Decidable (_ ∧ _))
def oAt (l : List (Int × Int)) (i : Nat) : OSd := if h : onS (sideAt l i) then ⟨sideAt l i, h⟩ else ⟨((0, 0), (0, 0)), by decide⟩
theorem oAt_val {l : List (Int × Int)} {i : Nat} (h : onS (sideAt l i)) : (oAt l i).1 = sideAt l i := by unfold oAt; rw [dif_pos h]
def oUpto (l : List (Int × Int)) (k : Nat) : List OSd := (List.range k).map (oAt l)
def oSides (l : List (Int × Int)) : List OSd := oUpto l l.length
theorem oUpto_succ (l : List (Int × Int)) (k : Nat) : oUpto l (k + 1) = oUpto l k ++ [oAt l k] := by unfold oUpto; rw [List.range_succ, List.map_append]; rfl
theorem oUpto_length (l : List (Int × Int)) (k : Nat) : (oUpto l k).length = k := by simp [oUpto]
theorem oSides_val {l : List (Int × Int)} (h : onL l) : (oSides l).map (·.1) = sidesL l := by
  unfold oSides oUpto sidesL
  rw [List.map_map]
  refine List.map_congr_left fun i hi => ?_
  have hi := List.mem_range.1 hi
  exact oAt_val (onS_at h (by omega) i)

/-- what a round that goes on keeps: what lay below n₀, and the box B -/
structure KpB (n₀ B : Nat) (W W' : World) : Prop where
  below : Below n₀ W W'
  box : W'.heap[B]? = W.heap[B]?
theorem KpB.refl (n₀ B : Nat) (W : World) : KpB n₀ B W W := ⟨Below.refl _ _, rfl⟩
theorem KpB.trans {n₀ B : Nat} {X Y Z : World} (h : KpB n₀ B X Y) (k : KpB n₀ B Y Z) : KpB n₀ B X Z := ⟨h.below.trans k.below, k.box.trans h.box⟩
theorem KpB.cell {n₀ B : Nat} {X Y : World} (h : KpB n₀ B X Y) (o : Nat) : Y.cell? ⟨B, o, none⟩ = X.cell? ⟨B, o, none⟩ := by unfold World.cell?; rw [h.box]
theorem KpB.of_below {n₀ B N : Nat} {X Y : World} (h : Below N X Y) (hn : n₀ ≤ N) (hB : B < N) : KpB n₀ B X Y := ⟨h.mono hn, h.block B hB⟩
theorem KpB.alloc {n₀ B : Nat} {X Y : World} (h : KpB n₀ B X Y) (hn : n₀ ≤ Y.heap.size) (hB : B < Y.heap.size) (o : Obj) : KpB n₀ B X (Y.alloc o) := h.trans (KpB.of_below ((Below.refl Y.heap.size Y).alloc (Nat.le_refl _) o) hn hB)
theorem KpB.drew {n₀ B : Nat} {X Y : World} (h : KpB n₀ B X Y) : KpB n₀ B X Y.drew := ⟨h.below.drew, h.box⟩
theorem KpB.bk {n₀ B : Nat} {w : World} (hn : n₀ ≤ w.heap.size) (hB : B < w.heap.size) (W : World) (l : Nat) (o o' : Obj) (hl : w.heap.size ≤ l) (h : W.heap[l]? = some o) (hc : o.isCells = false) (hw : o.isWalk = false) : KpB n₀ B W (W.putObj l o') :=
  ⟨belowK_b hn W l o o' hl h hc hw, World.putObj_heap_other (by omega)⟩

set_option maxRecDepth 100000 in
set_option maxHeartbeats 2000000 in
theorem sides_gen (n : Nat) (hn : 1 ≤ n) (l B n₀ b off cap : Nat) (r : List Pt) (hlen : 1 ≤ r.length ∧ r.length ≤ 1000) (E : Nat → OSd) (hE : ∀ k, k < r.length → (E k).1 = sideAt r k) (P : Nat → List OSd)
    (hP0 : P 0 = []) (hP : ∀ k, P (k + 1) = P k ++ [E k]) (hPl : ∀ k, (P k).length = k) (J Jx : List OSd → World → Prop)
    (hJ : ∀ s (X Y : World), J s X → Below X.heap.size X Y → J s Y)
    (hY : ∀ pre x W, J pre W → pre.length < r.length → YieldAt Fence.wide (n - 1) Try.prog l (encS x) W fun e W' =>
      (e = .returned (.bool true) ∧ J (pre ++ [x]) W' ∧ KpB n₀ B W W') ∨ (e = .returned (.bool false) ∧ Jx (pre ++ [x]) W'))
    (W : World) (hB : B < W.heap.size) (hb : b < n₀) (hW : n₀ ≤ W.heap.size) (hc : W.cell? ⟨B, 0, none⟩ = some (.slice (some ⟨b, off, none⟩) r.length cap)) (hr : ∀ i (h : i < r.length), Cells2 W b (off + i * 2) r[i]) (h0 : J [] W) :
    CallsIn Fence.wide n Try.prog 127 #[.func (.yield l) #[] #[], .pointer (some ⟨B, 0, none⟩)] W fun e W' => (∃ v, e = .returned v) ∧
      ((∃ ys, ys = P r.length ∧ J ys W') ∨ (∃ pre : List OSd, (∃ k, k ≤ r.length ∧ pre = P k) ∧ Jx pre W')) := by
  obtain ⟨hl1, hl2⟩ := hlen
  have HC := Lib.hid (fun (w' : World) (hw : KpB n₀ B W w') => (hw.cell 0).trans hc)
  have HR := Lib.hid (fun (w' : World) (hw : KpB n₀ B W w') i (hi : i < r.length) => (hr i hi).below hw.below hb)
  have HCC := hc
  rw [← hP0] at h0
  clear hr hP0
  refine callsIn_of_wp Try.func127 rfl trivial ?_ rfl
  simp only [Try.ntmps127, List.size_toArray, List.length_cons, List.length_nil, Nat.reduceAdd, Nat.reduceSub, Array.replicate_succ, Array.replicate_zero, List.push_toArray, List.append_toArray, List.nil_append, List.cons_append]
  gi_wp2
  clear hc HCC
  gi_loopw [7] (fun c wr => ∃ k : Nat, k ≤ r.length ∧ c = .int .i64 (k : Int) ∧ J (P k) wr ∧ KpB n₀ B W wr) (fun c _ => r.length - (intOf c).toNat)
  case atStart => exact ⟨0, by omega, rfl, h0, KpB.refl _ _ _⟩
  case round =>
    obtain ⟨k, hk, rfl, hj, hbel⟩ := hrel
    by_cases hlt : k < r.length
    · have hwz := hbel.below.size
      obtain ⟨c1, c2⟩ := HR.out wr hbel k hlt
      obtain ⟨d1, d2⟩ := HR.out wr hbel ((k + 1) % r.length) (Nat.mod_lt _ (by omega))
      have c0 := HC.out wr hbel
      have Hp := Lib.hid (hP k)
      obtain ⟨x, hx⟩ : ∃ x, E k = x := ⟨_, rfl⟩
      have hEk := hE k hlt
      rw [hx] at hEk Hp
      have hm : (k + 1) % r.length < r.length := Nat.mod_lt _ (by omega)
      have e1 : x.1.1 = r[k] := by rw [hEk]; exact nth_lt hlt
      have e2 : x.1.2 = r[(k + 1) % r.length] := by rw [hEk]; exact (nth_mod r (k + 1)).symm.trans (nth_lt (Nat.mod_lt _ (by omega)))
      rw [← e1] at c1 c2
      rw [← e2] at d1 d2
      have HY := Lib.hid (fun W' (h : J (P k) W') => hY (P k) x W' h (by rw [hPl]; exact hlt))
      have hmi : (((k + 1) % r.length : Nat) : Int) = ((k : Int) + 1).tmod (r.length : Int) := by
        rw [Int.tmod_eq_emod_of_nonneg (by omega), Int.natCast_emod]; rfl
      clear hE hEk hx e1 e2 hP hPl hY
      generalize (k + 1) % r.length = m at *
      gi_wp2
      have tP := (Two.new wr 24 (.int .i64 x.1.1.1) (.int .i64 x.1.1.2)).facts
      have hbV : KpB n₀ B W (wr.alloc (.cells #[.int .i64 x.1.1.1, .int .i64 x.1.1.2] 24)) := hbel.alloc (by omega) (by omega) _
      have hbv : Below wr.heap.size wr (wr.alloc (.cells #[.int .i64 x.1.1.1, .int .i64 x.1.1.2] 24)) := (Below.refl wr.heap.size wr).alloc (Nat.le_refl _) _
      have hS0 : ((wr.alloc (.cells #[.int .i64 x.1.1.1, .int .i64 x.1.1.2] 24)).cell? ⟨B, 0, none⟩ = some (.slice (some ⟨b, off, none⟩) r.length cap) ∧ ((wr.alloc (.cells #[.int .i64 x.1.1.1, .int .i64 x.1.1.2] 24)).cell? ⟨wr.heap.size, 0, none⟩ = some (.int .i64 x.1.1.1) ∧ (wr.alloc (.cells #[.int .i64 x.1.1.1, .int .i64 x.1.1.2] 24)).cell? ⟨wr.heap.size, 0 + 1, none⟩ = some (.int .i64 x.1.1.2)) ∧ (wr.alloc (.cells #[.int .i64 x.1.1.1, .int .i64 x.1.1.2] 24)).cell? ⟨b, off + m * 2, none⟩ = some (.int .i64 x.1.2.1) ∧ (wr.alloc (.cells #[.int .i64 x.1.1.1, .int .i64 x.1.1.2] 24)).cell? ⟨b, off + m * 2 + 1, none⟩ = some (.int .i64 x.1.2.2)) := ⟨(hbv.cell (p := ⟨B, 0, none⟩) (show B < wr.heap.size by omega)).trans c0, ⟨tP.1, tP.2.1⟩, (hbv.cell (p := ⟨b, off + m * 2, none⟩) (show b < wr.heap.size by omega)).trans d1, (hbv.cell (p := ⟨b, off + m * 2 + 1, none⟩) (show b < wr.heap.size by omega)).trans d2⟩
      have hjV : J (P k) (wr.alloc (.cells #[.int .i64 x.1.1.1, .int .i64 x.1.1.2] 24)).drew := hJ _ _ _ hj (hbv.drew)
      obtain ⟨fn, tmps, assign, body, hy, hR⟩ := HY.out _ hjV
      clear hbv tP c0 c1 c2 d1 d2 hj HY
      have HMI := Lib.hid hmi
      clear hmi
      have hrn : ¬ r = [] := fun e => by rw [e] at hl1; simp at hl1
      have hbW : KpB n₀ B W (wr.alloc (.cells #[.int .i64 x.1.1.1, .int .i64 x.1.1.2] 24)).drew := hbV.drew
      change ((wr.alloc (.cells #[.int .i64 x.1.1.1, .int .i64 x.1.1.2] 24)).drew.cell? ⟨B, 0, none⟩ = some (.slice (some ⟨b, off, none⟩) r.length cap) ∧ ((wr.alloc (.cells #[.int .i64 x.1.1.1, .int .i64 x.1.1.2] 24)).drew.cell? ⟨wr.heap.size, 0, none⟩ = some (.int .i64 x.1.1.1) ∧ (wr.alloc (.cells #[.int .i64 x.1.1.1, .int .i64 x.1.1.2] 24)).drew.cell? ⟨wr.heap.size, 0 + 1, none⟩ = some (.int .i64 x.1.1.2)) ∧ (wr.alloc (.cells #[.int .i64 x.1.1.1, .int .i64 x.1.1.2] 24)).drew.cell? ⟨b, off + m * 2, none⟩ = some (.int .i64 x.1.2.1) ∧ (wr.alloc (.cells #[.int .i64 x.1.1.1, .int .i64 x.1.1.2] 24)).drew.cell? ⟨b, off + m * 2 + 1, none⟩ = some (.int .i64 x.1.2.2)) at hS0
      clear hbV
      refine Rl.start_in 11 (fun w' => (w'.cell? ⟨B, 0, none⟩ = some (.slice (some ⟨b, off, none⟩) r.length cap) ∧ (w'.cell? ⟨wr.heap.size, 0, none⟩ = some (.int .i64 x.1.1.1) ∧ w'.cell? ⟨wr.heap.size, 0 + 1, none⟩ = some (.int .i64 x.1.1.2)) ∧ w'.cell? ⟨b, off + m * 2, none⟩ = some (.int .i64 x.1.2.1) ∧ w'.cell? ⟨b, off + m * 2 + 1, none⟩ = some (.int .i64 x.1.2.2))) (by kernel_rfl) ?_
      generalize (wr.alloc (.cells #[.int .i64 x.1.1.1, .int .i64 x.1.1.2] 24)).drew = U at *
      refine Rl.take_in (i := 1) (v := .agg #[.int .i64 x.1.1.1, .int .i64 x.1.1.2]) 10 [1] (by kernel_rfl) rfl (by decide) (by kernel_rfl) (by kernel_rfl) (by kernel_rfl) (by kernel_rfl) (by kernel_rfl) (by kernel_rfl) (by kernel_rfl) (fun _ _ _ h => h) ⟨Or.inl ⟨by rfl, ?_⟩, fun _ => rfl⟩ hS0 ?_
      · intro w' hSw
        obtain ⟨s0, ⟨s1, s2⟩, s3, s4⟩ := hSw
        go_simp
      simp only [Act.put, List.setIfInBounds_toArray, List.set_cons_zero, List.set_cons_succ]
      refine Rl.take_in (i := 2) (v := .slice (some ⟨b, off, none⟩) r.length cap) 10 [9, 8, 2] (by kernel_rfl) rfl (by decide) (by kernel_rfl) (by kernel_rfl) (by kernel_rfl) (by kernel_rfl) (by kernel_rfl) (by kernel_rfl) (by kernel_rfl) (fun _ _ _ h => h) ⟨Or.inl ⟨by rfl, ?_⟩, fun _ => rfl⟩ hS0 ?_
      · intro w' hSw
        obtain ⟨s0, ⟨s1, s2⟩, s3, s4⟩ := hSw
        go_simp
      simp only [Act.put, List.setIfInBounds_toArray, List.set_cons_zero, List.set_cons_succ]
      refine Rl.take_in (i := 3) (v := .int .i64 k) 10 [9, 8, 7, 4, 3] (by kernel_rfl) rfl (by decide) (by kernel_rfl) (by kernel_rfl) (by kernel_rfl) (by kernel_rfl) (by kernel_rfl) (by kernel_rfl) (by kernel_rfl) (fun _ _ _ h => h) ⟨Or.inl ⟨by rfl, ?_⟩, fun _ => rfl⟩ hS0 ?_
      · intro w' hSw
        obtain ⟨s0, ⟨s1, s2⟩, s3, s4⟩ := hSw
        go_simp
      simp only [Act.put, List.setIfInBounds_toArray, List.set_cons_zero, List.set_cons_succ]
      refine Rl.take_in (i := 4) (v := .int .i64 (k + 1)) 10 [9, 8, 7, 4] (by kernel_rfl) rfl (by decide) (by kernel_rfl) (by kernel_rfl) (by kernel_rfl) (by kernel_rfl) (by kernel_rfl) (by kernel_rfl) (by kernel_rfl) (fun _ _ _ h => h) ⟨Or.inl ⟨by rfl, ?_⟩, fun _ => rfl⟩ hS0 ?_
      · intro w' hSw
        obtain ⟨s0, ⟨s1, s2⟩, s3, s4⟩ := hSw
        go_simp
        rw [IntKind.wrap_i64]; omega
      simp only [Act.put, List.setIfInBounds_toArray, List.set_cons_zero, List.set_cons_succ]
      refine Rl.take_in (i := 5) (v := .slice (some ⟨b, off, none⟩) r.length cap) 10 [9, 8, 7, 6, 5] (by kernel_rfl) rfl (by decide) (by kernel_rfl) (by kernel_rfl) (by kernel_rfl) (by kernel_rfl) (by kernel_rfl) (by kernel_rfl) (by kernel_rfl) (fun _ _ _ h => h) ⟨Or.inl ⟨by rfl, ?_⟩, fun _ => rfl⟩ hS0 ?_
      · intro w' hSw
        obtain ⟨s0, ⟨s1, s2⟩, s3, s4⟩ := hSw
        go_simp
      simp only [Act.put, List.setIfInBounds_toArray, List.set_cons_zero, List.set_cons_succ]
      refine Rl.take_in (i := 6) (v := .int .i64 r.length) 10 [9, 8, 7, 6] (by kernel_rfl) rfl (by decide) (by kernel_rfl) (by kernel_rfl) (by kernel_rfl) (by kernel_rfl) (by kernel_rfl) (by kernel_rfl) (by kernel_rfl) (fun _ _ _ h => h) ⟨Or.inl ⟨by rfl, ?_⟩, fun _ => rfl⟩ hS0 ?_
      · intro w' hSw
        obtain ⟨s0, ⟨s1, s2⟩, s3, s4⟩ := hSw
        go_simp
      simp only [Act.put, List.setIfInBounds_toArray, List.set_cons_zero, List.set_cons_succ]
      refine Rl.take_in (i := 7) (v := .int .i64 m) 10 [9, 8, 7] (by kernel_rfl) rfl (by decide) (by kernel_rfl) (by kernel_rfl) (by kernel_rfl) (by kernel_rfl) (by kernel_rfl) (by kernel_rfl) (by kernel_rfl) (fun _ _ _ h => h) ⟨Or.inl ⟨by rfl, ?_⟩, fun _ => rfl⟩ hS0 ?_
      · intro w' hSw
        obtain ⟨s0, ⟨s1, s2⟩, s3, s4⟩ := hSw
        go_simp
        exact HMI.out.symm
      simp only [Act.put, List.setIfInBounds_toArray, List.set_cons_zero, List.set_cons_succ]
      refine Rl.take_in (i := 8) (v := .pointer (some ⟨b, off + m * 2, none⟩)) 10 [9, 8] (by kernel_rfl) rfl (by decide) (by kernel_rfl) (by kernel_rfl) (by kernel_rfl) (by kernel_rfl) (by kernel_rfl) (by kernel_rfl) (by kernel_rfl) (fun _ _ _ h => h) ⟨Or.inl ⟨by rfl, ?_⟩, fun _ => rfl⟩ hS0 ?_
      · intro w' hSw
        obtain ⟨s0, ⟨s1, s2⟩, s3, s4⟩ := hSw
        go_simp
      simp only [Act.put, List.setIfInBounds_toArray, List.set_cons_zero, List.set_cons_succ]
      refine Rl.take_in (i := 9) (v := .agg #[.int .i64 x.1.2.1, .int .i64 x.1.2.2]) 10 [9] (by kernel_rfl) rfl (by decide) (by kernel_rfl) (by kernel_rfl) (by kernel_rfl) (by kernel_rfl) (by kernel_rfl) (by kernel_rfl) (by kernel_rfl) (fun _ _ _ h => h) ⟨Or.inl ⟨by rfl, ?_⟩, fun _ => rfl⟩ hS0 ?_
      · intro w' hSw
        obtain ⟨s0, ⟨s1, s2⟩, s3, s4⟩ := hSw
        go_simp
      simp only [Act.put, List.setIfInBounds_toArray, List.set_cons_zero, List.set_cons_succ]
      refine Rl.take_in (i := 10) (v := .agg #[.int .i64 x.1.1.1, .int .i64 x.1.1.2, .int .i64 x.1.2.1, .int .i64 x.1.2.2]) 10 [] (by kernel_rfl) rfl (by decide) (by kernel_rfl) (by kernel_rfl) (by kernel_rfl) (by kernel_rfl) (by kernel_rfl) (by kernel_rfl) (by kernel_rfl) (fun _ _ _ h => h) ⟨Or.inl ⟨by rfl, ?_⟩, fun _ => rfl⟩ hS0 ?_
      · intro w' hSw
        obtain ⟨s0, ⟨s1, s2⟩, s3, s4⟩ := hSw
        go_simp
      simp only [Act.put, List.setIfInBounds_toArray, List.set_cons_zero, List.set_cons_succ]
      refine Rl.take_in (i := 0) (v := .func (.yield l) #[] #[]) 0 [] (by kernel_rfl) rfl (by decide) (by kernel_rfl) (by kernel_rfl) (by kernel_rfl) (by kernel_rfl) (by kernel_rfl) (by kernel_rfl) (by kernel_rfl) (fun _ _ _ h => h) ⟨Or.inl ⟨by rfl, ?_⟩, fun _ => rfl⟩ hS0 ?_
      · intro w' hSw
        obtain ⟨s0, ⟨s1, s2⟩, s3, s4⟩ := hSw
        go_simp
      simp only [Act.put, List.setIfInBounds_toArray, List.set_cons_zero, List.set_cons_succ]
      refine Rl.one_in (i := 11) rfl (by kernel_rfl) (fun K hK => ?_)
      rw [if_pos (by rfl)]
      unfold Oper.wpIn
      refine ⟨fun _ _ => trivial, ?_⟩
      go_simp
      refine hR.mono ?_
      rintro e W3 (⟨rfl, hJ3, hk3⟩ | ⟨rfl, hJx3⟩)
      · refine hK.out _ _ (fun h => Bool.noConfusion (show true = false from h)) ?_
        clear hK K
        try simp only [Act.put, List.setIfInBounds_toArray, List.set_cons_zero, List.set_cons_succ]
        refine Rl.one_in (i := 12) rfl (by kernel_rfl) (fun K hK => ?_)
        rw [if_pos (by rfl)]
        unfold Oper.wpIn
        refine ⟨fun _ _ => trivial, ?_⟩
        go_simp
        refine hK.out _ _ (fun h => Bool.noConfusion (show true = false from h)) ?_
        clear hK K
        try simp only [Act.put, List.setIfInBounds_toArray, List.set_cons_zero, List.set_cons_succ]
        refine Rl.done_in (by kernel_rfl) ?_ _
        gi_wp2
        go_roundw
        case rel => exact ⟨k + 1, by omega, by go_num, by rw [Hp.out]; exact hJ3, hbW.trans hk3⟩
        case measure => simp [intOf]; omega
      · refine hK.out _ _ (fun h => Bool.noConfusion (show true = false from h)) ?_
        clear hK K
        try simp only [Act.put, List.setIfInBounds_toArray, List.set_cons_zero, List.set_cons_succ]
        refine Rl.one_in (i := 12) rfl (by kernel_rfl) (fun K hK => ?_)
        rw [if_pos (by rfl)]
        unfold Oper.wpIn
        refine ⟨fun _ _ => trivial, ?_⟩
        go_simp
        refine hK.out _ _ (fun h => Bool.noConfusion (show true = false from h)) ?_
        clear hK K
        try simp only [Act.put, List.setIfInBounds_toArray, List.set_cons_zero, List.set_cons_succ]
        refine Rl.done_in (by kernel_rfl) ?_ _
        gi_wp2
        refine bodyPost_ret (results_none rfl _ _ _) rfl ?_
        exact ⟨⟨_, rfl⟩, .inr ⟨P (k + 1), ⟨k + 1, by omega, rfl⟩, by rw [Hp.out]; exact hJx3⟩⟩
    · obtain rfl : k = r.length := by omega
      gi_wp2
      go_end0
      exact ⟨⟨_, rfl⟩, .inl ⟨_, rfl, hj⟩⟩

theorem sides_stops (n : Nat) (hn : 1 ≤ n) (B n₀ b off cap : Nat) (r : List Pt) (hr : onL r) (hlen : 1 ≤ r.length ∧ r.length ≤ 1000) (w : World) (hB : B < w.heap.size) (hb : b < n₀) (hw : n₀ ≤ w.heap.size)
    (hc : w.cell? ⟨B, 0, none⟩ = some (.slice (some ⟨b, off, none⟩) r.length cap)) (hcells : ∀ i (h : i < r.length), Cells2 w b (off + i * 2) r[i]) :
    SeqStopsK Fence.wide n Try.prog 127 #[.pointer (some ⟨B, 0, none⟩)] encS (KpB n₀ B) (fun ys => ys = oSides r) (fun pre => ∃ k, k ≤ r.length ∧ pre = oUpto r k) r.length w := fun l J Jx W hW hJ _ hY h0 =>
  sides_gen n hn l B n₀ b off cap r hlen (oAt r) (fun k hk => oAt_val (onS_at hr (by omega) k)) (oUpto r) rfl (oUpto_succ r) (oUpto_length r) J Jx
    (fun s X Y hs hb => hJ s X Y none hs (grownBelow hb none) (fun r e => by cases e)) hY W (Nat.lt_of_lt_of_le hB hW.size) hb (Nat.le_trans hw hW.size)
    ((hW.cell (p := ⟨B, 0, none⟩) hB).trans hc) (fun i h => (hcells i h).below hW (Nat.lt_of_lt_of_le hb hw)) h0
theorem oUpto_mem {r : List Pt} (hr : onL r) {k : Nat} (hk : k ≤ r.length) {x : OSd} (hx : x ∈ oUpto r k) : x.1 ∈ sidesL r := by
  obtain ⟨i, hi, rfl⟩ := List.mem_map.1 hx
  have hi := List.mem_range.1 hi
  rw [oAt_val (onS_at hr (by omega) i)]
  exact List.mem_map.2 ⟨i, List.mem_range.2 (by omega), rfl⟩
/-- block B holds a side -/
def SdAt (W : World) (B : Nat) (s : Sd) : Prop := W.heap[B]? = some (.cells #[.int .i64 s.1.1, .int .i64 s.1.2, .int .i64 s.2.1, .int .i64 s.2.2] 131 (0, 0))
theorem SdAt.lt {W : World} {B : Nat} {s : Sd} (h : SdAt W B s) : B < W.heap.size := (Array.getElem?_eq_some_iff.1 h).1
theorem SdAt.new (W : World) (s : Sd) : SdAt (W.alloc (.cells #[.int .i64 s.1.1, .int .i64 s.1.2, .int .i64 s.2.1, .int .i64 s.2.2] 131)) W.heap.size s := World.alloc_heap_new W _
theorem SdAt.facts {W : World} {B : Nat} {s : Sd} (h : SdAt W B s) : W.cell? ⟨B, 0, none⟩ = some (.int .i64 s.1.1) ∧ W.cell? ⟨B, 1, none⟩ = some (.int .i64 s.1.2) ∧ W.cell? ⟨B, 2, none⟩ = some (.int .i64 s.2.1) ∧ W.cell? ⟨B, 3, none⟩ = some (.int .i64 s.2.2) := by
  unfold SdAt at h
  simp [World.cell?, h]
theorem SdAt.kept {W W' : World} {row : Option Nat} {B : Nat} {s : Sd} (h : SdAt W B s) (hg : W.grownBy W' row) (hne : some B ≠ row) : SdAt W' B s := (hg.block B h.lt hne).trans h
theorem SdAt.alloc {W : World} {B : Nat} {s : Sd} (h : SdAt W B s) (o : Obj) : SdAt (W.alloc o) B s := h.kept (World.grownBy_alloc W o none) (by simp)
theorem SdAt.below {W W' : World} {N B : Nat} {s : Sd} (h : SdAt W B s) (hb : Below N W W') (hlt : B < N) : SdAt W' B s := (hb.block B hlt).trans h
theorem SdAt.set {W : World} {B B' : Nat} {s : Sd} (h : SdAt W B s) (hne : B ≠ B') (v : Value) : SdAt (W.setCell ⟨B', 0, none⟩ v) B s := h.kept (grownBy_setCell' W B' v) (fun e => hne (by cases e; rfl))
theorem sd_own {β : Type} (B : Nat) (f : β → Sd) : Own (fun s W => SdAt W B (f s)) := fun s X Y row hs hg hrow =>
  hs.kept hg (fun e' => by obtain ⟨o, ho, hc⟩ := hrow B e'.symm; rw [show X.heap[B]? = _ from hs] at ho; cases ho; cases hc)
end Go.Proofs.Ytcpcmlonbpccnaa.Ge

/- Walks over package polygon: the area of a ring. -/
namespace Go.Proofs.Ytcpcmlonbpccnaa.Ge
set_option linter.unusedVariables false
set_option linter.unusedSimpArgs false
open Go.RowKit Go.Shelf
open Go.Proofs.Ytcpcmlonbpccnaa.Fr (Two)
attribute [local go_sem] Oper.semAt_some

/-- v is a ring in memory -/
def Ring (w : World) (v : Value) (r : List Pt) : Prop := ∃ b off cap, v = .slice (some ⟨b, off, none⟩) r.length cap ∧ b < w.heap.size ∧ ∀ i (h : i < r.length), Cells2 w b (off + i * 2) r[i]
theorem Ring.below {w w' : World} {v : Value} {r : List Pt} (h : Ring w v r) (hb : Below w.heap.size w w') : Ring w' v r := by
  obtain ⟨b, off, cap, rfl, hlt, hc⟩ := h
  exact ⟨b, off, cap, rfl, Nat.lt_of_lt_of_le hlt hb.size, fun i hi => (hc i hi).below hb hlt⟩
theorem PtSl.ring {w : World} {v : Value} {r : List Pt} (h : PtSl w v r) (h1 : 1 ≤ r.length) : Ring w v r := by
  rcases h with ⟨rfl, _⟩ | ⟨b, off, cap, hv, _, hlt, _, hc⟩
  · simp at h1
  · exact ⟨b, off, cap, hv, hlt, hc⟩
def sumO (f : Sd → Int) (pre : List OSd) : Int := sumS f (pre.map (·.1))
theorem sumO_snoc (f : Sd → Int) (pre : List OSd) (x : OSd) : sumO f (pre ++ [x]) = sumO f pre + f x.1 := by unfold sumO; rw [List.map_append]; exact sumS_snoc f _ _
theorem sumO_part (pre : List OSd) : -(1073676289 * (pre.length : Int)) ≤ sumO partS pre ∧ sumO partS pre ≤ 1073676289 * (pre.length : Int) := by
  have h := sum_bd partS 1073676289 (pre.map (·.1)) (fun s hs => by
    obtain ⟨x, _, rfl⟩ := List.mem_map.1 hs
    exact part_bd x.2)
  rw [List.length_map] at h
  exact h

theorem KpB.set {n₀ B p : Nat} (hn : n₀ ≤ p) (hne : B ≠ p) {W : World} (hB : B < W.heap.size) (v : Value) : KpB n₀ B W (W.setCell ⟨p, 0, none⟩ v) :=
  ⟨(Below.refl _ _).setCell (p := ⟨p, 0, none⟩) hn _, (grownBy_setCell' W p v).block B hB (fun e => hne (by cases e; rfl))⟩
set_option maxRecDepth 100000 in
set_option maxHeartbeats 2000000 in
theorem area_any (v : Value) (r : List Pt) (hr : onL r) (hlen : 1 ≤ r.length ∧ r.length ≤ 1000) (w : World) (hv : Ring w v r) :
    Calls Try.prog 79 #[v] w fun e w' => e = .returned (.int .i64 (areaS r)) ∧ Below w.heap.size w w' := by
  obtain ⟨b, off, cap, rfl, hbw, hcells⟩ := hv
  have HC := Lib.hid hcells
  clear hcells
  refine (callsIn_wide (n := 4)).1 ?_
  refine callsIn_of_wp_marks Try.func79 rfl trivial ?_ rfl
  simp only [Try.ntmps79, List.size_toArray, List.length_cons, List.length_nil, Nat.reduceAdd, Nat.reduceSub, Array.replicate_succ, Array.replicate_zero, List.push_toArray, List.append_toArray, List.nil_append, List.cons_append]
  gi_wp2_with (refine ⟨trivial, ?_⟩; gi_at_call 113; refine (callsIn_wide.2 (sides_any _ _ _ _)).mono ?_; rintro e w' ⟨rfl, rfl⟩)
  have bS := (Boxed.new w 3 (.int .i64 0)).alloc (.cells #[.slice (some ⟨b, off, none⟩) r.length cap] 22)
  have bR := Boxed.new (w.alloc (.cells #[.int .i64 0] 3)) 22 (.slice (some ⟨b, off, none⟩) r.length cap)
  simp only [World.size_alloc] at bR
  have hB0 : Below w.heap.size w ((w.alloc (.cells #[.int .i64 0] 3)).alloc (.cells #[.slice (some ⟨b, off, none⟩) r.length cap] 22)) := ((Below.refl _ w).alloc (Nat.le_refl _) _).alloc (by simp) _
  have hsz : ((w.alloc (.cells #[.int .i64 0] 3)).alloc (.cells #[.slice (some ⟨b, off, none⟩) r.length cap] 22)).heap.size = w.heap.size + 2 := by simp
  obtain ⟨W0, hW0⟩ : ∃ W0, (w.alloc (.cells #[.int .i64 0] 3)).alloc (.cells #[.slice (some ⟨b, off, none⟩) r.length cap] 22) = W0 := ⟨_, rfl⟩
  rw [hW0] at bS bR hB0 hsz ⊢
  clear hW0
  refine wpIn_rangeFunc_ownH rfl (by decide) (gf := 127) (lb := #[.pointer (some ⟨w.heap.size + 1, 0, none⟩)]) rfl trivial (enters_of Try.func127 (by kernel_rfl) rfl)
    (sides_stops 3 (by decide) (w.heap.size + 1) w.heap.size b off cap r hr hlen W0 (by omega) hbw hB0.size bR.cell (fun i hi => (HC.out i hi).below hB0 hbw)) (fun h k => h.trans k) (KpB.bk hB0.size (by omega)) (Below.refl _ _) (fun _ => rfl)
    (fun pre W => Boxed W w.heap.size 3 (.int .i64 (sumO partS pre)) ∧ Below w.heap.size W0 W)
    (fun _ _ _ => False)
    (OwnFrom.and (Own.from (boxed_own _ _ _) _) (ownFrom_below hB0.size hB0.size))
    (fun _ _ _ _ _ hs _ _ => hs)
    ⟨bS, Below.refl _ _⟩
    (fun x a' W => ∃ Bx, w.heap.size + 1 < Bx ∧ SdAt W Bx x.1 ∧ a' = { tmps := #[.slice (some ⟨b, off, none⟩) r.length cap, undef, .int .i64 0, .pointer (some ⟨w.heap.size, 0, none⟩), .pointer (some ⟨Bx, 0, none⟩), .slice (some ⟨b, off, none⟩) r.length cap, .func (.func 127) #[] #[.pointer (some ⟨w.heap.size + 1, 0, none⟩)], .agg #[.int .i64 x.1.1.1, .int .i64 x.1.1.2, .int .i64 x.1.2.1, .int .i64 x.1.2.2],
        undef, undef, undef, undef, undef, undef, undef, undef, undef, undef, undef, undef, undef, undef, undef, undef, undef, undef], defers := [] })
    (fun x a' _ X Y row hs hg hr => by obtain ⟨Bx, h1, h2, h3⟩ := hs; exact ⟨Bx, h1, sd_own Bx (fun (_ : Unit) => x.1) () X Y row h2 hg (fun r e => (hr r e).2), h3⟩)
    ?assign ?body ?done ?stop
  case assign =>
    rintro l pre x W K ⟨bS1, hB1⟩ hK
    gi_wp2
    have hz := hB1.size
    exact hK _ _ ((KeepsOthers.alloc _ _).from _) ((KpB.refl _ _ _).alloc (by omega) (by omega) _) ⟨bS1.alloc _, hB1.alloc (by omega) _⟩ ⟨W.heap.size, by omega, SdAt.new W x.1, rfl⟩
  case body =>
    rintro l pre x a' W hl - ⟨bS1, hB1⟩ ⟨Bx, hBx, bX, rfl⟩ hlt
    have hz := hB1.size
    obtain ⟨f0, f1, f2, f3⟩ := bX.facts
    have hc := bS1.cell
    have hf := bS1.frozen
    have hsum : sumO partS (pre ++ [x]) = sumO partS pre + (x.1.1.1 * x.1.2.2 - x.1.2.1 * x.1.1.2) := sumO_snoc partS pre x
    obtain ⟨s1, s2⟩ := sumO_part pre
    have HS2 := Lib.hid (show Boxed (W.setCell ⟨w.heap.size, 0, none⟩ (.int .i64 (sumO partS pre + (x.1.1.1 * x.1.2.2 - x.1.2.1 * x.1.1.2)))) w.heap.size 3 (.int .i64 (sumO partS (pre ++ [x]))) from by rw [hsum]; exact bS1.set _)
    obtain ⟨⟨⟨a1, a2⟩, a3, a4⟩, ⟨b1, b2⟩, b3, b4⟩ := x.2
    clear hsum bX
    generalize x.1.1.1 = ax at *
    generalize x.1.1.2 = ay at *
    generalize x.1.2.1 = bx at *
    generalize x.1.2.2 = bz at *
    have h1 := mul_bd (a := ax) (b := bz) (m := 32767) (k := 32767) (by omega) a2 (by omega) b4 (by decide) (by decide)
    have h2 := mul_bd (a := bx) (b := ay) (m := 32767) (k := 32767) (by omega) b2 (by omega) a4 (by decide) (by decide)
    have h3 := Int.mul_nonneg a1 b3
    have h4 := Int.mul_nonneg b1 a3
    have hp : (pre.length : Int) < 1000 := by omega
    generalize sumO partS pre = s at *
    gi_wp2
    exact ⟨(KeepsOthers.setCell _ _ _).from _, KpB.set (Nat.le_refl _) (by omega) (by omega) _, HS2.out, hB1.setCell (p := ⟨w.heap.size, 0, none⟩) (Nat.le_refl _) _⟩
  case done =>
    rintro D ys W hD rfl ⟨bS1, hB1⟩ hK
    have hc := bS1.cell
    have hz := hB1.size
    gi_wp2
    refine ⟨by simp, .inl ⟨_, _, rfl, run_takeDeferred hK, ?_⟩⟩
    refine ⟨_, results_tmp rfl _ _ _, ?_, (hB0.trans (hB1.mono (Nat.le_refl _))).trans (belowK_b (w := w) (Nat.le_refl _) W D _ _ (by omega) hK rfl rfl)⟩
    unfold areaS
    rw [← oSides_val hr]
    rfl
  case stop =>
    rintro D c pre W _ _ h _
    exact h.elim
end Go.Proofs.Ytcpcmlonbpccnaa.Ge

/- Walks over package polygon: where a place is. -/
namespace Go.Proofs.Ytcpcmlonbpccnaa.Ge
set_option linter.unusedVariables false
set_option linter.unusedSimpArgs false
open Go.RowKit Go.Shelf
open Go.Proofs.Ytcpcmlonbpccnaa.Fr (Two)
attribute [local go_sem] Oper.semAt_some

theorem sumO_pass (p : Int × Int) (pre : List OSd) : -(pre.length : Int) ≤ sumO (passS p) pre ∧ sumO (passS p) pre ≤ pre.length := by
  have h := sum_bd (passS p) 1 (pre.map (·.1)) (fun s hs => pass_bd p s)
  rw [List.length_map, Int.one_mul] at h
  exact h
/-- does no side have the place? -/
def noneO (p : Int × Int) (pre : List OSd) : Prop := ∀ x ∈ pre, hasS p x.1 = false
theorem noneO_snoc {p : Int × Int} {pre : List OSd} {x : OSd} (h : noneO p pre) (hx : hasS p x.1 = false) : noneO p (pre ++ [x]) := fun y hy => by
  rcases List.mem_append.1 hy with hy | hy
  · exact h y hy
  · rw [List.mem_singleton.1 hy]; exact hx
theorem where_has {r : List Pt} (hr : onL r) {p : Int × Int} {k : Nat} (hk : k ≤ r.length) (h : ∃ x ∈ oUpto r k, hasS p x.1 = true) : whereP r p = 0 := by
  obtain ⟨x, hx, hh⟩ := h
  unfold whereP
  rw [if_pos (List.any_eq_true.2 ⟨x.1, oUpto_mem hr hk hx, hh⟩)]
theorem where_none {r : List Pt} (hr : onL r) {p : Int × Int} (h : noneO p (oSides r)) : whereP r p = if sumO (passS p) (oSides r) = 0 then -1 else 1 := by
  unfold whereP sumO
  rw [oSides_val hr, if_neg]
  intro k
  obtain ⟨s, hs, hh⟩ := List.any_eq_true.1 k
  rw [← oSides_val hr] at hs
  obtain ⟨x, hx, rfl⟩ := List.mem_map.1 hs
  rw [h x hx] at hh
  cases hh
/-- block B holds a place or a point -/
def PlAt (t : TypeId) (W : World) (B : Nat) (p : Int × Int) : Prop := W.heap[B]? = some (.cells #[.int .i64 p.1, .int .i64 p.2] t (0, 0))
theorem PlAt.lt {t : TypeId} {W : World} {B : Nat} {p : Int × Int} (h : PlAt t W B p) : B < W.heap.size := (Array.getElem?_eq_some_iff.1 h).1
theorem PlAt.new (t : TypeId) (W : World) (p : Int × Int) : PlAt t (W.alloc (.cells #[.int .i64 p.1, .int .i64 p.2] t)) W.heap.size p := World.alloc_heap_new W _
theorem PlAt.facts {t : TypeId} {W : World} {B : Nat} {p : Int × Int} (h : PlAt t W B p) : W.cell? ⟨B, 0, none⟩ = some (.int .i64 p.1) ∧ W.cell? ⟨B, 1, none⟩ = some (.int .i64 p.2) := by
  unfold PlAt at h
  simp [World.cell?, h]
theorem PlAt.kept {t : TypeId} {W W' : World} {row : Option Nat} {B : Nat} {p : Int × Int} (h : PlAt t W B p) (hg : W.grownBy W' row) (hne : some B ≠ row) : PlAt t W' B p := (hg.block B h.lt hne).trans h
theorem PlAt.alloc {t : TypeId} {W : World} {B : Nat} {p : Int × Int} (h : PlAt t W B p) (o : Obj) : PlAt t (W.alloc o) B p := h.kept (World.grownBy_alloc W o none) (by simp)
theorem PlAt.below {t : TypeId} {W W' : World} {N B : Nat} {p : Int × Int} (h : PlAt t W B p) (hb : Below N W W') (hlt : B < N) : PlAt t W' B p := (hb.block B hlt).trans h
theorem PlAt.set {t : TypeId} {W : World} {B B' : Nat} {p : Int × Int} (h : PlAt t W B p) (hne : B ≠ B') (v : Value) : PlAt t (W.setCell ⟨B', 0, none⟩ v) B p := h.kept (grownBy_setCell' W B' v) (fun e => hne (by cases e; rfl))
theorem pl_own {β : Type} (t : TypeId) (B : Nat) (f : β → Int × Int) : Own (fun s W => PlAt t W B (f s)) := fun s X Y row hs hg hrow =>
  hs.kept hg (fun e' => by obtain ⟨o, ho, hc⟩ := hrow B e'.symm; rw [show X.heap[B]? = _ from hs] at ho; cases ho; cases hc)
theorem keeps_below {W w : World} (h : Below W.heap.size W w) : KeepsOthers W w := ⟨h.size, fun k o hk _ => (h.block k (Array.getElem?_eq_some_iff.1 hk).1).trans hk⟩
theorem boxed_below {W W' : World} {N B : Nat} {t : TypeId} {v : Value} (h : Boxed W B t v) (hb : Below N W W') (hlt : B < N) : Boxed W' B t v := (hb.block B hlt).trans h

set_option maxRecDepth 100000 in
set_option maxHeartbeats 4000000 in
theorem where_any (v : Value) (r : List Pt) (hr : onL r) (hlen : 1 ≤ r.length ∧ r.length ≤ 1000) (px py : Int) (hp : onQ px py) (w : World) (hv : Ring w v r) :
    Calls Try.prog 85 #[v, .agg #[.int .i64 px, .int .i64 py]] w fun e w' => e = .returned (.int .i64 (whereP r (px, py))) ∧ Below w.heap.size w w' := by
  obtain ⟨b, off, cap, rfl, hbw, hcells⟩ := hv
  have HC := Lib.hid hcells
  clear hcells
  refine (callsIn_wide (n := 4)).1 ?_
  refine callsIn_of_wp_marks Try.func85 rfl trivial ?_ rfl
  simp only [Try.ntmps85, List.size_toArray, List.length_cons, List.length_nil, Nat.reduceAdd, Nat.reduceSub, Array.replicate_succ, Array.replicate_zero, List.push_toArray, List.append_toArray, List.nil_append, List.cons_append]
  gi_wp2_with (refine ⟨trivial, ?_⟩; gi_at_call 113; refine (callsIn_wide.2 (sides_any _ _ _ _)).mono ?_; rintro e w' ⟨rfl, rfl⟩)
  have bP := (((PlAt.new 106 w (px, py)).alloc (.cells #[.int .i64 0] 3)).alloc (.cells #[.int .i64 0] 3)).alloc (.cells #[.slice (some ⟨b, off, none⟩) r.length cap] 22)
  have bO := ((Boxed.new (w.alloc (.cells #[.int .i64 px, .int .i64 py] 106)) 3 (.int .i64 0)).alloc (.cells #[.int .i64 0] 3)).alloc (.cells #[.slice (some ⟨b, off, none⟩) r.length cap] 22)
  have bS := (Boxed.new ((w.alloc (.cells #[.int .i64 px, .int .i64 py] 106)).alloc (.cells #[.int .i64 0] 3)) 3 (.int .i64 0)).alloc (.cells #[.slice (some ⟨b, off, none⟩) r.length cap] 22)
  have bR := Boxed.new (((w.alloc (.cells #[.int .i64 px, .int .i64 py] 106)).alloc (.cells #[.int .i64 0] 3)).alloc (.cells #[.int .i64 0] 3)) 22 (.slice (some ⟨b, off, none⟩) r.length cap)
  simp only [World.size_alloc] at bO bS bR
  have hB0 : Below w.heap.size w ((((w.alloc (.cells #[.int .i64 px, .int .i64 py] 106)).alloc (.cells #[.int .i64 0] 3)).alloc (.cells #[.int .i64 0] 3)).alloc (.cells #[.slice (some ⟨b, off, none⟩) r.length cap] 22)) := ((((Below.refl _ w).alloc (Nat.le_refl _) _).alloc (by simp) _).alloc (by simp; omega) _).alloc (by simp; omega) _
  have hsz : ((((w.alloc (.cells #[.int .i64 px, .int .i64 py] 106)).alloc (.cells #[.int .i64 0] 3)).alloc (.cells #[.int .i64 0] 3)).alloc (.cells #[.slice (some ⟨b, off, none⟩) r.length cap] 22)).heap.size = w.heap.size + 4 := by simp
  obtain ⟨W0, hW0⟩ : ∃ W0, (((w.alloc (.cells #[.int .i64 px, .int .i64 py] 106)).alloc (.cells #[.int .i64 0] 3)).alloc (.cells #[.int .i64 0] 3)).alloc (.cells #[.slice (some ⟨b, off, none⟩) r.length cap] 22) = W0 := ⟨_, rfl⟩
  dsimp only at bP
  rw [hW0] at bP bO bS bR hB0 hsz ⊢
  clear hW0
  refine wpIn_rangeFunc_ownH rfl (by decide) (gf := 127) (lb := #[.pointer (some ⟨w.heap.size + 1 + 1 + 1, 0, none⟩)]) rfl trivial (enters_of Try.func127 (by kernel_rfl) rfl)
    (sides_stops 3 (by decide) (w.heap.size + 1 + 1 + 1) w.heap.size b off cap r hr hlen W0 (by omega) hbw hB0.size bR.cell (fun i hi => (HC.out i hi).below hB0 hbw)) (fun h k => h.trans k) (KpB.bk hB0.size (by omega)) (Below.refl _ _) (fun _ => rfl)
    (fun pre W => ((PlAt 106 W w.heap.size (px, py) ∧ Boxed W (w.heap.size + 1) 3 (.int .i64 0) ∧ Boxed W (w.heap.size + 1 + 1) 3 (.int .i64 (sumO (passS (px, py)) pre))) ∧ noneO (px, py) pre) ∧ Below w.heap.size W0 W)
    (fun c pre W => (Boxed W (w.heap.size + 1) 3 (.int .i64 0) ∧ (c = .ret ∧ ∃ x ∈ pre, hasS (px, py) x.1 = true)) ∧ Below w.heap.size W0 W)
    (OwnFrom.and (OwnFrom.and (OwnFrom.and (Own.from (pl_own _ _ _) _) (OwnFrom.and (Own.from (boxed_own _ _ _) _) (Own.from (boxed_own _ _ _) _))) (ownFrom_pure _ _)) (ownFrom_below hB0.size hB0.size))
    (fun c => OwnFrom.and (OwnFrom.and (Own.from (boxed_own _ _ _) _) (ownFrom_pure _ _)) (ownFrom_below hB0.size hB0.size))
    ⟨⟨⟨bP, bO, bS⟩, fun x hx => by cases hx⟩, Below.refl _ _⟩
    (fun x a' W => ∃ Bx, w.heap.size + 1 + 1 + 1 < Bx ∧ SdAt W Bx x.1 ∧ a' = { tmps := #[.slice (some ⟨b, off, none⟩) r.length cap, .agg #[.int .i64 px, .int .i64 py], undef, .pointer (some ⟨w.heap.size, 0, none⟩), .pointer (some ⟨w.heap.size + 1, 0, none⟩), .pointer (some ⟨w.heap.size + 1 + 1, 0, none⟩), .pointer (some ⟨Bx, 0, none⟩), .slice (some ⟨b, off, none⟩) r.length cap, .func (.func 127) #[] #[.pointer (some ⟨w.heap.size + 1 + 1 + 1, 0, none⟩)], .agg #[.int .i64 x.1.1.1, .int .i64 x.1.1.2, .int .i64 x.1.2.1, .int .i64 x.1.2.2],
        undef, undef, undef, undef, undef, undef, undef, undef, undef, undef], defers := [] })
    (fun x a' _ X Y row hs hg hr => by obtain ⟨Bx, h1, h2, h3⟩ := hs; exact ⟨Bx, h1, sd_own Bx (fun (_ : Unit) => x.1) () X Y row h2 hg (fun r e => (hr r e).2), h3⟩)
    ?assign ?body ?done ?stop
  case assign =>
    rintro l pre x W K ⟨⟨⟨bP1, bO1, bS1⟩, hno⟩, hB1⟩ hK
    gi_wp2
    have hz := hB1.size
    exact hK _ _ ((KeepsOthers.alloc _ _).from _) ((KpB.refl _ _ _).alloc (by omega) (by omega) _) ⟨⟨⟨bP1.alloc _, bO1.alloc _, bS1.alloc _⟩, hno⟩, hB1.alloc (by omega) _⟩ ⟨W.heap.size, by omega, SdAt.new W x.1, rfl⟩
  case body =>
    rintro l pre x a' W hl - ⟨⟨⟨bP1, bO1, bS1⟩, hno⟩, hB1⟩ ⟨Bx, hBx, bX, rfl⟩ hlt
    have hz := hB1.size
    obtain ⟨f0, f1, f2, f3⟩ := bX.facts
    obtain ⟨g0, g1⟩ := bP1.facts
    have HH := Lib.hid (fun w => phas_any x.1.1.1 x.1.1.2 x.1.2.1 x.1.2.2 px py x.2.1 x.2.2 hp w)
    have hlx := bX.lt
    have hlp := bP1.lt
    cases hh : hasS (px, py) x.1 with
    | true =>
      have hh' : hsB x.1.1.1 x.1.1.2 x.1.2.1 x.1.2.2 px py = true := hh
      rw [hh'] at HH
      gi_wp2
      refine ⟨trivial, (CallsIn.inRound l (callsIn_wide.2 (HH.out _))).mono ?_⟩
      rintro e w1 ⟨rfl, hb1⟩
      have q0 := boxed_below bO1 hb1 bO1.lt
      have qc := q0.cell
      have qf := q0.frozen
      gi_wp2
      exact ⟨((keeps_below hb1).trans (KeepsOthers.setCell _ _ _)).from _, ⟨q0.set _, rfl, x, by simp, hh⟩, (hB1.trans (hb1.mono (by omega))).setCell (p := ⟨w.heap.size + 1, 0, none⟩) (Nat.le_succ _) _⟩
    | false =>
      have hh' : hsB x.1.1.1 x.1.1.2 x.1.2.1 x.1.2.2 px py = false := hh
      rw [hh'] at HH
      have HP := Lib.hid (fun w => passes_way x.1.1.1 x.1.1.2 x.1.2.1 x.1.2.2 px py x.2.1 x.2.2 hp w)
      obtain ⟨s1, s2⟩ := sumO_pass (px, py) pre
      obtain ⟨t1, t2⟩ := pass_bd (px, py) x.1
      have hsum := sumO_snoc (passS (px, py)) pre x
      have hpv : paV x.1.1.1 x.1.1.2 x.1.2.1 x.1.2.2 px py = passS (px, py) x.1 := rfl
      rw [hpv] at HP
      clear hpv
      generalize passS (px, py) x.1 = V at *
      gi_wp2
      refine ⟨trivial, (CallsIn.inRound l (callsIn_wide.2 (HH.out _))).mono ?_⟩
      rintro e w1 ⟨rfl, hb1⟩
      have q0 := boxed_below bO1 hb1 bO1.lt
      have qS := boxed_below bS1 hb1 bS1.lt
      have qP := bP1.below hb1 hlp
      have qX := bX.below hb1 hlx
      have hb1s := hb1.size
      clear f0 f1 f2 f3 g0 g1 HH
      gi_wp2
      have hS : ∀ w' : World, Below w1.heap.size w1 w' → ((w'.cell? ⟨w.heap.size + 1 + 1, 0, none⟩ = some (.int .i64 (sumO (passS (px, py)) pre)) ∧ w'.frozen? ⟨w.heap.size + 1 + 1, 0, none⟩ = false) ∧ (w'.cell? ⟨Bx, 0, none⟩ = some (.int .i64 x.1.1.1) ∧ w'.cell? ⟨Bx, 1, none⟩ = some (.int .i64 x.1.1.2) ∧ w'.cell? ⟨Bx, 2, none⟩ = some (.int .i64 x.1.2.1) ∧ w'.cell? ⟨Bx, 3, none⟩ = some (.int .i64 x.1.2.2)) ∧ w'.cell? ⟨w.heap.size, 0, none⟩ = some (.int .i64 px) ∧ w'.cell? ⟨w.heap.size, 1, none⟩ = some (.int .i64 py)) := fun w' hb => ⟨⟨(boxed_below qS hb qS.lt).cell, (boxed_below qS hb qS.lt).frozen⟩, (qX.below hb qX.lt).facts, (qP.below hb qP.lt).facts⟩
      have hr := Below.refl w1.heap.size w1
      have hS0 := hS _ hr.drew
      have wv : IntKind.i64.wrap (sumO (passS (px, py)) pre + V) = sumO (passS (px, py)) pre + V := by rw [IntKind.wrap_i64]; omega
      refine Rl.start_round l _ 5 (fun w' => ((w'.cell? ⟨w.heap.size + 1 + 1, 0, none⟩ = some (.int .i64 (sumO (passS (px, py)) pre)) ∧ w'.frozen? ⟨w.heap.size + 1 + 1, 0, none⟩ = false) ∧ (w'.cell? ⟨Bx, 0, none⟩ = some (.int .i64 x.1.1.1) ∧ w'.cell? ⟨Bx, 1, none⟩ = some (.int .i64 x.1.1.2) ∧ w'.cell? ⟨Bx, 2, none⟩ = some (.int .i64 x.1.2.1) ∧ w'.cell? ⟨Bx, 3, none⟩ = some (.int .i64 x.1.2.2)) ∧ w'.cell? ⟨w.heap.size, 0, none⟩ = some (.int .i64 px) ∧ w'.cell? ⟨w.heap.size, 1, none⟩ = some (.int .i64 py))) (by kernel_rfl) (by kernel_rfl) (by rintro ⟨_, _, h⟩; exact h) ?_
      refine Rl.take_of (i := 0) (v := .int .i64 (sumO (passS (px, py)) pre)) rfl (by decide) (by kernel_rfl) (by kernel_rfl) (by kernel_rfl) (by kernel_rfl) (by kernel_rfl) (fun _ _ _ h => h) (Or.inl ⟨by rfl, ?_⟩) hS0 ?_
      · intro w' hSw; obtain ⟨⟨z1, z2⟩, ⟨z3, z4, z5, z6⟩, z7, z8⟩ := hSw; go_simp
      simp only [Act.put, List.setIfInBounds_toArray, List.set_cons_zero, List.set_cons_succ]
      refine Rl.take_of (i := 1) (v := .agg #[.int .i64 x.1.1.1, .int .i64 x.1.1.2, .int .i64 x.1.2.1, .int .i64 x.1.2.2]) rfl (by decide) (by kernel_rfl) (by kernel_rfl) (by kernel_rfl) (by kernel_rfl) (by kernel_rfl) (fun _ _ _ h => h) (Or.inl ⟨by rfl, ?_⟩) hS0 ?_
      · intro w' hSw; obtain ⟨⟨z1, z2⟩, ⟨z3, z4, z5, z6⟩, z7, z8⟩ := hSw; go_simp
      simp only [Act.put, List.setIfInBounds_toArray, List.set_cons_zero, List.set_cons_succ]
      refine Rl.take_of (i := 2) (v := .agg #[.int .i64 px, .int .i64 py]) rfl (by decide) (by kernel_rfl) (by kernel_rfl) (by kernel_rfl) (by kernel_rfl) (by kernel_rfl) (fun _ _ _ h => h) (Or.inl ⟨by rfl, ?_⟩) hS0 ?_
      · intro w' hSw; obtain ⟨⟨z1, z2⟩, ⟨z3, z4, z5, z6⟩, z7, z8⟩ := hSw; go_simp
      simp only [Act.put, List.setIfInBounds_toArray, List.set_cons_zero, List.set_cons_succ]
      refine Rl.one_of (i := 3) rfl (by kernel_rfl) (fun K hK => ?_)
      rw [if_pos (by rfl)]
      go_simp
      go_at_call 119
      refine (HP.out _).mono ?_
      rintro r w2 ⟨rfl, hb2'⟩
      have hb2 : Below w1.heap.size w1 w2 := hr.drew.trans hb2'
      refine hK.out _ _ (fun _ => hS _ hb2) ?_
      clear hK K
      try simp only [Act.put, List.setIfInBounds_toArray, List.set_cons_zero, List.set_cons_succ]
      refine Rl.take_of (i := 4) (v := .int .i64 (sumO (passS (px, py)) pre + V)) rfl (by decide) (by kernel_rfl) (by kernel_rfl) (by kernel_rfl) (by kernel_rfl) (by kernel_rfl) (fun _ _ _ h => h) (Or.inl ⟨by rfl, ?_⟩) (hS _ hb2) ?_
      · intro w' hSw; go_simp; (try exact wv)
      simp only [Act.put, List.setIfInBounds_toArray, List.set_cons_zero, List.set_cons_succ]
      obtain ⟨⟨z1, z2⟩, -, -⟩ := hS _ hb2
      refine Rl.one_of (i := 5) rfl (by kernel_rfl) (fun K hK => ?_)
      rw [if_pos (by rfl)]
      go_simp
      refine hK.out _ _ (fun h => Bool.noConfusion (show true = false from h)) ?_
      clear hK K
      try simp only [Act.put, List.setIfInBounds_toArray, List.set_cons_zero, List.set_cons_succ]
      refine Rl.done_of (by kernel_rfl) ?_ _
      have hb3 := hb1.trans (hb2.mono hb1s)
      have hs2 := hb3.size
      have bS2 := (boxed_below bS1 hb3 bS1.lt).set (.int .i64 (sumO (passS (px, py)) pre + V))
      rw [← hsum] at bS2 ⊢
      exact ⟨((keeps_below hb3).trans (KeepsOthers.setCell _ _ _)).from _, (KpB.of_below hb3 (by omega) (by omega)).trans (KpB.set (by omega) (by omega) (by omega) _), ⟨⟨(bP1.below hb3 hlp).set (by omega) _, (boxed_below bO1 hb3 bO1.lt).other (by omega) _, bS2⟩, noneO_snoc hno hh⟩, (hB1.trans (hb3.mono (by omega))).setCell (p := ⟨w.heap.size + 1 + 1, 0, none⟩) (show w.heap.size ≤ w.heap.size + 1 + 1 by omega) _⟩
  case done =>
    rintro D ys W hD rfl ⟨⟨⟨bP1, bO1, bS1⟩, hno⟩, hB1⟩ hK
    have hz := hB1.size
    have hc := bS1.cell
    have hf := bS1.frozen
    have oc := bO1.cell
    have of := bO1.frozen
    have hwh := Lib.hid (where_none hr hno)
    generalize sumO (passS (px, py)) (oSides r) = s at *
    by_cases h0 : s = 0
    · have e0 : (s == 0) = true := by simpa using h0
      rw [if_pos h0] at hwh
      clear h0
      gi_wp2
      have hK' := (KeepsOthers.setCell W ⟨w.heap.size + 1, 0, none⟩ (.int .i64 (-1))).same D _ hK rfl
      refine ⟨by simp, .inl ⟨_, _, rfl, run_takeDeferred hK', ?_⟩⟩
      have hc5 := cell_kept (bO1.set (.int .i64 (-1))).cell (grownBy_putObj' _ D (.deferred none)) (fun r e => by cases e; exact ⟨_, hK', rfl⟩)
      refine ⟨.int .i64 (-1), ?_, by rw [hwh.out], (hB0.trans (hB1.setCell (p := ⟨w.heap.size + 1, 0, none⟩) (Nat.le_succ _) _)).trans (belowK_b (w := w) (Nat.le_refl _) _ D _ _ (by omega) hK' rfl rfl)⟩
      simp [results, Try.f85, go_sem, hc5]
    · have e0 : (s == 0) = false := by simpa using h0
      rw [if_neg h0] at hwh
      clear h0
      gi_wp2
      have hK' := (KeepsOthers.setCell W ⟨w.heap.size + 1, 0, none⟩ (.int .i64 1)).same D _ hK rfl
      refine ⟨by simp, .inl ⟨_, _, rfl, run_takeDeferred hK', ?_⟩⟩
      have hc5 := cell_kept (bO1.set (.int .i64 1)).cell (grownBy_putObj' _ D (.deferred none)) (fun r e => by cases e; exact ⟨_, hK', rfl⟩)
      refine ⟨.int .i64 1, ?_, by rw [hwh.out], (hB0.trans (hB1.setCell (p := ⟨w.heap.size + 1, 0, none⟩) (Nat.le_succ _) _)).trans (belowK_b (w := w) (Nat.le_refl _) _ D _ _ (by omega) hK' rfl rfl)⟩
      simp [results, Try.f85, go_sem, hc5]
  case stop =>
    rintro D c pre W hD ⟨k, hk, rfl⟩ ⟨⟨bO1, rfl, hx⟩, hB1⟩ hK
    have hwh := Lib.hid (where_has hr hk hx)
    have oc := bO1.cell
    gi_wp2
    refine ⟨by simp, .inl ⟨_, _, rfl, run_takeDeferred hK, ?_⟩⟩
    have hc5 := cell_kept bO1.cell (grownBy_putObj' _ D (.deferred none)) (fun r e => by cases e; exact ⟨_, hK, rfl⟩)
    refine ⟨.int .i64 0, ?_, by rw [hwh.out], (hB0.trans hB1).trans (belowK_b (w := w) (Nat.le_refl _) W D _ _ (by omega) hK rfl rfl)⟩
    simp [results, Try.f85, go_sem, hc5]
end Go.Proofs.Ytcpcmlonbpccnaa.Ge
