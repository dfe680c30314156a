/- Walks over package line: the segments of a line, which are ranged over. -/
import Derived.Test.YtcpcmlonbpccnaaBdA10
import Derived.Test.YtcpcmlonbpccnaaBdA14
namespace Go.Proofs.Ytcpcmlonbpccnaa.Ge
set_option linter.unusedVariables false
set_option linter.unusedSimpArgs false
open Go.RowKit Go.Shelf
open Go.Proofs.Ytcpcmlonbpccnaa.Fr (Two)
attribute [local go_sem] Oper.semAt_some

theorem segs_any (a : Option Addr) (k c : Nat) (w : World) :
    Calls Try.prog 50 #[.slice a k c] w fun e w' => e = .returned (.func (.func 94) #[] #[.pointer (some ⟨w.heap.size, 0, none⟩)]) ∧ w' = w.alloc (.cells #[.slice a k c] 22) := by
  go_enter Try.func50, Try.ntmps50
  go_wp2_with fail
  go_ret
  exact ⟨rfl, rfl⟩

abbrev encG (x : Sg) : Array Value := #[.agg #[.int .i64 (x.1 : Int), .int .i64 x.2.1.1, .int .i64 x.2.1.2, .int .i64 x.2.2.1, .int .i64 x.2.2.2]]

set_option maxRecDepth 100000 in
set_option maxHeartbeats 2000000 in
theorem segs_gen (n : Nat) (hn : 1 ≤ n) (l B n₀ b off cap : Nat) (r : List Pt) (hlen : 1 ≤ r.length ∧ r.length ≤ 1000) (E : Nat → Sg) (hE : ∀ k, E k = sgAt r k) (P : Nat → List Sg)
    (hP0 : P 0 = []) (hP : ∀ k, P (k + 1) = P k ++ [E k]) (hPl : ∀ k, (P k).length = k) (J Jx : List Sg → World → Prop)
    (hJ : ∀ s (X Y : World), J s X → Below X.heap.size X Y → J s Y)
    (hY : ∀ pre x W, J pre W → pre.length < r.length - 1 → YieldAt Fence.wide (n - 1) Try.prog l (encG x) W fun e W' =>
      (e = .returned (.bool true) ∧ J (pre ++ [x]) W' ∧ KpB n₀ B W W') ∨ (e = .returned (.bool false) ∧ Jx (pre ++ [x]) W'))
    (W : World) (hB : B < W.heap.size) (hb : b < n₀) (hW : n₀ ≤ W.heap.size) (hc : W.cell? ⟨B, 0, none⟩ = some (.slice (some ⟨b, off, none⟩) r.length cap)) (hr : ∀ i (h : i < r.length), Cells2 W b (off + i * 2) r[i]) (h0 : J [] W) :
    CallsIn Fence.wide n Try.prog 94 #[.func (.yield l) #[] #[], .pointer (some ⟨B, 0, none⟩)] W fun e W' => (∃ v, e = .returned v) ∧
      ((∃ ys, ys = P (r.length - 1) ∧ J ys W') ∨ (∃ pre : List Sg, (∃ k, k ≤ r.length - 1 ∧ pre = P k) ∧ Jx pre W')) := by
  obtain ⟨hl1, hl2⟩ := hlen
  have HC := Lib.hid (fun (w' : World) (hw : KpB n₀ B W w') => (hw.cell 0).trans hc)
  have HR := Lib.hid (fun (w' : World) (hw : KpB n₀ B W w') i (hi : i < r.length) => (hr i hi).below hw.below hb)
  have HCC := hc
  rw [← hP0] at h0
  clear hr hP0
  refine callsIn_of_wp Try.func94 rfl trivial ?_ rfl
  simp only [Try.ntmps94, List.size_toArray, List.length_cons, List.length_nil, Nat.reduceAdd, Nat.reduceSub, Array.replicate_succ, Array.replicate_zero, List.push_toArray, List.append_toArray, List.nil_append, List.cons_append]
  gi_wp2
  clear hc HCC
  gi_loopw [3] (fun c wr => ∃ k m : Nat, m = k + 1 ∧ m ≤ r.length ∧ c = .int .i64 (m : Int) ∧ J (P k) wr ∧ KpB n₀ B W wr) (fun c _ => r.length - (intOf c).toNat)
  case atStart => exact ⟨0, 1, rfl, by omega, rfl, h0, KpB.refl _ _ _⟩
  case round =>
    obtain ⟨k, m, hm, hmr, rfl, hj, hbel⟩ := hrel
    have c0 := HC.out wr hbel
    by_cases hlt : m < r.length
    · have hwz := hbel.below.size
      have hlk : k < r.length := by omega
      obtain ⟨c1, c2⟩ := HR.out wr hbel k hlk
      obtain ⟨d1, d2⟩ := HR.out wr hbel m hlt
      have Hp := Lib.hid (hP k)
      obtain ⟨x, hx⟩ : ∃ x, E k = x := ⟨_, rfl⟩
      have hEk := hE k
      rw [hx] at hEk Hp
      have e0 : x.1 = k := by rw [hEk]; rfl
      have e1 : x.2.1 = r[k]'hlk := by rw [hEk]; exact lnAt_lt hlk
      have e2 : x.2.2 = r[m]'hlt := by subst hm; rw [hEk]; exact lnAt_lt hlt
      rw [← e1] at c1 c2
      rw [← e2] at d1 d2
      have HY := Lib.hid (fun W' (h : J (P k) W') => hY (P k) x W' h (by rw [hPl]; omega))
      have HK := Lib.hid hm
      clear hE hEk hx e1 e2 hP hPl hY hm
      have HE0 := Lib.hid e0
      gi_wp2
      simp only [encG, HE0.out] at HY
      clear e0
      have hS0 : (wr.cell? ⟨B, 0, none⟩ = some (.slice (some ⟨b, off, none⟩) r.length cap) ∧ (wr.cell? ⟨b, off + k * 2, none⟩ = some (.int .i64 x.2.1.1) ∧ wr.cell? ⟨b, off + k * 2 + 1, none⟩ = some (.int .i64 x.2.1.2)) ∧ wr.cell? ⟨b, off + m * 2, none⟩ = some (.int .i64 x.2.2.1) ∧ wr.cell? ⟨b, off + m * 2 + 1, none⟩ = some (.int .i64 x.2.2.2)) := ⟨c0, ⟨c1, c2⟩, d1, d2⟩
      have hjV : J (P k) wr.drew := hJ _ _ _ hj ((Below.refl wr.heap.size wr).drew)
      obtain ⟨fn, tmps, assign, body, hy, hR⟩ := HY.out _ hjV
      clear c0 c1 c2 d1 d2 hj HY
      have hrn : ¬ r = [] := fun e => by rw [e] at hl1; simp at hl1
      have hbW : KpB n₀ B W wr.drew := hbel.drew
      change (wr.drew.cell? ⟨B, 0, none⟩ = some (.slice (some ⟨b, off, none⟩) r.length cap) ∧ (wr.drew.cell? ⟨b, off + k * 2, none⟩ = some (.int .i64 x.2.1.1) ∧ wr.drew.cell? ⟨b, off + k * 2 + 1, none⟩ = some (.int .i64 x.2.1.2)) ∧ wr.drew.cell? ⟨b, off + m * 2, none⟩ = some (.int .i64 x.2.2.1) ∧ wr.drew.cell? ⟨b, off + m * 2 + 1, none⟩ = some (.int .i64 x.2.2.2)) at hS0
      clear hbel hjV
      refine Rl.start_in 13 (fun w' => (w'.cell? ⟨B, 0, none⟩ = some (.slice (some ⟨b, off, none⟩) r.length cap) ∧ (w'.cell? ⟨b, off + k * 2, none⟩ = some (.int .i64 x.2.1.1) ∧ w'.cell? ⟨b, off + k * 2 + 1, none⟩ = some (.int .i64 x.2.1.2)) ∧ w'.cell? ⟨b, off + m * 2, none⟩ = some (.int .i64 x.2.2.1) ∧ w'.cell? ⟨b, off + m * 2 + 1, none⟩ = some (.int .i64 x.2.2.2))) (by kernel_rfl) ?_
      generalize wr.drew = U at *
      refine Rl.take_in (i := 1) (v := .int .i64 m) 12 [2, 1] (by kernel_rfl) rfl (by decide) (by kernel_rfl) (by kernel_rfl) (by kernel_rfl) (by kernel_rfl) (by kernel_rfl) (by kernel_rfl) (by kernel_rfl) (fun _ _ _ h => h) ⟨Or.inl ⟨by rfl, ?_⟩, fun _ => rfl⟩ hS0 ?_
      · intro w' hSw
        obtain ⟨s0, ⟨s1, s2⟩, s3, s4⟩ := hSw
        go_simp
      simp only [Act.put, List.setIfInBounds_toArray, List.set_cons_zero, List.set_cons_succ]
      refine Rl.take_in (i := 2) (v := .int .i64 k) 12 [2] (by kernel_rfl) rfl (by decide) (by kernel_rfl) (by kernel_rfl) (by kernel_rfl) (by kernel_rfl) (by kernel_rfl) (by kernel_rfl) (by kernel_rfl) (fun _ _ _ h => h) ⟨Or.inl ⟨by rfl, ?_⟩, fun _ => rfl⟩ hS0 ?_
      · intro w' hSw
        obtain ⟨s0, ⟨s1, s2⟩, s3, s4⟩ := hSw
        go_simp
        rw [IntKind.wrap_i64]; have := HK.out; omega
      simp only [Act.put, List.setIfInBounds_toArray, List.set_cons_zero, List.set_cons_succ]
      refine Rl.take_in (i := 3) (v := .slice (some ⟨b, off, none⟩) r.length cap) 12 [7, 6, 3] (by kernel_rfl) rfl (by decide) (by kernel_rfl) (by kernel_rfl) (by kernel_rfl) (by kernel_rfl) (by kernel_rfl) (by kernel_rfl) (by kernel_rfl) (fun _ _ _ h => h) ⟨Or.inl ⟨by rfl, ?_⟩, fun _ => rfl⟩ hS0 ?_
      · intro w' hSw
        obtain ⟨s0, ⟨s1, s2⟩, s3, s4⟩ := hSw
        go_simp
      simp only [Act.put, List.setIfInBounds_toArray, List.set_cons_zero, List.set_cons_succ]
      refine Rl.take_in (i := 4) (v := .int .i64 m) 12 [7, 6, 5, 4] (by kernel_rfl) rfl (by decide) (by kernel_rfl) (by kernel_rfl) (by kernel_rfl) (by kernel_rfl) (by kernel_rfl) (by kernel_rfl) (by kernel_rfl) (fun _ _ _ h => h) ⟨Or.inl ⟨by rfl, ?_⟩, fun _ => rfl⟩ hS0 ?_
      · intro w' hSw
        obtain ⟨s0, ⟨s1, s2⟩, s3, s4⟩ := hSw
        go_simp
      simp only [Act.put, List.setIfInBounds_toArray, List.set_cons_zero, List.set_cons_succ]
      refine Rl.take_in (i := 5) (v := .int .i64 k) 12 [7, 6, 5] (by kernel_rfl) rfl (by decide) (by kernel_rfl) (by kernel_rfl) (by kernel_rfl) (by kernel_rfl) (by kernel_rfl) (by kernel_rfl) (by kernel_rfl) (fun _ _ _ h => h) ⟨Or.inl ⟨by rfl, ?_⟩, fun _ => rfl⟩ hS0 ?_
      · intro w' hSw
        obtain ⟨s0, ⟨s1, s2⟩, s3, s4⟩ := hSw
        go_simp
        rw [IntKind.wrap_i64]; have := HK.out; omega
      simp only [Act.put, List.setIfInBounds_toArray, List.set_cons_zero, List.set_cons_succ]
      refine Rl.take_in (i := 6) (v := .pointer (some ⟨b, off + k * 2, none⟩)) 12 [7, 6] (by kernel_rfl) rfl (by decide) (by kernel_rfl) (by kernel_rfl) (by kernel_rfl) (by kernel_rfl) (by kernel_rfl) (by kernel_rfl) (by kernel_rfl) (fun _ _ _ h => h) ⟨Or.inl ⟨by rfl, ?_⟩, fun _ => rfl⟩ hS0 ?_
      · intro w' hSw
        obtain ⟨s0, ⟨s1, s2⟩, s3, s4⟩ := hSw
        go_simp
      simp only [Act.put, List.setIfInBounds_toArray, List.set_cons_zero, List.set_cons_succ]
      refine Rl.take_in (i := 7) (v := .agg #[.int .i64 x.2.1.1, .int .i64 x.2.1.2]) 12 [7] (by kernel_rfl) rfl (by decide) (by kernel_rfl) (by kernel_rfl) (by kernel_rfl) (by kernel_rfl) (by kernel_rfl) (by kernel_rfl) (by kernel_rfl) (fun _ _ _ h => h) ⟨Or.inl ⟨by rfl, ?_⟩, fun _ => rfl⟩ hS0 ?_
      · intro w' hSw
        obtain ⟨s0, ⟨s1, s2⟩, s3, s4⟩ := hSw
        go_simp
      simp only [Act.put, List.setIfInBounds_toArray, List.set_cons_zero, List.set_cons_succ]
      refine Rl.take_in (i := 8) (v := .slice (some ⟨b, off, none⟩) r.length cap) 12 [11, 10, 8] (by kernel_rfl) rfl (by decide) (by kernel_rfl) (by kernel_rfl) (by kernel_rfl) (by kernel_rfl) (by kernel_rfl) (by kernel_rfl) (by kernel_rfl) (fun _ _ _ h => h) ⟨Or.inl ⟨by rfl, ?_⟩, fun _ => rfl⟩ hS0 ?_
      · intro w' hSw
        obtain ⟨s0, ⟨s1, s2⟩, s3, s4⟩ := hSw
        go_simp
      simp only [Act.put, List.setIfInBounds_toArray, List.set_cons_zero, List.set_cons_succ]
      refine Rl.take_in (i := 9) (v := .int .i64 m) 12 [11, 10, 9] (by kernel_rfl) rfl (by decide) (by kernel_rfl) (by kernel_rfl) (by kernel_rfl) (by kernel_rfl) (by kernel_rfl) (by kernel_rfl) (by kernel_rfl) (fun _ _ _ h => h) ⟨Or.inl ⟨by rfl, ?_⟩, fun _ => rfl⟩ hS0 ?_
      · intro w' hSw
        obtain ⟨s0, ⟨s1, s2⟩, s3, s4⟩ := hSw
        go_simp
      simp only [Act.put, List.setIfInBounds_toArray, List.set_cons_zero, List.set_cons_succ]
      refine Rl.take_in (i := 10) (v := .pointer (some ⟨b, off + m * 2, none⟩)) 12 [11, 10] (by kernel_rfl) rfl (by decide) (by kernel_rfl) (by kernel_rfl) (by kernel_rfl) (by kernel_rfl) (by kernel_rfl) (by kernel_rfl) (by kernel_rfl) (fun _ _ _ h => h) ⟨Or.inl ⟨by rfl, ?_⟩, fun _ => rfl⟩ hS0 ?_
      · intro w' hSw
        obtain ⟨s0, ⟨s1, s2⟩, s3, s4⟩ := hSw
        go_simp
      simp only [Act.put, List.setIfInBounds_toArray, List.set_cons_zero, List.set_cons_succ]
      refine Rl.take_in (i := 11) (v := .agg #[.int .i64 x.2.2.1, .int .i64 x.2.2.2]) 12 [11] (by kernel_rfl) rfl (by decide) (by kernel_rfl) (by kernel_rfl) (by kernel_rfl) (by kernel_rfl) (by kernel_rfl) (by kernel_rfl) (by kernel_rfl) (fun _ _ _ h => h) ⟨Or.inl ⟨by rfl, ?_⟩, fun _ => rfl⟩ hS0 ?_
      · intro w' hSw
        obtain ⟨s0, ⟨s1, s2⟩, s3, s4⟩ := hSw
        go_simp
      simp only [Act.put, List.setIfInBounds_toArray, List.set_cons_zero, List.set_cons_succ]
      refine Rl.take_in (i := 12) (v := .agg #[.int .i64 k, .int .i64 x.2.1.1, .int .i64 x.2.1.2, .int .i64 x.2.2.1, .int .i64 x.2.2.2]) 12 [] (by kernel_rfl) rfl (by decide) (by kernel_rfl) (by kernel_rfl) (by kernel_rfl) (by kernel_rfl) (by kernel_rfl) (by kernel_rfl) (by kernel_rfl) (fun _ _ _ h => h) ⟨Or.inl ⟨by rfl, ?_⟩, fun _ => rfl⟩ hS0 ?_
      · intro w' hSw
        obtain ⟨s0, ⟨s1, s2⟩, s3, s4⟩ := hSw
        go_simp
      simp only [Act.put, List.setIfInBounds_toArray, List.set_cons_zero, List.set_cons_succ]
      refine Rl.take_in (i := 0) (v := .func (.yield l) #[] #[]) 0 [] (by kernel_rfl) rfl (by decide) (by kernel_rfl) (by kernel_rfl) (by kernel_rfl) (by kernel_rfl) (by kernel_rfl) (by kernel_rfl) (by kernel_rfl) (fun _ _ _ h => h) ⟨Or.inl ⟨by rfl, ?_⟩, fun _ => rfl⟩ hS0 ?_
      · intro w' hSw
        obtain ⟨s0, ⟨s1, s2⟩, s3, s4⟩ := hSw
        go_simp
      simp only [Act.put, List.setIfInBounds_toArray, List.set_cons_zero, List.set_cons_succ]
      refine Rl.one_in (i := 13) rfl (by kernel_rfl) (fun K hK => ?_)
      rw [if_pos (by rfl)]
      unfold Oper.wpIn
      refine ⟨fun _ _ => trivial, ?_⟩
      go_simp
      refine hR.mono ?_
      rintro e W3 (⟨rfl, hJ3, hk3⟩ | ⟨rfl, hJx3⟩)
      · refine hK.out _ _ (fun h => Bool.noConfusion (show true = false from h)) ?_
        clear hK K
        try simp only [Act.put, List.setIfInBounds_toArray, List.set_cons_zero, List.set_cons_succ]
        refine Rl.one_in (i := 14) rfl (by kernel_rfl) (fun K hK => ?_)
        rw [if_pos (by rfl)]
        unfold Oper.wpIn
        refine ⟨fun _ _ => trivial, ?_⟩
        go_simp
        refine hK.out _ _ (fun h => Bool.noConfusion (show true = false from h)) ?_
        clear hK K
        try simp only [Act.put, List.setIfInBounds_toArray, List.set_cons_zero, List.set_cons_succ]
        refine Rl.done_in (by kernel_rfl) ?_ _
        gi_wp2
        go_roundw
        case rel => exact ⟨k + 1, m + 1, by have := HK.out; omega, by omega, by go_num, by rw [Hp.out]; exact hJ3, hbW.trans hk3⟩
        case measure => simp [intOf]; omega
      · refine hK.out _ _ (fun h => Bool.noConfusion (show true = false from h)) ?_
        clear hK K
        try simp only [Act.put, List.setIfInBounds_toArray, List.set_cons_zero, List.set_cons_succ]
        refine Rl.one_in (i := 14) rfl (by kernel_rfl) (fun K hK => ?_)
        rw [if_pos (by rfl)]
        unfold Oper.wpIn
        refine ⟨fun _ _ => trivial, ?_⟩
        go_simp
        refine hK.out _ _ (fun h => Bool.noConfusion (show true = false from h)) ?_
        clear hK K
        try simp only [Act.put, List.setIfInBounds_toArray, List.set_cons_zero, List.set_cons_succ]
        refine Rl.done_in (by kernel_rfl) ?_ _
        gi_wp2
        refine bodyPost_ret (results_none rfl _ _ _) rfl ?_
        exact ⟨⟨_, rfl⟩, .inr ⟨P (k + 1), ⟨k + 1, by have := HK.out; omega, rfl⟩, by rw [Hp.out]; exact hJx3⟩⟩
    · obtain rfl : m = r.length := by omega
      have HM := Lib.hid hm
      clear hm
      gi_wp2
      go_end0
      exact ⟨⟨_, rfl⟩, .inl ⟨_, rfl, by rw [show r.length - 1 = k by have := HM.out; omega]; exact hj⟩⟩

theorem segs_stops (n : Nat) (hn : 1 ≤ n) (B n₀ b off cap : Nat) (r : List Pt) (hlen : 1 ≤ r.length ∧ r.length ≤ 1000) (w : World) (hB : B < w.heap.size) (hb : b < n₀) (hw : n₀ ≤ w.heap.size)
    (hc : w.cell? ⟨B, 0, none⟩ = some (.slice (some ⟨b, off, none⟩) r.length cap)) (hcells : ∀ i (h : i < r.length), Cells2 w b (off + i * 2) r[i]) :
    SeqStopsK Fence.wide n Try.prog 94 #[.pointer (some ⟨B, 0, none⟩)] encG (KpB n₀ B) (fun ys => ys = sgs r) (fun pre => ∃ k, k ≤ r.length - 1 ∧ pre = sgUpto r k) (r.length - 1) w := fun l J Jx W hW hJ _ hY h0 =>
  segs_gen n hn l B n₀ b off cap r hlen (sgAt r) (fun k => rfl) (sgUpto r) rfl (sgUpto_succ r) (sgUpto_length r) J Jx
    (fun s X Y hs hb => hJ s X Y none hs (grownBelow hb none) (fun r e => by cases e)) hY W (Nat.lt_of_lt_of_le hB hW.size) hb (Nat.le_trans hw hW.size)
    ((hW.cell (p := ⟨B, 0, none⟩) hB).trans hc) (fun i h => (hcells i h).below hW (Nat.lt_of_lt_of_le hb hw)) h0
/-- block B holds a segment -/
def SgAt (W : World) (B : Nat) (s : Sg) : Prop := W.heap[B]? = some (.cells #[.int .i64 (s.1 : Int), .int .i64 s.2.1.1, .int .i64 s.2.1.2, .int .i64 s.2.2.1, .int .i64 s.2.2.2] 69 (0, 0))
theorem SgAt.lt {W : World} {B : Nat} {s : Sg} (h : SgAt W B s) : B < W.heap.size := (Array.getElem?_eq_some_iff.1 h).1
theorem SgAt.new (W : World) (s : Sg) : SgAt (W.alloc (.cells #[.int .i64 (s.1 : Int), .int .i64 s.2.1.1, .int .i64 s.2.1.2, .int .i64 s.2.2.1, .int .i64 s.2.2.2] 69)) W.heap.size s := World.alloc_heap_new W _
theorem SgAt.facts {W : World} {B : Nat} {s : Sg} (h : SgAt W B s) : W.cell? ⟨B, 0, none⟩ = some (.int .i64 (s.1 : Int)) ∧ W.cell? ⟨B, 1, none⟩ = some (.int .i64 s.2.1.1) ∧ W.cell? ⟨B, 2, none⟩ = some (.int .i64 s.2.1.2) ∧ W.cell? ⟨B, 3, none⟩ = some (.int .i64 s.2.2.1) ∧ W.cell? ⟨B, 4, none⟩ = some (.int .i64 s.2.2.2) := by
  unfold SgAt at h
  simp [World.cell?, h]
theorem SgAt.kept {W W' : World} {row : Option Nat} {B : Nat} {s : Sg} (h : SgAt W B s) (hg : W.grownBy W' row) (hne : some B ≠ row) : SgAt W' B s := (hg.block B h.lt hne).trans h
theorem SgAt.alloc {W : World} {B : Nat} {s : Sg} (h : SgAt W B s) (o : Obj) : SgAt (W.alloc o) B s := h.kept (World.grownBy_alloc W o none) (by simp)
theorem SgAt.below {W W' : World} {N B : Nat} {s : Sg} (h : SgAt W B s) (hb : Below N W W') (hlt : B < N) : SgAt W' B s := (hb.block B hlt).trans h
theorem sg_own {β : Type} (B : Nat) (f : β → Sg) : Own (fun s W => SgAt W B (f s)) := fun s X Y row hs hg hrow =>
  hs.kept hg (fun e' => by obtain ⟨o, ho, hc⟩ := hrow B e'.symm; rw [show X.heap[B]? = _ from hs] at ho; cases ho; cases hc)
end Go.Proofs.Ytcpcmlonbpccnaa.Ge

/- Walks over package line: Valid. -/
namespace Go.Proofs.Ytcpcmlonbpccnaa.Ge
set_option linter.unusedVariables false
set_option linter.unusedSimpArgs false
open Go.RowKit Go.Shelf
open Go.Proofs.Ytcpcmlonbpccnaa.Fr (Two)
attribute [local go_sem] Oper.semAt_some

theorem sgB_eq {x : Sg} (h : x.2.1 = x.2.2) : sgB x = false := by unfold sgB; simp [h]
theorem sgB_from {x : Sg} (h : ¬ onP x.2.1.1 x.2.1.2) : sgB x = false := by unfold sgB; simp [h]
theorem sgB_to {x : Sg} (h : ¬ onP x.2.2.1 x.2.2.2) : sgB x = false := by unfold sgB; simp [h]

set_option maxRecDepth 100000 in
set_option maxHeartbeats 4000000 in
theorem lvalid_long (b off cap : Nat) (r : List Pt) (h2 : 2 ≤ r.length) (h40 : r.length ≤ 40) (w : World) (hbw : b < w.heap.size) (hcells : ∀ i (h : i < r.length), Cells2 w b (off + i * 2) r[i]) :
    Calls Try.prog 16 #[.slice (some ⟨b, off, none⟩) r.length cap] w fun e w' => e = .returned (.bool (lineB r)) ∧ Below w.heap.size w w' := by
  have HC := Lib.hid hcells
  clear hcells
  refine (callsIn_wide (n := 4)).1 ?_
  refine callsIn_of_wp_marks Try.func16 rfl trivial ?_ rfl
  simp only [Try.ntmps16, List.size_toArray, List.length_cons, List.length_nil, Nat.reduceAdd, Nat.reduceSub, Array.replicate_succ, Array.replicate_zero, List.push_toArray, List.append_toArray, List.nil_append, List.cons_append]
  have k1 : decide ((r.length : Int) < 2) = false := by simp; omega
  have k2 : decide (40 < (r.length : Int)) = false := by simp; omega
  gi_wp2_with (refine ⟨trivial, ?_⟩; gi_at_call 50; refine (callsIn_wide.2 (segs_any _ _ _ _)).mono ?_; rintro e w' ⟨rfl, rfl⟩)
  have bO := (Boxed.new w 4 (.bool false)).alloc (.cells #[.slice (some ⟨b, off, none⟩) r.length cap] 22)
  have bR := Boxed.new (w.alloc (.cells #[.bool false] 4)) 22 (.slice (some ⟨b, off, none⟩) r.length cap)
  simp only [World.size_alloc] at bR
  have hB0 : Below w.heap.size w ((w.alloc (.cells #[.bool false] 4)).alloc (.cells #[.slice (some ⟨b, off, none⟩) r.length cap] 22)) := ((Below.refl _ w).alloc (Nat.le_refl _) _).alloc (by simp) _
  have hsz : ((w.alloc (.cells #[.bool false] 4)).alloc (.cells #[.slice (some ⟨b, off, none⟩) r.length cap] 22)).heap.size = w.heap.size + 2 := by simp
  obtain ⟨W0, hW0⟩ : ∃ W0, (w.alloc (.cells #[.bool false] 4)).alloc (.cells #[.slice (some ⟨b, off, none⟩) r.length cap] 22) = W0 := ⟨_, rfl⟩
  rw [hW0] at bO bR hB0 hsz ⊢
  clear hW0
  refine wpIn_rangeFunc_ownH rfl (by decide) (gf := 94) (lb := #[.pointer (some ⟨w.heap.size + 1, 0, none⟩)]) rfl trivial (enters_of Try.func94 (by kernel_rfl) rfl)
    (segs_stops 3 (by decide) (w.heap.size + 1) w.heap.size b off cap r (by omega) W0 (by omega) hbw hB0.size bR.cell (fun i hi => (HC.out i hi).below hB0 hbw)) (fun h k => h.trans k) (KpB.bk hB0.size (by omega)) (Below.refl _ _) (fun _ => rfl)
    (fun pre W => (Boxed W w.heap.size 4 (.bool false) ∧ (∀ x ∈ pre, sgB x = true)) ∧ Below w.heap.size W0 W)
    (fun c pre W => (Boxed W w.heap.size 4 (.bool false) ∧ (c = .ret ∧ ∃ x ∈ pre, sgB x = false)) ∧ Below w.heap.size W0 W)
    (OwnFrom.and (OwnFrom.and (Own.from (boxed_own _ _ _) _) (ownFrom_pure _ _)) (ownFrom_below hB0.size hB0.size))
    (fun c => OwnFrom.and (OwnFrom.and (Own.from (boxed_own _ _ _) _) (ownFrom_pure _ _)) (ownFrom_below hB0.size hB0.size))
    ⟨⟨bO, fun x hx => by cases hx⟩, Below.refl _ _⟩
    (fun x a' W => ∃ Bx, w.heap.size + 1 < Bx ∧ SgAt W Bx x ∧ a' = { tmps := #[.slice (some ⟨b, off, none⟩) r.length cap, undef, .pointer (some ⟨w.heap.size, 0, none⟩), .pointer (some ⟨Bx, 0, none⟩), .slice (some ⟨b, off, none⟩) r.length cap, .int .i64 r.length, .bool false, .bool false, .slice (some ⟨b, off, none⟩) r.length cap, .int .i64 r.length, .bool false, .bool false, .slice (some ⟨b, off, none⟩) r.length cap, .func (.func 94) #[] #[.pointer (some ⟨w.heap.size + 1, 0, none⟩)], .agg #[.int .i64 (x.1 : Int), .int .i64 x.2.1.1, .int .i64 x.2.1.2, .int .i64 x.2.2.1, .int .i64 x.2.2.2],
        undef, undef, undef, undef, undef, undef, undef, undef, undef, undef, undef, undef, undef, undef, undef, undef, undef], defers := [] })
    (fun x a' _ X Y row hs hg hr => by obtain ⟨Bx, h1, h2, h3⟩ := hs; exact ⟨Bx, h1, sg_own Bx (fun (_ : Unit) => x) () X Y row h2 hg (fun r e => (hr r e).2), h3⟩)
    ?assign ?body ?done ?stop
  case assign =>
    rintro l pre x W K ⟨⟨bO1, hno⟩, hB1⟩ hK
    gi_wp2
    have hz := hB1.size
    exact hK _ _ ((KeepsOthers.alloc _ _).from _) ((KpB.refl _ _ _).alloc (by omega) (by omega) _) ⟨⟨bO1.alloc _, hno⟩, hB1.alloc (by omega) _⟩ ⟨W.heap.size, by omega, SgAt.new W x, rfl⟩
  case body =>
    rintro l pre x a' W hl - ⟨⟨bO1, hno⟩, hB1⟩ ⟨Bx, hBx, bX, rfl⟩ hlt
    have hz := hB1.size
    obtain ⟨f0, f1, f2, f3, f4⟩ := bX.facts
    have hlx := bX.lt
    have hc := bO1.cell
    have hf := bO1.frozen
    have HN := Lib.hid (show (∀ y ∈ pre, sgB y = true) from hno)
    clear hno
    obtain ⟨nn, ⟨qa, qb⟩, qc, qd⟩ := x
    dsimp only at f0 f1 f2 f3 f4
    have hsplit : (qa = qc ∧ qb = qd) ∨ ((qa, qb) ≠ (qc, qd) ∧ (qa == qc) = false) ∨ ((qa, qb) ≠ (qc, qd) ∧ qa = qc ∧ (qb == qd) = false) := by
      by_cases k1 : qa = qc
      · by_cases k2 : qb = qd
        · exact .inl ⟨k1, k2⟩
        · exact .inr (.inr ⟨fun e => k2 (congrArg Prod.snd e), k1, by simpa using k2⟩)
      · exact .inr (.inl ⟨fun e => k1 (congrArg Prod.fst e), by simpa using k1⟩)
    rcases hsplit with ⟨rfl, rfl⟩ | ⟨he, e1⟩ | ⟨he, rfl, e1⟩
    · have HX := Lib.hid (sgB_eq (x := (nn, (qa, qb), qa, qb)) rfl)
      gi_wp2
      refine ⟨trivial, ?_⟩
      gi_wp2
      refine ⟨trivial, ?_⟩
      gi_wp2
      exact ⟨(KeepsOthers.setCell _ _ _).from _, ⟨bO1.set _, rfl, (nn, (qa, qb), qa, qb), by simp, HX.out⟩, hB1.setCell (p := ⟨w.heap.size, 0, none⟩) (Nat.le_refl _) _⟩
    · by_cases h1 : onP qa qb
      · have H1 := Lib.hid (fun w => on_yes _ _ h1 w)
        by_cases h2 : onP qc qd
        · have H2 := Lib.hid (fun w => on_yes _ _ h2 w)
          have HX := Lib.hid ((sgB_iff (nn, (qa, qb), qc, qd)).2 ⟨he, h1, h2⟩)
          clear he h1 h2
          gi_wp2
          refine ⟨trivial, (CallsIn.inRound l (callsIn_wide.2 (H1.out _))).mono ?_⟩
          rintro e w1 ⟨rfl, hb1⟩
          obtain ⟨g0, g1, g2, g3, g4⟩ := (bX.below hb1 hlx).facts
          dsimp only at g0 g1 g2 g3 g4
          gi_wp2
          refine ⟨trivial, (CallsIn.inRound l (callsIn_wide.2 (H2.out _))).mono ?_⟩
          rintro e w2 ⟨rfl, hb2⟩
          have hb3 := hb1.trans (hb2.mono hb1.size)
          gi_wp2
          refine ⟨(keeps_below hb3).from _, KpB.of_below hb3 (by omega) (by omega), ⟨boxed_below bO1 hb3 bO1.lt, fun y hy => ?_⟩, hB1.trans (hb3.mono (by omega))⟩
          rcases List.mem_append.1 hy with hy | hy
          · exact HN.out y hy
          · rw [List.mem_singleton.1 hy]; exact HX.out
        · have H2 := Lib.hid (fun w => on_no _ _ h2 w)
          have HX := Lib.hid (sgB_to (x := (nn, (qa, qb), qc, qd)) h2)
          clear he h1 h2
          gi_wp2
          refine ⟨trivial, (CallsIn.inRound l (callsIn_wide.2 (H1.out _))).mono ?_⟩
          rintro e w1 ⟨rfl, hb1⟩
          obtain ⟨g0, g1, g2, g3, g4⟩ := (bX.below hb1 hlx).facts
          dsimp only at g0 g1 g2 g3 g4
          gi_wp2
          refine ⟨trivial, (CallsIn.inRound l (callsIn_wide.2 (H2.out _))).mono ?_⟩
          rintro e w2 ⟨rfl, hb2⟩
          have hb3 := hb1.trans (hb2.mono hb1.size)
          have q0 := boxed_below bO1 hb3 bO1.lt
          have qcc := q0.cell
          have qf := q0.frozen
          gi_wp2
          exact ⟨((keeps_below hb3).trans (KeepsOthers.setCell _ _ _)).from _, ⟨q0.set _, rfl, (nn, (qa, qb), qc, qd), by simp, HX.out⟩, (hB1.trans (hb3.mono (by omega))).setCell (p := ⟨w.heap.size, 0, none⟩) (Nat.le_refl _) _⟩
      · have H1 := Lib.hid (fun w => on_no _ _ h1 w)
        have HX := Lib.hid (sgB_from (x := (nn, (qa, qb), qc, qd)) h1)
        clear he h1
        gi_wp2
        refine ⟨trivial, (CallsIn.inRound l (callsIn_wide.2 (H1.out _))).mono ?_⟩
        rintro e w1 ⟨rfl, hb1⟩
        have q0 := boxed_below bO1 hb1 bO1.lt
        have qcc := q0.cell
        have qf := q0.frozen
        gi_wp2
        refine ⟨trivial, ?_⟩
        gi_wp2
        exact ⟨((keeps_below hb1).trans (KeepsOthers.setCell _ _ _)).from _, ⟨q0.set _, rfl, (nn, (qa, qb), qc, qd), by simp, HX.out⟩, (hB1.trans (hb1.mono (by omega))).setCell (p := ⟨w.heap.size, 0, none⟩) (Nat.le_refl _) _⟩
    · by_cases h1 : onP qa qb
      · have H1 := Lib.hid (fun w => on_yes _ _ h1 w)
        by_cases h2 : onP qa qd
        · have H2 := Lib.hid (fun w => on_yes _ _ h2 w)
          have HX := Lib.hid ((sgB_iff (nn, (qa, qb), qa, qd)).2 ⟨he, h1, h2⟩)
          clear he h1 h2
          gi_wp2
          refine ⟨trivial, (CallsIn.inRound l (callsIn_wide.2 (H1.out _))).mono ?_⟩
          rintro e w1 ⟨rfl, hb1⟩
          obtain ⟨g0, g1, g2, g3, g4⟩ := (bX.below hb1 hlx).facts
          dsimp only at g0 g1 g2 g3 g4
          gi_wp2
          refine ⟨trivial, (CallsIn.inRound l (callsIn_wide.2 (H2.out _))).mono ?_⟩
          rintro e w2 ⟨rfl, hb2⟩
          have hb3 := hb1.trans (hb2.mono hb1.size)
          gi_wp2
          refine ⟨(keeps_below hb3).from _, KpB.of_below hb3 (by omega) (by omega), ⟨boxed_below bO1 hb3 bO1.lt, fun y hy => ?_⟩, hB1.trans (hb3.mono (by omega))⟩
          rcases List.mem_append.1 hy with hy | hy
          · exact HN.out y hy
          · rw [List.mem_singleton.1 hy]; exact HX.out
        · have H2 := Lib.hid (fun w => on_no _ _ h2 w)
          have HX := Lib.hid (sgB_to (x := (nn, (qa, qb), qa, qd)) h2)
          clear he h1 h2
          gi_wp2
          refine ⟨trivial, (CallsIn.inRound l (callsIn_wide.2 (H1.out _))).mono ?_⟩
          rintro e w1 ⟨rfl, hb1⟩
          obtain ⟨g0, g1, g2, g3, g4⟩ := (bX.below hb1 hlx).facts
          dsimp only at g0 g1 g2 g3 g4
          gi_wp2
          refine ⟨trivial, (CallsIn.inRound l (callsIn_wide.2 (H2.out _))).mono ?_⟩
          rintro e w2 ⟨rfl, hb2⟩
          have hb3 := hb1.trans (hb2.mono hb1.size)
          have q0 := boxed_below bO1 hb3 bO1.lt
          have qcc := q0.cell
          have qf := q0.frozen
          gi_wp2
          exact ⟨((keeps_below hb3).trans (KeepsOthers.setCell _ _ _)).from _, ⟨q0.set _, rfl, (nn, (qa, qb), qa, qd), by simp, HX.out⟩, (hB1.trans (hb3.mono (by omega))).setCell (p := ⟨w.heap.size, 0, none⟩) (Nat.le_refl _) _⟩
      · have H1 := Lib.hid (fun w => on_no _ _ h1 w)
        have HX := Lib.hid (sgB_from (x := (nn, (qa, qb), qa, qd)) h1)
        clear he h1
        gi_wp2
        refine ⟨trivial, (CallsIn.inRound l (callsIn_wide.2 (H1.out _))).mono ?_⟩
        rintro e w1 ⟨rfl, hb1⟩
        have q0 := boxed_below bO1 hb1 bO1.lt
        have qcc := q0.cell
        have qf := q0.frozen
        gi_wp2
        refine ⟨trivial, ?_⟩
        gi_wp2
        exact ⟨((keeps_below hb1).trans (KeepsOthers.setCell _ _ _)).from _, ⟨q0.set _, rfl, (nn, (qa, qb), qa, qd), by simp, HX.out⟩, (hB1.trans (hb1.mono (by omega))).setCell (p := ⟨w.heap.size, 0, none⟩) (Nat.le_refl _) _⟩
  case done =>
    rintro D ys W hD rfl ⟨⟨bO1, hno⟩, hB1⟩ hK
    have hz := hB1.size
    have oc := bO1.cell
    have of := bO1.frozen
    have hv : lineB r = true := by
      unfold lineB
      simp only [Bool.and_eq_true, decide_eq_true_eq, List.all_eq_true]
      exact ⟨h2, h40, hno⟩
    have HV := Lib.hid hv
    clear hv hno
    gi_wp2
    have hK' := (KeepsOthers.setCell W ⟨w.heap.size, 0, none⟩ (.bool true)).same D _ hK rfl
    refine ⟨by simp, .inl ⟨_, _, rfl, run_takeDeferred hK', ?_⟩⟩
    have hc5 := cell_kept (bO1.set (.bool true)).cell (grownBy_putObj' _ D (.deferred none)) (fun r e => by cases e; exact ⟨_, hK', rfl⟩)
    refine ⟨.bool true, ?_, by rw [HV.out], (hB0.trans (hB1.setCell (p := ⟨w.heap.size, 0, none⟩) (Nat.le_refl _) _)).trans (belowK_b (w := w) (Nat.le_refl _) _ D _ _ (by omega) hK' rfl rfl)⟩
    simp [results, Try.f16, go_sem, hc5]
  case stop =>
    rintro D c pre W hD ⟨k, hk, rfl⟩ ⟨⟨bO1, rfl, x, hx, hh⟩, hB1⟩ hK
    have hv : lineB r = false := by
      cases hl : lineB r with
      | false => rfl
      | true =>
        unfold lineB at hl
        simp only [Bool.and_eq_true, decide_eq_true_eq, List.all_eq_true] at hl
        rw [hl.2.2 x (upto_mem hx (by omega))] at hh
        cases hh
    have HV := Lib.hid hv
    clear hv hx hh
    have oc := bO1.cell
    gi_wp2
    refine ⟨by simp, .inl ⟨_, _, rfl, run_takeDeferred hK, ?_⟩⟩
    have hc5 := cell_kept bO1.cell (grownBy_putObj' _ D (.deferred none)) (fun r e => by cases e; exact ⟨_, hK, rfl⟩)
    refine ⟨.bool false, ?_, by rw [HV.out], (hB0.trans hB1).trans (belowK_b (w := w) (Nat.le_refl _) W D _ _ (by omega) hK rfl rfl)⟩
    simp [results, Try.f16, go_sem, hc5]

theorem lineB_short {r : List Pt} (h : ¬ (2 ≤ r.length ∧ r.length ≤ 40)) : lineB r = false := by
  unfold lineB
  by_cases h1 : 2 ≤ r.length
  · have h2 : ¬ r.length ≤ 40 := fun k => h ⟨h1, k⟩
    simp [h2]
  · simp [h1]
set_option maxHeartbeats 1000000 in
theorem lvalid_short (a : Option Addr) (cap : Nat) (r : List Pt) (h : ¬ (2 ≤ r.length ∧ r.length ≤ 40)) (w : World) :
    Calls Try.prog 16 #[.slice a r.length cap] w fun e w' => e = .returned (.bool (lineB r)) ∧ Below w.heap.size w w' := by
  rw [lineB_short h]
  by_cases h1 : r.length < 2
  · have k1 : decide ((r.length : Int) < 2) = true := by simp; omega
    clear h h1
    generalize r.length = n at *
    go_enter Try.func16, Try.ntmps16
    go_wp2_with fail
    refine bodyPost_ret (v := .bool false) ?_ rfl ⟨rfl, ?_⟩
    · simp [results, Try.results16, go_sem]
    · exact (Below.refl _ _).alloc (Nat.le_refl _) _
  · have k1 : decide ((r.length : Int) < 2) = false := by simp; omega
    have k2 : decide (40 < (r.length : Int)) = true := by simp; omega
    clear h h1
    generalize r.length = n at *
    go_enter Try.func16, Try.ntmps16
    go_wp2_with fail
    refine bodyPost_ret (v := .bool false) ?_ rfl ⟨rfl, ?_⟩
    · simp [results, Try.results16, go_sem]
    · exact (Below.refl _ _).alloc (Nat.le_refl _) _
theorem lvalid_any (v : Value) (r : List Pt) (w : World) (hv : PtSl w v r) :
    Calls Try.prog 16 #[v] w fun e w' => e = .returned (.bool (lineB r)) ∧ Below w.heap.size w w' := by
  by_cases h : 2 ≤ r.length ∧ r.length ≤ 40
  · rcases hv with ⟨rfl, _⟩ | ⟨b, off, cap, rfl, h0, hlt, hm, hc⟩
    · simp at h
    · exact lvalid_long b off cap r h.1 h.2 w hlt hc
  · obtain ⟨a, cap, rfl⟩ := hv.form
    exact lvalid_short a cap r h w
end Go.Proofs.Ytcpcmlonbpccnaa.Ge
