/- Walks over package polygon: the list of a ring's sides. -/
import Derived.Test.YtohkmkkcblbemaaPolW5
namespace Go.Proofs.Ytohkmkkcblbemaa.Ge
set_option linter.unusedVariables false
set_option linter.unusedSimpArgs false
open Go.RowKit Go.Shelf
open Go.Proofs.Ytohkmkkcblbemaa.Fr (Two)
attribute [local go_sem] Oper.semAt_some

def encSd (s : Sd) : List Value := [.int .i64 s.1.1, .int .i64 s.1.2, .int .i64 s.2.1, .int .i64 s.2.2]
def flatS (l : List Sd) : List Value := l.flatMap encSd
theorem flatS_length : ∀ l : List Sd, (flatS l).length = l.length * 4
  | [] => rfl
  | p :: l => by
    have h := flatS_length l
    unfold flatS at h ⊢
    rw [List.flatMap_cons, List.length_append, h]
    simp [encSd]
    omega
theorem flatS_append (a b : List Sd) : flatS (a ++ b) = flatS a ++ flatS b := List.flatMap_append
theorem flatS_get : ∀ (l : List Sd) (i j : Nat) (h : i < l.length), j < 4 → (flatS l)[i * 4 + j]? = (encSd l[i])[j]?
  | [], i, j, h, _ => by simp at h
  | p :: l, i, j, h, hj => by
    have hl : (encSd p).length = 4 := rfl
    unfold flatS
    rw [List.flatMap_cons]
    cases i with
    | zero =>
      rw [Nat.zero_mul, Nat.zero_add, List.getElem?_append_left (by omega)]
      rfl
    | succ i =>
      rw [List.getElem?_append_right (by omega), hl, show (i + 1) * 4 + j - 4 = i * 4 + j by omega]
      exact flatS_get l i j (by simpa using h) hj
/-- v is a list of sides of the call's own, from block B on -/
def OwnSd (w : World) (B : Nat) (v : Value) (l : List Sd) : Prop := w.ownsRow B 83 4 v l.length (flatS l)
theorem infoSd : (Try.prog.info? 83).bind (fun i => i.zero.map fun z => (i.size, i.bytes, z.cells.size)) = some (4, 32, 4) := by kernel_rfl
theorem sd_info : ∃ i z, Try.prog.info? 83 = some i ∧ i.zero = some z ∧ i.size = 4 ∧ i.bytes = 32 ∧ z.cells.size = 4 := by
  have h := infoSd
  cases hi : Try.prog.info? 83 with
  | none => rw [hi] at h; cases h
  | some i =>
    rw [hi] at h
    cases hz : i.zero with
    | none => simp [hz] at h
    | some z =>
      simp [hz] at h
      exact ⟨i, z, rfl, hz, h.1, h.2.1, h.2.2⟩
theorem sd_cells (w : World) (s : Sd) (t : TypeId) : ∀ j u, (encSd s)[j]? = some u → (w.alloc (.cells #[.int .i64 s.1.1, .int .i64 s.1.2, .int .i64 s.2.1, .int .i64 s.2.2] t)).cell? ((⟨w.heap.size, 0, none⟩ : Addr).add j) = some u := by
  intro j u hj
  have hadd : (⟨w.heap.size, 0, none⟩ : Addr).add j = ⟨w.heap.size, j, none⟩ := by unfold Addr.add; split <;> simp_all
  rw [hadd]
  have hg : (w.alloc (.cells #[.int .i64 s.1.1, .int .i64 s.1.2, .int .i64 s.2.1, .int .i64 s.2.2] t)).heap[w.heap.size]? = some (.cells #[.int .i64 s.1.1, .int .i64 s.1.2, .int .i64 s.2.1, .int .i64 s.2.2] t (0, 0)) := World.alloc_heap_new w _
  simp only [World.cell?, hg]
  unfold encSd at hj
  simpa using hj
theorem encSd_one (s : Sd) : ∀ v ∈ encSd s, v.oneCell' = true := by
  intro v hv
  simp [encSd] at hv
  rcases hv with rfl | rfl | rfl | rfl <;> rfl

set_option maxRecDepth 100000 in
set_option maxHeartbeats 4000000 in
theorem appendSeq_any (b off cap B : Nat) (r : List Pt) (hr : onL r) (hlen : 1 ≤ r.length ∧ r.length ≤ 1000) (w : World) (hB : B < w.heap.size) (hbw : b < w.heap.size) (hc : w.cell? ⟨B, 0, none⟩ = some (.slice (some ⟨b, off, none⟩) r.length cap)) (hcells : ∀ i (h : i < r.length), Cells2 w b (off + i * 2) r[i]) :
    Calls Try.prog 84 #[.slice none 0 0, .func (.func 83) #[] #[.pointer (some ⟨B, 0, none⟩)]] w fun e w' => ∃ v, e = .returned v ∧ OwnSd w' w.heap.size v (sidesL r) ∧ Below w.heap.size w w' := by
  obtain ⟨i0, z0, hi, hz0, hz1, hz2, hz3⟩ := sd_info
  have HC := Lib.hid hcells
  clear hcells
  refine (callsIn_wide (n := 4)).1 ?_
  refine callsIn_of_wp_marks Try.func84 rfl trivial ?_ rfl
  simp only [Try.ntmps84, List.size_toArray, List.length_cons, List.length_nil, Nat.reduceAdd, Nat.reduceSub, Array.replicate_succ, Array.replicate_zero, List.push_toArray, List.append_toArray, List.nil_append, List.cons_append]
  gi_wp2
  have bE := Boxed.new w 84 (.slice none 0 0)
  have hB0 : Below w.heap.size w (w.alloc (.cells #[.slice none 0 0] 84)) := (Below.refl _ w).alloc (Nat.le_refl _) _
  have hsz : (w.alloc (.cells #[.slice none 0 0] 84)).heap.size = w.heap.size + 1 := by simp
  obtain ⟨W0, hW0⟩ : ∃ W0, w.alloc (.cells #[.slice none 0 0] 84) = W0 := ⟨_, rfl⟩
  rw [hW0] at bE hB0 hsz ⊢
  clear hW0
  refine wpIn_rangeFunc_ownH rfl (by decide) (gf := 83) (lb := #[.pointer (some ⟨B, 0, none⟩)]) rfl trivial (enters_of Try.func83 (by kernel_rfl) rfl)
    (sides_stops 3 (by decide) B w.heap.size b off cap r hr hlen W0 (by omega) hbw hB0.size ((hB0.cell (p := ⟨B, 0, none⟩) hB).trans hc) (fun i hi => (HC.out i hi).below hB0 hbw)) (fun h k => h.trans k) (KpB.bk hB0.size (by omega)) (Below.refl _ _) (fun _ => rfl)
    (fun pre W => (∃ v, Boxed W w.heap.size 84 v ∧ W.ownsRow w.heap.size 83 4 v pre.length (flatS (pre.map (·.1))) ∧ True) ∧ Below w.heap.size W0 W)
    (fun _ _ _ => False)
    (OwnFrom.and (Own.from (holdsRow_own w.heap.size w.heap.size 84 83 4 (fun pre : List OSd => pre.length) (fun pre => flatS (pre.map (·.1))) (fun _ _ => True)) _) (ownFrom_below hB0.size hB0.size))
    (fun _ _ _ _ _ hs _ _ => hs)
    ⟨⟨_, bE, World.ownsRow_nil W0 _ _ _, trivial⟩, Below.refl _ _⟩
    (fun x a' W => ∃ Bx, w.heap.size < Bx ∧ SdAt W Bx x.1 ∧ a' = { tmps := #[(.slice none 0 0), .func (.func 83) #[] #[.pointer (some ⟨B, 0, none⟩)], .pointer (some ⟨w.heap.size, 0, none⟩), undef, (.slice none 0 0), .pointer (some ⟨Bx, 0, none⟩), .func (.func 83) #[] #[.pointer (some ⟨B, 0, none⟩)], .agg #[.int .i64 x.1.1.1, .int .i64 x.1.1.2, .int .i64 x.1.2.1, .int .i64 x.1.2.2], undef, undef, undef, undef, undef], defers := [] })
    (fun x a' _ X Y row hs hg hr => by obtain ⟨Bx, h1, h2, h3⟩ := hs; exact ⟨Bx, h1, sd_own Bx (fun (_ : Unit) => x.1) () X Y row h2 hg (fun r e => (hr r e).2), h3⟩)
    ?assign ?body ?done ?stop
  case assign =>
    rintro l pre x W K ⟨⟨v, bv, hrow, -⟩, hB1⟩ hK
    gi_wp2
    have hz := hB1.size
    exact hK _ _ ((KeepsOthers.alloc _ _).from _) ((KpB.refl _ _ _).alloc (by omega) (by omega) _) ⟨⟨v, bv.alloc _, hrow.alloc _, trivial⟩, hB1.alloc (by omega) _⟩ ⟨W.heap.size, by omega, SdAt.new W x.1, rfl⟩
  case body =>
    rintro l pre x a' W hl - ⟨⟨v, bv, hrow, -⟩, hB1⟩ ⟨Bx, hBx, bX, rfl⟩ hlt
    have hz := hB1.size
    obtain ⟨f0, f1, f2, f3⟩ := bX.facts
    have hc0 := bv.cell
    have hf0 := bv.frozen
    gi_wp2_with (gi_at_builtin; refine wpListIn_append_own _ rfl _ _ 84 rfl w.heap.size 83 i0 z0 4 32 Try.underlying84 hi hz0 hz1 hz2 hz3 (by decide) _ pre.length _ rfl (hrow.alloc _) ⟨W.heap.size, 0, none⟩ 1 1 (encSd x.1) rfl rfl (sd_cells W x.1 _) (encSd_one x.1) (by unfold maxLen; omega) (by omega) (by simp only [World.size_alloc]; omega) ?_; intro v' w1 hown' hgrow _; obtain ⟨g', cap', rfl⟩ := ownsRow_succ hown'; obtain ⟨hv1, hv2, hr2, hk2, hb2⟩ := bv.appended (by decide) hrow (by omega) (Nat.le_refl _) hown' hgrow; have hc1 := hv1.cell; have hf1 := hv1.frozen)
    have hr3 : (w1.setCell ⟨w.heap.size, 0, none⟩ (.slice (some ⟨g', 0, none⟩) (pre.length + 1) cap')).ownsRow w.heap.size 83 4 (.slice (some ⟨g', 0, none⟩) (pre.length + 1) cap') (pre ++ [x]).length (flatS ((pre ++ [x]).map (·.1))) := by
      rw [List.length_append, List.length_singleton, List.map_append, flatS_append]
      have e : flatS ([x].map (·.1)) = encSd x.1 := by simp [flatS]
      rw [e]
      exact hr2
    exact ⟨hk2.from _, KpB.of_below hb2 (Nat.le_refl _) hB, ⟨_, hv2, hr3, trivial⟩, hB1.trans hb2⟩
  case done =>
    rintro D ys W hD rfl ⟨⟨v, bv, hrow, -⟩, hB1⟩ hK
    have hc0 := bv.cell
    have hz := hB1.size
    gi_wp2
    refine ⟨by simp, .inl ⟨_, _, rfl, run_takeDeferred hK, ?_⟩⟩
    refine ⟨_, results_tmp rfl _ _ _, _, rfl, ?_, (hB0.trans hB1).trans (belowK_b (w := w) (Nat.le_refl _) W D _ _ (by omega) hK rfl rfl)⟩
    have h := ownsRow_putObj hrow (.deferred none) hK rfl
    rw [oSides_val hr] at h
    unfold OwnSd
    rw [sides_length, ← oUpto_length r r.length]
    exact h
  case stop =>
    rintro D c pre W _ _ h _
    exact h.elim

theorem collect_any (b off cap B : Nat) (r : List Pt) (hr : onL r) (hlen : 1 ≤ r.length ∧ r.length ≤ 1000) (w : World) (hB : B < w.heap.size) (hbw : b < w.heap.size) (hc : w.cell? ⟨B, 0, none⟩ = some (.slice (some ⟨b, off, none⟩) r.length cap)) (hcells : ∀ i (h : i < r.length), Cells2 w b (off + i * 2) r[i]) :
    Calls Try.prog 69 #[.func (.func 83) #[] #[.pointer (some ⟨B, 0, none⟩)]] w fun e w' => ∃ v, e = .returned v ∧ OwnSd w' w.heap.size v (sidesL r) ∧ Below w.heap.size w w' := by
  have HA := Lib.hid (appendSeq_any b off cap B r hr hlen w hB hbw hc hcells)
  clear hc hcells
  go_enter Try.func69, Try.ntmps69
  go_wp2_with fail
  refine HA.out.mono ?_
  rintro e w1 ⟨v, rfl, hv, hb⟩
  go_wp2_with fail
  go_ret
  exact ⟨v, rfl, hv, hb⟩
/-- v is a list of sides in memory -/
def SdSl (w : World) (v : Value) (l : List Sd) : Prop := ∃ g cap, v = .slice (some ⟨g, 0, none⟩) l.length cap ∧ l.length ≤ cap ∧ g < w.heap.size ∧ ∀ i (h : i < l.length),
  (w.cell? ⟨g, i * 4, none⟩ = some (.int .i64 l[i].1.1) ∧ w.cell? ⟨g, i * 4 + 1, none⟩ = some (.int .i64 l[i].1.2)) ∧ w.cell? ⟨g, i * 4 + 2, none⟩ = some (.int .i64 l[i].2.1) ∧ w.cell? ⟨g, i * 4 + 3, none⟩ = some (.int .i64 l[i].2.2)
theorem OwnSd.sl {w : World} {B : Nat} {v : Value} {l : List Sd} (h : OwnSd w B v l) (h1 : 1 ≤ l.length) : SdSl w v l := by
  rcases h with ⟨hl, ⟨hv, h0⟩ | ⟨g, cap, cur, hv, _, hg, hc, hm, hsz, htk⟩⟩
  · omega
  · refine ⟨g, cap, hv, hc, (Array.getElem?_eq_some_iff.1 hg).1, fun i hi => ?_⟩
    have key : ∀ j, j < 4 → w.cell? ⟨g, i * 4 + j, none⟩ = (encSd l[i])[j]? := fun j hj => by
      rw [cell_of_row _ _ _ _ _ _ hg, ← flatS_get l i j hi hj, ← htk, List.getElem?_take, if_pos (by omega), Array.getElem?_toList]
    exact ⟨⟨key 0 (by decide), key 1 (by decide)⟩, key 2 (by decide), key 3 (by decide)⟩
theorem SdSl.below {w w' : World} {v : Value} {l : List Sd} (h : SdSl w v l) (hb : Below w.heap.size w w') : SdSl w' v l := by
  obtain ⟨g, cap, rfl, hc, hg, hcells⟩ := h
  exact ⟨g, cap, rfl, hc, Nat.lt_of_lt_of_le hg hb.size, fun i hi => ⟨⟨(hb.cell (p := ⟨g, i * 4, none⟩) hg).trans (hcells i hi).1.1, (hb.cell (p := ⟨g, i * 4 + 1, none⟩) hg).trans (hcells i hi).1.2⟩,
    (hb.cell (p := ⟨g, i * 4 + 2, none⟩) hg).trans (hcells i hi).2.1, (hb.cell (p := ⟨g, i * 4 + 3, none⟩) hg).trans (hcells i hi).2.2⟩⟩
end Go.Proofs.Ytohkmkkcblbemaa.Ge
