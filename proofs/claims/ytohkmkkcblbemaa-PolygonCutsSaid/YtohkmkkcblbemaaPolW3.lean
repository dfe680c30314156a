/- Walks over package polygon: the area of a ring. -/
import Derived.Test.YtohkmkkcblbemaaPolW2
namespace Go.Proofs.Ytohkmkkcblbemaa.Ge
set_option linter.unusedVariables false
set_option linter.unusedSimpArgs false
open Go.RowKit Go.Shelf
open Go.Proofs.Ytohkmkkcblbemaa.Fr (Two)
attribute [local go_sem] Oper.semAt_some

/-- v is a ring in memory -/
def Ring (w : World) (v : Value) (r : List Pt) : Prop := ∃ b off cap, v = .slice (some ⟨b, off, none⟩) r.length cap ∧ b < w.heap.size ∧ ∀ i (h : i < r.length), Cells2 w b (off + i * 2) r[i]
theorem Ring.below {w w' : World} {v : Value} {r : List Pt} (h : Ring w v r) (hb : Below w.heap.size w w') : Ring w' v r := by
  obtain ⟨b, off, cap, rfl, hlt, hc⟩ := h
  exact ⟨b, off, cap, rfl, Nat.lt_of_lt_of_le hlt hb.size, fun i hi => (hc i hi).below hb hlt⟩
theorem PtSl.ring {w : World} {v : Value} {r : List Pt} (h : PtSl w v r) (h1 : 1 ≤ r.length) : Ring w v r := by
  rcases h with ⟨rfl, _⟩ | ⟨b, off, cap, hv, _, hlt, _, hc⟩
  · simp at h1
  · exact ⟨b, off, cap, hv, hlt, hc⟩
def sumO (f : Sd → Int) (pre : List OSd) : Int := sumS f (pre.map (·.1))
theorem sumO_snoc (f : Sd → Int) (pre : List OSd) (x : OSd) : sumO f (pre ++ [x]) = sumO f pre + f x.1 := by unfold sumO; rw [List.map_append]; exact sumS_snoc f _ _
theorem sumO_part (pre : List OSd) : -(1073676289 * (pre.length : Int)) ≤ sumO partS pre ∧ sumO partS pre ≤ 1073676289 * (pre.length : Int) := by
  have h := sum_bd partS 1073676289 (pre.map (·.1)) (fun s hs => by
    obtain ⟨x, _, rfl⟩ := List.mem_map.1 hs
    exact part_bd x.2)
  rw [List.length_map] at h
  exact h

theorem KpB.set {n₀ B p : Nat} (hn : n₀ ≤ p) (hne : B ≠ p) {W : World} (hB : B < W.heap.size) (v : Value) : KpB n₀ B W (W.setCell ⟨p, 0, none⟩ v) :=
  ⟨(Below.refl _ _).setCell (p := ⟨p, 0, none⟩) hn _, (grownBy_setCell' W p v).block B hB (fun e => hne (by cases e; rfl))⟩
set_option maxRecDepth 100000 in
set_option maxHeartbeats 2000000 in
theorem area_any (v : Value) (r : List Pt) (hr : onL r) (hlen : 1 ≤ r.length ∧ r.length ≤ 1000) (w : World) (hv : Ring w v r) :
    Calls Try.prog 50 #[v] w fun e w' => e = .returned (.int .i64 (areaS r)) ∧ Below w.heap.size w w' := by
  obtain ⟨b, off, cap, rfl, hbw, hcells⟩ := hv
  have HC := Lib.hid hcells
  clear hcells
  refine (callsIn_wide (n := 4)).1 ?_
  refine callsIn_of_wp_marks Try.func50 rfl trivial ?_ rfl
  simp only [Try.ntmps50, List.size_toArray, List.length_cons, List.length_nil, Nat.reduceAdd, Nat.reduceSub, Array.replicate_succ, Array.replicate_zero, List.push_toArray, List.append_toArray, List.nil_append, List.cons_append]
  gi_wp2_with (refine ⟨trivial, ?_⟩; gi_at_call 68; refine (callsIn_wide.2 (sides_any _ _ _ _)).mono ?_; rintro e w' ⟨rfl, rfl⟩)
  have bS := (Boxed.new w 3 (.int .i64 0)).alloc (.cells #[.slice (some ⟨b, off, none⟩) r.length cap] 27)
  have bR := Boxed.new (w.alloc (.cells #[.int .i64 0] 3)) 27 (.slice (some ⟨b, off, none⟩) r.length cap)
  simp only [World.size_alloc] at bR
  have hB0 : Below w.heap.size w ((w.alloc (.cells #[.int .i64 0] 3)).alloc (.cells #[.slice (some ⟨b, off, none⟩) r.length cap] 27)) := ((Below.refl _ w).alloc (Nat.le_refl _) _).alloc (by simp) _
  have hsz : ((w.alloc (.cells #[.int .i64 0] 3)).alloc (.cells #[.slice (some ⟨b, off, none⟩) r.length cap] 27)).heap.size = w.heap.size + 2 := by simp
  obtain ⟨W0, hW0⟩ : ∃ W0, (w.alloc (.cells #[.int .i64 0] 3)).alloc (.cells #[.slice (some ⟨b, off, none⟩) r.length cap] 27) = W0 := ⟨_, rfl⟩
  rw [hW0] at bS bR hB0 hsz ⊢
  clear hW0
  refine wpIn_rangeFunc_ownH rfl (by decide) (gf := 83) (lb := #[.pointer (some ⟨w.heap.size + 1, 0, none⟩)]) rfl trivial (enters_of Try.func83 (by kernel_rfl) rfl)
    (sides_stops 3 (by decide) (w.heap.size + 1) w.heap.size b off cap r hr hlen W0 (by omega) hbw hB0.size bR.cell (fun i hi => (HC.out i hi).below hB0 hbw)) (fun h k => h.trans k) (KpB.bk hB0.size (by omega)) (Below.refl _ _) (fun _ => rfl)
    (fun pre W => Boxed W w.heap.size 3 (.int .i64 (sumO partS pre)) ∧ Below w.heap.size W0 W)
    (fun _ _ _ => False)
    (OwnFrom.and (Own.from (boxed_own _ _ _) _) (ownFrom_below hB0.size hB0.size))
    (fun _ _ _ _ _ hs _ _ => hs)
    ⟨bS, Below.refl _ _⟩
    (fun x a' W => ∃ Bx, w.heap.size + 1 < Bx ∧ SdAt W Bx x.1 ∧ a' = { tmps := #[.slice (some ⟨b, off, none⟩) r.length cap, undef, .int .i64 0, .pointer (some ⟨w.heap.size, 0, none⟩), .pointer (some ⟨Bx, 0, none⟩), .slice (some ⟨b, off, none⟩) r.length cap, .func (.func 83) #[] #[.pointer (some ⟨w.heap.size + 1, 0, none⟩)], .agg #[.int .i64 x.1.1.1, .int .i64 x.1.1.2, .int .i64 x.1.2.1, .int .i64 x.1.2.2],
        undef, undef, undef, undef, undef, undef, undef, undef, undef, undef, undef, undef, undef, undef, undef, undef, undef, undef], defers := [] })
    (fun x a' _ X Y row hs hg hr => by obtain ⟨Bx, h1, h2, h3⟩ := hs; exact ⟨Bx, h1, sd_own Bx (fun (_ : Unit) => x.1) () X Y row h2 hg (fun r e => (hr r e).2), h3⟩)
    ?assign ?body ?done ?stop
  case assign =>
    rintro l pre x W K ⟨bS1, hB1⟩ hK
    gi_wp2
    have hz := hB1.size
    exact hK _ _ ((KeepsOthers.alloc _ _).from _) ((KpB.refl _ _ _).alloc (by omega) (by omega) _) ⟨bS1.alloc _, hB1.alloc (by omega) _⟩ ⟨W.heap.size, by omega, SdAt.new W x.1, rfl⟩
  case body =>
    rintro l pre x a' W hl - ⟨bS1, hB1⟩ ⟨Bx, hBx, bX, rfl⟩ hlt
    have hz := hB1.size
    obtain ⟨f0, f1, f2, f3⟩ := bX.facts
    have hc := bS1.cell
    have hf := bS1.frozen
    have hsum : sumO partS (pre ++ [x]) = sumO partS pre + (x.1.1.1 * x.1.2.2 - x.1.2.1 * x.1.1.2) := sumO_snoc partS pre x
    obtain ⟨s1, s2⟩ := sumO_part pre
    have HS2 := Lib.hid (show Boxed (W.setCell ⟨w.heap.size, 0, none⟩ (.int .i64 (sumO partS pre + (x.1.1.1 * x.1.2.2 - x.1.2.1 * x.1.1.2)))) w.heap.size 3 (.int .i64 (sumO partS (pre ++ [x]))) from by rw [hsum]; exact bS1.set _)
    obtain ⟨⟨⟨a1, a2⟩, a3, a4⟩, ⟨b1, b2⟩, b3, b4⟩ := x.2
    clear hsum bX
    generalize x.1.1.1 = ax at *
    generalize x.1.1.2 = ay at *
    generalize x.1.2.1 = bx at *
    generalize x.1.2.2 = bz at *
    have h1 := mul_bd (a := ax) (b := bz) (m := 32767) (k := 32767) (by omega) a2 (by omega) b4 (by decide) (by decide)
    have h2 := mul_bd (a := bx) (b := ay) (m := 32767) (k := 32767) (by omega) b2 (by omega) a4 (by decide) (by decide)
    have h3 := Int.mul_nonneg a1 b3
    have h4 := Int.mul_nonneg b1 a3
    have hp : (pre.length : Int) < 1000 := by omega
    generalize sumO partS pre = s at *
    gi_wp2
    exact ⟨(KeepsOthers.setCell _ _ _).from _, KpB.set (Nat.le_refl _) (by omega) (by omega) _, HS2.out, hB1.setCell (p := ⟨w.heap.size, 0, none⟩) (Nat.le_refl _) _⟩
  case done =>
    rintro D ys W hD rfl ⟨bS1, hB1⟩ hK
    have hc := bS1.cell
    have hz := hB1.size
    gi_wp2
    refine ⟨by simp, .inl ⟨_, _, rfl, run_takeDeferred hK, ?_⟩⟩
    refine ⟨_, results_tmp rfl _ _ _, ?_, (hB0.trans (hB1.mono (Nat.le_refl _))).trans (belowK_b (w := w) (Nat.le_refl _) W D _ _ (by omega) hK rfl rfl)⟩
    unfold areaS
    rw [← oSides_val hr]
    rfl
  case stop =>
    rintro D c pre W _ _ h _
    exact h.elim
end Go.Proofs.Ytohkmkkcblbemaa.Ge
