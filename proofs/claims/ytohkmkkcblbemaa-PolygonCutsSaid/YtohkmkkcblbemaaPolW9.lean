/- Walks over package polygon: does a side of a ring cross one of another ring? -/
import Derived.Test.YtohkmkkcblbemaaPolW8
namespace Go.Proofs.Ytohkmkkcblbemaa.Ge
set_option linter.unusedVariables false
set_option linter.unusedSimpArgs false
open Go.RowKit Go.Shelf
open Go.Proofs.Ytohkmkkcblbemaa.Fr (Two)
attribute [local go_sem] Oper.semAt_some

theorem ownFrom_kpb {β : Type} {n₀ B B' : Nat} {w₀ : World} (hn : n₀ ≤ w₀.heap.size) (hB' : n₀ ≤ B') (hB : B < B') (hB0 : B < w₀.heap.size) : OwnFrom B' (fun (_ : β) W => KpB n₀ B w₀ W) := fun s X Y row hs hg hr =>
  ⟨(ownFrom_below (β := β) hn hB') s X Y row hs.below hg hr, (hg.block B (Nat.lt_of_lt_of_le hB0 hs.below.size) (fun e => by have := (hr B e.symm).1; omega)).trans hs.box⟩
/-- does no side of these cross one of a ring? -/
def noneX (rb : List Pt) (pre : List OSd) : Prop := ∀ x ∈ pre, ∀ t ∈ sidesL rb, crossS x.1 t ≠ 2
theorem crossing_yes {ra rb : List Pt} (ha : onL ra) {k : Nat} (hk : k ≤ ra.length) (h : ∃ x ∈ oUpto ra k, ∃ t ∈ sidesL rb, crossS x.1 t = 2) : crossingB ra rb = true := by
  obtain ⟨x, hx, t, ht, e⟩ := h
  unfold crossingB
  exact List.any_eq_true.2 ⟨x.1, oUpto_mem ha hk hx, List.any_eq_true.2 ⟨t, ht, by rw [e]; rfl⟩⟩
theorem crossing_no {ra rb : List Pt} (ha : onL ra) (h : noneX rb (oSides ra)) : crossingB ra rb = false := by
  rw [Bool.eq_false_iff]
  intro k
  unfold crossingB at k
  obtain ⟨s, hs, k⟩ := List.any_eq_true.1 k
  obtain ⟨t, ht, k⟩ := List.any_eq_true.1 k
  rw [← oSides_val ha] at hs
  obtain ⟨x, hx, rfl⟩ := List.mem_map.1 hs
  exact h x hx t ht (by simpa using k)

set_option maxRecDepth 100000 in
set_option maxHeartbeats 8000000 in
theorem crossing_any (va vb : Value) (ra rb : List Pt) (ha : onL ra) (hb : onL rb) (hla : 1 ≤ ra.length ∧ ra.length ≤ 1000) (hlb : 1 ≤ rb.length ∧ rb.length ≤ 1000) (w : World) (hva : Ring w va ra) (hvb : Ring w vb rb) :
    Calls Try.prog 62 #[va, vb] w fun e w' => e = .returned (.bool (crossingB ra rb)) ∧ Below w.heap.size w w' := by
  obtain ⟨ba, oa, ca, rfl, hba, hca⟩ := hva
  obtain ⟨bb, ob, cb, rfl, hbb, hcb⟩ := hvb
  have HCA := Lib.hid hca
  have HCB := Lib.hid (fun (w' : World) (h : Below w.heap.size w w') i (hi : i < rb.length) => (hcb i hi).below h hbb)
  clear hca hcb
  refine (callsIn_wide (n := 8)).1 ?_
  refine callsIn_of_wp_marks Try.func62 rfl trivial ?_ rfl
  simp only [Try.ntmps62, List.size_toArray, List.length_cons, List.length_nil, Nat.reduceAdd, Nat.reduceSub, Array.replicate_succ, Array.replicate_zero, List.push_toArray, List.append_toArray, List.nil_append, List.cons_append]
  gi_wp2_with (refine ⟨trivial, ?_⟩; gi_at_call 68; refine (callsIn_wide.2 (sides_any _ _ _ _)).mono ?_; rintro e w' ⟨rfl, rfl⟩)
  have bB := ((Boxed.new w 27 (.slice (some ⟨bb, ob, none⟩) rb.length cb)).alloc (.cells #[.bool false] 4)).alloc (.cells #[.slice (some ⟨ba, oa, none⟩) ra.length ca] 27)
  have bR := (Boxed.new (w.alloc (.cells #[.slice (some ⟨bb, ob, none⟩) rb.length cb] 27)) 4 (.bool false)).alloc (.cells #[.slice (some ⟨ba, oa, none⟩) ra.length ca] 27)
  have bA := Boxed.new ((w.alloc (.cells #[.slice (some ⟨bb, ob, none⟩) rb.length cb] 27)).alloc (.cells #[.bool false] 4)) 27 (.slice (some ⟨ba, oa, none⟩) ra.length ca)
  simp only [World.size_alloc] at bR bA
  have hB0 : Below w.heap.size w (((w.alloc (.cells #[.slice (some ⟨bb, ob, none⟩) rb.length cb] 27)).alloc (.cells #[.bool false] 4)).alloc (.cells #[.slice (some ⟨ba, oa, none⟩) ra.length ca] 27)) := (((Below.refl _ w).alloc (Nat.le_refl _) _).alloc (by simp) _).alloc (by simp; omega) _
  have hsz : (((w.alloc (.cells #[.slice (some ⟨bb, ob, none⟩) rb.length cb] 27)).alloc (.cells #[.bool false] 4)).alloc (.cells #[.slice (some ⟨ba, oa, none⟩) ra.length ca] 27)).heap.size = w.heap.size + 3 := by simp
  obtain ⟨W0, hW0⟩ : ∃ W0, ((w.alloc (.cells #[.slice (some ⟨bb, ob, none⟩) rb.length cb] 27)).alloc (.cells #[.bool false] 4)).alloc (.cells #[.slice (some ⟨ba, oa, none⟩) ra.length ca] 27) = W0 := ⟨_, rfl⟩
  rw [hW0] at bB bR bA hB0 hsz ⊢
  clear hW0
  refine wpIn_rangeFunc_ownH rfl (by decide) (gf := 83) (lb := #[.pointer (some ⟨w.heap.size + 1 + 1, 0, none⟩)]) rfl trivial (enters_of Try.func83 (by kernel_rfl) rfl)
    (sides_stops 7 (by decide) (w.heap.size + 1 + 1) w.heap.size ba oa ca ra ha hla W0 (by omega) hba hB0.size bA.cell (fun i hi => (HCA.out i hi).below hB0 hba)) (fun h k => h.trans k) (KpB.bk hB0.size (by omega)) (Below.refl _ _) (fun _ => rfl)
    (fun pre W => ((noneX rb pre ∧ Boxed W (w.heap.size + 1) 4 (.bool false)) ∧ Boxed W w.heap.size 27 (.slice (some ⟨bb, ob, none⟩) rb.length cb)) ∧ Below w.heap.size W0 W)
    (fun c pre W => ((c = .ret ∧ ∃ x ∈ pre, ∃ t ∈ sidesL rb, crossS x.1 t = 2) ∧ Boxed W (w.heap.size + 1) 4 (.bool true)) ∧ Below w.heap.size W0 W)
    (OwnFrom.and (OwnFrom.and (OwnFrom.and (ownFrom_pure _ _) (Own.from (boxed_own _ _ _) _)) (Own.from (boxed_own _ _ _) _)) (ownFrom_below hB0.size hB0.size))
    (fun c => OwnFrom.and (OwnFrom.and (ownFrom_pure _ _) (Own.from (boxed_own _ _ _) _)) (ownFrom_below hB0.size hB0.size))
    ⟨⟨⟨fun x hx => (by cases hx), bR⟩, bB⟩, Below.refl _ _⟩
    (fun x a' W => ∃ Bx, w.heap.size + 1 + 1 < Bx ∧ SdAt W Bx x.1 ∧ a' = { tmps := #[.slice (some ⟨ba, oa, none⟩) ra.length ca, .slice (some ⟨bb, ob, none⟩) rb.length cb, undef, .pointer (some ⟨w.heap.size, 0, none⟩), .pointer (some ⟨w.heap.size + 1, 0, none⟩), .pointer (some ⟨Bx, 0, none⟩), undef, .slice (some ⟨ba, oa, none⟩) ra.length ca, .func (.func 83) #[] #[.pointer (some ⟨w.heap.size + 1 + 1, 0, none⟩)], .agg #[.int .i64 x.1.1.1, .int .i64 x.1.1.2, .int .i64 x.1.2.1, .int .i64 x.1.2.2], undef, undef, undef, undef, undef, undef, undef], defers := [] })
    (fun x a' _ X Y row hs hg hr => by obtain ⟨Bx, h1, h2, h3⟩ := hs; exact ⟨Bx, h1, sd_own Bx (fun (_ : Unit) => x.1) () X Y row h2 hg (fun r e => (hr r e).2), h3⟩)
    ?assign ?body ?done ?stop
  case assign =>
    rintro l pre x W K ⟨⟨⟨hno, bR1⟩, bB1⟩, hB1⟩ hK
    gi_wp2
    have hz := hB1.size
    exact hK _ _ ((KeepsOthers.alloc _ _).from _) ((KpB.refl _ _ _).alloc (by omega) (by omega) _) ⟨⟨⟨hno, bR1.alloc _⟩, bB1.alloc _⟩, hB1.alloc (by omega) _⟩ ⟨W.heap.size, by omega, SdAt.new W x.1, rfl⟩
  case body =>
    rintro l pre x a' W hl ⟨rr, hrr⟩ ⟨⟨⟨hno, bR1⟩, bB1⟩, hB1⟩ ⟨Bx, hBx, bX, rfl⟩ hlt
    have cB := bB1.cell
    have hz := hB1.size
    have hlx := bX.lt
    gi_wp2_with (refine ⟨trivial, ?_⟩; gi_at_call 68; refine (CallsIn.inRound l (callsIn_wide.2 (sides_any _ _ _ _))).mono ?_; rintro e w' ⟨rfl, rfl⟩)
    have bN := Boxed.new W 27 (.slice (some ⟨bb, ob, none⟩) rb.length cb)
    have hr' : (W.alloc (.cells #[.slice (some ⟨bb, ob, none⟩) rb.length cb] 27)).heap[l]? = some (.loop rr) := (Below.heap_alloc W _ l (Array.getElem?_eq_some_iff.1 hrr).1).trans hrr
    have hzN : (W.alloc (.cells #[.slice (some ⟨bb, ob, none⟩) rb.length cb] 27)).heap.size = W.heap.size + 1 := by simp
    have hBN := hB1.alloc (show w.heap.size ≤ W.heap.size by omega) (.cells #[.slice (some ⟨bb, ob, none⟩) rb.length cb] 27)
    refine wpIn_rangeFunc_ownN (l₀ := l) (r₀ := rr) rfl hr' (by decide) (gf := 83) (lb := #[.pointer (some ⟨W.heap.size, 0, none⟩)]) rfl trivial (enters_of Try.func83 (by kernel_rfl) rfl)
      ((sides_stops 5 (by decide) W.heap.size w.heap.size bb ob cb rb hb hlb _ (by omega) hbb (by omega) bN.cell (fun i hi => HCB.out _ (hB0.trans hBN) i hi)).inRound l) (fun h k => h.trans k) (KpB.bk (by omega) (by omega)) (Below.refl _ _) (fun _ => rfl)
      (fun pre' W' => (((∀ y ∈ pre', crossS x.1 y.1 ≠ 2) ∧ Boxed W' (w.heap.size + 1) 4 (.bool false)) ∧ SdAt W' Bx x.1 ∧ Boxed W' w.heap.size 27 (.slice (some ⟨bb, ob, none⟩) rb.length cb) ∧ Boxed W' W.heap.size 27 (.slice (some ⟨bb, ob, none⟩) rb.length cb)) ∧ (KpB w.heap.size (w.heap.size + 1 + 1) W W' ∧ KeepsFrom W0.heap.size W W'))
      (fun c pre' W' => ((c = .ret ∧ ∃ y ∈ pre', crossS x.1 y.1 = 2) ∧ Boxed W' (w.heap.size + 1) 4 (.bool true)) ∧ (KpB w.heap.size (w.heap.size + 1 + 1) W W' ∧ KeepsFrom W0.heap.size W W'))
      (OwnFrom.and (OwnFrom.and (OwnFrom.and (ownFrom_pure _ _) (Own.from (boxed_own _ _ _) _)) (OwnFrom.and (Own.from (sd_own _ _) _) (OwnFrom.and (Own.from (boxed_own _ _ _) _) (Own.from (boxed_own _ _ _) _)))) (OwnFrom.and (ownFrom_kpb (by omega) (by omega) (by omega) (by omega)) (ownFrom_keepsFrom (by omega))))
      (fun c => OwnFrom.and (OwnFrom.and (ownFrom_pure _ _) (Own.from (boxed_own _ _ _) _)) (OwnFrom.and (ownFrom_kpb (by omega) (by omega) (by omega) (by omega)) (ownFrom_keepsFrom (by omega))))
      ⟨⟨⟨fun y hy => (by cases hy), bR1.alloc _⟩, bX.alloc _, bB1.alloc _, bN⟩, (KpB.refl _ _ _).alloc (by omega) (by omega) _, (KeepsOthers.alloc _ _).from _⟩
      (fun y a'' W' => ∃ By, w.heap.size + 1 + 1 < By ∧ SdAt W' By y.1 ∧ a'' = { tmps := #[.slice (some ⟨ba, oa, none⟩) ra.length ca, .slice (some ⟨bb, ob, none⟩) rb.length cb, undef, .pointer (some ⟨w.heap.size, 0, none⟩), .pointer (some ⟨w.heap.size + 1, 0, none⟩), .pointer (some ⟨Bx, 0, none⟩), .pointer (some ⟨By, 0, none⟩), .slice (some ⟨ba, oa, none⟩) ra.length ca, .func (.func 83) #[] #[.pointer (some ⟨w.heap.size + 1 + 1, 0, none⟩)], .agg #[.int .i64 x.1.1.1, .int .i64 x.1.1.2, .int .i64 x.1.2.1, .int .i64 x.1.2.2], .slice (some ⟨bb, ob, none⟩) rb.length cb, .func (.func 83) #[] #[.pointer (some ⟨W.heap.size, 0, none⟩)], .agg #[.int .i64 y.1.1.1, .int .i64 y.1.1.2, .int .i64 y.1.2.1, .int .i64 y.1.2.2], undef, undef, undef, undef], defers := [] })
      (fun y a'' _ X Y row hs hg hr => by obtain ⟨By, h1, h2, h3⟩ := hs; exact ⟨By, h1, sd_own By (fun (_ : Unit) => y.1) () X Y row h2 hg (fun r e => (hr r e).2), h3⟩)
      ?assign2 ?body2 ?done2 ?stop2
    case assign2 =>
      rintro l2 pre' y W' K ⟨⟨⟨hq, bR2⟩, bX2, bB2, bN2⟩, hKB, hKF⟩ hK
      gi_wp2
      have hz2 := hKB.below.size
      have hn2 := bN2.lt
      exact hK _ _ ((KeepsOthers.alloc _ _).from _) ((KpB.refl _ _ _).alloc (by omega) (by omega) _) ⟨⟨⟨hq, bR2.alloc _⟩, bX2.alloc _, bB2.alloc _, bN2.alloc _⟩, hKB.alloc (by omega) (by omega) _, hKF.trans ((KeepsOthers.alloc _ _).from _)⟩ ⟨W'.heap.size, by omega, SdAt.new W' y.1, rfl⟩
    case body2 =>
      rintro l2 pre' y a'' W' _ _ ⟨⟨⟨hq, bR2⟩, bX2, bB2, bN2⟩, hKB, hKF⟩ ⟨By, hBy, bY, rfl⟩ _
      have hz2 := hKB.below.size
      have hn2 := bN2.lt
      obtain ⟨f0, f1, f2, f3⟩ := bX2.facts
      obtain ⟨g0, g1, g2, g3⟩ := bY.facts
      have HC := Lib.hid (fun w => pcross_any x.1.1.1 x.1.1.2 x.1.2.1 x.1.2.2 y.1.1.1 y.1.1.2 y.1.2.1 y.1.2.2 w)
      have hcv : crossV x.1.1.1 x.1.1.2 x.1.2.1 x.1.2.2 y.1.1.1 y.1.1.2 y.1.2.1 y.1.2.2 = crossS x.1 y.1 := rfl
      rw [hcv] at HC
      clear hcv
      by_cases hc2 : crossS x.1 y.1 = 2
      · have e1 : (crossS x.1 y.1 == 2) = true := by simpa using hc2
        gi_wp2
        refine ⟨trivial, (CallsIn.inRound l2 (callsIn_wide.2 (HC.out _))).mono ?_⟩
        rintro e w1 ⟨rfl, hb1⟩
        have q0 := boxed_below bR2 hb1 bR2.lt
        have qc := q0.cell
        have qf := q0.frozen
        have hz3 := hb1.size
        gi_wp2
        exact ⟨((keeps_below hb1).trans (KeepsOthers.setCell _ _ _)).from _, ⟨⟨rfl, y, by simp, hc2⟩, q0.set _⟩, hKB.trans ((KpB.of_below hb1 (by omega) (by omega)).trans (KpB.set (by omega) (by omega) (by omega) _)), hKF.trans (((keeps_below hb1).trans (KeepsOthers.setCell _ _ _)).from _)⟩
      · have e1 : (crossS x.1 y.1 == 2) = false := by simpa using hc2
        gi_wp2
        refine ⟨trivial, (CallsIn.inRound l2 (callsIn_wide.2 (HC.out _))).mono ?_⟩
        rintro e w1 ⟨rfl, hb1⟩
        have hz3 := hb1.size
        gi_wp2
        exact ⟨(keeps_below hb1).from _, KpB.of_below hb1 (by omega) (by omega), ⟨⟨fun z hz => (List.mem_append.1 hz).elim (hq z) (fun e => by rw [List.mem_singleton.1 e]; exact hc2), boxed_below bR2 hb1 bR2.lt⟩, bX2.below hb1 bX2.lt, boxed_below bB2 hb1 bB2.lt, boxed_below bN2 hb1 bN2.lt⟩, hKB.trans (KpB.of_below hb1 (by omega) (by omega)), hKF.trans ((keeps_below hb1).from _)⟩
    case done2 =>
      rintro ys' W' rfl ⟨⟨⟨hq, bR2⟩, bX2, bB2, bN2⟩, hKB, hKF⟩
      gi_wp2
      refine ⟨hKF, hKB, ⟨⟨fun z hz => (List.mem_append.1 hz).elim (hno z) (fun e t ht => ?_), bR2⟩, bB2⟩, hB1.trans hKB.below⟩
      rw [List.mem_singleton.1 e]
      rw [← oSides_val hb] at ht
      obtain ⟨y, hy, rfl⟩ := List.mem_map.1 ht
      exact hq y hy
    case stop2 =>
      rintro c pre' W' ⟨k, hk, rfl⟩ ⟨⟨⟨rfl, y, hy, hc2⟩, bR2⟩, hKB, hKF⟩
      gi_wp2
      exact ⟨hKF, ⟨⟨rfl, x, by simp, y.1, oUpto_mem hb hk hy, hc2⟩, bR2⟩, hB1.trans hKB.below⟩
  case done =>
    rintro D zs W hD rfl ⟨⟨⟨hno, bR1⟩, bB1⟩, hB1⟩ hK
    have cR := bR1.cell
    have fR := bR1.frozen
    have hz := hB1.size
    have hX := Lib.hid (crossing_no ha hno)
    gi_wp2
    have hK' := (KeepsOthers.setCell W ⟨w.heap.size + 1, 0, none⟩ (.bool false)).same D _ hK rfl
    refine ⟨by simp, .inl ⟨_, _, rfl, run_takeDeferred hK', ?_⟩⟩
    have hc5 := cell_kept (bR1.set (.bool false)).cell (grownBy_putObj' _ D (.deferred none)) (fun r e => by cases e; exact ⟨_, hK', rfl⟩)
    refine ⟨.bool false, ?_, by rw [hX.out], (hB0.trans (hB1.setCell (p := ⟨w.heap.size + 1, 0, none⟩) (Nat.le_succ _) _)).trans (belowK_b (w := w) (Nat.le_refl _) _ D _ _ (by omega) hK' rfl rfl)⟩
    simp [results, Try.f62, go_sem, hc5]
  case stop =>
    rintro D c pre W hD ⟨k, hk, rfl⟩ ⟨⟨⟨rfl, hx⟩, bR1⟩, hB1⟩ hK
    have hX := Lib.hid (crossing_yes ha hk hx)
    gi_wp2
    refine ⟨by simp, .inl ⟨_, _, rfl, run_takeDeferred hK, ?_⟩⟩
    have hc5 := cell_kept bR1.cell (grownBy_putObj' _ D (.deferred none)) (fun r e => by cases e; exact ⟨_, hK, rfl⟩)
    refine ⟨.bool true, ?_, by rw [hX.out], (hB0.trans hB1).trans (belowK_b (w := w) (Nat.le_refl _) W D _ _ (by omega) hK rfl rfl)⟩
    simp [results, Try.f62, go_sem, hc5]
end Go.Proofs.Ytohkmkkcblbemaa.Ge
