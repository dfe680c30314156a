/- Walks over package line: Locate. -/
import Derived.Test.YtcpcmlonbpccnaaBdA17
import Derived.Test.YtcpcmlonbpccnaaBdA14
import Derived.Laws.EntriesVeiled
import Derived.Test.YtcpcmlonbpccnaaBdA6
namespace Go.Proofs.Ytcpcmlonbpccnaa.Ge
set_option linter.unusedVariables false
set_option linter.unusedSimpArgs false
open Go.RowKit Go.Shelf
open Go.Proofs.Ytcpcmlonbpccnaa.Fr
attribute [local go_sem] Oper.semAt_some

theorem six_others (w : World) (B : Nat) (x : Sp) : KeepsOthers w (sixW w B x) := by
  unfold sixW
  exact (((((KeepsOthers.setCell _ _ _).trans (KeepsOthers.setCell _ _ _)).trans (KeepsOthers.setCell _ _ _)).trans (KeepsOthers.setCell _ _ _)).trans (KeepsOthers.setCell _ _ _)).trans (KeepsOthers.setCell _ _ _)
theorem KpB.kept3 {n₀ B a b c : Nat} {X Y : World} (h : Kept3 a b c X Y) (ha : n₀ ≤ a) (hb : n₀ ≤ b) (hc : n₀ ≤ c) (hn : n₀ ≤ X.heap.size) (hB : B < X.heap.size) (h1 : B ≠ a) (h2 : B ≠ b) (h3 : B ≠ c) : KpB n₀ B X Y :=
  ⟨h.to_below ha hb hc hn, h.block B hB h1 h2 h3⟩
theorem KpB.six {n₀ B C : Nat} (X : World) (hC : n₀ ≤ C) (hB : B ≠ C) (x : Sp) : KpB n₀ B X (sixW X C x) := ⟨(six_below X C x).mono hC, six_heap X C x B hB⟩
theorem best_snoc (p : Pt) (pre : List Sg) (x : Sg) : bestS (stOf p (pre ++ [x])) = (kp (stOf p pre) (spotW p x) (spotW p x).2.2.2).1 := by rw [stOf_snoc]; rfl

set_option maxRecDepth 100000 in
set_option maxHeartbeats 4000000 in
theorem locate_in (b off cap : Nat) (r : List Pt) (p : Pt) (hv : lineB r = true) (hp : onP p.1 p.2) (w : World) (hbw : b < w.heap.size) (hcells : ∀ i (h : i < r.length), Cells2 w b (off + i * 2) r[i]) :
    Calls Try.prog 14 #[.slice (some ⟨b, off, none⟩) r.length cap, .agg #[.int .i64 p.1, .int .i64 p.2]] w fun e w' => e = .returned (.tuple #[spV (locS r p), .int .i64 (locE r p)]) ∧ Below w.heap.size w w' := by
  obtain ⟨h2, h40⟩ := ((line_iff r).1 hv).1
  have HC := Lib.hid hcells
  have HV := Lib.hid (fun (w' : World) (hb : Below w.heap.size w w') => lvalid_long b off cap r h2 h40 w' (Nat.lt_of_lt_of_le hbw hb.size) (fun i hi => (hcells i hi).below hb hbw))
  rw [hv] at HV
  have HO := Lib.hid (fun w => on_yes p.1 p.2 hp w)
  clear hcells
  refine (callsIn_wide (n := 4)).1 ?_
  refine callsIn_of_wp_marks Try.func14 rfl trivial ?_ rfl
  simp only [Try.ntmps14, List.size_toArray, List.length_cons, List.length_nil, Nat.reduceAdd, Nat.reduceSub, Array.replicate_succ, Array.replicate_zero, List.push_toArray, List.append_toArray, List.nil_append, List.cons_append]
  have hb0 : Below w.heap.size w ((w.alloc (.cells #[.int .i64 p.1, .int .i64 p.2] 24)).alloc (.cells #[.int .i64 0, .int .i64 0, .int .i64 0, .int .i64 0, .int .i64 0, .int .i64 0] 28)) := ((Below.refl _ w).alloc (Nat.le_refl _) _).alloc (by simp) _
  have gp : Two ((w.alloc (.cells #[.int .i64 p.1, .int .i64 p.2] 24)).alloc (.cells #[.int .i64 0, .int .i64 0, .int .i64 0, .int .i64 0, .int .i64 0, .int .i64 0] 28)) w.heap.size 24 (.int .i64 p.1) (.int .i64 p.2) := (Two.new w _ _ _).alloc _
  have gr : SpAt ((w.alloc (.cells #[.int .i64 p.1, .int .i64 p.2] 24)).alloc (.cells #[.int .i64 0, .int .i64 0, .int .i64 0, .int .i64 0, .int .i64 0, .int .i64 0] 28)) (w.heap.size + 1) spZ := by
    have h := SpAt.new (w.alloc (.cells #[.int .i64 p.1, .int .i64 p.2] 24)) spZ
    simp only [World.size_alloc] at h
    exact h
  have hsz : ((w.alloc (.cells #[.int .i64 p.1, .int .i64 p.2] 24)).alloc (.cells #[.int .i64 0, .int .i64 0, .int .i64 0, .int .i64 0, .int .i64 0, .int .i64 0] 28)).heap.size = w.heap.size + 2 := by simp
  gi_wp2_with fail
  refine ⟨trivial, (callsIn_wide.2 (HV.out _ hb0)).mono ?_⟩
  rintro e w1 ⟨rfl, hb1⟩
  have gp1 := gp.below hb1 gp.lt
  have gr1 := gr.below hb1 gr.lt
  have hb2 := hb0.trans (hb1.mono hb0.size)
  have hz1 := hb1.size
  rw [hsz] at hz1
  clear gp gr hb0 hb1 hsz
  obtain ⟨a1, a2, a3, a4⟩ := gp1.facts
  gi_wp2_with fail
  refine ⟨trivial, (callsIn_wide.2 (HO.out _)).mono ?_⟩
  rintro e w2 ⟨rfl, hb3⟩
  have gp2 := gp1.below hb3 gp1.lt
  have gr2 := gr1.below hb3 gr1.lt
  have hb4 := hb2.trans (hb3.mono hb2.size)
  have hz2 := Nat.le_trans hz1 hb3.size
  clear gp1 gr1 hb2 hb3 a1 a2 a3 a4 hz1
  have gs : SpAt (w2.alloc (.cells #[.int .i64 0, .int .i64 0, .int .i64 0, .int .i64 0, .int .i64 0, .int .i64 0] 28)) w2.heap.size spZ := SpAt.new w2 spZ
  have gp3 := gp2.alloc (.cells #[.int .i64 0, .int .i64 0, .int .i64 0, .int .i64 0, .int .i64 0, .int .i64 0] 28)
  have gr3 := gr2.alloc (.cells #[.int .i64 0, .int .i64 0, .int .i64 0, .int .i64 0, .int .i64 0, .int .i64 0] 28)
  have hb5 := hb4.alloc hb4.size (.cells #[.int .i64 0, .int .i64 0, .int .i64 0, .int .i64 0, .int .i64 0, .int .i64 0] 28)
  have hsz : (w2.alloc (.cells #[.int .i64 0, .int .i64 0, .int .i64 0, .int .i64 0, .int .i64 0, .int .i64 0] 28)).heap.size = w2.heap.size + 1 := by simp
  have HKp := keeper_any (w2.alloc (.cells #[.int .i64 0, .int .i64 0, .int .i64 0, .int .i64 0, .int .i64 0, .int .i64 0] 28))
  simp only [World.size_alloc] at HKp
  gi_wp2_with fail
  refine ⟨trivial, (callsIn_wide.2 HKp).mono ?_⟩
  rintro e w3 ⟨rfl, hk3, hb6, hz3⟩
  have HZ3 := Lib.hid hz3
  have gs3 := gs.below hb6 (by omega)
  have gp4 := gp3.below hb6 (by omega)
  have gr4 := gr3.below hb6 (by omega)
  have hb7 : Below w.heap.size w w3 := hb5.trans (hb6.mono (by omega))
  clear gs gp3 gr3 hb5 hb6 gp2 gr2 hb4 hsz hz3
  gi_wp2_with (refine ⟨trivial, ?_⟩; gi_at_call 50; refine (callsIn_wide.2 (segs_any _ _ _ _)).mono ?_; rintro e w' ⟨rfl, rfl⟩)
  have gs5 := (gs3.alloc (.cells #[.func (.func 93) #[] #[.pointer (some ⟨w2.heap.size + 1 + 1, 0, none⟩), .pointer (some ⟨w2.heap.size + 1 + 1 + 1, 0, none⟩), .pointer (some ⟨w2.heap.size + 1, 0, none⟩)]] 63)).alloc (.cells #[.slice (some ⟨b, off, none⟩) r.length cap] 22)
  have gp5 := (gp4.alloc (.cells #[.func (.func 93) #[] #[.pointer (some ⟨w2.heap.size + 1 + 1, 0, none⟩), .pointer (some ⟨w2.heap.size + 1 + 1 + 1, 0, none⟩), .pointer (some ⟨w2.heap.size + 1, 0, none⟩)]] 63)).alloc (.cells #[.slice (some ⟨b, off, none⟩) r.length cap] 22)
  have gr5 := (gr4.alloc (.cells #[.func (.func 93) #[] #[.pointer (some ⟨w2.heap.size + 1 + 1, 0, none⟩), .pointer (some ⟨w2.heap.size + 1 + 1 + 1, 0, none⟩), .pointer (some ⟨w2.heap.size + 1, 0, none⟩)]] 63)).alloc (.cells #[.slice (some ⟨b, off, none⟩) r.length cap] 22)
  have gk5 := hk3.below (N := w3.heap.size) (((Below.refl w3.heap.size w3).alloc (Nat.le_refl _) (.cells #[.func (.func 93) #[] #[.pointer (some ⟨w2.heap.size + 1 + 1, 0, none⟩), .pointer (some ⟨w2.heap.size + 1 + 1 + 1, 0, none⟩), .pointer (some ⟨w2.heap.size + 1, 0, none⟩)]] 63)).alloc (by simp) (.cells #[.slice (some ⟨b, off, none⟩) r.length cap] 22)) (by have := HZ3.out; omega) (by have := HZ3.out; omega) (by have := HZ3.out; omega)
  have gc5 := (Boxed.new w3 63 (.func (.func 93) #[] #[.pointer (some ⟨w2.heap.size + 1 + 1, 0, none⟩), .pointer (some ⟨w2.heap.size + 1 + 1 + 1, 0, none⟩), .pointer (some ⟨w2.heap.size + 1, 0, none⟩)])).alloc (.cells #[.slice (some ⟨b, off, none⟩) r.length cap] 22)
  have bR := Boxed.new (w3.alloc (.cells #[.func (.func 93) #[] #[.pointer (some ⟨w2.heap.size + 1 + 1, 0, none⟩), .pointer (some ⟨w2.heap.size + 1 + 1 + 1, 0, none⟩), .pointer (some ⟨w2.heap.size + 1, 0, none⟩)]] 63)) 22 (.slice (some ⟨b, off, none⟩) r.length cap)
  simp only [World.size_alloc] at bR
  have hB0 : Below w.heap.size w ((w3.alloc (.cells #[.func (.func 93) #[] #[.pointer (some ⟨w2.heap.size + 1 + 1, 0, none⟩), .pointer (some ⟨w2.heap.size + 1 + 1 + 1, 0, none⟩), .pointer (some ⟨w2.heap.size + 1, 0, none⟩)]] 63)).alloc (.cells #[.slice (some ⟨b, off, none⟩) r.length cap] 22)) := (hb7.alloc hb7.size _).alloc (by have := hb7.size; simp; omega) _
  have hsz : ((w3.alloc (.cells #[.func (.func 93) #[] #[.pointer (some ⟨w2.heap.size + 1 + 1, 0, none⟩), .pointer (some ⟨w2.heap.size + 1 + 1 + 1, 0, none⟩), .pointer (some ⟨w2.heap.size + 1, 0, none⟩)]] 63)).alloc (.cells #[.slice (some ⟨b, off, none⟩) r.length cap] 22)).heap.size = w3.heap.size + 2 := by simp
  obtain ⟨W0, hW0⟩ : ∃ W0, ((w3.alloc (.cells #[.func (.func 93) #[] #[.pointer (some ⟨w2.heap.size + 1 + 1, 0, none⟩), .pointer (some ⟨w2.heap.size + 1 + 1 + 1, 0, none⟩), .pointer (some ⟨w2.heap.size + 1, 0, none⟩)]] 63)).alloc (.cells #[.slice (some ⟨b, off, none⟩) r.length cap] 22)) = W0 := ⟨_, rfl⟩
  rw [hW0] at gs5 gp5 gr5 gk5 gc5 bR hB0 hsz ⊢
  clear hW0 gs3 gp4 gr4 hk3 hb7
  have hz3 := HZ3.out
  refine wpIn_rangeFunc_ownH rfl (by decide) (gf := 94) (lb := #[.pointer (some ⟨w3.heap.size + 1, 0, none⟩)]) rfl trivial (enters_of Try.func94 (by kernel_rfl) rfl)
    (segs_stops 3 (by decide) (w3.heap.size + 1) w.heap.size b off cap r (by omega) W0 (by omega) hbw hB0.size bR.cell (fun i hi => (HC.out i hi).below hB0 hbw)) (fun h k => h.trans k) (KpB.bk hB0.size (by omega)) (Below.refl _ _) (fun _ => rfl)
    (fun pre W => (((Two W w.heap.size 24 (.int .i64 p.1) (.int .i64 p.2) ∧ SpAt W (w.heap.size + 1) spZ) ∧ SpAt W w2.heap.size (bestS (stOf p pre)) ∧ KpSt W (w2.heap.size + 1) (w2.heap.size + 1 + 1) (w2.heap.size + 1 + 1 + 1) (stOf p pre)) ∧ Boxed W w3.heap.size 63 (.func (.func 93) #[] #[.pointer (some ⟨w2.heap.size + 1 + 1, 0, none⟩), .pointer (some ⟨w2.heap.size + 1 + 1 + 1, 0, none⟩), .pointer (some ⟨w2.heap.size + 1, 0, none⟩)])) ∧ Below w.heap.size W0 W)
    (fun _ _ _ => False)
    (OwnFrom.and (OwnFrom.and (OwnFrom.and (OwnFrom.and (Own.from (two_own _ _ _ _) _) (Own.from (sp_own _ _) _)) (OwnFrom.and (Own.from (sp_own _ _) _) (Own.from (kpst_own _ _ _ _) _))) (Own.from (boxed_own _ _ _) _)) (ownFrom_below hB0.size hB0.size))
    (fun _ _ _ _ _ hs _ _ => hs)
    ⟨⟨⟨⟨gp5, gr5⟩, gs5, gk5⟩, gc5⟩, Below.refl _ _⟩
    (fun x a' W => ∃ Bx, w3.heap.size + 1 < Bx ∧ SgAt W Bx x ∧ a' = { tmps := #[.slice (some ⟨b, off, none⟩) r.length cap, .agg #[.int .i64 p.1, .int .i64 p.2], undef, .pointer (some ⟨w.heap.size, 0, none⟩), .pointer (some ⟨w.heap.size + 1, 0, none⟩), .int .i64 0, .pointer (some ⟨w2.heap.size, 0, none⟩), .pointer (some ⟨w3.heap.size, 0, none⟩), .pointer (some ⟨Bx, 0, none⟩), undef, .slice (some ⟨b, off, none⟩) r.length cap, .bool true, .bool false, .bool false, .agg #[.int .i64 p.1, .int .i64 p.2], .bool true, .bool false, .bool false, undef, .func (.func 93) #[] #[.pointer (some ⟨w2.heap.size + 1 + 1, 0, none⟩), .pointer (some ⟨w2.heap.size + 1 + 1 + 1, 0, none⟩), .pointer (some ⟨w2.heap.size + 1, 0, none⟩)], .slice (some ⟨b, off, none⟩) r.length cap, .func (.func 94) #[] #[.pointer (some ⟨w3.heap.size + 1, 0, none⟩)], .agg #[.int .i64 (x.1 : Int), .int .i64 x.2.1.1, .int .i64 x.2.1.2, .int .i64 x.2.2.1, .int .i64 x.2.2.2],
        undef, undef, undef, undef, undef, undef, undef, undef, undef], defers := [] })
    (fun x a' _ X Y row hs hg hr => by obtain ⟨Bx, h1, h2, h3⟩ := hs; exact ⟨Bx, h1, sg_own Bx (fun (_ : Unit) => x) () X Y row h2 hg (fun r e => (hr r e).2), h3⟩)
    ?assign ?body ?done ?stop
  case assign =>
    rintro l pre x W K ⟨⟨⟨⟨jp, jr⟩, js, jk⟩, jc⟩, hB1⟩ hK
    clear hz3
    gi_wp2
    have hz3 := HZ3.out
    have hz := hB1.size
    have hba : Below W.heap.size W (W.alloc (.cells #[.int .i64 (x.1 : Int), .int .i64 x.2.1.1, .int .i64 x.2.1.2, .int .i64 x.2.2.1, .int .i64 x.2.2.2] 69)) := (Below.refl _ W).alloc (Nat.le_refl _) _
    exact hK _ _ ((KeepsOthers.alloc _ _).from _) ((KpB.refl _ _ _).alloc (by omega) (by omega) _) ⟨⟨⟨⟨jp.alloc _, jr.alloc _⟩, js.alloc _, jk.below hba jk.best.lt jk.least.lt jk.non.lt⟩, jc.alloc _⟩, hB1.alloc (by omega) _⟩ ⟨W.heap.size, by omega, SgAt.new W x, rfl⟩
  case body =>
    rintro l pre x a' W hl - ⟨⟨⟨⟨jp, jr⟩, js, jk⟩, jc⟩, hB1⟩ ⟨Bx, hBx, bX, rfl⟩ hlt
    have hz := hB1.size
    obtain ⟨f0, f1, f2, f3, f4⟩ := bX.facts
    obtain ⟨g0, g1, g2, g3⟩ := jp.facts
    have HS := Lib.hid (fun w => spot_any p x w)
    clear hz3
    gi_wp2
    refine ⟨trivial, (CallsIn.inRound l (callsIn_wide.2 (HS.out _))).mono ?_⟩
    rintro e w5 ⟨rfl, hb5⟩
    have HN := Lib.hid (best_snoc p pre x)
    have HM := Lib.hid (stOf_snoc p pre x)
    unfold spV
    obtain ⟨S, hS⟩ : ∃ S, spotW p x = S := ⟨_, rfl⟩
    rw [hS] at HN HM ⊢
    clear hS HS f0 f1 f2 f3 f4 g0 g1 g2 g3
    have jp5 := (jp.below hb5 jp.lt).alloc (.cells #[.int .i64 S.1, .int .i64 S.2.1.1, .int .i64 S.2.1.2, .int .i64 S.2.2.1, .int .i64 S.2.2.2.1, .int .i64 S.2.2.2.2] 28)
    have jr5 := (jr.below hb5 jr.lt).alloc (.cells #[.int .i64 S.1, .int .i64 S.2.1.1, .int .i64 S.2.1.2, .int .i64 S.2.2.1, .int .i64 S.2.2.2.1, .int .i64 S.2.2.2.2] 28)
    have js5 := (js.below hb5 js.lt).alloc (.cells #[.int .i64 S.1, .int .i64 S.2.1.1, .int .i64 S.2.1.2, .int .i64 S.2.2.1, .int .i64 S.2.2.2.1, .int .i64 S.2.2.2.2] 28)
    have hba : Below w5.heap.size w5 (w5.alloc (.cells #[.int .i64 S.1, .int .i64 S.2.1.1, .int .i64 S.2.1.2, .int .i64 S.2.2.1, .int .i64 S.2.2.2.1, .int .i64 S.2.2.2.2] 28)) := (Below.refl _ w5).alloc (Nat.le_refl _) _
    have jk5' := jk.below hb5 jk.best.lt jk.least.lt jk.non.lt
    have jk5 := jk5'.below hba jk5'.best.lt jk5'.least.lt jk5'.non.lt
    have jc5 := (boxed_below jc hb5 jc.lt).alloc (.cells #[.int .i64 S.1, .int .i64 S.2.1.1, .int .i64 S.2.1.2, .int .i64 S.2.2.1, .int .i64 S.2.2.2.1, .int .i64 S.2.2.2.2] 28)
    have jS := SpAt.new w5 S
    have hz5 := hb5.size
    have hba5 : Below W.heap.size W (w5.alloc (.cells #[.int .i64 S.1, .int .i64 S.2.1.1, .int .i64 S.2.1.2, .int .i64 S.2.2.1, .int .i64 S.2.2.2.1, .int .i64 S.2.2.2.2] 28)) := hb5.trans (hba.mono hz5)
    have hko : KeepsOthers W (w5.alloc (.cells #[.int .i64 S.1, .int .i64 S.2.1.1, .int .i64 S.2.1.2, .int .i64 S.2.2.1, .int .i64 S.2.2.2.1, .int .i64 S.2.2.2.2] 28)) := keeps_below hba5
    obtain ⟨⟨s0, s1, s2, s3, s4, s5⟩, -⟩ := jS.facts
    have qc := jc5.cell
    clear jk5'
    gi_wp2
    have HK := keep_any S S.2.2.2 (stOf p pre) (w2.heap.size + 1) (w2.heap.size + 1 + 1) (w2.heap.size + 1 + 1 + 1) (by omega) (by omega) (by omega) _ jk5
    unfold spV at HK
    refine ⟨trivial, (CallsIn.inRound l (callsIn_wide.2 HK)).mono ?_⟩
    rintro e w7 ⟨rfl, jk7, hk7⟩
    have hsz6 : (w5.alloc (.cells #[.int .i64 S.1, .int .i64 S.2.1.1, .int .i64 S.2.1.2, .int .i64 S.2.2.1, .int .i64 S.2.2.2.1, .int .i64 S.2.2.2.2] 28)).heap.size = w5.heap.size + 1 := by simp
    clear s0 s1 s2 s3 s4 s5 qc jS HK hba
    have hko7 := hko.trans (jk5.others hk7)
    have hz3 := HZ3.out
    have blk : ∀ k, k < w5.heap.size + 1 → k ≠ w2.heap.size + 1 → k ≠ w2.heap.size + 1 + 1 → k ≠ w2.heap.size + 1 + 1 + 1 → w7.heap[k]? = (w5.alloc (.cells #[.int .i64 S.1, .int .i64 S.2.1.1, .int .i64 S.2.1.2, .int .i64 S.2.2.1, .int .i64 S.2.2.2.1, .int .i64 S.2.2.2.2] 28)).heap[k]? := fun k hk h1 h2 h3 => hk7.block k (by rw [hsz6]; exact hk) h1 h2 h3
    have jp7 : Two w7 w.heap.size 24 (.int .i64 p.1) (.int .i64 p.2) := (blk _ (by omega) (by omega) (by omega) (by omega)).trans jp5
    have jr7 : SpAt w7 (w.heap.size + 1) spZ := (blk _ (by omega) (by omega) (by omega) (by omega)).trans jr5
    have js7 : SpAt w7 w2.heap.size (bestS (stOf p pre)) := (blk _ (by omega) (by omega) (by omega) (by omega)).trans js5
    have jc7 := (show Boxed w7 w3.heap.size _ _ from (blk _ (by omega) (by omega) (by omega) (by omega)).trans jc5)
    have hkb : KpB w.heap.size (w3.heap.size + 1) W w7 := (KpB.of_below hba5 (by omega) (by omega)).trans (KpB.kept3 hk7 (by omega) (by omega) (by omega) (by rw [hsz6]; omega) (by rw [hsz6]; omega) (by omega) (by omega) (by omega))
    have hB7 : Below w.heap.size W0 w7 := hB1.trans hkb.below
    rw [← HM.out] at jk7
    rw [← HN.out]
    clear blk hk7 hba5 hko jp5 jr5 js5 jk5 jc5 HN HM jk jp jr js jc bX
    obtain ⟨⟨s0, s1, s2, s3, s4, s5⟩, ⟨t0, t1, t2, t3, t4, t5⟩⟩ := js7.facts
    obtain ⟨R, hR⟩ : ∃ R, bestS (stOf p (pre ++ [x])) = R := ⟨_, rfl⟩
    rw [hR]
    have HR := Lib.hid hR
    clear hR
    clear hz3
    gi_wp2
    have hz3 := HZ3.out
    exact ⟨(hko7.trans (six_others w7 w2.heap.size R)).from _, hkb.trans (KpB.six w7 (by omega) (by omega) R),
      ⟨⟨⟨(six_heap w7 w2.heap.size R w.heap.size (by omega)).trans jp7, (six_heap w7 w2.heap.size R (w.heap.size + 1) (by omega)).trans jr7⟩, by rw [HR.out]; exact six_at js7 R, jk7.six (by omega) (by omega) (by omega) R⟩, (six_heap w7 w2.heap.size R w3.heap.size (by omega)).trans jc7⟩, hB7.trans ((six_below w7 w2.heap.size R).mono (by omega))⟩
  case done =>
    rintro D ys W hD rfl ⟨⟨⟨⟨jp, jr⟩, js, jk⟩, jc⟩, hB1⟩ hK
    have hz := hB1.size
    have hl : locS r p = bestS (stOf p (sgs r)) := by
      unfold locS locB
      rw [if_pos (by simp [hv, hp])]
    have hle := locE_ok hv hp
    rw [← hl] at js
    have HE := Lib.hid hle
    clear hl hle jk jc jp
    obtain ⟨R, hR⟩ : ∃ R, locS r p = R := ⟨_, rfl⟩
    rw [hR] at js
    have HR := Lib.hid hR
    clear hR
    obtain ⟨⟨s0, s1, s2, s3, s4, s5⟩, -⟩ := js.facts
    obtain ⟨⟨r0, r1, r2, r3, r4, r5⟩, ⟨t0, t1, t2, t3, t4, t5⟩⟩ := jr.facts
    gi_wp2
    have hK' : (sixW W (w.heap.size + 1) R).heap[D]? = _ := (six_others W (w.heap.size + 1) R).same D _ hK rfl
    refine ⟨by simp, .inl ⟨_, _, rfl, run_takeDeferred hK', ?_⟩⟩
    have jR := six_at jr R
    obtain ⟨⟨z0, z1, z2, z3, z4, z5⟩, -⟩ := jR.facts
    have kc := fun (o : Nat) (v : Value) (h : (sixW W (w.heap.size + 1) R).cell? ⟨w.heap.size + 1, o, none⟩ = some v) => cell_kept h (grownBy_putObj' _ D (.deferred none)) (fun r e => by cases e; exact ⟨_, hK', rfl⟩)
    have y0 := kc _ _ z0
    have y1 := kc _ _ z1
    have y2 := kc _ _ z2
    have y3 := kc _ _ z3
    have y4 := kc _ _ z4
    have y5 := kc _ _ z5
    unfold sixW at y0 y1 y2 y3 y4 y5
    refine ⟨.tuple #[spV R, .int .i64 0], ?_, by rw [HE.out, HR.out], (hB0.trans (hB1.trans ((six_below W (w.heap.size + 1) R).mono (by omega)))).trans (belowK_b (w := w) (Nat.le_refl _) _ D _ _ (by omega) hK' rfl rfl)⟩
    simp [results, Try.f14, go_sem, y0, y1, y2, y3, y4, y5, spV]
  case stop =>
    rintro D c pre W _ _ h _
    exact h.elim

set_option maxRecDepth 100000 in
set_option maxHeartbeats 2000000 in
theorem locate_out (v : Value) (r : List Pt) (p : Pt) (h : ¬ (lineB r = true ∧ onP p.1 p.2)) (w : World) (hv : PtSl w v r) :
    Calls Try.prog 14 #[v, .agg #[.int .i64 p.1, .int .i64 p.2]] w fun e w' => e = .returned (.tuple #[spV (locS r p), .int .i64 (locE r p)]) ∧ Below w.heap.size w w' := by
  rw [(loc_no h).1, (loc_no h).2]
  have hb0 : Below w.heap.size w ((w.alloc (.cells #[.int .i64 p.1, .int .i64 p.2] 24)).alloc (.cells #[.int .i64 0, .int .i64 0, .int .i64 0, .int .i64 0, .int .i64 0, .int .i64 0] 28)) := ((Below.refl _ w).alloc (Nat.le_refl _) _).alloc (by simp) _
  have HV := Lib.hid (lvalid_any v r _ (hv.below hb0))
  have gp : Two ((w.alloc (.cells #[.int .i64 p.1, .int .i64 p.2] 24)).alloc (.cells #[.int .i64 0, .int .i64 0, .int .i64 0, .int .i64 0, .int .i64 0, .int .i64 0] 28)) w.heap.size 24 (.int .i64 p.1) (.int .i64 p.2) := (Two.new w _ _ _).alloc _
  have gr : SpAt ((w.alloc (.cells #[.int .i64 p.1, .int .i64 p.2] 24)).alloc (.cells #[.int .i64 0, .int .i64 0, .int .i64 0, .int .i64 0, .int .i64 0, .int .i64 0] 28)) (w.heap.size + 1) spZ := by
    have h := SpAt.new (w.alloc (.cells #[.int .i64 p.1, .int .i64 p.2] 24)) spZ
    simp only [World.size_alloc] at h
    exact h
  obtain ⟨a, cap, rfl⟩ := hv.form
  clear hv
  by_cases hl : lineB r = true
  · have HO := Lib.hid (fun w => on_no p.1 p.2 (fun k => h ⟨hl, k⟩) w)
    rw [hl] at HV
    clear h hl
    generalize r.length = n at *
    go_enter Try.func14, Try.ntmps14
    go_wp2_with fail
    refine HV.out.mono ?_
    rintro e w1 ⟨rfl, hb1⟩
    have gp1 := gp.below hb1 gp.lt
    have gr1 := gr.below hb1 gr.lt
    have hb2 := hb0.trans (hb1.mono hb0.size)
    clear gp gr hb0 hb1 HV
    obtain ⟨a1, a2, a3, a4⟩ := gp1.facts
    go_wp2_with fail
    refine (HO.out _).mono ?_
    rintro e w2 ⟨rfl, hb3⟩
    have gr2 := gr1.below hb3 gr1.lt
    have hb4 := hb2.trans (hb3.mono hb2.size)
    clear gp1 gr1 hb2 hb3 a1 a2 a3 a4
    obtain ⟨⟨r0, r1, r2, r3, r4, r5⟩, ⟨t0, t1, t2, t3, t4, t5⟩⟩ := gr2.facts
    go_wp2
    refine bodyPost_ret (v := .tuple #[spV spZ, .int .i64 1]) ?_ rfl ⟨rfl, hb4.trans ((six_below w2 (w.heap.size + 1) spZ).mono (by omega))⟩
    obtain ⟨⟨z0, z1, z2, z3, z4, z5⟩, -⟩ := (six_at gr2 spZ).facts
    unfold sixW at z0 z1 z2 z3 z4 z5
    dsimp only [spZ] at z0 z1 z2 z3 z4 z5
    simp [results, Try.f14, go_sem, z0, z1, z2, z3, z4, z5, spV, spZ]
  · have hl' : lineB r = false := by simpa using hl
    rw [hl'] at HV
    clear h hl hl'
    generalize r.length = n at *
    go_enter Try.func14, Try.ntmps14
    go_wp2_with fail
    refine HV.out.mono ?_
    rintro e w1 ⟨rfl, hb1⟩
    have gr2 := gr.below hb1 gr.lt
    have hb4 := hb0.trans (hb1.mono hb0.size)
    clear gp gr hb0 hb1 HV
    obtain ⟨⟨r0, r1, r2, r3, r4, r5⟩, ⟨t0, t1, t2, t3, t4, t5⟩⟩ := gr2.facts
    go_wp2
    refine bodyPost_ret (v := .tuple #[spV spZ, .int .i64 1]) ?_ rfl ⟨rfl, hb4.trans ((six_below w1 (w.heap.size + 1) spZ).mono (by omega))⟩
    obtain ⟨⟨z0, z1, z2, z3, z4, z5⟩, -⟩ := (six_at gr2 spZ).facts
    unfold sixW at z0 z1 z2 z3 z4 z5
    dsimp only [spZ] at z0 z1 z2 z3 z4 z5
    simp [results, Try.f14, go_sem, z0, z1, z2, z3, z4, z5, spV, spZ]
theorem locate_any (v : Value) (r : List Pt) (p : Pt) (w : World) (hv : PtSl w v r) :
    Calls Try.prog 14 #[v, .agg #[.int .i64 p.1, .int .i64 p.2]] w fun e w' => e = .returned (.tuple #[spV (locS r p), .int .i64 (locE r p)]) ∧ Below w.heap.size w w' := by
  by_cases h : lineB r = true ∧ onP p.1 p.2
  · have hl := ((line_iff r).1 h.1).1
    rcases hv with ⟨rfl, _⟩ | ⟨b, off, cap, rfl, h0, hlt, hm, hc⟩
    · simp at hl
    · exact locate_in b off cap r p h.1 h.2 w hlt hc
  · exact locate_out v r p h w hv
end Go.Proofs.Ytcpcmlonbpccnaa.Ge

/- Walks over package line: the order of places. -/
namespace Go.Proofs.Ytcpcmlonbpccnaa.Ge
set_option linter.unusedVariables false
set_option linter.unusedSimpArgs false
open Go.RowKit Go.Shelf
open Go.Proofs.Ytcpcmlonbpccnaa.Fr

/-- is a place well-formed? -/
def formP (s : Sp) : Prop := ((0 ≤ s.1 ∧ s.1 ≤ 38) ∧ valP s.2.1.1 s.2.1.2) ∧ 0 ≤ s.2.1.1 ∧ s.2.1.1 ≤ s.2.1.2
instance (s : Sp) : Decidable (formP s) := inferInstanceAs (Decidable (_ ∧ _))
/-- whole segments and the part of the next one -/
def plcS (s : Sp) : Int × Int × Int := if formP s then (if s.2.1.1 = s.2.1.2 then (s.1 + 1, 0, 1) else (s.1, s.2.1.1, s.2.1.2)) else (0, 0, 0)
def plV (q : Int × Int × Int) : Value := .agg #[.int .i64 q.1, .int .i64 q.2.1, .int .i64 q.2.2]
def befB (a b : Int × Int × Int) : Bool := if a.1 = b.1 then decide (cmpV a.2.1 a.2.2 b.2.1 b.2.2 < 0) else decide (a.1 < b.1)
/-- what Before returns -/
def befV (a b : Sp) : Int := if formP a ∧ formP b ∧ plcS a ≠ plcS b then (if befB (plcS a) (plcS b) = true then -1 else 1) else 0

/-- block B holds three numbers -/
def ThAt (W : World) (B : Nat) (q : Int × Int × Int) : Prop := W.heap[B]? = some (.cells #[.int .i64 q.1, .int .i64 q.2.1, .int .i64 q.2.2] 72 (0, 0))
theorem ThAt.lt {W : World} {B : Nat} {s : Int × Int × Int} (h : ThAt W B s) : B < W.heap.size := (Array.getElem?_eq_some_iff.1 h).1
theorem ThAt.new (W : World) (s : Int × Int × Int) : ThAt (W.alloc (.cells #[.int .i64 s.1, .int .i64 s.2.1, .int .i64 s.2.2] 72)) W.heap.size s := World.alloc_heap_new W _
theorem ThAt.facts {W : World} {B : Nat} {s : Int × Int × Int} (h : ThAt W B s) : (W.cell? ⟨B, 0, none⟩ = some (.int .i64 s.1) ∧ W.cell? ⟨B, 1, none⟩ = some (.int .i64 s.2.1) ∧ W.cell? ⟨B, 2, none⟩ = some (.int .i64 s.2.2)) ∧
    (W.frozen? ⟨B, 0, none⟩ = false ∧ W.frozen? ⟨B, 1, none⟩ = false ∧ W.frozen? ⟨B, 2, none⟩ = false) := by
  unfold ThAt at h
  simp [World.cell?, World.frozen?, h]
theorem ThAt.below {W W' : World} {N B : Nat} {s : Int × Int × Int} (h : ThAt W B s) (hb : Below N W W') (hlt : B < N) : ThAt W' B s := (hb.block B hlt).trans h
theorem ThAt.alloc {W : World} {B : Nat} {s : Int × Int × Int} (h : ThAt W B s) (o : Obj) : ThAt (W.alloc o) B s := h.below ((Below.refl W.heap.size W).alloc (Nat.le_refl _) o) h.lt
def threeW (w : World) (B : Nat) (x : Int × Int × Int) : World := ((w.setCell ⟨B, 0, none⟩ (.int .i64 x.1)).setCell ⟨B, 1, none⟩ (.int .i64 x.2.1)).setCell ⟨B, 2, none⟩ (.int .i64 x.2.2)
theorem three_at {w : World} {B : Nat} {s : Int × Int × Int} (h : ThAt w B s) (x : Int × Int × Int) : ThAt (threeW w B x) B x := by
  unfold ThAt at h
  unfold ThAt threeW
  rw [heap_setCell_same _ _ _ _ _ _ (heap_setCell_same _ _ _ _ _ _ (heap_setCell_same _ _ _ _ _ _ h))]
  rfl
theorem three_below (w : World) (B : Nat) (x : Int × Int × Int) : Below B w (threeW w B x) := by
  unfold threeW
  exact (((Below.refl B w).setCell (p := ⟨B, 0, none⟩) (Nat.le_refl _) _).setCell (p := ⟨B, 1, none⟩) (Nat.le_refl _) _).setCell (p := ⟨B, 2, none⟩) (Nat.le_refl _) _

set_option maxRecDepth 100000 in
set_option maxHeartbeats 2000000 in
theorem placeOf_seg (s : Sp) (h : ¬ (0 ≤ s.1 ∧ s.1 ≤ 38)) (w : World) :
    Calls Try.prog 56 #[spV s] w fun e w' => e = .returned (.tuple #[plV (0, 0, 0), .bool false]) ∧ Below w.heap.size w w' := by
  have gs := (SpAt.new w s).alloc (.cells #[.int .i64 0, .int .i64 0, .int .i64 0] 72)
  obtain ⟨⟨a0, a1, a2, a3, a4, a5⟩, -⟩ := gs.facts
  have hb0 : Below w.heap.size w ((w.alloc (.cells #[.int .i64 s.1, .int .i64 s.2.1.1, .int .i64 s.2.1.2, .int .i64 s.2.2.1, .int .i64 s.2.2.2.1, .int .i64 s.2.2.2.2] 28)).alloc (.cells #[.int .i64 0, .int .i64 0, .int .i64 0] 72)) := ((Below.refl _ w).alloc (Nat.le_refl _) _).alloc (by simp) _
  unfold spV
  by_cases h0 : s.1 < 0
  · have k : decide (s.1 < 0) = true := by simpa using h0
    clear h h0
    go_enter Try.func56, Try.ntmps56
    go_wp2
    refine bodyPost_ret (v := .tuple #[plV (0, 0, 0), .bool false]) ?_ rfl ⟨rfl, hb0⟩
    simp [results, Try.f56, go_sem, plV]
  · have k : decide (s.1 < 0) = false := by simpa using h0
    have k2 : decide (38 < s.1) = true := by simp; omega
    clear h h0
    go_enter Try.func56, Try.ntmps56
    go_wp2
    refine bodyPost_ret (v := .tuple #[plV (0, 0, 0), .bool false]) ?_ rfl ⟨rfl, hb0⟩
    simp [results, Try.f56, go_sem, plV]

set_option maxRecDepth 100000 in
set_option maxHeartbeats 2000000 in
theorem placeOf_val (s : Sp) (h1 : 0 ≤ s.1) (h2 : s.1 ≤ 38) (h3 : valB s.2.1.1 s.2.1.2 = false) (w : World) :
    Calls Try.prog 56 #[spV s] w fun e w' => e = .returned (.tuple #[plV (0, 0, 0), .bool false]) ∧ Below w.heap.size w w' := by
  have gs := (SpAt.new w s).alloc (.cells #[.int .i64 0, .int .i64 0, .int .i64 0] 72)
  have gr : ThAt ((w.alloc (.cells #[.int .i64 s.1, .int .i64 s.2.1.1, .int .i64 s.2.1.2, .int .i64 s.2.2.1, .int .i64 s.2.2.2.1, .int .i64 s.2.2.2.2] 28)).alloc (.cells #[.int .i64 0, .int .i64 0, .int .i64 0] 72)) (w.heap.size + 1) (0, 0, 0) := by
    have h := ThAt.new (w.alloc (.cells #[.int .i64 s.1, .int .i64 s.2.1.1, .int .i64 s.2.1.2, .int .i64 s.2.2.1, .int .i64 s.2.2.2.1, .int .i64 s.2.2.2.2] 28)) (0, 0, 0)
    simp only [World.size_alloc] at h
    exact h
  obtain ⟨⟨a0, a1, a2, a3, a4, a5⟩, -⟩ := gs.facts
  have hb0 : Below w.heap.size w ((w.alloc (.cells #[.int .i64 s.1, .int .i64 s.2.1.1, .int .i64 s.2.1.2, .int .i64 s.2.2.1, .int .i64 s.2.2.2.1, .int .i64 s.2.2.2.2] 28)).alloc (.cells #[.int .i64 0, .int .i64 0, .int .i64 0] 72)) := ((Below.refl _ w).alloc (Nat.le_refl _) _).alloc (by simp) _
  have HV := Lib.hid (fun w => Fr.valid_any s.2.1.1 s.2.1.2 w)
  have k : decide (s.1 < 0) = false := by simp; omega
  have k2 : decide (38 < s.1) = false := by simp; omega
  rw [h3] at HV
  unfold spV
  go_enter Try.func56, Try.ntmps56
  go_wp2_with fail
  refine (HV.out _).mono ?_
  rintro e w1 ⟨rfl, hb1⟩
  have gs1 := gs.below hb1 gs.lt
  have gr1 := gr.below hb1 gr.lt
  have hb2 := hb0.trans (hb1.mono hb0.size)
  clear a0 a1 a2 a3 a4 a5 gs gr hb0 hb1 HV
  obtain ⟨⟨a0, a1, a2, a3, a4, a5⟩, -⟩ := gs1.facts
  obtain ⟨⟨r0, r1, r2⟩, ⟨t0, t1, t2⟩⟩ := gr1.facts
  go_wp2
  refine bodyPost_ret (v := .tuple #[plV (0, 0, 0), .bool false]) ?_ rfl ⟨rfl, hb2.trans ((three_below w1 (w.heap.size + 1) (0, 0, 0)).mono (by omega))⟩
  obtain ⟨⟨z0, z1, z2⟩, -⟩ := (three_at gr1 (0, 0, 0)).facts
  unfold threeW at z0 z1 z2
  dsimp only at z0 z1 z2
  simp [results, Try.f56, go_sem, z0, z1, z2, plV]

set_option maxRecDepth 100000 in
set_option maxHeartbeats 2000000 in
theorem placeOf_neg (s : Sp) (h1 : 0 ≤ s.1) (h2 : s.1 ≤ 38) (h3 : valB s.2.1.1 s.2.1.2 = true) (h4 : s.2.1.1 < 0) (w : World) :
    Calls Try.prog 56 #[spV s] w fun e w' => e = .returned (.tuple #[plV (0, 0, 0), .bool false]) ∧ Below w.heap.size w w' := by
  have gs := (SpAt.new w s).alloc (.cells #[.int .i64 0, .int .i64 0, .int .i64 0] 72)
  have gr : ThAt ((w.alloc (.cells #[.int .i64 s.1, .int .i64 s.2.1.1, .int .i64 s.2.1.2, .int .i64 s.2.2.1, .int .i64 s.2.2.2.1, .int .i64 s.2.2.2.2] 28)).alloc (.cells #[.int .i64 0, .int .i64 0, .int .i64 0] 72)) (w.heap.size + 1) (0, 0, 0) := by
    have h := ThAt.new (w.alloc (.cells #[.int .i64 s.1, .int .i64 s.2.1.1, .int .i64 s.2.1.2, .int .i64 s.2.2.1, .int .i64 s.2.2.2.1, .int .i64 s.2.2.2.2] 28)) (0, 0, 0)
    simp only [World.size_alloc] at h
    exact h
  obtain ⟨⟨a0, a1, a2, a3, a4, a5⟩, -⟩ := gs.facts
  have hb0 : Below w.heap.size w ((w.alloc (.cells #[.int .i64 s.1, .int .i64 s.2.1.1, .int .i64 s.2.1.2, .int .i64 s.2.2.1, .int .i64 s.2.2.2.1, .int .i64 s.2.2.2.2] 28)).alloc (.cells #[.int .i64 0, .int .i64 0, .int .i64 0] 72)) := ((Below.refl _ w).alloc (Nat.le_refl _) _).alloc (by simp) _
  have HV := Lib.hid (fun w => Fr.valid_any s.2.1.1 s.2.1.2 w)
  have k : decide (s.1 < 0) = false := by simp; omega
  have k2 : decide (38 < s.1) = false := by simp; omega
  rw [h3] at HV
  have k3 : decide (s.2.1.1 < 0) = true := by simpa using h4
  clear h4
  unfold spV
  go_enter Try.func56, Try.ntmps56
  go_wp2_with fail
  refine (HV.out _).mono ?_
  rintro e w1 ⟨rfl, hb1⟩
  have gs1 := gs.below hb1 gs.lt
  have gr1 := gr.below hb1 gr.lt
  have hb2 := hb0.trans (hb1.mono hb0.size)
  clear a0 a1 a2 a3 a4 a5 gs gr hb0 hb1 HV
  obtain ⟨⟨a0, a1, a2, a3, a4, a5⟩, -⟩ := gs1.facts
  obtain ⟨⟨r0, r1, r2⟩, ⟨t0, t1, t2⟩⟩ := gr1.facts
  go_wp2
  refine bodyPost_ret (v := .tuple #[plV (0, 0, 0), .bool false]) ?_ rfl ⟨rfl, hb2.trans ((three_below w1 (w.heap.size + 1) (0, 0, 0)).mono (by omega))⟩
  obtain ⟨⟨z0, z1, z2⟩, -⟩ := (three_at gr1 (0, 0, 0)).facts
  unfold threeW at z0 z1 z2
  dsimp only at z0 z1 z2
  simp [results, Try.f56, go_sem, z0, z1, z2, plV]

set_option maxRecDepth 100000 in
set_option maxHeartbeats 2000000 in
theorem placeOf_big (s : Sp) (h1 : 0 ≤ s.1) (h2 : s.1 ≤ 38) (h3 : valB s.2.1.1 s.2.1.2 = true) (h4 : 0 ≤ s.2.1.1) (h5 : s.2.1.2 < s.2.1.1) (w : World) :
    Calls Try.prog 56 #[spV s] w fun e w' => e = .returned (.tuple #[plV (0, 0, 0), .bool false]) ∧ Below w.heap.size w w' := by
  have gs := (SpAt.new w s).alloc (.cells #[.int .i64 0, .int .i64 0, .int .i64 0] 72)
  have gr : ThAt ((w.alloc (.cells #[.int .i64 s.1, .int .i64 s.2.1.1, .int .i64 s.2.1.2, .int .i64 s.2.2.1, .int .i64 s.2.2.2.1, .int .i64 s.2.2.2.2] 28)).alloc (.cells #[.int .i64 0, .int .i64 0, .int .i64 0] 72)) (w.heap.size + 1) (0, 0, 0) := by
    have h := ThAt.new (w.alloc (.cells #[.int .i64 s.1, .int .i64 s.2.1.1, .int .i64 s.2.1.2, .int .i64 s.2.2.1, .int .i64 s.2.2.2.1, .int .i64 s.2.2.2.2] 28)) (0, 0, 0)
    simp only [World.size_alloc] at h
    exact h
  obtain ⟨⟨a0, a1, a2, a3, a4, a5⟩, -⟩ := gs.facts
  have hb0 : Below w.heap.size w ((w.alloc (.cells #[.int .i64 s.1, .int .i64 s.2.1.1, .int .i64 s.2.1.2, .int .i64 s.2.2.1, .int .i64 s.2.2.2.1, .int .i64 s.2.2.2.2] 28)).alloc (.cells #[.int .i64 0, .int .i64 0, .int .i64 0] 72)) := ((Below.refl _ w).alloc (Nat.le_refl _) _).alloc (by simp) _
  have HV := Lib.hid (fun w => Fr.valid_any s.2.1.1 s.2.1.2 w)
  have k : decide (s.1 < 0) = false := by simp; omega
  have k2 : decide (38 < s.1) = false := by simp; omega
  rw [h3] at HV
  have k3 : decide (s.2.1.1 < 0) = false := by simp; omega
  have k4 : decide (s.2.1.2 < s.2.1.1) = true := by simpa using h5
  clear h5
  unfold spV
  go_enter Try.func56, Try.ntmps56
  go_wp2_with fail
  refine (HV.out _).mono ?_
  rintro e w1 ⟨rfl, hb1⟩
  have gs1 := gs.below hb1 gs.lt
  have gr1 := gr.below hb1 gr.lt
  have hb2 := hb0.trans (hb1.mono hb0.size)
  clear a0 a1 a2 a3 a4 a5 gs gr hb0 hb1 HV
  obtain ⟨⟨a0, a1, a2, a3, a4, a5⟩, -⟩ := gs1.facts
  obtain ⟨⟨r0, r1, r2⟩, ⟨t0, t1, t2⟩⟩ := gr1.facts
  go_wp2
  refine bodyPost_ret (v := .tuple #[plV (0, 0, 0), .bool false]) ?_ rfl ⟨rfl, hb2.trans ((three_below w1 (w.heap.size + 1) (0, 0, 0)).mono (by omega))⟩
  obtain ⟨⟨z0, z1, z2⟩, -⟩ := (three_at gr1 (0, 0, 0)).facts
  unfold threeW at z0 z1 z2
  dsimp only at z0 z1 z2
  simp [results, Try.f56, go_sem, z0, z1, z2, plV]

set_option maxRecDepth 100000 in
set_option maxHeartbeats 2000000 in
theorem placeOf_end (s : Sp) (h1 : 0 ≤ s.1) (h2 : s.1 ≤ 38) (h3 : valB s.2.1.1 s.2.1.2 = true) (h4 : 0 ≤ s.2.1.1) (h5 : s.2.1.1 = s.2.1.2) (w : World) :
    Calls Try.prog 56 #[spV s] w fun e w' => e = .returned (.tuple #[plV (s.1 + 1, 0, 1), .bool true]) ∧ Below w.heap.size w w' := by
  have gs := (SpAt.new w s).alloc (.cells #[.int .i64 0, .int .i64 0, .int .i64 0] 72)
  have gr : ThAt ((w.alloc (.cells #[.int .i64 s.1, .int .i64 s.2.1.1, .int .i64 s.2.1.2, .int .i64 s.2.2.1, .int .i64 s.2.2.2.1, .int .i64 s.2.2.2.2] 28)).alloc (.cells #[.int .i64 0, .int .i64 0, .int .i64 0] 72)) (w.heap.size + 1) (0, 0, 0) := by
    have h := ThAt.new (w.alloc (.cells #[.int .i64 s.1, .int .i64 s.2.1.1, .int .i64 s.2.1.2, .int .i64 s.2.2.1, .int .i64 s.2.2.2.1, .int .i64 s.2.2.2.2] 28)) (0, 0, 0)
    simp only [World.size_alloc] at h
    exact h
  obtain ⟨⟨a0, a1, a2, a3, a4, a5⟩, -⟩ := gs.facts
  have hb0 : Below w.heap.size w ((w.alloc (.cells #[.int .i64 s.1, .int .i64 s.2.1.1, .int .i64 s.2.1.2, .int .i64 s.2.2.1, .int .i64 s.2.2.2.1, .int .i64 s.2.2.2.2] 28)).alloc (.cells #[.int .i64 0, .int .i64 0, .int .i64 0] 72)) := ((Below.refl _ w).alloc (Nat.le_refl _) _).alloc (by simp) _
  have HV := Lib.hid (fun w => Fr.valid_any s.2.1.1 s.2.1.2 w)
  have k : decide (s.1 < 0) = false := by simp; omega
  have k2 : decide (38 < s.1) = false := by simp; omega
  rw [h3] at HV
  have k3 : decide (s.2.1.1 < 0) = false := by simp; omega
  have k4 : decide (s.2.1.2 < s.2.1.1) = false := by simp; omega
  have k5 : (s.2.1.1 == s.2.1.2) = true := by simpa using h5
  have k6 : IntKind.i64.wrap (s.1 + 1) = s.1 + 1 := by rw [IntKind.wrap_i64]; omega
  clear h5
  unfold spV
  go_enter Try.func56, Try.ntmps56
  go_wp2_with fail
  refine (HV.out _).mono ?_
  rintro e w1 ⟨rfl, hb1⟩
  have gs1 := gs.below hb1 gs.lt
  have gr1 := gr.below hb1 gr.lt
  have hb2 := hb0.trans (hb1.mono hb0.size)
  clear a0 a1 a2 a3 a4 a5 gs gr hb0 hb1 HV
  obtain ⟨⟨a0, a1, a2, a3, a4, a5⟩, -⟩ := gs1.facts
  obtain ⟨⟨r0, r1, r2⟩, ⟨t0, t1, t2⟩⟩ := gr1.facts
  go_wp2
  refine bodyPost_ret (v := .tuple #[plV (s.1 + 1, 0, 1), .bool true]) ?_ rfl ⟨rfl, hb2.trans ((three_below w1 (w.heap.size + 1) (s.1 + 1, 0, 1)).mono (by omega))⟩
  obtain ⟨⟨z0, z1, z2⟩, -⟩ := (three_at gr1 (s.1 + 1, 0, 1)).facts
  unfold threeW at z0 z1 z2
  dsimp only at z0 z1 z2
  simp [results, Try.f56, go_sem, z0, z1, z2, plV]

set_option maxRecDepth 100000 in
set_option maxHeartbeats 2000000 in
theorem placeOf_in (s : Sp) (h1 : 0 ≤ s.1) (h2 : s.1 ≤ 38) (h3 : valB s.2.1.1 s.2.1.2 = true) (h4 : 0 ≤ s.2.1.1) (h5 : s.2.1.1 < s.2.1.2) (w : World) :
    Calls Try.prog 56 #[spV s] w fun e w' => e = .returned (.tuple #[plV (s.1, s.2.1.1, s.2.1.2), .bool true]) ∧ Below w.heap.size w w' := by
  have gs := (SpAt.new w s).alloc (.cells #[.int .i64 0, .int .i64 0, .int .i64 0] 72)
  have gr : ThAt ((w.alloc (.cells #[.int .i64 s.1, .int .i64 s.2.1.1, .int .i64 s.2.1.2, .int .i64 s.2.2.1, .int .i64 s.2.2.2.1, .int .i64 s.2.2.2.2] 28)).alloc (.cells #[.int .i64 0, .int .i64 0, .int .i64 0] 72)) (w.heap.size + 1) (0, 0, 0) := by
    have h := ThAt.new (w.alloc (.cells #[.int .i64 s.1, .int .i64 s.2.1.1, .int .i64 s.2.1.2, .int .i64 s.2.2.1, .int .i64 s.2.2.2.1, .int .i64 s.2.2.2.2] 28)) (0, 0, 0)
    simp only [World.size_alloc] at h
    exact h
  obtain ⟨⟨a0, a1, a2, a3, a4, a5⟩, -⟩ := gs.facts
  have hb0 : Below w.heap.size w ((w.alloc (.cells #[.int .i64 s.1, .int .i64 s.2.1.1, .int .i64 s.2.1.2, .int .i64 s.2.2.1, .int .i64 s.2.2.2.1, .int .i64 s.2.2.2.2] 28)).alloc (.cells #[.int .i64 0, .int .i64 0, .int .i64 0] 72)) := ((Below.refl _ w).alloc (Nat.le_refl _) _).alloc (by simp) _
  have HV := Lib.hid (fun w => Fr.valid_any s.2.1.1 s.2.1.2 w)
  have k : decide (s.1 < 0) = false := by simp; omega
  have k2 : decide (38 < s.1) = false := by simp; omega
  rw [h3] at HV
  have k3 : decide (s.2.1.1 < 0) = false := by simp; omega
  have k4 : decide (s.2.1.2 < s.2.1.1) = false := by simp; omega
  have k5 : (s.2.1.1 == s.2.1.2) = false := by simp; omega
  clear h5
  unfold spV
  go_enter Try.func56, Try.ntmps56
  go_wp2_with fail
  refine (HV.out _).mono ?_
  rintro e w1 ⟨rfl, hb1⟩
  have gs1 := gs.below hb1 gs.lt
  have gr1 := gr.below hb1 gr.lt
  have hb2 := hb0.trans (hb1.mono hb0.size)
  clear a0 a1 a2 a3 a4 a5 gs gr hb0 hb1 HV
  obtain ⟨⟨a0, a1, a2, a3, a4, a5⟩, -⟩ := gs1.facts
  obtain ⟨⟨r0, r1, r2⟩, ⟨t0, t1, t2⟩⟩ := gr1.facts
  go_wp2
  refine bodyPost_ret (v := .tuple #[plV (s.1, s.2.1.1, s.2.1.2), .bool true]) ?_ rfl ⟨rfl, hb2.trans ((three_below w1 (w.heap.size + 1) (s.1, s.2.1.1, s.2.1.2)).mono (by omega))⟩
  obtain ⟨⟨z0, z1, z2⟩, -⟩ := (three_at gr1 (s.1, s.2.1.1, s.2.1.2)).facts
  unfold threeW at z0 z1 z2
  dsimp only at z0 z1 z2
  simp [results, Try.f56, go_sem, z0, z1, z2, plV]

theorem placeOf_any (s : Sp) (w : World) :
    Calls Try.prog 56 #[spV s] w fun e w' => e = .returned (.tuple #[plV (plcS s), .bool (decide (formP s))]) ∧ Below w.heap.size w w' := by
  by_cases h : formP s
  · rw [decide_eq_true h]
    unfold plcS
    rw [if_pos h]
    obtain ⟨⟨⟨h1, h2⟩, h3⟩, h4, h5⟩ := h
    by_cases h6 : s.2.1.1 = s.2.1.2
    · rw [if_pos h6]
      exact placeOf_end s h1 h2 (valB_iff.2 h3) h4 h6 w
    · rw [if_neg h6]
      exact placeOf_in s h1 h2 (valB_iff.2 h3) h4 (by omega) w
  · rw [decide_eq_false h]
    unfold plcS
    rw [if_neg h]
    by_cases h1 : 0 ≤ s.1 ∧ s.1 ≤ 38
    · by_cases h3 : valP s.2.1.1 s.2.1.2
      · by_cases h4 : 0 ≤ s.2.1.1
        · exact placeOf_big s h1.1 h1.2 (valB_iff.2 h3) h4 (Int.not_le.1 fun h5 => h ⟨⟨h1, h3⟩, h4, h5⟩) w
        · exact placeOf_neg s h1.1 h1.2 (valB_iff.2 h3) (by omega) w
      · exact placeOf_val s h1.1 h1.2 (valB_false h3) w
    · exact placeOf_seg s h1 w
end Go.Proofs.Ytcpcmlonbpccnaa.Ge

/- Walks over package line: which place comes before. -/
namespace Go.Proofs.Ytcpcmlonbpccnaa.Ge
set_option linter.unusedVariables false
set_option linter.unusedSimpArgs false
open Go.RowKit Go.Shelf
open Go.Proofs.Ytcpcmlonbpccnaa.Fr

set_option maxRecDepth 100000 in
set_option maxHeartbeats 2000000 in
theorem before_any (a b : Int × Int × Int) (w : World) :
    Calls Try.prog 57 #[plV a, plV b] w fun e w' => e = .returned (.bool (befB a b)) ∧ Below w.heap.size w w' := by
  have hb0 : Below w.heap.size w ((w.alloc (.cells #[.int .i64 a.1, .int .i64 a.2.1, .int .i64 a.2.2] 72)).alloc (.cells #[.int .i64 b.1, .int .i64 b.2.1, .int .i64 b.2.2] 72)) := ((Below.refl _ w).alloc (Nat.le_refl _) _).alloc (by simp) _
  have ga := (ThAt.new w a).alloc (.cells #[.int .i64 b.1, .int .i64 b.2.1, .int .i64 b.2.2] 72)
  have gb : ThAt ((w.alloc (.cells #[.int .i64 a.1, .int .i64 a.2.1, .int .i64 a.2.2] 72)).alloc (.cells #[.int .i64 b.1, .int .i64 b.2.1, .int .i64 b.2.2] 72)) (w.heap.size + 1) b := by
    have h := ThAt.new (w.alloc (.cells #[.int .i64 a.1, .int .i64 a.2.1, .int .i64 a.2.2] 72)) b
    simp only [World.size_alloc] at h
    exact h
  obtain ⟨⟨a0, a1, a2⟩, -⟩ := ga.facts
  obtain ⟨⟨b0, b1, b2⟩, -⟩ := gb.facts
  have HC := Lib.hid (fun w => compare_any a.2.1 a.2.2 b.2.1 b.2.2 w)
  unfold plV befB
  by_cases h : a.1 = b.1
  · rw [if_pos h]
    have k : (a.1 == b.1) = true := by simpa using h
    have k' : (a.1 != b.1) = false := by simpa using h
    clear h
    generalize cmpV a.2.1 a.2.2 b.2.1 b.2.2 = V at *
    go_enter Try.func57, Try.ntmps57
    go_wp2_with fail
    refine (HC.out _).mono ?_
    rintro e w1 ⟨rfl, hb1⟩
    go_wp2
    go_ret
    exact ⟨rfl, hb0.trans (hb1.mono hb0.size)⟩
  · rw [if_neg h]
    have k : (a.1 == b.1) = false := by simpa using h
    have k' : (a.1 != b.1) = true := by simpa using h
    clear h
    go_enter Try.func57, Try.ntmps57
    go_wp2
    go_ret
    exact ⟨rfl, hb0⟩

set_option maxRecDepth 100000 in
set_option maxHeartbeats 4000000 in
theorem Before_gen (a b : Sp) (q r : Int × Int × Int) (f g : Bool) (hf : f = decide (formP a)) (hg : g = decide (formP b)) (hq : plcS a = q) (hr : plcS b = r) (V : Int) (hV : V = if f = true ∧ g = true ∧ q ≠ r then (if befB q r = true then -1 else 1) else 0) (w : World) :
    Calls Try.prog 18 #[spV a, spV b] w fun e w' => e = .returned (.int .i64 V) ∧ Below w.heap.size w w' := by
  have HA := Lib.hid (fun w => placeOf_any a w)
  have HB := Lib.hid (fun w => placeOf_any b w)
  have HL := Lib.hid (fun w => before_any q r w)
  rw [← hf, hq] at HA
  rw [← hg, hr] at HB
  clear hf hg hq hr
  have HV := Lib.hid hV
  clear hV
  have hb0 : Below w.heap.size w ((w.alloc (.cells #[.int .i64 a.1, .int .i64 a.2.1.1, .int .i64 a.2.1.2, .int .i64 a.2.2.1, .int .i64 a.2.2.2.1, .int .i64 a.2.2.2.2] 28)).alloc (.cells #[.int .i64 b.1, .int .i64 b.2.1.1, .int .i64 b.2.1.2, .int .i64 b.2.2.1, .int .i64 b.2.2.2.1, .int .i64 b.2.2.2.2] 28)) := ((Below.refl _ w).alloc (Nat.le_refl _) _).alloc (by simp) _
  have ga := (SpAt.new w a).alloc (.cells #[.int .i64 b.1, .int .i64 b.2.1.1, .int .i64 b.2.1.2, .int .i64 b.2.2.1, .int .i64 b.2.2.2.1, .int .i64 b.2.2.2.2] 28)
  have gb : SpAt ((w.alloc (.cells #[.int .i64 a.1, .int .i64 a.2.1.1, .int .i64 a.2.1.2, .int .i64 a.2.2.1, .int .i64 a.2.2.2.1, .int .i64 a.2.2.2.2] 28)).alloc (.cells #[.int .i64 b.1, .int .i64 b.2.1.1, .int .i64 b.2.1.2, .int .i64 b.2.2.1, .int .i64 b.2.2.2.1, .int .i64 b.2.2.2.2] 28)) (w.heap.size + 1) b := by
    have h := SpAt.new (w.alloc (.cells #[.int .i64 a.1, .int .i64 a.2.1.1, .int .i64 a.2.1.2, .int .i64 a.2.2.1, .int .i64 a.2.2.2.1, .int .i64 a.2.2.2.2] 28)) b
    simp only [World.size_alloc] at h
    exact h
  obtain ⟨⟨a0, a1, a2, a3, a4, a5⟩, -⟩ := ga.facts
  unfold spV at *
  unfold plV at *
  go_enter Try.func18, Try.ntmps18
  go_wp2_with fail
  refine (HA.out _).mono ?_
  rintro e w1 ⟨rfl, hb1⟩
  have gb1 := (gb.below hb1 gb.lt).alloc (.cells #[.int .i64 q.1, .int .i64 q.2.1, .int .i64 q.2.2] 72)
  have gq := ThAt.new w1 q
  have hb2 := (hb0.trans (hb1.mono hb0.size)).alloc (hb0.trans (hb1.mono hb0.size)).size (.cells #[.int .i64 q.1, .int .i64 q.2.1, .int .i64 q.2.2] 72)
  obtain ⟨⟨b0, b1, b2, b3, b4, b5⟩, -⟩ := gb1.facts
  have hz : w1.heap.size < (w1.alloc (.cells #[.int .i64 q.1, .int .i64 q.2.1, .int .i64 q.2.2] 72)).heap.size := by simp
  clear a0 a1 a2 a3 a4 a5 ga gb hb0 hb1 HA
  go_wp2_with fail
  refine (HB.out _).mono ?_
  rintro e w2 ⟨rfl, hb3⟩
  have gq2 := (gq.below hb3 gq.lt).alloc (.cells #[.int .i64 r.1, .int .i64 r.2.1, .int .i64 r.2.2] 72)
  have gr2 := ThAt.new w2 r
  have hb4 := (hb2.trans (hb3.mono hb2.size)).alloc (hb2.trans (hb3.mono hb2.size)).size (.cells #[.int .i64 r.1, .int .i64 r.2.1, .int .i64 r.2.2] 72)
  obtain ⟨⟨q0, q1, q2⟩, -⟩ := gq2.facts
  obtain ⟨⟨r0, r1, r2⟩, -⟩ := gr2.facts
  clear b0 b1 b2 b3 b4 b5 gb1 gq hb2 hb3 HB hz
  cases f with
  | false =>
    go_wp2
    go_ret
    exact ⟨by rw [HV.out]; simp, hb4⟩
  | true =>
    cases g with
    | false =>
      go_wp2
      go_ret
      exact ⟨by rw [HV.out]; simp, hb4⟩
    | true =>
      obtain ⟨x, y, z⟩ := q
      obtain ⟨x', y', z'⟩ := r
      dsimp only at *
      have hc : (x = x' ∧ y = y' ∧ z = z') ∨ ((x, y, z) ≠ (x', y', z') ∧ (x == x') = false) ∨ ((x, y, z) ≠ (x', y', z') ∧ x = x' ∧ (y == y') = false) ∨ ((x, y, z) ≠ (x', y', z') ∧ x = x' ∧ y = y' ∧ (z == z') = false) := by
        by_cases h1 : x = x'
        · by_cases h2 : y = y'
          · by_cases h3 : z = z'
            · exact .inl ⟨h1, h2, h3⟩
            · exact .inr (.inr (.inr ⟨fun e => h3 (by cases e; rfl), h1, h2, by simpa using h3⟩))
          · exact .inr (.inr (.inl ⟨fun e => h2 (by cases e; rfl), h1, by simpa using h2⟩))
        · exact .inr (.inl ⟨fun e => h1 (by cases e; rfl), by simpa using h1⟩)
      rcases hc with ⟨rfl, rfl, rfl⟩ | ⟨hn, e1⟩ | ⟨hn, rfl, e1⟩ | ⟨hn, rfl, rfl, e1⟩
      · go_wp2
        go_ret
        exact ⟨by rw [HV.out]; simp, hb4⟩
      · have HN := Lib.hid (show (true = true ∧ true = true ∧ (x, y, z) ≠ (x', y', z')) from ⟨rfl, rfl, hn⟩)
        clear hn
        obtain ⟨B, hB⟩ : ∃ B, befB (x, y, z) (x', y', z') = B := ⟨_, rfl⟩
        rw [hB] at HL HV
        clear hB
        go_wp2_with fail
        refine (HL.out _).mono ?_
        rintro e w3 ⟨rfl, hb5⟩
        have hb6 := hb4.trans (hb5.mono hb4.size)
        cases B with
        | true =>
          go_wp2
          go_ret
          exact ⟨by rw [HV.out, if_pos HN.out]; rfl, hb6⟩
        | false =>
          go_wp2
          go_ret
          exact ⟨by rw [HV.out, if_pos HN.out]; rfl, hb6⟩
      · have HN := Lib.hid (show (true = true ∧ true = true ∧ (x, y, z) ≠ (x, y', z')) from ⟨rfl, rfl, hn⟩)
        clear hn
        obtain ⟨B, hB⟩ : ∃ B, befB (x, y, z) (x, y', z') = B := ⟨_, rfl⟩
        rw [hB] at HL HV
        clear hB
        go_wp2_with fail
        refine (HL.out _).mono ?_
        rintro e w3 ⟨rfl, hb5⟩
        have hb6 := hb4.trans (hb5.mono hb4.size)
        cases B with
        | true =>
          go_wp2
          go_ret
          exact ⟨by rw [HV.out, if_pos HN.out]; rfl, hb6⟩
        | false =>
          go_wp2
          go_ret
          exact ⟨by rw [HV.out, if_pos HN.out]; rfl, hb6⟩
      · have HN := Lib.hid (show (true = true ∧ true = true ∧ (x, y, z) ≠ (x, y, z')) from ⟨rfl, rfl, hn⟩)
        clear hn
        obtain ⟨B, hB⟩ : ∃ B, befB (x, y, z) (x, y, z') = B := ⟨_, rfl⟩
        rw [hB] at HL HV
        clear hB
        go_wp2_with fail
        refine (HL.out _).mono ?_
        rintro e w3 ⟨rfl, hb5⟩
        have hb6 := hb4.trans (hb5.mono hb4.size)
        cases B with
        | true =>
          go_wp2
          go_ret
          exact ⟨by rw [HV.out, if_pos HN.out]; rfl, hb6⟩
        | false =>
          go_wp2
          go_ret
          exact ⟨by rw [HV.out, if_pos HN.out]; rfl, hb6⟩
theorem Before_any (a b : Sp) (w : World) :
    Calls Try.prog 18 #[spV a, spV b] w fun e w' => e = .returned (.int .i64 (befV a b)) ∧ Below w.heap.size w w' :=
  Before_gen a b _ _ _ _ rfl rfl rfl rfl _ (by unfold befV; simp only [decide_eq_true_eq]) w
end Go.Proofs.Ytcpcmlonbpccnaa.Ge

/- Lines of streets: the order of places, on whole numbers. -/
namespace Go.Proofs.Ytcpcmlonbpccnaa.Ge
set_option linter.unusedVariables false
set_option linter.unusedSimpArgs false
open Go.Proofs.Ytcpcmlonbpccnaa.Fr

def lexLt (p q : Int × Int × Int) : Prop := p.1 < q.1 ∨ p.1 = q.1 ∧ p.2.1 * q.2.2 < q.2.1 * p.2.2
theorem plc_val {s : Sp} (h : formP s) : valP (plcS s).2.1 (plcS s).2.2 := by
  unfold plcS
  rw [if_pos h]
  split
  · exact (show valP 0 1 by decide)
  · exact h.1.2
theorem lex_irr (p : Int × Int × Int) : ¬ lexLt p p := by unfold lexLt; omega
theorem lex_asym {p q : Int × Int × Int} (h : lexLt p q) : ¬ lexLt q p := by unfold lexLt at *; omega
theorem lex_tri {p q : Int × Int × Int} (h : valP p.2.1 p.2.2) (k : valP q.2.1 q.2.2) : lexLt p q ∨ p = q ∨ lexLt q p := by
  unfold lexLt
  rcases Int.lt_trichotomy p.1 q.1 with m | m | m
  · exact .inl (.inl m)
  · rcases Int.lt_trichotomy (p.2.1 * q.2.2) (q.2.1 * p.2.2) with n | n | n
    · exact .inl (.inr ⟨m, n⟩)
    · obtain ⟨e1, e2⟩ := frac_eq h k n
      exact .inr (.inl (Prod.ext m (Prod.ext e1 e2)))
    · exact .inr (.inr (.inr ⟨m.symm, n⟩))
  · exact .inr (.inr (.inl m))
theorem lex_trans {p q r : Int × Int × Int} (h : valP p.2.1 p.2.2) (k : valP q.2.1 q.2.2) (l : valP r.2.1 r.2.2) (h1 : lexLt p q) (h2 : lexLt q r) : lexLt p r := by
  rcases h1 with a | ⟨a1, a2⟩
  · rcases h2 with b | ⟨b1, b2⟩
    · exact .inl (by omega)
    · exact .inl (by omega)
  · rcases h2 with b | ⟨b1, b2⟩
    · exact .inl (by omega)
    · exact .inr ⟨by omega, frac_trans_lt h k l a2 (Int.le_of_lt b2)⟩
theorem befB_lex {p q : Int × Int × Int} (h : valP p.2.1 p.2.2) (k : valP q.2.1 q.2.2) : befB p q = true ↔ lexLt p q := by
  unfold befB lexLt
  by_cases e : p.1 = q.1
  · rw [if_pos e, decide_eq_true_eq, (cmp_fl h k).1]
    omega
  · rw [if_neg e, decide_eq_true_eq]
    omega
theorem bef_cases {a b : Sp} (h : formP a) (k : formP b) : (befV a b = -1 ∧ lexLt (plcS a) (plcS b)) ∨ (befV a b = 0 ∧ plcS a = plcS b) ∨ (befV a b = 1 ∧ lexLt (plcS b) (plcS a)) := by
  have v1 := plc_val h
  have v2 := plc_val k
  unfold befV
  rcases lex_tri v1 v2 with m | m | m
  · refine .inl ⟨?_, m⟩
    rw [if_pos ⟨h, k, fun e => lex_irr _ (e ▸ m : lexLt (plcS b) (plcS b))⟩, if_pos ((befB_lex v1 v2).2 m)]
  · refine .inr (.inl ⟨?_, m⟩)
    rw [if_neg (fun x => x.2.2 m)]
  · refine .inr (.inr ⟨?_, m⟩)
    rw [if_pos ⟨h, k, fun e => lex_irr _ (e ▸ m : lexLt (plcS b) (plcS b))⟩, if_neg (fun x => lex_asym m ((befB_lex v1 v2).1 x))]
theorem bef_no {a b : Sp} (h : ¬ (formP a ∧ formP b)) : befV a b = 0 := by
  unfold befV
  rw [if_neg fun k => h ⟨k.1, k.2.1⟩]
theorem bef_bd (a b : Sp) : befV a b = -1 ∨ befV a b = 0 ∨ befV a b = 1 := by
  by_cases h : formP a ∧ formP b
  · rcases bef_cases h.1 h.2 with m | m | m
    · exact .inl m.1
    · exact .inr (.inl m.1)
    · exact .inr (.inr m.1)
  · exact .inr (.inl (bef_no h))
theorem bef_swap (a b : Sp) : befV b a = -befV a b := by
  by_cases h : formP a ∧ formP b
  · rcases bef_cases h.1 h.2 with ⟨e, m⟩ | ⟨e, m⟩ | ⟨e, m⟩ <;> rcases bef_cases h.2 h.1 with ⟨f, n⟩ | ⟨f, n⟩ | ⟨f, n⟩
    · exact absurd n (lex_asym m)
    · rw [n] at m; exact absurd m (lex_irr _)
    · rw [e, f]; rfl
    · rw [m] at n; exact absurd n (lex_irr _)
    · rw [e, f]; rfl
    · rw [m] at n; exact absurd n (lex_irr _)
    · rw [e, f]
    · rw [n] at m; exact absurd m (lex_irr _)
    · exact absurd n (lex_asym m)
  · rw [bef_no h, bef_no fun k => h ⟨k.2, k.1⟩]; rfl
theorem bef_self (a : Sp) : befV a a = 0 := by
  have := bef_swap a a
  omega
theorem bef_trans {a b c : Sp} (h : formP a) (k : formP b) (l : formP c) (x : befV a b ≤ 0) (y : befV b c ≤ 0) : befV a c ≤ 0 ∧ (befV a b < 0 ∨ befV b c < 0 → befV a c < 0) := by
  have v1 := plc_val h
  have v2 := plc_val k
  have v3 := plc_val l
  rcases bef_cases h k with ⟨e, m⟩ | ⟨e, m⟩ | ⟨e, m⟩
  · rcases bef_cases k l with ⟨f, n⟩ | ⟨f, n⟩ | ⟨f, n⟩
    · rcases bef_cases h l with ⟨g, o⟩ | ⟨g, o⟩ | ⟨g, o⟩
      · omega
      · have := lex_trans v1 v2 v3 m n; rw [o] at this; exact absurd this (lex_irr _)
      · exact absurd (lex_trans v1 v2 v3 m n) (lex_asym o)
    · rw [n] at m
      rcases bef_cases h l with ⟨g, o⟩ | ⟨g, o⟩ | ⟨g, o⟩
      · omega
      · rw [o] at m; exact absurd m (lex_irr _)
      · exact absurd m (lex_asym o)
    · omega
  · rcases bef_cases k l with ⟨f, n⟩ | ⟨f, n⟩ | ⟨f, n⟩
    · rw [← m] at n
      rcases bef_cases h l with ⟨g, o⟩ | ⟨g, o⟩ | ⟨g, o⟩
      · omega
      · rw [o] at n; exact absurd n (lex_irr _)
      · exact absurd n (lex_asym o)
    · rw [n] at m
      rcases bef_cases h l with ⟨g, o⟩ | ⟨g, o⟩ | ⟨g, o⟩
      · rw [m] at o; exact absurd o (lex_irr _)
      · omega
      · rw [m] at o; exact absurd o (lex_irr _)
    · omega
  · omega
/-- a lesser Seg comes never later -/
theorem bef_seg {a b : Sp} (h : formP a) (k : formP b) (hl : a.1 < b.1) : befV a b ≤ 0 := by
  rcases bef_cases h k with ⟨e, m⟩ | ⟨e, m⟩ | ⟨e, m⟩
  · omega
  · omega
  · exfalso
    have v1 := plc_val h
    have v2 := plc_val k
    have nn := k.2.1
    unfold plcS lexLt at m
    rw [if_pos h, if_pos k] at m
    split at m <;> split at m
    · simp only at m; omega
    · simp only at m
      rcases m with m | ⟨m1, m2⟩
      · omega
      · omega
    · simp only at m; omega
    · simp only at m; omega
/-- what the reference reckons -/
theorem bef_ref {a b : Sp} (h : formP a) (k : formP b) : befV a b = if (plcS a).1 = (plcS b).1 then cmpV (plcS a).2.1 (plcS a).2.2 (plcS b).2.1 (plcS b).2.2 else if (plcS a).1 < (plcS b).1 then -1 else 1 := by
  have v1 := plc_val h
  have v2 := plc_val k
  have c := cmp_fl v1 v2
  have cb : cmpV (plcS a).2.1 (plcS a).2.2 (plcS b).2.1 (plcS b).2.2 = -1 ∨ cmpV (plcS a).2.1 (plcS a).2.2 (plcS b).2.1 (plcS b).2.2 = 0 ∨ cmpV (plcS a).2.1 (plcS a).2.2 (plcS b).2.1 (plcS b).2.2 = 1 := by
    unfold cmpV
    split
    · split
      · exact .inr (.inl rfl)
      · split
        · exact .inl rfl
        · exact .inr (.inr rfl)
    · exact .inr (.inl rfl)
  rcases bef_cases h k with ⟨e, m⟩ | ⟨e, m⟩ | ⟨e, m⟩
  · rw [e]
    rcases m with m | ⟨m1, m2⟩
    · rw [if_neg (by omega), if_pos m]
    · rw [if_pos m1]
      have := c.1.2 m2
      omega
  · rw [e, if_pos (by rw [m])]
    have := c.2.1.2 (by rw [m])
    omega
  · rw [e]
    rcases m with m | ⟨m1, m2⟩
    · rw [if_neg (by omega), if_neg (by omega)]
    · rw [if_pos m1.symm]
      have := c.2.2.2 m2
      omega
end Go.Proofs.Ytcpcmlonbpccnaa.Ge
