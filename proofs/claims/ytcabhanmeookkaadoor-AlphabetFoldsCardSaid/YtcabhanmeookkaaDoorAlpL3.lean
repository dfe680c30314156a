/- Walk over layer 10's law: AlphabetFolds. -/
import Derived.Test.YtcabhanmeookkaaDoorAlpL5
namespace Go.Proofs.YtcabhanmeookkaaDoor.Al
set_option linter.unusedVariables false
set_option linter.unusedSimpArgs false
open Go.RowKit

theorem valid_fold {nm : Bs} {L : List Bs} {S : List Int} (h : validA nm L S = true) : foldS S L.length = true := by
  unfold validA at h; simp only [Bool.and_eq_true] at h; exact h.2.1
theorem small_of {S : List Int} {n : Nat} (h : foldS S n = true) : S.length = n ∧ ∀ i, i < n → smallA S i < n ∧ S.getD i 0 = (smallA S i : Int) := by
  unfold foldS at h
  simp only [Bool.and_eq_true, decide_eq_true_eq, List.all_eq_true] at h
  refine ⟨h.1, fun i hi => ?_⟩
  have hm : S.getD i 0 ∈ S := by rw [List.getD_eq_getElem?_getD, List.getElem?_eq_getElem (by omega : i < S.length)]; exact List.getElem_mem _
  obtain ⟨q1, q2, q3⟩ := h.2 _ hm
  unfold smallA
  omega
theorem folds_law (V : Bool) (L : List Bs) (S : List Int) (hF : V = true → Fine L ∧ foldS S L.length = true) (t : Bs) :
    ((readA V L t).2.1 ≠ 0 ∧ (foldA V L S t).1 = [] ∧ (foldA V L S t).2 = 1) ∨
    ((readA V L t).2.1 = 0 ∧ (foldA V L S t).2 = 0 ∧ foldA V L S (foldA V L S t).1 = ((foldA V L S t).1, 0) ∧ readA V L (foldA V L S t).1 = ((readA V L t).1.map (smallA S), 0, 0) ∧ (foldA V L S t).1.length ≤ 100 ∧
      (1 ≤ (readA V L t).1.length ∧ (readA V L t).1.length ≤ 24) ∧ S.length = S.length ∧ (∀ i ∈ (readA V L t).1, i < S.length) ∧ ∀ i, i < S.length → S.getD i 0 = (smallA S i : Int)) := by
  by_cases h : (readA V L t).2.1 = 0
  · obtain ⟨hV, _, hw⟩ := readA_ok h
    subst hV
    obtain ⟨F, hS⟩ := hF rfl
    obtain ⟨hSl, hsm⟩ := small_of hS
    obtain ⟨hw2, hmm⟩ := folded_word F hS hw
    have e : ∀ t, readA true L t = readV L t := fun t => if_pos rfl
    have hfold : foldA true L S t = (joinL L ((readA true L t).1.map (smallA S)), 0) := by unfold foldA; rw [if_pos h]
    have hread2 : readA true L (joinL L ((readA true L t).1.map (smallA S))) = ((readA true L t).1.map (smallA S), 0, 0) := by rw [e (joinL L _)]; exact hw2.read F
    refine .inr ⟨h, by rw [hfold], ?_, ?_, ?_, ⟨hw.pos, hw.le⟩, rfl, fun i hi => by have := hw.lt i hi; omega, fun i hi => (hsm i (by omega)).2⟩
    · rw [hfold]
      unfold foldA
      rw [hread2, if_pos rfl]
      simp only
      rw [hmm]
    · rw [hfold]; exact hread2
    · rw [hfold]
      have := (joinL_len F.prop _ hw2.lt).2
      rw [List.length_map] at this
      have := hw.le
      show (joinL L _).length ≤ 100
      omega
  · refine .inl ⟨h, ?_, ?_⟩
    · unfold foldA; rw [if_neg h]
    · unfold foldA; rw [if_neg h]

set_option maxRecDepth 100000 in
set_option maxHeartbeats 8000000 in
theorem lawFolds (nm : ByteArray) (vl vs : Value) (L : List ByteArray) (S : List Int) (x : ByteArray) (hnm : nm.size ≤ 9223372036854775807) (hx : x.size ≤ 9223372036854775807) (w : World) (hL : StrSl w vl L) (hS : IntSl w vs S) :
    Calls Tryd.prog 6 #[.agg #[.string nm, vl, vs], .string x] w fun e w' => e = .returned (.bool true) ∧ Below w.heap.size w w' := by
  have hb0 : Below w.heap.size w (w.alloc (.cells #[.string nm, vl, vs] 25)) := (Below.refl _ _).alloc (Nat.le_refl _) _
  have k0 := Blk.new w 25 #[.string nm, vl, vs]
  have HL := Lib.hid hL
  have HS := Lib.hid hS
  have hfew := fun w' (h : Below w.heap.size w w') => few_any nm vl vs L S x hnm (by first | exact hx | decide) w' (HL.out.below h) (HS.out.below h)
  cases hF : (fewA nm L S && decide (x.size ≤ 300)) with
  | false =>
    rw [hF] at hfew
    have Hfew := Lib.hid hfew
    clear hfew hF
    go_enter Tryd.func6, Tryd.ntmps6
    go_wp2_with fail
    refine (head_any _).mono ?_
    rintro e w1 ⟨rfl, hq1⟩
    have k1 := k0.below hq1 k0.lt
    have hb1 := hb0.trans (hq1.mono hb0.size)
    have x1_0 : w1.cell? ⟨w.heap.size, 0, none⟩ = some (.string nm) := k1.cell 0
    have x1_1 : w1.cell? ⟨w.heap.size, 1, none⟩ = some vl := k1.cell 1
    have x1_2 : w1.cell? ⟨w.heap.size, 2, none⟩ = some vs := k1.cell 2
    go_wp2_with fail
    refine (Hfew.out _ hb1).mono ?_
    rintro e w2 ⟨rfl, hq2⟩
    clear x1_0 x1_1 x1_2
    have k2 := k1.below hq2 k1.lt
    have hb2 := hb1.trans (hq2.mono hb1.size)
    have x2_0 : w2.cell? ⟨w.heap.size, 0, none⟩ = some (.string nm) := k2.cell 0
    have x2_1 : w2.cell? ⟨w.heap.size, 1, none⟩ = some vl := k2.cell 1
    have x2_2 : w2.cell? ⟨w.heap.size, 2, none⟩ = some vs := k2.cell 2
    go_wp2_with fail
    go_ret
    exact ⟨rfl, hb2⟩
  | true =>
    rw [hF] at hfew
    have Hfew := Lib.hid hfew
    simp only [Bool.and_eq_true, decide_eq_true_eq] at hF
    obtain ⟨hA, hL70, hS70, hL20, hN100⟩ := few_alp hF.1 hL hS
    have hx3 := hF.2
    have HA := Lib.hid hA
    clear hfew hF hA hL hS
    have hR1 := fun t ht w' (h : Below w.heap.size w w') => Read_any nm vl vs L S t ht w' (HA.out.below h)
    have hF1 := fun t ht w' (h : Below w.heap.size w w') => Fold_any nm vl vs L S t ht w' (HA.out.below h)
    have hlaw := folds_law (validA (bl nm) (bls L) S) (bls L) S (fun h => ⟨valid_fine h, valid_fold h⟩) (bl x)
    have hR0 := hR1 x (by omega)
    have hF0 := hF1 x (by omega)
    generalize validA (bl nm) (bls L) S = V at *
    generalize readA V (bls L) (bl x) = r at *
    generalize foldA V (bls L) S (bl x) = f at *
    obtain ⟨a, c, p⟩ := r
    obtain ⟨s, e⟩ := f
    dsimp only at hlaw
    have H1 := Lib.hid hF0
    have H2 := Lib.hid hR0
    have H3 := Lib.hid hF1
    have H4 := Lib.hid hR1
    clear hR1 hF1 hR0 hF0
    rcases hlaw with ⟨hc, rfl, rfl⟩ | ⟨rfl, rfl, hf, hr, hsl, ha24, hSl, hlt, hsm⟩
    · have hcn : ((c : Int) != 0) = true := by rw [bne_iff_ne]; omega
      go_enter Tryd.func6, Tryd.ntmps6
      go_wp2_with fail
      refine (head_any _).mono ?_
      rintro e w1 ⟨rfl, hq1⟩
      have k1 := k0.below hq1 k0.lt
      have hb1 := hb0.trans (hq1.mono hb0.size)
      have x1_0 : w1.cell? ⟨w.heap.size, 0, none⟩ = some (.string nm) := k1.cell 0
      have x1_1 : w1.cell? ⟨w.heap.size, 1, none⟩ = some vl := k1.cell 1
      have x1_2 : w1.cell? ⟨w.heap.size, 2, none⟩ = some vs := k1.cell 2
      go_wp2_with fail
      refine (Hfew.out _ hb1).mono ?_
      rintro e w2 ⟨rfl, hq2⟩
      clear x1_0 x1_1 x1_2
      have k2 := k1.below hq2 k1.lt
      have hb2 := hb1.trans (hq2.mono hb1.size)
      have x2_0 : w2.cell? ⟨w.heap.size, 0, none⟩ = some (.string nm) := k2.cell 0
      have x2_1 : w2.cell? ⟨w.heap.size, 1, none⟩ = some vl := k2.cell 1
      have x2_2 : w2.cell? ⟨w.heap.size, 2, none⟩ = some vs := k2.cell 2
      go_wp2_with fail
      refine (H1.out _ hb2).mono ?_
      rintro e w3 ⟨rfl, hq3⟩
      clear x2_0 x2_1 x2_2
      have k3 := k2.below hq3 k2.lt
      have hb3 := hb2.trans (hq3.mono hb2.size)
      have x3_0 : w3.cell? ⟨w.heap.size, 0, none⟩ = some (.string nm) := k3.cell 0
      have x3_1 : w3.cell? ⟨w.heap.size, 1, none⟩ = some vl := k3.cell 1
      have x3_2 : w3.cell? ⟨w.heap.size, 2, none⟩ = some vs := k3.cell 2
      dsimp only
      go_wp2_with fail
      refine (H2.out _ hb3).mono ?_
      rintro e w4 ⟨v4, rfl, own4, hq4⟩
      clear x3_0 x3_1 x3_2
      have k4 := k3.below hq4 k3.lt
      have hb4 := hb3.trans (hq4.mono hb3.size)
      have x4_0 : w4.cell? ⟨w.heap.size, 0, none⟩ = some (.string nm) := k4.cell 0
      have x4_1 : w4.cell? ⟨w.heap.size, 1, none⟩ = some vl := k4.cell 1
      have x4_2 : w4.cell? ⟨w.heap.size, 2, none⟩ = some vs := k4.cell 2
      dsimp only
      go_wp2_with fail
      go_ret
      exact ⟨rfl, hb4⟩
    · have H5 : Hid (∀ w', Below w.heap.size w w' → Calls Tryd.prog 17 #[.agg #[.string nm, vl, vs], .string ⟨s.toArray⟩] w' (JoinR (s, 0) w')) := Lib.hid fun w' h => by
        have h1 := H3.out ⟨s.toArray⟩ (by rw [← bl_len, bl_mk]; omega) w' h
        rw [bl_mk, hf] at h1
        exact h1
      have H6 : Hid (∀ w', Below w.heap.size w w' → Calls Tryd.prog 13 #[.agg #[.string nm, vl, vs], .string ⟨s.toArray⟩] w' (ReadR (a.map (smallA S), 0, 0) w')) := Lib.hid fun w' h => by
        have h1 := H4.out ⟨s.toArray⟩ (by rw [← bl_len, bl_mk]; omega) w' h
        rw [bl_mk, hr] at h1
        exact h1
      obtain ⟨sb, so, sc, hsv, hsb, hsm2, hscell⟩ := HA.out.ss.open (by have := hlt a[0] (List.getElem_mem (by omega)); omega)
      subst hsv
      unfold maxLen at hsm2
      have Hsc := Lib.hid hscell
      have Hlt := Lib.hid hlt
      have HSm := Lib.hid hsm
      clear hf hr hscell hlt hsm
      go_enter Tryd.func6, Tryd.ntmps6
      go_wp2_with fail
      refine (head_any _).mono ?_
      rintro e w1 ⟨rfl, hq1⟩
      have k1 := k0.below hq1 k0.lt
      have hb1 := hb0.trans (hq1.mono hb0.size)
      have x1_0 : w1.cell? ⟨w.heap.size, 0, none⟩ = some (.string nm) := k1.cell 0
      have x1_1 : w1.cell? ⟨w.heap.size, 1, none⟩ = some vl := k1.cell 1
      have x1_2 : w1.cell? ⟨w.heap.size, 2, none⟩ = some (.slice (some ⟨sb, so, none⟩) S.length sc) := k1.cell 2
      go_wp2_with fail
      refine (Hfew.out _ hb1).mono ?_
      rintro e w2 ⟨rfl, hq2⟩
      clear x1_0 x1_1 x1_2
      have k2 := k1.below hq2 k1.lt
      have hb2 := hb1.trans (hq2.mono hb1.size)
      have x2_0 : w2.cell? ⟨w.heap.size, 0, none⟩ = some (.string nm) := k2.cell 0
      have x2_1 : w2.cell? ⟨w.heap.size, 1, none⟩ = some vl := k2.cell 1
      have x2_2 : w2.cell? ⟨w.heap.size, 2, none⟩ = some (.slice (some ⟨sb, so, none⟩) S.length sc) := k2.cell 2
      go_wp2_with fail
      refine (H1.out _ hb2).mono ?_
      rintro e w3 ⟨rfl, hq3⟩
      clear x2_0 x2_1 x2_2
      have k3 := k2.below hq3 k2.lt
      have hb3 := hb2.trans (hq3.mono hb2.size)
      have x3_0 : w3.cell? ⟨w.heap.size, 0, none⟩ = some (.string nm) := k3.cell 0
      have x3_1 : w3.cell? ⟨w.heap.size, 1, none⟩ = some vl := k3.cell 1
      have x3_2 : w3.cell? ⟨w.heap.size, 2, none⟩ = some (.slice (some ⟨sb, so, none⟩) S.length sc) := k3.cell 2
      dsimp only
      go_wp2_with fail
      refine (H2.out _ hb3).mono ?_
      rintro e w4 ⟨v4, rfl, own4, hq4⟩
      clear x3_0 x3_1 x3_2
      have k4 := k3.below hq4 k3.lt
      have hb4 := hb3.trans (hq4.mono hb3.size)
      have x4_0 : w4.cell? ⟨w.heap.size, 0, none⟩ = some (.string nm) := k4.cell 0
      have x4_1 : w4.cell? ⟨w.heap.size, 1, none⟩ = some vl := k4.cell 1
      have x4_2 : w4.cell? ⟨w.heap.size, 2, none⟩ = some (.slice (some ⟨sb, so, none⟩) S.length sc) := k4.cell 2
      dsimp only at own4 ⊢
      go_wp2_with fail
      refine (H5.out _ hb4).mono ?_
      rintro e w5 ⟨rfl, hq5⟩
      clear x4_0 x4_1 x4_2
      have k5 := k4.below hq5 k4.lt
      have hb5 := hb4.trans (hq5.mono hb4.size)
      have x5_0 : w5.cell? ⟨w.heap.size, 0, none⟩ = some (.string nm) := k5.cell 0
      have x5_1 : w5.cell? ⟨w.heap.size, 1, none⟩ = some vl := k5.cell 1
      have x5_2 : w5.cell? ⟨w.heap.size, 2, none⟩ = some (.slice (some ⟨sb, so, none⟩) S.length sc) := k5.cell 2
      dsimp only
      go_wp2_with fail
      refine (H6.out _ hb5).mono ?_
      rintro e w6 ⟨v6, rfl, own6, hq6⟩
      clear x5_0 x5_1 x5_2
      have k6 := k5.below hq6 k5.lt
      have hb6 := hb5.trans (hq6.mono hb5.size)
      have x6_0 : w6.cell? ⟨w.heap.size, 0, none⟩ = some (.string nm) := k6.cell 0
      have x6_1 : w6.cell? ⟨w.heap.size, 1, none⟩ = some vl := k6.cell 1
      have x6_2 : w6.cell? ⟨w.heap.size, 2, none⟩ = some (.slice (some ⟨sb, so, none⟩) S.length sc) := k6.cell 2
      dsimp only at own6 ⊢
      obtain ⟨g4, e4, hv4, hgB4, hgw4, hm4, hcell4, _⟩ := row_cells own4 (by omega)
      obtain ⟨g6, e6, hv6, hgB6, hgw6, hm6, hcell6, _⟩ := row_cells own6 (by rw [List.length_map]; omega)
      rw [List.length_map] at hv6 hm6
      subst hv4 hv6
      unfold maxLen at hm4 hm6
      have hq46 := hq5.trans (hq6.mono hq5.size)
      have Hc4 : Hid (∀ k (h : k < a.length), w6.cell? ⟨g4, k, none⟩ = some (.int .i64 (a[k] : Int))) := Lib.hid fun k h => by
        rw [hq46.cell (p := ⟨g4, k, none⟩) hgw4, hcell4 k h]; simp [intsV, h]
      have Hc6 : Hid (∀ k (h : k < a.length), w6.cell? ⟨g6, k, none⟩ = some (.int .i64 (smallA S a[k] : Int))) := Lib.hid fun k h => by
        rw [hcell6 k (by rw [List.length_map]; exact h)]; simp [intsV, h]
      have hg4w : g4 < w6.heap.size := Nat.lt_of_lt_of_le hgw4 hq46.size
      clear hcell4 hcell6
      go_wp2_with fail
      go_loopw [16] (fun i wr => ∃ k : Nat, k ≤ a.length ∧ i = .int .i64 k ∧ Below w6.heap.size w6 wr) (fun i _ => a.length - (intOf i).toNat)
      case atStart => exact ⟨0, by omega, rfl, Below.refl _ _⟩
      case round =>
        obtain ⟨k, hk, rfl, hbr⟩ := hrel
        have hbw := hb6.trans (hbr.mono hb6.size)
        by_cases hlk : k < a.length
        · have kr := k6.below hbr k6.lt
          have z0 : wr.cell? ⟨w.heap.size, 0, none⟩ = some (.string nm) := kr.cell 0
          have z1 : wr.cell? ⟨w.heap.size, 1, none⟩ = some vl := kr.cell 1
          have z2 : wr.cell? ⟨w.heap.size, 2, none⟩ = some (.slice (some ⟨sb, so, none⟩) S.length sc) := kr.cell 2
          have c4 : wr.cell? ⟨g4, k, none⟩ = some (.int .i64 (a[k] : Int)) := (hbr.cell (p := ⟨g4, k, none⟩) hg4w).trans (Hc4.out k hlk)
          have c6 : wr.cell? ⟨g6, k, none⟩ = some (.int .i64 (smallA S a[k] : Int)) := (hbr.cell (p := ⟨g6, k, none⟩) hgw6).trans (Hc6.out k hlk)
          have hml := Hlt.out a[k] (List.getElem_mem hlk)
          have hcs : wr.cell? ⟨sb, so + a[k], none⟩ = some (.int .i64 (smallA S a[k] : Int)) := by
            refine ((hbw.cell (p := ⟨sb, so + a[k], none⟩) hsb).trans (Hsc.out _ (by omega))).trans ?_
            rw [← getD_of (by omega : a[k] < S.length), HSm.out _ hml]
          have q1 : (k : Int) < (a.length : Int) := by omega
          have q2 : (a[k] : Int) < (S.length : Int) := by omega
          have q3 : decide ((a[k] : Int) < 0) = false := by simp
          have q4 : decide ((S.length : Int) ≤ (a[k] : Int)) = false := by simp; omega
          have q5 : ((smallA S a[k] : Int) != (smallA S a[k] : Int)) = false := by simp
          generalize a[k] = m at *
          generalize smallA S m = m2 at *
          go_wp2_with fail
          go_quiet (fail)
          go_wp2_with fail
          refine ⟨?_, ?measure⟩
          · (repeat apply Exists.intro)
            refine ⟨⟨k + 1, by omega, by go_num, hbr.trans (below_drewN wr nq w6.heap.size)⟩, rfl⟩
          case measure => simp [intOf]; omega
        · obtain rfl : k = a.length := by omega
          go_wp2_with fail
          go_ret
          exact ⟨rfl, hbw⟩
end Go.Proofs.YtcabhanmeookkaaDoor.Al
