/- Walks over package polygon: do a ring's sides meet only where they should? -/
import Derived.Test.YtohkmkkcblbemaaPolW6
namespace Go.Proofs.Ytohkmkkcblbemaa.Ge
set_option linter.unusedVariables false
set_option linter.unusedSimpArgs false
open Go.RowKit
open Go.Proofs.Ytohkmkkcblbemaa.Fr (Two)

def freeL (l : List Sd) : Bool := (List.range l.length).all fun i => (List.range i).all fun k => freeB (l.getD i ((0, 0), (0, 0))) (l.getD k ((0, 0), (0, 0)))
theorem sides_getD {r : List Pt} {i : Nat} (hi : i < r.length) : (sidesL r).getD i ((0, 0), (0, 0)) = sideAt r i := by
  unfold sidesL
  rw [List.getD_eq_getElem?_getD, List.getElem?_map, List.getElem?_range hi]
  rfl
theorem simple_eq (r : List Pt) : freeL (sidesL r) = simpleB r := by
  unfold freeL simpleB
  rw [sides_length, Bool.eq_iff_iff, List.all_eq_true, List.all_eq_true]
  have key : ∀ i ∈ List.range r.length, ((List.range i).all fun k => freeB ((sidesL r).getD i ((0, 0), (0, 0))) ((sidesL r).getD k ((0, 0), (0, 0)))) = (List.range i).all fun k => freeB (sideAt r i) (sideAt r k) := fun i hi => by
    have hi := List.mem_range.1 hi
    rw [Bool.eq_iff_iff, List.all_eq_true, List.all_eq_true]
    constructor
    · intro h k hk
      have := h k hk
      rwa [sides_getD hi, sides_getD (by have := List.mem_range.1 hk; omega)] at this
    · intro h k hk
      rw [sides_getD hi, sides_getD (by have := List.mem_range.1 hk; omega)]
      exact h k hk
  constructor
  · intro h i hi; rw [← key i hi]; exact h i hi
  · intro h i hi; rw [key i hi]; exact h i hi
theorem free_yes {l : List Sd} (h : ∀ i (hi : i < l.length) k (hk : k < i), freeB l[i] (l[k]'(Nat.lt_trans hk hi)) = true) : freeL l = true := by
  unfold freeL
  rw [List.all_eq_true]
  intro i hi
  have hi := List.mem_range.1 hi
  rw [List.all_eq_true]
  intro k hk
  have hk := List.mem_range.1 hk
  rw [List.getD_eq_getElem?_getD, List.getD_eq_getElem?_getD, List.getElem?_eq_getElem hi, List.getElem?_eq_getElem (Nat.lt_trans hk hi)]
  exact h i hi k hk
theorem free_no {l : List Sd} {i k : Nat} (hi : i < l.length) (hk : k < i) (h : freeB l[i] (l[k]'(Nat.lt_trans hk hi)) = false) : freeL l = false := by
  rw [Bool.eq_false_iff]
  intro ha
  unfold freeL at ha
  rw [List.all_eq_true] at ha
  have h1 := ha i (List.mem_range.2 hi)
  rw [List.all_eq_true] at h1
  have h2 := h1 k (List.mem_range.2 hk)
  rw [List.getD_eq_getElem?_getD, List.getD_eq_getElem?_getD, List.getElem?_eq_getElem hi, List.getElem?_eq_getElem (Nat.lt_trans hk hi)] at h2
  simp only [Option.getD_some] at h2
  rw [h] at h2
  cases h2
theorem free_val (s t : Sd) : freeB s t = (decide (s.1.1 = t.2.1 ∧ s.1.2 = t.2.2) || (decide (t.1.1 = s.2.1 ∧ t.1.2 = s.2.2) || crossV s.1.1 s.1.2 s.2.1 s.2.2 t.1.1 t.1.2 t.2.1 t.2.2 == 0)) := by
  unfold freeB crossS
  have e : ∀ p q : Int × Int, (p == q) = decide (p.1 = q.1 ∧ p.2 = q.2) := fun p q => by
    rw [Bool.eq_iff_iff, beq_iff_eq, decide_eq_true_eq]
    exact Prod.ext_iff
  rw [e, e]
abbrev sdV (s : Sd) : Value := .agg #[.int .i64 s.1.1, .int .i64 s.1.2, .int .i64 s.2.1, .int .i64 s.2.2]

set_option maxRecDepth 100000 in
set_option maxHeartbeats 8000000 in
theorem simple_any (v : Value) (r : List Pt) (hr : onL r) (hlen : 1 ≤ r.length ∧ r.length ≤ 1000) (w : World) (hv : Ring w v r) :
    Calls Try.prog 51 #[v] w fun e w' => e = .returned (.bool (simpleB r)) ∧ Below w.heap.size w w' := by
  obtain ⟨b, off, cap, rfl, hbw, hcells⟩ := hv
  have HSD := Lib.hid (sides_any (some ⟨b, off, none⟩) r.length cap w)
  have hb1 := (Below.refl w.heap.size w).alloc (Nat.le_refl _) (.cells #[.slice (some ⟨b, off, none⟩) r.length cap] 27)
  have HCO := Lib.hid (collect_any b off cap w.heap.size r hr hlen (w.alloc (.cells #[.slice (some ⟨b, off, none⟩) r.length cap] 27)) (by simp) (by simp; omega) (Boxed.new w 27 (.slice (some ⟨b, off, none⟩) r.length cap)).cell (fun i hi => (hcells i hi).below hb1 hbw))
  have hN := sides_length r
  clear hcells
  rw [← simple_eq]
  generalize sidesL r = l at *
  go_enter Try.func51, Try.ntmps51
  go_wp2_with fail
  refine HSD.out.mono ?_
  rintro e w1 ⟨rfl, rfl⟩
  go_wp2_with fail
  refine HCO.out.mono ?_
  rintro e w2 ⟨v, rfl, hv, hb2⟩
  obtain ⟨g, cp, rfl, hcp, hg, hcells⟩ := OwnSd.sl hv (by omega)
  have hbA := hb1.trans (hb2.mono hb1.size)
  have HC := Lib.hid (fun (w' : World) (hw : Below w2.heap.size w2 w') i (hi : i < l.length) => And.intro (And.intro ((hw.cell (p := ⟨g, i * 4, none⟩) hg).trans (hcells i hi).1.1) ((hw.cell (p := ⟨g, i * 4 + 1, none⟩) hg).trans (hcells i hi).1.2)) (And.intro ((hw.cell (p := ⟨g, i * 4 + 2, none⟩) hg).trans (hcells i hi).2.1) ((hw.cell (p := ⟨g, i * 4 + 3, none⟩) hg).trans (hcells i hi).2.2)))
  have HY := Lib.hid (@free_yes l)
  have HNO := Lib.hid (fun i k => @free_no l i k)
  have HFV := Lib.hid free_val
  obtain ⟨hl1, hl2⟩ := hlen
  rw [← hN] at hl1 hl2
  clear hv hcells hb1 hb2 HSD HCO hN hr
  go_upto_region 3 with fail
  go_loopw [13] (fun i wr => ∃ k : Nat, i = .int .i64 (k : Int) ∧ k ≤ l.length ∧ (∀ i (hi : i < l.length), i < k → ∀ j (hj : j < i), freeB l[i] (l[j]'(Nat.lt_trans hj hi)) = true) ∧ Below w2.heap.size w2 wr) (fun i _ => l.length - (intOf i).toNat)
  case atStart => exact ⟨0, rfl, Nat.zero_le _, fun i hi h => by omega, Below.refl _ _⟩
  case round =>
    obtain ⟨k, rfl, hk, hall, hbel⟩ := hrel
    have HL := Lib.hid hall
    clear hall
    by_cases hlt : k < l.length
    · obtain ⟨⟨c1, c2⟩, c3, c4⟩ := HC.out wr hbel k hlt
      obtain ⟨⟨⟨ax, ay⟩, bx, bz⟩, esk⟩ : ∃ s : Sd, l[k] = s := ⟨_, rfl⟩
      rw [esk] at c1 c2 c3 c4
      dsimp only at c1 c2 c3 c4
      have ESK := Lib.hid esk
      clear esk
      have hz := hbel.size
      go_upto_region 6 with fail
      have tS := SdAt.new wr ((ax, ay), bx, bz)
      dsimp only at tS
      have hbV := hbel.alloc hz (.cells #[.int .i64 ax, .int .i64 ay, .int .i64 bx, .int .i64 bz] 83)
      clear c1 c2 c3 c4
      generalize wr.alloc (.cells #[.int .i64 ax, .int .i64 ay, .int .i64 bx, .int .i64 bz] 83) = V at *
      generalize wr.heap.size = Bs at *
      go_loopw [22] (fun j wq => ∃ m : Nat, j = .int .i64 (m : Int) ∧ m ≤ k ∧ (∀ j (hj : j < m) (hjl : j < l.length), freeB l[k] l[j] = true) ∧ Below V.heap.size V wq) (fun j _ => k - (intOf j).toNat)
      case atStart => exact ⟨0, rfl, Nat.zero_le _, fun j hj => by omega, Below.refl _ _⟩
      case round =>
        obtain ⟨m, rfl, hm, hall2, hbq⟩ := hrel
        have hzV := hbV.size
        have hbq2 := hbV.trans (hbq.mono hzV)
        by_cases hmk : m < k
        · have hml : m < l.length := Nat.lt_trans hmk hlt
          obtain ⟨⟨d1, d2⟩, d3, d4⟩ := HC.out wr hbq2 m hml
          have HSTEP := Lib.hid (show freeB l[k] l[m] = true → ∀ j (hj : j < m + 1) (hjl : j < l.length), freeB l[k] l[j] = true from fun h j hj hjl => by
            by_cases e : j = m
            · subst e; exact h
            · exact hall2 j (by omega) hjl)
          have HNX := Lib.hid (HNO.out k m hlt hmk)
          have HV := HFV.out l[k] l[m]
          generalize freeB l[k] l[m] = FB at HV HSTEP HNX
          obtain ⟨⟨⟨cx, cy⟩, dx, dz⟩, esm⟩ : ∃ s : Sd, l[m] = s := ⟨_, rfl⟩
          rw [esm] at d1 d2 d3 d4
          rw [ESK.out, esm] at HV
          dsimp only at d1 d2 d3 d4 HV
          have HV := Lib.hid HV
          clear esm
          have HF1 := Lib.hid (fun w => follows_any ax ay bx bz cx cy dx dz w)
          have HF2 := Lib.hid (fun w => follows_any cx cy dx dz ax ay bx bz w)
          have HCR := Lib.hid (fun w => pcross_any ax ay bx bz cx cy dx dz w)
          have qS := tS.below hbq tS.lt
          have qT := SdAt.new wr ((cx, cy), dx, dz)
          dsimp only at qT
          have qS1 := qS.alloc (.cells #[.int .i64 cx, .int .i64 cy, .int .i64 dx, .int .i64 dz] 83)
          have hbW := hbq.alloc hbq.size (.cells #[.int .i64 cx, .int .i64 cy, .int .i64 dx, .int .i64 dz] 83)
          clear hall2
          generalize decide (ax = dx ∧ ay = dz) = F1 at HV HF1
          generalize decide (cx = bx ∧ cy = bz) = F2 at HV HF2
          generalize crossV ax ay bx bz cx cy dx dz = CV at HV HCR
          go_upto_region 8 with fail
          generalize wr.alloc (.cells #[.int .i64 cx, .int .i64 cy, .int .i64 dx, .int .i64 dz] 83) = X at *
          generalize wr.heap.size = Bt at *
          clear d1 d2 d3 d4 qS
          have hbW2 := hbV.trans (hbW.mono hzV)
          clear hbq2
          cases F1 with
          | true =>
            obtain ⟨f0, f1, f2, f3⟩ := qS1.facts
            obtain ⟨g0, g1, g2, g3⟩ := qT.facts
            go_wp2_with fail
            refine (HF1.out _).mono ?_
            rintro e y1 ⟨rfl, hy1⟩
            have s1 := qS1.below hy1 qS1.lt
            have t1 := qT.below hy1 qT.lt
            have z1 := hbW.trans (hy1.mono hbW.size)
            clear f0 f1 f2 f3 g0 g1 g2 g3
            obtain ⟨f0, f1, f2, f3⟩ := s1.facts
            obtain ⟨g0, g1, g2, g3⟩ := t1.facts
            go_wp2_with fail
            go_roundw
            case rel => exact ⟨m + 1, by go_num, by omega, HSTEP.out (by rw [HV.out]; rfl), z1⟩
            case measure => simp [intOf]; omega
          | false =>
            cases F2 with
            | true =>
              obtain ⟨f0, f1, f2, f3⟩ := qS1.facts
              obtain ⟨g0, g1, g2, g3⟩ := qT.facts
              go_wp2_with fail
              refine (HF1.out _).mono ?_
              rintro e y2 ⟨rfl, hy2⟩
              have s2 := qS1.below hy2 qS1.lt
              have t2 := qT.below hy2 qT.lt
              have z2 := hbW.trans (hy2.mono hbW.size)
              clear f0 f1 f2 f3 g0 g1 g2 g3
              obtain ⟨f0, f1, f2, f3⟩ := s2.facts
              obtain ⟨g0, g1, g2, g3⟩ := t2.facts
              go_wp2_with fail
              refine (HF2.out _).mono ?_
              rintro e y3 ⟨rfl, hy3⟩
              have s3 := s2.below hy3 s2.lt
              have t3 := t2.below hy3 t2.lt
              have z3 := z2.trans (hy3.mono z2.size)
              clear f0 f1 f2 f3 g0 g1 g2 g3
              obtain ⟨f0, f1, f2, f3⟩ := s3.facts
              obtain ⟨g0, g1, g2, g3⟩ := t3.facts
              go_wp2_with fail
              go_roundw
              case rel => exact ⟨m + 1, by go_num, by omega, HSTEP.out (by rw [HV.out]; rfl), z3⟩
              case measure => simp [intOf]; omega
            | false =>
              by_cases hC : CV = 0
              · have e1 : (CV == 0) = true := by simpa using hC
                have e2 : (CV != 0) = false := by simpa using hC
                obtain ⟨f0, f1, f2, f3⟩ := qS1.facts
                obtain ⟨g0, g1, g2, g3⟩ := qT.facts
                go_wp2_with fail
                refine (HF1.out _).mono ?_
                rintro e y4 ⟨rfl, hy4⟩
                have s4 := qS1.below hy4 qS1.lt
                have t4 := qT.below hy4 qT.lt
                have z4 := hbW.trans (hy4.mono hbW.size)
                clear f0 f1 f2 f3 g0 g1 g2 g3
                obtain ⟨f0, f1, f2, f3⟩ := s4.facts
                obtain ⟨g0, g1, g2, g3⟩ := t4.facts
                go_wp2_with fail
                refine (HF2.out _).mono ?_
                rintro e y5 ⟨rfl, hy5⟩
                have s5 := s4.below hy5 s4.lt
                have t5 := t4.below hy5 t4.lt
                have z5 := z4.trans (hy5.mono z4.size)
                clear f0 f1 f2 f3 g0 g1 g2 g3
                obtain ⟨f0, f1, f2, f3⟩ := s5.facts
                obtain ⟨g0, g1, g2, g3⟩ := t5.facts
                go_wp2_with fail
                refine (HCR.out _).mono ?_
                rintro e y6 ⟨rfl, hy6⟩
                have s6 := s5.below hy6 s5.lt
                have t6 := t5.below hy6 t5.lt
                have z6 := z5.trans (hy6.mono z5.size)
                clear f0 f1 f2 f3 g0 g1 g2 g3
                obtain ⟨f0, f1, f2, f3⟩ := s6.facts
                obtain ⟨g0, g1, g2, g3⟩ := t6.facts
                go_wp2_with fail
                go_roundw
                case rel => exact ⟨m + 1, by go_num, by omega, HSTEP.out (by rw [HV.out]; rw [e1]; rfl), z6⟩
                case measure => simp [intOf]; omega
              · have e1 : (CV == 0) = false := by simpa using hC
                have e2 : (CV != 0) = true := by simpa using hC
                have eF : freeL l = false := HNX.out (by rw [HV.out, e1]; rfl)
                clear hC
                obtain ⟨f0, f1, f2, f3⟩ := qS1.facts
                obtain ⟨g0, g1, g2, g3⟩ := qT.facts
                go_wp2_with fail
                refine (HF1.out _).mono ?_
                rintro e y7 ⟨rfl, hy7⟩
                have s7 := qS1.below hy7 qS1.lt
                have t7 := qT.below hy7 qT.lt
                have z7 := hbW.trans (hy7.mono hbW.size)
                clear f0 f1 f2 f3 g0 g1 g2 g3
                obtain ⟨f0, f1, f2, f3⟩ := s7.facts
                obtain ⟨g0, g1, g2, g3⟩ := t7.facts
                go_wp2_with fail
                refine (HF2.out _).mono ?_
                rintro e y8 ⟨rfl, hy8⟩
                have s8 := s7.below hy8 s7.lt
                have t8 := t7.below hy8 t7.lt
                have z8 := z7.trans (hy8.mono z7.size)
                clear f0 f1 f2 f3 g0 g1 g2 g3
                obtain ⟨f0, f1, f2, f3⟩ := s8.facts
                obtain ⟨g0, g1, g2, g3⟩ := t8.facts
                go_wp2_with fail
                refine (HCR.out _).mono ?_
                rintro e y9 ⟨rfl, hy9⟩
                have s9 := s8.below hy9 s8.lt
                have t9 := t8.below hy9 t8.lt
                have z9 := z8.trans (hy9.mono z8.size)
                clear f0 f1 f2 f3 g0 g1 g2 g3
                obtain ⟨f0, f1, f2, f3⟩ := s9.facts
                obtain ⟨g0, g1, g2, g3⟩ := t9.facts
                go_wp2_with fail
                go_ret
                exact ⟨by rw [eF]; rfl, hbA.trans ((hbV.trans (z9.mono hzV)).mono hbA.size)⟩
        · obtain rfl : m = k := by omega
          have hnx := Lib.hid (show ∀ i (hi : i < l.length), i < m + 1 → ∀ j (hj : j < i), freeB l[i] (l[j]'(Nat.lt_trans hj hi)) = true from fun i hi him j hj => by
            by_cases e : i = m
            · subst e; exact hall2 j hj (Nat.lt_trans hj hi)
            · exact HL.out i hi (by omega) j hj)
          clear hall2
          go_wp2_with fail
          go_roundw
          case rel => exact ⟨m + 1, by go_num, by omega, hnx.out, hbq2⟩
          case measure => simp [intOf]; omega
    · obtain rfl : k = l.length := by omega
      have e : freeL l = true := HY.out (fun i hi j hj => HL.out i hi hi j hj)
      clear HY
      go_wp2_with fail
      go_ret
      exact ⟨by rw [e]; rfl, hbA.trans (hbel.mono hbA.size)⟩
end Go.Proofs.Ytohkmkkcblbemaa.Ge
