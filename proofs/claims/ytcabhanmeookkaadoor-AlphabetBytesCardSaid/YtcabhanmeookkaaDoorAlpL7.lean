/- Walk over layer 10's law: AlphabetBytes. -/
import Derived.Test.YtcabhanmeookkaaDoorAlpBy
namespace Go.Proofs.YtcabhanmeookkaaDoor.Al
set_option linter.unusedVariables false
set_option linter.unusedSimpArgs false
open Go.RowKit

set_option maxRecDepth 100000 in
set_option maxHeartbeats 8000000 in
theorem lawBytes (nm : ByteArray) (vl vs : Value) (L : List ByteArray) (S : List Int) (hnm : nm.size ≤ 9223372036854775807) (w : World) (hL : StrSl w vl L) (hS : IntSl w vs S) :
    Calls Tryd.prog 10 #[.agg #[.string nm, vl, vs]] w fun e w' => e = .returned (.bool true) ∧ Below w.heap.size w w' := by
  obtain ⟨al, cl, rfl⟩ := hL.form
  obtain ⟨as0, cs, rfl⟩ := hS.form
  have hb0 : Below w.heap.size w (w.alloc (.cells #[.string nm, .slice al L.length cl, .slice as0 S.length cs] 25)) := (Below.refl _ _).alloc (Nat.le_refl _) _
  have k0 := Blk.new w 25 #[.string nm, .slice al L.length cl, .slice as0 S.length cs]
  have HL := Lib.hid hL
  have HS := Lib.hid hS
  have hfew := fun w' (h : Below w.heap.size w w') => few_any nm (.slice al L.length cl) (.slice as0 S.length cs) L S (⟨#[]⟩ : ByteArray) hnm (by first | exact hx | decide) w' (HL.out.below h) (HS.out.below h)
  cases hF : (fewA nm L S && decide (((⟨#[]⟩ : ByteArray)).size ≤ 300)) with
  | false =>
    rw [hF] at hfew
    have Hfew := Lib.hid hfew
    clear hfew hF
    go_enter Tryd.func10, Tryd.ntmps10
    go_wp2_with fail
    refine (head_any _).mono ?_
    rintro e w1 ⟨rfl, hq1⟩
    have k1 := k0.below hq1 k0.lt
    have hb1 := hb0.trans (hq1.mono hb0.size)
    have x1_0 : w1.cell? ⟨w.heap.size, 0, none⟩ = some (.string nm) := k1.cell 0
    have x1_1 : w1.cell? ⟨w.heap.size, 1, none⟩ = some (.slice al L.length cl) := k1.cell 1
    have x1_2 : w1.cell? ⟨w.heap.size, 2, none⟩ = some (.slice as0 S.length cs) := k1.cell 2
    go_wp2_with fail
    refine (Hfew.out _ hb1).mono ?_
    rintro e w2 ⟨rfl, hq2⟩
    clear x1_0 x1_1 x1_2
    have k2 := k1.below hq2 k1.lt
    have hb2 := hb1.trans (hq2.mono hb1.size)
    have x2_0 : w2.cell? ⟨w.heap.size, 0, none⟩ = some (.string nm) := k2.cell 0
    have x2_1 : w2.cell? ⟨w.heap.size, 1, none⟩ = some (.slice al L.length cl) := k2.cell 1
    have x2_2 : w2.cell? ⟨w.heap.size, 2, none⟩ = some (.slice as0 S.length cs) := k2.cell 2
    go_wp2_with fail
    go_ret
    exact ⟨rfl, hb2⟩
  | true =>
    rw [hF] at hfew
    have Hfew := Lib.hid hfew
    simp only [Bool.and_eq_true, decide_eq_true_eq] at hF
    obtain ⟨hA, hL70, hS70, hL20, hN100⟩ := few_alp hF.1 hL hS
    have hx3 := hF.2
    have HA := Lib.hid hA
    clear hfew hF hA hL hS
    have Hval := Lib.hid (fun w' (h : Below w.heap.size w w') => Valid_any nm (.slice al L.length cl) (.slice as0 S.length cs) L S w' (HA.out.below h))
    generalize hVV : validA (bl nm) (bls L) S = V at *
    have HV := Lib.hid hVV
    clear hVV
    go_enter Tryd.func10, Tryd.ntmps10
    go_wp2_with fail
    refine (head_any _).mono ?_
    rintro e w1 ⟨rfl, hq1⟩
    have k1 := k0.below hq1 k0.lt
    have hb1 := hb0.trans (hq1.mono hb0.size)
    have x1_0 : w1.cell? ⟨w.heap.size, 0, none⟩ = some (.string nm) := k1.cell 0
    have x1_1 : w1.cell? ⟨w.heap.size, 1, none⟩ = some (.slice al L.length cl) := k1.cell 1
    have x1_2 : w1.cell? ⟨w.heap.size, 2, none⟩ = some (.slice as0 S.length cs) := k1.cell 2
    go_wp2_with fail
    refine (Hfew.out _ hb1).mono ?_
    rintro e w2 ⟨rfl, hq2⟩
    clear x1_0 x1_1 x1_2
    have k2 := k1.below hq2 k1.lt
    have hb2 := hb1.trans (hq2.mono hb1.size)
    have x2_0 : w2.cell? ⟨w.heap.size, 0, none⟩ = some (.string nm) := k2.cell 0
    have x2_1 : w2.cell? ⟨w.heap.size, 1, none⟩ = some (.slice al L.length cl) := k2.cell 1
    have x2_2 : w2.cell? ⟨w.heap.size, 2, none⟩ = some (.slice as0 S.length cs) := k2.cell 2
    go_upto_region 4 with fail
    go_cut [4] (fun v wx => ∃ g : Bool, v = .bool g ∧ Hid (g = true ↔ (1 ≤ L.length ∧ L.length ≤ 64 ∧ S.length = L.length)) ∧ w2 = wx)
    case first => as_aux_lemma =>
      by_cases c1 : 1 ≤ L.length
      · have d1 : (1 : Int) ≤ (L.length : Int) := by omega
        by_cases c2 : L.length ≤ 64
        · have d2 : (L.length : Int) ≤ 64 := by omega
          by_cases c3 : S.length = L.length
          · have d3 : ((S.length : Int) == (L.length : Int)) = true := by rw [beq_iff_eq]; omega
            have Hg : Hid (true = true ↔ (1 ≤ L.length ∧ L.length ≤ 64 ∧ S.length = L.length)) := Lib.hid (by simp only [true_iff]; exact ⟨c1, c2, c3⟩)
            clear c1 c2 c3
            go_wp2_with fail
            go_meet
            exact ⟨true, rfl, Lib.hid (by simpa using Hg.out), rfl⟩
          · have d3 : ((S.length : Int) == (L.length : Int)) = false := by rw [beq_eq_false_iff_ne]; omega
            have Hg : Hid (false = true ↔ (1 ≤ L.length ∧ L.length ≤ 64 ∧ S.length = L.length)) := Lib.hid (by simp only [Bool.false_eq_true, false_iff]; exact fun h => c3 h.2.2)
            clear c1 c2 c3
            go_wp2_with fail
            go_meet
            exact ⟨false, rfl, Hg, rfl⟩
        · have d2 : ¬ (L.length : Int) ≤ 64 := by omega
          have Hg : Hid (false = true ↔ (1 ≤ L.length ∧ L.length ≤ 64 ∧ S.length = L.length)) := Lib.hid (by simp only [Bool.false_eq_true, false_iff]; exact fun h => c2 h.2.1)
          clear c1 c2
          go_wp2_with fail
          go_meet
          exact ⟨false, rfl, Hg, rfl⟩
      · have d1 : ¬ (1 : Int) ≤ (L.length : Int) := by omega
        have Hg : Hid (false = true ↔ (1 ≤ L.length ∧ L.length ≤ 64 ∧ S.length = L.length)) := Lib.hid (by simp only [Bool.false_eq_true, false_iff]; exact fun h => c1 h.1)
        clear c1
        go_wp2_with fail
        go_meet
        exact ⟨false, rfl, Hg, rfl⟩
    case rest => as_aux_lemma =>
      obtain ⟨g, rfl, Hg, rfl⟩ := hcut
      go_wp2_with fail
      go_loop [4, 5] (fun v i => ∃ (g1 : Bool) (k : Nat), k ≤ L.length ∧ v = .bool g1 ∧ i = .int .i64 k ∧ Hid ((g1 = true ↔ (1 ≤ L.length ∧ L.length ≤ 64 ∧ S.length = L.length) ∧ Apart (bls L) k) ∧ ∀ j, j < k → okA (ltA (bls L) 0).length (ltA (bls L) j))) (fun _ i => L.length - (intOf i).toNat)
      case atStart => exact ⟨g, 0, by omega, rfl, rfl, Lib.hid ⟨by rw [Hg.out]; exact ⟨fun h => ⟨h, apart_zero _⟩, fun h => h.1⟩, fun j h => absurd h (Nat.not_lt_zero _)⟩⟩
      case round => as_aux_lemma =>
        obtain ⟨g1, k, hk, rfl, rfl, H1⟩ := hrel
        by_cases hlk : k < L.length
        · obtain ⟨b, off, cap, hsl, hbb, hmm, hcell⟩ := HA.out.sl.open (by omega)
          obtain ⟨rfl, rfl⟩ : al = some ⟨b, off, none⟩ ∧ cl = cap := by simpa using hsl
          have Hcell := Lib.hid hcell
          clear hsl hcell
          have ck : w2.cell? ⟨b, off + k, none⟩ = some (.string L[k]) := (hb2.cell (p := ⟨b, off + k, none⟩) hbb).trans (Hcell.out _ hlk)
          have h0L : 0 < L.length := by omega
          have c0 : w2.cell? ⟨b, off, none⟩ = some (.string L[0]) := (hb2.cell (p := ⟨b, off, none⟩) hbb).trans (Hcell.out 0 h0L)
          have e0 := Lib.hid (bls_get L 0 h0L)
          have ek := Lib.hid (bls_get L k hlk)
          generalize hL0 : L[0] = l0 at *
          generalize hLk : L[k] = lk at *
          have HLk := Lib.hid hLk
          clear hL0 hLk
          have q1 : (k : Int) < (L.length : Int) := by omega
          have q0 : (0 : Int) < (L.length : Int) := by omega
          by_cases c1 : lk.size = l0.size
          · have d1 : ((lk.size : Int) != (l0.size : Int)) = false := by rw [c1]; simp
            by_cases c2 : 1 ≤ lk.size
            · have d2 : ¬ (lk.size : Int) < 1 := by omega
              by_cases c3 : lk.size ≤ 3
              · have d3 : ¬ (3 : Int) < (lk.size : Int) := by omega
                have He := Lib.hid c1
                clear c1
                go_wp2_with fail
                go_loop [7] (fun i => ∃ j : Nat, j ≤ lk.size ∧ i = .int .i64 j ∧ Hid (((bl lk).take j).all byteB = true)) (fun i => lk.size - (intOf i).toNat)
                case atStart => exact ⟨0, by omega, rfl, Lib.hid rfl⟩
                case round => as_aux_lemma =>
                  obtain ⟨j, hj, rfl, Hall⟩ := hrel
                  by_cases hlt : j < lk.size
                  · have hc : lk[j].toNat < 256 := UInt8.toNat_lt lk[j]
                    cases hx : byteB lk[j] with
                    | true =>
                      obtain ⟨f1, f2, f3⟩ := byte_good hx
                      have Hx := Lib.hid (all_snoc hlt Hall.out hx)
                      clear hx
                      go_wp2_with fail
                      go_round
                      case rel => exact ⟨j + 1, by omega, by go_num, Hx⟩
                      case measure => simp [intOf]; omega
                    | false =>
                      rcases byte_bad hx with f1 | ⟨f1, f2⟩ | ⟨f1, f2, f3⟩
                      · clear hx
                        go_wp2_with fail
                        go_ret
                        exact ⟨rfl, hb2⟩
                      · clear hx
                        go_wp2_with fail
                        go_ret
                        exact ⟨rfl, hb2⟩
                      · clear hx
                        go_wp2_with fail
                        go_ret
                        exact ⟨rfl, hb2⟩
                  · obtain rfl : j = lk.size := by omega
                    have Ha := Lib.hid (show (bl lk).all byteB = true by have := Hall.out; rwa [List.take_of_length_le (by rw [bl_len]; omega)] at this)
                    go_wp2_with fail
                    go_loop [4, 8] (fun v i => ∃ (g2 : Bool) (j : Nat), j ≤ k ∧ v = .bool g2 ∧ i = .int .i64 j ∧ Hid (g2 = true ↔ g1 = true ∧ ∀ q, q < j → ltA (bls L) q ≠ bl lk)) (fun _ i => k - (intOf i).toNat)
                    case atStart => exact ⟨g1, 0, by omega, rfl, rfl, Lib.hid ⟨fun h => ⟨h, fun q hq => absurd hq (Nat.not_lt_zero _)⟩, fun h => h.1⟩⟩
                    case round => as_aux_lemma =>
                      obtain ⟨g2, j, hj, rfl, rfl, H3⟩ := hrel
                      by_cases hjk : j < k
                      · have hjL : j < L.length := by omega
                        have cj : w2.cell? ⟨b, off + j, none⟩ = some (.string L[j]) := (hb2.cell (p := ⟨b, off + j, none⟩) hbb).trans (Hcell.out _ hjL)
                        have ej := Lib.hid (bls_get L j hjL)
                        generalize L[j] = lj at *
                        have q2 : (j : Int) < (k : Int) := by omega
                        have q3 : (j : Int) < (L.length : Int) := by omega
                        cases g2 with
                        | false =>
                          have HN := Lib.hid (iff_true_step H3.out false (by simp))
                          go_wp2_with fail
                          go_round
                          case rel => exact ⟨false, j + 1, by omega, rfl, by go_num, HN⟩
                          case measure => simp [intOf]; omega
                        | true =>
                          by_cases he : lj = lk
                          · have qs : (lj.toList == lk.toList) = true := by rw [he]; simp
                            have HN := Lib.hid (iff_true_step H3.out false (by simp only [Bool.false_eq_true, true_and, ne_eq, false_iff, Classical.not_not]; rw [ej.out, he]))
                            clear he
                            go_wp2_with fail
                            go_round
                            case rel => exact ⟨false, j + 1, by omega, rfl, by go_num, HN⟩
                            case measure => simp [intOf]; omega
                          · have qs : (lj.toList == lk.toList) = false := by
                              rw [beq_eq_false_iff_ne]; intro h; rw [toList_bl, toList_bl] at h; exact he (bl_inj h)
                            have HN := Lib.hid (iff_true_step H3.out true (by simp only [true_and, ne_eq, true_iff]; rw [ej.out]; exact fun h => he (bl_inj h)))
                            clear he
                            go_wp2_with fail
                            go_round
                            case rel => exact ⟨true, j + 1, by omega, rfl, by go_num, Lib.hid (by simpa using HN.out)⟩
                            case measure => simp [intOf]; omega
                      · obtain rfl : j = k := by omega
                        have HN : Hid ((g2 = true ↔ (1 ≤ L.length ∧ L.length ≤ 64 ∧ S.length = L.length) ∧ Apart (bls L) (j + 1)) ∧ ∀ q, q < j + 1 → okA (ltA (bls L) 0).length (ltA (bls L) q)) := Lib.hid (by
                          refine ⟨?_, fun q hq => ?_⟩
                          · rw [H3.out, H1.out.1, apart_succ, ek.out]
                            exact ⟨fun h => ⟨h.1.1, h.1.2, h.2⟩, fun h => ⟨⟨h.1, h.2.1⟩, h.2.2⟩⟩
                          · rcases Nat.lt_succ_iff_lt_or_eq.1 hq with h | rfl
                            · exact H1.out.2 q h
                            · rw [ek.out, e0.out]
                              exact ⟨⟨by rw [bl_len, bl_len]; exact He.out, by rw [bl_len]; exact c2, by rw [bl_len]; exact c3⟩, Ha.out⟩)
                        go_wp2_with fail
                        go_round
                        case rel => exact ⟨g2, j + 1, by omega, rfl, by go_num, HN⟩
                        case measure => simp [intOf]; omega
              · have d3 : (3 : Int) < (lk.size : Int) := by omega
                clear c1
                go_wp2_with fail
                go_ret
                exact ⟨rfl, hb2⟩
            · have d2 : (lk.size : Int) < 1 := by omega
              clear c1
              go_wp2_with fail
              go_ret
              exact ⟨rfl, hb2⟩
          · have d1 : ((lk.size : Int) != (l0.size : Int)) = true := by rw [bne_iff_ne]; omega
            go_wp2_with fail
            go_ret
            exact ⟨rfl, hb2⟩
        · obtain rfl : k = L.length := by omega
          go_wp2_with fail
          go_loopw [4, 9] (fun v i wr => ∃ (g2 : Bool) (k : Nat), k ≤ S.length ∧ v = .bool g2 ∧ i = .int .i64 k ∧ Below w2.heap.size w2 wr ∧ Hid (g2 = true ↔ g1 = true ∧ ∀ j, j < k → 0 ≤ S.getD j 0 ∧ S.getD j 0 < (S.length : Int))) (fun _ i _ => S.length - (intOf i).toNat)
          case atStart => exact ⟨g1, 0, by omega, rfl, rfl, Below.refl _ _, Lib.hid ⟨fun h => ⟨h, fun q hq => absurd hq (Nat.not_lt_zero _)⟩, fun h => h.1⟩⟩
          case round => as_aux_lemma =>
            obtain ⟨g2, k, hk2, rfl, rfl, hbr, H2⟩ := hrel
            have kr := k2.below hbr k2.lt
            have z0 : wr.cell? ⟨w.heap.size, 0, none⟩ = some (.string nm) := kr.cell 0
            have z1 : wr.cell? ⟨w.heap.size, 1, none⟩ = some (.slice al L.length cl) := kr.cell 1
            have z2 : wr.cell? ⟨w.heap.size, 2, none⟩ = some (.slice as0 S.length cs) := kr.cell 2
            go_upto_region 21 with fail
            go_cut [115] (fun v wx => v = .bool (g2 && decide (k < S.length)) ∧ wr = wx)
            case first => as_aux_lemma =>
              cases g2 with
              | false =>
                go_wp2_with fail
                go_meet
                exact ⟨rfl, rfl⟩
              | true =>
                by_cases hlk2 : k < S.length
                · have q1 : (k : Int) < (S.length : Int) := by omega
                  go_wp2_with fail
                  go_meet
                  exact ⟨by simp [hlk2], rfl⟩
                · have q1 : ¬ (k : Int) < (S.length : Int) := by omega
                  go_wp2_with fail
                  go_meet
                  exact ⟨by simp [hlk2], rfl⟩
            case rest => as_aux_lemma =>
              obtain ⟨rfl, rfl⟩ := hcut
              cases hT : (g2 && decide (k < S.length)) with
              | true =>
                simp only [Bool.and_eq_true, decide_eq_true_eq] at hT
                obtain ⟨rfl, hkS⟩ := hT
                obtain ⟨sb, so, sc, hsl, hsb, hsm, hscell⟩ := HA.out.ss.open (by omega)
                obtain ⟨rfl, rfl⟩ : as0 = some ⟨sb, so, none⟩ ∧ cs = sc := by simpa using hsl
                have hbw := hb2.trans (hbr.mono hb2.size)
                have ck : wr.cell? ⟨sb, so + k, none⟩ = some (.int .i64 S[k]) := (hbw.cell (p := ⟨sb, so + k, none⟩) hsb).trans (hscell _ hkS)
                have ek := Lib.hid (getD_of hkS)
                clear hsl hscell
                generalize S[k] = sk at *
                have q1 : (k : Int) < (S.length : Int) := by omega
                by_cases c1 : 0 ≤ sk
                · by_cases c2 : sk < (S.length : Int)
                  · have HN := Lib.hid (iff_true_step H2.out true (by simp only [true_and, true_iff]; rw [ek.out]; exact ⟨c1, c2⟩))
                    go_wp2_with fail
                    go_quiet (fail)
                    go_wp2_with fail
                    go_roundw
                    case rel => exact ⟨true, k + 1, by omega, rfl, by go_num, hbr.trans (below_drewN wr nq w2.heap.size), Lib.hid (by simpa using HN.out)⟩
                    case measure => simp [intOf]; omega
                  · have HN := Lib.hid (iff_true_step H2.out false (by simp only [Bool.false_eq_true, true_and, false_iff]; rw [ek.out]; exact fun h => c2 h.2))
                    go_wp2_with fail
                    go_quiet (fail)
                    go_wp2_with fail
                    go_roundw
                    case rel => exact ⟨false, k + 1, by omega, by first | rfl | (simp; omega), by go_num, hbr.trans (below_drewN wr nq w2.heap.size), HN⟩
                    case measure => simp [intOf]; omega
                · have HN := Lib.hid (iff_true_step H2.out false (by simp only [Bool.false_eq_true, true_and, false_iff]; rw [ek.out]; exact fun h => c1 h.1))
                  have c3 : decide (0 ≤ sk) = false := by simp only [decide_eq_false_iff_not]; exact c1
                  clear c1
                  go_wp2_with fail
                  go_quiet (fail)
                  go_wp2_with fail
                  go_roundw
                  case rel => exact ⟨false, k + 1, by omega, by first | rfl | (simp; omega), by go_num, hbr.trans (below_drewN wr nq w2.heap.size), HN⟩
                  case measure => simp [intOf]; omega
              | false =>
                have H2' : Hid (g2 = true ↔ g1 = true ∧ ∀ j, j < S.length → 0 ≤ S.getD j 0 ∧ S.getD j 0 < (S.length : Int)) := Lib.hid (by
                  rw [H2.out]
                  cases g2 with
                  | true =>
                    have : k = S.length := by simp at hT; omega
                    rw [this]
                  | false =>
                    have h := H2.out
                    simp only [Bool.false_eq_true, false_iff] at h
                    exact ⟨fun h1 => absurd h1 h, fun h1 => absurd ⟨h1.1, fun j hj => h1.2 j (by omega)⟩ h⟩)
                clear hT H2
                go_wp2_with fail
                go_loopw [4, 10] (fun v i wr => ∃ (g3 : Bool) (k : Nat), k ≤ S.length ∧ v = .bool g3 ∧ i = .int .i64 k ∧ Below w2.heap.size w2 wr ∧ Hid (g3 = true ↔ g2 = true ∧ ∀ j, j < k → S.getD (S.getD j 0).toNat 0 = S.getD j 0)) (fun _ i _ => S.length - (intOf i).toNat)
                case atStart => exact ⟨g2, 0, by omega, rfl, rfl, hbr, Lib.hid ⟨fun h => ⟨h, fun q hq => absurd hq (Nat.not_lt_zero _)⟩, fun h => h.1⟩⟩
                case round => as_aux_lemma =>
                  obtain ⟨g3, k3', hk3, rfl, rfl, hbr3, H3⟩ := hrel
                  clear z0 z1 z2
                  have kr3 := k2.below hbr3 k2.lt
                  have z0 : wr.cell? ⟨w.heap.size, 0, none⟩ = some (.string nm) := kr3.cell 0
                  have z1 : wr.cell? ⟨w.heap.size, 1, none⟩ = some (.slice al L.length cl) := kr3.cell 1
                  have z2 : wr.cell? ⟨w.heap.size, 2, none⟩ = some (.slice as0 S.length cs) := kr3.cell 2
                  have hbw3 := hb2.trans (hbr3.mono hb2.size)
                  go_upto_region 25 with fail
                  go_cut [142] (fun v wx => v = .bool (g3 && decide (k3' < S.length)) ∧ wr = wx)
                  case first => as_aux_lemma =>
                    cases g3 with
                    | false =>
                      go_wp2_with fail
                      go_meet
                      exact ⟨rfl, rfl⟩
                    | true =>
                      by_cases hlk3 : k3' < S.length
                      · have q1 : (k3' : Int) < (S.length : Int) := by omega
                        go_wp2_with fail
                        go_meet
                        exact ⟨by simp [hlk3], rfl⟩
                      · have q1 : ¬ (k3' : Int) < (S.length : Int) := by omega
                        go_wp2_with fail
                        go_meet
                        exact ⟨by simp [hlk3], rfl⟩
                  case rest => as_aux_lemma =>
                    obtain ⟨rfl, rfl⟩ := hcut
                    cases hT : (g3 && decide (k3' < S.length)) with
                    | true =>
                      simp only [Bool.and_eq_true, decide_eq_true_eq] at hT
                      obtain ⟨rfl, hkS⟩ := hT
                      obtain ⟨sb, so, sc, hsl, hsb, hsm, hscell⟩ := HA.out.ss.open (by omega)
                      obtain ⟨rfl, rfl⟩ : as0 = some ⟨sb, so, none⟩ ∧ cs = sc := by simpa using hsl
                      obtain ⟨r1, r2⟩ := (H2'.out.1 (H3.out.1 rfl).1).2 k3' hkS
                      obtain ⟨m, hm⟩ := Int.eq_ofNat_of_zero_le r1
                      have hmS : m < S.length := by omega
                      have hSk : S[k3'] = (m : Int) := by rw [← getD_of hkS]; exact hm
                      have ck : wr.cell? ⟨sb, so + k3', none⟩ = some (.int .i64 (m : Int)) := (hbw3.cell (p := ⟨sb, so + k3', none⟩) hsb).trans ((hscell _ hkS).trans (by rw [hSk]))
                      have cm : wr.cell? ⟨sb, so + m, none⟩ = some (.int .i64 S[m]) := (hbw3.cell (p := ⟨sb, so + m, none⟩) hsb).trans (hscell _ hmS)
                      have ek := Lib.hid (show S.getD (S.getD k3' 0).toNat 0 = S[m] by rw [hm]; exact getD_of hmS)
                      have ek2 := Lib.hid hm
                      clear hsl hscell r1 r2 hm hSk
                      generalize S[m] = sm at *
                      have q1 : (k3' : Int) < (S.length : Int) := by omega
                      have q2 : (m : Int) < (S.length : Int) := by omega
                      by_cases c1 : sm = (m : Int)
                      · have qe : (sm == (m : Int)) = true := by rw [beq_iff_eq]; exact c1
                        have HN := Lib.hid (iff_true_step H3.out true (by simp only [true_and, true_iff]; rw [ek.out, ek2.out]; exact c1))
                        clear c1
                        go_wp2_with fail
                        go_quiet (fail)
                        go_wp2_with fail
                        go_roundw
                        case rel => exact ⟨true, k3' + 1, by omega, rfl, by go_num, hbr3.trans (below_drewN wr nq w2.heap.size), Lib.hid (by simpa using HN.out)⟩
                        case measure => simp [intOf]; omega
                      · have qe : (sm == (m : Int)) = false := by rw [beq_eq_false_iff_ne]; exact c1
                        have HN := Lib.hid (iff_true_step H3.out false (by simp only [Bool.false_eq_true, true_and, false_iff]; rw [ek.out, ek2.out]; exact c1))
                        clear c1
                        go_wp2_with fail
                        go_quiet (fail)
                        go_wp2_with fail
                        go_roundw
                        case rel => exact ⟨false, k3' + 1, by omega, rfl, by go_num, hbr3.trans (below_drewN wr nq w2.heap.size), HN⟩
                        case measure => simp [intOf]; omega
                    | false =>
                      have H3' : Hid (g3 = true ↔ g2 = true ∧ ∀ j, j < S.length → S.getD (S.getD j 0).toNat 0 = S.getD j 0) := Lib.hid (by
                        rw [H3.out]
                        cases g3 with
                        | true =>
                          have : k3' = S.length := by simp at hT; omega
                          rw [this]
                        | false =>
                          have h := H3.out
                          simp only [Bool.false_eq_true, false_iff] at h
                          exact ⟨fun h1 => absurd h1 h, fun h1 => absurd ⟨h1.1, fun j hj => h1.2 j (by omega)⟩ h⟩)
                      clear hT H3
                      go_upto_region 29 with fail
                      go_cut [12] (fun v wx => ∃ n1 : Bool, v = .bool n1 ∧ Hid (n1 = true ↔ 1 ≤ (bl nm).length ∧ (bl nm).length ≤ 24 ∧ Lx.isLet ((bl nm).getD 0 0) = true) ∧ wr = wx)
                      case first => as_aux_lemma =>
                        by_cases c1 : 1 ≤ nm.size
                        · have d1 : (1 : Int) ≤ (nm.size : Int) := by omega
                          by_cases c2 : nm.size ≤ 24
                          · have d2 : (nm.size : Int) ≤ 24 := by omega
                            have d0 : (0 : Int) < (nm.size : Int) := by omega
                            have hc0 : nm[0].toNat < 256 := UInt8.toNat_lt nm[0]
                            have Hn : Hid (Lx.isLet nm[0] = true ↔ 1 ≤ (bl nm).length ∧ (bl nm).length ≤ 24 ∧ Lx.isLet ((bl nm).getD 0 0) = true) := Lib.hid (by rw [getD_bl nm 0 (by omega), bl_len]; exact ⟨fun h => ⟨c1, c2, h⟩, fun h => h.2.2⟩)
                            go_wp2_with fail
                            refine (letter_any nm[0] _).mono ?_
                            rintro e w' ⟨rfl, rfl⟩
                            go_wp2_with fail
                            go_meet
                            exact ⟨_, rfl, Hn, rfl⟩
                          · have d2 : ¬ (nm.size : Int) ≤ 24 := by omega
                            have Hn : Hid (false = true ↔ 1 ≤ (bl nm).length ∧ (bl nm).length ≤ 24 ∧ Lx.isLet ((bl nm).getD 0 0) = true) := Lib.hid (by rw [bl_len]; simp only [Bool.false_eq_true, false_iff]; exact fun h => c2 h.2.1)
                            clear c1 c2
                            go_wp2_with fail
                            go_meet
                            exact ⟨false, rfl, Hn, rfl⟩
                        · have d1 : ¬ (1 : Int) ≤ (nm.size : Int) := by omega
                          have Hn : Hid (false = true ↔ 1 ≤ (bl nm).length ∧ (bl nm).length ≤ 24 ∧ Lx.isLet ((bl nm).getD 0 0) = true) := Lib.hid (by rw [bl_len]; simp only [Bool.false_eq_true, false_iff]; exact fun h => c1 h.1)
                          clear c1
                          go_wp2_with fail
                          go_meet
                          exact ⟨false, rfl, Hn, rfl⟩
                      case rest => as_aux_lemma =>
                        obtain ⟨n1, rfl, Hn1, rfl⟩ := hcut
                        go_wp2_with fail
                        go_loop [12, 13] (fun v i => ∃ (n2 : Bool) (k : Nat), k ≤ nm.size ∧ v = .bool n2 ∧ i = .int .i64 k ∧ Hid (n2 = true ↔ n1 = true ∧ ∀ j, j < k → Lx.isWord ((bl nm).getD j 0) = true)) (fun _ i => nm.size - (intOf i).toNat)
                        case atStart => exact ⟨n1, 0, by omega, rfl, rfl, Lib.hid ⟨fun h => ⟨h, fun q hq => absurd hq (Nat.not_lt_zero _)⟩, fun h => h.1⟩⟩
                        case round => as_aux_lemma =>
                          obtain ⟨n2, k4, hk4, rfl, rfl, H4⟩ := hrel
                          by_cases hlk4 : k4 < nm.size
                          · have q1 : (k4 : Int) < (nm.size : Int) := by omega
                            have hc : nm[k4].toNat < 256 := UInt8.toNat_lt nm[k4]
                            have eg := Lib.hid (getD_bl nm k4 hlk4)
                            cases n2 with
                            | false =>
                              have HN := Lib.hid (iff_true_step H4.out false (by simp))
                              go_wp2_with fail
                              go_round
                              case rel => exact ⟨false, k4 + 1, by omega, rfl, by go_num, HN⟩
                              case measure => simp [intOf]; omega
                            | true =>
                              cases hl : Lx.isLet nm[k4] with
                              | true =>
                                have HN := Lib.hid (iff_true_step H4.out true (by simp only [true_and, true_iff]; rw [eg.out]; unfold Lx.isWord; rw [hl]; rfl))
                                have HL1 := Lib.hid hl
                                clear hl
                                go_wp2_with fail
                                refine (letter_any nm[k4] _).mono ?_
                                rintro e w' ⟨rfl, rfl⟩
                                rw [HL1.out]
                                go_wp2_with fail
                                go_round
                                case rel => exact ⟨true, k4 + 1, by omega, rfl, by go_num, Lib.hid (by simpa using HN.out)⟩
                                case measure => simp [intOf]; omega
                              | false =>
                                have HL1 := Lib.hid hl
                                rcases word_cases nm[k4] hc hl with ⟨hw, f1, f2⟩ | ⟨hw, f1, f2, f3⟩ | ⟨hw, f1, f2, f3⟩ | ⟨hw, f1, f3⟩
                                all_goals
                                  have HN := Lib.hid (iff_true_step H4.out (Lx.isWord nm[k4]) (by rw [eg.out]; simp))
                                  rw [hw] at HN
                                  clear hl hw
                                  go_wp2_with fail
                                  refine (letter_any nm[k4] _).mono ?_
                                  rintro e w' ⟨rfl, rfl⟩
                                  rw [HL1.out]
                                  go_wp2_with fail
                                  go_round
                                  case rel =>
                                    first
                                    | (refine ⟨_, k4 + 1, ?_, rfl, ?_, HN⟩
                                       · omega
                                       · go_num)
                                    | (refine ⟨false, k4 + 1, ?_, ?_, ?_, HN⟩
                                       · omega
                                       · (simp; omega)
                                       · go_num)
                                    | (refine ⟨_, k4 + 1, ?_, rfl, ?_, Lib.hid ?_⟩
                                       · omega
                                       · go_num
                                       · simpa using HN.out)
                                  case measure => simp [intOf]; omega
                          · obtain rfl : k4 = nm.size := by omega
                            have hV : V = (g3 && n2) := by
                              rw [← HV.out]
                              refine bytes_law (bl nm) (bls L) S _ (fun j hj => H1.out.2 j (by rw [bls_len] at hj; exact hj)) g1 g2 g3 n1 n2 ?_ H2'.out H3'.out Hn1.out (by rw [bl_len]; exact H4.out)
                              rw [bls_len]; exact H1.out.1
                            subst hV
                            cases g3 <;> cases n2
                            all_goals
                              go_wp2_with fail
                              refine (Hval.out _ hbw3).mono ?_
                              rintro e w5 ⟨rfl, hq5⟩
                              go_wp2_with fail
                              go_ret
                              exact ⟨rfl, hbw3.trans (hq5.mono hbw3.size)⟩
end Go.Proofs.YtcabhanmeookkaaDoor.Al
