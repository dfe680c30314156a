/- Walk over layer 10's law: AlphabetFewer. -/
import Derived.Test.YtcabhanmeookkaaDoorAlpL5
namespace Go.Proofs.YtcabhanmeookkaaDoor.Al
set_option linter.unusedVariables false
set_option linter.unusedSimpArgs false
open Go.RowKit

theorem strSl_take {w : World} {b off c n m : Nat} {l : List ByteArray} (h : StrSl w (.slice (some ⟨b, off, none⟩) n c) l) (hm : m ≤ l.length) : StrSl w (.slice (some ⟨b, off, none⟩) m c) (l.take m) := by
  by_cases h0 : m = 0
  · subst h0; exact .inl ⟨by simp, _, _, rfl⟩
  · obtain ⟨b', off', cap, hv, hb, hc, hcell⟩ := h.open (by omega)
    simp only [Value.slice.injEq, Option.some.injEq, Addr.mk.injEq, and_true] at hv
    obtain ⟨⟨rfl, rfl⟩, rfl, rfl⟩ := hv
    have hl : (l.take m).length = m := by rw [List.length_take]; omega
    exact .inr ⟨b, off, c, by rw [hl], by omega, hb, by rw [hl]; omega, fun i hi => by rw [hcell i (by omega), List.getElem_take]⟩
theorem intSl_take {w : World} {b off c n m : Nat} {l : List Int} (h : IntSl w (.slice (some ⟨b, off, none⟩) n c) l) (hm : m ≤ l.length) : IntSl w (.slice (some ⟨b, off, none⟩) m c) (l.take m) := by
  by_cases h0 : m = 0
  · subst h0; exact .inl ⟨by simp, _, _, rfl⟩
  · obtain ⟨b', off', cap, hv, hb, hc, hcell⟩ := h.open (by omega)
    simp only [Value.slice.injEq, Option.some.injEq, Addr.mk.injEq, and_true] at hv
    obtain ⟨⟨rfl, rfl⟩, rfl, rfl⟩ := hv
    have hl : (l.take m).length = m := by rw [List.length_take]; omega
    exact .inr ⟨b, off, c, by rw [hl], by omega, hb, by rw [hl]; omega, fun i hi => by rw [hcell i (by omega), List.getElem_take]⟩

set_option maxRecDepth 100000 in
set_option maxHeartbeats 8000000 in
theorem lawFewer (nm : ByteArray) (vl vs : Value) (L : List ByteArray) (S : List Int) (hnm : nm.size ≤ 9223372036854775807) (w : World) (hL : StrSl w vl L) (hS : IntSl w vs S) :
    Calls Tryd.prog 9 #[.agg #[.string nm, vl, vs]] w fun e w' => e = .returned (.bool true) ∧ Below w.heap.size w w' := by
  have hb0 : Below w.heap.size w (w.alloc (.cells #[.string nm, vl, vs] 25)) := (Below.refl _ _).alloc (Nat.le_refl _) _
  have k0 := Blk.new w 25 #[.string nm, vl, vs]
  have HL := Lib.hid hL
  have HS := Lib.hid hS
  have hlL := strSl_len hL
  have hsL := intSl_len hS
  obtain ⟨al, cl, rfl⟩ := hL.form
  obtain ⟨as0, cs, rfl⟩ := hS.form
  have hfew := fun w' (h : Below w.heap.size w w') => few_any nm (.slice al L.length cl) (.slice as0 S.length cs) L S (⟨#[]⟩ : ByteArray) hnm (by first | exact hx | decide) w' (HL.out.below h) (HS.out.below h)
  cases hF : (fewA nm L S && decide (((⟨#[]⟩ : ByteArray)).size ≤ 300)) with
  | false =>
    rw [hF] at hfew
    have Hfew := Lib.hid hfew
    clear hfew hF
    go_enter Tryd.func9, Tryd.ntmps9
    go_wp2_with fail
    refine (head_any _).mono ?_
    rintro e w1 ⟨rfl, hq1⟩
    have k1 := k0.below hq1 k0.lt
    have hb1 := hb0.trans (hq1.mono hb0.size)
    have x1_0 : w1.cell? ⟨w.heap.size, 0, none⟩ = some (.string nm) := k1.cell 0
    have x1_1 : w1.cell? ⟨w.heap.size, 1, none⟩ = some (.slice al L.length cl) := k1.cell 1
    have x1_2 : w1.cell? ⟨w.heap.size, 2, none⟩ = some (.slice as0 S.length cs) := k1.cell 2
    go_wp2_with fail
    refine (Hfew.out _ hb1).mono ?_
    rintro e w2 ⟨rfl, hq2⟩
    clear x1_0 x1_1 x1_2
    have k2 := k1.below hq2 k1.lt
    have hb2 := hb1.trans (hq2.mono hb1.size)
    have x2_0 : w2.cell? ⟨w.heap.size, 0, none⟩ = some (.string nm) := k2.cell 0
    have x2_1 : w2.cell? ⟨w.heap.size, 1, none⟩ = some (.slice al L.length cl) := k2.cell 1
    have x2_2 : w2.cell? ⟨w.heap.size, 2, none⟩ = some (.slice as0 S.length cs) := k2.cell 2
    go_wp2_with fail
    go_ret
    exact ⟨rfl, hb2⟩
  | true =>
    rw [hF] at hfew
    have Hfew := Lib.hid hfew
    simp only [Bool.and_eq_true, decide_eq_true_eq] at hF
    obtain ⟨hA, hL70, hS70, hL20, hN100⟩ := few_alp hF.1 hL hS
    have hx3 := hF.2
    have HA := Lib.hid hA
    clear hfew hF hA hL hS
    have Hval := Lib.hid (fun w' (h : Below w.heap.size w w') => Valid_any nm (.slice al L.length cl) (.slice as0 S.length cs) L S w' (HA.out.below h))
    by_cases hn1 : (L.length : Int) - 1 < 1
    · skip
      go_enter Tryd.func9, Tryd.ntmps9
      go_wp2_with fail
      refine (head_any _).mono ?_
      rintro e w1 ⟨rfl, hq1⟩
      have k1 := k0.below hq1 k0.lt
      have hb1 := hb0.trans (hq1.mono hb0.size)
      have x1_0 : w1.cell? ⟨w.heap.size, 0, none⟩ = some (.string nm) := k1.cell 0
      have x1_1 : w1.cell? ⟨w.heap.size, 1, none⟩ = some (.slice al L.length cl) := k1.cell 1
      have x1_2 : w1.cell? ⟨w.heap.size, 2, none⟩ = some (.slice as0 S.length cs) := k1.cell 2
      go_wp2_with fail
      refine (Hfew.out _ hb1).mono ?_
      rintro e w2 ⟨rfl, hq2⟩
      clear x1_0 x1_1 x1_2
      have k2 := k1.below hq2 k1.lt
      have hb2 := hb1.trans (hq2.mono hb1.size)
      have x2_0 : w2.cell? ⟨w.heap.size, 0, none⟩ = some (.string nm) := k2.cell 0
      have x2_1 : w2.cell? ⟨w.heap.size, 1, none⟩ = some (.slice al L.length cl) := k2.cell 1
      have x2_2 : w2.cell? ⟨w.heap.size, 2, none⟩ = some (.slice as0 S.length cs) := k2.cell 2
      go_wp2_with fail
      go_ret
      exact ⟨rfl, hb2⟩
    · by_cases hSL : S.length = L.length
      · obtain ⟨n, hn⟩ : ∃ n : Nat, L.length = n + 1 := ⟨L.length - 1, by omega⟩
        have hnn : (L.length : Int) - 1 = (n : Int) := by omega
        have g1 : ((S.length : Int) != (n : Int) + 1) = false := by rw [hSL, hn]; simp
        have hn2 : ¬ (n : Int) < 1 := by omega
        have hn3 : 1 ≤ n ∧ n ≤ 69 := by omega
        have HSL := Lib.hid (hSL.trans hn)
        have HN := Lib.hid hn
        clear hSL hn hn1
        cases hV : validA (bl nm) (bls L) S with
        | false =>
          rw [hV] at Hval
          clear hV
          go_enter Tryd.func9, Tryd.ntmps9
          go_wp2_with fail
          refine (head_any _).mono ?_
          rintro e w1 ⟨rfl, hq1⟩
          have k1 := k0.below hq1 k0.lt
          have hb1 := hb0.trans (hq1.mono hb0.size)
          have x1_0 : w1.cell? ⟨w.heap.size, 0, none⟩ = some (.string nm) := k1.cell 0
          have x1_1 : w1.cell? ⟨w.heap.size, 1, none⟩ = some (.slice al L.length cl) := k1.cell 1
          have x1_2 : w1.cell? ⟨w.heap.size, 2, none⟩ = some (.slice as0 S.length cs) := k1.cell 2
          go_wp2_with fail
          refine (Hfew.out _ hb1).mono ?_
          rintro e w2 ⟨rfl, hq2⟩
          clear x1_0 x1_1 x1_2
          have k2 := k1.below hq2 k1.lt
          have hb2 := hb1.trans (hq2.mono hb1.size)
          have x2_0 : w2.cell? ⟨w.heap.size, 0, none⟩ = some (.string nm) := k2.cell 0
          have x2_1 : w2.cell? ⟨w.heap.size, 1, none⟩ = some (.slice al L.length cl) := k2.cell 1
          have x2_2 : w2.cell? ⟨w.heap.size, 2, none⟩ = some (.slice as0 S.length cs) := k2.cell 2
          go_wp2_with fail
          refine (Hval.out _ hb2).mono ?_
          rintro e w3 ⟨rfl, hq3⟩
          clear x2_0 x2_1 x2_2
          have k3 := k2.below hq3 k2.lt
          have hb3 := hb2.trans (hq3.mono hb2.size)
          have x3_0 : w3.cell? ⟨w.heap.size, 0, none⟩ = some (.string nm) := k3.cell 0
          have x3_1 : w3.cell? ⟨w.heap.size, 1, none⟩ = some (.slice al L.length cl) := k3.cell 1
          have x3_2 : w3.cell? ⟨w.heap.size, 2, none⟩ = some (.slice as0 S.length cs) := k3.cell 2
          go_wp2_with fail
          go_ret
          exact ⟨rfl, hb3⟩
        | true =>
          rw [hV] at Hval
          have hfew' := fewer_valid (bl nm) (bls L) S n (by omega) (by rw [bls_len]; exact HN.out) hV
          have HFew := Lib.hid hfew'
          obtain ⟨b, off, cap, hsl, hbb, hmm, hcell⟩ := HA.out.sl.open (by have := HN.out; omega)
          obtain ⟨rfl, rfl⟩ : al = some ⟨b, off, none⟩ ∧ cl = cap := by simpa using hsl
          obtain ⟨sb, so, sc, hsl2, hsb, hsm, hscell⟩ := HA.out.ss.open (by have := HSL.out; omega)
          obtain ⟨rfl, rfl⟩ : as0 = some ⟨sb, so, none⟩ ∧ cs = sc := by simpa using hsl2
          unfold maxLen at hmm hsm
          have Hsc := Lib.hid hscell
          have hsle : S.length ≤ 70 := hS70
          clear hV hfew' hsl hsl2 hcell hscell
          go_enter Tryd.func9, Tryd.ntmps9
          go_wp2_with fail
          refine (head_any _).mono ?_
          rintro e w1 ⟨rfl, hq1⟩
          have k1 := k0.below hq1 k0.lt
          have hb1 := hb0.trans (hq1.mono hb0.size)
          have x1_0 : w1.cell? ⟨w.heap.size, 0, none⟩ = some (.string nm) := k1.cell 0
          have x1_1 : w1.cell? ⟨w.heap.size, 1, none⟩ = some (.slice (some ⟨b, off, none⟩) L.length cl) := k1.cell 1
          have x1_2 : w1.cell? ⟨w.heap.size, 2, none⟩ = some (.slice (some ⟨sb, so, none⟩) S.length cs) := k1.cell 2
          go_wp2_with fail
          refine (Hfew.out _ hb1).mono ?_
          rintro e w2 ⟨rfl, hq2⟩
          clear x1_0 x1_1 x1_2
          have k2 := k1.below hq2 k1.lt
          have hb2 := hb1.trans (hq2.mono hb1.size)
          have x2_0 : w2.cell? ⟨w.heap.size, 0, none⟩ = some (.string nm) := k2.cell 0
          have x2_1 : w2.cell? ⟨w.heap.size, 1, none⟩ = some (.slice (some ⟨b, off, none⟩) L.length cl) := k2.cell 1
          have x2_2 : w2.cell? ⟨w.heap.size, 2, none⟩ = some (.slice (some ⟨sb, so, none⟩) S.length cs) := k2.cell 2
          go_wp2_with fail
          refine (Hval.out _ hb2).mono ?_
          rintro e w3 ⟨rfl, hq3⟩
          clear x2_0 x2_1 x2_2
          have k3 := k2.below hq3 k2.lt
          have hb3 := hb2.trans (hq3.mono hb2.size)
          have x3_0 : w3.cell? ⟨w.heap.size, 0, none⟩ = some (.string nm) := k3.cell 0
          have x3_1 : w3.cell? ⟨w.heap.size, 1, none⟩ = some (.slice (some ⟨b, off, none⟩) L.length cl) := k3.cell 1
          have x3_2 : w3.cell? ⟨w.heap.size, 2, none⟩ = some (.slice (some ⟨sb, so, none⟩) S.length cs) := k3.cell 2
          go_wp2_with fail
          go_loop [5] (fun i => ∃ k : Nat, k ≤ n ∧ i = .int .i64 k ∧ Hid (∀ j, j < k → S.getD j 0 ≠ (n : Int))) (fun i => n - (intOf i).toNat)
          case atStart => exact ⟨0, by omega, rfl, Lib.hid (fun j h => by omega)⟩
          case round =>
            obtain ⟨k, hk, rfl, Hno⟩ := hrel
            by_cases hlt : k < n
            · have hkS : k < S.length := by have := HSL.out; omega
              have hck : w3.cell? ⟨sb, so + k, none⟩ = some (.int .i64 S[k]) := (hb3.cell (p := ⟨sb, so + k, none⟩) hsb).trans (Hsc.out k hkS)
              have q1 : (k : Int) < (n : Int) := by omega
              by_cases he : S[k] = (n : Int)
              · have qe : (S[k] == (n : Int)) = true := by rw [beq_iff_eq]; exact he
                clear he
                go_wp2_with fail
                go_ret
                exact ⟨rfl, hb3⟩
              · have qe : (S[k] == (n : Int)) = false := by rw [beq_eq_false_iff_ne]; exact he
                have Hx := Lib.hid (show S.getD k 0 ≠ (n : Int) by rw [getD_of hkS]; exact he)
                clear he
                go_wp2_with fail
                go_round
                case rel =>
                  refine ⟨k + 1, by omega, by go_num, Lib.hid fun j hj => ?_⟩
                  rcases Nat.lt_succ_iff_lt_or_eq.1 hj with h2 | rfl
                  · exact Hno.out j h2
                  · exact Hx.out
                case measure => simp [intOf]; omega
            · have q1 : ¬ (k : Int) < (n : Int) := by omega
              have hv2 := HFew.out (fun j hj => Hno.out j (by omega))
              have s1 : StrSl w (.slice (some ⟨b, off, none⟩) (n) cl) (L.take (n)) := strSl_take HA.out.sl (by have := HN.out; omega)
              have s2 : IntSl w (.slice (some ⟨sb, so, none⟩) (n) cs) (S.take (n)) := intSl_take HA.out.ss (by have := HSL.out; omega)
              have hA2 : Alp nm (.slice (some ⟨b, off, none⟩) (n) cl) (.slice (some ⟨sb, so, none⟩) (n) cs) (L.take (n)) (S.take (n)) w := ⟨HA.out.nm, by rw [List.length_take]; omega, fun l hl => HA.out.lz l (List.mem_of_mem_take hl), s1, s2⟩
              have HV2 : Hid (∀ w', Below w.heap.size w w' → Calls Tryd.prog 19 #[.agg #[.string nm, .slice (some ⟨b, off, none⟩) (n) cl, .slice (some ⟨sb, so, none⟩) (n) cs]] w' fun e w'' => e = .returned (.bool true) ∧ Below w'.heap.size w' w'') := Lib.hid fun w' h => by
                have h1 := Valid_any nm _ _ _ _ w' (hA2.below h)
                rw [show bls (L.take (n)) = (bls L).take (n) by simp [bls, List.map_take], hv2] at h1
                exact h1
              have j1 : (n : Int) ≤ (cl : Int) := by have := HN.out; omega
              have j2 : (n : Int) ≤ (cs : Int) := by have := HSL.out; omega
              clear hv2 s1 s2 hA2
              go_wp2_with fail
              have hr3 := (Below.refl w3.heap.size w3).drew
              have hS3 : ∀ w', Below w3.heap.size w3 w' → (w'.cell? ⟨w.heap.size, 0, none⟩ = some (.string nm) ∧ w'.cell? ⟨w.heap.size, 1, none⟩ = some (.slice (some ⟨b, off, none⟩) L.length cl)) ∧ w'.cell? ⟨w.heap.size, 2, none⟩ = some (.slice (some ⟨sb, so, none⟩) S.length cs) := fun w' h => ⟨⟨(k3.below h k3.lt).cell 0, (k3.below h k3.lt).cell 1⟩, (k3.below h k3.lt).cell 2⟩
              go_region_held3 (fun w' => (w'.cell? ⟨w.heap.size, 0, none⟩ = some (.string nm) ∧ w'.cell? ⟨w.heap.size, 1, none⟩ = some (.slice (some ⟨b, off, none⟩) L.length cl)) ∧ w'.cell? ⟨w.heap.size, 2, none⟩ = some (.slice (some ⟨sb, so, none⟩) S.length cs))
                (first | exact hS3 _ hr3 | exact hS3 _ (by assumption))
                (first
                  | (go_at_call 19; refine (HV2.out _ (hb3.trans (hr3.mono hb3.size))).mono ?_; rintro e w4 ⟨rfl, hq4'⟩; have hq4 := hr3.trans hq4'))
              go_wp2_with fail
              go_ret
              exact ⟨rfl, hb3.trans (hq4.mono hb3.size)⟩
      · have g1 : ((S.length : Int) != (L.length : Int)) = true := by rw [bne_iff_ne]; omega
        clear hSL
        go_enter Tryd.func9, Tryd.ntmps9
        go_wp2_with fail
        refine (head_any _).mono ?_
        rintro e w1 ⟨rfl, hq1⟩
        have k1 := k0.below hq1 k0.lt
        have hb1 := hb0.trans (hq1.mono hb0.size)
        have x1_0 : w1.cell? ⟨w.heap.size, 0, none⟩ = some (.string nm) := k1.cell 0
        have x1_1 : w1.cell? ⟨w.heap.size, 1, none⟩ = some (.slice al L.length cl) := k1.cell 1
        have x1_2 : w1.cell? ⟨w.heap.size, 2, none⟩ = some (.slice as0 S.length cs) := k1.cell 2
        go_wp2_with fail
        refine (Hfew.out _ hb1).mono ?_
        rintro e w2 ⟨rfl, hq2⟩
        clear x1_0 x1_1 x1_2
        have k2 := k1.below hq2 k1.lt
        have hb2 := hb1.trans (hq2.mono hb1.size)
        have x2_0 : w2.cell? ⟨w.heap.size, 0, none⟩ = some (.string nm) := k2.cell 0
        have x2_1 : w2.cell? ⟨w.heap.size, 1, none⟩ = some (.slice al L.length cl) := k2.cell 1
        have x2_2 : w2.cell? ⟨w.heap.size, 2, none⟩ = some (.slice as0 S.length cs) := k2.cell 2
        go_wp2_with fail
        go_ret
        exact ⟨rfl, hb2⟩
end Go.Proofs.YtcabhanmeookkaaDoor.Al
