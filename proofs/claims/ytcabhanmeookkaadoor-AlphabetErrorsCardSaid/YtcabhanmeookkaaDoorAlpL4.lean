/- Walk over layer 10's law: AlphabetErrors. -/
import Derived.Test.YtcabhanmeookkaaDoorAlpL5
namespace Go.Proofs.YtcabhanmeookkaaDoor.Al
set_option linter.unusedVariables false
set_option linter.unusedSimpArgs false
open Go.RowKit

theorem ext_le (x : ByteArray) (p : Nat) : (x.extract 0 p).size ≤ x.size := by rw [← bl_len, bl_ext, ← bl_len x]; simp; omega
theorem err_facts {L : List Bs} (F : Fine L) (t : Bs) :
    ((readV L t).2.1 ≠ 3 ∧ (readV L t).2.1 ≠ 2 ∧ (readV L t).2.2 = 0 ∧ (((readV L t).2.1 = 0 ∧ t.length ≠ 0) ∨ ((readV L t).2.1 ≠ 0 ∧ t.length = 0))) ∨
    (((readV L t).2.1 = 3 ∨ (readV L t).2.1 = 2) ∧ (readV L t).1 = [] ∧ (readV L t).2.2 < t.length ∧ ((readV L t).2.2 = 0 → (readV L t).2.1 = 3) ∧
      ((readV L t).2.2 ≠ 0 → ∃ a, readV L (t.take (readV L t).2.2) = (a, 0, 0) ∧ ((readV L t).2.1 = 3 ∨ a.length = 24))) := by
  have key : ∀ c p, readV L t = ([], c, p) → (c = 3 ∨ c = 2) → (c = 3 ∨ c = 2) ∧ p < t.length ∧ (p = 0 → c = 3) ∧ (p ≠ 0 → ∃ a, readV L (t.take p) = (a, 0, 0) ∧ (c = 3 ∨ a.length = 24)) := by
    intro c p h hc
    obtain ⟨h1, h2, h3⟩ := before_error F t c p h hc
    exact ⟨hc, h1, h2, fun hp => by obtain ⟨a, hw, h4⟩ := h3 hp; exact ⟨a, hw.read F, h4⟩⟩
  rcases readV_cases L t with ⟨h0, e⟩ | ⟨h0, h1, e⟩ | ⟨h0, h1, h2, e⟩ | ⟨h0, h1, h2, e⟩
  · rw [e]; exact .inl ⟨by decide, by decide, rfl, .inr ⟨by decide, h0⟩⟩
  · have k := key _ _ e (.inr rfl)
    rw [e]; exact .inr ⟨k.1, rfl, k.2.1, k.2.2.1, k.2.2.2⟩
  · have k := key _ _ e (.inl rfl)
    rw [e]; exact .inr ⟨k.1, rfl, k.2.1, k.2.2.1, k.2.2.2⟩
  · rw [e]; exact .inl ⟨(by simp), (by simp), rfl, .inl ⟨rfl, h0⟩⟩

set_option maxRecDepth 100000 in
set_option maxHeartbeats 8000000 in
theorem lawErrors (nm : ByteArray) (vl vs : Value) (L : List ByteArray) (S : List Int) (x : ByteArray) (hnm : nm.size ≤ 9223372036854775807) (hx : x.size ≤ 9223372036854775807) (w : World) (hL : StrSl w vl L) (hS : IntSl w vs S) :
    Calls Tryd.prog 7 #[.agg #[.string nm, vl, vs], .string x] w fun e w' => e = .returned (.bool true) ∧ Below w.heap.size w w' := by
  have hb0 : Below w.heap.size w (w.alloc (.cells #[.string nm, vl, vs] 25)) := (Below.refl _ _).alloc (Nat.le_refl _) _
  have k0 := Blk.new w 25 #[.string nm, vl, vs]
  have HL := Lib.hid hL
  have HS := Lib.hid hS
  have hfew := fun w' (h : Below w.heap.size w w') => few_any nm vl vs L S x hnm (by first | exact hx | decide) w' (HL.out.below h) (HS.out.below h)
  cases hF : (fewA nm L S && decide (x.size ≤ 300)) with
  | false =>
    rw [hF] at hfew
    have Hfew := Lib.hid hfew
    clear hfew hF
    go_enter Tryd.func7, Tryd.ntmps7
    go_wp2_with fail
    refine (head_any _).mono ?_
    rintro e w1 ⟨rfl, hq1⟩
    have k1 := k0.below hq1 k0.lt
    have hb1 := hb0.trans (hq1.mono hb0.size)
    have x1_0 : w1.cell? ⟨w.heap.size, 0, none⟩ = some (.string nm) := k1.cell 0
    have x1_1 : w1.cell? ⟨w.heap.size, 1, none⟩ = some vl := k1.cell 1
    have x1_2 : w1.cell? ⟨w.heap.size, 2, none⟩ = some vs := k1.cell 2
    go_wp2_with fail
    refine (Hfew.out _ hb1).mono ?_
    rintro e w2 ⟨rfl, hq2⟩
    clear x1_0 x1_1 x1_2
    have k2 := k1.below hq2 k1.lt
    have hb2 := hb1.trans (hq2.mono hb1.size)
    have x2_0 : w2.cell? ⟨w.heap.size, 0, none⟩ = some (.string nm) := k2.cell 0
    have x2_1 : w2.cell? ⟨w.heap.size, 1, none⟩ = some vl := k2.cell 1
    have x2_2 : w2.cell? ⟨w.heap.size, 2, none⟩ = some vs := k2.cell 2
    go_wp2_with fail
    go_ret
    exact ⟨rfl, hb2⟩
  | true =>
    rw [hF] at hfew
    have Hfew := Lib.hid hfew
    simp only [Bool.and_eq_true, decide_eq_true_eq] at hF
    obtain ⟨hA, hL70, hS70, hL20, hN100⟩ := few_alp hF.1 hL hS
    have hx3 := hF.2
    have HA := Lib.hid hA
    clear hfew hF hA hL hS
    have Hval := Lib.hid (fun w' (h : Below w.heap.size w w') => Valid_any nm vl vs L S w' (HA.out.below h))
    cases hV : validA (bl nm) (bls L) S with
    | false =>
      rw [hV] at Hval
      clear hV
      go_enter Tryd.func7, Tryd.ntmps7
      go_wp2_with fail
      refine (head_any _).mono ?_
      rintro e w1 ⟨rfl, hq1⟩
      have k1 := k0.below hq1 k0.lt
      have hb1 := hb0.trans (hq1.mono hb0.size)
      have x1_0 : w1.cell? ⟨w.heap.size, 0, none⟩ = some (.string nm) := k1.cell 0
      have x1_1 : w1.cell? ⟨w.heap.size, 1, none⟩ = some vl := k1.cell 1
      have x1_2 : w1.cell? ⟨w.heap.size, 2, none⟩ = some vs := k1.cell 2
      go_wp2_with fail
      refine (Hfew.out _ hb1).mono ?_
      rintro e w2 ⟨rfl, hq2⟩
      clear x1_0 x1_1 x1_2
      have k2 := k1.below hq2 k1.lt
      have hb2 := hb1.trans (hq2.mono hb1.size)
      have x2_0 : w2.cell? ⟨w.heap.size, 0, none⟩ = some (.string nm) := k2.cell 0
      have x2_1 : w2.cell? ⟨w.heap.size, 1, none⟩ = some vl := k2.cell 1
      have x2_2 : w2.cell? ⟨w.heap.size, 2, none⟩ = some vs := k2.cell 2
      go_wp2_with fail
      refine (Hval.out _ hb2).mono ?_
      rintro e w3 ⟨rfl, hq3⟩
      clear x2_0 x2_1 x2_2
      have k3 := k2.below hq3 k2.lt
      have hb3 := hb2.trans (hq3.mono hb2.size)
      have x3_0 : w3.cell? ⟨w.heap.size, 0, none⟩ = some (.string nm) := k3.cell 0
      have x3_1 : w3.cell? ⟨w.heap.size, 1, none⟩ = some vl := k3.cell 1
      have x3_2 : w3.cell? ⟨w.heap.size, 2, none⟩ = some vs := k3.cell 2
      go_wp2_with fail
      go_ret
      exact ⟨rfl, hb3⟩
    | true =>
      rw [hV] at Hval
      have hf := err_facts (valid_fine hV) (bl x)
      have hR1 := fun w' (h : Below w.heap.size w w') => Read_any nm vl vs L S x (by omega) w' (HA.out.below h)
      have hR2 := fun p w' (h : Below w.heap.size w w') => Read_any nm vl vs L S (x.extract 0 p) (Nat.le_trans (ext_le x p) (by omega)) w' (HA.out.below h)
      rw [hV] at hR1 hR2
      rw [show readA true (bls L) (bl x) = readV (bls L) (bl x) from if_pos rfl] at hR1
      generalize readV (bls L) (bl x) = r at *
      obtain ⟨a, c, p⟩ := r
      dsimp only at hf
      have H1 := Lib.hid hR1
      have H2 := Lib.hid (hR2 p)
      clear hV hR1 hR2
      rw [bl_len] at hf
      rcases hf with ⟨h3, h2, hp, hh⟩ | ⟨hc, ha, hlt, h0, hw⟩
      · subst hp
        have g3 : ((c : Int) != 3) = true := by rw [bne_iff_ne]; omega
        have g2 : ((c : Int) != 2) = true := by rw [bne_iff_ne]; omega
        rcases hh with ⟨hc0, hx0⟩ | ⟨hc0, hx0⟩
        · subst hc0
          have he : x.toList.isEmpty = false := by rw [Bool.eq_false_iff]; intro h; rw [toList_bl, List.isEmpty_iff_length_eq_zero, bl_len] at h; exact hx0 h
          clear hx0
          go_enter Tryd.func7, Tryd.ntmps7
          go_wp2_with fail
          refine (head_any _).mono ?_
          rintro e w1 ⟨rfl, hq1⟩
          have k1 := k0.below hq1 k0.lt
          have hb1 := hb0.trans (hq1.mono hb0.size)
          have x1_0 : w1.cell? ⟨w.heap.size, 0, none⟩ = some (.string nm) := k1.cell 0
          have x1_1 : w1.cell? ⟨w.heap.size, 1, none⟩ = some vl := k1.cell 1
          have x1_2 : w1.cell? ⟨w.heap.size, 2, none⟩ = some vs := k1.cell 2
          go_wp2_with fail
          refine (Hfew.out _ hb1).mono ?_
          rintro e w2 ⟨rfl, hq2⟩
          clear x1_0 x1_1 x1_2
          have k2 := k1.below hq2 k1.lt
          have hb2 := hb1.trans (hq2.mono hb1.size)
          have x2_0 : w2.cell? ⟨w.heap.size, 0, none⟩ = some (.string nm) := k2.cell 0
          have x2_1 : w2.cell? ⟨w.heap.size, 1, none⟩ = some vl := k2.cell 1
          have x2_2 : w2.cell? ⟨w.heap.size, 2, none⟩ = some vs := k2.cell 2
          go_wp2_with fail
          refine (Hval.out _ hb2).mono ?_
          rintro e w3 ⟨rfl, hq3⟩
          clear x2_0 x2_1 x2_2
          have k3 := k2.below hq3 k2.lt
          have hb3 := hb2.trans (hq3.mono hb2.size)
          have x3_0 : w3.cell? ⟨w.heap.size, 0, none⟩ = some (.string nm) := k3.cell 0
          have x3_1 : w3.cell? ⟨w.heap.size, 1, none⟩ = some vl := k3.cell 1
          have x3_2 : w3.cell? ⟨w.heap.size, 2, none⟩ = some vs := k3.cell 2
          go_wp2_with fail
          refine (H1.out _ hb3).mono ?_
          rintro e w4 ⟨v4, rfl, own4, hq4⟩
          clear x3_0 x3_1 x3_2
          have k4 := k3.below hq4 k3.lt
          have hb4 := hb3.trans (hq4.mono hb3.size)
          have x4_0 : w4.cell? ⟨w.heap.size, 0, none⟩ = some (.string nm) := k4.cell 0
          have x4_1 : w4.cell? ⟨w.heap.size, 1, none⟩ = some vl := k4.cell 1
          have x4_2 : w4.cell? ⟨w.heap.size, 2, none⟩ = some vs := k4.cell 2
          dsimp only
          go_wp2_with fail
          go_ret
          exact ⟨rfl, hb4⟩
        · have g0 : ((c : Int) == 0) = false := by rw [beq_eq_false_iff_ne]; omega
          have he : x.toList.isEmpty = true := by rw [toList_bl, List.isEmpty_iff_length_eq_zero, bl_len]; exact hx0
          clear hx0
          go_enter Tryd.func7, Tryd.ntmps7
          go_wp2_with fail
          refine (head_any _).mono ?_
          rintro e w1 ⟨rfl, hq1⟩
          have k1 := k0.below hq1 k0.lt
          have hb1 := hb0.trans (hq1.mono hb0.size)
          have x1_0 : w1.cell? ⟨w.heap.size, 0, none⟩ = some (.string nm) := k1.cell 0
          have x1_1 : w1.cell? ⟨w.heap.size, 1, none⟩ = some vl := k1.cell 1
          have x1_2 : w1.cell? ⟨w.heap.size, 2, none⟩ = some vs := k1.cell 2
          go_wp2_with fail
          refine (Hfew.out _ hb1).mono ?_
          rintro e w2 ⟨rfl, hq2⟩
          clear x1_0 x1_1 x1_2
          have k2 := k1.below hq2 k1.lt
          have hb2 := hb1.trans (hq2.mono hb1.size)
          have x2_0 : w2.cell? ⟨w.heap.size, 0, none⟩ = some (.string nm) := k2.cell 0
          have x2_1 : w2.cell? ⟨w.heap.size, 1, none⟩ = some vl := k2.cell 1
          have x2_2 : w2.cell? ⟨w.heap.size, 2, none⟩ = some vs := k2.cell 2
          go_wp2_with fail
          refine (Hval.out _ hb2).mono ?_
          rintro e w3 ⟨rfl, hq3⟩
          clear x2_0 x2_1 x2_2
          have k3 := k2.below hq3 k2.lt
          have hb3 := hb2.trans (hq3.mono hb2.size)
          have x3_0 : w3.cell? ⟨w.heap.size, 0, none⟩ = some (.string nm) := k3.cell 0
          have x3_1 : w3.cell? ⟨w.heap.size, 1, none⟩ = some vl := k3.cell 1
          have x3_2 : w3.cell? ⟨w.heap.size, 2, none⟩ = some vs := k3.cell 2
          go_wp2_with fail
          refine (H1.out _ hb3).mono ?_
          rintro e w4 ⟨v4, rfl, own4, hq4⟩
          clear x3_0 x3_1 x3_2
          have k4 := k3.below hq4 k3.lt
          have hb4 := hb3.trans (hq4.mono hb3.size)
          have x4_0 : w4.cell? ⟨w.heap.size, 0, none⟩ = some (.string nm) := k4.cell 0
          have x4_1 : w4.cell? ⟨w.heap.size, 1, none⟩ = some vl := k4.cell 1
          have x4_2 : w4.cell? ⟨w.heap.size, 2, none⟩ = some vs := k4.cell 2
          dsimp only
          go_wp2_with fail
          go_ret
          exact ⟨rfl, hb4⟩
      · have Hext := Lib.hid (show bl (x.extract 0 p) = (bl x).take p by rw [bl_ext]; rfl)
        have j1 : ¬ (x.size : Int) ≤ (p : Int) := by omega
        have j2 : (p : Int) ≤ (x.size : Int) := by omega
        by_cases hp0 : p = 0
        · have hc3 := h0 hp0
          subst hc3
          have hp1 : ((p : Int) == 0) = true := by rw [beq_iff_eq]; omega
          clear hp0 h0 hw
          go_enter Tryd.func7, Tryd.ntmps7
          go_wp2_with fail
          refine (head_any _).mono ?_
          rintro e w1 ⟨rfl, hq1⟩
          have k1 := k0.below hq1 k0.lt
          have hb1 := hb0.trans (hq1.mono hb0.size)
          have x1_0 : w1.cell? ⟨w.heap.size, 0, none⟩ = some (.string nm) := k1.cell 0
          have x1_1 : w1.cell? ⟨w.heap.size, 1, none⟩ = some vl := k1.cell 1
          have x1_2 : w1.cell? ⟨w.heap.size, 2, none⟩ = some vs := k1.cell 2
          go_wp2_with fail
          refine (Hfew.out _ hb1).mono ?_
          rintro e w2 ⟨rfl, hq2⟩
          clear x1_0 x1_1 x1_2
          have k2 := k1.below hq2 k1.lt
          have hb2 := hb1.trans (hq2.mono hb1.size)
          have x2_0 : w2.cell? ⟨w.heap.size, 0, none⟩ = some (.string nm) := k2.cell 0
          have x2_1 : w2.cell? ⟨w.heap.size, 1, none⟩ = some vl := k2.cell 1
          have x2_2 : w2.cell? ⟨w.heap.size, 2, none⟩ = some vs := k2.cell 2
          go_wp2_with fail
          refine (Hval.out _ hb2).mono ?_
          rintro e w3 ⟨rfl, hq3⟩
          clear x2_0 x2_1 x2_2
          have k3 := k2.below hq3 k2.lt
          have hb3 := hb2.trans (hq3.mono hb2.size)
          have x3_0 : w3.cell? ⟨w.heap.size, 0, none⟩ = some (.string nm) := k3.cell 0
          have x3_1 : w3.cell? ⟨w.heap.size, 1, none⟩ = some vl := k3.cell 1
          have x3_2 : w3.cell? ⟨w.heap.size, 2, none⟩ = some vs := k3.cell 2
          go_wp2_with fail
          refine (H1.out _ hb3).mono ?_
          rintro e w4 ⟨v4, rfl, own4, hq4⟩
          clear x3_0 x3_1 x3_2
          have k4 := k3.below hq4 k3.lt
          have hb4 := hb3.trans (hq4.mono hb3.size)
          have x4_0 : w4.cell? ⟨w.heap.size, 0, none⟩ = some (.string nm) := k4.cell 0
          have x4_1 : w4.cell? ⟨w.heap.size, 1, none⟩ = some vl := k4.cell 1
          have x4_2 : w4.cell? ⟨w.heap.size, 2, none⟩ = some vs := k4.cell 2
          dsimp only
          go_wp2_with fail
          have hr4 := (Below.refl w4.heap.size w4).drew
          have hS4 : ∀ w', Below w4.heap.size w4 w' → (w'.cell? ⟨w.heap.size, 0, none⟩ = some (.string nm) ∧ w'.cell? ⟨w.heap.size, 1, none⟩ = some vl) ∧ w'.cell? ⟨w.heap.size, 2, none⟩ = some vs := fun w' h => ⟨⟨(k4.below h k4.lt).cell 0, (k4.below h k4.lt).cell 1⟩, (k4.below h k4.lt).cell 2⟩
          go_region_held3 (fun w' => (w'.cell? ⟨w.heap.size, 0, none⟩ = some (.string nm) ∧ w'.cell? ⟨w.heap.size, 1, none⟩ = some vl) ∧ w'.cell? ⟨w.heap.size, 2, none⟩ = some vs)
            (first | exact hS4 _ hr4 | exact hS4 _ (by assumption))
            (first
              | (go_at_call 13; refine (H2.out _ (hb4.trans (hr4.mono hb4.size))).mono ?_; rintro e w5 ⟨v5, rfl, own5, hq5'⟩; have hq5 := hr4.trans hq5'))
          go_wp2_with fail
          go_ret
          exact ⟨rfl, hb4.trans (hq5.mono hb4.size)⟩
        · obtain ⟨a2, hr2, hc24⟩ := hw hp0
          have hp1 : ((p : Int) == 0) = false := by rw [beq_eq_false_iff_ne]; omega
          have H3 : Hid (∀ w', Below w.heap.size w w' → Calls Tryd.prog 13 #[.agg #[.string nm, vl, vs], .string (x.extract 0 p)] w' (ReadR (a2, 0, 0) w')) := Lib.hid fun w' h => by
            have h1 := H2.out w' h
            rw [Hext.out, show readA true (bls L) ((bl x).take p) = readV (bls L) ((bl x).take p) from if_pos rfl, hr2] at h1
            exact h1
          clear hr2 hw h0
          by_cases hc3 : c = 3
          · subst hc3
            go_enter Tryd.func7, Tryd.ntmps7
            go_wp2_with fail
            refine (head_any _).mono ?_
            rintro e w1 ⟨rfl, hq1⟩
            have k1 := k0.below hq1 k0.lt
            have hb1 := hb0.trans (hq1.mono hb0.size)
            have x1_0 : w1.cell? ⟨w.heap.size, 0, none⟩ = some (.string nm) := k1.cell 0
            have x1_1 : w1.cell? ⟨w.heap.size, 1, none⟩ = some vl := k1.cell 1
            have x1_2 : w1.cell? ⟨w.heap.size, 2, none⟩ = some vs := k1.cell 2
            go_wp2_with fail
            refine (Hfew.out _ hb1).mono ?_
            rintro e w2 ⟨rfl, hq2⟩
            clear x1_0 x1_1 x1_2
            have k2 := k1.below hq2 k1.lt
            have hb2 := hb1.trans (hq2.mono hb1.size)
            have x2_0 : w2.cell? ⟨w.heap.size, 0, none⟩ = some (.string nm) := k2.cell 0
            have x2_1 : w2.cell? ⟨w.heap.size, 1, none⟩ = some vl := k2.cell 1
            have x2_2 : w2.cell? ⟨w.heap.size, 2, none⟩ = some vs := k2.cell 2
            go_wp2_with fail
            refine (Hval.out _ hb2).mono ?_
            rintro e w3 ⟨rfl, hq3⟩
            clear x2_0 x2_1 x2_2
            have k3 := k2.below hq3 k2.lt
            have hb3 := hb2.trans (hq3.mono hb2.size)
            have x3_0 : w3.cell? ⟨w.heap.size, 0, none⟩ = some (.string nm) := k3.cell 0
            have x3_1 : w3.cell? ⟨w.heap.size, 1, none⟩ = some vl := k3.cell 1
            have x3_2 : w3.cell? ⟨w.heap.size, 2, none⟩ = some vs := k3.cell 2
            go_wp2_with fail
            refine (H1.out _ hb3).mono ?_
            rintro e w4 ⟨v4, rfl, own4, hq4⟩
            clear x3_0 x3_1 x3_2
            have k4 := k3.below hq4 k3.lt
            have hb4 := hb3.trans (hq4.mono hb3.size)
            have x4_0 : w4.cell? ⟨w.heap.size, 0, none⟩ = some (.string nm) := k4.cell 0
            have x4_1 : w4.cell? ⟨w.heap.size, 1, none⟩ = some vl := k4.cell 1
            have x4_2 : w4.cell? ⟨w.heap.size, 2, none⟩ = some vs := k4.cell 2
            dsimp only
            go_wp2_with fail
            have hr4 := (Below.refl w4.heap.size w4).drew
            have hS4 : ∀ w', Below w4.heap.size w4 w' → (w'.cell? ⟨w.heap.size, 0, none⟩ = some (.string nm) ∧ w'.cell? ⟨w.heap.size, 1, none⟩ = some vl) ∧ w'.cell? ⟨w.heap.size, 2, none⟩ = some vs := fun w' h => ⟨⟨(k4.below h k4.lt).cell 0, (k4.below h k4.lt).cell 1⟩, (k4.below h k4.lt).cell 2⟩
            go_region_held3 (fun w' => (w'.cell? ⟨w.heap.size, 0, none⟩ = some (.string nm) ∧ w'.cell? ⟨w.heap.size, 1, none⟩ = some vl) ∧ w'.cell? ⟨w.heap.size, 2, none⟩ = some vs)
              (first | exact hS4 _ hr4 | exact hS4 _ (by assumption))
              (first
                | (go_at_call 13; refine (H3.out _ (hb4.trans (hr4.mono hb4.size))).mono ?_; rintro e w5 ⟨v5, rfl, own5, hq5'⟩; have hq5 := hr4.trans hq5'; obtain ⟨a5, e5, rfl⟩ := row_form own5))
            go_wp2_with fail
            go_ret
            exact ⟨rfl, hb4.trans (hq5.mono hb4.size)⟩
          · have hc2 : c = 2 := by omega
            subst hc2
            have h24 : a2.length = 24 := by omega
            have g24 : ((a2.length : Int) == 24) = true := by rw [beq_iff_eq]; omega
            clear h24 hc24
            go_enter Tryd.func7, Tryd.ntmps7
            go_wp2_with fail
            refine (head_any _).mono ?_
            rintro e w1 ⟨rfl, hq1⟩
            have k1 := k0.below hq1 k0.lt
            have hb1 := hb0.trans (hq1.mono hb0.size)
            have x1_0 : w1.cell? ⟨w.heap.size, 0, none⟩ = some (.string nm) := k1.cell 0
            have x1_1 : w1.cell? ⟨w.heap.size, 1, none⟩ = some vl := k1.cell 1
            have x1_2 : w1.cell? ⟨w.heap.size, 2, none⟩ = some vs := k1.cell 2
            go_wp2_with fail
            refine (Hfew.out _ hb1).mono ?_
            rintro e w2 ⟨rfl, hq2⟩
            clear x1_0 x1_1 x1_2
            have k2 := k1.below hq2 k1.lt
            have hb2 := hb1.trans (hq2.mono hb1.size)
            have x2_0 : w2.cell? ⟨w.heap.size, 0, none⟩ = some (.string nm) := k2.cell 0
            have x2_1 : w2.cell? ⟨w.heap.size, 1, none⟩ = some vl := k2.cell 1
            have x2_2 : w2.cell? ⟨w.heap.size, 2, none⟩ = some vs := k2.cell 2
            go_wp2_with fail
            refine (Hval.out _ hb2).mono ?_
            rintro e w3 ⟨rfl, hq3⟩
            clear x2_0 x2_1 x2_2
            have k3 := k2.below hq3 k2.lt
            have hb3 := hb2.trans (hq3.mono hb2.size)
            have x3_0 : w3.cell? ⟨w.heap.size, 0, none⟩ = some (.string nm) := k3.cell 0
            have x3_1 : w3.cell? ⟨w.heap.size, 1, none⟩ = some vl := k3.cell 1
            have x3_2 : w3.cell? ⟨w.heap.size, 2, none⟩ = some vs := k3.cell 2
            go_wp2_with fail
            refine (H1.out _ hb3).mono ?_
            rintro e w4 ⟨v4, rfl, own4, hq4⟩
            clear x3_0 x3_1 x3_2
            have k4 := k3.below hq4 k3.lt
            have hb4 := hb3.trans (hq4.mono hb3.size)
            have x4_0 : w4.cell? ⟨w.heap.size, 0, none⟩ = some (.string nm) := k4.cell 0
            have x4_1 : w4.cell? ⟨w.heap.size, 1, none⟩ = some vl := k4.cell 1
            have x4_2 : w4.cell? ⟨w.heap.size, 2, none⟩ = some vs := k4.cell 2
            dsimp only
            go_wp2_with fail
            have hr4 := (Below.refl w4.heap.size w4).drew
            have hS4 : ∀ w', Below w4.heap.size w4 w' → (w'.cell? ⟨w.heap.size, 0, none⟩ = some (.string nm) ∧ w'.cell? ⟨w.heap.size, 1, none⟩ = some vl) ∧ w'.cell? ⟨w.heap.size, 2, none⟩ = some vs := fun w' h => ⟨⟨(k4.below h k4.lt).cell 0, (k4.below h k4.lt).cell 1⟩, (k4.below h k4.lt).cell 2⟩
            go_region_held3 (fun w' => (w'.cell? ⟨w.heap.size, 0, none⟩ = some (.string nm) ∧ w'.cell? ⟨w.heap.size, 1, none⟩ = some vl) ∧ w'.cell? ⟨w.heap.size, 2, none⟩ = some vs)
              (first | exact hS4 _ hr4 | exact hS4 _ (by assumption))
              (first
                | (go_at_call 13; refine (H3.out _ (hb4.trans (hr4.mono hb4.size))).mono ?_; rintro e w5 ⟨v5, rfl, own5, hq5'⟩; have hq5 := hr4.trans hq5'; obtain ⟨a5, e5, rfl⟩ := row_form own5))
            go_wp2_with fail
            go_ret
            exact ⟨rfl, hb4.trans (hq5.mono hb4.size)⟩
end Go.Proofs.YtcabhanmeookkaaDoor.Al
