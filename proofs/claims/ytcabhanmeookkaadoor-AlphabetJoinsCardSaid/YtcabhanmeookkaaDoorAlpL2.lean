/- Walk over layer 10's law: AlphabetJoins. -/
import Derived.Test.YtcabhanmeookkaaDoorAlpL5
namespace Go.Proofs.YtcabhanmeookkaaDoor.Al
set_option linter.unusedVariables false
set_option linter.unusedSimpArgs false
open Go.RowKit

theorem toNat_cast {x : List Int} (h : ∀ i ∈ x, 0 ≤ i) : (x.map Int.toNat).map (fun (i : Nat) => (i : Int)) = x := by
  rw [List.map_map]
  conv => rhs; rw [← List.map_id x]
  exact List.map_congr_left fun i hi => by have := h i hi; simp; omega
theorem joins_law {L : List Bs} (F : Fine L) (x y : List Int) :
    ((joinA true L x).1 = [] ∧ (joinA true L x).2 = 1) ∨
    ((joinA true L x).2 = 0 ∧ readA true L (joinA true L x).1 = (x.map Int.toNat, 0, 0) ∧ (joinA true L x).1.length ≤ 100 ∧ (x.map Int.toNat).map (fun (i : Nat) => (i : Int)) = x ∧ ((joinA true L y).2 = 0 → ((joinA true L x).1 = (joinA true L y).1 ↔ x = y))) := by
  have hin : ∀ z : List Int, inB L.length z = true → 1 ≤ z.length ∧ z.length ≤ 24 ∧ (∀ i ∈ z, 0 ≤ i) ∧ ∀ i ∈ z.map Int.toNat, i < L.length := by
    intro z hz
    unfold inB at hz
    simp only [Bool.and_eq_true, decide_eq_true_eq, List.all_eq_true] at hz
    refine ⟨hz.1, hz.2.1, fun i hi => (hz.2.2 i hi).1, fun i hi => ?_⟩
    obtain ⟨j, hj, rfl⟩ := List.mem_map.1 hi
    have := hz.2.2 j hj
    omega
  have hval : ∀ z : List Int, inB L.length z = true → joinA true L z = (joinL L (z.map Int.toNat), 0) := fun z hz => by unfold joinA; rw [if_pos]; simp [hz]
  have hno : ∀ z : List Int, inB L.length z = false → joinA true L z = ([], 1) := fun z hz => by unfold joinA; rw [if_neg]; simp [hz]
  cases hx : inB L.length x with
  | false => rw [hno x hx]; exact .inl ⟨rfl, rfl⟩
  | true =>
    obtain ⟨h1, h2, h3, h4⟩ := hin x hx
    rw [hval x hx]
    refine .inr ⟨rfl, ?_, ?_, toNat_cast h3, fun hy => ?_⟩
    · rw [show readA true L (joinL L (x.map Int.toNat)) = readV L (joinL L (x.map Int.toNat)) from if_pos rfl]
      exact (word_join F _ h4 (by rw [List.length_map]; exact h1) (by rw [List.length_map]; exact h2)).read F
    · have := (joinL_len F.prop _ h4).2
      rw [List.length_map] at this
      show (joinL L (x.map Int.toNat)).length ≤ 100
      omega
    · cases hy2 : inB L.length y with
      | false => rw [hno y hy2] at hy; cases hy
      | true =>
        obtain ⟨k1, k2, k3, k4⟩ := hin y hy2
        rw [hval y hy2]
        refine ⟨fun h => ?_, fun h => by rw [h]⟩
        have e1 := rd_join F _ h4
        have e2 := rd_join F _ k4
        have h' : joinL L (x.map Int.toNat) = joinL L (y.map Int.toNat) := h
        rw [h', e2] at e1
        have e3 : y.map Int.toNat = x.map Int.toNat := congrArg Prod.fst e1
        rw [← toNat_cast h3, ← toNat_cast k3, e3]

set_option maxRecDepth 100000 in
set_option maxHeartbeats 8000000 in
theorem lawJoins (nm : ByteArray) (vl vs : Value) (L : List ByteArray) (S : List Int) (vx vy : Value) (x y : List Int) (hnm : nm.size ≤ 9223372036854775807) (w : World) (hL : StrSl w vl L) (hS : IntSl w vs S) (hX : IntSl w vx x) (hY : IntSl w vy y) :
    Calls Tryd.prog 5 #[.agg #[.string nm, vl, vs], vx, vy] w fun e w' => e = .returned (.bool true) ∧ Below w.heap.size w w' := by
  have hb0 : Below w.heap.size w (w.alloc (.cells #[.string nm, vl, vs] 25)) := (Below.refl _ _).alloc (Nat.le_refl _) _
  have k0 := Blk.new w 25 #[.string nm, vl, vs]
  have HL := Lib.hid hL
  have HS := Lib.hid hS
  have hxL := intSl_len hX
  have hyL := intSl_len hY
  have HX := Lib.hid hX
  have HY := Lib.hid hY
  obtain ⟨ax, cx, rfl⟩ := hX.form
  obtain ⟨ay, cy, rfl⟩ := hY.form
  clear hX hY
  have hfew := fun w' (h : Below w.heap.size w w') => few_any nm vl vs L S (⟨#[]⟩ : ByteArray) hnm (by first | exact hx | decide) w' (HL.out.below h) (HS.out.below h)
  cases hF : (fewA nm L S && decide (((⟨#[]⟩ : ByteArray)).size ≤ 300)) with
  | false =>
    rw [hF] at hfew
    have Hfew := Lib.hid hfew
    clear hfew hF
    go_enter Tryd.func5, Tryd.ntmps5
    go_wp2_with fail
    refine (head_any _).mono ?_
    rintro e w1 ⟨rfl, hq1⟩
    have k1 := k0.below hq1 k0.lt
    have hb1 := hb0.trans (hq1.mono hb0.size)
    have x1_0 : w1.cell? ⟨w.heap.size, 0, none⟩ = some (.string nm) := k1.cell 0
    have x1_1 : w1.cell? ⟨w.heap.size, 1, none⟩ = some vl := k1.cell 1
    have x1_2 : w1.cell? ⟨w.heap.size, 2, none⟩ = some vs := k1.cell 2
    go_wp2_with fail
    refine (Hfew.out _ hb1).mono ?_
    rintro e w2 ⟨rfl, hq2⟩
    clear x1_0 x1_1 x1_2
    have k2 := k1.below hq2 k1.lt
    have hb2 := hb1.trans (hq2.mono hb1.size)
    have x2_0 : w2.cell? ⟨w.heap.size, 0, none⟩ = some (.string nm) := k2.cell 0
    have x2_1 : w2.cell? ⟨w.heap.size, 1, none⟩ = some vl := k2.cell 1
    have x2_2 : w2.cell? ⟨w.heap.size, 2, none⟩ = some vs := k2.cell 2
    go_wp2_with fail
    go_ret
    exact ⟨rfl, hb2⟩
  | true =>
    rw [hF] at hfew
    have Hfew := Lib.hid hfew
    simp only [Bool.and_eq_true, decide_eq_true_eq] at hF
    obtain ⟨hA, hL70, hS70, hL20, hN100⟩ := few_alp hF.1 hL hS
    have hx3 := hF.2
    have HA := Lib.hid hA
    clear hfew hF hA hL hS
    have Hval := Lib.hid (fun w' (h : Below w.heap.size w w') => Valid_any nm vl vs L S w' (HA.out.below h))
    by_cases hx40 : (40 : Int) < (x.length : Int)
    · skip
      go_enter Tryd.func5, Tryd.ntmps5
      go_wp2_with fail
      refine (head_any _).mono ?_
      rintro e w1 ⟨rfl, hq1⟩
      have k1 := k0.below hq1 k0.lt
      have hb1 := hb0.trans (hq1.mono hb0.size)
      have x1_0 : w1.cell? ⟨w.heap.size, 0, none⟩ = some (.string nm) := k1.cell 0
      have x1_1 : w1.cell? ⟨w.heap.size, 1, none⟩ = some vl := k1.cell 1
      have x1_2 : w1.cell? ⟨w.heap.size, 2, none⟩ = some vs := k1.cell 2
      go_wp2_with fail
      refine (Hfew.out _ hb1).mono ?_
      rintro e w2 ⟨rfl, hq2⟩
      clear x1_0 x1_1 x1_2
      have k2 := k1.below hq2 k1.lt
      have hb2 := hb1.trans (hq2.mono hb1.size)
      have x2_0 : w2.cell? ⟨w.heap.size, 0, none⟩ = some (.string nm) := k2.cell 0
      have x2_1 : w2.cell? ⟨w.heap.size, 1, none⟩ = some vl := k2.cell 1
      have x2_2 : w2.cell? ⟨w.heap.size, 2, none⟩ = some vs := k2.cell 2
      go_wp2_with fail
      go_ret
      exact ⟨rfl, hb2⟩
    · by_cases hy40 : (40 : Int) < (y.length : Int)
      · skip
        go_enter Tryd.func5, Tryd.ntmps5
        go_wp2_with fail
        refine (head_any _).mono ?_
        rintro e w1 ⟨rfl, hq1⟩
        have k1 := k0.below hq1 k0.lt
        have hb1 := hb0.trans (hq1.mono hb0.size)
        have x1_0 : w1.cell? ⟨w.heap.size, 0, none⟩ = some (.string nm) := k1.cell 0
        have x1_1 : w1.cell? ⟨w.heap.size, 1, none⟩ = some vl := k1.cell 1
        have x1_2 : w1.cell? ⟨w.heap.size, 2, none⟩ = some vs := k1.cell 2
        go_wp2_with fail
        refine (Hfew.out _ hb1).mono ?_
        rintro e w2 ⟨rfl, hq2⟩
        clear x1_0 x1_1 x1_2
        have k2 := k1.below hq2 k1.lt
        have hb2 := hb1.trans (hq2.mono hb1.size)
        have x2_0 : w2.cell? ⟨w.heap.size, 0, none⟩ = some (.string nm) := k2.cell 0
        have x2_1 : w2.cell? ⟨w.heap.size, 1, none⟩ = some vl := k2.cell 1
        have x2_2 : w2.cell? ⟨w.heap.size, 2, none⟩ = some vs := k2.cell 2
        go_wp2_with fail
        go_ret
        exact ⟨rfl, hb2⟩
      · cases hV : validA (bl nm) (bls L) S with
        | false =>
          rw [hV] at Hval
          clear hV
          go_enter Tryd.func5, Tryd.ntmps5
          go_wp2_with fail
          refine (head_any _).mono ?_
          rintro e w1 ⟨rfl, hq1⟩
          have k1 := k0.below hq1 k0.lt
          have hb1 := hb0.trans (hq1.mono hb0.size)
          have x1_0 : w1.cell? ⟨w.heap.size, 0, none⟩ = some (.string nm) := k1.cell 0
          have x1_1 : w1.cell? ⟨w.heap.size, 1, none⟩ = some vl := k1.cell 1
          have x1_2 : w1.cell? ⟨w.heap.size, 2, none⟩ = some vs := k1.cell 2
          go_wp2_with fail
          refine (Hfew.out _ hb1).mono ?_
          rintro e w2 ⟨rfl, hq2⟩
          clear x1_0 x1_1 x1_2
          have k2 := k1.below hq2 k1.lt
          have hb2 := hb1.trans (hq2.mono hb1.size)
          have x2_0 : w2.cell? ⟨w.heap.size, 0, none⟩ = some (.string nm) := k2.cell 0
          have x2_1 : w2.cell? ⟨w.heap.size, 1, none⟩ = some vl := k2.cell 1
          have x2_2 : w2.cell? ⟨w.heap.size, 2, none⟩ = some vs := k2.cell 2
          go_wp2_with fail
          refine (Hval.out _ hb2).mono ?_
          rintro e w3 ⟨rfl, hq3⟩
          clear x2_0 x2_1 x2_2
          have k3 := k2.below hq3 k2.lt
          have hb3 := hb2.trans (hq3.mono hb2.size)
          have x3_0 : w3.cell? ⟨w.heap.size, 0, none⟩ = some (.string nm) := k3.cell 0
          have x3_1 : w3.cell? ⟨w.heap.size, 1, none⟩ = some vl := k3.cell 1
          have x3_2 : w3.cell? ⟨w.heap.size, 2, none⟩ = some vs := k3.cell 2
          go_wp2_with fail
          go_ret
          exact ⟨rfl, hb3⟩
        | true =>
          rw [hV] at Hval
          have hF := valid_fine hV
          have hJ1 := fun w' (h : Below w.heap.size w w') => Join_any nm vl vs (.slice ax x.length cx) L S x w' (HA.out.below h) (HX.out.below h) (by omega)
          have hJ2 := fun w' (h : Below w.heap.size w w') => Join_any nm vl vs (.slice ay y.length cy) L S y w' (HA.out.below h) (HY.out.below h) (by omega)
          have hR3 := fun t ht w' (h : Below w.heap.size w w') => Read_any nm vl vs L S t ht w' (HA.out.below h)
          rw [hV] at hJ1 hJ2 hR3
          have hj := joins_law hF x y
          generalize joinA true (bls L) x = r1 at *
          generalize joinA true (bls L) y = r2 at *
          obtain ⟨s, e1⟩ := r1
          obtain ⟨t, e2⟩ := r2
          dsimp only at hj
          have H1 := Lib.hid hJ1
          have H2 := Lib.hid hJ2
          have H3 := Lib.hid hR3
          clear hJ1 hJ2 hR3 hV
          rcases hj with ⟨rfl, rfl⟩ | ⟨rfl, hread, hsl, hcast, hst⟩
          · skip
            go_enter Tryd.func5, Tryd.ntmps5
            go_wp2_with fail
            refine (head_any _).mono ?_
            rintro e w1 ⟨rfl, hq1⟩
            have k1 := k0.below hq1 k0.lt
            have hb1 := hb0.trans (hq1.mono hb0.size)
            have x1_0 : w1.cell? ⟨w.heap.size, 0, none⟩ = some (.string nm) := k1.cell 0
            have x1_1 : w1.cell? ⟨w.heap.size, 1, none⟩ = some vl := k1.cell 1
            have x1_2 : w1.cell? ⟨w.heap.size, 2, none⟩ = some vs := k1.cell 2
            go_wp2_with fail
            refine (Hfew.out _ hb1).mono ?_
            rintro e w2 ⟨rfl, hq2⟩
            clear x1_0 x1_1 x1_2
            have k2 := k1.below hq2 k1.lt
            have hb2 := hb1.trans (hq2.mono hb1.size)
            have x2_0 : w2.cell? ⟨w.heap.size, 0, none⟩ = some (.string nm) := k2.cell 0
            have x2_1 : w2.cell? ⟨w.heap.size, 1, none⟩ = some vl := k2.cell 1
            have x2_2 : w2.cell? ⟨w.heap.size, 2, none⟩ = some vs := k2.cell 2
            go_wp2_with fail
            refine (Hval.out _ hb2).mono ?_
            rintro e w3 ⟨rfl, hq3⟩
            clear x2_0 x2_1 x2_2
            have k3 := k2.below hq3 k2.lt
            have hb3 := hb2.trans (hq3.mono hb2.size)
            have x3_0 : w3.cell? ⟨w.heap.size, 0, none⟩ = some (.string nm) := k3.cell 0
            have x3_1 : w3.cell? ⟨w.heap.size, 1, none⟩ = some vl := k3.cell 1
            have x3_2 : w3.cell? ⟨w.heap.size, 2, none⟩ = some vs := k3.cell 2
            go_wp2_with fail
            refine (H1.out _ hb3).mono ?_
            rintro e w4 ⟨rfl, hq4⟩
            clear x3_0 x3_1 x3_2
            have k4 := k3.below hq4 k3.lt
            have hb4 := hb3.trans (hq4.mono hb3.size)
            have x4_0 : w4.cell? ⟨w.heap.size, 0, none⟩ = some (.string nm) := k4.cell 0
            have x4_1 : w4.cell? ⟨w.heap.size, 1, none⟩ = some vl := k4.cell 1
            have x4_2 : w4.cell? ⟨w.heap.size, 2, none⟩ = some vs := k4.cell 2
            go_wp2_with fail
            refine (H2.out _ hb4).mono ?_
            rintro e w5 ⟨rfl, hq5⟩
            clear x4_0 x4_1 x4_2
            have k5 := k4.below hq5 k4.lt
            have hb5 := hb4.trans (hq5.mono hb4.size)
            have x5_0 : w5.cell? ⟨w.heap.size, 0, none⟩ = some (.string nm) := k5.cell 0
            have x5_1 : w5.cell? ⟨w.heap.size, 1, none⟩ = some vl := k5.cell 1
            have x5_2 : w5.cell? ⟨w.heap.size, 2, none⟩ = some vs := k5.cell 2
            dsimp only
            go_wp2_with fail
            go_ret
            exact ⟨rfl, hb5⟩
          · have Hread := Lib.hid hread
            have Hcast := Lib.hid hcast
            have H4 : Hid (∀ w', Below w.heap.size w w' → Calls Tryd.prog 13 #[.agg #[.string nm, vl, vs], .string ⟨s.toArray⟩] w' (ReadR (x.map Int.toNat, 0, 0) w')) := Lib.hid fun w' h => by
              have h1 := H3.out ⟨s.toArray⟩ (by rw [← bl_len, bl_mk]; omega) w' h
              rw [bl_mk, Hread.out] at h1
              exact h1
            clear hread hcast
            by_cases he2 : e2 = 0
            · subst he2
              have hst := hst rfl
              by_cases hxy : x = y
              · have q : (s == t) = true := by rw [beq_iff_eq]; exact hst.2 hxy
                have Hints : Hid (∀ w', Below w.heap.size w w' → Calls Tryd.prog 21 #[.slice ax x.length cx, .slice ay y.length cy] w' fun e w'' => e = .returned (.bool true) ∧ Below w'.heap.size w' w'') := Lib.hid fun w' h => by
                  have h1 := Ints_any (.slice ax x.length cx) (.slice ay y.length cy) x y w' (HX.out.below h) (HY.out.below h) (by omega)
                  rw [decide_eq_true hxy] at h1
                  exact h1
                clear hst hxy
                go_enter Tryd.func5, Tryd.ntmps5
                go_wp2_with fail
                refine (head_any _).mono ?_
                rintro e w1 ⟨rfl, hq1⟩
                have k1 := k0.below hq1 k0.lt
                have hb1 := hb0.trans (hq1.mono hb0.size)
                have x1_0 : w1.cell? ⟨w.heap.size, 0, none⟩ = some (.string nm) := k1.cell 0
                have x1_1 : w1.cell? ⟨w.heap.size, 1, none⟩ = some vl := k1.cell 1
                have x1_2 : w1.cell? ⟨w.heap.size, 2, none⟩ = some vs := k1.cell 2
                go_wp2_with fail
                refine (Hfew.out _ hb1).mono ?_
                rintro e w2 ⟨rfl, hq2⟩
                clear x1_0 x1_1 x1_2
                have k2 := k1.below hq2 k1.lt
                have hb2 := hb1.trans (hq2.mono hb1.size)
                have x2_0 : w2.cell? ⟨w.heap.size, 0, none⟩ = some (.string nm) := k2.cell 0
                have x2_1 : w2.cell? ⟨w.heap.size, 1, none⟩ = some vl := k2.cell 1
                have x2_2 : w2.cell? ⟨w.heap.size, 2, none⟩ = some vs := k2.cell 2
                go_wp2_with fail
                refine (Hval.out _ hb2).mono ?_
                rintro e w3 ⟨rfl, hq3⟩
                clear x2_0 x2_1 x2_2
                have k3 := k2.below hq3 k2.lt
                have hb3 := hb2.trans (hq3.mono hb2.size)
                have x3_0 : w3.cell? ⟨w.heap.size, 0, none⟩ = some (.string nm) := k3.cell 0
                have x3_1 : w3.cell? ⟨w.heap.size, 1, none⟩ = some vl := k3.cell 1
                have x3_2 : w3.cell? ⟨w.heap.size, 2, none⟩ = some vs := k3.cell 2
                go_wp2_with fail
                refine (H1.out _ hb3).mono ?_
                rintro e w4 ⟨rfl, hq4⟩
                clear x3_0 x3_1 x3_2
                have k4 := k3.below hq4 k3.lt
                have hb4 := hb3.trans (hq4.mono hb3.size)
                have x4_0 : w4.cell? ⟨w.heap.size, 0, none⟩ = some (.string nm) := k4.cell 0
                have x4_1 : w4.cell? ⟨w.heap.size, 1, none⟩ = some vl := k4.cell 1
                have x4_2 : w4.cell? ⟨w.heap.size, 2, none⟩ = some vs := k4.cell 2
                go_wp2_with fail
                refine (H2.out _ hb4).mono ?_
                rintro e w5 ⟨rfl, hq5⟩
                clear x4_0 x4_1 x4_2
                have k5 := k4.below hq5 k4.lt
                have hb5 := hb4.trans (hq5.mono hb4.size)
                have x5_0 : w5.cell? ⟨w.heap.size, 0, none⟩ = some (.string nm) := k5.cell 0
                have x5_1 : w5.cell? ⟨w.heap.size, 1, none⟩ = some vl := k5.cell 1
                have x5_2 : w5.cell? ⟨w.heap.size, 2, none⟩ = some vs := k5.cell 2
                dsimp only
                go_wp2_with fail
                refine (H4.out _ hb5).mono ?_
                rintro e w6 ⟨v6, rfl, own6, hq6⟩
                clear x5_0 x5_1 x5_2
                have k6 := k5.below hq6 k5.lt
                have hb6 := hb5.trans (hq6.mono hb5.size)
                have x6_0 : w6.cell? ⟨w.heap.size, 0, none⟩ = some (.string nm) := k6.cell 0
                have x6_1 : w6.cell? ⟨w.heap.size, 1, none⟩ = some vl := k6.cell 1
                have x6_2 : w6.cell? ⟨w.heap.size, 2, none⟩ = some vs := k6.cell 2
                dsimp only at own6 ⊢
                have s6 := row_intSl own6
                rw [Hcast.out] at s6
                obtain ⟨a6, c6, rfl⟩ := row_form own6
                rw [List.length_map] at s6
                simp only [List.length_map]
                go_wp2_with fail
                refine (Ints_same s6 (HX.out.below hb6) (by omega)).mono ?_
                rintro e w7 ⟨rfl, hq7⟩
                clear x6_0 x6_1 x6_2
                have k7 := k6.below hq7 k6.lt
                have hb7 := hb6.trans (hq7.mono hb6.size)
                have x7_0 : w7.cell? ⟨w.heap.size, 0, none⟩ = some (.string nm) := k7.cell 0
                have x7_1 : w7.cell? ⟨w.heap.size, 1, none⟩ = some vl := k7.cell 1
                have x7_2 : w7.cell? ⟨w.heap.size, 2, none⟩ = some vs := k7.cell 2
                go_wp2_with fail
                refine (Hints.out _ hb7).mono ?_
                rintro e w8 ⟨rfl, hq8⟩
                clear x7_0 x7_1 x7_2
                have k8 := k7.below hq8 k7.lt
                have hb8 := hb7.trans (hq8.mono hb7.size)
                have x8_0 : w8.cell? ⟨w.heap.size, 0, none⟩ = some (.string nm) := k8.cell 0
                have x8_1 : w8.cell? ⟨w.heap.size, 1, none⟩ = some vl := k8.cell 1
                have x8_2 : w8.cell? ⟨w.heap.size, 2, none⟩ = some vs := k8.cell 2
                go_wp2_with fail
                go_ret
                exact ⟨rfl, hb8⟩
              · have q : (s == t) = false := by rw [beq_eq_false_iff_ne]; exact fun h => hxy (hst.1 h)
                have Hints : Hid (∀ w', Below w.heap.size w w' → Calls Tryd.prog 21 #[.slice ax x.length cx, .slice ay y.length cy] w' fun e w'' => e = .returned (.bool false) ∧ Below w'.heap.size w' w'') := Lib.hid fun w' h => by
                  have h1 := Ints_any (.slice ax x.length cx) (.slice ay y.length cy) x y w' (HX.out.below h) (HY.out.below h) (by omega)
                  rw [decide_eq_false hxy] at h1
                  exact h1
                clear hst hxy
                go_enter Tryd.func5, Tryd.ntmps5
                go_wp2_with fail
                refine (head_any _).mono ?_
                rintro e w1 ⟨rfl, hq1⟩
                have k1 := k0.below hq1 k0.lt
                have hb1 := hb0.trans (hq1.mono hb0.size)
                have x1_0 : w1.cell? ⟨w.heap.size, 0, none⟩ = some (.string nm) := k1.cell 0
                have x1_1 : w1.cell? ⟨w.heap.size, 1, none⟩ = some vl := k1.cell 1
                have x1_2 : w1.cell? ⟨w.heap.size, 2, none⟩ = some vs := k1.cell 2
                go_wp2_with fail
                refine (Hfew.out _ hb1).mono ?_
                rintro e w2 ⟨rfl, hq2⟩
                clear x1_0 x1_1 x1_2
                have k2 := k1.below hq2 k1.lt
                have hb2 := hb1.trans (hq2.mono hb1.size)
                have x2_0 : w2.cell? ⟨w.heap.size, 0, none⟩ = some (.string nm) := k2.cell 0
                have x2_1 : w2.cell? ⟨w.heap.size, 1, none⟩ = some vl := k2.cell 1
                have x2_2 : w2.cell? ⟨w.heap.size, 2, none⟩ = some vs := k2.cell 2
                go_wp2_with fail
                refine (Hval.out _ hb2).mono ?_
                rintro e w3 ⟨rfl, hq3⟩
                clear x2_0 x2_1 x2_2
                have k3 := k2.below hq3 k2.lt
                have hb3 := hb2.trans (hq3.mono hb2.size)
                have x3_0 : w3.cell? ⟨w.heap.size, 0, none⟩ = some (.string nm) := k3.cell 0
                have x3_1 : w3.cell? ⟨w.heap.size, 1, none⟩ = some vl := k3.cell 1
                have x3_2 : w3.cell? ⟨w.heap.size, 2, none⟩ = some vs := k3.cell 2
                go_wp2_with fail
                refine (H1.out _ hb3).mono ?_
                rintro e w4 ⟨rfl, hq4⟩
                clear x3_0 x3_1 x3_2
                have k4 := k3.below hq4 k3.lt
                have hb4 := hb3.trans (hq4.mono hb3.size)
                have x4_0 : w4.cell? ⟨w.heap.size, 0, none⟩ = some (.string nm) := k4.cell 0
                have x4_1 : w4.cell? ⟨w.heap.size, 1, none⟩ = some vl := k4.cell 1
                have x4_2 : w4.cell? ⟨w.heap.size, 2, none⟩ = some vs := k4.cell 2
                go_wp2_with fail
                refine (H2.out _ hb4).mono ?_
                rintro e w5 ⟨rfl, hq5⟩
                clear x4_0 x4_1 x4_2
                have k5 := k4.below hq5 k4.lt
                have hb5 := hb4.trans (hq5.mono hb4.size)
                have x5_0 : w5.cell? ⟨w.heap.size, 0, none⟩ = some (.string nm) := k5.cell 0
                have x5_1 : w5.cell? ⟨w.heap.size, 1, none⟩ = some vl := k5.cell 1
                have x5_2 : w5.cell? ⟨w.heap.size, 2, none⟩ = some vs := k5.cell 2
                dsimp only
                go_wp2_with fail
                refine (H4.out _ hb5).mono ?_
                rintro e w6 ⟨v6, rfl, own6, hq6⟩
                clear x5_0 x5_1 x5_2
                have k6 := k5.below hq6 k5.lt
                have hb6 := hb5.trans (hq6.mono hb5.size)
                have x6_0 : w6.cell? ⟨w.heap.size, 0, none⟩ = some (.string nm) := k6.cell 0
                have x6_1 : w6.cell? ⟨w.heap.size, 1, none⟩ = some vl := k6.cell 1
                have x6_2 : w6.cell? ⟨w.heap.size, 2, none⟩ = some vs := k6.cell 2
                dsimp only at own6 ⊢
                have s6 := row_intSl own6
                rw [Hcast.out] at s6
                obtain ⟨a6, c6, rfl⟩ := row_form own6
                rw [List.length_map] at s6
                simp only [List.length_map]
                go_wp2_with fail
                refine (Ints_same s6 (HX.out.below hb6) (by omega)).mono ?_
                rintro e w7 ⟨rfl, hq7⟩
                clear x6_0 x6_1 x6_2
                have k7 := k6.below hq7 k6.lt
                have hb7 := hb6.trans (hq7.mono hb6.size)
                have x7_0 : w7.cell? ⟨w.heap.size, 0, none⟩ = some (.string nm) := k7.cell 0
                have x7_1 : w7.cell? ⟨w.heap.size, 1, none⟩ = some vl := k7.cell 1
                have x7_2 : w7.cell? ⟨w.heap.size, 2, none⟩ = some vs := k7.cell 2
                go_wp2_with fail
                refine (Hints.out _ hb7).mono ?_
                rintro e w8 ⟨rfl, hq8⟩
                clear x7_0 x7_1 x7_2
                have k8 := k7.below hq8 k7.lt
                have hb8 := hb7.trans (hq8.mono hb7.size)
                have x8_0 : w8.cell? ⟨w.heap.size, 0, none⟩ = some (.string nm) := k8.cell 0
                have x8_1 : w8.cell? ⟨w.heap.size, 1, none⟩ = some vl := k8.cell 1
                have x8_2 : w8.cell? ⟨w.heap.size, 2, none⟩ = some vs := k8.cell 2
                go_wp2_with fail
                go_ret
                exact ⟨rfl, hb8⟩
            · have g2 : ((e2 : Int) != 0) = true := by rw [bne_iff_ne]; omega
              clear hst
              go_enter Tryd.func5, Tryd.ntmps5
              go_wp2_with fail
              refine (head_any _).mono ?_
              rintro e w1 ⟨rfl, hq1⟩
              have k1 := k0.below hq1 k0.lt
              have hb1 := hb0.trans (hq1.mono hb0.size)
              have x1_0 : w1.cell? ⟨w.heap.size, 0, none⟩ = some (.string nm) := k1.cell 0
              have x1_1 : w1.cell? ⟨w.heap.size, 1, none⟩ = some vl := k1.cell 1
              have x1_2 : w1.cell? ⟨w.heap.size, 2, none⟩ = some vs := k1.cell 2
              go_wp2_with fail
              refine (Hfew.out _ hb1).mono ?_
              rintro e w2 ⟨rfl, hq2⟩
              clear x1_0 x1_1 x1_2
              have k2 := k1.below hq2 k1.lt
              have hb2 := hb1.trans (hq2.mono hb1.size)
              have x2_0 : w2.cell? ⟨w.heap.size, 0, none⟩ = some (.string nm) := k2.cell 0
              have x2_1 : w2.cell? ⟨w.heap.size, 1, none⟩ = some vl := k2.cell 1
              have x2_2 : w2.cell? ⟨w.heap.size, 2, none⟩ = some vs := k2.cell 2
              go_wp2_with fail
              refine (Hval.out _ hb2).mono ?_
              rintro e w3 ⟨rfl, hq3⟩
              clear x2_0 x2_1 x2_2
              have k3 := k2.below hq3 k2.lt
              have hb3 := hb2.trans (hq3.mono hb2.size)
              have x3_0 : w3.cell? ⟨w.heap.size, 0, none⟩ = some (.string nm) := k3.cell 0
              have x3_1 : w3.cell? ⟨w.heap.size, 1, none⟩ = some vl := k3.cell 1
              have x3_2 : w3.cell? ⟨w.heap.size, 2, none⟩ = some vs := k3.cell 2
              go_wp2_with fail
              refine (H1.out _ hb3).mono ?_
              rintro e w4 ⟨rfl, hq4⟩
              clear x3_0 x3_1 x3_2
              have k4 := k3.below hq4 k3.lt
              have hb4 := hb3.trans (hq4.mono hb3.size)
              have x4_0 : w4.cell? ⟨w.heap.size, 0, none⟩ = some (.string nm) := k4.cell 0
              have x4_1 : w4.cell? ⟨w.heap.size, 1, none⟩ = some vl := k4.cell 1
              have x4_2 : w4.cell? ⟨w.heap.size, 2, none⟩ = some vs := k4.cell 2
              go_wp2_with fail
              refine (H2.out _ hb4).mono ?_
              rintro e w5 ⟨rfl, hq5⟩
              clear x4_0 x4_1 x4_2
              have k5 := k4.below hq5 k4.lt
              have hb5 := hb4.trans (hq5.mono hb4.size)
              have x5_0 : w5.cell? ⟨w.heap.size, 0, none⟩ = some (.string nm) := k5.cell 0
              have x5_1 : w5.cell? ⟨w.heap.size, 1, none⟩ = some vl := k5.cell 1
              have x5_2 : w5.cell? ⟨w.heap.size, 2, none⟩ = some vs := k5.cell 2
              dsimp only
              go_wp2_with fail
              refine (H4.out _ hb5).mono ?_
              rintro e w6 ⟨v6, rfl, own6, hq6⟩
              clear x5_0 x5_1 x5_2
              have k6 := k5.below hq6 k5.lt
              have hb6 := hb5.trans (hq6.mono hb5.size)
              have x6_0 : w6.cell? ⟨w.heap.size, 0, none⟩ = some (.string nm) := k6.cell 0
              have x6_1 : w6.cell? ⟨w.heap.size, 1, none⟩ = some vl := k6.cell 1
              have x6_2 : w6.cell? ⟨w.heap.size, 2, none⟩ = some vs := k6.cell 2
              dsimp only at own6 ⊢
              have s6 := row_intSl own6
              rw [Hcast.out] at s6
              obtain ⟨a6, c6, rfl⟩ := row_form own6
              rw [List.length_map] at s6
              simp only [List.length_map]
              go_wp2_with fail
              refine (Ints_same s6 (HX.out.below hb6) (by omega)).mono ?_
              rintro e w7 ⟨rfl, hq7⟩
              clear x6_0 x6_1 x6_2
              have k7 := k6.below hq7 k6.lt
              have hb7 := hb6.trans (hq7.mono hb6.size)
              have x7_0 : w7.cell? ⟨w.heap.size, 0, none⟩ = some (.string nm) := k7.cell 0
              have x7_1 : w7.cell? ⟨w.heap.size, 1, none⟩ = some vl := k7.cell 1
              have x7_2 : w7.cell? ⟨w.heap.size, 2, none⟩ = some vs := k7.cell 2
              go_wp2_with fail
              go_ret
              exact ⟨rfl, hb7⟩
end Go.Proofs.YtcabhanmeookkaaDoor.Al
