/- Walk over layer 10's law: AlphabetMatchesReference. -/
import Derived.Test.YtcabhanmeookkaaDoorAlpR6
namespace Go.Proofs.YtcabhanmeookkaaDoor.Al
set_option linter.unusedVariables false
set_option linter.unusedSimpArgs false
open Go.RowKit

theorem read_len (V : Bool) (L : List Bs) (t : Bs) : (readA V L t).1.length ≤ 24 := by
  unfold readA
  split
  · rcases readV_cases L t with ⟨_, e⟩ | ⟨_, _, e⟩ | ⟨_, _, _, e⟩ | ⟨_, h, _, e⟩ <;> rw [e] <;> simp
    exact h
  · simp

set_option maxRecDepth 100000 in
set_option maxHeartbeats 8000000 in
theorem lawMatches10 (nm : ByteArray) (vl vs : Value) (L : List ByteArray) (S : List Int) (t : ByteArray) (vx : Value) (x : List Int) (hnm : nm.size ≤ 9223372036854775807) (hx : t.size ≤ 9223372036854775807) (w : World) (hL : StrSl w vl L) (hS : IntSl w vs S) (hX : IntSl w vx x) :
    Calls Tryd.prog 3 #[.agg #[.string nm, vl, vs], .string t, vx] w fun e w' => e = .returned (.bool true) ∧ Below w.heap.size w w' := by
  have hb0 : Below w.heap.size w (w.alloc (.cells #[.string nm, vl, vs] 25)) := (Below.refl _ _).alloc (Nat.le_refl _) _
  have k0 := Blk.new w 25 #[.string nm, vl, vs]
  have HL := Lib.hid hL
  have HS := Lib.hid hS
  have hxL := intSl_len hX
  have HX := Lib.hid hX
  obtain ⟨ax, cx, rfl⟩ := hX.form
  clear hX
  have hfew := fun w' (h : Below w.heap.size w w') => few_any nm vl vs L S t hnm (by first | exact hx | decide) w' (HL.out.below h) (HS.out.below h)
  cases hF : (fewA nm L S && decide (t.size ≤ 300)) with
  | false =>
    rw [hF] at hfew
    have Hfew := Lib.hid hfew
    clear hfew hF
    go_enter Tryd.func3, Tryd.ntmps3
    go_wp2_with fail
    refine (head_any _).mono ?_
    rintro e w1 ⟨rfl, hq1⟩
    have k1 := k0.below hq1 k0.lt
    have hb1 := hb0.trans (hq1.mono hb0.size)
    have x1_0 : w1.cell? ⟨w.heap.size, 0, none⟩ = some (.string nm) := k1.cell 0
    have x1_1 : w1.cell? ⟨w.heap.size, 1, none⟩ = some vl := k1.cell 1
    have x1_2 : w1.cell? ⟨w.heap.size, 2, none⟩ = some vs := k1.cell 2
    go_wp2_with fail
    refine (Hfew.out _ hb1).mono ?_
    rintro e w2 ⟨rfl, hq2⟩
    clear x1_0 x1_1 x1_2
    have k2 := k1.below hq2 k1.lt
    have hb2 := hb1.trans (hq2.mono hb1.size)
    have x2_0 : w2.cell? ⟨w.heap.size, 0, none⟩ = some (.string nm) := k2.cell 0
    have x2_1 : w2.cell? ⟨w.heap.size, 1, none⟩ = some vl := k2.cell 1
    have x2_2 : w2.cell? ⟨w.heap.size, 2, none⟩ = some vs := k2.cell 2
    go_wp2_with fail
    go_ret
    exact ⟨rfl, hb2⟩
  | true =>
    rw [hF] at hfew
    have Hfew := Lib.hid hfew
    simp only [Bool.and_eq_true, decide_eq_true_eq] at hF
    obtain ⟨hA, hL70, hS70, hL20, hN100⟩ := few_alp hF.1 hL hS
    have hx3 := hF.2
    have HA := Lib.hid hA
    clear hfew hF hA hL hS
    by_cases hx40 : (40 : Int) < (x.length : Int)
    · skip
      go_enter Tryd.func3, Tryd.ntmps3
      go_wp2_with fail
      refine (head_any _).mono ?_
      rintro e w1 ⟨rfl, hq1⟩
      have k1 := k0.below hq1 k0.lt
      have hb1 := hb0.trans (hq1.mono hb0.size)
      have x1_0 : w1.cell? ⟨w.heap.size, 0, none⟩ = some (.string nm) := k1.cell 0
      have x1_1 : w1.cell? ⟨w.heap.size, 1, none⟩ = some vl := k1.cell 1
      have x1_2 : w1.cell? ⟨w.heap.size, 2, none⟩ = some vs := k1.cell 2
      go_wp2_with fail
      refine (Hfew.out _ hb1).mono ?_
      rintro e w2 ⟨rfl, hq2⟩
      clear x1_0 x1_1 x1_2
      have k2 := k1.below hq2 k1.lt
      have hb2 := hb1.trans (hq2.mono hb1.size)
      have x2_0 : w2.cell? ⟨w.heap.size, 0, none⟩ = some (.string nm) := k2.cell 0
      have x2_1 : w2.cell? ⟨w.heap.size, 1, none⟩ = some vl := k2.cell 1
      have x2_2 : w2.cell? ⟨w.heap.size, 2, none⟩ = some vs := k2.cell 2
      go_wp2_with fail
      go_ret
      exact ⟨rfl, hb2⟩
    · have hR1 := fun w' (h : Below w.heap.size w w') => Read_any nm vl vs L S t (by omega) w' (HA.out.below h)
      have hR2 := fun w' (h : Below w.heap.size w w') => rRead_any nm vl vs L S t (by omega) w' (HA.out.below h)
      have hJ1 := fun w' (h : Below w.heap.size w w') => Join_any nm vl vs (.slice ax x.length cx) L S x w' (HA.out.below h) (HX.out.below h) (by omega)
      have hJ2 := fun w' (h : Below w.heap.size w w') => rJoin_any nm vl vs (.slice ax x.length cx) L S x w' (HA.out.below h) (HX.out.below h) (by omega)
      have hF1 := fun w' (h : Below w.heap.size w w') => Fold_any nm vl vs L S t (by omega) w' (HA.out.below h)
      have hF2 := fun w' (h : Below w.heap.size w w') => rFold_any nm vl vs L S t (by omega) w' (HA.out.below h)
      have hV1 := fun w' (h : Below w.heap.size w w') => Valid_any nm vl vs L S w' (HA.out.below h)
      have hV2 := fun w' (h : Below w.heap.size w w') => rValid_any nm vl vs L S w' (HA.out.below h)
      have hlaw := read_len (validA (bl nm) (bls L) S) (bls L) (bl t)
      generalize foldA (validA (bl nm) (bls L) S) (bls L) S (bl t) = f at *
      generalize readA (validA (bl nm) (bls L) S) (bls L) (bl t) = r at *
      generalize joinA (validA (bl nm) (bls L) S) (bls L) x = j at *
      generalize validA (bl nm) (bls L) S = V at *
      obtain ⟨a, c, p⟩ := r
      obtain ⟨s1, e1⟩ := j
      obtain ⟨s2, e2⟩ := f
      dsimp only at hlaw
      have R1 := Lib.hid hR1
      have R2 := Lib.hid hR2
      have J1 := Lib.hid hJ1
      have J2 := Lib.hid hJ2
      have F1 := Lib.hid hF1
      have F2 := Lib.hid hF2
      have V1 := Lib.hid hV1
      have V2 := Lib.hid hV2
      clear hR1 hR2 hJ1 hJ2 hF1 hF2 hV1 hV2
      go_enter Tryd.func3, Tryd.ntmps3
      go_wp2_with fail
      refine (head_any _).mono ?_
      rintro e w1 ⟨rfl, hq1⟩
      have k1 := k0.below hq1 k0.lt
      have hb1 := hb0.trans (hq1.mono hb0.size)
      have x1_0 : w1.cell? ⟨w.heap.size, 0, none⟩ = some (.string nm) := k1.cell 0
      have x1_1 : w1.cell? ⟨w.heap.size, 1, none⟩ = some vl := k1.cell 1
      have x1_2 : w1.cell? ⟨w.heap.size, 2, none⟩ = some vs := k1.cell 2
      go_wp2_with fail
      refine (Hfew.out _ hb1).mono ?_
      rintro e w2 ⟨rfl, hq2⟩
      clear x1_0 x1_1 x1_2
      have k2 := k1.below hq2 k1.lt
      have hb2 := hb1.trans (hq2.mono hb1.size)
      have x2_0 : w2.cell? ⟨w.heap.size, 0, none⟩ = some (.string nm) := k2.cell 0
      have x2_1 : w2.cell? ⟨w.heap.size, 1, none⟩ = some vl := k2.cell 1
      have x2_2 : w2.cell? ⟨w.heap.size, 2, none⟩ = some vs := k2.cell 2
      go_wp2_with fail
      refine (R1.out _ hb2).mono ?_
      rintro e w3 ⟨v3, rfl, own3, hq3⟩
      clear x2_0 x2_1 x2_2
      have k3 := k2.below hq3 k2.lt
      have hb3 := hb2.trans (hq3.mono hb2.size)
      have x3_0 : w3.cell? ⟨w.heap.size, 0, none⟩ = some (.string nm) := k3.cell 0
      have x3_1 : w3.cell? ⟨w.heap.size, 1, none⟩ = some vl := k3.cell 1
      have x3_2 : w3.cell? ⟨w.heap.size, 2, none⟩ = some vs := k3.cell 2
      dsimp only at own3 ⊢
      obtain ⟨a3, e3, rfl⟩ := row_form own3
      go_wp2_with fail
      refine (R2.out _ hb3).mono ?_
      rintro e w4 ⟨v4, rfl, own4, hq4⟩
      clear x3_0 x3_1 x3_2
      have k4 := k3.below hq4 k3.lt
      have hb4 := hb3.trans (hq4.mono hb3.size)
      have x4_0 : w4.cell? ⟨w.heap.size, 0, none⟩ = some (.string nm) := k4.cell 0
      have x4_1 : w4.cell? ⟨w.heap.size, 1, none⟩ = some vl := k4.cell 1
      have x4_2 : w4.cell? ⟨w.heap.size, 2, none⟩ = some vs := k4.cell 2
      dsimp only at own4 ⊢
      obtain ⟨a4, e4, rfl⟩ := row_form own4
      go_wp2_with fail
      refine (J1.out _ hb4).mono ?_
      rintro e w5 ⟨rfl, hq5⟩
      clear x4_0 x4_1 x4_2
      have k5 := k4.below hq5 k4.lt
      have hb5 := hb4.trans (hq5.mono hb4.size)
      have x5_0 : w5.cell? ⟨w.heap.size, 0, none⟩ = some (.string nm) := k5.cell 0
      have x5_1 : w5.cell? ⟨w.heap.size, 1, none⟩ = some vl := k5.cell 1
      have x5_2 : w5.cell? ⟨w.heap.size, 2, none⟩ = some vs := k5.cell 2
      dsimp only
      go_wp2_with fail
      refine (J2.out _ hb5).mono ?_
      rintro e w6 ⟨rfl, hq6⟩
      clear x5_0 x5_1 x5_2
      have k6 := k5.below hq6 k5.lt
      have hb6 := hb5.trans (hq6.mono hb5.size)
      have x6_0 : w6.cell? ⟨w.heap.size, 0, none⟩ = some (.string nm) := k6.cell 0
      have x6_1 : w6.cell? ⟨w.heap.size, 1, none⟩ = some vl := k6.cell 1
      have x6_2 : w6.cell? ⟨w.heap.size, 2, none⟩ = some vs := k6.cell 2
      dsimp only
      go_wp2_with fail
      refine (F1.out _ hb6).mono ?_
      rintro e w7 ⟨rfl, hq7⟩
      clear x6_0 x6_1 x6_2
      have k7 := k6.below hq7 k6.lt
      have hb7 := hb6.trans (hq7.mono hb6.size)
      have x7_0 : w7.cell? ⟨w.heap.size, 0, none⟩ = some (.string nm) := k7.cell 0
      have x7_1 : w7.cell? ⟨w.heap.size, 1, none⟩ = some vl := k7.cell 1
      have x7_2 : w7.cell? ⟨w.heap.size, 2, none⟩ = some vs := k7.cell 2
      dsimp only
      go_wp2_with fail
      refine (F2.out _ hb7).mono ?_
      rintro e w8 ⟨rfl, hq8⟩
      clear x7_0 x7_1 x7_2
      have k8 := k7.below hq8 k7.lt
      have hb8 := hb7.trans (hq8.mono hb7.size)
      have x8_0 : w8.cell? ⟨w.heap.size, 0, none⟩ = some (.string nm) := k8.cell 0
      have x8_1 : w8.cell? ⟨w.heap.size, 1, none⟩ = some vl := k8.cell 1
      have x8_2 : w8.cell? ⟨w.heap.size, 2, none⟩ = some vs := k8.cell 2
      dsimp only
      go_wp2_with fail
      have hr8 := (Below.refl w8.heap.size w8).drew
      have hS8 : ∀ w', Below w8.heap.size w8 w' → (w'.cell? ⟨w.heap.size, 0, none⟩ = some (.string nm) ∧ w'.cell? ⟨w.heap.size, 1, none⟩ = some vl) ∧ w'.cell? ⟨w.heap.size, 2, none⟩ = some vs := fun w' h => ⟨⟨(k8.below h k8.lt).cell 0, (k8.below h k8.lt).cell 1⟩, (k8.below h k8.lt).cell 2⟩
      have MV : Hid (∀ w', Below w8.heap.size w8 w' → Calls Tryd.prog 19 #[.agg #[.string nm, vl, vs]] w' fun e w'' => e = .returned (.bool V) ∧ Below w8.heap.size w8 w'') := Lib.hid fun w' h =>
        (V1.out w' (hb8.trans (h.mono hb8.size))).mono fun e w'' ⟨h1, h2⟩ => ⟨h1, h.trans (h2.mono h.size)⟩
      have MR : Hid (∀ w', Below w8.heap.size w8 w' → Calls Tryd.prog 20 #[.agg #[.string nm, vl, vs]] w' fun e w'' => e = .returned (.bool V) ∧ Below w8.heap.size w8 w'') := Lib.hid fun w' h =>
        (V2.out w' (hb8.trans (h.mono hb8.size))).mono fun e w'' ⟨h1, h2⟩ => ⟨h1, h.trans (h2.mono h.size)⟩
      have hq48 := hq5.trans ((hq6.trans ((hq7.trans (hq8.mono hq7.size)).mono hq6.size)).mono hq5.size)
      have hq38 := hq4.trans (hq48.mono hq4.size)
      have s3 : IntSl w3 (.slice a3 a.length e3) (a.map fun (i : Nat) => (i : Int)) := row_intSl2 own3 (by unfold intsV; rw [List.map_map]; rfl)
      have s4 : IntSl w4 (.slice a4 a.length e4) (a.map fun (i : Nat) => (i : Int)) := row_intSl2 own4 (by unfold intsV; rw [List.map_map]; rfl)
      have MI : Hid (∀ w', Below w8.heap.size w8 w' → Calls Tryd.prog 21 #[.slice a3 a.length e3, .slice a4 a.length e4] w' fun e w'' => e = .returned (.bool true) ∧ Below w8.heap.size w8 w'') := Lib.hid fun w' h =>
        (Ints_same ((s3.below hq38).below (h.mono (Nat.le_refl _))) ((s4.below hq48).below h) (by rw [List.length_map]; omega)).mono fun e w'' ⟨h1, h2⟩ => ⟨h1, h.trans (h2.mono h.size)⟩
      clear s3 s4 own3 own4
      go_region_held3 (fun w' => (w'.cell? ⟨w.heap.size, 0, none⟩ = some (.string nm) ∧ w'.cell? ⟨w.heap.size, 1, none⟩ = some vl) ∧ w'.cell? ⟨w.heap.size, 2, none⟩ = some vs)
        (first | exact hS8 _ hr8 | exact hS8 _ (by assumption))
        (first
          | (go_at_call 19; refine (MV.out _ hr8).mono ?_; rintro e w9 ⟨rfl, h9⟩)
          | (go_at_call 20; refine (MR.out _ h9).mono ?_; rintro e w10 ⟨rfl, h10⟩)
          | (go_at_call 21; refine (MI.out _ h10).mono ?_; rintro e w11 ⟨rfl, h11⟩))
      go_wp2_with fail
      go_ret
      exact ⟨rfl, hb8.trans (h11.mono hb8.size)⟩
end Go.Proofs.YtcabhanmeookkaaDoor.Al
