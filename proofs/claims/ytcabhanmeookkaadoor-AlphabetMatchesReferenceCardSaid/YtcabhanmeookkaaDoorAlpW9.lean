/- Walks over package alphabet: Join, Fold. -/
import Derived.Test.YtcabhanmeookkaaDoorAlpW8
namespace Go.Proofs.YtcabhanmeookkaaDoor.Al
set_option linter.unusedVariables false
set_option linter.unusedSimpArgs false
open Go.RowKit

def inOk (n : Nat) (i : Int) : Bool := decide (0 ≤ i) && decide (i < (n : Int))
theorem inB_eq (n : Nat) (x : List Int) : inB n x = (decide (1 ≤ x.length) && (decide (x.length ≤ 24) && x.all (inOk n))) := rfl
/-- what Join comes to -/
def JoinR (r : Bs × Nat) (w : World) (e : Ending) (w' : World) : Prop := e = .returned (.tuple #[.string ⟨r.1.toArray⟩, .int .i64 (r.2 : Int)]) ∧ Below w.heap.size w w'

set_option maxRecDepth 100000 in
set_option maxHeartbeats 2000000 in
theorem Join_any (nm : ByteArray) (vl vs vx : Value) (L : List ByteArray) (S x : List Int) (w : World) (hA : Alp nm vl vs L S w) (hX : IntSl w vx x) (hxl : x.length ≤ 1000) :
    Calls Tryd.prog 15 #[.agg #[.string nm, vl, vs], vx] w (JoinR (joinA (validA (bl nm) (bls L) S) (bls L) x) w) := by
  have hb0 : Below w.heap.size w (w.alloc (.cells #[.string nm, vl, vs] 25)) := (Below.refl _ _).alloc (Nat.le_refl _) _
  have k0 := Blk.new w 25 #[.string nm, vl, vs]
  have Hval := Lib.hid (fun w' (h : Below w.heap.size w w') => Valid_any nm vl vs L S w' (hA.below h))
  have HV := Lib.hid (show joinA (validA (bl nm) (bls L) S) (bls L) x = if (validA (bl nm) (bls L) S && inB L.length x) = true then (joinL (bls L) (x.map Int.toNat), 0) else ([], 1) by unfold joinA; rw [bls_len]; simp)
  have HA := Lib.hid hA
  have HX := Lib.hid hX
  obtain ⟨ax, cx, rfl⟩ := hX.form
  obtain ⟨al, cl, rfl⟩ := hA.sl.form
  have hll := hA.len
  clear hA hX
  generalize joinA (validA (bl nm) (bls L) S) (bls L) x = R at *
  generalize validA (bl nm) (bls L) S = V at *
  have Hno : Hid (inB L.length x = false → R = ([], 1)) := Lib.hid fun h => by rw [HV.out, h, Bool.and_false]; rfl
  by_cases h0 : x.length = 0
  · have hR := Hno.out (by rw [inB_eq, h0]; rfl)
    subst hR
    have hz : ((x.length : Int) == 0) = true := by rw [beq_iff_eq]; omega
    clear k0
    go_enter Tryd.func15, Tryd.ntmps15
    go_wp2_with fail
    go_ret2
    exact ⟨rfl, by simpa [h0] using hb0⟩
  · have hz : ((x.length : Int) == 0) = false := by rw [beq_eq_false_iff_ne]; omega
    by_cases h24 : (24 : Int) < (x.length : Int)
    · have hR := Hno.out (by rw [inB_eq]; have : decide (x.length ≤ 24) = false := by simp; omega
                             rw [this]; simp)
      subst hR
      clear k0
      go_enter Tryd.func15, Tryd.ntmps15
      go_wp2_with fail
      go_ret2
      exact ⟨rfl, hb0⟩
    · cases hV : V with
      | false =>
        rw [hV] at Hval
        have hR : R = ([], 1) := by rw [HV.out, hV]; rfl
        subst hR
        clear hV HV k0
        go_enter Tryd.func15, Tryd.ntmps15
        go_wp2_with fail
        refine (Hval.out _ hb0).mono ?_
        rintro e w1 ⟨rfl, hb1⟩
        go_wp2_with fail
        go_ret2
        exact ⟨rfl, hb0.trans (hb1.mono hb0.size)⟩
      | true =>
        rw [hV] at Hval
        have HV2 := Lib.hid (show R = if inB L.length x = true then (joinL (bls L) (x.map Int.toNat), 0) else ([], 1) by rw [HV.out, hV]; simp)
        obtain ⟨b, off, cap, hsl, hb, hm, hcell⟩ := HX.out.open h0
        obtain ⟨rfl, rfl⟩ : ax = some ⟨b, off, none⟩ ∧ cx = cap := by simpa using hsl
        unfold maxLen at hm
        have Hcell := Lib.hid hcell
        clear hV HV hsl hcell
        go_enter Tryd.func15, Tryd.ntmps15
        go_wp2_with fail
        refine (Hval.out _ hb0).mono ?_
        rintro e w1 ⟨rfl, hb1⟩
        have k1 := k0.below hb1 k0.lt
        have hb2 := hb0.trans (hb1.mono hb0.size)
        have a0 : w1.cell? ⟨w.heap.size, 0, none⟩ = some (.string nm) := k1.cell 0
        have a1 : w1.cell? ⟨w.heap.size, 1, none⟩ = some (.slice al L.length cl) := k1.cell 1
        have a2 : w1.cell? ⟨w.heap.size, 2, none⟩ = some vs := k1.cell 2
        clear hb0 hb1 k0
        go_wp2_with fail
        go_loop [23] (fun i => ∃ k : Nat, k ≤ x.length ∧ i = .int .i64 k ∧ Hid (∀ j (h : j < x.length), j < k → inOk L.length x[j] = true)) (fun i => x.length - (intOf i).toNat)
        case atStart => exact ⟨0, by omega, rfl, Lib.hid (fun j _ h => by omega)⟩
        case round =>
          obtain ⟨k, hk, rfl, Hall⟩ := hrel
          by_cases hlt : k < x.length
          · have hck : w1.cell? ⟨b, off + k, none⟩ = some (.int .i64 x[k]) := (hb2.cell (p := ⟨b, off + k, none⟩) hb).trans (Hcell.out k hlt)
            have Hf : Hid (inOk L.length x[k] = false → R = ([], 1)) := Lib.hid fun h => Hno.out (by
              rw [inB_eq]
              have : x.all (inOk L.length) = false := by rw [List.all_eq_false]; exact ⟨x[k], List.getElem_mem hlt, by rw [h]; simp⟩
              rw [this]; simp)
            by_cases g1 : x[k] < 0
            · have hR := Hf.out (by unfold inOk; rw [decide_eq_false (show ¬ 0 ≤ x[k] by omega)]; rfl)
              subst hR
              go_wp2_with fail
              go_ret2
              exact ⟨rfl, hb2⟩
            · by_cases g2 : (L.length : Int) ≤ x[k]
              · have hR := Hf.out (by unfold inOk; rw [decide_eq_false (show ¬ x[k] < (L.length : Int) by omega)]; simp)
                subst hR
                go_wp2_with fail
                go_ret2
                exact ⟨rfl, hb2⟩
              · have Hx := Lib.hid (show inOk L.length x[k] = true by unfold inOk; simp; omega)
                go_wp2_with fail
                go_round
                case rel =>
                  refine ⟨k + 1, by omega, by go_num, Lib.hid fun j h hj => ?_⟩
                  rcases Nat.lt_succ_iff_lt_or_eq.1 hj with h2 | rfl
                  · exact Hall.out j h h2
                  · exact Hx.out
                case measure => simp [intOf]; omega
          · obtain rfl : k = x.length := by omega
            have hall : ∀ i ∈ x, 0 ≤ i ∧ i < (L.length : Int) := fun i hi => by
              obtain ⟨j, hj, rfl⟩ := List.mem_iff_getElem.1 hi
              have := Hall.out j hj hj
              unfold inOk at this
              simpa using this
            have hR : R = (joinL (bls L) (x.map Int.toNat), 0) := by
              rw [HV2.out, if_pos]
              rw [inB_eq, decide_eq_true (show 1 ≤ x.length by omega), decide_eq_true (show x.length ≤ 24 by omega), List.all_eq_true.2 (fun i hi => by unfold inOk; simpa using hall i hi)]
              rfl
            subst hR
            have hj := joined_any nm (.slice al L.length cl) vs (.slice (some ⟨b, off, none⟩) x.length cx) L S x w1 (HA.out.below hb2) (HX.out.below hb2) hall hxl
            clear hall HV2 Hno
            go_wp2_with fail
            refine hj.mono ?_
            rintro e w3 ⟨rfl, hb3⟩
            go_wp2_with fail
            go_ret2
            exact ⟨rfl, hb2.trans (hb3.mono hb2.size)⟩

/-! ### Fold -/

theorem row_cells {W : World} {B k : Nat} {v : Value} {xs : List Value} (h : W.ownsRow B 3 1 v k xs) (h0 : k ≠ 0) : ∃ g cap, v = .slice (some ⟨g, 0, none⟩) k cap ∧ B ≤ g ∧ g < W.heap.size ∧ (k ≤ cap ∧ cap ≤ maxLen) ∧ (∀ i, i < k → W.cell? ⟨g, i, none⟩ = xs[i]?) ∧ ∀ i, W.frozen? ⟨g, i, none⟩ = false := by
  rcases h.2 with ⟨_, h1⟩ | ⟨g, cap, cur, hv, hB, hg, hc, hm, hs, hx⟩
  · exact absurd h1 h0
  · refine ⟨g, cap, hv, hB, (Array.getElem?_eq_some_iff.1 hg).1, ⟨hc, hm⟩, fun i hi => ?_, fun i => Lib.frozen_of_heap hg i⟩
    rw [cell_of_row _ _ _ _ _ _ hg, ← hx, List.getElem?_take, if_pos (by omega), Array.getElem?_toList]
theorem row_set {W : World} {B g k cap : Nat} {xs : List Value} (h : W.ownsRow B 3 1 (.slice (some ⟨g, 0, none⟩) k cap) k xs) (i : Nat) (hi : i < k) (x : Value) : (W.setCell ⟨g, i, none⟩ x).ownsRow B 3 1 (.slice (some ⟨g, 0, none⟩) k cap) k (xs.set i x) := by
  refine ⟨by rw [List.length_set]; exact h.1, ?_⟩
  rcases h.2 with ⟨h1, _⟩ | ⟨g', cap', cur, hv, hB, hg, hc, hm, hs, hx⟩
  · cases h1
  · simp only [Value.slice.injEq, Option.some.injEq, Addr.mk.injEq, and_true, true_and] at hv
    obtain ⟨rfl, rfl⟩ := hv
    refine .inr ⟨g, cap, cur.setIfInBounds i x, rfl, hB, heap_setCell_same _ _ _ _ _ _ hg, hc, hm, by simpa using hs, ?_⟩
    rw [Array.toList_setIfInBounds, List.take_set, hx]
/-- the first k elements turned -/
def mixL (f : Nat → Nat) (a : List Nat) (k : Nat) : List Nat := (a.take k).map f ++ a.drop k
theorem mixL_len (f : Nat → Nat) (a : List Nat) (k : Nat) : (mixL f a k).length = a.length := by simp [mixL]; omega
theorem mixL_get (f : Nat → Nat) (a : List Nat) (k : Nat) (h : k < a.length) : (intsV (mixL f a k))[k]? = some (.int .i64 (a[k] : Int)) := by
  have hl : ((a.take k).map f).length = k := by rw [List.length_map, List.length_take]; omega
  unfold intsV mixL
  rw [List.getElem?_map, List.getElem?_append_right (by omega), hl, Nat.sub_self, List.getElem?_drop, Nat.add_zero, List.getElem?_eq_getElem h]
  rfl
theorem mixL_set (f : Nat → Nat) (a : List Nat) (k : Nat) (h : k < a.length) : (intsV (mixL f a k)).set k (.int .i64 (f a[k] : Int)) = intsV (mixL f a (k + 1)) := by
  have hl : ((a.take k).map f).length = k := by rw [List.length_map, List.length_take]; omega
  have e : (mixL f a k).set k (f a[k]) = mixL f a (k + 1) := by
    unfold mixL
    rw [List.set_append_right _ _ (by omega), hl, Nat.sub_self, List.take_succ_eq_append_getElem h, List.map_append, List.append_assoc]
    congr 1
    rw [List.drop_eq_getElem_cons h, List.set_cons_zero]
    rfl
  rw [← e]
  unfold intsV
  rw [List.map_set]
theorem mixL_zero (f : Nat → Nat) (a : List Nat) : mixL f a 0 = a := by simp [mixL]
theorem mixL_all (f : Nat → Nat) (a : List Nat) : mixL f a a.length = a.map f := by simp [mixL]
theorem row_intSl {W : World} {B : Nat} {v : Value} {a : List Nat} (h : OwnInt W B v a) : IntSl W v (a.map fun (i : Nat) => (i : Int)) := by
  by_cases h0 : a.length = 0
  · obtain ⟨x, c, rfl⟩ := row_form h
    exact .inl ⟨by rw [List.length_eq_zero_iff.1 h0]; rfl, _, _, by rw [h0]⟩
  · obtain ⟨g, cap, rfl, hB, hg, hm, hc, _⟩ := row_cells h h0
    refine .inr ⟨g, 0, cap, by rw [List.length_map], by rw [List.length_map]; omega, hg, by rw [List.length_map]; exact hm, fun i hi => ?_⟩
    rw [List.length_map] at hi
    rw [Nat.zero_add, hc i hi, List.getElem_map]
    unfold intsV
    rw [List.getElem?_map, List.getElem?_eq_getElem hi]
    rfl

set_option maxRecDepth 100000 in
set_option maxHeartbeats 2000000 in
theorem Fold_any (nm : ByteArray) (vl vs : Value) (L : List ByteArray) (S : List Int) (t : ByteArray) (ht : t.size ≤ 100000) (w : World) (hA : Alp nm vl vs L S w) :
    Calls Tryd.prog 17 #[.agg #[.string nm, vl, vs], .string t] w (JoinR (foldA (validA (bl nm) (bls L) S) (bls L) S (bl t)) w) := by
  have hb0 : Below w.heap.size w (w.alloc (.cells #[.string nm, vl, vs] 25)) := (Below.refl _ _).alloc (Nat.le_refl _) _
  have k0 := Blk.new w 25 #[.string nm, vl, vs]
  have hread := Read_any nm vl vs L S t ht _ (hA.below hb0)
  have HV := Lib.hid (show foldA (validA (bl nm) (bls L) S) (bls L) S (bl t) = if (readA (validA (bl nm) (bls L) S) (bls L) (bl t)).2.1 = 0 then (joinL (bls L) ((readA (validA (bl nm) (bls L) S) (bls L) (bl t)).1.map (smallA S)), 0) else ([], 1) from rfl)
  have HOk : Hid ((readA (validA (bl nm) (bls L) S) (bls L) (bl t)).2.1 = 0 → S.length = L.length ∧ (∀ i, i < L.length → smallA S i < L.length ∧ S.getD i 0 = (smallA S i : Int)) ∧ (∀ i ∈ (readA (validA (bl nm) (bls L) S) (bls L) (bl t)).1, i < L.length) ∧ (readA (validA (bl nm) (bls L) S) (bls L) (bl t)).1.length ≤ 24 ∧ 1 ≤ (readA (validA (bl nm) (bls L) S) (bls L) (bl t)).1.length) := Lib.hid (by
    intro h
    cases hV : validA (bl nm) (bls L) S with
    | false => rw [hV] at h; cases h
    | true =>
      have hr : readA true (bls L) (bl t) = readV (bls L) (bl t) := if_pos rfl
      rw [hV, hr] at h
      rw [hr]
      obtain ⟨_, hw⟩ := readV_ok _ _ h
      unfold validA foldS at hV
      simp only [Bool.and_eq_true, decide_eq_true_eq, List.all_eq_true, bls_len] at hV
      obtain ⟨_, ⟨h1, h2⟩, _⟩ := hV
      refine ⟨h1, fun i hi => ?_, fun i hi => by have := hw.lt i hi; rwa [bls_len] at this, hw.le, hw.pos⟩
      have hm : S.getD i 0 ∈ S := by rw [List.getD_eq_getElem?_getD, List.getElem?_eq_getElem (by omega : i < S.length)]; exact List.getElem_mem _
      obtain ⟨q1, q2, q3⟩ := h2 _ hm
      unfold smallA
      omega)
  generalize foldA (validA (bl nm) (bls L) S) (bls L) S (bl t) = R at *
  generalize readA (validA (bl nm) (bls L) S) (bls L) (bl t) = Q at *
  obtain ⟨a, c, p⟩ := Q
  dsimp only at HV HOk
  have HA := Lib.hid hA
  clear hA
  by_cases hc : c = 0
  · subst hc
    obtain ⟨hSl, hSm, hlt, hle, hpos⟩ := HOk.out rfl
    have hR : R = (joinL (bls L) (a.map (smallA S)), 0) := HV.out
    subst hR
    have HSm := Lib.hid hSm
    have Hlt := Lib.hid hlt
    clear HV HOk hSm hlt
    have hne : (((0 : Nat) : Int) != 0) = false := rfl
    go_enter Tryd.func17, Tryd.ntmps17
    go_wp2_with fail
    refine hread.mono ?_
    rintro e w1 ⟨v, rfl, hown, hb1⟩
    dsimp only at hown ⊢
    have k1 := k0.below hb1 k0.lt
    have hb2 := hb0.trans (hb1.mono hb0.size)
    have hz1 := hb1.size
    obtain ⟨ax, cx, rfl⟩ := row_form hown
    obtain ⟨g, cap, hsl, hgB, hgw, hm, hcells, hfr⟩ := row_cells hown (by omega)
    obtain ⟨rfl, rfl⟩ : ax = some ⟨g, 0, none⟩ ∧ cx = cap := by simpa using hsl
    unfold maxLen at hm
    simp only [World.size_alloc] at hgB hz1
    have hown2 : w1.ownsRow (w.heap.size + 1) 3 1 (.slice (some ⟨g, 0, none⟩) a.length cx) a.length (intsV (mixL (smallA S) a 0)) := by
      rw [mixL_zero]
      have := hown
      unfold OwnInt at this
      rw [World.size_alloc] at this
      exact this
    have Hown := Lib.hid hown2
    have hSl0 : S.length ≠ 0 := by
      have := Hlt.out a[0] (List.getElem_mem (by omega))
      omega
    obtain ⟨sb, so, sc, rfl, hsb, hsm, hscell⟩ := HA.out.ss.open hSl0
    unfold maxLen at hsm
    have Hscell := Lib.hid hscell
    have HSl := Lib.hid hSl
    have hll := HA.out.len
    clear hcells hfr hsl hown hown2 hscell hSl k0 hb0 hb1
    go_wp2_with fail
    go_loopw [22] (fun i wr => ∃ k : Nat, k ≤ a.length ∧ i = .int .i64 k ∧ wr.ownsRow (w.heap.size + 1) 3 1 (.slice (some ⟨g, 0, none⟩) a.length cx) a.length (intsV (mixL (smallA S) a k)) ∧ Blk wr w.heap.size 25 #[.string nm, vl, .slice (some ⟨sb, so, none⟩) S.length sc] ∧ Below w.heap.size w wr) (fun i _ => a.length - (intOf i).toNat)
    case atStart => exact ⟨0, by omega, rfl, Hown.out, k1, hb2⟩
    case round =>
      obtain ⟨k, hk, rfl, hrow, kb, hbw⟩ := hrel
      have a0 : wr.cell? ⟨w.heap.size, 0, none⟩ = some (.string nm) := kb.cell 0
      have a1 : wr.cell? ⟨w.heap.size, 1, none⟩ = some vl := kb.cell 1
      have a2 : wr.cell? ⟨w.heap.size, 2, none⟩ = some (.slice (some ⟨sb, so, none⟩) S.length sc) := kb.cell 2
      by_cases hlk : k < a.length
      · obtain ⟨g', cap', hsl, _, _, _, hcells, hfr⟩ := row_cells hrow (by omega)
        obtain ⟨rfl, rfl⟩ : g = g' ∧ cx = cap' := by simpa using hsl
        have hck : wr.cell? ⟨g, k, none⟩ = some (.int .i64 (a[k] : Int)) := (hcells k hlk).trans (mixL_get _ _ _ hlk)
        have hfk := hfr k
        have hml := Hlt.out a[k] (List.getElem_mem hlk)
        have hmS : a[k] < S.length := by have := HSl.out; omega
        have hcs : wr.cell? ⟨sb, so + a[k], none⟩ = some (.int .i64 (smallA S a[k] : Int)) := by
          refine ((hbw.cell (p := ⟨sb, so + a[k], none⟩) hsb).trans (Hscell.out _ hmS)).trans ?_
          rw [← getD_of hmS, (HSm.out _ hml).2]
        have Hset := Lib.hid (mixL_set (smallA S) a k hlk)
        clear hcells hfr hsl
        generalize hm' : a[k] = m at *
        clear hm'
        go_wp2_with fail
        have hrow2 := row_set hrow k hlk (.int .i64 (smallA S m : Int))
        rw [Hset.out] at hrow2
        go_roundw
        case rel => exact ⟨k + 1, by omega, by go_num, hrow2, kb.other _ _ (by omega), set_below hbw (by omega) _⟩
        case measure => simp [intOf]; omega
      · obtain rfl : k = a.length := by omega
        rw [mixL_all] at hrow
        have hX : IntSl wr (.slice (some ⟨g, 0, none⟩) a.length cx) ((a.map (smallA S)).map fun (i : Nat) => (i : Int)) := row_intSl (B := w.heap.size + 1) (by unfold OwnInt; rw [List.length_map]; exact hrow)
        have hj := joined_any nm vl (.slice (some ⟨sb, so, none⟩) S.length sc) _ L S _ wr (HA.out.below hbw) hX (fun i hi => by
          obtain ⟨z, hz, rfl⟩ := List.mem_map.1 hi
          obtain ⟨q, hq, rfl⟩ := List.mem_map.1 hz
          have := (HSm.out q (Hlt.out q hq)).1
          omega) (by rw [List.length_map, List.length_map]; omega)
        rw [List.map_map, show (Int.toNat ∘ fun (i : Nat) => (i : Int)) = id from funext fun i => Int.toNat_natCast i, List.map_id] at hj
        go_wp2_with fail
        refine hj.mono ?_
        rintro e w3 ⟨rfl, hb3⟩
        go_wp2_with fail
        go_ret2
        exact ⟨rfl, hbw.trans (hb3.mono hbw.size)⟩
  · have hR : R = ([], 1) := by rw [HV.out, if_neg hc]
    subst hR
    have hne : ((c : Int) != 0) = true := by rw [bne_iff_ne]; omega
    go_enter Tryd.func17, Tryd.ntmps17
    go_wp2_with fail
    refine hread.mono ?_
    rintro e w1 ⟨v, rfl, hown, hb1⟩
    obtain ⟨ax, cx, rfl⟩ := row_form hown
    go_wp2_with fail
    go_ret2
    exact ⟨rfl, hb0.trans (hb1.mono hb0.size)⟩
end Go.Proofs.YtcabhanmeookkaaDoor.Al
