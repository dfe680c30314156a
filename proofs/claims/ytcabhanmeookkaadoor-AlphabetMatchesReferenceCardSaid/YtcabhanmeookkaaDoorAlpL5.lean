/- Walk over layer 10's law: AlphabetParts. -/
import Derived.Test.YtcabhanmeookkaaDoorAlpH
namespace Go.Proofs.YtcabhanmeookkaaDoor.Al
set_option linter.unusedVariables false
set_option linter.unusedSimpArgs false
open Go.RowKit

/-- append of ints onto a list of the call's own, also where it is guarded -/
theorem append_ints (w : World) {ops : Array Oper} {rest : List Oper} {o : Oper} {a : Act} {Q : Exit → Act → World → Prop} (hw : Region.wanted o (yielded ops a.tmps) = true) (s x : Operand)
    (ho : o.op = .call { callee := .builtin .append, args := #[s, x], argTypes := #[23, 23] })
    (base : Nat) (v : Value) (n : Nat) (xs : List Value) (hs : a.eval s = v) (hown : w.ownsRow base 3 1 v n xs)
    (ad : Addr) (m c : Nat) (news : List Value) (hx : a.eval x = .slice (some ad) m c) (hl : news.length = m * 1) (hnews : ∀ j u, news[j]? = some u → w.cell? (ad.add j) = some u) (h1 : ∀ u ∈ news, u.oneCell' = true)
    (h63 : n + m ≤ maxLen) (hbytes : (n + m) * 8 ≤ 140737488355328) (hbase : base ≤ w.heap.size)
    (h : ∀ v' w', w'.ownsRow base 3 1 v' (n + m) (xs ++ news) → w.grownBy w' v.ownBlock → (v' = .slice none 0 0 ↔ v = .slice none 0 0 ∧ m = 0) → wpList Tryd.prog ops Q rest (a.put o.dst v') w') : wpList Tryd.prog ops Q (o :: rest) a w := by
  obtain ⟨i0, hi, hz0, hz1, hz2⟩ := info_parts infoI
  refine wpList_step fun K hK => ?_
  rw [if_pos hw]
  exact wp_append_own w s x 23 ho base 3 i0 (.int .i64 0) 1 8 Tryd.underlying23 hi hz0 hz1 hz2 rfl (by decide) v n xs hs hown ad m c news hx hl hnews h1 h63 hbytes hbase fun v' w' h2 h3 h4 => hK _ _ (h v' w' h2 h3 h4)
theorem Ints_same {vx vy : Value} {x : List Int} {w : World} (hX : IntSl w vx x) (hY : IntSl w vy x) (hxl : x.length ≤ 1000000) :
    Calls Tryd.prog 21 #[vx, vy] w fun e w' => e = .returned (.bool true) ∧ Below w.heap.size w w' :=
  (Ints_any vx vy x x w hX hY hxl).mono fun e w' ⟨h1, h2⟩ => ⟨by rw [h1, decide_eq_true (rfl : x = x)], h2⟩
theorem bl_append (x y : ByteArray) : bl (x ++ y) = bl x ++ bl y := by simp [bl, ByteArray.data_append]
theorem valid_fine {nm : Bs} {L : List Bs} {S : List Int} (h : validA nm L S = true) : Fine L := by
  unfold validA at h; simp only [Bool.and_eq_true] at h; exact fine_of h.1
theorem readA_ok {V : Bool} {L : List Bs} {t : Bs} (h : (readA V L t).2.1 = 0) : V = true ∧ (readA V L t).2.2 = 0 ∧ Word L t (readA V L t).1 := by
  cases V with
  | false => cases h
  | true =>
    have e : readA true L t = readV L t := if_pos rfl
    rw [e] at h ⊢
    exact ⟨rfl, readV_ok L t h⟩
theorem parts_read (V : Bool) (L : List Bs) (hF : V = true → Fine L) (x y : Bs) : (readA V L x).2.1 = 0 → (readA V L y).2.1 = 0 →
    1 ≤ (readA V L x).1.length ∧ 1 ≤ (readA V L y).1.length ∧ (readA V L x).1.length ≤ 24 ∧ (readA V L y).1.length ≤ 24 ∧ if (readA V L x).1.length + (readA V L y).1.length ≤ 24 then (readA V L (x ++ y)).1 = (readA V L x).1 ++ (readA V L y).1 ∧ (readA V L (x ++ y)).2.1 = 0 else (readA V L (x ++ y)).2.1 = 2 := by
  intro h1 h2
  obtain ⟨hV, _, w1⟩ := readA_ok h1
  obtain ⟨_, _, w2⟩ := readA_ok h2
  subst hV
  have e : ∀ t, readA true L t = readV L t := fun t => if_pos rfl
  rw [e] at *
  rw [e] at *
  rw [e] at *
  have hb := readV_both (hF rfl) w1 w2
  refine ⟨w1.pos, w2.pos, w1.le, w2.le, ?_⟩
  split
  · rename_i h
    rw [if_pos h] at hb
    rw [hb]
    exact ⟨rfl, rfl⟩
  · rename_i h
    rw [if_neg h] at hb
    exact hb
theorem intsV_one (a : List Nat) : ∀ u ∈ intsV a, u.oneCell' = true := by
  intro u hu
  unfold intsV at hu
  obtain ⟨i, _, rfl⟩ := List.mem_map.1 hu
  rfl
theorem row_news {W W' : World} {B g c : Nat} {a : List Nat} (h : W.ownsRow B 3 1 (.slice (some ⟨g, 0, none⟩) a.length c) a.length (intsV a)) (hb : Below W.heap.size W W') : ∀ j u, (intsV a)[j]? = some u → W'.cell? ((⟨g, 0, none⟩ : Addr).add j) = some u := by
  intro j u hu
  have hadd : (⟨g, 0, none⟩ : Addr).add j = ⟨g, j, none⟩ := by unfold Addr.add; split <;> simp_all
  obtain ⟨hlt, _⟩ := List.getElem?_eq_some_iff.1 hu
  have hl : (intsV a).length = a.length := by simp [intsV]
  obtain ⟨g', c', hv, _, hg, _, hc, _⟩ := row_cells h (by omega)
  simp only [Value.slice.injEq, Option.some.injEq, Addr.mk.injEq, and_true, true_and] at hv
  obtain ⟨rfl, rfl⟩ := hv
  rw [hadd]
  exact (hb.cell (p := ⟨g, j, none⟩) hg).trans ((hc j (by omega)).trans hu)

set_option maxRecDepth 100000 in
set_option maxHeartbeats 8000000 in
theorem lawParts (nm : ByteArray) (vl vs : Value) (L : List ByteArray) (S : List Int) (x y : ByteArray) (hnm : nm.size ≤ 9223372036854775807) (hx : x.size ≤ 9223372036854775807) (hy : y.size ≤ 9223372036854775807) (w : World) (hL : StrSl w vl L) (hS : IntSl w vs S) :
    Calls Tryd.prog 8 #[.agg #[.string nm, vl, vs], .string x, .string y] w fun e w' => e = .returned (.bool true) ∧ Below w.heap.size w w' := by
  have hb0 : Below w.heap.size w (w.alloc (.cells #[.string nm, vl, vs] 25)) := (Below.refl _ _).alloc (Nat.le_refl _) _
  have k0 := Blk.new w 25 #[.string nm, vl, vs]
  have HL := Lib.hid hL
  have HS := Lib.hid hS
  have hfew := fun w' (h : Below w.heap.size w w') => few_any nm vl vs L S x hnm hx w' (HL.out.below h) (HS.out.below h)
  obtain ⟨i0, hi, hz0, hz1, hz2⟩ := info_parts infoI
  cases hF : (fewA nm L S && decide (x.size ≤ 300)) with
  | false =>
    rw [hF] at hfew
    have Hfew := Lib.hid hfew
    clear hfew hF
    go_enter Tryd.func8, Tryd.ntmps8
    go_wp2_with fail
    refine (head_any _).mono ?_
    rintro e w1 ⟨rfl, hq1⟩
    have k1 := k0.below hq1 k0.lt
    have hb1 := hb0.trans (hq1.mono hb0.size)
    have x1_0 : w1.cell? ⟨w.heap.size, 0, none⟩ = some (.string nm) := k1.cell 0
    have x1_1 : w1.cell? ⟨w.heap.size, 1, none⟩ = some vl := k1.cell 1
    have x1_2 : w1.cell? ⟨w.heap.size, 2, none⟩ = some vs := k1.cell 2
    go_wp2_with fail
    refine (Hfew.out _ hb1).mono ?_
    rintro e w2 ⟨rfl, hq2⟩
    clear x1_0 x1_1 x1_2
    have k2 := k1.below hq2 k1.lt
    have hb2 := hb1.trans (hq2.mono hb1.size)
    have x2_0 : w2.cell? ⟨w.heap.size, 0, none⟩ = some (.string nm) := k2.cell 0
    have x2_1 : w2.cell? ⟨w.heap.size, 1, none⟩ = some vl := k2.cell 1
    have x2_2 : w2.cell? ⟨w.heap.size, 2, none⟩ = some vs := k2.cell 2
    go_wp2_with fail
    go_ret
    exact ⟨rfl, hb2⟩
  | true =>
    rw [hF] at hfew
    have Hfew := Lib.hid hfew
    simp only [Bool.and_eq_true, decide_eq_true_eq] at hF
    obtain ⟨hA, hL70, hS70, hL20, hN100⟩ := few_alp hF.1 hL hS
    have hx3 := hF.2
    have HA := Lib.hid hA
    clear hfew hF hA hL hS
    by_cases h300 : (300 : Int) < (y.size : Int)
    · skip
      go_enter Tryd.func8, Tryd.ntmps8
      go_wp2_with fail
      refine (head_any _).mono ?_
      rintro e w1 ⟨rfl, hq1⟩
      have k1 := k0.below hq1 k0.lt
      have hb1 := hb0.trans (hq1.mono hb0.size)
      have x1_0 : w1.cell? ⟨w.heap.size, 0, none⟩ = some (.string nm) := k1.cell 0
      have x1_1 : w1.cell? ⟨w.heap.size, 1, none⟩ = some vl := k1.cell 1
      have x1_2 : w1.cell? ⟨w.heap.size, 2, none⟩ = some vs := k1.cell 2
      go_wp2_with fail
      refine (Hfew.out _ hb1).mono ?_
      rintro e w2 ⟨rfl, hq2⟩
      clear x1_0 x1_1 x1_2
      have k2 := k1.below hq2 k1.lt
      have hb2 := hb1.trans (hq2.mono hb1.size)
      have x2_0 : w2.cell? ⟨w.heap.size, 0, none⟩ = some (.string nm) := k2.cell 0
      have x2_1 : w2.cell? ⟨w.heap.size, 1, none⟩ = some vl := k2.cell 1
      have x2_2 : w2.cell? ⟨w.heap.size, 2, none⟩ = some vs := k2.cell 2
      go_wp2_with fail
      go_ret
      exact ⟨rfl, hb2⟩
    · have hR1 := fun w' (h : Below w.heap.size w w') => Read_any nm vl vs L S x (by omega) w' (HA.out.below h)
      have hR2 := fun w' (h : Below w.heap.size w w') => Read_any nm vl vs L S y (by omega) w' (HA.out.below h)
      have hR3 := fun w' (h : Below w.heap.size w w') => Read_any nm vl vs L S (x ++ y) (by rw [ByteArray.size_append]; omega) w' (HA.out.below h)
      have hsum := parts_read (validA (bl nm) (bls L) S) (bls L) (fun h => valid_fine h) (bl x) (bl y)
      rw [bl_append] at hR3
      generalize readA (validA (bl nm) (bls L) S) (bls L) (bl x) = r1 at *
      generalize readA (validA (bl nm) (bls L) S) (bls L) (bl y) = r2 at *
      generalize readA (validA (bl nm) (bls L) S) (bls L) (bl x ++ bl y) = r3 at *
      obtain ⟨a, c1, p1⟩ := r1
      obtain ⟨b, c2, p2⟩ := r2
      obtain ⟨d, c3, p3⟩ := r3
      have H1 := Lib.hid hR1
      have H2 := Lib.hid hR2
      have H3 := Lib.hid hR3
      clear hR1 hR2 hR3
      by_cases hc1 : c1 = 0
      · subst hc1
        by_cases hc2 : c2 = 0
        · subst hc2
          obtain ⟨ha1, hb1', ha24, hb24, hsum⟩ := hsum rfl rfl
          have Hsum := Lib.hid hsum
          clear hsum
          go_enter Tryd.func8, Tryd.ntmps8
          go_wp2_with fail
          refine (head_any _).mono ?_
          rintro e w1 ⟨rfl, hq1⟩
          have k1 := k0.below hq1 k0.lt
          have hb1 := hb0.trans (hq1.mono hb0.size)
          have x1_0 : w1.cell? ⟨w.heap.size, 0, none⟩ = some (.string nm) := k1.cell 0
          have x1_1 : w1.cell? ⟨w.heap.size, 1, none⟩ = some vl := k1.cell 1
          have x1_2 : w1.cell? ⟨w.heap.size, 2, none⟩ = some vs := k1.cell 2
          go_wp2_with fail
          refine (Hfew.out _ hb1).mono ?_
          rintro e w2 ⟨rfl, hq2⟩
          clear x1_0 x1_1 x1_2
          have k2 := k1.below hq2 k1.lt
          have hb2 := hb1.trans (hq2.mono hb1.size)
          have x2_0 : w2.cell? ⟨w.heap.size, 0, none⟩ = some (.string nm) := k2.cell 0
          have x2_1 : w2.cell? ⟨w.heap.size, 1, none⟩ = some vl := k2.cell 1
          have x2_2 : w2.cell? ⟨w.heap.size, 2, none⟩ = some vs := k2.cell 2
          go_wp2_with fail
          refine (H1.out _ hb2).mono ?_
          rintro e w3 ⟨v3, rfl, own3, hq3⟩
          clear x2_0 x2_1 x2_2
          have k3 := k2.below hq3 k2.lt
          have hb3 := hb2.trans (hq3.mono hb2.size)
          have x3_0 : w3.cell? ⟨w.heap.size, 0, none⟩ = some (.string nm) := k3.cell 0
          have x3_1 : w3.cell? ⟨w.heap.size, 1, none⟩ = some vl := k3.cell 1
          have x3_2 : w3.cell? ⟨w.heap.size, 2, none⟩ = some vs := k3.cell 2
          dsimp only at own3
          go_wp2_with fail
          refine (H2.out _ hb3).mono ?_
          rintro e w4 ⟨v4, rfl, own4, hq4⟩
          clear x3_0 x3_1 x3_2
          have k4 := k3.below hq4 k3.lt
          have hb4 := hb3.trans (hq4.mono hb3.size)
          have x4_0 : w4.cell? ⟨w.heap.size, 0, none⟩ = some (.string nm) := k4.cell 0
          have x4_1 : w4.cell? ⟨w.heap.size, 1, none⟩ = some vl := k4.cell 1
          have x4_2 : w4.cell? ⟨w.heap.size, 2, none⟩ = some vs := k4.cell 2
          dsimp only at own4
          go_wp2_with fail
          refine (H3.out _ hb4).mono ?_
          rintro e w5 ⟨v5, rfl, own5, hq5⟩
          clear x4_0 x4_1 x4_2
          have k5 := k4.below hq5 k4.lt
          have hb5 := hb4.trans (hq5.mono hb4.size)
          have x5_0 : w5.cell? ⟨w.heap.size, 0, none⟩ = some (.string nm) := k5.cell 0
          have x5_1 : w5.cell? ⟨w.heap.size, 1, none⟩ = some vl := k5.cell 1
          have x5_2 : w5.cell? ⟨w.heap.size, 2, none⟩ = some vs := k5.cell 2
          dsimp only at own5
          obtain ⟨g3, e3, hv3, hgB3, hgw3, hm3, hcell3, _⟩ := row_cells own3 (by omega)
          obtain ⟨g4, e4, hv4, hgB4, hgw4, hm4, hcell4, _⟩ := row_cells own4 (by omega)
          obtain ⟨a5, e5, hv5⟩ := row_form own5
          subst hv3 hv4 hv5
          have hq45 := hq4.trans (hq5.mono hq4.size)
          have hn5 : ∀ w', Below w5.heap.size w5 w' → ∀ j u, (intsV a)[j]? = some u → w'.cell? ((⟨g3, 0, none⟩ : Addr).add j) = some u := fun w' h => row_news own3 ((hq45).trans (h.mono hq45.size))
          have hm5 : ∀ w', Below w5.heap.size w5 w' → ∀ j u, (intsV b)[j]? = some u → w'.cell? ((⟨g4, 0, none⟩ : Addr).add j) = some u := fun w' h => row_news own4 (hq5.trans (h.mono hq5.size))
          by_cases hlen : (24 : Int) < (a.length : Int) + (b.length : Int)
          · have hc : c3 = 2 := by have h := Hsum.out; rwa [if_neg (by omega)] at h
            subst hc
            go_wp2_with fail
            go_ret
            exact ⟨rfl, hb5⟩
          · have hd : d = a ++ b ∧ c3 = 0 := by have h := Hsum.out; rwa [if_pos (by omega)] at h
            obtain ⟨rfl, rfl⟩ := hd
            go_wp2_with (at_builtin; refine append_ints _ rfl _ _ rfl w5.heap.size _ _ _ rfl (World.ownsRow_made w5 #[] 0 (Nat.le_refl _) (Nat.zero_le _) rfl) ⟨g3, 0, none⟩ a.length _ (intsV a) rfl ?c6 (hn5 _ ((Below.refl w5.heap.size w5).alloc (Nat.le_refl _) (.cells #[] 3))) ?c2 ?c3 ?c4 ?c5 ?_)
            case c6 => simp [intsV]
            case c2 => exact intsV_one _
            case c3 => unfold maxLen; omega
            case c4 => omega
            case c5 => first | omega | (simp; done) | (simp; omega)
            intro v6 w6 own6 grow6 _
            have hq6 : Below w5.heap.size w5 w6 := ((Below.refl w5.heap.size w5).alloc (Nat.le_refl _) _).grown grow6 (by simp) (fun j e => by simp [Value.ownBlock] at e; omega)
            clear x5_0 x5_1 x5_2
            have k6 := k5.below hq6 k5.lt
            have hb6 := hb5.trans (hq6.mono hb5.size)
            have x6_0 : w6.cell? ⟨w.heap.size, 0, none⟩ = some (.string nm) := k6.cell 0
            have x6_1 : w6.cell? ⟨w.heap.size, 1, none⟩ = some vl := k6.cell 1
            have x6_2 : w6.cell? ⟨w.heap.size, 2, none⟩ = some vs := k6.cell 2
            have hz6 := hq6.size
            go_wp2_with (at_builtin; refine append_ints _ rfl _ _ rfl w5.heap.size _ _ _ rfl own6 ⟨g4, 0, none⟩ b.length _ (intsV b) rfl ?d6 (hm5 _ hq6) ?d2 ?d3 ?d4 ?d5 ?_)
            case d6 => simp [intsV]
            case d2 => exact intsV_one _
            case d3 => unfold maxLen; omega
            case d4 => omega
            case d5 => first | omega | (simp; done) | (simp; omega)
            intro v7 w7 own7 grow7 _
            have hr7 : Below w5.heap.size w6 w7 := (Below.refl w5.heap.size w6).grown grow7 (by omega) (fun j e => (own6.lt j e).1)
            have hq7 := hq6.trans hr7
            have own7' : OwnInt w7 w5.heap.size v7 (a ++ b) := by
              unfold OwnInt
              rw [List.length_append, show intsV (a ++ b) = intsV a ++ intsV b by simp [intsV]]
              first | exact own7 | simpa using own7
            have s7 := row_intSl own7'
            have s5 : IntSl w7 (.slice a5 (a.length + b.length) e5) ((a ++ b).map fun (i : Nat) => (i : Int)) := by
              have h := (row_intSl own5).below hq7
              rwa [List.length_append] at h
            have hint := Ints_same s5 s7 (by rw [List.length_map, List.length_append]; omega)
            go_wp2_with fail
            refine hint.mono ?_
            rintro e w8 ⟨rfl, hq8⟩
            go_wp2_with fail
            go_ret
            exact ⟨rfl, hb5.trans ((hq7.trans (hq8.mono hq7.size)).mono hb5.size)⟩
        · have hn2 : ((c2 : Int) != 0) = true := by rw [bne_iff_ne]; omega
          go_enter Tryd.func8, Tryd.ntmps8
          go_wp2_with fail
          refine (head_any _).mono ?_
          rintro e w1 ⟨rfl, hq1⟩
          have k1 := k0.below hq1 k0.lt
          have hb1 := hb0.trans (hq1.mono hb0.size)
          have x1_0 : w1.cell? ⟨w.heap.size, 0, none⟩ = some (.string nm) := k1.cell 0
          have x1_1 : w1.cell? ⟨w.heap.size, 1, none⟩ = some vl := k1.cell 1
          have x1_2 : w1.cell? ⟨w.heap.size, 2, none⟩ = some vs := k1.cell 2
          go_wp2_with fail
          refine (Hfew.out _ hb1).mono ?_
          rintro e w2 ⟨rfl, hq2⟩
          clear x1_0 x1_1 x1_2
          have k2 := k1.below hq2 k1.lt
          have hb2 := hb1.trans (hq2.mono hb1.size)
          have x2_0 : w2.cell? ⟨w.heap.size, 0, none⟩ = some (.string nm) := k2.cell 0
          have x2_1 : w2.cell? ⟨w.heap.size, 1, none⟩ = some vl := k2.cell 1
          have x2_2 : w2.cell? ⟨w.heap.size, 2, none⟩ = some vs := k2.cell 2
          go_wp2_with fail
          refine (H1.out _ hb2).mono ?_
          rintro e w3 ⟨v3, rfl, own3, hq3⟩
          clear x2_0 x2_1 x2_2
          have k3 := k2.below hq3 k2.lt
          have hb3 := hb2.trans (hq3.mono hb2.size)
          have x3_0 : w3.cell? ⟨w.heap.size, 0, none⟩ = some (.string nm) := k3.cell 0
          have x3_1 : w3.cell? ⟨w.heap.size, 1, none⟩ = some vl := k3.cell 1
          have x3_2 : w3.cell? ⟨w.heap.size, 2, none⟩ = some vs := k3.cell 2
          go_wp2_with fail
          refine (H2.out _ hb3).mono ?_
          rintro e w4 ⟨v4, rfl, own4, hq4⟩
          clear x3_0 x3_1 x3_2
          have k4 := k3.below hq4 k3.lt
          have hb4 := hb3.trans (hq4.mono hb3.size)
          have x4_0 : w4.cell? ⟨w.heap.size, 0, none⟩ = some (.string nm) := k4.cell 0
          have x4_1 : w4.cell? ⟨w.heap.size, 1, none⟩ = some vl := k4.cell 1
          have x4_2 : w4.cell? ⟨w.heap.size, 2, none⟩ = some vs := k4.cell 2
          go_wp2_with fail
          go_ret
          exact ⟨rfl, hb4⟩
      · have hn1 : ((c1 : Int) != 0) = true := by rw [bne_iff_ne]; omega
        go_enter Tryd.func8, Tryd.ntmps8
        go_wp2_with fail
        refine (head_any _).mono ?_
        rintro e w1 ⟨rfl, hq1⟩
        have k1 := k0.below hq1 k0.lt
        have hb1 := hb0.trans (hq1.mono hb0.size)
        have x1_0 : w1.cell? ⟨w.heap.size, 0, none⟩ = some (.string nm) := k1.cell 0
        have x1_1 : w1.cell? ⟨w.heap.size, 1, none⟩ = some vl := k1.cell 1
        have x1_2 : w1.cell? ⟨w.heap.size, 2, none⟩ = some vs := k1.cell 2
        go_wp2_with fail
        refine (Hfew.out _ hb1).mono ?_
        rintro e w2 ⟨rfl, hq2⟩
        clear x1_0 x1_1 x1_2
        have k2 := k1.below hq2 k1.lt
        have hb2 := hb1.trans (hq2.mono hb1.size)
        have x2_0 : w2.cell? ⟨w.heap.size, 0, none⟩ = some (.string nm) := k2.cell 0
        have x2_1 : w2.cell? ⟨w.heap.size, 1, none⟩ = some vl := k2.cell 1
        have x2_2 : w2.cell? ⟨w.heap.size, 2, none⟩ = some vs := k2.cell 2
        go_wp2_with fail
        refine (H1.out _ hb2).mono ?_
        rintro e w3 ⟨v3, rfl, own3, hq3⟩
        clear x2_0 x2_1 x2_2
        have k3 := k2.below hq3 k2.lt
        have hb3 := hb2.trans (hq3.mono hb2.size)
        have x3_0 : w3.cell? ⟨w.heap.size, 0, none⟩ = some (.string nm) := k3.cell 0
        have x3_1 : w3.cell? ⟨w.heap.size, 1, none⟩ = some vl := k3.cell 1
        have x3_2 : w3.cell? ⟨w.heap.size, 2, none⟩ = some vs := k3.cell 2
        go_wp2_with fail
        refine (H2.out _ hb3).mono ?_
        rintro e w4 ⟨v4, rfl, own4, hq4⟩
        clear x3_0 x3_1 x3_2
        have k4 := k3.below hq4 k3.lt
        have hb4 := hb3.trans (hq4.mono hb3.size)
        have x4_0 : w4.cell? ⟨w.heap.size, 0, none⟩ = some (.string nm) := k4.cell 0
        have x4_1 : w4.cell? ⟨w.heap.size, 1, none⟩ = some vl := k4.cell 1
        have x4_2 : w4.cell? ⟨w.heap.size, 2, none⟩ = some vs := k4.cell 2
        go_wp2_with fail
        go_ret
        exact ⟨rfl, hb4⟩
end Go.Proofs.YtcabhanmeookkaaDoor.Al
