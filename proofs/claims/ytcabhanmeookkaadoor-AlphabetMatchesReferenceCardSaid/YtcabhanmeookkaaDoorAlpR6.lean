/- Walks over gazetteerref10: Join, Fold. -/
import Derived.Test.YtcabhanmeookkaaDoorAlpR5
namespace Go.Proofs.YtcabhanmeookkaaDoor.Al
set_option linter.unusedVariables false
set_option linter.unusedSimpArgs false
open Go.RowKit

theorem joinL_take {L : List Bs} {a : List Nat} {k : Nat} (h : k < a.length) : joinL L (a.take (k + 1)) = joinL L (a.take k) ++ ltA L a[k] := by
  rw [List.take_succ_eq_append_getElem h, joinL_append]
  show _ ++ (ltA L a[k] ++ []) = _
  rw [List.append_nil]
theorem bl_app (x y : ByteArray) : bl (x ++ y) = bl x ++ bl y := by simp [bl, ByteArray.data_append]
theorem bl_of {o : ByteArray} {l : Bs} (h : bl o = l) : o = ⟨l.toArray⟩ := bl_inj (by rw [h, bl_mk])

theorem valid_foldS {nm : Bs} {L : List Bs} {S : List Int} (h : validA nm L S = true) : foldS S L.length = true := by
  unfold validA at h; simp only [Bool.and_eq_true] at h; exact h.2.1
theorem folds_facts (V : Bool) (L : List Bs) (S : List Int) (hF : V = true → Fine L ∧ foldS S L.length = true) (t : Bs) :
    ((readA V L t).2.1 ≠ 0 ∧ ([], 1) = foldA V L S t) ∨
    ((readA V L t).2.1 = 0 ∧ Fine L ∧ (joinL L ((readA V L t).1.map (smallA S)), 0) = foldA V L S t ∧ (1 ≤ (readA V L t).1.length ∧ (readA V L t).1.length ≤ 24) ∧ S.length = L.length ∧ (∀ i ∈ (readA V L t).1, i < L.length) ∧ ∀ i, i < L.length → smallA S i < L.length ∧ S.getD i 0 = (smallA S i : Int)) := by
  by_cases h : (readA V L t).2.1 = 0
  · obtain ⟨hV, _, hw⟩ := readA_ok h
    obtain ⟨F, hS⟩ := hF hV
    obtain ⟨h1, h2, h3⟩ := bytes_fold.1 hS
    refine .inr ⟨h, F, by unfold foldA; rw [if_pos h], ⟨hw.pos, hw.le⟩, h1, hw.lt, fun i hi => ?_⟩
    obtain ⟨g1, g2⟩ := h2 i (by omega)
    unfold smallA
    omega
  · exact .inl ⟨h, by unfold foldA; rw [if_neg h]⟩

set_option maxRecDepth 100000 in
set_option maxHeartbeats 4000000 in
theorem rJoin_any (nm : ByteArray) (vl vs vx : Value) (L : List ByteArray) (S x : List Int) (w : World) (hA : Alp nm vl vs L S w) (hX : IntSl w vx x) (hxl : x.length ≤ 1000) :
    Calls Tryd.prog 16 #[.agg #[.string nm, vl, vs], vx] w (JoinR (joinA (validA (bl nm) (bls L) S) (bls L) x) w) := by
  have hb0 : Below w.heap.size w (w.alloc (.cells #[.string nm, vl, vs] 25)) := (Below.refl _ _).alloc (Nat.le_refl _) _
  have k0 := Blk.new w 25 #[.string nm, vl, vs]
  have hval := rValid_any nm vl vs L S _ (hA.below hb0)
  obtain ⟨ax, cx, rfl⟩ := hX.form
  cases hV : validA (bl nm) (bls L) S with
  | false =>
    rw [hV] at hval
    have Hval := Lib.hid hval
    have e : joinA false (bls L) x = ([], 1) := by unfold joinA; rw [if_neg]; simp
    rw [e]
    clear hval hV e
    go_enter Tryd.func16, Tryd.ntmps16
    go_wp2_with fail
    refine Hval.out.mono ?_
    rintro e w1 ⟨rfl, hq1⟩
    go_wp2_with fail
    go_ret2
    exact ⟨rfl, hb0.trans (hq1.mono hb0.size)⟩
  | true =>
    rw [hV] at hval
    have Hval := Lib.hid hval
    have F : Fine (bls L) := valid_fine hV
    obtain ⟨al, cl, rfl⟩ := hA.sl.form
    have HA := Lib.hid hA
    have HX := Lib.hid hX
    have hll := hA.len
    have HV := Lib.hid (show joinA true (bls L) x = if inB L.length x = true then (joinL (bls L) (x.map Int.toNat), 0) else ([], 1) by unfold joinA; rw [bls_len]; simp)
    generalize joinA true (bls L) x = R at *
    have Hno : Hid (inB L.length x = false → R = ([], 1)) := Lib.hid fun h => by rw [HV.out, if_neg (by rw [h]; simp)]
    clear hval hV hA hX
    by_cases c1 : 1 ≤ x.length
    · have d1 : ¬ (x.length : Int) < 1 := by omega
      by_cases c2 : x.length ≤ 24
      · have d2 : ¬ (24 : Int) < (x.length : Int) := by omega
        obtain ⟨b, off, cap, hsl, hbb, hmm, hcell⟩ := HX.out.open (by omega)
        obtain ⟨rfl, rfl⟩ : ax = some ⟨b, off, none⟩ ∧ cx = cap := by simpa using hsl
        have Hcell := Lib.hid hcell
        clear hsl hcell
        go_enter Tryd.func16, Tryd.ntmps16
        go_wp2_with fail
        refine Hval.out.mono ?_
        rintro e w1 ⟨rfl, hq1⟩
        have hb1 := hb0.trans (hq1.mono hb0.size)
        have k1 := k0.below hq1 k0.lt
        have hs1 := k1.lt
        go_wp2_with fail
        go_loopw [6, 7] (fun v i wr => ∃ (o : ByteArray) (k : Nat), k ≤ x.length ∧ v = .string o ∧ i = .int .i64 k ∧ Hid (bl o = joinL (bls L) ((x.map Int.toNat).take k) ∧ (∀ j (h : j < x.length), j < k → inOk L.length x[j] = true)) ∧ o.size ≤ k * 3 ∧ Below w1.heap.size w1 wr) (fun _ i _ => x.length - (intOf i).toNat)
        case atStart => exact ⟨⟨#[]⟩, 0, by omega, rfl, rfl, Lib.hid ⟨rfl, fun j _ h => absurd h (Nat.not_lt_zero _)⟩, by decide, Below.refl _ _⟩
        case round =>
          obtain ⟨o, k, hk, rfl, rfl, Ho, hoz, hbr⟩ := hrel
          have hbw := hb1.trans (hbr.mono hb1.size)
          have kr := k1.below hbr hs1
          have z0 : wr.cell? ⟨w.heap.size, 0, none⟩ = some (.string nm) := kr.cell 0
          have z1 : wr.cell? ⟨w.heap.size, 1, none⟩ = some (.slice al L.length cl) := kr.cell 1
          have z2 : wr.cell? ⟨w.heap.size, 2, none⟩ = some vs := kr.cell 2
          by_cases hlt : k < x.length
          · have q1 : (k : Int) < (x.length : Int) := by omega
            have ck : wr.cell? ⟨b, off + k, none⟩ = some (.int .i64 x[k]) := (hbw.cell (p := ⟨b, off + k, none⟩) hbb).trans (Hcell.out k hlt)
            have Hf : Hid (inOk L.length x[k] = false → R = ([], 1)) := Lib.hid fun h => Hno.out (by
              rw [inB_eq]
              have : x.all (inOk L.length) = false := by rw [List.all_eq_false]; exact ⟨x[k], List.getElem_mem hlt, by rw [h]; simp⟩
              rw [this]; simp)
            by_cases g1 : x[k] < 0
            · have hR := Hf.out (by unfold inOk; rw [decide_eq_false (show ¬ 0 ≤ x[k] by omega)]; rfl)
              subst hR
              go_wp2_with fail
              go_quiet (fail)
              go_wp2_with fail
              go_ret2
              exact ⟨rfl, hbw.trans (below_drewN wr nq _)⟩
            · have d3 : decide (x[k] < 0) = false := by simp; omega
              by_cases g2 : (L.length : Int) ≤ x[k]
              · have hR := Hf.out (by unfold inOk; rw [decide_eq_false (show ¬ x[k] < (L.length : Int) by omega)]; simp)
                subst hR
                clear g1
                go_wp2_with fail
                go_quiet (fail)
                go_wp2_with fail
                go_ret2
                exact ⟨rfl, hbw.trans (below_drewN wr nq _)⟩
              · have d4 : decide ((L.length : Int) ≤ x[k]) = false := by simp; omega
                have hin : inOk L.length x[k] = true := by unfold inOk; simp; omega
                obtain ⟨m, hm⟩ := Int.eq_ofNat_of_zero_le (show 0 ≤ x[k] by omega)
                have hmL : m < L.length := by omega
                obtain ⟨b2, off2, cap2, hsl2, hbb2, hmm2, hcell2⟩ := HA.out.sl.open (by omega)
                obtain ⟨rfl, rfl⟩ : al = some ⟨b2, off2, none⟩ ∧ cl = cap2 := by simpa using hsl2
                have cm : wr.cell? ⟨b2, off2 + m, none⟩ = some (.string L[m]) := (hbw.cell (p := ⟨b2, off2 + m, none⟩) hbb2).trans (hcell2 m hmL)
                have hlz := (F.prop (bl L[m]) (List.mem_map.2 ⟨_, List.getElem_mem hmL, rfl⟩)).2
                rw [bl_len] at hlz
                have HN : Hid (bl (o ++ L[m]) = joinL (bls L) ((x.map Int.toNat).take (k + 1)) ∧ (∀ j (h : j < x.length), j < k + 1 → inOk L.length x[j] = true)) := Lib.hid (by
                  refine ⟨?_, fun j h hj => ?_⟩
                  · rw [joinL_take (by rw [List.length_map]; exact hlt), bl_app, Ho.out.1, List.getElem_map, hm]
                    congr 1
                    exact (bls_get L m hmL).symm
                  · rcases Nat.lt_succ_iff_lt_or_eq.1 hj with h2 | rfl
                    · exact Ho.out.2 j h h2
                    · exact hin)
                have hsz2 : (o ++ L[m]).size ≤ (k + 1) * 3 := by rw [ByteArray.size_append]; omega
                rw [hm] at ck d3 d4
                have q3 : (m : Int) < (L.length : Int) := by omega
                have HC : Hid (∀ w', Below w1.heap.size w1 w' → (w'.cell? ⟨w.heap.size, 0, none⟩ = some (.string nm) ∧ w'.cell? ⟨w.heap.size, 1, none⟩ = some (.slice (some ⟨b2, off2, none⟩) L.length cl) ∧ w'.cell? ⟨w.heap.size, 2, none⟩ = some vs) ∧ w'.cell? ⟨b, off + k, none⟩ = some (.int .i64 (m : Int)) ∧ w'.cell? ⟨b2, off2 + m, none⟩ = some (.string L[m])) := Lib.hid fun w' h =>
                  ⟨⟨(k1.below h hs1).cell 0, (k1.below h hs1).cell 1, (k1.below h hs1).cell 2⟩, ((hb1.trans (h.mono hb1.size)).cell (p := ⟨b, off + k, none⟩) hbb).trans ((Hcell.out k hlt).trans (by rw [hm])), ((hb1.trans (h.mono hb1.size)).cell (p := ⟨b2, off2 + m, none⟩) hbb2).trans (hcell2 m hmL)⟩
                clear hsl2 hcell2 g1 g2 hin hm Hf
                generalize L[m] = lm at *
                go_wp2_with fail
                go_quiet (fail)
                have hbr2 := hbr.trans (below_drewN wr nq w1.heap.size)
                clear z0 z1 z2 ck cm kr
                clear hbw hbr
                generalize wr.drewN nq = w2 at *
                obtain ⟨⟨y0, y1, y2⟩, ck, cm⟩ := HC.out w2 hbr2
                clear d3 d4
                have j1 : (o.size : Int) + (lm.size : Int) ≤ 1000 := by omega
                go_wp2_with fail
                go_quiet (fail)
                go_wp2_with fail
                go_roundw
                case rel => exact ⟨o ++ lm, k + 1, by omega, rfl, by go_num, HN, hsz2, hbr2.trans (below_drewN w2 nq _)⟩
                case measure => simp [intOf]; omega
          · obtain rfl : k = x.length := by omega
            have hR : R = (joinL (bls L) (x.map Int.toNat), 0) := by
              rw [HV.out, if_pos]
              rw [inB_eq, decide_eq_true c1, decide_eq_true c2, List.all_eq_true.2 (fun i hi => by
                obtain ⟨j, hj, rfl⟩ := List.mem_iff_getElem.1 hi
                exact Ho.out.2 j hj hj)]
              rfl
            subst hR
            obtain rfl := bl_of (l := joinL (bls L) (x.map Int.toNat)) (by have := Ho.out.1; rwa [List.take_of_length_le (by simp)] at this)
            go_wp2_with fail
            go_ret2
            exact ⟨rfl, hbw⟩
      · have d2 : (24 : Int) < (x.length : Int) := by omega
        obtain rfl := Hno.out (by rw [inB_eq, decide_eq_false c2]; simp)
        clear c2
        go_enter Tryd.func16, Tryd.ntmps16
        go_wp2_with fail
        refine Hval.out.mono ?_
        rintro e w1 ⟨rfl, hq1⟩
        go_wp2_with fail
        go_ret2
        exact ⟨rfl, hb0.trans (hq1.mono hb0.size)⟩
    · have d1 : (x.length : Int) < 1 := by omega
      obtain rfl := Hno.out (by rw [inB_eq, decide_eq_false c1]; simp)
      clear c1
      go_enter Tryd.func16, Tryd.ntmps16
      go_wp2_with fail
      refine Hval.out.mono ?_
      rintro e w1 ⟨rfl, hq1⟩
      go_wp2_with fail
      go_ret2
      exact ⟨rfl, hb0.trans (hq1.mono hb0.size)⟩

set_option maxRecDepth 100000 in
set_option maxHeartbeats 4000000 in
theorem rFold_any (nm : ByteArray) (vl vs : Value) (L : List ByteArray) (S : List Int) (t : ByteArray) (ht : t.size ≤ 100000) (w : World) (hA : Alp nm vl vs L S w) :
    Calls Tryd.prog 18 #[.agg #[.string nm, vl, vs], .string t] w (JoinR (foldA (validA (bl nm) (bls L) S) (bls L) S (bl t)) w) := by
  have hb0 : Below w.heap.size w (w.alloc (.cells #[.string nm, vl, vs] 25)) := (Below.refl _ _).alloc (Nat.le_refl _) _
  have k0 := Blk.new w 25 #[.string nm, vl, vs]
  have hread := rRead_any nm vl vs L S t ht _ (hA.below hb0)
  have hlaw := folds_facts (validA (bl nm) (bls L) S) (bls L) S (fun h => ⟨valid_fine h, valid_foldS h⟩) (bl t)
  have hFV : ∀ h : validA (bl nm) (bls L) S = true, Fine (bls L) := fun h => valid_fine h
  generalize foldA (validA (bl nm) (bls L) S) (bls L) S (bl t) = R at *
  generalize readA (validA (bl nm) (bls L) S) (bls L) (bl t) = r at *
  clear hFV
  obtain ⟨a, c, p⟩ := r
  dsimp only at hlaw
  have Hread := Lib.hid hread
  have HA := Lib.hid hA
  clear hread hA
  rcases hlaw with ⟨hc, rfl⟩ | ⟨rfl, F, rfl, ha24, hSl, hlt, hsm⟩
  · have hcn : ((c : Int) != 0) = true := by rw [bne_iff_ne]; omega
    go_enter Tryd.func18, Tryd.ntmps18
    go_wp2_with fail
    refine Hread.out.mono ?_
    rintro e w1 ⟨v1, rfl, own1, hq1⟩
    dsimp only
    go_wp2_with fail
    go_ret2
    exact ⟨rfl, hb0.trans (hq1.mono hb0.size)⟩
  · rw [bls_len] at hSl hlt hsm
    have hll := HA.out.len
    obtain ⟨b, off, cap, hsl, hbb, hmm, hcell⟩ := HA.out.sl.open (by have := hlt a[0] (List.getElem_mem (by omega)); omega)
    obtain ⟨sb, so, sc, hsl2, hsb, hsm2, hscell⟩ := HA.out.ss.open (by have := hlt a[0] (List.getElem_mem (by omega)); omega)
    subst hsl hsl2
    have Hcell := Lib.hid hcell
    have Hsc := Lib.hid hscell
    have Hlt := Lib.hid hlt
    have HSm := Lib.hid hsm
    have HSl := Lib.hid hSl
    clear hcell hscell hlt hsm hSl
    go_enter Tryd.func18, Tryd.ntmps18
    go_wp2_with fail
    refine Hread.out.mono ?_
    rintro e w1 ⟨v1, rfl, own1, hq1⟩
    dsimp only at own1 ⊢
    have hb1 := hb0.trans (hq1.mono hb0.size)
    have k1 := k0.below hq1 k0.lt
    have hs1 := k1.lt
    obtain ⟨g4, e4, hv4, hgB4, hgw4, hm4, hcell4, _⟩ := row_cells own1 (by omega)
    subst hv4
    unfold maxLen at hm4
    have Hc4 : Hid (∀ k (h : k < a.length), w1.cell? ⟨g4, k, none⟩ = some (.int .i64 (a[k] : Int))) := Lib.hid fun k h => by
      rw [hcell4 k h]; simp [intsV, h]
    clear hcell4
    go_wp2_with fail
    go_loopw [9, 10] (fun v i wr => ∃ (o : ByteArray) (k : Nat), k ≤ a.length ∧ v = .string o ∧ i = .int .i64 k ∧ Hid (bl o = joinL (bls L) ((a.map (smallA S)).take k)) ∧ o.size ≤ k * 3 ∧ Below w1.heap.size w1 wr) (fun _ i _ => a.length - (intOf i).toNat)
    case atStart => exact ⟨⟨#[]⟩, 0, by omega, rfl, rfl, Lib.hid rfl, by decide, Below.refl _ _⟩
    case round =>
      obtain ⟨o, k, hk, rfl, rfl, Ho, hoz, hbr⟩ := hrel
      have hbw := hb1.trans (hbr.mono hb1.size)
      by_cases hlk : k < a.length
      · have kr := k1.below hbr hs1
        have z0 : wr.cell? ⟨w.heap.size, 0, none⟩ = some (.string nm) := kr.cell 0
        have z1 : wr.cell? ⟨w.heap.size, 1, none⟩ = some (.slice (some ⟨b, off, none⟩) L.length cap) := kr.cell 1
        have z2 : wr.cell? ⟨w.heap.size, 2, none⟩ = some (.slice (some ⟨sb, so, none⟩) S.length sc) := kr.cell 2
        have c4 : wr.cell? ⟨g4, k, none⟩ = some (.int .i64 (a[k] : Int)) := (hbr.cell (p := ⟨g4, k, none⟩) hgw4).trans (Hc4.out k hlk)
        have hml := Hlt.out a[k] (List.getElem_mem hlk)
        obtain ⟨hm1, hm2⟩ := HSm.out a[k] hml
        have hmS : a[k] < S.length := by have := HSl.out; omega
        have cs : wr.cell? ⟨sb, so + a[k], none⟩ = some (.int .i64 (smallA S a[k] : Int)) := by
          refine ((hbw.cell (p := ⟨sb, so + a[k], none⟩) hsb).trans (Hsc.out _ hmS)).trans ?_
          rw [← getD_of hmS, hm2]
        have cm : wr.cell? ⟨b, off + smallA S a[k], none⟩ = some (.string L[smallA S a[k]]) := (hbw.cell (p := ⟨b, off + smallA S a[k], none⟩) hbb).trans (Hcell.out _ hm1)
        have hlz := (F.prop (bl L[smallA S a[k]]) (List.mem_map.2 ⟨_, List.getElem_mem hm1, rfl⟩)).2
        rw [bl_len] at hlz
        have HN : Hid (bl (o ++ L[smallA S a[k]]) = joinL (bls L) ((a.map (smallA S)).take (k + 1))) := Lib.hid (by
          rw [joinL_take (by rw [List.length_map]; exact hlk), bl_app, Ho.out, List.getElem_map]
          congr 1
          exact (bls_get L _ hm1).symm)
        have hsz2 : (o ++ L[smallA S a[k]]).size ≤ (k + 1) * 3 := by rw [ByteArray.size_append]; omega
        have q1 : (k : Int) < (a.length : Int) := by omega
        have q2 : (a[k] : Int) < (S.length : Int) := by omega
        have q3 : (smallA S a[k] : Int) < (L.length : Int) := by omega
        generalize L[smallA S a[k]] = lm at *
        generalize a[k] = m at *
        generalize smallA S m = m2 at *
        have j1 : (o.size : Int) + (lm.size : Int) ≤ 1000 := by omega
        go_wp2_with fail
        go_quiet (fail)
        go_wp2_with fail
        go_roundw
        case rel => exact ⟨o ++ lm, k + 1, by omega, rfl, by go_num, HN, hsz2, hbr.trans (below_drewN wr nq _)⟩
        case measure => simp [intOf]; omega
      · obtain rfl : k = a.length := by omega
        obtain rfl := bl_of (l := joinL (bls L) (a.map (smallA S))) (by have := Ho.out; rwa [List.take_of_length_le (by simp)] at this)
        go_wp2_with fail
        go_ret2
        exact ⟨rfl, hbw⟩
end Go.Proofs.YtcabhanmeookkaaDoor.Al
