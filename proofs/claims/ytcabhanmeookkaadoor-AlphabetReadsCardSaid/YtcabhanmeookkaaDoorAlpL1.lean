/- Walk over layer 10's law: AlphabetReads. -/
import Derived.Test.YtcabhanmeookkaaDoorAlpL5
namespace Go.Proofs.YtcabhanmeookkaaDoor.Al
set_option linter.unusedVariables false
set_option linter.unusedSimpArgs false
open Go.RowKit

theorem ext_le2 (x : ByteArray) (i : Nat) : (x.extract i x.size).size ≤ x.size := by rw [ByteArray.size_extract]; omega
theorem bl_rest (x : ByteArray) (i : Nat) : bl (x.extract i x.size) = (bl x).drop i := by
  rw [bl_ext, List.take_of_length_le]; rw [List.length_drop, bl_len]; omega
theorem lbegins_quiet (s p : ByteArray) (hs : s.size ≤ 1000000) (hp : p.size ≤ 1000000) (R : Bool) (hR : (bl p).isPrefixOf (bl s) = R) (w : World) (n : Nat) :
    Calls Tryd.prog 22 #[.string s, .string p] (w.drewN n) fun e w' => e = .returned (.bool R) ∧ ∃ m, w' = w.drewN m :=
  (lbegins_any s p hs hp _).mono fun e w' ⟨he, hw⟩ => ⟨by rw [← hR]; exact he, n, hw.symm⟩
theorem reads_law (V : Bool) (L : List Bs) (hF : V = true → Fine L) (t : Bs) :
    ((readA V L t).2.1 ≠ 0 ∧ (readA V L t).1 = []) ∨
    ((readA V L t).2.1 = 0 ∧ (1 ≤ (readA V L t).1.length ∧ (readA V L t).1.length ≤ 24) ∧ (∀ i ∈ (readA V L t).1, i < L.length) ∧
      ∃ P : Nat → Nat, P 0 = 0 ∧ P (readA V L t).1.length = t.length ∧ (∀ k, k ≤ (readA V L t).1.length → P k ≤ t.length) ∧
        (∀ k (h : k < (readA V L t).1.length), P (k + 1) = P k + (ltA L (readA V L t).1[k]).length) ∧
        (∀ k (h : k < (readA V L t).1.length), (ltA L (readA V L t).1[k]).isPrefixOf (t.drop (P k)) = true) ∧
        (∀ k (h : k < (readA V L t).1.length), ∀ m ∈ L, (ltA L (readA V L t).1[k]).length < m.length → m.isPrefixOf (t.drop (P k)) = false)) := by
  by_cases h : (readA V L t).2.1 = 0
  · obtain ⟨hV, _, hw⟩ := readA_ok h
    have F := hF hV
    refine .inr ⟨h, ⟨hw.pos, hw.le⟩, hw.lt, fun k => (joinL L ((readA V L t).1.take k)).length, rfl, ?_, ?_, ?_, ?_, ?_⟩
    all_goals generalize (readA V L t).1 = a at *
    · show (joinL L (a.take a.length)).length = _
      rw [List.take_of_length_le (Nat.le_refl _), hw.join]
    · intro k hk
      have e := joinL_append L (a.take k) (a.drop k)
      rw [List.take_append_drop, hw.join] at e
      show (joinL L (a.take k)).length ≤ _
      rw [e, List.length_append]; omega
    · intro k hk
      show (joinL L (a.take (k + 1))).length = (joinL L (a.take k)).length + _
      rw [List.take_succ_eq_append_getElem hk, joinL_append, List.length_append]
      congr 1
      show (ltA L a[k] ++ []).length = _
      rw [List.append_nil]
    · intro k hk
      have h1 := rd_at (L := L) t.length t (Nat.le_refl _) k (by rw [hw.is]; exact hk)
      simp only [hw.is] at h1
      obtain ⟨_, _, p3, p4, _⟩ := hit_spec 3 h1
      rw [List.isPrefixOf_iff_prefix]
      conv => lhs; rw [← p3]
      exact List.take_prefix _ _
    · intro k hk m hm hlen
      have h1 := rd_at (L := L) t.length t (Nat.le_refl _) k (by rw [hw.is]; exact hk)
      simp only [hw.is] at h1
      obtain ⟨_, _, _, _, p5⟩ := hit_spec 3 h1
      exact Bool.eq_false_iff.2 (p5 m hm hlen (F.prop m hm).2)
  · refine .inl ⟨h, ?_⟩
    unfold readA at h ⊢
    split at h
    · rename_i hV; rw [if_pos hV]; exact readV_err _ _ h
    · rename_i hV; rw [if_neg hV]

set_option maxRecDepth 100000 in
set_option maxHeartbeats 8000000 in
theorem lawReads (nm : ByteArray) (vl vs : Value) (L : List ByteArray) (S : List Int) (x : ByteArray) (hnm : nm.size ≤ 9223372036854775807) (hx : x.size ≤ 9223372036854775807) (w : World) (hL : StrSl w vl L) (hS : IntSl w vs S) :
    Calls Tryd.prog 4 #[.agg #[.string nm, vl, vs], .string x] w fun e w' => e = .returned (.bool true) ∧ Below w.heap.size w w' := by
  have hb0 : Below w.heap.size w (w.alloc (.cells #[.string nm, vl, vs] 25)) := (Below.refl _ _).alloc (Nat.le_refl _) _
  have k0 := Blk.new w 25 #[.string nm, vl, vs]
  have HL := Lib.hid hL
  have HS := Lib.hid hS
  have hfew := fun w' (h : Below w.heap.size w w') => few_any nm vl vs L S x hnm (by first | exact hx | decide) w' (HL.out.below h) (HS.out.below h)
  cases hF : (fewA nm L S && decide (x.size ≤ 300)) with
  | false =>
    rw [hF] at hfew
    have Hfew := Lib.hid hfew
    clear hfew hF
    go_enter Tryd.func4, Tryd.ntmps4
    go_wp2_with fail
    refine (head_any _).mono ?_
    rintro e w1 ⟨rfl, hq1⟩
    have k1 := k0.below hq1 k0.lt
    have hb1 := hb0.trans (hq1.mono hb0.size)
    have x1_0 : w1.cell? ⟨w.heap.size, 0, none⟩ = some (.string nm) := k1.cell 0
    have x1_1 : w1.cell? ⟨w.heap.size, 1, none⟩ = some vl := k1.cell 1
    have x1_2 : w1.cell? ⟨w.heap.size, 2, none⟩ = some vs := k1.cell 2
    go_wp2_with fail
    refine (Hfew.out _ hb1).mono ?_
    rintro e w2 ⟨rfl, hq2⟩
    clear x1_0 x1_1 x1_2
    have k2 := k1.below hq2 k1.lt
    have hb2 := hb1.trans (hq2.mono hb1.size)
    have x2_0 : w2.cell? ⟨w.heap.size, 0, none⟩ = some (.string nm) := k2.cell 0
    have x2_1 : w2.cell? ⟨w.heap.size, 1, none⟩ = some vl := k2.cell 1
    have x2_2 : w2.cell? ⟨w.heap.size, 2, none⟩ = some vs := k2.cell 2
    go_wp2_with fail
    go_ret
    exact ⟨rfl, hb2⟩
  | true =>
    rw [hF] at hfew
    have Hfew := Lib.hid hfew
    simp only [Bool.and_eq_true, decide_eq_true_eq] at hF
    obtain ⟨hA, hL70, hS70, hL20, hN100⟩ := few_alp hF.1 hL hS
    have hx3 := hF.2
    have HA := Lib.hid hA
    clear hfew hF hA hL hS
    have hR0 := fun w' (h : Below w.heap.size w w') => Read_any nm vl vs L S x (by omega) w' (HA.out.below h)
    have hlaw := reads_law (validA (bl nm) (bls L) S) (bls L) (fun h => valid_fine h) (bl x)
    generalize readA (validA (bl nm) (bls L) S) (bls L) (bl x) = r at *
    obtain ⟨a, c, p⟩ := r
    dsimp only at hlaw
    have H2 := Lib.hid hR0
    clear hR0
    rw [bls_len, bl_len] at hlaw
    rcases hlaw with ⟨hc, rfl⟩ | ⟨rfl, ha24, hlt, P, hP0, hP1, hP2, hP3, hP4, hP5⟩
    · have hcn : ((c : Int) != 0) = true := by rw [bne_iff_ne]; omega
      go_enter Tryd.func4, Tryd.ntmps4
      go_wp2_with fail
      refine (head_any _).mono ?_
      rintro e w1 ⟨rfl, hq1⟩
      have k1 := k0.below hq1 k0.lt
      have hb1 := hb0.trans (hq1.mono hb0.size)
      have x1_0 : w1.cell? ⟨w.heap.size, 0, none⟩ = some (.string nm) := k1.cell 0
      have x1_1 : w1.cell? ⟨w.heap.size, 1, none⟩ = some vl := k1.cell 1
      have x1_2 : w1.cell? ⟨w.heap.size, 2, none⟩ = some vs := k1.cell 2
      go_wp2_with fail
      refine (Hfew.out _ hb1).mono ?_
      rintro e w2 ⟨rfl, hq2⟩
      clear x1_0 x1_1 x1_2
      have k2 := k1.below hq2 k1.lt
      have hb2 := hb1.trans (hq2.mono hb1.size)
      have x2_0 : w2.cell? ⟨w.heap.size, 0, none⟩ = some (.string nm) := k2.cell 0
      have x2_1 : w2.cell? ⟨w.heap.size, 1, none⟩ = some vl := k2.cell 1
      have x2_2 : w2.cell? ⟨w.heap.size, 2, none⟩ = some vs := k2.cell 2
      go_wp2_with fail
      refine (H2.out _ hb2).mono ?_
      rintro e w3 ⟨v3, rfl, own3, hq3⟩
      clear x2_0 x2_1 x2_2
      have k3 := k2.below hq3 k2.lt
      have hb3 := hb2.trans (hq3.mono hb2.size)
      have x3_0 : w3.cell? ⟨w.heap.size, 0, none⟩ = some (.string nm) := k3.cell 0
      have x3_1 : w3.cell? ⟨w.heap.size, 1, none⟩ = some vl := k3.cell 1
      have x3_2 : w3.cell? ⟨w.heap.size, 2, none⟩ = some vs := k3.cell 2
      obtain ⟨a3, e3, rfl⟩ := row_form own3
      dsimp only [List.length_nil]
      go_wp2_with fail
      go_ret
      exact ⟨rfl, hb3⟩
    · have hm0 := hlt a[0] (List.getElem_mem (by omega))
      obtain ⟨b, off, cap, hsl, hbb, hmm, hcell⟩ := HA.out.sl.open (by omega)
      subst hsl
      unfold maxLen at hmm
      have Hcell := Lib.hid hcell
      have Hlt := Lib.hid hlt
      have HP := Lib.hid (And.intro hP2 (And.intro hP3 (And.intro hP4 hP5)))
      clear hcell hlt hm0 hP2 hP3 hP4 hP5
      go_enter Tryd.func4, Tryd.ntmps4
      go_wp2_with fail
      refine (head_any _).mono ?_
      rintro e w1 ⟨rfl, hq1⟩
      have k1 := k0.below hq1 k0.lt
      have hb1 := hb0.trans (hq1.mono hb0.size)
      have x1_0 : w1.cell? ⟨w.heap.size, 0, none⟩ = some (.string nm) := k1.cell 0
      have x1_1 : w1.cell? ⟨w.heap.size, 1, none⟩ = some (.slice (some ⟨b, off, none⟩) L.length cap) := k1.cell 1
      have x1_2 : w1.cell? ⟨w.heap.size, 2, none⟩ = some vs := k1.cell 2
      go_wp2_with fail
      refine (Hfew.out _ hb1).mono ?_
      rintro e w2 ⟨rfl, hq2⟩
      clear x1_0 x1_1 x1_2
      have k2 := k1.below hq2 k1.lt
      have hb2 := hb1.trans (hq2.mono hb1.size)
      have x2_0 : w2.cell? ⟨w.heap.size, 0, none⟩ = some (.string nm) := k2.cell 0
      have x2_1 : w2.cell? ⟨w.heap.size, 1, none⟩ = some (.slice (some ⟨b, off, none⟩) L.length cap) := k2.cell 1
      have x2_2 : w2.cell? ⟨w.heap.size, 2, none⟩ = some vs := k2.cell 2
      go_wp2_with fail
      refine (H2.out _ hb2).mono ?_
      rintro e w3 ⟨v3, rfl, own3, hq3⟩
      clear x2_0 x2_1 x2_2
      have k3 := k2.below hq3 k2.lt
      have hb3 := hb2.trans (hq3.mono hb2.size)
      have x3_0 : w3.cell? ⟨w.heap.size, 0, none⟩ = some (.string nm) := k3.cell 0
      have x3_1 : w3.cell? ⟨w.heap.size, 1, none⟩ = some (.slice (some ⟨b, off, none⟩) L.length cap) := k3.cell 1
      have x3_2 : w3.cell? ⟨w.heap.size, 2, none⟩ = some vs := k3.cell 2
      dsimp only at own3 ⊢
      obtain ⟨g4, e4, hv4, hgB4, hgw4, hm4, hcell4, _⟩ := row_cells own3 (by omega)
      subst hv4
      unfold maxLen at hm4
      have Hc4 : Hid (∀ k (h : k < a.length), w3.cell? ⟨g4, k, none⟩ = some (.int .i64 (a[k] : Int))) := Lib.hid fun k h => by
        rw [hcell4 k h]; simp [intsV, h]
      clear hcell4
      go_wp2_with fail
      go_loopw [9, 10] (fun q i wr => ∃ k : Nat, k ≤ a.length ∧ q = .int .i64 (P k) ∧ i = .int .i64 k ∧ Below w3.heap.size w3 wr) (fun _ i _ => a.length - (intOf i).toNat)
      case atStart => exact ⟨0, by omega, by rw [hP0]; rfl, rfl, Below.refl _ _⟩
      case round =>
        obtain ⟨k, hk, rfl, rfl, hbr⟩ := hrel
        have hbw := hb3.trans (hbr.mono hb3.size)
        have kr := k3.below hbr k3.lt
        have z0 : wr.cell? ⟨w.heap.size, 0, none⟩ = some (.string nm) := kr.cell 0
        have z1 : wr.cell? ⟨w.heap.size, 1, none⟩ = some (.slice (some ⟨b, off, none⟩) L.length cap) := kr.cell 1
        have z2 : wr.cell? ⟨w.heap.size, 2, none⟩ = some vs := kr.cell 2
        by_cases hlk : k < a.length
        · have c4 : wr.cell? ⟨g4, k, none⟩ = some (.int .i64 (a[k] : Int)) := (hbr.cell (p := ⟨g4, k, none⟩) hgw4).trans (Hc4.out k hlk)
          have hml := Hlt.out a[k] (List.getElem_mem hlk)
          have hp2 := HP.out.1 k hk
          have hp3 := HP.out.2.1 k hlk
          have hp4 := HP.out.2.2.1 k hlk
          have hp5 := HP.out.2.2.2 k hlk
          rw [bls_get _ _ hml] at hp3 hp4 hp5
          have cm : wr.cell? ⟨b, off + a[k], none⟩ = some (.string L[a[k]]) := (hbw.cell (p := ⟨b, off + a[k], none⟩) hbb).trans (Hcell.out _ hml)
          have hlz := HA.out.lz L[a[k]] (List.getElem_mem hml)
          rw [bl_len] at hp3 hp5
          have Hb4 : Hid ((bl L[a[k]]).isPrefixOf (bl (x.extract (P k) x.size)) = true) := Lib.hid (by rw [bl_rest]; exact hp4)
          have Hb5 : Hid (∀ j (h : j < L.length), L[a[k]].size < L[j].size → (bl L[j]).isPrefixOf (bl (x.extract (P k) x.size)) = false) := Lib.hid fun j h hj => by
            rw [bl_rest]; exact hp5 _ (List.mem_map.2 ⟨_, List.getElem_mem h, rfl⟩) (by rw [bl_len]; exact hj)
          clear hp4 hp5
          generalize hPk : P k = pk at *
          generalize hmE : a[k] = m at *
          generalize hlm : L[m] = lm at *
          have q1 : (k : Int) < (a.length : Int) := by omega
          have q2 : (m : Int) < (L.length : Int) := by omega
          have q3 : decide ((m : Int) < 0) = false := by simp
          have q4 : decide ((L.length : Int) ≤ (m : Int)) = false := by simp; omega
          have q5 : (pk : Int) ≤ (x.size : Int) := by omega
          have q6 : pk + lm.size ≤ x.size := by have := HP.out.1 (k + 1) (by omega); omega
          go_wp2_with fail
          go_quiet (first | (go_at_call 22; exact lbegins_quiet _ _ (by have := ext_le2 x pk; omega) (by omega) true Hb4.out _ _))
          go_wp2_with fail
          go_loopw [11] (fun i wr => ∃ j : Nat, j ≤ L.length ∧ i = .int .i64 j ∧ Below w3.heap.size w3 wr) (fun i _ => L.length - (intOf i).toNat)
          case atStart => exact ⟨0, by omega, rfl, hbr.trans (below_drewN wr nq w3.heap.size)⟩
          case round =>
            obtain ⟨j, hj, rfl, hbi⟩ := hrel
            have hbv := hb3.trans (hbi.mono hb3.size)
            have ki := k3.below hbi k3.lt
            have y0 : wr.cell? ⟨w.heap.size, 0, none⟩ = some (.string nm) := ki.cell 0
            have y1 : wr.cell? ⟨w.heap.size, 1, none⟩ = some (.slice (some ⟨b, off, none⟩) L.length cap) := ki.cell 1
            have y2 : wr.cell? ⟨w.heap.size, 2, none⟩ = some vs := ki.cell 2
            have d4 : wr.cell? ⟨g4, k, none⟩ = some (.int .i64 (m : Int)) := (hbi.cell (p := ⟨g4, k, none⟩) hgw4).trans ((Hc4.out k hlk).trans (by rw [hmE]))
            have dm : wr.cell? ⟨b, off + m, none⟩ = some (.string lm) := by rw [← hlm]; exact (hbv.cell (p := ⟨b, off + m, none⟩) hbb).trans (Hcell.out _ hml)
            by_cases hlj : j < L.length
            · have dj : wr.cell? ⟨b, off + j, none⟩ = some (.string L[j]) := (hbv.cell (p := ⟨b, off + j, none⟩) hbb).trans (Hcell.out _ hlj)
              have hjz := HA.out.lz L[j] (List.getElem_mem hlj)
              have hj5 := Hb5.out j hlj
              generalize L[j] = lj at *
              have q7 : (j : Int) < (L.length : Int) := by omega
              by_cases hgt : lm.size < lj.size
              · have q8 : (lm.size : Int) < (lj.size : Int) := by omega
                have Hj := Lib.hid (hj5 hgt)
                clear hj5
                go_wp2_with fail
                go_quiet (first | (go_at_call 22; exact lbegins_quiet _ _ (by have := ext_le2 x pk; omega) (by omega) false Hj.out _ _))
                go_wp2_with fail
                go_roundw
                case rel => exact ⟨j + 1, by omega, by go_num, hbi.trans (below_drewN wr nq w3.heap.size)⟩
                case measure => simp [intOf]; omega
              · have q8 : decide ((lm.size : Int) < (lj.size : Int)) = false := by simp; omega
                clear hj5
                go_wp2_with fail
                go_quiet (fail)
                go_wp2_with fail
                go_roundw
                case rel => exact ⟨j + 1, by omega, by go_num, hbi.trans (below_drewN wr nq w3.heap.size)⟩
                case measure => simp [intOf]; omega
            · obtain rfl : j = L.length := by omega
              go_wp2_with fail
              go_quiet (fail)
              go_wp2_with fail
              refine ⟨?_, ?measure⟩
              · (repeat apply Exists.intro)
                refine ⟨⟨k + 1, by omega, by rw [hp3]; go_num, by go_num, hbi.trans (below_drewN wr nq w3.heap.size)⟩, rfl⟩
              case measure => simp [intOf]; omega
        · obtain rfl : k = a.length := by omega
          have q1 : ((P a.length : Int) == (x.size : Int)) = true := by rw [hP1]; simp
          have q2 : (1 : Int) ≤ (a.length : Int) := by omega
          have q3 : (a.length : Int) ≤ 24 := by omega
          go_wp2_with fail
          go_ret
          exact ⟨rfl, hbw⟩
end Go.Proofs.YtcabhanmeookkaaDoor.Al
