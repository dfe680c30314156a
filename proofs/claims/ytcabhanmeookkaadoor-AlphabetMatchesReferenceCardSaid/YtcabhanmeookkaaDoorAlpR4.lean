/- Walks over gazetteerref10: formed. -/
import Derived.Test.YtcabhanmeookkaaDoorAlpR3
namespace Go.Proofs.YtcabhanmeookkaaDoor.Al
set_option linter.unusedVariables false
set_option linter.unusedSimpArgs false
open Go.RowKit

/-- is an alphabet formed, as the reference says? -/
def formedB (nm : Bs) (L : List Bs) (S : List Int) : Bool := nameB nm && (decide (1 ≤ L.length) && (decide (L.length ≤ 64) && (L.all propB && (nodupB L && foldS S L.length))))
theorem valid_formed (nm : Bs) (L : List Bs) (S : List Int) : validA nm L S = (formedB nm L S && faithB L) := by
  unfold validA formedB lettersB
  cases nameB nm <;> cases decide (1 ≤ L.length) <;> cases decide (L.length ≤ 64) <;> cases L.all propB <;> cases nodupB L <;> cases foldS S L.length <;> cases faithB L <;> rfl
/-- a letter with its small letter -/
def okP (L : List Bs) (S : List Int) (j : Nat) : Prop := ((1 ≤ (ltA L j).length ∧ (ltA L j).length ≤ 3) ∧ (0 ≤ S.getD j 0 ∧ S.getD j 0 < (L.length : Int))) ∧ (ltA L j).all byteB = true
theorem formed_iff (nm : Bs) (L : List Bs) (S : List Int) : formedB nm L S = true ↔ nameB nm = true ∧ (1 ≤ L.length ∧ L.length ≤ 64 ∧ S.length = L.length) ∧ (∀ j, j < L.length → okP L S j) ∧ Apart L L.length ∧ ∀ j, j < S.length → S.getD (S.getD j 0).toNat 0 = S.getD j 0 := by
  have hp : L.all propB = true ↔ ∀ j, j < L.length → (1 ≤ (ltA L j).length ∧ (ltA L j).length ≤ 3) ∧ (ltA L j).all byteB = true := by
    rw [List.all_eq_true]
    constructor
    · intro h j hj
      have := h _ (ltA_mem hj)
      unfold propB at this
      simp only [Bool.and_eq_true, decide_eq_true_eq] at this
      exact ⟨⟨this.1, this.2.1⟩, this.2.2⟩
    · intro h l hl
      obtain ⟨j, hj, rfl⟩ := List.mem_iff_getElem.1 hl
      have := h j hj
      rw [ltA_get hj] at this
      unfold propB
      simp only [Bool.and_eq_true, decide_eq_true_eq]
      exact ⟨this.1.1, this.1.2, this.2⟩
  unfold formedB okP
  simp only [Bool.and_eq_true, decide_eq_true_eq, hp, nodup_iff, ← apart_iff, bytes_fold]
  constructor
  · rintro ⟨a, b, c, d, e, f, g, h⟩
    refine ⟨a, ⟨b, c, f⟩, fun j hj => ⟨⟨(d j hj).1, ?_⟩, (d j hj).2⟩, e, h⟩
    rw [← f] at hj ⊢
    exact g j hj
  · rintro ⟨a, ⟨b, c, f⟩, d, e, h⟩
    refine ⟨a, b, c, fun j hj => ⟨(d j hj).1.1, (d j hj).2⟩, e, f, fun j hj => ?_, h⟩
    rw [f] at hj ⊢
    exact (d j hj).1.2

set_option maxRecDepth 100000 in
set_option maxHeartbeats 8000000 in
theorem formed_any (nm : ByteArray) (vl vs : Value) (L : List ByteArray) (S : List Int) (w : World) (hA : Alp nm vl vs L S w) :
    Calls Tryd.prog 30 #[.agg #[.string nm, vl, vs]] w fun e w' => e = .returned (.bool (formedB (bl nm) (bls L) S)) ∧ Below w.heap.size w w' := by
  have hb0 : Below w.heap.size w (w.alloc (.cells #[.string nm, vl, vs] 25)) := (Below.refl _ _).alloc (Nat.le_refl _) _
  have k0 := Blk.new w 25 #[.string nm, vl, vs]
  obtain ⟨al, cl, rfl⟩ := hA.sl.form
  obtain ⟨as0, cs, rfl⟩ := hA.ss.form
  have hz0 : (w.alloc (.cells #[.string nm, .slice al L.length cl, .slice as0 S.length cs] 25)).heap.size = w.heap.size + 1 := by simp
  have HR := Lib.hid (formed_iff (bl nm) (bls L) S)
  have hll := hA.len
  have hNm := fun w' => rName_any nm (by have := hA.nm; unfold maxLen; omega) w'
  have HA := Lib.hid hA
  clear hA
  generalize formedB (bl nm) (bls L) S = R at *
  have hNo : ∀ (P : Prop), (R = true → P) → ¬ P → R = false := fun P h1 h2 => by
    cases R with
    | false => rfl
    | true => exact absurd (h1 rfl) h2
  have HNo := Lib.hid hNo
  clear hNo
  rw [bls_len] at HR
  cases hn : nameB (bl nm) with
  | false =>
    rw [hn] at hNm
    obtain rfl := HNo.out _ (fun h => (HR.out.1 h).1) (by rw [hn]; simp)
    have HNm := Lib.hid hNm
    clear hNm hn
    go_enter Tryd.func30, Tryd.ntmps30
    go_wp2_with fail
    refine (HNm.out _).mono ?_
    rintro e w1 ⟨rfl, rfl⟩
    go_wp2_with fail
    go_ret
    exact ⟨rfl, hb0⟩
  | true =>
    rw [hn] at hNm
    have HNm := Lib.hid hNm
    have Hn := Lib.hid hn
    clear hNm hn
    by_cases c1 : 1 ≤ L.length
    · have d1 : ¬ (L.length : Int) < 1 := by omega
      by_cases c2 : L.length ≤ 64
      · have d2 : ¬ (64 : Int) < (L.length : Int) := by omega
        by_cases c3 : S.length = L.length
        · have d3 : ((S.length : Int) != (L.length : Int)) = false := by rw [c3]; simp
          have C3 := Lib.hid c3
          obtain ⟨b, off, cap, hsl, hbb, hmm, hcell⟩ := HA.out.sl.open (by omega)
          obtain ⟨rfl, rfl⟩ : al = some ⟨b, off, none⟩ ∧ cl = cap := by simpa using hsl
          obtain ⟨sb, so, sc, hsl2, hsb, hsm, hscell⟩ := HA.out.ss.open (by omega)
          obtain ⟨rfl, rfl⟩ : as0 = some ⟨sb, so, none⟩ ∧ cs = sc := by simpa using hsl2
          have Hcell := Lib.hid hcell
          have Hsc := Lib.hid hscell
          have hSI : (S.length : Int) = (L.length : Int) := by omega
          have HSI := Lib.hid hSI
          clear c3 hsl hsl2 hcell hscell hSI
          go_enter Tryd.func30, Tryd.ntmps30
          go_wp2_with fail
          refine (HNm.out _).mono ?_
          rintro e w1 ⟨rfl, rfl⟩
          go_wp2_with fail
          go_loopw [3] (fun i wr => ∃ k : Nat, k ≤ L.length ∧ i = .int .i64 k ∧ Hid ((∀ j, j < k → okP (bls L) S j) ∧ Apart (bls L) k) ∧ Below (w.heap.size + 1) (w.alloc (.cells #[.string nm, .slice (some ⟨b, off, none⟩) L.length cl, .slice (some ⟨sb, so, none⟩) S.length cs] 25)) wr) (fun i _ => L.length - (intOf i).toNat)
          case atStart => exact ⟨0, by omega, rfl, Lib.hid ⟨fun j h => absurd h (Nat.not_lt_zero _), apart_zero _⟩, by rw [← hz0]; exact Below.refl _ _⟩
          case round =>
            obtain ⟨k, hk, rfl, H1, hbr⟩ := hrel
            have hbw : Below w.heap.size w wr := hb0.trans (hbr.mono (by omega))
            have kr := k0.below hbr (by omega)
            have z0 : wr.cell? ⟨w.heap.size, 0, none⟩ = some (.string nm) := kr.cell 0
            have z1 : wr.cell? ⟨w.heap.size, 1, none⟩ = some (.slice (some ⟨b, off, none⟩) L.length cl) := kr.cell 1
            have z2 : wr.cell? ⟨w.heap.size, 2, none⟩ = some (.slice (some ⟨sb, so, none⟩) S.length cs) := kr.cell 2
            by_cases hlk : k < L.length
            · have hkS : k < S.length := by have := C3.out; omega
              have ck : wr.cell? ⟨b, off + k, none⟩ = some (.string L[k]) := (hbw.cell (p := ⟨b, off + k, none⟩) hbb).trans (Hcell.out _ hlk)
              have sk : wr.cell? ⟨sb, so + k, none⟩ = some (.int .i64 S[k]) := (hbw.cell (p := ⟨sb, so + k, none⟩) hsb).trans (Hsc.out _ hkS)
              have ek := Lib.hid (bls_get L k hlk)
              have es := Lib.hid (getD_of hkS)
              have q1 : (k : Int) < (L.length : Int) := by omega
              have q2 : (k : Int) < (S.length : Int) := by omega
              have hbad : Hid (¬ okP (bls L) S k → R = false) := Lib.hid fun hno => HNo.out _ (fun h => (HR.out.1 h).2.2.1 k hlk) hno
              generalize L[k] = lk at *
              generalize S[k] = sv at *
              by_cases c4 : 1 ≤ lk.size
              · have d4 : decide ((lk.size : Int) < 1) = false := by simp; omega
                by_cases c5 : lk.size ≤ 3
                · have d5 : decide ((3 : Int) < (lk.size : Int)) = false := by simp; omega
                  by_cases c6 : 0 ≤ sv
                  · have d6 : decide (sv < 0) = false := by simp; omega
                    by_cases c7 : sv < (L.length : Int)
                    · have d7 : decide ((L.length : Int) ≤ sv) = false := by simp; omega
                      have Hok := Lib.hid (show (bl lk).all byteB = true → okP (bls L) S k from fun h => ⟨⟨by rw [ek.out, bl_len]; exact ⟨c4, c5⟩, by rw [es.out, bls_len]; exact ⟨c6, c7⟩⟩, by rw [ek.out]; exact h⟩)
                      go_wp2_with fail
                      go_quiet (fail)
                      have hbr2 := hbr.trans (below_drewN wr nq (w.heap.size + 1))
                      clear z0 z1 z2 ck sk kr hbw
                      generalize wr.drewN nq = w2 at *
                      have hbw : Below w.heap.size w w2 := hb0.trans (hbr2.mono (by omega))
                      have kr := k0.below hbr2 (by omega)
                      have z0 : w2.cell? ⟨w.heap.size, 0, none⟩ = some (.string nm) := kr.cell 0
                      have z1 : w2.cell? ⟨w.heap.size, 1, none⟩ = some (.slice (some ⟨b, off, none⟩) L.length cl) := kr.cell 1
                      have z2 : w2.cell? ⟨w.heap.size, 2, none⟩ = some (.slice (some ⟨sb, so, none⟩) S.length cs) := kr.cell 2
                      clear d4 d5 d6 d7
                      go_wp2_with fail
                      go_loop [5] (fun i => ∃ j : Nat, j ≤ lk.size ∧ i = .int .i64 j ∧ Hid (((bl lk).take j).all byteB = true)) (fun i => lk.size - (intOf i).toNat)
                      case atStart => exact ⟨0, by omega, rfl, Lib.hid rfl⟩
                      case round =>
                        obtain ⟨j, hj, rfl, Hall⟩ := hrel
                        by_cases hlt : j < lk.size
                        · have hc : lk[j].toNat < 256 := UInt8.toNat_lt lk[j]
                          cases hx : byteB lk[j] with
                          | true =>
                            obtain ⟨f1, f2, f3⟩ := byte_good hx
                            have Hx := Lib.hid (all_snoc hlt Hall.out hx)
                            clear hx
                            go_wp2_with fail
                            go_round
                            case rel => exact ⟨j + 1, by omega, by go_num, Hx⟩
                            case measure => simp [intOf]; omega
                          | false =>
                            have Hf := Lib.hid (all_fail (p := byteB) hlt hx)
                            obtain rfl := hbad.out (fun h => by have := h.2; rw [ek.out, Hf.out] at this; cases this)
                            rcases byte_bad hx with f1 | ⟨f1, f2⟩ | ⟨f1, f2, f3⟩
                            · clear hx
                              go_wp2_with fail
                              go_ret
                              exact ⟨rfl, hbw⟩
                            · clear hx
                              go_wp2_with fail
                              go_ret
                              exact ⟨rfl, hbw⟩
                            · clear hx
                              go_wp2_with fail
                              go_ret
                              exact ⟨rfl, hbw⟩
                        · obtain rfl : j = lk.size := by omega
                          have Ha := Lib.hid (show (bl lk).all byteB = true by have := Hall.out; rwa [List.take_of_length_le (by rw [bl_len]; omega)] at this)
                          go_wp2_with fail
                          go_loop [6] (fun i => ∃ j : Nat, j ≤ k ∧ i = .int .i64 j ∧ Hid (∀ q, q < j → ltA (bls L) q ≠ bl lk)) (fun i => k - (intOf i).toNat)
                          case atStart => exact ⟨0, by omega, rfl, Lib.hid (fun q hq => absurd hq (Nat.not_lt_zero _))⟩
                          case round =>
                            obtain ⟨j, hj, rfl, H3⟩ := hrel
                            by_cases hjk : j < k
                            · have hjL : j < L.length := by omega
                              have cj : w2.cell? ⟨b, off + j, none⟩ = some (.string L[j]) := (hbw.cell (p := ⟨b, off + j, none⟩) hbb).trans (Hcell.out _ hjL)
                              have ej := Lib.hid (bls_get L j hjL)
                              generalize L[j] = lj at *
                              have q3 : (j : Int) < (k : Int) := by omega
                              have q4 : (j : Int) < (L.length : Int) := by omega
                              by_cases he : lj = lk
                              · have qs : (lj.toList == lk.toList) = true := by rw [he]; simp
                                obtain rfl := HNo.out _ (fun h => (HR.out.1 h).2.2.2.1) (fun h => h j k hjk hlk (by rw [ej.out, ek.out, he]))
                                clear he
                                go_wp2_with fail
                                go_ret
                                exact ⟨rfl, hbw⟩
                              · have qs : (lj.toList == lk.toList) = false := by
                                  rw [beq_eq_false_iff_ne]; intro h; rw [toList_bl, toList_bl] at h; exact he (bl_inj h)
                                have HN := Lib.hid (show ∀ q, q < j + 1 → ltA (bls L) q ≠ bl lk from fun q hq => by
                                  rcases Nat.lt_succ_iff_lt_or_eq.1 hq with h | rfl
                                  · exact H3.out q h
                                  · rw [ej.out]; exact fun h => he (bl_inj h))
                                clear he
                                go_wp2_with fail
                                go_round
                                case rel => exact ⟨j + 1, by omega, by go_num, HN⟩
                                case measure => simp [intOf]; omega
                            · obtain rfl : j = k := by omega
                              have HN : Hid ((∀ q, q < j + 1 → okP (bls L) S q) ∧ Apart (bls L) (j + 1)) := Lib.hid (by
                                refine ⟨fun q hq => ?_, (apart_succ _ _).2 ⟨H1.out.2, fun q hq => by rw [ek.out]; exact H3.out q hq⟩⟩
                                rcases Nat.lt_succ_iff_lt_or_eq.1 hq with h | rfl
                                · exact H1.out.1 q h
                                · exact Hok.out Ha.out)
                              go_wp2_with fail
                              go_roundw
                              case rel => exact ⟨j + 1, by omega, by go_num, HN, hbr2⟩
                              case measure => simp [intOf]; omega
                    · have d7 : (L.length : Int) ≤ sv := by omega
                      obtain rfl := hbad.out (fun h => c7 (by have := h.1.2.2; rwa [es.out, bls_len] at this))
                      clear c7
                      go_wp2_with fail
                      go_quiet (fail)
                      go_wp2_with fail
                      go_ret
                      exact ⟨rfl, hbw.trans (below_drewN wr nq _)⟩
                  · have d6 : sv < 0 := by omega
                    obtain rfl := hbad.out (fun h => c6 (by have := h.1.2.1; rwa [es.out] at this))
                    clear c6
                    go_wp2_with fail
                    go_quiet (fail)
                    go_wp2_with fail
                    go_ret
                    exact ⟨rfl, hbw.trans (below_drewN wr nq _)⟩
                · have d5 : (3 : Int) < (lk.size : Int) := by omega
                  obtain rfl := hbad.out (fun h => c5 (by have := h.1.1.2; rwa [ek.out, bl_len] at this))
                  clear c5
                  go_wp2_with fail
                  go_quiet (fail)
                  go_wp2_with fail
                  go_ret
                  exact ⟨rfl, hbw.trans (below_drewN wr nq _)⟩
              · have d4 : (lk.size : Int) < 1 := by omega
                obtain rfl := hbad.out (fun h => c4 (by have := h.1.1.1; rwa [ek.out, bl_len] at this))
                clear c4
                go_wp2_with fail
                go_quiet (fail)
                go_wp2_with fail
                go_ret
                exact ⟨rfl, hbw.trans (below_drewN wr nq _)⟩
            · obtain rfl : k = L.length := by omega
              go_wp2_with fail
              go_loopw [7] (fun i wr => ∃ k : Nat, k ≤ S.length ∧ i = .int .i64 k ∧ Hid (∀ j, j < k → S.getD (S.getD j 0).toNat 0 = S.getD j 0) ∧ Below (w.heap.size + 1) (w.alloc (.cells #[.string nm, .slice (some ⟨b, off, none⟩) L.length cl, .slice (some ⟨sb, so, none⟩) S.length cs] 25)) wr) (fun i _ => S.length - (intOf i).toNat)
              case atStart => exact ⟨0, by omega, rfl, Lib.hid (fun j h => absurd h (Nat.not_lt_zero _)), hbr⟩
              case round =>
                obtain ⟨k, hk2, rfl, H2, hbr2⟩ := hrel
                clear z0 z1 z2
                have hbw2 : Below w.heap.size w wr := hb0.trans (hbr2.mono (by omega))
                have kr2 := k0.below hbr2 (by omega)
                have z0 : wr.cell? ⟨w.heap.size, 0, none⟩ = some (.string nm) := kr2.cell 0
                have z1 : wr.cell? ⟨w.heap.size, 1, none⟩ = some (.slice (some ⟨b, off, none⟩) L.length cl) := kr2.cell 1
                have z2 : wr.cell? ⟨w.heap.size, 2, none⟩ = some (.slice (some ⟨sb, so, none⟩) S.length cs) := kr2.cell 2
                by_cases hkS : k < S.length
                · have hkL : k < L.length := by have := C3.out; omega
                  obtain ⟨r1, r2⟩ := (H1.out.1 k hkL).1.2
                  rw [bls_len] at r2
                  obtain ⟨m, hm⟩ := Int.eq_ofNat_of_zero_le r1
                  have hmS : m < S.length := by have := C3.out; omega
                  have hSk : S[k] = (m : Int) := by rw [← getD_of hkS]; exact hm
                  have ck : wr.cell? ⟨sb, so + k, none⟩ = some (.int .i64 (m : Int)) := (hbw2.cell (p := ⟨sb, so + k, none⟩) hsb).trans ((Hsc.out _ hkS).trans (by rw [hSk]))
                  have cm : wr.cell? ⟨sb, so + m, none⟩ = some (.int .i64 S[m]) := (hbw2.cell (p := ⟨sb, so + m, none⟩) hsb).trans (Hsc.out _ hmS)
                  have ek := Lib.hid (show S.getD (S.getD k 0).toNat 0 = S[m] by rw [hm]; exact getD_of hmS)
                  have ek2 := Lib.hid hm
                  clear r1 r2 hm hSk
                  generalize S[m] = sm at *
                  have q1 : (k : Int) < (S.length : Int) := by omega
                  have q2 : (m : Int) < (S.length : Int) := by omega
                  by_cases c8 : sm = (m : Int)
                  · have qe : (sm != (m : Int)) = false := by rw [c8]; simp
                    have HN := Lib.hid (show ∀ j, j < k + 1 → S.getD (S.getD j 0).toNat 0 = S.getD j 0 from fun j hj => by
                      rcases Nat.lt_succ_iff_lt_or_eq.1 hj with h | rfl
                      · exact H2.out j h
                      · rw [ek.out, ek2.out]; exact c8)
                    clear c8
                    go_wp2_with fail
                    go_quiet (fail)
                    go_wp2_with fail
                    go_roundw
                    case rel => exact ⟨k + 1, by omega, by go_num, HN, hbr2.trans (below_drewN wr nq _)⟩
                    case measure => simp [intOf]; omega
                  · have qe : (sm != (m : Int)) = true := by rw [bne_iff_ne]; exact c8
                    obtain rfl := HNo.out _ (fun h => (HR.out.1 h).2.2.2.2 k hkS) (by rw [ek.out, ek2.out]; exact c8)
                    clear c8
                    go_wp2_with fail
                    go_quiet (fail)
                    go_wp2_with fail
                    go_ret
                    exact ⟨rfl, hbw2.trans (below_drewN wr nq _)⟩
                · obtain rfl : k = S.length := by omega
                  obtain rfl : true = R := (HR.out.2 ⟨Hn.out, ⟨c1, c2, C3.out⟩, H1.out.1, H1.out.2, H2.out⟩).symm
                  go_wp2_with fail
                  go_ret
                  exact ⟨rfl, hbw2⟩
        · have d3 : ((S.length : Int) != (L.length : Int)) = true := by rw [bne_iff_ne]; omega
          obtain rfl := HNo.out _ (fun h => (HR.out.1 h).2.1.2.2) c3
          clear c3
          go_enter Tryd.func30, Tryd.ntmps30
          go_wp2_with fail
          refine (HNm.out _).mono ?_
          rintro e w1 ⟨rfl, rfl⟩
          go_wp2_with fail
          go_ret
          exact ⟨rfl, hb0⟩
      · have d2 : (64 : Int) < (L.length : Int) := by omega
        obtain rfl := HNo.out _ (fun h => (HR.out.1 h).2.1.2.1) c2
        clear c2
        go_enter Tryd.func30, Tryd.ntmps30
        go_wp2_with fail
        refine (HNm.out _).mono ?_
        rintro e w1 ⟨rfl, rfl⟩
        go_wp2_with fail
        go_ret
        exact ⟨rfl, hb0⟩
    · have d1 : (L.length : Int) < 1 := by omega
      obtain rfl := HNo.out _ (fun h => (HR.out.1 h).2.1.1) c1
      clear c1
      go_enter Tryd.func30, Tryd.ntmps30
      go_wp2_with fail
      refine (HNm.out _).mono ?_
      rintro e w1 ⟨rfl, rfl⟩
      go_wp2_with fail
      go_ret
      exact ⟨rfl, hb0⟩
end Go.Proofs.YtcabhanmeookkaaDoor.Al
