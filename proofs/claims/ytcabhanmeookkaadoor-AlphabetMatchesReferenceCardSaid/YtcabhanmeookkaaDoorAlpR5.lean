/- Walks over gazetteerref10: Valid, Read. -/
import Derived.Test.YtcabhanmeookkaaDoorAlpR4
namespace Go.Proofs.YtcabhanmeookkaaDoor.Al
set_option linter.unusedVariables false
set_option linter.unusedSimpArgs false
open Go.RowKit

/-- no letter is another one, followed by a text with which letters can begin -/
def pairOk (L : List Bs) (i k : Nat) : Prop := ¬ (i ≠ k ∧ (ltA L k).isPrefixOf (ltA L i) = true ∧ begB L ((ltA L i).drop (ltA L k).length) = true)
theorem pairs_faith {L : List Bs} (hd : L.Nodup) (hp : ∀ l ∈ L, 1 ≤ l.length ∧ l.length ≤ 3) : (∀ i, i < L.length → ∀ k, k < L.length → pairOk L i k) ↔ faithB L = true := by
  rw [faith_iff]
  constructor
  · intro h l hl k h1 h2 hm
    obtain ⟨i, hi, rfl⟩ := List.mem_iff_getElem.1 hl
    obtain ⟨j, hj, hje⟩ := List.mem_iff_getElem.1 hm
    cases hq : begB L (L[i].drop k) with
    | false => rfl
    | true =>
      refine absurd ⟨?_, ?_, ?_⟩ (h i hi j hj)
      · rintro rfl
        have := congrArg List.length hje
        rw [List.length_take] at this
        omega
      · rw [ltA_get hi, ltA_get hj, hje, List.isPrefixOf_iff_prefix]
        exact List.take_prefix _ _
      · rw [ltA_get hi, ltA_get hj, hje, List.length_take, Nat.min_eq_left (by omega)]
        exact hq
  · rintro h i hi k hk ⟨hik, hpre, hb⟩
    have hl := ltA_mem hi
    have hpre' := List.isPrefixOf_iff_prefix.1 hpre
    have he : (ltA L i).take (ltA L k).length = ltA L k := (List.prefix_iff_eq_take.1 hpre').symm
    have hlt : (ltA L k).length < (ltA L i).length := by
      rcases Nat.lt_or_ge (ltA L k).length (ltA L i).length with h1 | h1
      · exact h1
      · exfalso
        have h2 := List.IsPrefix.eq_of_length hpre' (Nat.le_antisymm hpre'.length_le h1)
        have := idx_ltA hd hi
        rw [← h2, idx_ltA hd hk] at this
        exact hik this.symm
    have := h _ hl (ltA L k).length (hp _ (ltA_mem hk)).1 hlt (by rw [he]; exact ltA_mem hk)
    rw [hb] at this
    cases this
theorem formed_fine {nm : Bs} {L : List Bs} {S : List Int} (h : formedB nm L S = true) : L.Nodup ∧ ∀ l ∈ L, 1 ≤ l.length ∧ l.length ≤ 3 := by
  obtain ⟨_, _, h1, h2, _⟩ := (formed_iff nm L S).1 h
  refine ⟨(apart_iff L).1 h2, fun l hl => ?_⟩
  obtain ⟨j, hj, rfl⟩ := List.mem_iff_getElem.1 hl
  have := (h1 j hj).1.1
  rwa [ltA_get hj] at this

set_option maxRecDepth 100000 in
set_option maxHeartbeats 8000000 in
theorem rValid_any (nm : ByteArray) (vl vs : Value) (L : List ByteArray) (S : List Int) (w : World) (hA : Alp nm vl vs L S w) :
    Calls Tryd.prog 20 #[.agg #[.string nm, vl, vs]] w fun e w' => e = .returned (.bool (validA (bl nm) (bls L) S)) ∧ Below w.heap.size w w' := by
  have hb0 : Below w.heap.size w (w.alloc (.cells #[.string nm, vl, vs] 25)) := (Below.refl _ _).alloc (Nat.le_refl _) _
  have k0 := Blk.new w 25 #[.string nm, vl, vs]
  obtain ⟨al, cl, rfl⟩ := hA.sl.form
  have hz0 : (w.alloc (.cells #[.string nm, .slice al L.length cl, vs] 25)).heap.size = w.heap.size + 1 := by simp
  have hll := hA.len
  have hfo := formed_any nm (.slice al L.length cl) vs L S _ (hA.below hb0)
  have HA := Lib.hid hA
  clear hA
  have hR := valid_formed (bl nm) (bls L) S
  generalize validA (bl nm) (bls L) S = R at *
  cases hF : formedB (bl nm) (bls L) S with
  | false =>
    rw [hF] at hfo hR
    have Hfo := Lib.hid hfo
    obtain rfl : R = false := hR
    clear hfo hF
    go_enter Tryd.func20, Tryd.ntmps20
    go_wp2_with fail
    refine Hfo.out.mono ?_
    rintro e w1 ⟨rfl, hq1⟩
    go_wp2_with fail
    go_ret
    exact ⟨rfl, hb0.trans (hq1.mono hb0.size)⟩
  | true =>
    rw [hF] at hfo hR
    have Hfo := Lib.hid hfo
    obtain ⟨hnd, hpp⟩ := formed_fine hF
    have hpf := pairs_faith hnd hpp
    have hps : ∀ l ∈ L, 1 ≤ l.size ∧ l.size ≤ 1000 := fun l hl => by
      have := hpp (bl l) (List.mem_map.2 ⟨l, hl, rfl⟩)
      rw [bl_len] at this
      omega
    have Hps := Lib.hid hps
    rw [Bool.true_and] at hR
    rw [← hR, bls_len] at hpf
    have HR := Lib.hid hpf
    clear hfo hF hR hpf hnd hpp hps
    go_enter Tryd.func20, Tryd.ntmps20
    go_wp2_with fail
    refine Hfo.out.mono ?_
    rintro e w1 ⟨rfl, hq1⟩
    rw [hz0] at hq1
    go_wp2_with fail
    go_loopw [3] (fun i wr => ∃ k : Nat, k ≤ L.length ∧ i = .int .i64 k ∧ Hid (∀ j, j < k → ∀ q, q < L.length → pairOk (bls L) j q) ∧ Below (w.heap.size + 1) (w.alloc (.cells #[.string nm, .slice al L.length cl, vs] 25)) wr) (fun i _ => L.length - (intOf i).toNat)
    case atStart => exact ⟨0, by omega, rfl, Lib.hid (fun j h => absurd h (Nat.not_lt_zero _)), hq1⟩
    case round =>
      obtain ⟨i, hi, rfl, H1, hbr⟩ := hrel
      have hbw : Below w.heap.size w wr := hb0.trans (hbr.mono (by omega))
      have kr := k0.below hbr (by omega)
      have z0 : wr.cell? ⟨w.heap.size, 0, none⟩ = some (.string nm) := kr.cell 0
      have z1 : wr.cell? ⟨w.heap.size, 1, none⟩ = some (.slice al L.length cl) := kr.cell 1
      have z2 : wr.cell? ⟨w.heap.size, 2, none⟩ = some vs := kr.cell 2
      by_cases hlt : i < L.length
      · have q1 : (i : Int) < (L.length : Int) := by omega
        obtain ⟨b, off, cap, hsl, hbb, hmm, hcell⟩ := HA.out.sl.open (by omega)
        obtain ⟨rfl, rfl⟩ : al = some ⟨b, off, none⟩ ∧ cl = cap := by simpa using hsl
        have Hcell := Lib.hid hcell
        clear hsl hcell
        go_wp2_with fail
        go_loopw [4] (fun v wr => ∃ k : Nat, k ≤ L.length ∧ v = .int .i64 k ∧ Hid (∀ q, q < k → pairOk (bls L) i q) ∧ Below (w.heap.size + 1) (w.alloc (.cells #[.string nm, .slice (some ⟨b, off, none⟩) L.length cl, vs] 25)) wr) (fun v _ => L.length - (intOf v).toNat)
        case atStart => exact ⟨0, by omega, rfl, Lib.hid (fun j h => absurd h (Nat.not_lt_zero _)), hbr⟩
        case round =>
          obtain ⟨k, hk, rfl, H2, hbr2⟩ := hrel
          clear z0 z1 z2
          have hbw2 : Below w.heap.size w wr := hb0.trans (hbr2.mono (by omega))
          have kr2 := k0.below hbr2 (by omega)
          have hzr := hbr2.size
          rw [hz0] at hzr
          have z0 : wr.cell? ⟨w.heap.size, 0, none⟩ = some (.string nm) := kr2.cell 0
          have z1 : wr.cell? ⟨w.heap.size, 1, none⟩ = some (.slice (some ⟨b, off, none⟩) L.length cl) := kr2.cell 1
          have z2 : wr.cell? ⟨w.heap.size, 2, none⟩ = some vs := kr2.cell 2
          by_cases hlk : k < L.length
          · have q2 : (k : Int) < (L.length : Int) := by omega
            have ci : wr.cell? ⟨b, off + i, none⟩ = some (.string L[i]) := (hbw2.cell (p := ⟨b, off + i, none⟩) hbb).trans (Hcell.out i hlt)
            have ck : wr.cell? ⟨b, off + k, none⟩ = some (.string L[k]) := (hbw2.cell (p := ⟨b, off + k, none⟩) hbb).trans (Hcell.out k hlk)
            have hszi := Hps.out _ (List.getElem_mem hlt)
            have hszk := Hps.out _ (List.getElem_mem hlk)
            have ei := Lib.hid (bls_get L i hlt)
            have ek := Lib.hid (bls_get L k hlk)
            have hno : Hid (¬ pairOk (bls L) i k → R = false) := Lib.hid fun hno => by
              cases R with
              | false => rfl
              | true => exact absurd (HR.out.2 rfl i hlt k hlk) hno
            have hyes : Hid (pairOk (bls L) i k → ∀ q, q < k + 1 → pairOk (bls L) i q) := Lib.hid fun h q hq => by
              rcases Nat.lt_succ_iff_lt_or_eq.1 hq with h2 | rfl
              · exact H2.out q h2
              · exact h
            generalize L[i] = li at *
            generalize L[k] = lk at *
            by_cases hik : i = k
            · have qe : ((i : Int) != (k : Int)) = false := by rw [hik]; simp
              have HN := Lib.hid (hyes.out (fun h => h.1 hik))
              clear hik
              go_wp2_with fail
              go_quiet (fail)
              go_wp2_with fail
              go_roundw
              case rel => exact ⟨k + 1, by omega, by go_num, HN, hbr2.trans (below_drewN wr nq _)⟩
              case measure => simp [intOf]; omega
            · have qe : ((i : Int) != (k : Int)) = true := by rw [bne_iff_ne]; omega
              cases h2 : (bl lk).isPrefixOf (bl li) with
              | false =>
                have HN := Lib.hid (hyes.out (fun h => by have := h.2.1; rw [ei.out, ek.out, h2] at this; cases this))
                have H3 := Lib.hid h2
                clear h2
                go_wp2_with fail
                go_quiet (first | (go_at_call 31; exact rbegins_quiet _ _ (by omega) (by omega) false H3.out _ _))
                go_wp2_with fail
                go_roundw
                case rel => exact ⟨k + 1, by omega, by go_num, HN, hbr2.trans (below_drewN wr nq _)⟩
                case measure => simp [intOf]; omega
              | true =>
                have hle := prefix_len h2
                have hle2 : (lk.size : Int) ≤ (li.size : Int) := by omega
                have hts2 : (li.extract lk.size li.size).size = li.size - lk.size := by rw [ByteArray.size_extract]; omega
                have hfl := fun w' (h : Below wr.heap.size wr w') => follows_any nm (.slice (some ⟨b, off, none⟩) L.length cl) vs L S Hps.out (li.size - lk.size + 1) (li.extract lk.size li.size) (by omega) (by omega) w' (HA.out.below (hbw2.trans (h.mono hbw2.size)))
                have hB : begN (bls L) (li.size - lk.size + 1) (bl (li.extract lk.size li.size)) = begB (bls L) ((ltA (bls L) i).drop (ltA (bls L) k).length) := by
                  rw [ei.out, ek.out, rbl_rest, bl_len]
                  unfold begB
                  rw [List.length_drop, bl_len]
                rw [hB] at hfl
                have hbeg2 := rbegins_any li lk (by omega) (by omega)
                have hpre : (ltA (bls L) k).isPrefixOf (ltA (bls L) i) = true := by rw [ei.out, ek.out]; exact h2
                rw [h2] at hbeg2
                have Hbeg2 := Lib.hid hbeg2
                have hS : ∀ w', Below wr.heap.size wr w' → (w'.cell? ⟨w.heap.size, 0, none⟩ = some (.string nm) ∧ w'.cell? ⟨w.heap.size, 1, none⟩ = some (.slice (some ⟨b, off, none⟩) L.length cl)) ∧ w'.cell? ⟨w.heap.size, 2, none⟩ = some vs := fun w' h =>
                  ⟨⟨(kr2.below h (by omega)).cell 0, (kr2.below h (by omega)).cell 1⟩, (kr2.below h (by omega)).cell 2⟩
                cases hr0 : begB (bls L) ((ltA (bls L) i).drop (ltA (bls L) k).length) with
                | true =>
                  rw [hr0] at hfl
                  have Hrec := Lib.hid hfl
                  obtain rfl := hno.out (fun h => h ⟨hik, hpre, hr0⟩)
                  clear h2 hbeg2 hfl hts2 hB hr0 hpre
                  go_wp2_with fail
                  have hr := (Below.refl wr.heap.size wr).drew
                  go_region_held3 (fun w' => (w'.cell? ⟨w.heap.size, 0, none⟩ = some (.string nm) ∧ w'.cell? ⟨w.heap.size, 1, none⟩ = some (.slice (some ⟨b, off, none⟩) L.length cl)) ∧ w'.cell? ⟨w.heap.size, 2, none⟩ = some vs)
                    (first | exact hS _ hr | exact hS _ (by assumption))
                    (first
                      | (go_at_call 31; refine (Hbeg2.out _).mono ?_; rintro e w2 ⟨rfl, rfl⟩)
                      | (go_at_call 32; refine (Hrec.out _ hr).mono ?_; rintro e w3 ⟨rfl, hb3'⟩; have hb3 := hr.trans hb3'))
                  go_wp2_with fail
                  go_ret
                  exact ⟨rfl, hbw2.trans (hb3.mono hbw2.size)⟩
                | false =>
                  rw [hr0] at hfl
                  have Hrec := Lib.hid hfl
                  have HN := Lib.hid (hyes.out (fun h => by have := h.2.2; rw [hr0] at this; cases this))
                  clear h2 hbeg2 hfl hts2 hB hr0 hpre
                  go_wp2_with fail
                  have hr := (Below.refl wr.heap.size wr).drew
                  go_region_held3 (fun w' => (w'.cell? ⟨w.heap.size, 0, none⟩ = some (.string nm) ∧ w'.cell? ⟨w.heap.size, 1, none⟩ = some (.slice (some ⟨b, off, none⟩) L.length cl)) ∧ w'.cell? ⟨w.heap.size, 2, none⟩ = some vs)
                    (first | exact hS _ hr | exact hS _ (by assumption))
                    (first
                      | (go_at_call 31; refine (Hbeg2.out _).mono ?_; rintro e w2 ⟨rfl, rfl⟩)
                      | (go_at_call 32; refine (Hrec.out _ hr).mono ?_; rintro e w3 ⟨rfl, hb3'⟩; have hb3 := hr.trans hb3'))
                  go_wp2_with fail
                  go_roundw
                  case rel => exact ⟨k + 1, by omega, by go_num, HN, hbr2.trans (hb3.mono (by omega))⟩
                  case measure => simp [intOf]; omega
          · obtain rfl : k = L.length := by omega
            have HN := Lib.hid (show ∀ j, j < i + 1 → ∀ q, q < L.length → pairOk (bls L) j q from fun j hj => by
              rcases Nat.lt_succ_iff_lt_or_eq.1 hj with h2 | rfl
              · exact H1.out j h2
              · exact H2.out)
            go_wp2_with fail
            go_roundw
            case rel => exact ⟨i + 1, by omega, by go_num, HN, hbr2⟩
            case measure => simp [intOf]; omega
      · obtain rfl : i = L.length := by omega
        obtain rfl : R = true := HR.out.1 H1.out
        go_wp2_with fail
        go_ret
        exact ⟨rfl, hbw⟩

set_option maxRecDepth 100000 in
set_option maxHeartbeats 2000000 in
theorem rRead_any (nm : ByteArray) (vl vs : Value) (L : List ByteArray) (S : List Int) (t : ByteArray) (ht : t.size ≤ 100000) (w : World) (hA : Alp nm vl vs L S w) :
    Calls Tryd.prog 14 #[.agg #[.string nm, vl, vs], .string t] w (ReadR (readA (validA (bl nm) (bls L) S) (bls L) (bl t)) w) := by
  have hb0 : Below w.heap.size w (w.alloc (.cells #[.string nm, vl, vs] 25)) := (Below.refl _ _).alloc (Nat.le_refl _) _
  have k0 := Blk.new w 25 #[.string nm, vl, vs]
  have hval := rValid_any nm vl vs L S _ (hA.below hb0)
  cases hV : validA (bl nm) (bls L) S with
  | false =>
    rw [hV] at hval
    have Hval := Lib.hid hval
    have e : readA false (bls L) (bl t) = ([], 1, 0) := if_neg (by simp)
    rw [e]
    clear hval hV e
    go_enter Tryd.func14, Tryd.ntmps14
    go_wp2_with fail
    refine Hval.out.mono ?_
    rintro e w1 ⟨rfl, hq1⟩
    go_wp2_with fail
    go_ret3
    refine ⟨.slice none 0 0, ?_, own_nil _ _, hb0.trans (hq1.mono hb0.size)⟩
    first | rfl | simp
  | true =>
    rw [hV] at hval
    have Hval := Lib.hid hval
    have hF : Fine (bls L) := valid_fine hV
    have hlet := fun w' (h : Below w.heap.size w w') => Letters_any nm vl vs L S hF t ht w' (hA.below h)
    have e : readA true (bls L) (bl t) = readV (bls L) (bl t) := if_pos rfl
    rw [e]
    generalize readV (bls L) (bl t) = r at *
    obtain ⟨a, c, p⟩ := r
    have Hlet := Lib.hid hlet
    clear hval hV e hlet hA
    go_enter Tryd.func14, Tryd.ntmps14
    go_wp2_with fail
    refine Hval.out.mono ?_
    rintro e w1 ⟨rfl, hq1⟩
    have hb1 := hb0.trans (hq1.mono hb0.size)
    have k1 := k0.below hq1 k0.lt
    have z0 : w1.cell? ⟨w.heap.size, 0, none⟩ = some (.string nm) := k1.cell 0
    have z1 : w1.cell? ⟨w.heap.size, 1, none⟩ = some vl := k1.cell 1
    have z2 : w1.cell? ⟨w.heap.size, 2, none⟩ = some vs := k1.cell 2
    go_wp2_with fail
    refine (Hlet.out _ hb1).mono ?_
    rintro e w2 ⟨v2, rfl, own2, hq2⟩
    dsimp only at own2 ⊢
    go_wp2_with fail
    go_ret3
    exact ⟨v2, rfl, own_mono own2 hb1.size, hb1.trans (hq2.mono hb1.size)⟩
end Go.Proofs.YtcabhanmeookkaaDoor.Al
