/- Walks over gazetteerref10: follows. -/
import Derived.Test.YtcabhanmeookkaaDoorAlpR2
import Derived.Test.YtcabhanmeookkaaDoorAlpBy
import Derived.Deep.RegionHeld3
namespace Go.Proofs.YtcabhanmeookkaaDoor.Al
set_option linter.unusedVariables false
set_option linter.unusedSimpArgs false
open Go.RowKit

theorem prefix_len {a b : ByteArray} (h : (bl a).isPrefixOf (bl b) = true) : a.size ≤ b.size := by
  have := (List.isPrefixOf_iff_prefix.1 h).length_le
  rwa [bl_len, bl_len] at this

set_option maxRecDepth 100000 in
set_option maxHeartbeats 4000000 in
theorem follows_any (nm : ByteArray) (vl vs : Value) (L : List ByteArray) (S : List Int) (hp : ∀ l ∈ L, 1 ≤ l.size ∧ l.size ≤ 1000) : ∀ (n : Nat) (t : ByteArray), t.size < n → t.size ≤ 100000 → ∀ w : World, Alp nm vl vs L S w →
    Calls Tryd.prog 32 #[.agg #[.string nm, vl, vs], .string t] w fun e w' => e = .returned (.bool (begN (bls L) n (bl t))) ∧ Below w.heap.size w w'
  | 0, t, h, _, w, _ => by omega
  | n + 1, t, ht, hts, w, hA => by
    have IH : Hid (∀ (t : ByteArray), t.size < n → t.size ≤ 100000 → ∀ w : World, Alp nm vl vs L S w → Calls Tryd.prog 32 #[.agg #[.string nm, vl, vs], .string t] w fun e w' => e = .returned (.bool (begN (bls L) n (bl t))) ∧ Below w.heap.size w w') := Lib.hid (follows_any nm vl vs L S hp n)
    have HR := Lib.hid (begN_succ (bls L) n (bl t))
    have hb0 : Below w.heap.size w (w.alloc (.cells #[.string nm, vl, vs] 25)) := (Below.refl _ _).alloc (Nat.le_refl _) _
    have k0 := Blk.new w 25 #[.string nm, vl, vs]
    generalize begN (bls L) (n + 1) (bl t) = R at *
    obtain ⟨al, cl, rfl⟩ := hA.sl.form
    have hz0 : (w.alloc (.cells #[.string nm, .slice al L.length cl, vs] 25)).heap.size = w.heap.size + 1 := by simp
    have hll := hA.len
    have HA := Lib.hid hA
    clear hA
    go_enter Tryd.func32, Tryd.ntmps32
    go_wp2_with fail
    go_loopw [5] (fun i wr => ∃ k : Nat, k ≤ L.length ∧ i = .int .i64 k ∧ Hid (∀ j (h : j < L.length), j < k → begAt (bls L) n (bl t) (bl L[j]) = false) ∧ Below (w.heap.size + 1) (w.alloc (.cells #[.string nm, .slice al L.length cl, vs] 25)) wr) (fun i _ => L.length - (intOf i).toNat)
    case atStart => exact ⟨0, by omega, rfl, Lib.hid (fun j _ h => by omega), by rw [← hz0]; exact Below.refl _ _⟩
    case round =>
      obtain ⟨k, hk, rfl, Hno, hbr⟩ := hrel
      have hbw : Below w.heap.size w wr := hb0.trans (hbr.mono (by omega))
      have kr := k0.below hbr (by omega)
      have hzr := hbr.size
      rw [hz0] at hzr
      have z0 : wr.cell? ⟨w.heap.size, 0, none⟩ = some (.string nm) := kr.cell 0
      have z1 : wr.cell? ⟨w.heap.size, 1, none⟩ = some (.slice al L.length cl) := kr.cell 1
      have z2 : wr.cell? ⟨w.heap.size, 2, none⟩ = some vs := kr.cell 2
      by_cases hlt : k < L.length
      · obtain ⟨b, off, cap, hsl, hbb, hmm, hcell⟩ := HA.out.sl.open (by omega)
        obtain ⟨rfl, rfl⟩ : al = some ⟨b, off, none⟩ ∧ cl = cap := by simpa using hsl
        have ck : wr.cell? ⟨b, off + k, none⟩ = some (.string L[k]) := (hbw.cell (p := ⟨b, off + k, none⟩) hbb).trans (hcell k hlt)
        have hmem : L[k] ∈ L := List.getElem_mem hlt
        have hsz := hp _ hmem
        have q1 : (k : Int) < (L.length : Int) := by omega
        have HB := Lib.hid (show begAt (bls L) n (bl t) (bl L[k]) = ((bl t).isPrefixOf (bl L[k]) || ((bl L[k]).isPrefixOf (bl t) && begN (bls L) n ((bl t).drop (bl L[k]).length))) from rfl)
        have Hyes := Lib.hid (show begAt (bls L) n (bl t) (bl L[k]) = true → R = true from fun h => by
          rw [HR.out, List.any_eq_true]
          exact ⟨bl L[k], List.mem_map.2 ⟨_, hmem, rfl⟩, h⟩)
        have Hck := Lib.hid ck
        have hstep : Hid (begAt (bls L) n (bl t) (bl L[k]) = false → ∀ j (h : j < L.length), j < k + 1 → begAt (bls L) n (bl t) (bl L[j]) = false) := Lib.hid fun hf j h hj => by
          rcases Nat.lt_succ_iff_lt_or_eq.1 hj with h2 | rfl
          · exact Hno.out j h h2
          · exact hf
        clear hsl hcell hmem
        generalize L[k] = lk at *
        have hbeg := rbegins_any lk t (by omega) (by omega)
        cases h1 : (bl t).isPrefixOf (bl lk) with
        | true =>
          rw [h1] at hbeg
          have hR : R = true := Hyes.out (by rw [HB.out, h1]; rfl)
          subst hR
          have Hbeg := Lib.hid hbeg
          clear h1 HB Hyes hbeg
          go_wp2_with fail
          refine (Hbeg.out _).mono ?_
          rintro e w1 ⟨rfl, rfl⟩
          go_wp2_with fail
          go_ret
          exact ⟨rfl, hbw⟩
        | false =>
          rw [h1] at hbeg
          have Hbeg := Lib.hid hbeg
          clear hbeg
          cases h2 : (bl lk).isPrefixOf (bl t) with
          | false =>
            have Hf := Lib.hid (hstep.out (by rw [HB.out, h1, h2]; rfl))
            have H2 := Lib.hid h2
            clear h1 h2 HB Hyes hstep
            go_wp2_with fail
            refine (Hbeg.out _).mono ?_
            rintro e w1 ⟨rfl, rfl⟩
            go_wp2_with fail
            go_quiet (first | (go_at_call 31; exact rbegins_quiet _ _ (by omega) (by omega) false H2.out _ _))
            go_wp2_with fail
            go_roundw
            case rel => exact ⟨k + 1, by omega, by go_num, Hf, hbr.trans (below_drewN wr nq _)⟩
            case measure => simp [intOf]; omega
          | true =>
            have hle := prefix_len h2
            have hle2 : (lk.size : Int) ≤ (t.size : Int) := by omega
            have hts2 : (t.extract lk.size t.size).size = t.size - lk.size := by rw [ByteArray.size_extract]; omega
            have hrec := fun w' (h : Below wr.heap.size wr w') => IH.out (t.extract lk.size t.size) (by omega) (by omega) w' (HA.out.below (hbw.trans (h.mono hbw.size)))
            have HB2 := Lib.hid (show begAt (bls L) n (bl t) (bl lk) = begN (bls L) n ((bl t).drop (bl lk).length) by rw [HB.out, h1, h2]; rfl)
            rw [rbl_rest, ← bl_len lk] at hrec
            have hbeg2 := rbegins_any t lk (by omega) (by omega)
            rw [h2] at hbeg2
            have Hbeg2 := Lib.hid hbeg2
            generalize begN (bls L) n ((bl t).drop (bl lk).length) = r at *
            rw [bl_len] at hrec
            have Hrec := Lib.hid hrec
            clear h1 h2 HB hbeg2 hrec hts2
            have hS : ∀ w', Below wr.heap.size wr w' → ((w'.cell? ⟨w.heap.size, 0, none⟩ = some (.string nm) ∧ w'.cell? ⟨w.heap.size, 1, none⟩ = some (.slice (some ⟨b, off, none⟩) L.length cl)) ∧ w'.cell? ⟨w.heap.size, 2, none⟩ = some vs) ∧ w'.cell? ⟨b, off + k, none⟩ = some (.string lk) := fun w' h =>
              ⟨⟨⟨(kr.below h (by omega)).cell 0, (kr.below h (by omega)).cell 1⟩, (kr.below h (by omega)).cell 2⟩, (h.cell (p := ⟨b, off + k, none⟩) (Nat.lt_of_lt_of_le hbb hbw.size)).trans Hck.out⟩
            cases r with
            | true =>
              have hR : R = true := Hyes.out HB2.out
              subst hR
              clear HB2 Hyes hstep
              go_wp2_with fail
              refine (Hbeg.out _).mono ?_
              rintro e w1 ⟨rfl, rfl⟩
              go_wp2_with fail
              have hr := (Below.refl wr.heap.size wr).drew
              go_region_held3 (fun w' => ((w'.cell? ⟨w.heap.size, 0, none⟩ = some (.string nm) ∧ w'.cell? ⟨w.heap.size, 1, none⟩ = some (.slice (some ⟨b, off, none⟩) L.length cl)) ∧ w'.cell? ⟨w.heap.size, 2, none⟩ = some vs) ∧ w'.cell? ⟨b, off + k, none⟩ = some (.string lk))
                (first | exact hS _ hr | exact hS _ (by assumption))
                (first
                  | (go_at_call 31; refine (Hbeg2.out _).mono ?_; rintro e w2 ⟨rfl, rfl⟩)
                  | (go_at_call 32; refine (Hrec.out _ hr).mono ?_; rintro e w3 ⟨rfl, hb3'⟩; have hb3 := hr.trans hb3'))
              go_wp2_with fail
              go_ret
              exact ⟨rfl, hbw.trans (hb3.mono hbw.size)⟩
            | false =>
              have Hf := Lib.hid (hstep.out HB2.out)
              clear HB2 Hyes hstep
              go_wp2_with fail
              refine (Hbeg.out _).mono ?_
              rintro e w1 ⟨rfl, rfl⟩
              go_wp2_with fail
              have hr := (Below.refl wr.heap.size wr).drew
              go_region_held3 (fun w' => ((w'.cell? ⟨w.heap.size, 0, none⟩ = some (.string nm) ∧ w'.cell? ⟨w.heap.size, 1, none⟩ = some (.slice (some ⟨b, off, none⟩) L.length cl)) ∧ w'.cell? ⟨w.heap.size, 2, none⟩ = some vs) ∧ w'.cell? ⟨b, off + k, none⟩ = some (.string lk))
                (first | exact hS _ hr | exact hS _ (by assumption))
                (first
                  | (go_at_call 31; refine (Hbeg2.out _).mono ?_; rintro e w2 ⟨rfl, rfl⟩)
                  | (go_at_call 32; refine (Hrec.out _ hr).mono ?_; rintro e w3 ⟨rfl, hb3'⟩; have hb3 := hr.trans hb3'))
              go_wp2_with fail
              go_roundw
              case rel => exact ⟨k + 1, by omega, by go_num, Hf, hbr.trans (hb3.mono (by omega))⟩
              case measure => simp [intOf]; omega
      · obtain rfl : k = L.length := by omega
        have hR : R = false := by
          rw [HR.out, List.any_eq_false]
          intro x hx
          obtain ⟨s, hs, rfl⟩ := List.mem_map.1 hx
          obtain ⟨j, hj, rfl⟩ := List.mem_iff_getElem.1 hs
          rw [Hno.out j hj hj]; simp
        subst hR
        go_wp2_with fail
        go_ret
        exact ⟨rfl, hbw⟩
end Go.Proofs.YtcabhanmeookkaaDoor.Al
