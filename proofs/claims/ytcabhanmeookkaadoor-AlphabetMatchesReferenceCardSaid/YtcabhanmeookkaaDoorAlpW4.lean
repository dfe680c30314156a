/- Walks over package alphabet: (script).faithful. -/
import Derived.Test.YtcabhanmeookkaaDoorAlpW3
namespace Go.Proofs.YtcabhanmeookkaaDoor.Al
set_option linter.unusedVariables false
set_option linter.unusedSimpArgs false
open Go.RowKit

theorem faithL_of {L : List Bs} {l : Bs} (h : ∀ m, 1 ≤ m → m < l.length → faithAt L l m = true) : faithL L l = true := by
  unfold faithL; rw [List.all_eq_true]; intro k hk; rw [List.mem_range] at hk; exact h (k + 1) (by omega) (by omega)
theorem faithL_no {L : List Bs} {l : Bs} {m : Nat} (h1 : 1 ≤ m) (h2 : m < l.length) (h : faithAt L l m = false) : faithL L l = false := by
  unfold faithL; rw [List.all_eq_false]
  exact ⟨m - 1, List.mem_range.2 (by omega), by rw [Nat.sub_add_cancel h1, h]; simp⟩
theorem faithB_no {L : List Bs} {l : Bs} (h1 : l ∈ L) (h : faithL L l = false) : faithB L = false := by
  unfold faithB; rw [List.all_eq_false]; exact ⟨l, h1, by rw [h]; simp⟩

theorem below_drewN (w : World) (q n : Nat) : Below n w (w.drewN q) := ⟨rfl, rfl, rfl, Nat.le_refl _, fun _ _ => rfl⟩
set_option maxRecDepth 100000 in
set_option maxHeartbeats 2000000 in
theorem faithful_any (L : List ByteArray) (hp : ∀ l ∈ L, 1 ≤ l.size ∧ l.size ≤ 1000) (hd : (bls L).Nodup) (v : Value) (B n : Nat) (w : World) (hL : StrSl w v L) (hM : IxMap w (bls L) B n (bls L).length) :
    Calls Tryd.prog 36 #[.agg #[v, .map (some B)]] w fun e w' => e = .returned (.bool (faithB (bls L))) ∧ Below w.heap.size w w' := by
  have HR := Lib.hid (show faithB (bls L) = (bls L).all (faithL (bls L)) from rfl)
  have Hno := Lib.hid (fun l (hl : l ∈ bls L) => faithB_no (L := bls L) hl)
  generalize faithB (bls L) = R at *
  by_cases h0 : L.length = 0
  · obtain rfl := List.length_eq_zero_iff.1 h0
    obtain ⟨a, cap, rfl⟩ := hL.form
    go_enter Tryd.func36, Tryd.ntmps36
    go_wp2_with fail
    refine wp_loop_rounds 1 ?_
    rw [rounds_succ]
    go_wp2_with fail
    go_ret
    rw [HR.out]
    exact ⟨rfl, (Below.refl _ _).alloc (Nat.le_refl _) _⟩
  · have HL := Lib.hid hL
    have HM := Lib.hid hM
    have hBlt := hM.lt
    obtain ⟨b, off, cap, rfl, hb, hm, hcell⟩ := hL.open h0
    unfold maxLen at hm
    clear hL hM
    go_enter Tryd.func36, Tryd.ntmps36
    go_wp2_with fail
    go_loopw [11] (fun i wr => ∃ k : Nat, k ≤ L.length ∧ i = .int .i64 k ∧ Hid (∀ j (h : j < L.length), j < k → faithL (bls L) (bl L[j]) = true) ∧ Below (w.heap.size + 1) (w.alloc (.cells #[.slice (some ⟨b, off, none⟩) L.length cap, .map (some B)] 44)) wr) (fun i _ => L.length - (intOf i).toNat)
    case atStart => exact ⟨0, by omega, rfl, Lib.hid (fun j _ h => by omega), Below.refl _ _⟩
    case round =>
      obtain ⟨k, hk, rfl, Hall, hbel⟩ := hrel
      by_cases hlt : k < L.length
      · have hb0 := box_below hbel
        have hck : wr.cell? ⟨b, off + k, none⟩ = some (.string L[k]) := (hb0.cell (p := ⟨b, off + k, none⟩) hb).trans (hcell k hlt)
        have hmem : L[k] ∈ L := List.getElem_mem hlt
        have hsz := hp _ hmem
        have Hn := Lib.hid (Hno.out (bl L[k]) (List.mem_map.2 ⟨_, hmem, rfl⟩))
        have Hx := Lib.hid (show ∀ k0 (h : k0 = k), bl (L[k0]'(by omega)) = bl L[k] from fun k0 h => by subst h; rfl)
        have Hcell := Lib.hid hcell
        clear hcell
        generalize hl : L[k] = l at *
        clear hl
        have hlen := bl_len l
        go_wp2_with fail
        generalize wr = w1 at *
        go_loopw [5] (fun i wr => ∃ m : Nat, 1 ≤ m ∧ m ≤ l.size ∧ i = .int .i64 m ∧ Hid (∀ j, 1 ≤ j → j < m → faithAt (bls L) (bl l) j = true) ∧ Below (w.heap.size + 1) (w.alloc (.cells #[.slice (some ⟨b, off, none⟩) L.length cap, .map (some B)] 44)) wr) (fun i _ => l.size - (intOf i).toNat)
        case atStart => exact ⟨1, by omega, by omega, rfl, Lib.hid (fun j _ h => by omega), hbel⟩
        case round =>
          obtain ⟨m, hm1, hm2, rfl, Hal2, hbel2⟩ := hrel
          by_cases hml : m < l.size
          · obtain ⟨c0, c1⟩ := box_cells hbel2
            have hb2 := box_below hbel2
            have hmap : ∀ q, IxMap (wr.drewN q) (bls L) B n (bls L).length := fun q => HM.out.below (hb2.trans (below_drewN wr q w.heap.size)) hBlt
            have hs1 : (l.extract 0 m).size ≤ 1000000 := by rw [← bl_len, bl_ext, List.length_take]; omega
            have e1 : bl (l.extract 0 m) = (bl l).take m := by rw [bl_ext]; rfl
            have e2 : bl (l.extract m l.size) = (bl l).drop m := by rw [bl_ext, List.take_of_length_le]; rw [List.length_drop, bl_len]; omega
            have hs2 : (l.extract m l.size).size = l.size - m := by rw [← bl_len, e2, List.length_drop, bl_len]
            have HF := Lib.hid (show faithAt (bls L) (bl l) m = !((bls L).contains ((bl l).take m) && begN (bls L) (((bl l).drop m).length + 1) ((bl l).drop m)) from rfl)
            cases hc : (bls L).contains ((bl l).take m) with
            | false =>
              have hrun := fun q => (hmap q).no (l.extract 0 m) hs1 (by rw [e1]; exact hc)
              have Hf := Lib.hid (show faithAt (bls L) (bl l) m = true by rw [HF.out, hc]; rfl)
              clear hc HF hmap e1 e2 hs1 hs2
              go_wp2_with fail
              go_quiet (fail)
              have hbel3 := hbel2.trans (below_drewN wr nq (w.heap.size + 1))
              clear hrun
              generalize wr.drewN nq = w2 at *
              obtain ⟨c0, c1⟩ := box_cells hbel3
              go_wp2_with fail
              go_quiet (fail)
              have hbel4 := hbel3.trans (below_drewN w2 nq (w.heap.size + 1))
              go_wp2_with fail
              go_roundw
              case rel =>
                refine ⟨m + 1, by omega, by omega, by go_num, Lib.hid fun j h hj => ?_, hbel4⟩
                rcases Nat.lt_succ_iff_lt_or_eq.1 hj with h2 | rfl
                · exact Hal2.out j h h2
                · exact Hf.out
              case measure => simp [intOf]; omega
            | true =>
              have hrun := fun q => (hmap q).yes hd (l.extract 0 m) hs1 (by rw [e1]; exact hc)
              have Hf := Lib.hid (show faithAt (bls L) (bl l) m = !(begN (bls L) ((l.extract m l.size).size + 1) (bl (l.extract m l.size))) by rw [HF.out, hc, e2, hs2, List.length_drop, bl_len]; rfl)
              have Hn2 := Lib.hid (fun h => Hn.out (faithL_no (L := bls L) hm1 (by rw [hlen]; exact hml) h))
              have hbeg := begins_any L hp (.map (some B)) (.slice (some ⟨b, off, none⟩) L.length cap) ((l.extract m l.size).size + 1) (l.extract m l.size) (by omega) (by omega)
              generalize begN (bls L) ((l.extract m l.size).size + 1) (bl (l.extract m l.size)) = r at *
              have Hbeg := Lib.hid hbeg
              clear hc HF hmap e1 e2 hs1 hs2 hbeg
              go_wp2_with fail
              go_quiet (fail)
              have hbel3 := hbel2.trans (below_drewN wr nq (w.heap.size + 1))
              clear hrun
              generalize wr.drewN nq = w2 at *
              obtain ⟨c0, c1⟩ := box_cells hbel3
              go_wp2_with fail
              have hr := (Below.refl w2.heap.size w2).drew
              have hS : ∀ w', Below w2.heap.size w2 w' → w'.cell? ⟨w.heap.size, 0, none⟩ = some (.slice (some ⟨b, off, none⟩) L.length cap) ∧ w'.cell? ⟨w.heap.size, 1, none⟩ = some (.map (some B)) := fun w' hw => box_cells (hbel3.trans (hw.mono (by have := hbel3.size; simp at this; omega)))
              have Hr : Hid (∀ w', Below w2.heap.size w2 w' → StrSl w' (.slice (some ⟨b, off, none⟩) L.length cap) L) := Lib.hid fun w' hw => HL.out.below ((box_below hbel3).trans (hw.mono (box_below hbel3).size))
              cases r with
              | true =>
                have hR : R = false := Hn2.out Hf.out
                subst hR
                go_region_held3 (fun w' => w'.cell? ⟨w.heap.size, 0, none⟩ = some (.slice (some ⟨b, off, none⟩) L.length cap) ∧ w'.cell? ⟨w.heap.size, 1, none⟩ = some (.map (some B)))
                  (first | exact hS _ hr | exact hS _ (by assumption))
                  (first
                    | (go_at_call 43; refine (Hbeg.out _ (Hr.out _ hr)).mono ?_; rintro e w3 ⟨rfl, hb3'⟩; have hb3 := hr.trans hb3'))
                go_wp2_with fail
                go_ret
                exact ⟨rfl, (box_below hbel3).trans (hb3.mono (box_below hbel3).size)⟩
              | false =>
                go_region_held3 (fun w' => w'.cell? ⟨w.heap.size, 0, none⟩ = some (.slice (some ⟨b, off, none⟩) L.length cap) ∧ w'.cell? ⟨w.heap.size, 1, none⟩ = some (.map (some B)))
                  (first | exact hS _ hr | exact hS _ (by assumption))
                  (first
                    | (go_at_call 43; refine (Hbeg.out _ (Hr.out _ hr)).mono ?_; rintro e w3 ⟨rfl, hb3'⟩; have hb3 := hr.trans hb3'))
                have hbel4 := hbel3.trans (hb3.mono (by have := hbel3.size; simp at this; omega))
                go_wp2_with fail
                go_roundw
                case rel =>
                  refine ⟨m + 1, by omega, by omega, by go_num, Lib.hid fun j h hj => ?_, hbel4⟩
                  rcases Nat.lt_succ_iff_lt_or_eq.1 hj with h2 | rfl
                  · exact Hal2.out j h h2
                  · exact Hf.out
                case measure => simp [intOf]; omega
          · obtain rfl : m = l.size := by omega
            have Hf := Lib.hid (faithL_of (L := bls L) (l := bl l) (fun j h1 h2 => Hal2.out j h1 (by rw [← hlen]; exact h2)))
            go_wp2_with fail
            go_roundw
            case rel =>
              refine ⟨k + 1, by omega, by go_num, Lib.hid fun j h hj => ?_, hbel2⟩
              rcases Nat.lt_succ_iff_lt_or_eq.1 hj with h2 | h2
              · exact Hall.out j h h2
              · rw [Hx.out j h2]; exact Hf.out
            case measure => simp [intOf]; omega
      · obtain rfl : k = L.length := by omega
        have hb0 := box_below hbel
        have hR : R = true := by
          rw [HR.out, List.all_eq_true]
          intro x hx
          obtain ⟨s, hs, rfl⟩ := List.mem_map.1 hx
          obtain ⟨j, hj, rfl⟩ := List.mem_iff_getElem.1 hs
          exact Hall.out j hj hj
        subst hR
        clear hcell
        go_wp2_with fail
        go_ret
        exact ⟨rfl, hb0⟩
end Go.Proofs.YtcabhanmeookkaaDoor.Al
