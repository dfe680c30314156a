/- Walks over gazetteerref10: Letters. -/
import Derived.Test.YtcabhanmeookkaaDoorAlpR1
import Derived.Test.YtcabhanmeookkaaDoorAlpL5
import Derived.OwnWalk
namespace Go.Proofs.YtcabhanmeookkaaDoor.Al
set_option linter.unusedVariables false
set_option linter.unusedSimpArgs false
open Go.RowKit

theorem own_below {w w' : World} {B : Nat} {v : Value} {l : List Nat} (h : OwnInt w B v l) (hb : Below w.heap.size w w') : OwnInt w' B v l := by
  refine ⟨h.1, ?_⟩
  rcases h.2 with h1 | ⟨g, cap, cur, hv, hB, hg, r⟩
  · exact .inl h1
  · exact .inr ⟨g, cap, cur, hv, hB, (hb.block g (Array.getElem?_eq_some_iff.1 hg).1).trans hg, r⟩
theorem own_mono {w : World} {B C : Nat} {v : Value} {l : List Nat} (h : OwnInt w B v l) (hc : C ≤ B) : OwnInt w C v l := by
  refine ⟨h.1, ?_⟩
  rcases h.2 with h1 | ⟨g, cap, cur, hv, hB, hg, r⟩
  · exact .inl h1
  · exact .inr ⟨g, cap, cur, hv, Nat.le_trans hc hB, hg, r⟩
theorem own_nil (w : World) (B : Nat) : OwnInt w B (.slice none 0 0) [] := World.ownsRow_nil _ _ _ _

/-- what Letters comes to where the letters end -/
theorem readV_char {L : List Bs} {t : Bs} {a : List Nat} {p : Nat} (h : RdAt L t a p) (ha : a.length ≤ 24) (hp : p < t.length) (hq : at1 L (t.drop p) = none) : readV L t = ([], 3, p) := by
  have h1 := h.stop hq
  unfold readV
  rw [h1]
  simp only
  rw [if_neg (by omega), if_neg (by omega), if_pos (by rw [List.length_drop]; omega), ← h.at_]
theorem readV_many {L : List Bs} {t : Bs} {a : List Nat} {p i : Nat} (h : RdAt L t a p) (ha : a.length = 24) (hp : p < t.length) (hq : at1 L (t.drop p) = some i) : readV L t = ([], 2, p) := by
  have h1 := (h.next hq).pre
  have h3 := h.fst
  unfold readV
  rw [if_neg (by omega), if_pos (by omega), h3, List.take_append_of_le_length (by omega), List.take_of_length_le (by omega), ← h.at_]
theorem readV_done {L : List Bs} {t : Bs} {a : List Nat} (h : RdAt L t a t.length) (ha : a.length ≤ 24) (h0 : t.length ≠ 0) : readV L t = (a, 0, 0) := by
  have h1 := h.stop (by rw [List.drop_length]; exact at1_nil L)
  unfold readV
  rw [h1]
  simp only
  rw [if_neg h0, if_neg (by omega), if_neg (by rw [List.length_drop]; omega)]

set_option maxRecDepth 100000 in
set_option maxHeartbeats 4000000 in
theorem Letters_any (nm : ByteArray) (vl vs : Value) (L : List ByteArray) (S : List Int) (F : Fine (bls L)) (x : ByteArray) (hx : x.size ≤ 100000) (w : World) (hA : Alp nm vl vs L S w) :
    Calls Tryd.prog 28 #[.agg #[.string nm, vl, vs], .string x] w (ReadR (readV (bls L) (bl x)) w) := by
  have hb0 : Below w.heap.size w (w.alloc (.cells #[.string nm, vl, vs] 25)) := (Below.refl _ _).alloc (Nat.le_refl _) _
  have k0 := Blk.new w 25 #[.string nm, vl, vs]
  obtain ⟨al, cl, rfl⟩ := hA.sl.form
  have hz0 : (w.alloc (.cells #[.string nm, .slice al L.length cl, vs] 25)).heap.size = w.heap.size + 1 := by simp
  have HA := Lib.hid hA
  clear hA
  by_cases h0 : x.size = 0
  · have he : x.toList.isEmpty = true := by rw [toList_bl, List.isEmpty_iff_length_eq_zero, bl_len]; exact h0
    have e : readV (bls L) (bl x) = ([], 6, 0) := by unfold readV; rw [if_pos (by rw [bl_len]; exact h0)]
    rw [e]
    go_enter Tryd.func28, Tryd.ntmps28
    go_wp2_with fail
    go_ret3
    refine ⟨.slice none 0 0, ?_, own_nil _ _, hb0⟩
    first | rfl | simp
  · have he : x.toList.isEmpty = false := by rw [Bool.eq_false_iff]; intro h; rw [toList_bl, List.isEmpty_iff_length_eq_zero, bl_len] at h; exact h0 h
    have HR := Lib.hid (show readV (bls L) (bl x) = readV (bls L) (bl x) from rfl)
    generalize hRR : readV (bls L) (bl x) = R at *
    have HRR := Lib.hid hRR
    clear hRR HR
    go_enter Tryd.func28, Tryd.ntmps28
    go_wp2_with fail
    go_loopw [7, 8] (fun v i wr => ∃ (a : List Nat) (p : Nat), Hid (RdAt (bls L) (bl x) a p) ∧ a.length ≤ 24 ∧ p ≤ x.size ∧ i = .int .i64 p ∧ OwnInt wr (w.heap.size + 1) v a ∧ Below (w.heap.size + 1) (w.alloc (.cells #[.string nm, .slice al L.length cl, vs] 25)) wr) (fun _ i _ => x.size - (intOf i).toNat)
    case atStart => exact ⟨[], 0, Lib.hid (RdAt.start _ _), by simp, by omega, rfl, own_nil _ _, by rw [← hz0]; exact Below.refl _ _⟩
    case round =>
      obtain ⟨a, p, HRd, ha24, hp, rfl, own, hbr⟩ := hrel
      have hbw : Below w.heap.size w wr := hb0.trans (hbr.mono (by omega))
      have kr := k0.below hbr (by omega)
      have z0 : wr.cell? ⟨w.heap.size, 0, none⟩ = some (.string nm) := kr.cell 0
      have z1 : wr.cell? ⟨w.heap.size, 1, none⟩ = some (.slice al L.length cl) := kr.cell 1
      have z2 : wr.cell? ⟨w.heap.size, 2, none⟩ = some vs := kr.cell 2
      have hzr := hbr.size
      rw [hz0] at hzr
      obtain ⟨ad, c7, rfl⟩ := row_form own
      by_cases hlt : p < x.size
      · have hAt := fun w' (h : Below w.heap.size w w') => At_any nm (.slice al L.length cl) vs L S F x hx p hp w' (HA.out.below h)
        have q1 : (p : Int) < (x.size : Int) := by omega
        cases hq : at1 (bls L) ((bl x).drop p) with
        | none =>
          rw [hq] at hAt
          dsimp only [atI] at hAt
          have HAt := Lib.hid hAt
          obtain rfl : ([], 3, p) = R := (readV_char HRd.out ha24 (by rw [bl_len]; exact hlt) hq).symm.trans HRR.out
          clear hAt hq
          go_wp2_with fail
          refine (HAt.out _ hbw).mono ?_
          rintro e w1 ⟨rfl, hq1⟩
          go_wp2_with fail
          go_ret3
          refine ⟨.slice none 0 0, ?_, own_nil _ _, hbw.trans (hq1.mono hbw.size)⟩
          first | rfl | simp
        | some i =>
          rw [hq] at hAt
          dsimp only [atI] at hAt
          have HAt := Lib.hid hAt
          have hi : i < L.length := by have := at1_lt hq; rwa [bls_len] at this
          have q2 : ¬ (i : Int) < 0 := by omega
          by_cases h24 : a.length = 24
          · have q3 : ((a.length : Int) == 24) = true := by rw [beq_iff_eq]; omega
            obtain rfl : ([], 2, p) = R := (readV_many HRd.out h24 (by rw [bl_len]; exact hlt) hq).symm.trans HRR.out
            clear hAt hq h24
            go_wp2_with fail
            refine (HAt.out _ hbw).mono ?_
            rintro e w1 ⟨rfl, hq1⟩
            go_wp2_with fail
            go_ret3
            refine ⟨.slice none 0 0, ?_, own_nil _ _, hbw.trans (hq1.mono hbw.size)⟩
            first | rfl | simp
          · have q3 : ((a.length : Int) == 24) = false := by rw [beq_eq_false_iff_ne]; omega
            obtain ⟨b, off, cap, hsl, hbb, hmm, hcell⟩ := HA.out.sl.open (by omega)
            obtain ⟨rfl, rfl⟩ : al = some ⟨b, off, none⟩ ∧ cl = cap := by simpa using hsl
            have hnx := HRd.out.next hq
            have hlen := (F.prop _ (ltA_mem (L := bls L) (i := i) (by rw [bls_len]; exact hi))).1
            rw [bls_get L i hi, bl_len] at hnx hlen
            have hle := hnx.le
            rw [bl_len] at hle
            have Hnx := Lib.hid hnx
            have ci0 := hcell i hi
            clear hAt hq hsl hcell hnx
            generalize L[i] = li at *
            have Hci := Lib.hid ci0
            clear ci0
            have q4 : (i : Int) < (L.length : Int) := by omega
            go_wp2_with fail
            refine (HAt.out _ hbw).mono ?_
            rintro e w1 ⟨rfl, hq1⟩
            have hb1 := hbw.trans (hq1.mono hbw.size)
            have hz1 := hq1.size
            have own1 : w1.ownsRow (w.heap.size + 1) 3 1 (.slice ad a.length c7) a.length (intsV a) := own_below own hq1
            go_wp2_with (at_builtin; refine append_ints _ rfl _ _ rfl (w.heap.size + 1) _ _ _ rfl (own1.alloc _) ⟨w1.heap.size, 0, none⟩ 1 _ [.int .i64 (i : Int)] rfl rfl (cell_one_new _ _ _) ?c2 ?c3 ?c4 ?c5 ?_)
            case c2 => simp [Value.oneCell']
            case c3 => unfold maxLen; omega
            case c4 => omega
            case c5 => simp; omega
            intro v2 w2 own2 grow2 _
            have hr2 : Below (w.heap.size + 1) w1 w2 := ((Below.refl (w.heap.size + 1) w1).alloc (by omega) _).grown grow2 (by simp; omega) (fun j e => (own1.lt j e).1)
            have hbr2 := hbr.trans ((hq1.mono (by omega)).trans hr2)
            have hb2 : Below w.heap.size w w2 := hb0.trans (hbr2.mono (by omega))
            have kr2 := k0.below hbr2 (by omega)
            clear z0 z1 z2
            have z0 : w2.cell? ⟨w.heap.size, 0, none⟩ = some (.string nm) := kr2.cell 0
            have z1 : w2.cell? ⟨w.heap.size, 1, none⟩ = some (.slice (some ⟨b, off, none⟩) L.length cl) := kr2.cell 1
            have z2 : w2.cell? ⟨w.heap.size, 2, none⟩ = some vs := kr2.cell 2
            have ci : w2.cell? ⟨b, off + i, none⟩ = some (.string li) := (hb2.cell (p := ⟨b, off + i, none⟩) hbb).trans Hci.out
            have own3 : OwnInt w2 (w.heap.size + 1) v2 (a ++ [i]) := by
              unfold OwnInt
              rw [List.length_append, intsV_snoc]
              exact own2
            clear own2 own1 own
            go_wp2_with fail
            go_roundw
            case rel => exact ⟨a ++ [i], p + li.size, Hnx, by rw [List.length_append, List.length_singleton]; omega, by omega, by go_num, own3, hbr2⟩
            case measure => simp [intOf]; omega
      · obtain rfl : p = x.size := by omega
        obtain rfl : (a, 0, 0) = R := by
          rw [← HRR.out]
          have h1 := HRd.out
          rw [← bl_len] at h1
          exact (readV_done h1 ha24 (by rw [bl_len]; exact h0)).symm
        go_wp2_with fail
        go_ret3
        exact ⟨_, rfl, own_mono own (by omega), hbw⟩
end Go.Proofs.YtcabhanmeookkaaDoor.Al
