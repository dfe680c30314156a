/- Walks over package alphabet: Valid, joined, Join. -/
import Derived.Test.YtcabhanmeookkaaDoorAlpW5
namespace Go.Proofs.YtcabhanmeookkaaDoor.Al
set_option linter.unusedVariables false
set_option linter.unusedSimpArgs false
open Go.RowKit

/-- an alphabet's value -/
def alV (nm : ByteArray) (vl vs : Value) : Value := .agg #[.string nm, vl, vs]
/-- what lies in the heap of an alphabet, and how large it is -/
structure Alp (nm : ByteArray) (vl vs : Value) (L : List ByteArray) (S : List Int) (w : World) : Prop where
  nm : nm.size ≤ 5000
  len : L.length ≤ 1000
  lz : ∀ l ∈ L, l.size ≤ 1000
  sl : StrSl w vl L
  ss : IntSl w vs S
theorem Alp.below {nm : ByteArray} {vl vs : Value} {L : List ByteArray} {S : List Int} {w w' : World} (h : Alp nm vl vs L S w) (hb : Below w.heap.size w w') : Alp nm vl vs L S w' := ⟨h.nm, h.len, h.lz, h.sl.below hb, h.ss.below hb⟩
theorem Alp.scriptOf {nm : ByteArray} {vl vs : Value} {L : List ByteArray} {S : List Int} {w : World} (h : Alp nm vl vs L S w) :
    Calls Tryd.prog 26 #[.agg #[.string nm, vl, vs]] w (Scr (validA (bl nm) (bls L) S) (bls L) vl w) := scriptOf_any nm vl vs L S h.nm h.len h.lz w h.sl h.ss

set_option maxHeartbeats 1000000 in
theorem Valid_any (nm : ByteArray) (vl vs : Value) (L : List ByteArray) (S : List Int) (w : World) (hA : Alp nm vl vs L S w) :
    Calls Tryd.prog 19 #[.agg #[.string nm, vl, vs]] w fun e w' => e = .returned (.bool (validA (bl nm) (bls L) S)) ∧ Below w.heap.size w w' := by
  have hb0 : Below w.heap.size w (w.alloc (.cells #[.string nm, vl, vs] 25)) := (Below.refl _ _).alloc (Nat.le_refl _) _
  have hc := (hA.below hb0).scriptOf
  generalize validA (bl nm) (bls L) S = V at *
  go_enter Tryd.func19, Tryd.ntmps19
  go_wp2_with fail
  refine hc.mono ?_
  rintro e w1 ⟨xa, xm, xc, xr, rfl, hb1, -⟩
  have hb := hb0.trans (hb1.mono (by simp))
  go_wp2_with fail
  go_ret
  exact ⟨rfl, hb.alloc hb.size _⟩

theorem joinL_bound {L : List Bs} (m : Nat) (hm : ∀ l ∈ L, l.length ≤ m) : ∀ a : List Nat, (∀ i ∈ a, i < L.length) → (joinL L a).length ≤ a.length * m
  | [], _ => by simp [joinL]
  | i :: a, h => by
    have h1 := hm _ (ltA_mem (h i List.mem_cons_self))
    have h2 := joinL_bound m hm a (fun j hj => h j (List.mem_cons_of_mem _ hj))
    simp only [joinL, List.length_append, List.length_cons, Nat.add_mul]
    omega
theorem joinL_snoc (L : List Bs) (x : List Int) (k : Nat) (h : k < x.length) (m : Nat) (hm : x[k] = (m : Int)) : joinL L ((x.take (k + 1)).map Int.toNat) = joinL L ((x.take k).map Int.toNat) ++ ltA L m := by
  rw [List.take_succ_eq_append_getElem h, List.map_append, joinL_append, List.map_cons, List.map_nil, hm, Int.toNat_natCast]
  show _ ++ (ltA L m ++ []) = _
  rw [List.append_nil]

set_option maxRecDepth 100000 in
set_option maxHeartbeats 2000000 in
theorem joined_any (nm : ByteArray) (vl vs vx : Value) (L : List ByteArray) (S x : List Int) (w : World) (hA : Alp nm vl vs L S w) (hX : IntSl w vx x) (hx : ∀ i ∈ x, 0 ≤ i ∧ i < (L.length : Int)) (hxl : x.length ≤ 1000) :
    Calls Tryd.prog 29 #[.agg #[.string nm, vl, vs], vx] w fun e w' => e = .returned (.string ⟨(joinL (bls L) (x.map Int.toNat)).toArray⟩) ∧ Below w.heap.size w w' := by
  have hlz : ∀ l ∈ bls L, l.length ≤ 1000 := fun l hl => by obtain ⟨s, hs, rfl⟩ := List.mem_map.1 hl; rw [bl_len]; exact hA.lz s hs
  have Hlen := Lib.hid (fun k => joinL_bound 1000 hlz ((x.take k).map Int.toNat) (fun i hi => by
    obtain ⟨z, hz, rfl⟩ := List.mem_map.1 hi
    have := hx z (List.mem_of_mem_take hz)
    rw [bls_len]; omega))
  have Hsn := Lib.hid (fun k h m hm => joinL_snoc (bls L) x k h m hm)
  have Hall := Lib.hid (show joinL (bls L) ((x.take x.length).map Int.toNat) = joinL (bls L) (x.map Int.toNat) by rw [List.take_length])
  generalize joinL (bls L) (x.map Int.toNat) = R at *
  by_cases h0 : x.length = 0
  · obtain rfl := List.length_eq_zero_iff.1 h0
    obtain ⟨a, cap, rfl⟩ := hX.form
    have hR : R = [] := Hall.out.symm
    subst hR
    go_enter Tryd.func29, Tryd.ntmps29
    go_wp2_with fail
    refine wp_loop_rounds 1 ?_
    rw [rounds_succ]
    go_wp2_with fail
    refine (Tryd.Builder_String_any (w.heap.size + 1) (w.heap.size + 1) [] _ ?_ ?_).mono ?_
    · have := Lib.fresh_isBuilder 59 5 (w.alloc (.cells #[.string nm, vl, vs] 25))
      rw [World.size_alloc] at this
      exact this
    · simp
    rintro e w1 ⟨rfl, hb1⟩
    go_wp2
    go_ret
    exact ⟨rfl, (((Below.refl _ _).alloc (Nat.le_refl _) _).alloc (by simp) _).trans (hb1.mono (Nat.le_succ _))⟩
  · obtain ⟨b, off, cap, rfl, hb, hm, hcell⟩ := hX.open h0
    unfold maxLen at hm
    have hB0 : Below w.heap.size w (w.alloc (.cells #[.string nm, vl, vs] 25)) := (Below.refl _ _).alloc (Nat.le_refl _) _
    have k0 : Blk (w.alloc (.cells #[.string nm, vl, vs] 25)) w.heap.size 25 #[.string nm, vl, vs] := Blk.new w _ _
    have hfr := Lib.fresh_isBuilder 59 5 (w.alloc (.cells #[.string nm, vl, vs] 25))
    rw [World.size_alloc] at hfr
    have Hfr := Lib.hid hfr
    have HA := Lib.hid hA
    have Hcell := Lib.hid hcell
    have Hx := Lib.hid hx
    clear hfr hA hcell hX hlz hx
    go_enter Tryd.func29, Tryd.ntmps29
    go_wp2_with fail
    go_loopw [10] (fun i wr => ∃ k : Nat, k ≤ x.length ∧ i = .int .i64 k ∧ Lib.IsBuilder 59 5 (w.heap.size + 1) (w.heap.size + 1) (Lib.byteCells (joinL (bls L) ((x.take k).map Int.toNat))) wr ∧ Below (w.heap.size + 1) (w.alloc (.cells #[.string nm, vl, vs] 25)) wr) (fun i _ => x.length - (intOf i).toNat)
    case atStart => exact ⟨0, by omega, rfl, Hfr.out, (Below.refl _ _).alloc (by simp) _⟩
    case round =>
      obtain ⟨k, hk, rfl, hbld, hbel⟩ := hrel
      have hbw := hB0.trans (hbel.mono (Nat.le_succ _))
      by_cases hlt : k < x.length
      · have hck : wr.cell? ⟨b, off + k, none⟩ = some (.int .i64 x[k]) := (hbw.cell (p := ⟨b, off + k, none⟩) hb).trans (Hcell.out k hlt)
        obtain ⟨g1, g2⟩ := Hx.out _ (List.getElem_mem hlt)
        obtain ⟨m, hm2⟩ := Int.eq_ofNat_of_zero_le g1
        have hml : m < L.length := by omega
        have Hm := Lib.hid hm2
        rw [hm2] at hck
        have a1 : wr.cell? ⟨w.heap.size, 1, none⟩ = some vl := (k0.below hbel (Nat.lt_succ_self _)).cell 1
        obtain ⟨lb, lo, lc, rfl, hlb, hlm, hlc⟩ := HA.out.sl.open (by omega)
        unfold maxLen at hlm
        have hcl : wr.cell? ⟨lb, lo + m, none⟩ = some (.string L[m]) := (hbw.cell (p := ⟨lb, lo + m, none⟩) hlb).trans (hlc m hml)
        have hsz := HA.out.lz _ (List.getElem_mem hml)
        have hlen := HA.out.len
        have Hs := Lib.hid (show joinL (bls L) ((x.take (k + 1)).map Int.toNat) = joinL (bls L) ((x.take k).map Int.toNat) ++ L[m].data.toList by rw [Hsn.out k hlt m hm2, bls_get L m hml]; rfl)
        have hl := Hlen.out k
        have hl2 : ((x.take k).map Int.toNat).length ≤ 1000 := by rw [List.length_map, List.length_take]; omega
        have hl3 : (Lib.byteCells (joinL (bls L) ((x.take k).map Int.toNat))).length + L[m].size ≤ 140737488355328 := by rw [Lib.byteCells_length]; omega
        clear hm2 g1 g2 hlc hl hl2
        go_wp2_with fail
        refine (Bld.writeString (w.heap.size + 1) (w.heap.size + 1) _ _ _ hbld hl3 (by simpa using hbel.size)).mono ?_
        rintro e w2 ⟨rfl, hbld2, hb2⟩
        have hbld3 : Lib.IsBuilder 59 5 (w.heap.size + 1) (w.heap.size + 1) (Lib.byteCells (joinL (bls L) ((x.take (k + 1)).map Int.toNat))) w2 := by
          rw [Hs.out, show Lib.byteCells (joinL (bls L) ((x.take k).map Int.toNat) ++ L[m].data.toList) = Lib.byteCells (joinL (bls L) ((x.take k).map Int.toNat)) ++ Lib.byteCells L[m].data.toList by simp [Lib.byteCells]]
          exact hbld2
        have hbel2 := hbel.trans hb2
        clear hbld hbld2 hb2 hl3
        go_wp2
        go_roundw
        case rel => exact ⟨k + 1, by omega, by go_num, hbld3, hbel2⟩
        case measure => simp [intOf]; omega
      · obtain rfl : k = x.length := by omega
        rw [Hall.out] at hbld
        go_wp2_with fail
        refine (Tryd.Builder_String_any (w.heap.size + 1) (w.heap.size + 1) _ _ hbld (by simpa using hbel.size)).mono ?_
        rintro e w1 ⟨rfl, hb1⟩
        go_wp2
        go_ret
        exact ⟨rfl, hB0.trans ((hbel.trans hb1).mono (Nat.le_succ _))⟩
end Go.Proofs.YtcabhanmeookkaaDoor.Al
