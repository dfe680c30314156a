/- Walks over package alphabet: (script).begins, (script).faithful; the map of letters in the heap. -/
import Derived.Test.YtcabhanmeookkaaDoorAlpW2
import Derived.Maps.OwnSet
import Derived.WalkKit
import Derived.BigQuiet
import Derived.Deep.RegionHeld3
namespace Go.Proofs.YtcabhanmeookkaaDoor.Al
set_option linter.unusedVariables false
set_option linter.unusedSimpArgs false
open Go.RowKit

/-- block b holds the map of the first k letters -/
def IxMap (w : World) (L : List Bs) (b n k : Nat) : Prop := w.ownsMap Tryd.prog 9 (plainElem (H := Unit) Tryd.prog 3) b n (dm Unit L k)
theorem IxMap.lt {w : World} {L : List Bs} {b n k : Nat} (h : IxMap w L b n k) : b < w.heap.size := World.ownsMap.lt h
theorem IxMap.below {w w' : World} {L : List Bs} {b n k N : Nat} (h : IxMap w L b n k) (hb : Below N w w') (hlt : b < N) : IxMap w' L b n k := by
  obtain ⟨es, clock, h1, r⟩ := h
  exact ⟨es, clock, (hb.block b hlt).trans h1, r⟩
theorem IxMap.look {w : World} {L : List Bs} {b n k : Nat} (h : IxMap w L b n k) (s : ByteArray) (hs : s.size ≤ 1000000) :
    ∃ c, (Instr.lookup 42 (.map (some b)) (.string s) true).run Tryd.prog w = .ok (.tuple #[.int .i64 c, .bool (Maps.has (dm Unit L k) (.string (bl s)))]) w ∧ (dm Unit L k).atKey (.string (bl s)) (.lit (.int .i64 0)) = .lit (.int .i64 c) := by
  have hkey := WideMaps.keyOf_string_mk (P := Tryd.prog) Tryd.underlying9 (s := s) (by unfold maxLen; omega)
  obtain ⟨v, ps, hrun, hv⟩ := World.ownsMap.look_ok h (Maps.string_keyed Tryd.underlying9) Tryd.underlying42 (Tryd.zeroValue3 w) (plainElem_int Tryd.underlying3 (by decide)) hkey
  obtain ⟨c, rfl, hc, hwc⟩ := plainElem_int_inv Tryd.underlying3 hv
  simp only [Prod.mk.injEq] at hc
  exact ⟨c, hrun, hc.1⟩
theorem IxMap.yes {w : World} {L : List Bs} {b n : Nat} (h : IxMap w L b n L.length) (hd : L.Nodup) (s : ByteArray) (hs : s.size ≤ 1000000) (hc : L.contains (bl s) = true) :
    (Instr.lookup 42 (.map (some b)) (.string s) true).run Tryd.prog w = .ok (.tuple #[.int .i64 (idxA L (bl s) : Int), .bool true]) w := by
  obtain ⟨c, hrun, hat⟩ := h.look s hs
  rw [dm_found Unit hd hc] at hat
  rw [dm_all, hc] at hrun
  simp only [DataW.lit.injEq, Lit.int.injEq, true_and] at hat
  rw [hrun, hat]
theorem IxMap.no {w : World} {L : List Bs} {b n : Nat} (h : IxMap w L b n L.length) (s : ByteArray) (hs : s.size ≤ 1000000) (hc : L.contains (bl s) = false) :
    (Instr.lookup 42 (.map (some b)) (.string s) true).run Tryd.prog w = .ok (.tuple #[.int .i64 0, .bool false]) w := by
  obtain ⟨c, hrun, hat⟩ := h.look s hs
  rw [Maps.atKey_of_not_has (by rw [dm_all]; exact hc)] at hat
  rw [dm_all, hc] at hrun
  simp only [DataW.lit.injEq, Lit.int.injEq, true_and] at hat
  rw [hrun, ← hat]

/-! ### begins -/

theorem pre_size {a b : ByteArray} (h : Lib.hasPrefix a.data.toList b.data.toList = true) : b.size ≤ a.size ∧ bl ⟨(Lib.trimPrefix a.data.toList b.data.toList).toArray⟩ = (bl a).drop (bl b).length := by
  refine ⟨by rw [Lib.size_eq, Lib.size_eq]; exact (List.isPrefixOf_iff_prefix.1 h).length_le, ?_⟩
  rw [bl_mk]; unfold Lib.trimPrefix; rw [if_pos h]; rfl
theorem trim_size (a b : ByteArray) : (ByteArray.mk (Lib.trimPrefix a.data.toList b.data.toList).toArray).size = (Lib.trimPrefix a.data.toList b.data.toList).length := by
  rw [Lib.size_eq]
def begAt (L : List Bs) (n : Nat) (t l : Bs) : Bool := t.isPrefixOf l || (l.isPrefixOf t && begN L n (t.drop l.length))
theorem begN_succ (L : List Bs) (n : Nat) (t : Bs) : begN L (n + 1) t = L.any (begAt L n t) := rfl

theorem box_cells {w w' : World} {x y : Value} {t : TypeId} (h : Below (w.heap.size + 1) (w.alloc (.cells #[x, y] t)) w') : w'.cell? ⟨w.heap.size, 0, none⟩ = some x ∧ w'.cell? ⟨w.heap.size, 1, none⟩ = some y := by
  have h0 : (w.alloc (.cells #[x, y] t)).heap[w.heap.size]? = some (.cells #[x, y] t) := heap_alloc_new w _
  exact ⟨(h.cell (p := ⟨w.heap.size, 0, none⟩) (Nat.lt_succ_self _)).trans (by rw [cell_of_row _ _ _ _ _ _ h0]; rfl), (h.cell (p := ⟨w.heap.size, 1, none⟩) (Nat.lt_succ_self _)).trans (by rw [cell_of_row _ _ _ _ _ _ h0]; rfl)⟩
theorem box_below {w w' : World} {x y : Value} {t : TypeId} (h : Below (w.heap.size + 1) (w.alloc (.cells #[x, y] t)) w') : Below w.heap.size w w' :=
  ((Below.refl _ _).alloc (Nat.le_refl _) _).trans (h.mono (Nat.le_succ _))

set_option maxRecDepth 100000 in
set_option maxHeartbeats 2000000 in
theorem begins_any (L : List ByteArray) (hp : ∀ l ∈ L, 1 ≤ l.size ∧ l.size ≤ 1000) (mp v : Value) : ∀ (n : Nat) (t : ByteArray), t.size < n → t.size ≤ 100000 → ∀ w : World, StrSl w v L →
    Calls Tryd.prog 43 #[.agg #[v, mp], .string t] w fun e w' => e = .returned (.bool (begN (bls L) n (bl t))) ∧ Below w.heap.size w w'
  | 0, t, h, _, w, _ => by omega
  | n + 1, t, ht, hts, w, hL => by
    have IH : Hid (∀ (t : ByteArray), t.size < n → t.size ≤ 100000 → ∀ w : World, StrSl w v L → Calls Tryd.prog 43 #[.agg #[v, mp], .string t] w fun e w' => e = .returned (.bool (begN (bls L) n (bl t))) ∧ Below w.heap.size w w') := Lib.hid (begins_any L hp mp v n)
    have HR := Lib.hid (begN_succ (bls L) n (bl t))
    generalize begN (bls L) (n + 1) (bl t) = R at *
    by_cases h0 : L.length = 0
    · obtain rfl := List.length_eq_zero_iff.1 h0
      obtain ⟨a, cap, rfl⟩ := hL.form
      go_enter Tryd.func43, Tryd.ntmps43
      go_wp2_with fail
      refine wp_loop_rounds 1 ?_
      rw [rounds_succ]
      go_wp2_with fail
      go_ret
      rw [HR.out]
      exact ⟨rfl, (Below.refl _ _).alloc (Nat.le_refl _) _⟩
    · have HL := Lib.hid hL
      obtain ⟨b, off, cap, rfl, hb, hm, hcell⟩ := hL.open h0
      unfold maxLen at hm
      clear hL
      go_enter Tryd.func43, Tryd.ntmps43
      go_wp2_with fail
      go_loopw [12] (fun i wr => ∃ k : Nat, k ≤ L.length ∧ i = .int .i64 k ∧ Hid (∀ j (h : j < L.length), j < k → begAt (bls L) n (bl t) (bl L[j]) = false) ∧ Below (w.heap.size + 1) (w.alloc (.cells #[.slice (some ⟨b, off, none⟩) L.length cap, mp] 44)) wr) (fun i _ => L.length - (intOf i).toNat)
      case atStart => exact ⟨0, by omega, rfl, Lib.hid (fun j _ h => by omega), Below.refl _ _⟩
      case round =>
        obtain ⟨k, hk, rfl, Hno, hbel⟩ := hrel
        by_cases hlt : k < L.length
        · obtain ⟨c0, c1⟩ := box_cells hbel
          have hb0 := box_below hbel
          have hck : wr.cell? ⟨b, off + k, none⟩ = some (.string L[k]) := (hb0.cell (p := ⟨b, off + k, none⟩) hb).trans (hcell k hlt)
          have hmem : L[k] ∈ L := List.getElem_mem hlt
          have hsz := hp _ hmem
          have Hcell := Lib.hid hcell
          have HB := Lib.hid (show begAt (bls L) n (bl t) (bl L[k]) = (Lib.hasPrefix L[k].data.toList t.data.toList || (Lib.hasPrefix t.data.toList L[k].data.toList && begN (bls L) n ((bl t).drop (bl L[k]).length))) from rfl)
          have HT : Lib.hasPrefix t.data.toList L[k].data.toList = true → Hid (L[k].size ≤ t.size ∧ bl ⟨(Lib.trimPrefix t.data.toList L[k].data.toList).toArray⟩ = (bl t).drop (bl L[k]).length) := fun h => Lib.hid (pre_size h)
          have hcut := Tryd.strings_CutPrefix t L[k] wr
          have hhas := Tryd.strings_HasPrefix L[k] t wr
          have hyes : begAt (bls L) n (bl t) (bl L[k]) = true → R = true := fun h => by
            rw [HR.out, List.any_eq_true]
            exact ⟨bl L[k], List.mem_map.2 ⟨_, hmem, rfl⟩, h⟩
          have Hyes := Lib.hid hyes
          clear hcell hyes
          cases h1 : Lib.hasPrefix L[k].data.toList t.data.toList with
          | true =>
            have hR : R = true := Hyes.out (by rw [HB.out, h1]; rfl)
            rw [h1] at hhas
            subst hR
            clear h1 HB Hyes HT
            go_wp2_with fail
            refine hcut.mono ?_
            rintro e w1 ⟨rfl, hw⟩
            obtain rfl := hw.symm
            go_wp2_with fail
            refine hhas.mono ?_
            rintro e w1 ⟨rfl, hw⟩
            obtain rfl := hw.symm
            go_wp2_with fail
            go_ret
            exact ⟨rfl, hb0⟩
          | false =>
            rw [h1] at hhas
            cases h2 : Lib.hasPrefix t.data.toList L[k].data.toList with
            | false =>
              have Hf := Lib.hid (show begAt (bls L) n (bl t) (bl L[k]) = false by rw [HB.out, h1, h2]; rfl)
              rw [h2] at hcut
              clear h1 h2 HB Hyes HT
              go_wp2_with fail
              refine hcut.mono ?_
              rintro e w1 ⟨rfl, hw⟩
              obtain rfl := hw.symm
              go_wp2_with fail
              refine hhas.mono ?_
              rintro e w1 ⟨rfl, hw⟩
              obtain rfl := hw.symm
              go_wp2_with fail
              go_roundw
              case rel =>
                refine ⟨k + 1, by omega, by go_num, Lib.hid fun j h hj => ?_, hbel⟩
                rcases Nat.lt_succ_iff_lt_or_eq.1 hj with h2 | rfl
                · exact Hno.out j h h2
                · exact Hf.out
              case measure => simp [intOf]; omega
            | true =>
              obtain ⟨hle, Ht⟩ := (HT h2).out
              have hts2 : (ByteArray.mk (Lib.trimPrefix t.data.toList L[k].data.toList).toArray).size = t.size - L[k].size := by
                rw [← bl_len, Ht, List.length_drop, bl_len, bl_len]
              have Ht' := Lib.hid Ht
              rw [h2] at hcut
              have hrec := IH.out ⟨(Lib.trimPrefix t.data.toList L[k].data.toList).toArray⟩ (by omega) (by omega) wr (HL.out.below hb0)
              rw [Ht] at hrec
              have HB2 := Lib.hid (show begAt (bls L) n (bl t) (bl L[k]) = begN (bls L) n ((bl t).drop (bl L[k]).length) by rw [HB.out, h1, h2]; rfl)
              clear Ht HT HB h1 h2 hts2
              generalize Lib.trimPrefix t.data.toList L[k].data.toList = T at *
              generalize begN (bls L) n ((bl t).drop (bl L[k]).length) = r at *
              cases r with
              | true =>
                have hR : R = true := Hyes.out HB2.out
                subst hR
                clear HB2 Hyes
                go_wp2_with fail
                refine hcut.mono ?_
                rintro e w1 ⟨rfl, hw⟩
                obtain rfl := hw.symm
                go_wp2_with fail
                refine hhas.mono ?_
                rintro e w1 ⟨rfl, hw⟩
                obtain rfl := hw.symm
                go_wp2_with fail
                refine hrec.mono ?_
                rintro e w2 ⟨rfl, hb2⟩
                go_wp2_with fail
                go_ret
                exact ⟨rfl, hb0.trans (hb2.mono hb0.size)⟩
              | false =>
                have Hf := Lib.hid HB2.out
                clear HB2 Hyes
                go_wp2_with fail
                refine hcut.mono ?_
                rintro e w1 ⟨rfl, hw⟩
                obtain rfl := hw.symm
                go_wp2_with fail
                refine hhas.mono ?_
                rintro e w1 ⟨rfl, hw⟩
                obtain rfl := hw.symm
                go_wp2_with fail
                refine hrec.mono ?_
                rintro e w2 ⟨rfl, hb2⟩
                have hbel2 := hbel.trans (hb2.mono (by have := hbel.size; simp at this; omega))
                go_wp2_with fail
                go_roundw
                case rel =>
                  refine ⟨k + 1, by omega, by go_num, Lib.hid fun j h hj => ?_, hbel2⟩
                  rcases Nat.lt_succ_iff_lt_or_eq.1 hj with h2 | rfl
                  · exact Hno.out j h h2
                  · exact Hf.out
                case measure => simp [intOf]; omega
        · obtain rfl : k = L.length := by omega
          have hb0 := box_below hbel
          have hR : R = false := by
            rw [HR.out, List.any_eq_false]
            intro x hx
            obtain ⟨s, hs, rfl⟩ := List.mem_map.1 hx
            obtain ⟨j, hj, rfl⟩ := List.mem_iff_getElem.1 hs
            rw [Hno.out j hj hj]; simp
          subst hR
          clear hcell
          go_wp2_with fail
          go_ret
          exact ⟨rfl, hb0⟩
end Go.Proofs.YtcabhanmeookkaaDoor.Al
