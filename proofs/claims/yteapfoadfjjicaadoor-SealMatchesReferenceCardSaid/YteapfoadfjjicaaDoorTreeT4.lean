/- Walks over package gazetteerref02: Shown. -/
import Derived.Test.YteapfoadfjjicaaDoorTreeT3
import Derived.BigQuiet
import Derived.Deep.QuietTactic
namespace Go.Proofs.YteapfoadfjjicaaDoor.Dig
set_option linter.unusedVariables false
set_option linter.unusedSimpArgs false
open Go.RowKit

/-- the elements a and b are different strings with one digest -/
def bad (l : List ByteArray) (a b : Nat) : Prop := l.getD a ByteArray.empty ≠ l.getD b ByteArray.empty ∧ sumT (l.getD a ByteArray.empty) = sumT (l.getD b ByteArray.empty)
theorem coll_bad (l : List ByteArray) (h : Coll l) : ∃ a b, b < a ∧ a < l.length ∧ bad l a b := by
  obtain ⟨x, hx, y, hy, hne, he⟩ := h
  obtain ⟨a, ha, rfl⟩ := List.mem_iff_getElem.1 hx
  obtain ⟨b, hb, rfl⟩ := List.mem_iff_getElem.1 hy
  have ea : l.getD a ByteArray.empty = l[a] := by simp [ha]
  have eb : l.getD b ByteArray.empty = l[b] := by simp [hb]
  rcases Nat.lt_trichotomy a b with h | h | h
  · exact ⟨b, a, h, hb, by unfold bad; rw [ea, eb]; exact ⟨fun e => hne e.symm, he.symm⟩⟩
  · subst h; exact absurd rfl hne
  · exact ⟨a, b, h, ha, by unfold bad; rw [ea, eb]; exact ⟨hne, he⟩⟩
theorem coll_pos (l : List ByteArray) (h : Coll l) : 0 < l.length := by
  obtain ⟨a, b, h1, h2, _⟩ := coll_bad l h
  omega
theorem sums_take_succ (l : List ByteArray) (k : Nat) (h : k < l.length) : (l.take (k + 1)).map sumT = (l.take k).map sumT ++ [sumT l[k]] := by
  rw [List.take_succ_eq_append_getElem h, List.map_append]
  rfl
theorem getD_at (l : List ByteArray) (k : Nat) (h : k < l.length) : l.getD k ByteArray.empty = l[k] := by simp [h]
theorem str_same {a b : ByteArray} (h : (a.toList == b.toList) = true) : a = b := by
  simp only [beq_iff_eq] at h
  rw [ByteArray.toList_eq, ByteArray.toList_eq] at h
  exact bl_inj h
theorem str_diff {a b : ByteArray} (h : (a.toList == b.toList) = false) : ¬ a = b := by
  intro e
  rw [str_eq e] at h
  cases h

set_option maxRecDepth 100000 in
set_option maxHeartbeats 2000000 in
theorem shown_some (l : List ByteArray) (b off cap : Nat) (hcoll : Coll l) (hsh : short l) (hmax : l.length ≤ 100000) (w : World) (h0 : 0 < l.length) (hbb : b < w.heap.size) (hm : l.length ≤ maxLen)
    (hc : ∀ i (h : i < l.length), w.cell? ⟨b, off + i, none⟩ = some (.string l[i])) :
    Calls Tryd.prog 34 #[.slice (some ⟨b, off, none⟩) l.length cap] w fun e w' => e = .returned (.bool true) ∧ Below w.heap.size w w' := by
  unfold maxLen at hm
  have Hc := Lib.hid hc
  have Hsh := Lib.hid hsh
  have Hcoll := Lib.hid hcoll
  clear hc hsh hcoll
  go_enter Tryd.func34, Tryd.ntmps34
  go_wp2_with fail
  go_loopw [3, 4] (fun v i wr => ∃ k : Nat, k ≤ l.length ∧ i = .int .i64 (k : Int) ∧ OwnStr wr w.heap.size v ((l.take k).map sumT) ∧ Below w.heap.size w wr) (fun _ i _ => l.length - (intOf i).toNat)
  case atStart => exact ⟨0, by omega, rfl, OwnStr.nil _ _, Below.refl _ _⟩
  case round =>
    obtain ⟨k, hk, rfl, own, hb⟩ := hrel
    by_cases hlt : k < l.length
    · have hck : wr.cell? ⟨b, off + k, none⟩ = some (.string l[k]) := (hb.cell (p := ⟨b, off + k, none⟩) hbb).trans (Hc.out k hlt)
      have hsz := Hsh.out l[k] (List.getElem_mem hlt)
      have Hs := Lib.hid (sums_take_succ l k hlt)
      have hl : ((l.take k).map sumT).length = k := by rw [List.length_map, List.length_take]; omega
      have Hl := Lib.hid hl
      clear hl
      go_wp2_with fail
      refine (rsum_any l[k] (by omega) _).mono ?_
      rintro e w1 ⟨rfl, rfl⟩
      go_wp2_with (at_builtin; refine list_append_str _ rfl _ _ rfl w.heap.size _ (.slice (some ⟨wr.heap.size, 0, none⟩) 1 1) ((l.take k).map sumT) [sumT l[k]] rfl rfl (own.ofAlloc _) (sl1' _ wr) (by rw [Hl.out]; simp; omega) (by have := hb.size; simp; omega) ?_; intro v2 w2 own2 grow2 at2)
      have hb2 := below_grow' (own.ofAlloc _) (hb.alloc hb.size _) grow2
      go_wp2_with fail
      go_roundw
      case rel => exact ⟨k + 1, by omega, by go_num, by rw [Hs.out]; exact own2, hb2⟩
      case measure => simp [intOf]; omega
    · obtain rfl : k = l.length := by omega
      rw [List.take_length] at own
      obtain ⟨wo, rfl⟩ : ∃ wo : World, wo = wr := ⟨_, rfl⟩
      obtain ⟨g, cp, rfl, _, hg⟩ : ∃ g cp, u3 = .slice (some ⟨g, 0, none⟩) l.length cp ∧ w.heap.size ≤ g ∧ g < wo.heap.size := by
        have h := World.ownsRow.form own (by rw [List.length_map]; exact h0)
        rw [List.length_map] at h
        exact h
      have Hs : Hid (∀ i (h : i < l.length), wo.cell? ⟨g, i, none⟩ = some (.string (sumT l[i]))) := Lib.hid fun i hi => by
        have own' := own
        unfold OwnStr at own'
        rw [List.length_map] at own'
        rw [World.ownsRow.cellAt own' i (by omega)]
        simp [hi]
      clear own
      have hbw := Below.refl wo.heap.size wo
      go_wp2_with fail
      go_loopw [5] (fun i wx => ∃ a : Nat, a ≤ l.length ∧ i = .int .i64 (a : Int) ∧ Hid (∀ x y, y < x → x < a → ¬ bad l x y) ∧ Below wo.heap.size wo wx) (fun i _ => l.length - (intOf i).toNat)
      case atStart => exact ⟨0, by omega, rfl, Lib.hid (fun x y _ h => by omega), hbw⟩
      case round =>
        obtain ⟨wx, rfl⟩ : ∃ wx : World, wx = wr := ⟨_, rfl⟩
        obtain ⟨a, ha, rfl, Hno, hbx⟩ := hrel
        by_cases hlt2 : a < l.length
        · go_wp2_with fail
          go_loopw [6] (fun i wy => ∃ c : Nat, c ≤ a ∧ i = .int .i64 (c : Int) ∧ Hid (∀ y, y < c → ¬ bad l a y) ∧ Below wo.heap.size wo wy) (fun i _ => a - (intOf i).toNat)
          case atStart => exact ⟨0, by omega, rfl, Lib.hid (fun y h => by omega), hbx⟩
          case round =>
            obtain ⟨wy, rfl⟩ : ∃ wy : World, wy = wr := ⟨_, rfl⟩
            obtain ⟨c, hca, rfl, Hno2, hby⟩ := hrel
            by_cases hlt3 : c < a
            · have hcl : c < l.length := by omega
              have hb0 := hb.trans (hby.mono hb.size)
              have d1 : wy.cell? ⟨g, a, none⟩ = some (.string (sumT l[a])) := (hby.cell (p := ⟨g, a, none⟩) hg).trans (Hs.out a hlt2)
              have d2 : wy.cell? ⟨g, c, none⟩ = some (.string (sumT l[c])) := (hby.cell (p := ⟨g, c, none⟩) hg).trans (Hs.out c hcl)
              have d3 : wy.cell? ⟨b, off + a, none⟩ = some (.string l[a]) := (hb0.cell (p := ⟨b, off + a, none⟩) hbb).trans (Hc.out a hlt2)
              have d4 : wy.cell? ⟨b, off + c, none⟩ = some (.string l[c]) := (hb0.cell (p := ⟨b, off + c, none⟩) hbb).trans (Hc.out c hcl)
              have Ga := Lib.hid (getD_at l a hlt2)
              have Gc := Lib.hid (getD_at l c hcl)
              generalize l[a] = xa at *
              generalize l[c] = xc at *
              generalize hsa : sumT xa = sa at *
              generalize hsc : sumT xc = sc at *
              have Hsa := Lib.hid hsa
              have Hsc := Lib.hid hsc
              clear hsa hsc
              have k0 : (0 : Int) ≤ (a : Int) := by omega
              have k1 : (a : Int) < (l.length : Int) := by omega
              have k2 : (0 : Int) ≤ (c : Int) := by omega
              have k3 : (c : Int) < (l.length : Int) := by omega
              cases hq : (sa.toList == sc.toList) with
              | false =>
                have Hnb := Lib.hid (show ¬ bad l a c by
                  unfold bad
                  rw [Ga.out, Gc.out, Hsa.out, Hsc.out]
                  exact fun h => str_diff hq h.2)
                go_wp2_with fail
                go_quiet (fail)
                have hbz := hby.trans (show Below wo.heap.size wy (wy.drewN nq) from ⟨rfl, rfl, rfl, Nat.le_refl _, fun _ _ => rfl⟩)
                go_wp2_with fail
                go_roundw
                case rel => exact ⟨c + 1, by omega, by go_num, Lib.hid (fun y hy => by
                  by_cases e : y = c
                  · rw [e]; exact Hnb.out
                  · exact Hno2.out y (by omega)), hbz⟩
                case measure => simp [intOf]; omega
              | true =>
                cases hq2 : (xa.toList == xc.toList) with
                | true =>
                  have Hnb := Lib.hid (show ¬ bad l a c by
                    unfold bad
                    rw [Ga.out, Gc.out]
                    exact fun h => h.1 (str_same hq2))
                  go_wp2_with fail
                  go_quiet (fail)
                  have hbz := hby.trans (show Below wo.heap.size wy (wy.drewN nq) from ⟨rfl, rfl, rfl, Nat.le_refl _, fun _ _ => rfl⟩)
                  go_wp2_with fail
                  go_roundw
                  case rel => exact ⟨c + 1, by omega, by go_num, Lib.hid (fun y hy => by
                    by_cases e : y = c
                    · rw [e]; exact Hnb.out
                    · exact Hno2.out y (by omega)), hbz⟩
                  case measure => simp [intOf]; omega
                | false =>
                  go_wp2_with fail
                  go_quiet (fail)
                  have hbz := hb0.trans (show Below w.heap.size wy (wy.drewN nq) from ⟨rfl, rfl, rfl, Nat.le_refl _, fun _ _ => rfl⟩)
                  go_wp2_with fail
                  go_ret
                  exact ⟨rfl, hbz⟩
            · obtain rfl : c = a := by omega
              go_wp2_with fail
              go_roundw
              case rel => exact ⟨c + 1, by omega, by go_num, Lib.hid (fun x y h1 h2 => by
                by_cases e : x = c
                · rw [e]; exact Hno2.out y (by omega)
                · exact Hno.out x y h1 (by omega)), hby⟩
              case measure => simp [intOf]; omega
        · exfalso
          obtain ⟨x, y, h1, h2, h3⟩ := coll_bad l Hcoll.out
          exact Hno.out x y h1 (by omega) h3

theorem shown_any (v : Value) (l : List ByteArray) (hcoll : Coll l) (hsh : short l) (hmax : l.length ≤ 100000) (w : World) (hl : StrSl w v l) :
    Calls Tryd.prog 34 #[v] w fun e w' => e = .returned (.bool true) ∧ Below w.heap.size w w' := by
  have hp := coll_pos l hcoll
  rcases hl with ⟨rfl, a, cap, rfl⟩ | ⟨b, off, cap, rfl, h0, hbb, hm, hc⟩
  · simp at hp
  · exact shown_some l b off cap hcoll hsh hmax w h0 hbb (capLen hm) hc

end Go.Proofs.YteapfoadfjjicaaDoor.Dig
