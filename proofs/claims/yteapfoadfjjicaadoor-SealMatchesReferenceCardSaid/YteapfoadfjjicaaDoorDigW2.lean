/- Walks over package digest: block. -/
import Derived.Test.YteapfoadfjjicaaDoorDigW1
import Derived.RegionTactic
import Derived.ChangeAlike
import Derived.BigRegion
import Derived.Lib.BufferWrite
import Derived.Laws.CopyOwn
namespace Go.Proofs.YteapfoadfjjicaaDoor.Dig
set_option linter.unusedVariables false
set_option linter.unusedSimpArgs false
open Go.RowKit

/-- the bytes of block k: with bytes 0 behind the text -/
def blkBytes (l : List UInt8) (k : Nat) : List UInt8 := (List.range 8).map fun j => l.getD (8 * k + j) 0
theorem blkBytes_length (l : List UInt8) (k : Nat) : (blkBytes l k).length = 8 := by simp [blkBytes]
theorem blkBytes_num (l : List UInt8) (k : Nat) : numTo (blkBytes l k) 0 8 = blk l k :=
  numTo_congr _ _ _ _ 8 fun i hi => by simp [byteAt, blkBytes, hi]

/-- 'copy(dst, s)' from a string that may be longer than dst: its first bytes go over. -/
theorem run_copy_row_head {P : Program} (w : World) (dT sT ty elem : TypeId) (g o dLen dCap : Nat) (s : ByteArray) (n : Nat) (hn : n = Nat.min s.size dLen) (cur : Array Value) (t : TypeId)
    (hu : P.underlying dT = some (.slice elem)) (hs : (P.info? elem).map (·.size) = some 1) (hg : w.heap[g]? = some (.cells cur t (0, 0))) (hfit : o + n ≤ cur.size) :
    (Builtin.copy_ #[dT, sT] ty #[.slice (some ⟨g, o, none⟩) dLen dCap, .string s]).run P w =
      .ok (goInt n) (w.setRow g (cur.toList.take o ++ Lib.byteCells (s.data.toList.take n) ++ cur.toList.drop (o + n)).toArray) := by
  have hsz := Lib.size_eq s
  have hlen : (Lib.byteCells (s.data.toList.take n)).length = n := by
    rw [Lib.byteCells_length, List.length_take, ← hsz]
    have : n ≤ s.size := hn ▸ Nat.min_le_left _ _
    omega
  have hst := run_storeCells_at P g o t (Lib.byteCells (s.data.toList.take n)) 0 cur w hg (by rw [hlen]; simpa using hfit) (Lib.byteCells_one _)
  rw [hlen] at hst
  simp only [Nat.add_zero] at hst
  have htk : List.take n (List.map (fun b : UInt8 => Value.int IntKind.u8 (b.toNat : Int)) s.data.toList) = Lib.byteCells (s.data.toList.take n) := by
    rw [Lib.byteCells, List.map_take]
  cases hq : P.info? elem with
  | none => simp [hq] at hs
  | some i =>
    simp [Builtin.copy_, run_underlying hu, Builtin.lenOf, Builtin.firstCells, sizeOf, typeInfo, hq, ← hn]
    rw [htk, hst]
    simp [Result.andThen]

/-- the eight cells of a new block -/
def Z8 : Array Value := #[Value.int IntKind.u8 0, Value.int IntKind.u8 0, Value.int IntKind.u8 0, Value.int IntKind.u8 0, Value.int IntKind.u8 0, Value.int IntKind.u8 0, Value.int IntKind.u8 0, Value.int IntKind.u8 0]

theorem blkBytes_cells (l : List UInt8) (i : Nat) :
    Lib.byteCells ((l.drop (8 * i)).take (Nat.min (l.length - 8 * i) 8)) ++ Z8.toList.drop (Nat.min (l.length - 8 * i) 8) = (blkBytes l i).map fun c => Value.int .u8 (c.toNat : Int) := by
  apply List.ext_getElem?
  intro j
  have hl : (Lib.byteCells ((l.drop (8 * i)).take (Nat.min (l.length - 8 * i) 8))).length = Nat.min (l.length - 8 * i) 8 := by
    have : Nat.min (l.length - 8 * i) 8 ≤ l.length - 8 * i := Nat.min_le_left _ _
    rw [Lib.byteCells_length, List.length_take, List.length_drop]
    omega
  have hm8 : Nat.min (l.length - 8 * i) 8 ≤ 8 := Nat.min_le_right _ _
  have hml : Nat.min (l.length - 8 * i) 8 = l.length - 8 * i ∨ Nat.min (l.length - 8 * i) 8 = 8 ∧ 8 ≤ l.length - 8 * i := by
    rcases Nat.le_total (l.length - 8 * i) 8 with h | h
    · exact .inl (Nat.min_eq_left h)
    · exact .inr ⟨Nat.min_eq_right h, h⟩
  generalize Nat.min (l.length - 8 * i) 8 = n at *
  by_cases hj : j < n
  · rw [List.getElem?_append_left (by omega)]
    have h1 : 8 * i + j < l.length := by omega
    have h8 : j < 8 := by omega
    simp [Lib.byteCells, blkBytes, hj, h1, h8]
  · rw [List.getElem?_append_right (by omega), hl]
    by_cases h8 : j < 8
    · have h1 : l.length ≤ 8 * i + j := by omega
      have e : n + (j - n) = j := by omega
      have hz : Z8.toList[j]? = some (.int .u8 0) := by
        obtain rfl | rfl | rfl | rfl | rfl | rfl | rfl | rfl : j = 0 ∨ j = 1 ∨ j = 2 ∨ j = 3 ∨ j = 4 ∨ j = 5 ∨ j = 6 ∨ j = 7 := by omega
        all_goals rfl
      rw [List.getElem?_drop, e, hz]
      simp [blkBytes, h8, h1]
    · have e : n + (j - n) = j := by omega
      rw [List.getElem?_drop, e]
      have h9 : ¬ j < 8 := h8
      have hz : Z8.toList[j]? = none := List.getElem?_eq_none (by show 8 ≤ j; omega)
      have hz2 : ((blkBytes l i).map fun c => Value.int .u8 (c.toNat : Int))[j]? = none := List.getElem?_eq_none (by rw [List.length_map, blkBytes_length]; omega)
      rw [hz, hz2]

set_option maxHeartbeats 400000 in
theorem block_any (s : ByteArray) (i : Nat) (hi : i ≤ s.size / 8) (hs : s.size ≤ 9223372036854775806) (w : World) :
    Calls Tryd.prog 112 #[.string s, .int .i64 (i : Int)] w fun e w' => e = .returned (.agg ((blkBytes s.data.toList i).map fun c => .int .u8 (c.toNat : Int)).toArray) ∧ Below w.heap.size w w' := by
  have hcopy : ∀ ty, ∃ v w2, Sem.run Tryd.prog (Builtin.copy_ #[107, 115] ty #[.slice (some ⟨w.heap.size + 1, 0, none⟩) 8 8, .string (s.extract (i * 8) s.size)]) ((w.alloc (.cells Z8 119)).alloc (.cells Z8 119)).drew = .ok v w2 ∧
      w2.heap[w.heap.size + 1]? = some (.cells ((blkBytes s.data.toList i).map fun c => Value.int .u8 (c.toNat : Int)).toArray 119 (0, 0)) ∧ w2.heap[w.heap.size]? = some (.cells Z8 119 (0, 0)) ∧ Below w.heap.size w w2 := by
    intro ty
    have hg : (((w.alloc (.cells Z8 119)).alloc (.cells Z8 119)).drew).heap[w.heap.size + 1]? = some (.cells Z8 119 (0, 0)) := heap_alloc2_new w _ _
    have h := run_copy_row_head (P := Tryd.prog) _ 107 115 ty 5 (w.heap.size + 1) 0 8 8 (s.extract (i * 8) s.size) _ rfl Z8 119 Tryd.underlying107 (by kernel_rfl) hg (by
      have : Nat.min (s.extract (i * 8) s.size).size 8 ≤ 8 := Nat.min_le_right _ _
      simpa [Z8] using this)
    have hsz : (s.extract (i * 8) s.size).size = s.data.toList.length - 8 * i := by
      rw [← Lib.size_eq]
      simp
      omega
    have hdt : (s.extract (i * 8) s.size).data.toList = s.data.toList.drop (8 * i) := by
      rw [Lib.extract_data, Nat.mul_comm i 8]
      exact List.take_of_length_le (by rw [List.length_drop, ← Lib.size_eq]; omega)
    refine ⟨_, _, h, ?_, ?_, ?_⟩
    · rw [setRow_heap _ _ _ _ _ _ hg, ← blkBytes_cells, hsz, hdt]
      simp
    · rw [setRow_other _ _ _ _ (by omega)]
      exact heap_alloc2_old w _ _
    · exact below_setRow ((((Below.refl _ _).alloc (Nat.le_refl _) _).alloc (by simp) _).drew) (by omega) _
  obtain ⟨v, w2, hrun, hb1, hb0, hbel⟩ := hcopy 3
  clear hcopy
  have hcs : ((blkBytes s.data.toList i).map fun c => Value.int .u8 (c.toNat : Int)).toArray.size = 8 := by simp [blkBytes_length]
  have hone : ((blkBytes s.data.toList i).map fun c => Value.int .u8 (c.toNat : Int)).toArray.all (·.oneCell') = true := by
    simp
    intro x _
    rfl
  generalize hC : ((blkBytes s.data.toList i).map fun c => Value.int .u8 (c.toNat : Int)).toArray = C at *
  have HC := Lib.hid hC
  clear hC
  have hfin : (w2.setRow w.heap.size C).heap[w.heap.size]? = some (.cells C 119 (0, 0)) := setRow_heap _ _ _ _ _ _ hb0
  have hbel2 : Below w.heap.size w (w2.setRow w.heap.size C) := below_setRow hbel (Nat.le_refl _) _
  have Hhb1 := Lib.hid hb1
  have Hhb0 := Lib.hid hb0
  have Hfin := Lib.hid hfin
  have Hcs := Lib.hid hcs
  have Hone := Lib.hid hone
  clear hb1 hb0 hfin hcs hone
  unfold Z8 at hrun
  go_enter Tryd.func112, Tryd.ntmps112
  go_wp2
  go_region
  go_wp2_with (first | (refine wpList_load_row rfl 119 (.tmp 5) rfl (w.heap.size + 1) rfl 119 C _ _ Hhb1.out Tryd.underlying119 rfl (by rw [Hcs.out]; kernel_rfl) ?_) | (refine wpList_store_row rfl 119 (.tmp 4) (.tmp 12) rfl w.heap.size C rfl rfl 119 Z8 Hhb0.out (by rw [Hcs.out]; kernel_rfl) (by rw [Hcs.out]; rfl) Hone.out ?_))
  refine bodyPost_ret (v := .agg C) (results_cell_row Tryd.results112 _ _ w.heap.size 119 C _ _ rfl Hfin.out Tryd.underlying119 rfl (by rw [Hcs.out]; kernel_rfl)) rfl ⟨rfl, hbel2⟩

end Go.Proofs.YteapfoadfjjicaaDoor.Dig
