/- Walks over package digest: hex. -/
import Derived.Test.YtgclcomjojpkgaaDoorDigW1
import Derived.Lib.BufferWrite
import Derived.Laws.CopyOwn
namespace Go.Proofs.YtgclcomjojpkgaaDoor.Dig
set_option linter.unusedVariables false
set_option linter.unusedSimpArgs false
open Go.RowKit

def hexAll : ByteArray := { data := #[48, 49, 50, 51, 52, 53, 54, 55, 56, 57, 97, 98, 99, 100, 101, 102] }
theorem hexAll_get (n : Nat) (h : n < 16) (hs : n < hexAll.size) : hexAll[n]'hs = hexDigit n := by
  obtain rfl | rfl | rfl | rfl | rfl | rfl | rfl | rfl | rfl | rfl | rfl | rfl | rfl | rfl | rfl | rfl : n = 0 ∨ n = 1 ∨ n = 2 ∨ n = 3 ∨ n = 4 ∨ n = 5 ∨ n = 6 ∨ n = 7 ∨ n = 8 ∨ n = 9 ∨ n = 10 ∨ n = 11 ∨ n = 12 ∨ n = 13 ∨ n = 14 ∨ n = 15 := by omega
  all_goals rfl

def hexRow (x k : Nat) : Array Value := (List.replicate (16 - k) (Value.int .u8 0) ++ Lib.byteCells (hexTo x k)).toArray
theorem hexRow_size (x k : Nat) (hk : k ≤ 16) : (hexRow x k).size = 16 := by
  simp [hexRow, Lib.byteCells_length, hexTo_length]
  omega
theorem hexRow_step (x k : Nat) (hk : k < 16) (c : Nat) (hc : c = (hexDigit (x / 16 ^ k % 16)).toNat) : (hexRow x k).setIfInBounds (15 - k) (.int .u8 (c : Int)) = hexRow x (k + 1) := by
  subst hc
  unfold hexRow
  rw [hexTo_cons]
  have e : 16 - k = (15 - k) + 1 := by omega
  have e2 : 16 - (k + 1) = 15 - k := by omega
  rw [e, e2, List.replicate_succ']
  simp [Lib.byteCells]
theorem hexRow_cell (x k : Nat) (hk : k < 16) : (hexRow x k)[15 - k]? = some (.int .u8 0) := by
  unfold hexRow
  rw [List.getElem?_toArray, List.getElem?_append_left (by rw [List.length_replicate]; omega), List.getElem?_replicate, if_pos (by omega)]

set_option maxHeartbeats 400000 in
theorem hex_any (x : Nat) (hx : x < 18446744073709551616) (w : World) :
    Calls Tryd.prog 70 #[.int .u64 (x : Int)] w fun e w' => e = .returned (.string ⟨(hexN x).toArray⟩) ∧ Below w.heap.size w w' := by
  go_enter Tryd.func70, Tryd.ntmps70
  go_wp2
  go_loopw [0, 5] (fun v i wr => ∃ k : Nat, k ≤ 16 ∧ i = .int .i64 k ∧ v = .int .u64 ((x / 16 ^ k : Nat) : Int) ∧ wr.heap[w.heap.size]? = some (.cells (hexRow x k) 82 (0, 0)) ∧ Below w.heap.size w wr) (fun _ i _ => 16 - (intOf i).toNat)
  case atStart => exact ⟨0, by omega, rfl, by simp, heap_alloc_new w _, (Below.refl _ _).alloc (Nat.le_refl _) _⟩
  case round =>
    obtain ⟨k, hk, rfl, rfl, hrow, hbel⟩ := hrel
    by_cases hlt : k < 16
    · have hX : x / 16 ^ k < 18446744073709551616 := Nat.lt_of_le_of_lt (Nat.div_le_self _ _) hx
      have hand : bits BinOp.and IntKind.u64 ((x / 16 ^ k : Nat) : Int) 15 = ((x / 16 ^ k % 16 : Nat) : Int) := by
        rw [← nat_mask4]
        exact u64_and_nat _ 15 hX (by decide)
      have hstep := hexRow_step x k hlt
      have hnext : x / 16 ^ k / 16 = x / 16 ^ (k + 1) := by rw [Nat.div_div_eq_div_mul, Nat.pow_succ]
      generalize x / 16 ^ k = X at *
      have hcell : wr.cell? ⟨w.heap.size, 15 - k, none⟩ = some (.int .u8 0) := by rw [cell_of_row _ _ _ _ _ _ hrow]; exact hexRow_cell x k hlt
      have hfr : wr.frozen? ⟨w.heap.size, 15 - k, none⟩ = false := frozen_of_row _ _ _ _ _ hrow
      have Hrow := Lib.hid hrow
      have Hstep := Lib.hid hstep
      have Hnext := Lib.hid hnext
      clear hrow hstep hnext
      go_wp2
      go_roundw
      case rel =>
        refine ⟨k + 1, by omega, by go_num, ?_, ?_, hbel.setCell (Nat.le_refl _) _⟩
        · rw [← Hnext.out]; simp
        · rw [heap_setCell_same _ _ _ _ _ _ Hrow.out, ← Hstep.out _ rfl]
          have h16 : X % 16 < hexAll.size := Nat.mod_lt _ (by decide)
          have hg := hexAll_get (X % 16) (Nat.mod_lt _ (by decide)) h16
          rw [← hg]
          rfl
      case measure => simp [intOf]; omega
    · obtain rfl : k = 16 := by omega
      have hconv : (convert 65 9 (Value.slice (some ⟨w.heap.size, 0, none⟩) 16 16)).run Tryd.prog wr = .ok (.string ⟨(hexTo x 16).toArray⟩) wr := by
        have h := run_convert_bytes_back (P := Tryd.prog) wr 65 9 5 ⟨w.heap.size, 0, none⟩ 16 (hexTo x 16) Tryd.underlying65 Tryd.underlying5 Tryd.underlying9 (by
          intro j hj
          have hadd : (⟨w.heap.size, 0, none⟩ : Addr).add j = ⟨w.heap.size, j, none⟩ := by unfold Addr.add; split <;> simp_all
          rw [hadd, cell_of_row _ _ _ _ _ _ hrow]
          simp [hexRow, Lib.byteCells, hj])
        rw [hexTo_length] at h
        exact h
      clear hrow
      go_wp2
      go_ret
      exact ⟨rfl, hbel⟩

end Go.Proofs.YtgclcomjojpkgaaDoor.Dig
