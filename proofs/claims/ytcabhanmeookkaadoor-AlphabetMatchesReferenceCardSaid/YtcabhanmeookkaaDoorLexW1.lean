/- Walks over package lexer: the classes of bytes. -/
import Derived.Test.YtcabhanmeookkaaDoorLexMath
import Derived.Test.YtcabhanmeookkaaDoorProg
import Derived.Test.YtcabhanmeookkaaDoorShelf
import Derived.WalkKit
import Derived.OwnWalk
import Derived.LoopTactic
import Derived.Laws.CopyOwn
import Derived.Laws.AppendOwn
import Derived.BigQuiet
namespace Go.Proofs.YtcabhanmeookkaaDoor.Lx
set_option linter.unusedVariables false
set_option linter.unusedSimpArgs false
open Go.RowKit

/-- the class of a byte -/
def clsOf (c : UInt8) : Nat :=
  if c.toNat = 32 ∨ c.toNat = 9 then 1 else if c.toNat = 10 then 2 else if c.toNat = 35 then 3 else if isLet c then 4 else if isNum c then 5
  else if c.toNat = 95 then 6 else if c.toNat = 34 then 7 else if c.toNat = 33 then 8 else if c.toNat = 60 ∨ c.toNat = 62 then 9 else if c.toNat = 61 then 10 else if isSym c then 11 else 0

def memL : List ByteArray := [⟨#[]⟩, ⟨#[32, 9]⟩, ⟨#[10]⟩, ⟨#[35]⟩, ⟨#[65, 66, 67, 68, 69, 70, 71, 72, 73, 74, 75, 76, 77, 78, 79, 80, 81, 82, 83, 84, 85, 86, 87, 88, 89, 90, 97, 98, 99, 100, 101, 102, 103, 104, 105, 106, 107, 108, 109, 110, 111, 112, 113, 114, 115, 116, 117, 118, 119, 120, 121, 122]⟩,
  ⟨#[48, 49, 50, 51, 52, 53, 54, 55, 56, 57]⟩, ⟨#[95]⟩, ⟨#[34]⟩, ⟨#[33]⟩, ⟨#[60, 62]⟩, ⟨#[61]⟩, ⟨#[59, 44, 46, 58, 40, 41, 91, 93, 123, 125, 43, 45]⟩]
def mem (k : Nat) : ByteArray := memL.getD k ⟨#[]⟩
def stepT (k : Nat) (bs : List UInt8) (T : List Nat) : List Nat := bs.foldl (fun T b => T.set b.toNat k) T
def tbl : Nat → List Nat
  | 0 => List.replicate 256 0
  | k + 1 => stepT k (mem k).data.toList (tbl k)
def tblI (k i : Nat) : List Nat := stepT k ((mem k).data.toList.take i) (tbl k)
theorem stepT_length (k : Nat) : ∀ (bs : List UInt8) (T : List Nat), (stepT k bs T).length = T.length
  | [], T => rfl
  | b :: bs, T => (stepT_length k bs _).trans (List.length_set ..)
theorem tbl_length : ∀ k, (tbl k).length = 256
  | 0 => List.length_replicate
  | k + 1 => (stepT_length k _ _).trans (tbl_length k)
theorem tblI_length (k i : Nat) : (tblI k i).length = 256 := (stepT_length k _ _).trans (tbl_length k)
theorem tblI_zero (k : Nat) : tblI k 0 = tbl k := by simp [tblI, stepT]
theorem tblI_succ (k i : Nat) (h : i < (mem k).data.toList.length) : tblI k (i + 1) = (tblI k i).set ((mem k).data.toList[i]).toNat k := by
  unfold tblI stepT
  rw [List.take_succ_eq_append_getElem h, List.foldl_append]
  rfl
theorem tblI_all (k i : Nat) (h : i = (mem k).data.toList.length) : tblI k i = tbl (k + 1) := by
  unfold tblI
  rw [h, List.take_length]
  rfl
theorem tbl_end : tbl 12 = (List.range 256).map (fun n => clsOf (UInt8.ofNat n)) := by decide +kernel

def valA (T : List Nat) : Array Value := (T.map fun (n : Nat) => Value.int .i64 (n : Int)).toArray
theorem valA_size (T : List Nat) : (valA T).size = T.length := by simp [valA]
theorem valA_get (T : List Nat) (i : Nat) (h : i < T.length) : (valA T)[i]? = some (.int .i64 (T[i] : Int)) := by
  unfold valA
  rw [List.getElem?_toArray, List.getElem?_map, List.getElem?_eq_getElem h]
  rfl
theorem valA_set (T : List Nat) (i k : Nat) : (valA T).setIfInBounds i (.int .i64 (k : Int)) = valA (T.set i k) := by
  unfold valA
  rw [List.setIfInBounds_toArray, List.map_set]
/-- the row of all classes -/
def clsA : Array Value := valA ((List.range 256).map (fun n => clsOf (UInt8.ofNat n)))
theorem clsA_size : clsA.size = 256 := by rw [clsA, valA_size]; simp
theorem clsA_get (c : UInt8) : clsA[c.toNat]? = some (.int .i64 (clsOf c : Int)) := by
  unfold clsA
  have hlt : c.toNat < 256 := UInt8.toNat_lt c
  rw [valA_get _ _ (by simpa using hlt)]
  simp
theorem valA_one (T : List Nat) : (valA T).all (·.oneCell') = true := by
  simp [valA]
  intro x _
  rfl

theorem mem_run (k : Nat) (hk : k < 12) (wr : World) : (Instr.index 82 (.agg #[Value.string { data := #[] }, Value.string { data := #[32, 9] }, Value.string { data := #[10] }, Value.string { data := #[35] }, Value.string { data := #[65, 66, 67, 68, 69, 70, 71, 72, 73, 74, 75, 76, 77, 78, 79, 80, 81, 82, 83, 84, 85, 86, 87, 88, 89, 90, 97, 98, 99, 100, 101, 102, 103, 104, 105, 106, 107, 108, 109, 110, 111, 112, 113, 114, 115, 116, 117, 118, 119, 120, 121, 122] }, Value.string { data := #[48, 49, 50, 51, 52, 53, 54, 55, 56, 57] }, Value.string { data := #[95] }, Value.string { data := #[34] }, Value.string { data := #[33] }, Value.string { data := #[60, 62] }, Value.string { data := #[61] }, Value.string { data := #[59, 44, 46, 58, 40, 41, 91, 93, 123, 125, 43, 45] }]) (.int .i64 (k : Int))).run Tryd.prog wr = .ok (.string (mem k)) wr := by
  obtain rfl | rfl | rfl | rfl | rfl | rfl | rfl | rfl | rfl | rfl | rfl | rfl : k = 0 ∨ k = 1 ∨ k = 2 ∨ k = 3 ∨ k = 4 ∨ k = 5 ∨ k = 6 ∨ k = 7 ∨ k = 8 ∨ k = 9 ∨ k = 10 ∨ k = 11 := by omega
  all_goals kernel_rfl
theorem zero_tbl : Tryd.zeroCells72 = valA (tbl 0) := by kernel_rfl

theorem heap_alloc3_new (w : World) (A B C : Obj) : (((w.alloc A).alloc B).alloc C).heap[w.heap.size + 1 + 1]? = some C := by
  show (((w.heap.push A).push B).push C)[w.heap.size + 1 + 1]? = some C
  rw [Array.getElem?_push, if_pos (by simp)]
theorem heap_alloc3_old (w : World) (A B C : Obj) : (((w.alloc A).alloc B).alloc C).heap[w.heap.size]? = some A := by
  show (((w.heap.push A).push B).push C)[w.heap.size]? = some A
  rw [Array.getElem?_push, if_neg (by simp; omega), Array.getElem?_push, if_neg (by simp), Array.getElem?_push, if_pos rfl]
theorem mem_small (k : Nat) (hlt : k < 12) : (mem k).size ≤ 52 := by
  obtain rfl | rfl | rfl | rfl | rfl | rfl | rfl | rfl | rfl | rfl | rfl | rfl : k = 0 ∨ k = 1 ∨ k = 2 ∨ k = 3 ∨ k = 4 ∨ k = 5 ∨ k = 6 ∨ k = 7 ∨ k = 8 ∨ k = 9 ∨ k = 10 ∨ k = 11 := by omega
  all_goals decide

set_option maxRecDepth 100000 in
set_option maxHeartbeats 1000000 in
theorem classes_any (w : World) :
    Calls Tryd.prog 47 #[] w fun e w' => e = .returned (.agg clsA) ∧ Below w.heap.size w w' := by
  go_enter Tryd.func47, Tryd.ntmps47
  go_wp2_with fail
  go_loopw [8] (fun i wr => ∃ k : Nat, k ≤ 12 ∧ i = .int .i64 k ∧ wr.heap[w.heap.size + 1 + 1]? = some (.cells (valA (tbl k)) 72 (0, 0)) ∧ wr.heap[w.heap.size]? = some (.cells Tryd.zeroCells72 72 (0, 0)) ∧ Below w.heap.size w wr) (fun i _ => 12 - (intOf i).toNat)
  case atStart =>
    refine ⟨0, by omega, rfl, ?_, ?_, (((Below.refl _ _).alloc (Nat.le_refl _) _).alloc (by simp) _).alloc (by simp; omega) _⟩
    · rw [← zero_tbl]
      exact heap_alloc3_new w _ _ _
    · exact heap_alloc3_old w _ _ _
  case round =>
    obtain ⟨k, hk, rfl, hrow, hold, hbel⟩ := hrel
    by_cases hlt : k < 12
    · have Hrow := Lib.hid hrow
      have Hold := Lib.hid hold
      clear hrow hold
      have hidx := mem_run k hlt
      go_wp2_with fail
      clear hidx
      go_loopw [14] (fun i wr => ∃ j : Nat, j ≤ (mem k).size ∧ i = .int .i64 j ∧ wr.heap[w.heap.size + 1 + 1]? = some (.cells (valA (tblI k j)) 72 (0, 0)) ∧ wr.heap[w.heap.size]? = some (.cells Tryd.zeroCells72 72 (0, 0)) ∧ Below w.heap.size w wr) (fun i _ => (mem k).size - (intOf i).toNat)
      case atStart => exact ⟨0, by omega, rfl, by rw [tblI_zero]; exact Hrow.out, Hold.out, hbel⟩
      case round =>
        clear Hrow Hold hbel
        obtain ⟨j, hj, rfl, hrow, hold, hbel⟩ := hrel
        have hmem := mem_small k hlt
        by_cases hjl : j < (mem k).size
        · have hlen : j < (mem k).data.toList.length := by rw [← Lib.size_eq]; exact hjl
          have hb : (mem k)[j].toNat < 256 := UInt8.toNat_lt _
          have hcell : wr.cell? ⟨w.heap.size + 1 + 1, (mem k)[j].toNat, none⟩ = some (.int .i64 ((tblI k j)[(mem k)[j].toNat]'(by rw [tblI_length]; exact hb) : Nat)) := by
            rw [cell_of_row _ _ _ _ _ _ hrow, valA_get]
          have hfr : wr.frozen? ⟨w.heap.size + 1 + 1, (mem k)[j].toNat, none⟩ = false := frozen_of_row _ _ _ _ _ hrow
          have Hrow := Lib.hid hrow
          have Hold := Lib.hid hold
          have Hstep := Lib.hid (tblI_succ k j hlen)
          clear hrow hold
          go_wp2_with fail
          go_roundw
          case rel =>
            refine ⟨j + 1, by omega, by go_num, ?_, ?_, hbel.setCell (by show w.heap.size ≤ w.heap.size + 1 + 1; omega) _⟩
            · rw [heap_setCell_same _ _ _ _ _ _ Hrow.out, valA_set, Hstep.out]
              rfl
            · rw [heap_setCell_other _ _ _ _ (by show w.heap.size ≠ w.heap.size + 1 + 1; omega)]
              exact Hold.out
          case measure => simp [intOf]; omega
        · obtain rfl : j = (mem k).size := by omega
          rw [tblI_all k _ (Lib.size_eq _)] at hrow
          have Hrow := Lib.hid hrow
          have Hold := Lib.hid hold
          clear hrow hold
          go_wp2_with fail
          go_roundw
          case rel => exact ⟨k + 1, by omega, by go_num, Hrow.out, Hold.out, hbel⟩
          case measure => simp [intOf]; omega
    · obtain rfl : k = 12 := by omega
      have hcl : valA (tbl 12) = clsA := by rw [tbl_end]; rfl
      rw [hcl] at hrow
      have Hrow := Lib.hid hrow
      have Hold := Lib.hid hold
      have hfin : (wr.setRow w.heap.size clsA).heap[w.heap.size]? = some (.cells clsA 72 (0, 0)) := setRow_heap _ _ _ _ _ _ hold
      have hbel2 : Below w.heap.size w (wr.setRow w.heap.size clsA) := below_setRow hbel (Nat.le_refl _) _
      have Hfin := Lib.hid hfin
      clear hrow hold hfin
      go_wp2_with (first | (refine wpList_load_row rfl 72 (.tmp 2) rfl (w.heap.size + 1 + 1) rfl 72 clsA _ _ Hrow.out Tryd.underlying72 rfl (by rw [clsA_size]; kernel_rfl) ?_) | (refine wpList_store_row rfl 72 (.tmp 0) (.tmp 24) rfl w.heap.size clsA rfl rfl 72 Tryd.zeroCells72 Hold.out (by rw [clsA_size]; kernel_rfl) (by rw [clsA_size, zero_tbl, valA_size, tbl_length]) (valA_one _) ?_))
      refine bodyPost_ret (v := .agg clsA) (results_cell_row Tryd.results47 _ _ w.heap.size 72 clsA _ _ rfl Hfin.out Tryd.underlying72 rfl (by rw [clsA_size]; kernel_rfl)) rfl ⟨rfl, hbel2⟩

/-! ### The reader -/

def rdA (s : ByteArray) (p : Nat) : Array Value := #[.string s] ++ clsA ++ #[.int .i64 (p : Int)]
theorem rdA_size (s : ByteArray) (p : Nat) : (rdA s p).size = 258 := by simp [rdA, clsA_size]
theorem rdA_text (s : ByteArray) (p : Nat) : (rdA s p)[0]? = some (.string s) := by
  unfold rdA
  rw [Array.append_assoc, Array.getElem?_append_left (by simp)]
  rfl
theorem rdA_cls (s : ByteArray) (p : Nat) (c : UInt8) : (rdA s p)[1 + c.toNat]? = some (.int .i64 (clsOf c : Int)) := by
  have hlt : c.toNat < 256 := UInt8.toNat_lt c
  unfold rdA
  rw [Array.getElem?_append_left (by simp [clsA_size]; omega), Array.getElem?_append_right (by simp)]
  simpa using clsA_get c
theorem rdA_at (s : ByteArray) (p : Nat) : (rdA s p)[257]? = some (.int .i64 (p : Int)) := by
  unfold rdA
  rw [Array.getElem?_append_right (by simp [clsA_size])]
  simp [clsA_size]
theorem rdA_set (s : ByteArray) (p q : Nat) : (rdA s p).setIfInBounds 257 (.int .i64 (q : Int)) = rdA s q := by
  unfold rdA
  rw [Array.setIfInBounds_append_right (by simp [clsA_size])]
  simp [clsA_size]
theorem rdA_one (s : ByteArray) (p : Nat) : (rdA s p).all (·.oneCell') = true := by
  simp only [rdA, Array.all_append, Bool.and_eq_true]
  exact ⟨⟨by simp [Value.oneCell'], valA_one _⟩, by simp [Value.oneCell']⟩

/-- block B is the reader of the text s, at the place p -/
def Rd (w : World) (B : Nat) (s : ByteArray) (p : Nat) : Prop := w.heap[B]? = some (.cells (rdA s p) 75 (0, 0))
theorem Rd.lt {w : World} {B p : Nat} {s : ByteArray} (h : Rd w B s p) : B < w.heap.size := (Array.getElem?_eq_some_iff.1 h).1
theorem Rd.text {w : World} {B p : Nat} {s : ByteArray} (h : Rd w B s p) : w.cell? ⟨B, 0, none⟩ = some (.string s) := by rw [cell_of_row _ _ _ _ _ _ h, rdA_text]
theorem Rd.cls {w : World} {B p : Nat} {s : ByteArray} (h : Rd w B s p) (c : UInt8) : w.cell? ⟨B, 1 + c.toNat, none⟩ = some (.int .i64 (clsOf c : Int)) := by rw [cell_of_row _ _ _ _ _ _ h, rdA_cls]
theorem Rd.at {w : World} {B p : Nat} {s : ByteArray} (h : Rd w B s p) : w.cell? ⟨B, 257, none⟩ = some (.int .i64 (p : Int)) := by rw [cell_of_row _ _ _ _ _ _ h, rdA_at]
theorem Rd.frozen {w : World} {B p : Nat} {s : ByteArray} (h : Rd w B s p) : w.frozen? ⟨B, 257, none⟩ = false := frozen_of_row _ _ _ _ _ h
theorem Rd.set {w : World} {B p : Nat} {s : ByteArray} (h : Rd w B s p) (q : Nat) : Rd (w.setCell ⟨B, 257, none⟩ (.int .i64 (q : Int))) B s q := by
  unfold Rd
  rw [heap_setCell_same _ _ _ _ _ _ h, rdA_set]
theorem Rd.below {w w' : World} {n B p : Nat} {s : ByteArray} (h : Rd w B s p) (hb : Below n w w') (hn : B < n) : Rd w' B s p := (hb.block B hn).trans h
theorem Rd.kept {w w' : World} {B p : Nat} {s : ByteArray} (h : Rd w B s p) (hb : Below w.heap.size w w') : Rd w' B s p := h.below hb h.lt

/-- the value v is a slice of these classes -/
def ClsSl (w : World) (v : Value) (l : List Nat) : Prop :=
  ∃ b off cap, v = .slice (some ⟨b, off, none⟩) l.length cap ∧ b < w.heap.size ∧ ∀ i (h : i < l.length), w.cell? ⟨b, off + i, none⟩ = some (.int .i64 (l[i] : Int))
theorem ClsSl.below {w w' : World} {v : Value} {l : List Nat} (h : ClsSl w v l) (hb : Below w.heap.size w w') : ClsSl w' v l := by
  obtain ⟨b, off, cap, hv, hlt, hc⟩ := h
  exact ⟨b, off, cap, hv, Nat.lt_of_lt_of_le hlt hb.size, fun i hi => (hb.cell (p := ⟨b, off + i, none⟩) hlt).trans (hc i hi)⟩

set_option maxHeartbeats 1000000 in
theorem idx_any (b off cap : Nat) (l : List Nat) (x : Nat) (hm : l.length ≤ 1000) (w : World) (hc : ∀ i (h : i < l.length), w.cell? ⟨b, off + i, none⟩ = some (.int .i64 (l[i] : Int))) :
    Calls Tryd.prog 65 #[.slice (some ⟨b, off, none⟩) l.length cap, .int .i64 (x : Int)] w fun e w' => ∃ n : Int, e = .returned (.int .i64 n) ∧ decide (0 ≤ n) = decide (x ∈ l) ∧ w = w' := by
  go_enter Tryd.func65, Tryd.ntmps65
  go_wp2_with fail
  go_loop [8] (fun i => ∃ k : Nat, k ≤ l.length ∧ i = .int .i64 k ∧ Hid (∀ j (h : j < k) (h2 : j < l.length), l[j] ≠ x)) (fun i => l.length - (intOf i).toNat)
  case atStart => exact ⟨0, by omega, rfl, fun j h => by omega⟩
  case round =>
    obtain ⟨k, hk, rfl, Hno⟩ := hrel
    by_cases hlt : k < l.length
    · have hck := hc k hlt
      have Hl := Lib.hid (fun (h : l[k] = x) => show x ∈ l by rw [← h]; exact List.getElem_mem hlt)
      by_cases hx : l[k] = x
      · have hx' : ((x : Int) == (l[k] : Int)) = true := by rw [hx]; simp
        clear hc
        go_wp2_with fail
        go_ret
        exact ⟨k, rfl, ⟨fun _ => Hl.out hx, fun _ => by omega⟩, rfl⟩
      · have hx' : ((x : Int) == (l[k] : Int)) = false := by simp; omega
        have Hx := Lib.hid hx
        clear hc hx
        go_wp2_with fail
        go_round
        case rel =>
          refine ⟨k + 1, by omega, by go_num, fun j h h2 => ?_⟩
          by_cases hj : j = k
          · subst hj; exact Hx.out
          · exact Hno.out j (by omega) h2
        case measure => simp [intOf]; omega
    · obtain rfl : k = l.length := by omega
      clear hc
      go_wp2_with fail
      go_ret
      refine ⟨-1, rfl, ?_, rfl⟩
      symm
      simp
      intro hmem
      obtain ⟨j, hj, e⟩ := List.mem_iff_getElem.1 hmem
      exact Hno.out j hj hj e

theorem has_any (v : Value) (l : List Nat) (x : Nat) (hm : l.length ≤ 1000) (w : World) (hv : ClsSl w v l) :
    Calls Tryd.prog 63 #[v, .int .i64 (x : Int)] w fun e w' => e = .returned (.bool (decide (x ∈ l))) ∧ w = w' := by
  obtain ⟨b, off, cap, rfl, hlt, hc⟩ := hv
  have Hc := Lib.hid hc
  clear hc
  go_enter Tryd.func63, Tryd.ntmps63
  go_wp2_with fail
  refine (idx_any b off cap l x hm w Hc.out).mono ?_
  rintro e w1 ⟨n, rfl, hn, rfl⟩
  have Hn := Lib.hid hn
  clear hn
  go_wp2_with fail
  go_ret
  refine ⟨?_, rfl⟩
  rw [← Hn.out]
  rfl

theorem below_drewN (B : Nat) (w : World) (n : Nat) : Below B w (w.drewN n) := ⟨rfl, rfl, rfl, Nat.le_refl _, fun _ _ => rfl⟩

theorem has_quiet (v : Value) (l : List Nat) (x : Nat) (hm : l.length ≤ 1000) (w : World) (n : Nat) (hv : ClsSl w v l) :
    Calls Tryd.prog 63 #[v, .int .i64 (x : Int)] (w.drewN n) fun e w' => e = .returned (.bool (decide (x ∈ l))) ∧ ∃ m, w' = w.drewN m :=
  (has_any v l x hm _ (hv.below (below_drewN _ _ _))).mono fun e w' ⟨he, hw⟩ => ⟨he, n, hw.symm⟩

/-- whether a byte is of one of these classes, and whether the byte at a place is -/
def ofB (l : List Nat) (c : UInt8) : Bool := decide (clsOf c ∈ l)
def isB (s : ByteArray) (i : Nat) (l : List Nat) : Bool := if h : i < s.size then ofB l s[i] else false

set_option maxHeartbeats 1000000 in
theorem is_any (B p : Nat) (s : ByteArray) (i : Nat) (hi : i ≤ 1000000) (v : Value) (l : List Nat) (hm : l.length ≤ 1000) (w : World) (hr : Rd w B s p) (hv : ClsSl w v l) :
    Calls Tryd.prog 55 #[.pointer (some ⟨B, 0, none⟩), .int .i64 (i : Int), v] w fun e w' => e = .returned (.bool (isB s i l)) ∧ Below w.heap.size w w' := by
  have h0 := hr.text
  have him : (i : Int) < 9223372036854775807 := by omega
  unfold isB ofB
  by_cases hlt : i < s.size
  · have hcl := hr.cls s[i]
    have Hv := Lib.hid hv
    have hltI : (i : Int) < (s.size : Int) := by omega
    have hb : s[i].toNat < 256 := UInt8.toNat_lt _
    have hbI : (s[i].toNat : Int) < 256 := by omega
    clear hv hr
    rw [dif_pos hlt]
    go_enter Tryd.func55, Tryd.ntmps55
    go_wp2_with fail
    go_quiet (first | (go_at_call 63; exact has_quiet v l _ hm w _ Hv.out))
    go_wp2_with fail
    go_ret
    exact ⟨rfl, below_drewN _ _ _⟩
  · rw [dif_neg hlt]
    have hd : decide (i < s.size) = false := by simp; omega
    clear hr hv hlt
    go_enter Tryd.func55, Tryd.ntmps55
    go_wp2_with fail
    go_quiet (fail)
    go_wp2_with fail
    go_ret
    exact ⟨rfl, below_drewN _ _ _⟩

/-! ### The first place of another kind -/

/-- what is left of a text -/
def rest (s : ByteArray) (i : Nat) : List UInt8 := s.data.toList.drop i
theorem rest_length (s : ByteArray) (i : Nat) : (rest s i).length = s.size - i := by
  unfold rest
  rw [List.length_drop, ← Lib.size_eq]
theorem rest_get (s : ByteArray) (i k : Nat) (h : k < (rest s i).length) (h2 : i + k < s.size) : (rest s i)[k] = s[i + k] := by
  exact List.getElem_drop (xs := s.data.toList) (i := i) (j := k) (h := h)
theorem isB_step {s : ByteArray} {i k : Nat} {l : List Nat} (h : isB s (i + k) l = true) (hk : k ≤ tw (ofB l) (rest s i)) : k + 1 ≤ tw (ofB l) (rest s i) := by
  unfold isB at h
  by_cases hlt : i + k < s.size
  · rw [dif_pos hlt] at h
    have hl : k < (rest s i).length := by rw [rest_length]; omega
    exact tw_ge_succ _ _ _ hk hl (by rw [rest_get s i k hl hlt]; exact h)
  · rw [dif_neg hlt] at h
    cases h
theorem isB_end {s : ByteArray} {i k : Nat} {l : List Nat} (h : isB s (i + k) l = false) (hk : k ≤ tw (ofB l) (rest s i)) : tw (ofB l) (rest s i) = k := by
  unfold isB at h
  refine tw_eq_of _ _ _ hk fun hl => ?_
  have hlt : i + k < s.size := by rw [rest_length] at hl; omega
  rw [dif_pos hlt] at h
  rw [rest_get s i k hl hlt]
  exact h

set_option maxHeartbeats 1000000 in
theorem after_any (B p : Nat) (s : ByteArray) (hs : s.size ≤ 100000) (i : Nat) (hi : i ≤ 100001) (v : Value) (l : List Nat) (hm : l.length ≤ 1000) (w : World) (hr : Rd w B s p) (hv : ClsSl w v l) :
    Calls Tryd.prog 54 #[.pointer (some ⟨B, 0, none⟩), .int .i64 (i : Int), v] w fun e w' => e = .returned (.int .i64 ((i + tw (ofB l) (rest s i) : Nat) : Int)) ∧ Below w.heap.size w w' := by
  have Hr := Lib.hid hr
  have Hv := Lib.hid hv
  have Htl := Lib.hid (Nat.le_trans (tw_le (ofB l) (rest s i)) (Nat.le_of_eq (rest_length s i)))
  clear hr hv
  go_enter Tryd.func54, Tryd.ntmps54
  go_wp2_with fail
  go_loopw [1] (fun a wr => ∃ k : Nat, k ≤ tw (ofB l) (rest s i) ∧ a = .int .i64 ((i + k : Nat) : Int) ∧ Below w.heap.size w wr) (fun a _ => i + tw (ofB l) (rest s i) + 1 - (intOf a).toNat)
  case atStart => exact ⟨0, by omega, rfl, Below.refl _ _⟩
  case round =>
    obtain ⟨k, hk, rfl, hbel⟩ := hrel
    have Hk := Lib.hid hk
    have hkb : i + k ≤ 1000000 := by have := Htl.out; omega
    have hkb2 : ((i + k : Nat) : Int) ≤ 1000000 := by omega
    clear hk
    generalize hj : i + k = j at *
    have Hj := Lib.hid hj
    clear hj
    go_wp2_with fail
    refine (is_any B p s j hkb v l hm wr (Hr.out.kept hbel) (Hv.out.below hbel)).mono ?_
    rintro e w1 ⟨rfl, hb1⟩
    have hbel1 := hbel.trans (hb1.mono hbel.size)
    cases hx : isB s j l with
    | true =>
      have Hx := Lib.hid hx
      clear hx
      go_wp2_with fail
      go_roundw
      case rel => exact ⟨k + 1, isB_step (by rw [Hj.out]; exact Hx.out) Hk.out, by rw [← Hj.out]; go_num, hbel1⟩
      case measure =>
        have h1 := isB_step (s := s) (i := i) (k := k) (l := l) (by rw [Hj.out]; exact Hx.out) Hk.out
        have h2 := Hj.out
        simp [intOf]
        omega
    | false =>
      have Hx := Lib.hid hx
      clear hx
      go_wp2_with fail
      go_ret
      rw [isB_end (s := s) (i := i) (k := k) (l := l) (by rw [Hj.out]; exact Hx.out) Hk.out, Hj.out]
      exact ⟨rfl, hbel1⟩

end Go.Proofs.YtcabhanmeookkaaDoor.Lx
