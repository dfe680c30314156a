/- Walks over package lexer: tokens of each kind. -/
import Derived.Test.YtcabhanmeookkaaDoorLexW2
import Derived.Laws.ResultCell
import Derived.Lib.SmallJoins
namespace Go.Proofs.YtcabhanmeookkaaDoor.Lx
set_option linter.unusedVariables false
set_option linter.unusedSimpArgs false
open Go.RowKit

/-- a token as Go's struct -/
def tokA (k p v : Nat) (t : ByteArray) : Array Value := #[.int .i64 (k : Int), .int .i64 (p : Int), .int .i64 (v : Int), .string t]
def tokV (k p v : Nat) (t : ByteArray) : Value := .agg (tokA k p v t)
def zeroA : Array Value := #[.int .i64 0, .int .i64 0, .int .i64 0, .string ⟨#[]⟩]
theorem tokA_one (k p v : Nat) (t : ByteArray) : (tokA k p v t).all (·.oneCell') = true := by simp [tokA, Value.oneCell']
theorem zeroA_one : zeroA.all (·.oneCell') = true := by simp [zeroA, Value.oneCell']
/-- block g is a struct of a token's size -/
def TokAt (w : World) (g : Nat) (cs : Array Value) : Prop := w.heap[g]? = some (.cells cs 69 (0, 0))
theorem TokAt.lt {w : World} {g : Nat} {cs : Array Value} (h : TokAt w g cs) : g < w.heap.size := (Array.getElem?_eq_some_iff.1 h).1
theorem TokAt.below {w w' : World} {g : Nat} {cs : Array Value} (h : TokAt w g cs) (hb : Below w.heap.size w w') : TokAt w' g cs := (hb.block g h.lt).trans h
theorem TokAt.kept {w w' : World} {g : Nat} {cs : Array Value} {row : Option Nat} (h : TokAt w g cs) (hb : w.grownBy w' row) (hne : some g ≠ row) : TokAt w' g cs := (hb.block g h.lt hne).trans h
theorem TokAt.row {w : World} {g : Nat} {cs : Array Value} (h : TokAt w g cs) (ds : Array Value) : TokAt (w.setRow g ds) g ds := setRow_heap _ _ _ _ _ _ h
theorem only_row (w : World) (g : Nat) (cs : Array Value) : w.grownBy (w.setRow g cs) (some g) :=
  ⟨rfl, rfl, rfl, (below_setRow (Below.refl 0 w) (Nat.zero_le g) cs).size, fun k _ hk => setRow_other _ _ _ _ (fun e => hk (by rw [e]))⟩
theorem only_drew (w : World) (row : Option Nat) : w.grownBy w.drew row := ⟨rfl, rfl, rfl, Nat.le_refl _, fun _ _ _ => rfl⟩
/-- a block of the call's own is not counted -/
theorem only_own {w w' : World} {B : Nat} (h : Below 0 w w') (hb : ∀ k, k < w.heap.size → k ≠ B → w'.heap[k]? = w.heap[k]?) : w.grownBy w' (some B) := ⟨h.os, h.tape, h.output, h.size, fun k hk hne => hb k hk (fun e => hne (by rw [e]))⟩
theorem only_new {w w1 w2 : World} {B g : Nat} (h : w.grownBy w1 (some B)) (h2 : w1.grownBy w2 (some g)) (hg : w.heap.size ≤ g) : w.grownBy w2 (some B) :=
  ⟨h2.os.trans h.os, h2.tape.trans h.tape, h2.output.trans h.output, Nat.le_trans h.size h2.size, fun k hk hne => (h2.block k (Nat.lt_of_lt_of_le hk h.size) (fun e => by cases e; omega)).trans (h.block k hk hne)⟩
theorem Rd.only {w w' : World} {B g p : Nat} {s : ByteArray} (h : Rd w B s p) (hg : w.grownBy w' (some g)) (hne : B ≠ g) : Rd w' B s p := (hg.block B h.lt (fun e => hne (by cases e; rfl))).trans h
theorem TokAt.new (w : World) : TokAt (w.alloc (.cells zeroA 69)) w.heap.size zeroA := heap_alloc_new w _

theorem results_tok1 {fn : Func} {p : Tmp} (h : fn.results = #[.cell p 69]) (tmps : Array Value) (w : World) (g : Nat) (cs : Array Value) (hs : cs.size = 4)
    (hp : tmps.getD p undef = .pointer (some ⟨g, 0, none⟩)) (hg : TokAt w g cs) : (results fn tmps).run Tryd.prog w = .ok (.agg cs) w :=
  results_cell_row h tmps w g 69 cs _ _ hp hg Tryd.underlying69 rfl (by rw [hs]; kernel_rfl)
theorem results_tok2 {fn : Func} {p u : Tmp} (h : fn.results = #[.cell p 69, .tmp u]) (tmps : Array Value) (w : World) (g : Nat) (cs : Array Value) (hs : cs.size = 4)
    (hp : tmps.getD p undef = .pointer (some ⟨g, 0, none⟩)) (hg : TokAt w g cs) : (results fn tmps).run Tryd.prog w = .ok (.tuple #[.agg cs, tmps.getD u undef]) w := by
  rw [results_cell_tmp h, hp]
  have := run_loadVar_row (P := Tryd.prog) w g 69 69 cs _ _ hg Tryd.underlying69 rfl (by rw [hs]; kernel_rfl)
  simp [asAddr, this]

theorem ext_rest (s : ByteArray) (i n : Nat) : s.extract i (i + n) = ⟨((rest s i).take n).toArray⟩ := by
  apply ByteArray.ext
  apply Array.toList_inj.1
  rw [Lib.extract_data]
  simp [rest]

set_option maxHeartbeats 1000000 in
theorem take_any (B p : Nat) (s : ByteArray) (hs : s.size ≤ 100000) (k e : Nat) (hk : k < 100) (hpe : p ≤ e) (he : e ≤ s.size) (w : World) (hr : Rd w B s p) :
    Calls Tryd.prog 60 #[.pointer (some ⟨B, 0, none⟩), .int .i64 (k : Int), .int .i64 (e : Int)] w fun e' w' => e' = .returned (tokV k p 0 (s.extract p e)) ∧ Rd w' B s e ∧ w.grownBy w' (some B) := by
  have hr1 := hr.kept ((Below.refl _ w).alloc (Nat.le_refl _) (.cells #[.int .i64 0, .int .i64 0, .int .i64 0, .string ⟨#[]⟩] 69))
  have hat := hr1.at
  have hfr := hr1.frozen
  have htx := hr1.text
  have hBlt := hr.lt
  have hne : B ≠ w.heap.size := by omega
  have Hr := Lib.hid hr
  clear hr hr1
  go_enter Tryd.func60, Tryd.ntmps60
  go_wp2_with fail
  go_region
  obtain ⟨w2, hw2⟩ : ∃ w2, ((w.alloc (.cells #[.int .i64 0, .int .i64 0, .int .i64 0, .string ⟨#[]⟩] 69)).alloc (.cells #[.int .i64 (k : Int), .int .i64 (p : Int), .int .i64 0, .string (s.extract p e)] 69)).drew = w2 := ⟨_, rfl⟩
  rw [hw2]
  have hA : TokAt w2 w.heap.size zeroA := by rw [← hw2]; exact heap_alloc2_old w _ _
  have hB : TokAt w2 (w.heap.size + 1) (tokA k p 0 (s.extract p e)) := by rw [← hw2]; exact heap_alloc2_new w _ _
  have hb2 : Below w.heap.size w w2 := by rw [← hw2]; exact (((Below.refl _ w).alloc (Nat.le_refl _) _).alloc (by simp) _).drew
  clear hw2 hat hfr htx
  have hr2 := Hr.out.kept hb2
  have hfr2 := hr2.frozen
  have hat2 := hr2.at
  have HA := Lib.hid (hA.kept (only_set w2 B 257 (.int .i64 (e : Int))) (fun h => hne (by cases h; rfl)))
  have HB := Lib.hid (hB.kept (only_set w2 B 257 (.int .i64 (e : Int))) (fun h => by cases h; omega))
  have Hr3 := Lib.hid (hr2.set e)
  have Hon := Lib.hid (only_trans (only_below B hb2) (only_set w2 B 257 (.int .i64 (e : Int))))
  clear hr2 hA hB
  go_wp2_with (first | (refine wpList_load_row rfl 69 (.tmp 7) rfl (w.heap.size + 1) rfl 69 (tokA k p 0 (s.extract p e)) _ _ HB.out Tryd.underlying69 rfl (by kernel_rfl) ?_) | (refine wpList_store_row rfl 69 (.tmp 6) (.tmp 28) rfl w.heap.size (tokA k p 0 (s.extract p e)) rfl rfl 69 zeroA HA.out (by kernel_rfl) rfl (tokA_one _ _ _ _) ?_))
  refine bodyPost_ret (v := tokV k p 0 (s.extract p e)) (results_tok1 Tryd.results60 _ _ w.heap.size _ rfl rfl (HA.out.row _)) rfl ?_
  exact ⟨rfl, Hr3.out.only (only_row _ _ _) hne, only_new Hon.out (only_row _ _ _) (Nat.le_refl _)⟩

/-- what reading a token comes to -/
def Read (o : One) (B p : Nat) (s : ByteArray) (w : World) (e : Ending) (w' : World) : Prop :=
  match o with
  | .good k v n t => e = .returned (.tuple #[tokV k p v ⟨t.toArray⟩, .int .i64 0]) ∧ Rd w' B s (p + n) ∧ w.grownBy w' (some B)
  | .bad c => e = .returned (.tuple #[.agg zeroA, .int .i64 (c : Int)]) ∧ Rd w' B s p ∧ w.grownBy w' (some B)

set_option maxHeartbeats 1000000 in
theorem name_any (B p : Nat) (s : ByteArray) (hs : s.size ≤ 100000) (hp : p ≤ s.size) (w : World) (hr : Rd w B s p) (o : One)
    (ho : o = if 24 < tw isWord (rest s p) then .bad 2 else .good 1 0 (tw isWord (rest s p)) ((rest s p).take (tw isWord (rest s p)))) :
    Calls Tryd.prog 57 #[.pointer (some ⟨B, 0, none⟩)] w (Read o B p s w) := by
  have hb0 : Below w.heap.size w (w.alloc (.cells zeroA 69)) := (Below.refl _ w).alloc (Nat.le_refl _) _
  have hr0 := hr.kept hb0
  have hat0 := hr0.at
  have hBlt := hr.lt
  have hne : B ≠ w.heap.size := by omega
  have Hr0 := Lib.hid hr0
  have HT0 := Lib.hid (TokAt.new w)
  have hlen := tw_le isWord (rest s p)
  rw [rest_length] at hlen
  have He := Lib.hid (ext_rest s p (tw isWord (rest s p)))
  unfold zeroA at hat0
  have HO := Lib.hid ho
  clear hr hr0 ho
  go_enter Tryd.func57, Tryd.ntmps57
  go_wp2_with fail
  refine (after_new B p s hs p (by omega) [4, 5, 6] (by decide) _ 3 _ rfl rfl (w.alloc (.cells zeroA 69)) (by simp) Hr0.out).mono ?_
  rintro e w1 ⟨rfl, hb1⟩
  rw [of_word]
  generalize tw isWord (rest s p) = n at *
  have hr1 := Hr0.out.kept hb1
  have hT1 := HT0.out.below hb1
  have hb01 : Below w.heap.size w w1 := hb0.trans (hb1.mono hb0.size)
  have hat1 := hr1.at
  have Hr1 := Lib.hid hr1
  have HT1 := Lib.hid hT1
  clear hr1 hT1 hat0 hb1 hb0
  by_cases h : 24 < n
  · have HO1 := Lib.hid (HO.out.trans (if_pos h))
    have hI : (24 : Int) < ((p + n : Nat) : Int) - (p : Int) := by omega
    have h1 : ((p + n : Nat) : Int) ≤ 100000 := by omega
    generalize p + n = q at *
    go_wp2_with (first | (refine wpList_store_row rfl 69 (.tmp 2) (.tmp 19) rfl w.heap.size zeroA rfl rfl 69 zeroA HT1.out (by kernel_rfl) rfl zeroA_one ?_))
    refine bodyPost_ret (results_tok2 Tryd.results57 _ _ w.heap.size _ rfl rfl (HT1.out.row _)) rfl ?_
    rw [HO1.out]
    exact ⟨rfl, Hr1.out.only (only_row _ _ _) hne, only_new (only_below B hb01) (only_row _ _ _) (Nat.le_refl _)⟩
  · have HO1 := Lib.hid (HO.out.trans (if_neg h))
    have hI : ¬ (24 : Int) < ((p + n : Nat) : Int) - (p : Int) := by omega
    have h1 : ((p + n : Nat) : Int) ≤ 100000 := by omega
    have hq1 : p ≤ p + n := by omega
    have hq2 : p + n ≤ s.size := by omega
    generalize hq : p + n = q at *
    have Hq := Lib.hid hq
    clear hq h
    go_wp2_with fail
    refine (take_any B p s hs 1 q (by decide) hq1 hq2 w1 Hr1.out).mono ?_
    rintro e w2 ⟨rfl, hr2, hon2⟩
    have hT2 := HT1.out.kept hon2 (fun h => hne (by cases h; rfl))
    have Hr2 := Lib.hid hr2
    have HT2 := Lib.hid hT2
    clear hr2 hT2
    go_wp2_with (first | (refine wpList_store_row rfl 69 (.tmp 2) (.tmp 22) rfl w.heap.size (tokA 1 p 0 (s.extract p q)) rfl rfl 69 zeroA HT2.out (by kernel_rfl) rfl (tokA_one _ _ _ _) ?_))
    refine bodyPost_ret (results_tok2 Tryd.results57 _ _ w.heap.size _ rfl rfl (HT2.out.row _)) rfl ?_
    rw [HO1.out, He.out]
    refine ⟨rfl, ?_, only_new (only_trans (only_below B hb01) hon2) (only_row _ _ _) (Nat.le_refl _)⟩
    rw [Hq.out]
    exact Hr2.out.only (only_row _ _ _) hne

end Go.Proofs.YtcabhanmeookkaaDoor.Lx
