/- Walks over package fraction: results, validity, Of. -/
import Derived.Test.YtflnhjfmlminoaaDoorFrcW5
namespace Go.Proofs.YtflnhjfmlminoaaDoor.Fr
set_option linter.unusedVariables false
set_option linter.unusedSimpArgs false
open Go.RowKit

theorem term_any (P : Int) (c : Nat) (b : Bool) (w : World) (hc : One w c 4 (.bool b)) :
    Calls Tryd.prog 49 #[.agg #[.int .i64 (hiW P), .int .u64 (loW P)], .pointer (some ⟨c, 0, none⟩)] w (TermPost P c (b && isT P) w) := by
  cases b with
  | false => exact term_off P c w hc
  | true =>
    cases hP : isT P with
    | false => exact term_no P c w hc hP
    | true => exact term_yes P c w hc hP

theorem cutI {p q : Prop} (h : p) (k : p → q) : q := k h
theorem two_kept {c : Nat} {W w1 : World} {t : TypeId} {x y : Value} (hk : KeptBut c (W.alloc (.cells #[x, y] t)).drew w1) (hc : W.heap.size ≠ c) : Two w1 W.heap.size t x y :=
  (hk.block W.heap.size (by simp) hc).trans (Two.new W t x y)
theorem two_kept2 {c : Nat} {w1 w2 : World} {t : TypeId} {x y : Value} {B : Nat} (hk : KeptBut c w1 w2) (h : Two w1 B t x y) (hc : B ≠ c) : Two w2 B t x y :=
  (hk.block B h.lt hc).trans h
theorem two_kept3 {W w1 : World} {c : Nat} {t : TypeId} {x y : Value} (hk : KeptBut c (W.alloc (.cells #[x, y] t)) w1) (hc : W.heap.size ≠ c) : Two w1 W.heap.size t x y :=
  (hk.block W.heap.size (by simp) hc).trans (Two.new W t x y)

theorem Two.set2 {w : World} {B : Nat} {t : TypeId} {x y : Value} (h : Two w B t x y) (a b : Value) : Two ((w.setCell ⟨B, 0, none⟩ a).setCell ⟨B, 1, none⟩ b) B t a b := by
  unfold Two at h ⊢
  rw [heap_setCell_same _ _ _ _ _ _ (heap_setCell_same _ _ _ _ _ _ h)]
  rfl
theorem heap_set2 (w : World) (B k : Nat) (a b : Value) (h : k ≠ B) : ((w.setCell ⟨B, 0, none⟩ a).setCell ⟨B, 1, none⟩ b).heap[k]? = w.heap[k]? := by
  rw [heap_setCell_other _ _ _ _ h, heap_setCell_other _ _ _ _ h]
/-- what the region of result leaves -/
def ResAt (w : World) (P Q : Int) (R : Bool) (v : Value) (wx : World) : Prop :=
  ∃ (B : Nat) (n m : Int), v = .pointer (some ⟨B, 0, none⟩) ∧ Two wx B 23 (.int .i64 n) (.int .i64 m) ∧ One wx (w.heap.size + 1 + 1 + 1) 4 (.bool R) ∧ (R = true → n = P ∧ m = Q) ∧ Two wx (w.heap.size + 1 + 1) 23 (.int .i64 0) (.int .i64 0) ∧ Below w.heap.size w wx
theorem res_num {P Q n m : Int} {R : Bool} (hR : (isT P && isT Q) = R) (hn : (true && isT P) = true → n = P) (hm : (true && isT P && isT Q) = true → m = Q) : (true && isT P && isT Q) = R ∧ (R = true → n = P ∧ m = Q) := by
  subst hR
  cases h1 : isT P <;> cases h2 : isT Q <;> simp_all
theorem res_alloc {w w2 : World} {P Q n m : Int} {R : Bool} (hR : (isT P && isT Q) = R) (hn : (true && isT P) = true → n = P) (hm : (true && isT P && isT Q) = true → m = Q)
    (o2 : One w2 (w.heap.size + 1 + 1 + 1) 4 (.bool (true && isT P && isT Q))) (s2 : Two w2 (w.heap.size + 1 + 1) 23 (.int .i64 0) (.int .i64 0)) (hb : Below w.heap.size w w2) :
    ResAt w P Q R (.pointer (some ⟨w2.heap.size, 0, none⟩)) (w2.alloc (.cells #[.int .i64 n, .int .i64 m] 23)) := by
  obtain ⟨e1, e2⟩ := res_num hR hn hm
  rw [e1] at o2
  exact ⟨_, n, m, rfl, Two.new _ _ _ _, o2.alloc _, e2, s2.alloc _, hb.alloc hb.size _⟩
theorem res_set {w w2 : World} {P Q n m : Int} {R : Bool} {B : Nat} (hR : (isT P && isT Q) = R) (hn : (true && isT P) = true → n = P) (hm : (true && isT P && isT Q) = true → m = Q)
    (o2 : One w2 (w.heap.size + 1 + 1 + 1) 4 (.bool (true && isT P && isT Q))) (s2 : Two w2 (w.heap.size + 1 + 1) 23 (.int .i64 0) (.int .i64 0)) (hb : Below w.heap.size w w2)
    (q8 : Two w2 B 23 (.int .i64 0) (.int .i64 0)) (hB : w.heap.size + 1 + 1 + 1 < B) :
    ResAt w P Q R (.pointer (some ⟨B, 0, none⟩)) ((w2.setCell ⟨B, 0, none⟩ (.int .i64 n)).setCell ⟨B, 1, none⟩ (.int .i64 m)) := by
  obtain ⟨e1, e2⟩ := res_num hR hn hm
  rw [e1] at o2
  refine ⟨_, n, m, rfl, q8.set2 _ _, ?_, e2, ?_, (hb.setCell (by show w.heap.size ≤ B; omega) _).setCell (by show w.heap.size ≤ B; omega) _⟩
  · exact (heap_set2 _ _ _ _ _ (by omega)).trans o2
  · exact (heap_set2 _ _ _ _ _ (by omega)).trans s2

set_option maxRecDepth 100000 in
set_option maxHeartbeats 4000000 in
theorem result_any (P Q : Int) (w : World) :
    Calls Tryd.prog 29 #[.agg #[.int .i64 (hiW P), .int .u64 (loW P)], .agg #[.int .i64 (hiW Q), .int .u64 (loW Q)]] w fun e w' => e = .returned (.tuple #[.agg #[.int .i64 (if isT P && isT Q then P else 0), .int .i64 (if isT P && isT Q then Q else 0)], .int .i64 (if isT P && isT Q then 0 else 9)]) ∧ Below w.heap.size w w' := by
  generalize hR : (isT P && isT Q) = R
  go_enter Tryd.func29, Tryd.ntmps29
  go_upto_region 3 with fail
  have t2 : Two ((((w.alloc (Obj.cells #[Value.int IntKind.i64 (hiW P), Value.int IntKind.u64 (loW P)] 45)).alloc (Obj.cells #[Value.int IntKind.i64 (hiW Q), Value.int IntKind.u64 (loW Q)] 45)).alloc (Obj.cells #[Value.int IntKind.i64 0, Value.int IntKind.i64 0] 23)).alloc (Obj.cells #[Value.bool true] 4)) w.heap.size 45 (.int .i64 (hiW P)) (.int .u64 (loW P)) := (((Two.new _ _ _ _).alloc _).alloc _).alloc _
  have t3 : Two ((((w.alloc (Obj.cells #[Value.int IntKind.i64 (hiW P), Value.int IntKind.u64 (loW P)] 45)).alloc (Obj.cells #[Value.int IntKind.i64 (hiW Q), Value.int IntKind.u64 (loW Q)] 45)).alloc (Obj.cells #[Value.int IntKind.i64 0, Value.int IntKind.i64 0] 23)).alloc (Obj.cells #[Value.bool true] 4)) (w.heap.size + 1) 45 (.int .i64 (hiW Q)) (.int .u64 (loW Q)) := ((Two.at (by simp) _ _ _).alloc _).alloc _
  have t4 : Two ((((w.alloc (Obj.cells #[Value.int IntKind.i64 (hiW P), Value.int IntKind.u64 (loW P)] 45)).alloc (Obj.cells #[Value.int IntKind.i64 (hiW Q), Value.int IntKind.u64 (loW Q)] 45)).alloc (Obj.cells #[Value.int IntKind.i64 0, Value.int IntKind.i64 0] 23)).alloc (Obj.cells #[Value.bool true] 4)) (w.heap.size + 1 + 1) 23 (.int .i64 0) (.int .i64 0) := (Two.at (by simp) _ _ _).alloc _
  have o4 : One ((((w.alloc (Obj.cells #[Value.int IntKind.i64 (hiW P), Value.int IntKind.u64 (loW P)] 45)).alloc (Obj.cells #[Value.int IntKind.i64 (hiW Q), Value.int IntKind.u64 (loW Q)] 45)).alloc (Obj.cells #[Value.int IntKind.i64 0, Value.int IntKind.i64 0] 23)).alloc (Obj.cells #[Value.bool true] 4)) (w.heap.size + 1 + 1 + 1) 4 (.bool true) := One.at (by simp) _ _
  have hB : Below w.heap.size w ((((w.alloc (Obj.cells #[Value.int IntKind.i64 (hiW P), Value.int IntKind.u64 (loW P)] 45)).alloc (Obj.cells #[Value.int IntKind.i64 (hiW Q), Value.int IntKind.u64 (loW Q)] 45)).alloc (Obj.cells #[Value.int IntKind.i64 0, Value.int IntKind.i64 0] 23)).alloc (Obj.cells #[Value.bool true] 4)) := ((((Below.refl _ _).alloc (Nat.le_refl _) _).alloc (by simp) _).alloc (by simp; omega) _).alloc (by simp; omega) _
  generalize ((((w.alloc (Obj.cells #[Value.int IntKind.i64 (hiW P), Value.int IntKind.u64 (loW P)] 45)).alloc (Obj.cells #[Value.int IntKind.i64 (hiW Q), Value.int IntKind.u64 (loW Q)] 45)).alloc (Obj.cells #[Value.int IntKind.i64 0, Value.int IntKind.i64 0] 23)).alloc (Obj.cells #[Value.bool true] 4)) = W at t2 t3 t4 o4 hB ⊢
  have hW4 := o4.lt
  have hW3 : w.heap.size + 1 < W.heap.size := by omega
  have hW2 : w.heap.size < W.heap.size := by omega
  have hW5 : Hid (W.heap.size ≠ w.heap.size + 1 + 1 + 1) := by show W.heap.size ≠ _; omega
  have HB := hB
  clear hB
  obtain ⟨a1, a2, a3, a4⟩ := t2.facts
  obtain ⟨b1, b2, b3, b4⟩ := t3.facts
  go_cut [8] (fun v wx => ResAt w P Q R v wx)
  case first =>
    go_region_with (first
      | (go_at_call 49; have hz := o1; refine (term_any Q _ (true && isT P) _ ?_).mono ?_; (first | exact o1 | exact o1.alloc _); rintro e w2 ⟨m, rfl, hm, hk2, o2⟩; have s2 : Two w2 (w.heap.size + 1 + 1) 23 (.int .i64 0) (.int .i64 0) := (hk2.block _ (by first | omega | (simp; omega)) (by omega)).trans (by first | exact s1 | exact s1.alloc _); have HB2 : Below w.heap.size w w2 := hk2.below (by first | exact HB1 | exact HB1.alloc (by omega) _) (by omega) (by first | omega | (simp; omega)); (try (refine cutI (two_kept2 hk2 p8 hW5.out) (fun q8 => ?_); obtain ⟨g1, g2, g3, g4⟩ := q8.facts)); (try (refine cutI (two_kept3 hk2 (by omega)) (fun q8 => ?_); obtain ⟨g1, g2, g3, g4⟩ := q8.facts)))
      | (go_at_call 49; refine (term_any P _ true _ ?_).mono ?_; (first | exact o4 | exact o4.alloc _); rintro e w1 ⟨n, rfl, hn, hk1, o1⟩; have p3 : Two w1 (w.heap.size + 1) 45 (.int .i64 (hiW Q)) (.int .u64 (loW Q)) := (hk1.block _ (by simp; omega) (by omega)).trans (by first | exact t3 | exact t3.alloc _); obtain ⟨d1, d2, d3, d4⟩ := p3.facts; have l1 := o1.lt; have s1 : Two w1 (w.heap.size + 1 + 1) 23 (.int .i64 0) (.int .i64 0) := (hk1.block _ (by simp; omega) (by omega)).trans (by first | exact t4 | exact t4.alloc _); have HB1 : Below w.heap.size w w1 := hk1.below (by first | exact HB.drew | exact (HB.alloc (by omega) _).drew) (by omega) (by simp; omega); have l2 : w.heap.size + 1 < w1.heap.size := (by omega); have l3 : w.heap.size < w1.heap.size := (by omega); (try (refine cutI (two_kept hk1 hW5.out) (fun p8 => ?_); obtain ⟨e1, e2, e3, e4⟩ := p8.facts))))
    all_goals
      go_wp2_with fail
      go_meet
      first
        | exact res_alloc hR hn hm o2 s2 HB2
        | exact res_set hR hn hm o2 s2 HB2 q8 l1
        | exact res_set hR hn hm o2 s2 HB2 q8 hW4
  case rest =>
    obtain ⟨B, n, m, rfl, t8, o9, hnm, t9, hb9⟩ := hcut
    obtain ⟨c1, c2, c3, c4⟩ := t8.facts
    obtain ⟨d1, d2⟩ := o9.facts
    obtain ⟨e1, e2, e3, e4⟩ := t9.facts
    have Hnm := Lib.hid hnm
    clear hnm
    cases R with
    | false =>
      go_wp2_with fail
      refine bodyPost_ret (v := .tuple #[.agg #[.int .i64 0, .int .i64 0], .int .i64 9]) ?_ rfl ⟨rfl, ?_⟩
      · simp [results, Tryd.results29, go_sem, e1, e2]
      · exact (hb9.setCell (by show w.heap.size ≤ w.heap.size + 1 + 1; omega) _).setCell (by show w.heap.size ≤ w.heap.size + 1 + 1; omega) _
    | true =>
      obtain ⟨rfl, rfl⟩ := Hnm.out rfl
      go_wp2_with fail
      refine bodyPost_ret (v := .tuple #[.agg #[.int .i64 n, .int .i64 m], .int .i64 0]) ?_ rfl ⟨rfl, ?_⟩
      · simp [results, Tryd.results29, go_sem, e1, e2]
      · exact (hb9.setCell (by show w.heap.size ≤ w.heap.size + 1 + 1; omega) _).setCell (by show w.heap.size ≤ w.heap.size + 1 + 1; omega) _
end Go.Proofs.YtflnhjfmlminoaaDoor.Fr
