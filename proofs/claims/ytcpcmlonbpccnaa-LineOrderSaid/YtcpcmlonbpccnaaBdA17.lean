/- Walks over package line: what a keeper keeps, and the place of a point beside a segment. -/
import Derived.Test.YtcpcmlonbpccnaaBdA15
import Derived.Test.YtcpcmlonbpccnaaBdA16
import Derived.BigRegion
import Derived.Test.YtcpcmlonbpccnaaRegLast
namespace Go.Proofs.Ytcpcmlonbpccnaa.Ge
set_option linter.unusedVariables false
set_option linter.unusedSimpArgs false
open Go.RowKit Go.Shelf
open Go.Proofs.Ytcpcmlonbpccnaa.Fr

/-- block B holds a place -/
def SpAt (W : World) (B : Nat) (s : Sp) : Prop := W.heap[B]? = some (.cells #[.int .i64 s.1, .int .i64 s.2.1.1, .int .i64 s.2.1.2, .int .i64 s.2.2.1, .int .i64 s.2.2.2.1, .int .i64 s.2.2.2.2] 28 (0, 0))
theorem SpAt.lt {W : World} {B : Nat} {s : Sp} (h : SpAt W B s) : B < W.heap.size := (Array.getElem?_eq_some_iff.1 h).1
theorem SpAt.new (W : World) (s : Sp) : SpAt (W.alloc (.cells #[.int .i64 s.1, .int .i64 s.2.1.1, .int .i64 s.2.1.2, .int .i64 s.2.2.1, .int .i64 s.2.2.2.1, .int .i64 s.2.2.2.2] 28)) W.heap.size s := World.alloc_heap_new W _
theorem SpAt.facts {W : World} {B : Nat} {s : Sp} (h : SpAt W B s) : (W.cell? ⟨B, 0, none⟩ = some (.int .i64 s.1) ∧ W.cell? ⟨B, 1, none⟩ = some (.int .i64 s.2.1.1) ∧ W.cell? ⟨B, 2, none⟩ = some (.int .i64 s.2.1.2) ∧ W.cell? ⟨B, 3, none⟩ = some (.int .i64 s.2.2.1) ∧ W.cell? ⟨B, 4, none⟩ = some (.int .i64 s.2.2.2.1) ∧ W.cell? ⟨B, 5, none⟩ = some (.int .i64 s.2.2.2.2)) ∧
    (W.frozen? ⟨B, 0, none⟩ = false ∧ W.frozen? ⟨B, 1, none⟩ = false ∧ W.frozen? ⟨B, 2, none⟩ = false ∧ W.frozen? ⟨B, 3, none⟩ = false ∧ W.frozen? ⟨B, 4, none⟩ = false ∧ W.frozen? ⟨B, 5, none⟩ = false) := by
  unfold SpAt at h
  simp [World.cell?, World.frozen?, h]
theorem SpAt.kept {W W' : World} {row : Option Nat} {B : Nat} {s : Sp} (h : SpAt W B s) (hg : W.grownBy W' row) (hne : some B ≠ row) : SpAt W' B s := (hg.block B h.lt hne).trans h
theorem SpAt.alloc {W : World} {B : Nat} {s : Sp} (h : SpAt W B s) (o : Obj) : SpAt (W.alloc o) B s := h.kept (World.grownBy_alloc W o none) (by simp)
theorem SpAt.below {W W' : World} {N B : Nat} {s : Sp} (h : SpAt W B s) (hb : Below N W W') (hlt : B < N) : SpAt W' B s := (hb.block B hlt).trans h
theorem sp_own {β : Type} (B : Nat) (f : β → Sp) : Own (fun s W => SpAt W B (f s)) := fun s X Y row hs hg hrow =>
  hs.kept hg (fun e' => by obtain ⟨o, ho, hc⟩ := hrow B e'.symm; rw [show X.heap[B]? = _ from hs] at ho; cases ho; cases hc)
theorem two_own {β : Type} (t : TypeId) (B : Nat) (f g : β → Value) : Own (fun s W => Two W B t (f s) (g s)) := fun s X Y row hs hg hrow =>
  (hg.block B hs.lt (fun e' => by obtain ⟨o, ho, hc⟩ := hrow B e'.symm; rw [show X.heap[B]? = _ from hs] at ho; cases ho; cases hc)).trans hs

def leastF {α : Type} (s : Option (α × (Int × Int))) : Int × Int := match s with | none => (0, 0) | some b => b.2
/-- what a keeper of places has in memory -/
structure KpSt (W : World) (Bb Bl Bn : Nat) (s : Option (Sp × (Int × Int))) : Prop where
  best : SpAt W Bb (bestS s)
  least : Two W Bl 26 (.int .i64 (leastF s).1) (.int .i64 (leastF s).2)
  non : Boxed W Bn 4 (.bool s.isNone)
theorem KpSt.below {W W' : World} {Bb Bl Bn N : Nat} {s : Option (Sp × (Int × Int))} (h : KpSt W Bb Bl Bn s) (hb : Below N W W') (h1 : Bb < N) (h2 : Bl < N) (h3 : Bn < N) : KpSt W' Bb Bl Bn s :=
  ⟨h.best.below hb h1, h.least.below hb h2, boxed_below h.non hb h3⟩
theorem kpst_own {β : Type} (Bb Bl Bn : Nat) (f : β → Option (Sp × (Int × Int))) : Own (fun s W => KpSt W Bb Bl Bn (f s)) := fun s X Y row hs hg hrow =>
  ⟨sp_own Bb (fun s => bestS (f s)) s X Y row hs.best hg hrow, two_own _ Bl (fun s => .int .i64 (leastF (f s)).1) (fun s => .int .i64 (leastF (f s)).2) s X Y row hs.least hg hrow, boxed_own Bn _ (fun s => .bool (f s).isNone) s X Y row hs.non hg hrow⟩

theorem keeper_any (w : World) :
    Calls Try.prog 49 #[] w fun e w' => e = .returned (.func (.func 93) #[] #[.pointer (some ⟨w.heap.size + 1, 0, none⟩), .pointer (some ⟨w.heap.size + 1 + 1, 0, none⟩), .pointer (some ⟨w.heap.size, 0, none⟩)]) ∧ KpSt w' w.heap.size (w.heap.size + 1) (w.heap.size + 1 + 1) none ∧ Below w.heap.size w w' ∧ w'.heap.size = w.heap.size + 3 := by
  go_enter Try.func49, Try.ntmps49
  go_wp2_with fail
  go_ret
  refine ⟨rfl, ⟨?_, ?_, ?_⟩, ?_, by simp⟩
  · exact ((SpAt.new w spZ).alloc _).alloc _
  · exact (Two.at (w := w.alloc _) (by simp) _ _ _).alloc _
  · have h := Boxed.new ((w.alloc (.cells #[.int .i64 0, .int .i64 0, .int .i64 0, .int .i64 0, .int .i64 0, .int .i64 0] 28)).alloc (.cells #[.int .i64 0, .int .i64 0] 26)) 4 (.bool true)
    simp only [World.size_alloc] at h
    exact h
  · exact (((Below.refl _ w).alloc (Nat.le_refl _) _).alloc (by simp) _).alloc (by simp; omega) _

/-- a call may have changed three blocks of those that were there -/
structure Kept3 (a b c : Nat) (w w' : World) : Prop where
  os : w'.os = w.os
  tape : w'.tape = w.tape
  output : w'.output = w.output
  size : w.heap.size ≤ w'.heap.size
  block : ∀ k, k < w.heap.size → k ≠ a → k ≠ b → k ≠ c → w'.heap[k]? = w.heap[k]?
theorem Kept3.of {a b c : Nat} {w w' : World} (h : Below w.heap.size w w') : Kept3 a b c w w' := ⟨h.os, h.tape, h.output, h.size, fun k hk _ _ _ => h.block k hk⟩
theorem Kept3.drew {a b c : Nat} {w w' : World} (h : Kept3 a b c w w') : Kept3 a b c w w'.drew := ⟨h.os, h.tape, h.output, h.size, h.block⟩
theorem Kept3.set {a b c : Nat} {w w' : World} (h : Kept3 a b c w w') {p : Addr} (hp : p.block = a ∨ p.block = b ∨ p.block = c ∨ w.heap.size ≤ p.block) (v : Value) : Kept3 a b c w (w'.setCell p v) :=
  ⟨h.os, h.tape, h.output, by simpa [World.setCell] using h.size, fun k hk h1 h2 h3 => by rw [heap_setCell_other _ _ _ _ (by rcases hp with e | e | e | e <;> omega)]; exact h.block k hk h1 h2 h3⟩
theorem Kept3.trans {a b c : Nat} {w w1 w2 : World} (h : Kept3 a b c w w1) (k : Kept3 a b c w1 w2) : Kept3 a b c w w2 :=
  ⟨k.os.trans h.os, k.tape.trans h.tape, k.output.trans h.output, Nat.le_trans h.size k.size, fun i hi h1 h2 h3 => (k.block i (Nat.lt_of_lt_of_le hi h.size) h1 h2 h3).trans (h.block i hi h1 h2 h3)⟩
theorem Kept3.to_below {a b c N : Nat} {w w' : World} (h : Kept3 a b c w w') (ha : N ≤ a) (hb : N ≤ b) (hc : N ≤ c) (hN : N ≤ w.heap.size) : Below N w w' :=
  ⟨h.os, h.tape, h.output, h.size, fun k hk => h.block k (by omega) (by omega) (by omega) (by omega)⟩
theorem Kept3.others {a b c : Nat} {w w' : World} (h : Kept3 a b c w w') (ha : ∃ o, w.heap[a]? = some o ∧ o.isCells = true) (hb : ∃ o, w.heap[b]? = some o ∧ o.isCells = true) (hc : ∃ o, w.heap[c]? = some o ∧ o.isCells = true) : KeepsOthers w w' :=
  ⟨h.size, fun k o hk hn => by
    have no : ∀ i, (∃ o, w.heap[i]? = some o ∧ o.isCells = true) → k ≠ i := fun i ⟨o', h1, h2⟩ e => by
      subst e
      rw [hk] at h1
      cases h1
      rw [hn] at h2
      cases h2
    exact (h.block k (Array.getElem?_eq_some_iff.1 hk).1 (no a ha) (no b hb) (no c hc)).trans hk⟩
theorem KpSt.others {W W' : World} {Bb Bl Bn : Nat} {s : Option (Sp × (Int × Int))} (h : KpSt W Bb Bl Bn s) (k : Kept3 Bb Bl Bn W W') : KeepsOthers W W' :=
  k.others ⟨_, h.best, rfl⟩ ⟨_, h.least, rfl⟩ ⟨_, h.non, rfl⟩
theorem SpAt.set6 {w : World} {B : Nat} {s : Sp} (h : SpAt w B s) (x : Sp) : SpAt ((((((w.setCell ⟨B, 0, none⟩ (.int .i64 x.1)).setCell ⟨B, 1, none⟩ (.int .i64 x.2.1.1)).setCell ⟨B, 2, none⟩ (.int .i64 x.2.1.2)).setCell ⟨B, 3, none⟩ (.int .i64 x.2.2.1)).setCell ⟨B, 4, none⟩ (.int .i64 x.2.2.2.1)).setCell ⟨B, 5, none⟩ (.int .i64 x.2.2.2.2)) B x := by
  unfold SpAt at h ⊢
  rw [heap_setCell_same _ _ _ _ _ _ (heap_setCell_same _ _ _ _ _ _ (heap_setCell_same _ _ _ _ _ _ (heap_setCell_same _ _ _ _ _ _ (heap_setCell_same _ _ _ _ _ _ (heap_setCell_same _ _ _ _ _ _ h)))))]
  rfl

theorem SpAt.other {w : World} {B : Nat} {s : Sp} (h : SpAt w B s) {p : Addr} (hne : B ≠ p.block) (v : Value) : SpAt (w.setCell p v) B s := by
  unfold SpAt at h ⊢
  rw [heap_setCell_other _ _ _ _ hne]
  exact h
theorem two_other {w : World} {B : Nat} {t : TypeId} {x y : Value} (h : Two w B t x y) {p : Addr} (hne : B ≠ p.block) (v : Value) : Two (w.setCell p v) B t x y := by
  unfold Two at h ⊢
  rw [heap_setCell_other _ _ _ _ hne]
  exact h
theorem boxed_other {w : World} {B : Nat} {t : TypeId} {x : Value} (h : Boxed w B t x) {p : Addr} (hne : B ≠ p.block) (v : Value) : Boxed (w.setCell p v) B t x := by
  unfold Boxed at h ⊢
  rw [heap_setCell_other _ _ _ _ hne]
  exact h
/-- a place laid into block B -/
def sixW (w : World) (B : Nat) (x : Sp) : World :=
  (((((w.setCell ⟨B, 0, none⟩ (.int .i64 x.1)).setCell ⟨B, 1, none⟩ (.int .i64 x.2.1.1)).setCell ⟨B, 2, none⟩ (.int .i64 x.2.1.2)).setCell ⟨B, 3, none⟩ (.int .i64 x.2.2.1)).setCell ⟨B, 4, none⟩ (.int .i64 x.2.2.2.1)).setCell ⟨B, 5, none⟩ (.int .i64 x.2.2.2.2)
theorem six_heap (w : World) (B : Nat) (x : Sp) (k : Nat) (h : k ≠ B) : (sixW w B x).heap[k]? = w.heap[k]? := by
  unfold sixW
  rw [heap_setCell_other _ _ _ _ h, heap_setCell_other _ _ _ _ h, heap_setCell_other _ _ _ _ h, heap_setCell_other _ _ _ _ h, heap_setCell_other _ _ _ _ h, heap_setCell_other _ _ _ _ h]
theorem six_at {w : World} {B : Nat} {s : Sp} (h : SpAt w B s) (x : Sp) : SpAt (sixW w B x) B x := h.set6 x
theorem six_size (w : World) (B : Nat) (x : Sp) : (sixW w B x).heap.size = w.heap.size := by unfold sixW; simp [World.setCell]
theorem six_below (w : World) (B : Nat) (x : Sp) : Below B w (sixW w B x) := by
  unfold sixW
  exact ((((((Below.refl B w).setCell (p := ⟨B, 0, none⟩) (Nat.le_refl _) _).setCell (p := ⟨B, 1, none⟩) (Nat.le_refl _) _).setCell (p := ⟨B, 2, none⟩) (Nat.le_refl _) _).setCell (p := ⟨B, 3, none⟩) (Nat.le_refl _) _).setCell (p := ⟨B, 4, none⟩) (Nat.le_refl _) _).setCell (p := ⟨B, 5, none⟩) (Nat.le_refl _) _
theorem six_kept {a b c : Nat} {w0 w : World} (h : Kept3 a b c w0 w) {B : Nat} (hB : B = a ∨ B = b ∨ B = c ∨ w0.heap.size ≤ B) (x : Sp) : Kept3 a b c w0 (sixW w B x) :=
  ⟨(six_below w B x).os.trans h.os, (six_below w B x).tape.trans h.tape, (six_below w B x).output.trans h.output, by rw [six_size]; exact h.size, fun k hk h1 h2 h3 => by rw [six_heap _ _ _ _ (by rcases hB with e | e | e | e <;> omega)]; exact h.block k hk h1 h2 h3⟩
/-- the world in which a keeper has been told of something better -/
def toldW (w : World) (Bb Bl Bn : Nat) (x : Sp) (f : Int × Int) : World :=
  ((((sixW w Bb x).setCell ⟨Bl, 0, none⟩ (.int .i64 f.1)).setCell ⟨Bl, 1, none⟩ (.int .i64 f.2)).setCell ⟨Bn, 0, none⟩ (.bool false)).drew
theorem told_st {w : World} {Bb Bl Bn : Nat} {s : Option (Sp × (Int × Int))} (h : KpSt w Bb Bl Bn s) (h12 : Bb ≠ Bl) (h13 : Bb ≠ Bn) (h23 : Bl ≠ Bn) (x : Sp) (f : Int × Int) : KpSt (toldW w Bb Bl Bn x f) Bb Bl Bn (some (x, f)) := by
  have a1 := six_at h.best x
  have a2 : Two (sixW w Bb x) Bl 26 (.int .i64 (leastF s).1) (.int .i64 (leastF s).2) := (six_heap w Bb x Bl (Ne.symm h12)).trans h.least
  have a3 : Boxed (sixW w Bb x) Bn 4 (.bool s.isNone) := (six_heap w Bb x Bn (Ne.symm h13)).trans h.non
  unfold toldW
  generalize sixW w Bb x = v at *
  have b1 := a1.other (p := ⟨Bl, 0, none⟩) h12 (.int .i64 f.1)
  have b2 := a2.set2 (.int .i64 f.1) (.int .i64 f.2)
  have b3 := boxed_other a3 (p := ⟨Bl, 0, none⟩) (Ne.symm h23) (.int .i64 f.1)
  generalize v.setCell ⟨Bl, 0, none⟩ (.int .i64 f.1) = v1 at *
  have c1 := b1.other (p := ⟨Bl, 1, none⟩) h12 (.int .i64 f.2)
  have c3 := boxed_other b3 (p := ⟨Bl, 1, none⟩) (Ne.symm h23) (.int .i64 f.2)
  generalize v1.setCell ⟨Bl, 1, none⟩ (.int .i64 f.2) = v2 at *
  exact ⟨c1.other (p := ⟨Bn, 0, none⟩) h13 _, two_other b2 (p := ⟨Bn, 0, none⟩) h23 _, c3.set _⟩
theorem told_kept {w0 w : World} {Bb Bl Bn : Nat} (h : Kept3 Bb Bl Bn w0 w) (x : Sp) (f : Int × Int) : Kept3 Bb Bl Bn w0 (toldW w Bb Bl Bn x f) :=
  ((((six_kept h (.inl rfl) x).set (p := ⟨Bl, 0, none⟩) (.inr (.inl rfl)) _).set (p := ⟨Bl, 1, none⟩) (.inr (.inl rfl)) _).set (p := ⟨Bn, 0, none⟩) (.inr (.inr (.inl rfl))) _).drew
theorem told_other {w : World} {Bb Bl Bn : Nat} {B : Nat} {s : Sp} (h : SpAt w B s) (h1 : B ≠ Bb) (h2 : B ≠ Bl) (h3 : B ≠ Bn) (x : Sp) (f : Int × Int) : SpAt (toldW w Bb Bl Bn x f) B s := by
  have a : SpAt (sixW w Bb x) B s := (six_heap w Bb x B h1).trans h
  unfold toldW
  generalize sixW w Bb x = v at *
  exact ((a.other (p := ⟨Bl, 0, none⟩) h2 _).other (p := ⟨Bl, 1, none⟩) h2 _).other (p := ⟨Bn, 0, none⟩) h3 _
theorem KpSt.six {w : World} {Bb Bl Bn B : Nat} {s : Option (Sp × (Int × Int))} (h : KpSt w Bb Bl Bn s) (h1 : Bb ≠ B) (h2 : Bl ≠ B) (h3 : Bn ≠ B) (x : Sp) : KpSt (sixW w B x) Bb Bl Bn s :=
  ⟨(six_heap w B x Bb h1).trans h.best, (six_heap w B x Bl h2).trans h.least, (six_heap w B x Bn h3).trans h.non⟩
theorem kp_none {α : Type} (x : α) (f : Int × Int) : kp none x f = (x, f) := rfl
theorem kp_yes {α : Type} {b : α × (Int × Int)} (x : α) {f : Int × Int} (h : fLt f b.2 = true) : kp (some b) x f = (x, f) := by unfold kp; dsimp only; rw [if_pos h]
theorem kp_no {α : Type} {b : α × (Int × Int)} (x : α) {f : Int × Int} (h : fLt f b.2 = false) : kp (some b) x f = b := by unfold kp; dsimp only; rw [if_neg (by rw [h]; exact Bool.false_ne_true)]
set_option maxRecDepth 100000 in
set_option maxHeartbeats 2000000 in
theorem keep_none (x : Sp) (f : Int × Int) (Bb Bl Bn : Nat) (h12 : Bb ≠ Bl) (h13 : Bb ≠ Bn) (h23 : Bl ≠ Bn) (w : World) (h : KpSt w Bb Bl Bn none) :
    Calls Try.prog 93 #[spV x, .agg #[.int .i64 f.1, .int .i64 f.2], .pointer (some ⟨Bl, 0, none⟩), .pointer (some ⟨Bn, 0, none⟩), .pointer (some ⟨Bb, 0, none⟩)] w fun e w' =>
      e = .returned (spV ((x, f)).1) ∧ KpSt w' Bb Bl Bn (some ((x, f))) ∧ Kept3 Bb Bl Bn w w' := by
  have HCmp := Lib.hid (fun w => compare_any f.1 f.2 (leastF (none : Option (Sp × (Int × Int)))).1 (leastF (none : Option (Sp × (Int × Int)))).2 w)
  have hb0 : Below w.heap.size w (((w.alloc (.cells #[.int .i64 x.1, .int .i64 x.2.1.1, .int .i64 x.2.1.2, .int .i64 x.2.2.1, .int .i64 x.2.2.2.1, .int .i64 x.2.2.2.2] 28)).alloc (.cells #[.int .i64 f.1, .int .i64 f.2] 26)).alloc (.cells #[.int .i64 0, .int .i64 0, .int .i64 0, .int .i64 0, .int .i64 0, .int .i64 0] 28)) :=
    (((Below.refl _ w).alloc (Nat.le_refl _) _).alloc (by simp) _).alloc (by simp; omega) _
  have h0 := h.below hb0 h.best.lt h.least.lt h.non.lt
  have bx := ((SpAt.new w x).alloc (.cells #[.int .i64 f.1, .int .i64 f.2] 26)).alloc (.cells #[.int .i64 0, .int .i64 0, .int .i64 0, .int .i64 0, .int .i64 0, .int .i64 0] 28)
  have bf := (Two.at (w := w.alloc (.cells #[.int .i64 x.1, .int .i64 x.2.1.1, .int .i64 x.2.1.2, .int .i64 x.2.2.1, .int .i64 x.2.2.2.1, .int .i64 x.2.2.2.2] 28)) (B := w.heap.size + 1) (by simp) 26 (.int .i64 f.1) (.int .i64 f.2)).alloc (.cells #[.int .i64 0, .int .i64 0, .int .i64 0, .int .i64 0, .int .i64 0, .int .i64 0] 28)
  have br := SpAt.new ((w.alloc (.cells #[.int .i64 x.1, .int .i64 x.2.1.1, .int .i64 x.2.1.2, .int .i64 x.2.2.1, .int .i64 x.2.2.2.1, .int .i64 x.2.2.2.2] 28)).alloc (.cells #[.int .i64 f.1, .int .i64 f.2] 26)) spZ
  simp only [World.size_alloc] at br
  have hsz : (((w.alloc (.cells #[.int .i64 x.1, .int .i64 x.2.1.1, .int .i64 x.2.1.2, .int .i64 x.2.2.1, .int .i64 x.2.2.2.1, .int .i64 x.2.2.2.2] 28)).alloc (.cells #[.int .i64 f.1, .int .i64 f.2] 26)).alloc (.cells #[.int .i64 0, .int .i64 0, .int .i64 0, .int .i64 0, .int .i64 0, .int .i64 0] 28)).heap.size = w.heap.size + 3 := by simp
  unfold spV
  go_enter Try.func93, Try.ntmps93
  obtain ⟨lb, ll, ln⟩ := h
  have l1 := lb.lt
  have l2 := ll.lt
  have l3 := ln.lt
  obtain ⟨c1, c2, c3, c4⟩ := bf.facts
  obtain ⟨d1, d2, d3, d4⟩ := h0.least.facts
  clear lb ll ln
  go_wp2_with fail
  refine (HCmp.out _).mono ?_
  rintro r w1 ⟨rfl, hb1⟩
  obtain ⟨W3, hW3⟩ : ∃ W3, (((w.alloc (.cells #[.int .i64 x.1, .int .i64 x.2.1.1, .int .i64 x.2.1.2, .int .i64 x.2.2.1, .int .i64 x.2.2.2.1, .int .i64 x.2.2.2.2] 28)).alloc (.cells #[.int .i64 f.1, .int .i64 f.2] 26)).alloc (.cells #[.int .i64 0, .int .i64 0, .int .i64 0, .int .i64 0, .int .i64 0, .int .i64 0] 28)) = W3 := ⟨_, rfl⟩
  dsimp only [spZ] at br bx
  rw [hW3] at hb0 h0 bx bf br hsz hb1
  clear hW3
  have bx1 := bx.below hb1 bx.lt
  have bf1 := bf.below hb1 bf.lt
  have br1 := br.below hb1 br.lt
  have h1 := h0.below hb1 (by omega) (by omega) (by omega)
  have hsz1 := hb1.size
  have hk1 : Kept3 Bb Bl Bn w w1 := .of (hb0.trans (hb1.mono (by omega)))
  clear c1 c2 c3 c4 d1 d2 d3 d4
  clear HCmp hb0 hb1 h0 bx bf br
  obtain ⟨⟨x0, x1, x2, x3, x4, x5⟩, -⟩ := bx1.facts
  obtain ⟨c1, c2, c3, c4⟩ := bf1.facts
  obtain ⟨⟨m0, m1, m2, m3, m4, m5⟩, ⟨n0, n1, n2, n3, n4, n5⟩⟩ := h1.best.facts
  obtain ⟨d1, d2, d3, d4⟩ := h1.least.facts
  have e1 := h1.non.cell
  have e2 := h1.non.frozen
  obtain ⟨⟨r0, r1, r2, r3, r4, r5⟩, ⟨t0, t1, t2, t3, t4, t5⟩⟩ := br1.facts
  have KS := Lib.hid (told_st h1 h12 h13 h23 x f)
  have q1 : w.heap.size + 1 + 1 ≠ Bb := by omega
  have q2 : w.heap.size + 1 + 1 ≠ Bl := by omega
  have q3 : w.heap.size + 1 + 1 ≠ Bn := by omega
  have RB := Lib.hid (told_other br1 q1 q2 q3 x f)
  have KK := Lib.hid (told_kept hk1 x f)
  go_wp2
  go_region
  change Exit.then _ _ _ _ (toldW w1 Bb Bl Bn x f)
  generalize toldW w1 Bb Bl Bn x f = w2 at *
  clear x0 x1 x2 x3 x4 x5 c1 c2 c3 c4 m0 m1 m2 m3 m4 m5 n0 n1 n2 n3 n4 n5 d1 d2 d3 d4 e1 e2 r0 r1 r2 r3 r4 r5 t0 t1 t2 t3 t4 t5
  obtain ⟨⟨y0, y1, y2, y3, y4, y5⟩, -⟩ := KS.out.best.facts
  obtain ⟨⟨v0, v1, v2, v3, v4, v5⟩, ⟨u0, u1, u2, u3, u4, u5⟩⟩ := RB.out.facts
  dsimp only [bestS] at y0 y1 y2 y3 y4 y5
  go_wp2
  refine bodyPost_ret (v := .agg #[.int .i64 x.1, .int .i64 x.2.1.1, .int .i64 x.2.1.2, .int .i64 x.2.2.1, .int .i64 x.2.2.2.1, .int .i64 x.2.2.2.2]) ?_ rfl ⟨rfl, KS.out.six (B := w.heap.size + 1 + 1) (by omega) (by omega) (by omega) x, six_kept KK.out (B := w.heap.size + 1 + 1) (.inr (.inr (.inr (by omega)))) x⟩
  obtain ⟨⟨z0, z1, z2, z3, z4, z5⟩, -⟩ := (six_at RB.out x).facts
  unfold sixW at z0 z1 z2 z3 z4 z5
  simp [results, Try.f93, go_sem, z0, z1, z2, z3, z4, z5]

set_option maxRecDepth 100000 in
set_option maxHeartbeats 2000000 in
theorem keep_yes (x : Sp) (f : Int × Int) (b : Sp × (Int × Int)) (hl : fLt f b.2 = true) (Bb Bl Bn : Nat) (h12 : Bb ≠ Bl) (h13 : Bb ≠ Bn) (h23 : Bl ≠ Bn) (w : World) (h : KpSt w Bb Bl Bn (some b)) :
    Calls Try.prog 93 #[spV x, .agg #[.int .i64 f.1, .int .i64 f.2], .pointer (some ⟨Bl, 0, none⟩), .pointer (some ⟨Bn, 0, none⟩), .pointer (some ⟨Bb, 0, none⟩)] w fun e w' =>
      e = .returned (spV ((x, f)).1) ∧ KpSt w' Bb Bl Bn (some ((x, f))) ∧ Kept3 Bb Bl Bn w w' := by
  have HCmp := Lib.hid (fun w => compare_any f.1 f.2 (leastF (some b)).1 (leastF (some b)).2 w)
  have hb0 : Below w.heap.size w (((w.alloc (.cells #[.int .i64 x.1, .int .i64 x.2.1.1, .int .i64 x.2.1.2, .int .i64 x.2.2.1, .int .i64 x.2.2.2.1, .int .i64 x.2.2.2.2] 28)).alloc (.cells #[.int .i64 f.1, .int .i64 f.2] 26)).alloc (.cells #[.int .i64 0, .int .i64 0, .int .i64 0, .int .i64 0, .int .i64 0, .int .i64 0] 28)) :=
    (((Below.refl _ w).alloc (Nat.le_refl _) _).alloc (by simp) _).alloc (by simp; omega) _
  have h0 := h.below hb0 h.best.lt h.least.lt h.non.lt
  have bx := ((SpAt.new w x).alloc (.cells #[.int .i64 f.1, .int .i64 f.2] 26)).alloc (.cells #[.int .i64 0, .int .i64 0, .int .i64 0, .int .i64 0, .int .i64 0, .int .i64 0] 28)
  have bf := (Two.at (w := w.alloc (.cells #[.int .i64 x.1, .int .i64 x.2.1.1, .int .i64 x.2.1.2, .int .i64 x.2.2.1, .int .i64 x.2.2.2.1, .int .i64 x.2.2.2.2] 28)) (B := w.heap.size + 1) (by simp) 26 (.int .i64 f.1) (.int .i64 f.2)).alloc (.cells #[.int .i64 0, .int .i64 0, .int .i64 0, .int .i64 0, .int .i64 0, .int .i64 0] 28)
  have br := SpAt.new ((w.alloc (.cells #[.int .i64 x.1, .int .i64 x.2.1.1, .int .i64 x.2.1.2, .int .i64 x.2.2.1, .int .i64 x.2.2.2.1, .int .i64 x.2.2.2.2] 28)).alloc (.cells #[.int .i64 f.1, .int .i64 f.2] 26)) spZ
  simp only [World.size_alloc] at br
  have hsz : (((w.alloc (.cells #[.int .i64 x.1, .int .i64 x.2.1.1, .int .i64 x.2.1.2, .int .i64 x.2.2.1, .int .i64 x.2.2.2.1, .int .i64 x.2.2.2.2] 28)).alloc (.cells #[.int .i64 f.1, .int .i64 f.2] 26)).alloc (.cells #[.int .i64 0, .int .i64 0, .int .i64 0, .int .i64 0, .int .i64 0, .int .i64 0] 28)).heap.size = w.heap.size + 3 := by simp
  unfold spV
  go_enter Try.func93, Try.ntmps93
  obtain ⟨lb, ll, ln⟩ := h
  have l1 := lb.lt
  have l2 := ll.lt
  have l3 := ln.lt
  obtain ⟨c1, c2, c3, c4⟩ := bf.facts
  obtain ⟨d1, d2, d3, d4⟩ := h0.least.facts
  clear lb ll ln
  go_wp2_with fail
  refine (HCmp.out _).mono ?_
  rintro r w1 ⟨rfl, hb1⟩
  obtain ⟨W3, hW3⟩ : ∃ W3, (((w.alloc (.cells #[.int .i64 x.1, .int .i64 x.2.1.1, .int .i64 x.2.1.2, .int .i64 x.2.2.1, .int .i64 x.2.2.2.1, .int .i64 x.2.2.2.2] 28)).alloc (.cells #[.int .i64 f.1, .int .i64 f.2] 26)).alloc (.cells #[.int .i64 0, .int .i64 0, .int .i64 0, .int .i64 0, .int .i64 0, .int .i64 0] 28)) = W3 := ⟨_, rfl⟩
  dsimp only [spZ] at br bx
  rw [hW3] at hb0 h0 bx bf br hsz hb1
  clear hW3
  have bx1 := bx.below hb1 bx.lt
  have bf1 := bf.below hb1 bf.lt
  have br1 := br.below hb1 br.lt
  have h1 := h0.below hb1 (by omega) (by omega) (by omega)
  have hsz1 := hb1.size
  have hk1 : Kept3 Bb Bl Bn w w1 := .of (hb0.trans (hb1.mono (by omega)))
  clear c1 c2 c3 c4 d1 d2 d3 d4
  clear HCmp hb0 hb1 h0 bx bf br
  obtain ⟨⟨x0, x1, x2, x3, x4, x5⟩, -⟩ := bx1.facts
  obtain ⟨c1, c2, c3, c4⟩ := bf1.facts
  obtain ⟨⟨m0, m1, m2, m3, m4, m5⟩, ⟨n0, n1, n2, n3, n4, n5⟩⟩ := h1.best.facts
  obtain ⟨d1, d2, d3, d4⟩ := h1.least.facts
  have e1 := h1.non.cell
  have e2 := h1.non.frozen
  obtain ⟨⟨r0, r1, r2, r3, r4, r5⟩, ⟨t0, t1, t2, t3, t4, t5⟩⟩ := br1.facts
  have hd : decide (cmpV f.1 f.2 (leastF (some b)).1 (leastF (some b)).2 < 0) = true := hl
  have KS := Lib.hid (told_st h1 h12 h13 h23 x f)
  have q1 : w.heap.size + 1 + 1 ≠ Bb := by omega
  have q2 : w.heap.size + 1 + 1 ≠ Bl := by omega
  have q3 : w.heap.size + 1 + 1 ≠ Bn := by omega
  have RB := Lib.hid (told_other br1 q1 q2 q3 x f)
  have KK := Lib.hid (told_kept hk1 x f)
  go_wp2
  go_region
  change Exit.then _ _ _ _ (toldW w1 Bb Bl Bn x f)
  generalize toldW w1 Bb Bl Bn x f = w2 at *
  clear x0 x1 x2 x3 x4 x5 c1 c2 c3 c4 m0 m1 m2 m3 m4 m5 n0 n1 n2 n3 n4 n5 d1 d2 d3 d4 e1 e2 r0 r1 r2 r3 r4 r5 t0 t1 t2 t3 t4 t5
  obtain ⟨⟨y0, y1, y2, y3, y4, y5⟩, -⟩ := KS.out.best.facts
  obtain ⟨⟨v0, v1, v2, v3, v4, v5⟩, ⟨u0, u1, u2, u3, u4, u5⟩⟩ := RB.out.facts
  dsimp only [bestS] at y0 y1 y2 y3 y4 y5
  go_wp2
  refine bodyPost_ret (v := .agg #[.int .i64 x.1, .int .i64 x.2.1.1, .int .i64 x.2.1.2, .int .i64 x.2.2.1, .int .i64 x.2.2.2.1, .int .i64 x.2.2.2.2]) ?_ rfl ⟨rfl, KS.out.six (B := w.heap.size + 1 + 1) (by omega) (by omega) (by omega) x, six_kept KK.out (B := w.heap.size + 1 + 1) (.inr (.inr (.inr (by omega)))) x⟩
  obtain ⟨⟨z0, z1, z2, z3, z4, z5⟩, -⟩ := (six_at RB.out x).facts
  unfold sixW at z0 z1 z2 z3 z4 z5
  simp [results, Try.f93, go_sem, z0, z1, z2, z3, z4, z5]

set_option maxRecDepth 100000 in
set_option maxHeartbeats 2000000 in
theorem keep_no (x : Sp) (f : Int × Int) (b : Sp × (Int × Int)) (hl : fLt f b.2 = false) (Bb Bl Bn : Nat) (h12 : Bb ≠ Bl) (h13 : Bb ≠ Bn) (h23 : Bl ≠ Bn) (w : World) (h : KpSt w Bb Bl Bn (some b)) :
    Calls Try.prog 93 #[spV x, .agg #[.int .i64 f.1, .int .i64 f.2], .pointer (some ⟨Bl, 0, none⟩), .pointer (some ⟨Bn, 0, none⟩), .pointer (some ⟨Bb, 0, none⟩)] w fun e w' =>
      e = .returned (spV (b).1) ∧ KpSt w' Bb Bl Bn (some (b)) ∧ Kept3 Bb Bl Bn w w' := by
  have HCmp := Lib.hid (fun w => compare_any f.1 f.2 (leastF (some b)).1 (leastF (some b)).2 w)
  have hb0 : Below w.heap.size w (((w.alloc (.cells #[.int .i64 x.1, .int .i64 x.2.1.1, .int .i64 x.2.1.2, .int .i64 x.2.2.1, .int .i64 x.2.2.2.1, .int .i64 x.2.2.2.2] 28)).alloc (.cells #[.int .i64 f.1, .int .i64 f.2] 26)).alloc (.cells #[.int .i64 0, .int .i64 0, .int .i64 0, .int .i64 0, .int .i64 0, .int .i64 0] 28)) :=
    (((Below.refl _ w).alloc (Nat.le_refl _) _).alloc (by simp) _).alloc (by simp; omega) _
  have h0 := h.below hb0 h.best.lt h.least.lt h.non.lt
  have bx := ((SpAt.new w x).alloc (.cells #[.int .i64 f.1, .int .i64 f.2] 26)).alloc (.cells #[.int .i64 0, .int .i64 0, .int .i64 0, .int .i64 0, .int .i64 0, .int .i64 0] 28)
  have bf := (Two.at (w := w.alloc (.cells #[.int .i64 x.1, .int .i64 x.2.1.1, .int .i64 x.2.1.2, .int .i64 x.2.2.1, .int .i64 x.2.2.2.1, .int .i64 x.2.2.2.2] 28)) (B := w.heap.size + 1) (by simp) 26 (.int .i64 f.1) (.int .i64 f.2)).alloc (.cells #[.int .i64 0, .int .i64 0, .int .i64 0, .int .i64 0, .int .i64 0, .int .i64 0] 28)
  have br := SpAt.new ((w.alloc (.cells #[.int .i64 x.1, .int .i64 x.2.1.1, .int .i64 x.2.1.2, .int .i64 x.2.2.1, .int .i64 x.2.2.2.1, .int .i64 x.2.2.2.2] 28)).alloc (.cells #[.int .i64 f.1, .int .i64 f.2] 26)) spZ
  simp only [World.size_alloc] at br
  have hsz : (((w.alloc (.cells #[.int .i64 x.1, .int .i64 x.2.1.1, .int .i64 x.2.1.2, .int .i64 x.2.2.1, .int .i64 x.2.2.2.1, .int .i64 x.2.2.2.2] 28)).alloc (.cells #[.int .i64 f.1, .int .i64 f.2] 26)).alloc (.cells #[.int .i64 0, .int .i64 0, .int .i64 0, .int .i64 0, .int .i64 0, .int .i64 0] 28)).heap.size = w.heap.size + 3 := by simp
  unfold spV
  go_enter Try.func93, Try.ntmps93
  obtain ⟨lb, ll, ln⟩ := h
  have l1 := lb.lt
  have l2 := ll.lt
  have l3 := ln.lt
  obtain ⟨c1, c2, c3, c4⟩ := bf.facts
  obtain ⟨d1, d2, d3, d4⟩ := h0.least.facts
  clear lb ll ln
  go_wp2_with fail
  refine (HCmp.out _).mono ?_
  rintro r w1 ⟨rfl, hb1⟩
  obtain ⟨W3, hW3⟩ : ∃ W3, (((w.alloc (.cells #[.int .i64 x.1, .int .i64 x.2.1.1, .int .i64 x.2.1.2, .int .i64 x.2.2.1, .int .i64 x.2.2.2.1, .int .i64 x.2.2.2.2] 28)).alloc (.cells #[.int .i64 f.1, .int .i64 f.2] 26)).alloc (.cells #[.int .i64 0, .int .i64 0, .int .i64 0, .int .i64 0, .int .i64 0, .int .i64 0] 28)) = W3 := ⟨_, rfl⟩
  dsimp only [spZ] at br bx
  rw [hW3] at hb0 h0 bx bf br hsz hb1
  clear hW3
  have bx1 := bx.below hb1 bx.lt
  have bf1 := bf.below hb1 bf.lt
  have br1 := br.below hb1 br.lt
  have h1 := h0.below hb1 (by omega) (by omega) (by omega)
  have hsz1 := hb1.size
  have hk1 : Kept3 Bb Bl Bn w w1 := .of (hb0.trans (hb1.mono (by omega)))
  clear c1 c2 c3 c4 d1 d2 d3 d4
  clear HCmp hb0 hb1 h0 bx bf br
  obtain ⟨⟨x0, x1, x2, x3, x4, x5⟩, -⟩ := bx1.facts
  obtain ⟨c1, c2, c3, c4⟩ := bf1.facts
  obtain ⟨⟨m0, m1, m2, m3, m4, m5⟩, ⟨n0, n1, n2, n3, n4, n5⟩⟩ := h1.best.facts
  obtain ⟨d1, d2, d3, d4⟩ := h1.least.facts
  have e1 := h1.non.cell
  have e2 := h1.non.frozen
  obtain ⟨⟨r0, r1, r2, r3, r4, r5⟩, ⟨t0, t1, t2, t3, t4, t5⟩⟩ := br1.facts
  have hd : decide (cmpV f.1 f.2 (leastF (some b)).1 (leastF (some b)).2 < 0) = false := hl
  have KS := Lib.hid h1
  have RB := Lib.hid br1
  have KK := Lib.hid hk1
  go_wp2_with fail
  clear x0 x1 x2 x3 x4 x5 c1 c2 c3 c4 m0 m1 m2 m3 m4 m5 n0 n1 n2 n3 n4 n5 d1 d2 d3 d4 e1 e2 r0 r1 r2 r3 r4 r5 t0 t1 t2 t3 t4 t5
  obtain ⟨⟨y0, y1, y2, y3, y4, y5⟩, -⟩ := KS.out.best.facts
  obtain ⟨⟨v0, v1, v2, v3, v4, v5⟩, ⟨u0, u1, u2, u3, u4, u5⟩⟩ := RB.out.facts
  go_wp2
  refine bodyPost_ret (v := .agg #[.int .i64 (bestS (some b)).1, .int .i64 (bestS (some b)).2.1.1, .int .i64 (bestS (some b)).2.1.2, .int .i64 (bestS (some b)).2.2.1, .int .i64 (bestS (some b)).2.2.2.1, .int .i64 (bestS (some b)).2.2.2.2]) ?_ rfl ⟨rfl, KS.out.six (B := w.heap.size + 1 + 1) (by omega) (by omega) (by omega) (bestS (some b)), six_kept KK.out (B := w.heap.size + 1 + 1) (.inr (.inr (.inr (by omega)))) (bestS (some b))⟩
  obtain ⟨⟨z0, z1, z2, z3, z4, z5⟩, -⟩ := (six_at RB.out (bestS (some b))).facts
  unfold sixW at z0 z1 z2 z3 z4 z5
  simp [results, Try.f93, go_sem, z0, z1, z2, z3, z4, z5]

theorem keep_any (x : Sp) (f : Int × Int) (s : Option (Sp × (Int × Int))) (Bb Bl Bn : Nat) (h12 : Bb ≠ Bl) (h13 : Bb ≠ Bn) (h23 : Bl ≠ Bn) (w : World) (h : KpSt w Bb Bl Bn s) :
    Calls Try.prog 93 #[spV x, .agg #[.int .i64 f.1, .int .i64 f.2], .pointer (some ⟨Bl, 0, none⟩), .pointer (some ⟨Bn, 0, none⟩), .pointer (some ⟨Bb, 0, none⟩)] w fun e w' =>
      e = .returned (spV (kp s x f).1) ∧ KpSt w' Bb Bl Bn (some (kp s x f)) ∧ Kept3 Bb Bl Bn w w' := by
  cases s with
  | none => exact keep_none x f Bb Bl Bn h12 h13 h23 w h
  | some b =>
    cases hl : fLt f b.2 with
    | true => rw [kp_yes x hl]; exact keep_yes x f b hl Bb Bl Bn h12 h13 h23 w h
    | false => rw [kp_no x hl]; exact keep_no x f b hl Bb Bl Bn h12 h13 h23 w h
end Go.Proofs.Ytcpcmlonbpccnaa.Ge

/- Walks over package line: the place of a point beside a segment. -/
namespace Go.Proofs.Ytcpcmlonbpccnaa.Ge
set_option linter.unusedVariables false
set_option linter.unusedSimpArgs false
open Go.RowKit Go.Shelf
open Go.Proofs.Ytcpcmlonbpccnaa.Fr

set_option maxRecDepth 100000 in
set_option maxHeartbeats 4000000 in
theorem spot_gen (k : Nat) (qa qb qc qd px py N D M E T err : Int) (HF : ∀ w, Calls Try.prog 27 #[.agg #[.int .i64 px, .int .i64 py], .agg #[.int .i64 qa, .int .i64 qb], .agg #[.int .i64 qc, .int .i64 qd]] w fun e w' => e = .returned (.tuple #[.agg #[.int .i64 N, .int .i64 D], .agg #[.int .i64 M, .int .i64 E], .int .i64 err]) ∧ Below w.heap.size w w')
    (HT : ∀ w, Calls Try.prog 28 #[.agg #[.int .i64 qa, .int .i64 qb], .agg #[.int .i64 qc, .int .i64 qd], .agg #[.int .i64 px, .int .i64 py]] w fun e w' => e = .returned (.int .i64 T) ∧ Below w.heap.size w w') (w : World) :
    Calls Try.prog 51 #[.agg #[.int .i64 (k : Int), .int .i64 qa, .int .i64 qb, .int .i64 qc, .int .i64 qd], .agg #[.int .i64 px, .int .i64 py]] w fun e w' => e = .returned (.agg #[.int .i64 (k : Int), .int .i64 N, .int .i64 D, .int .i64 T, .int .i64 M, .int .i64 E]) ∧ Below w.heap.size w w' := by
  have HF := Lib.hid HF
  have HT := Lib.hid HT
  have hb0 : Below w.heap.size w (((w.alloc (.cells #[.int .i64 (k : Int), .int .i64 qa, .int .i64 qb, .int .i64 qc, .int .i64 qd] 69)).alloc (.cells #[.int .i64 px, .int .i64 py] 24)).alloc (.cells #[.int .i64 0, .int .i64 0, .int .i64 0, .int .i64 0, .int .i64 0, .int .i64 0] 28)) := (((Below.refl _ w).alloc (Nat.le_refl _) _).alloc (by simp) _).alloc (by simp; omega) _
  have g1 : SgAt (((w.alloc (.cells #[.int .i64 (k : Int), .int .i64 qa, .int .i64 qb, .int .i64 qc, .int .i64 qd] 69)).alloc (.cells #[.int .i64 px, .int .i64 py] 24)).alloc (.cells #[.int .i64 0, .int .i64 0, .int .i64 0, .int .i64 0, .int .i64 0, .int .i64 0] 28)) w.heap.size (k, (qa, qb), qc, qd) := ((SgAt.new w (k, (qa, qb), qc, qd)).alloc _).alloc _
  have g2 : Two (((w.alloc (.cells #[.int .i64 (k : Int), .int .i64 qa, .int .i64 qb, .int .i64 qc, .int .i64 qd] 69)).alloc (.cells #[.int .i64 px, .int .i64 py] 24)).alloc (.cells #[.int .i64 0, .int .i64 0, .int .i64 0, .int .i64 0, .int .i64 0, .int .i64 0] 28)) (w.heap.size + 1) 24 (.int .i64 px) (.int .i64 py) := (Two.at (by simp) _ _ _).alloc _
  have g3 : SpAt (((w.alloc (.cells #[.int .i64 (k : Int), .int .i64 qa, .int .i64 qb, .int .i64 qc, .int .i64 qd] 69)).alloc (.cells #[.int .i64 px, .int .i64 py] 24)).alloc (.cells #[.int .i64 0, .int .i64 0, .int .i64 0, .int .i64 0, .int .i64 0, .int .i64 0] 28)) (w.heap.size + 1 + 1) spZ := by
    have h := SpAt.new ((w.alloc (.cells #[.int .i64 (k : Int), .int .i64 qa, .int .i64 qb, .int .i64 qc, .int .i64 qd] 69)).alloc (.cells #[.int .i64 px, .int .i64 py] 24)) spZ
    simp only [World.size_alloc] at h
    exact h
  have hsz : (((w.alloc (.cells #[.int .i64 (k : Int), .int .i64 qa, .int .i64 qb, .int .i64 qc, .int .i64 qd] 69)).alloc (.cells #[.int .i64 px, .int .i64 py] 24)).alloc (.cells #[.int .i64 0, .int .i64 0, .int .i64 0, .int .i64 0, .int .i64 0, .int .i64 0] 28)).heap.size = w.heap.size + 3 := by simp
  obtain ⟨a0, a1, a2, a3, a4⟩ := g1.facts
  dsimp only at a0 a1 a2 a3 a4
  obtain ⟨b0, b1, b2, b3⟩ := g2.facts
  go_enter Try.func51, Try.ntmps51
  go_wp2_with fail
  refine (HF.out _).mono ?_
  rintro r w1 ⟨rfl, hb1⟩
  have g1' := g1.below hb1 g1.lt
  have g2' := g2.below hb1 g2.lt
  have g3' := g3.below hb1 g3.lt
  have hb2 := hb0.trans (hb1.mono hb0.size)
  have hz1 := hb1.size
  rw [hsz] at hz1
  clear a0 a1 a2 a3 a4 b0 b1 b2 b3 g1 g2 g3 hb0 hb1 HF hsz
  go_wp2_with fail
  have hb5 : Below w1.heap.size w1 ((w1.alloc (.cells #[.int .i64 N, .int .i64 D] 26)).alloc (.cells #[.int .i64 M, .int .i64 E] 26)) := ((Below.refl _ w1).alloc (Nat.le_refl _) _).alloc (by simp) _
  have g4 : Two ((w1.alloc (.cells #[.int .i64 N, .int .i64 D] 26)).alloc (.cells #[.int .i64 M, .int .i64 E] 26)) w1.heap.size 26 (.int .i64 N) (.int .i64 D) := (Two.new w1 _ _ _).alloc _
  have g5 : Two ((w1.alloc (.cells #[.int .i64 N, .int .i64 D] 26)).alloc (.cells #[.int .i64 M, .int .i64 E] 26)) (w1.heap.size + 1) 26 (.int .i64 M) (.int .i64 E) := Two.at (by simp) _ _ _
  have g1 := g1'.below hb5 g1'.lt
  have g2 := g2'.below hb5 g2'.lt
  have g3 := g3'.below hb5 g3'.lt
  have hb6 := hb2.trans (hb5.mono hb2.size)
  clear g1' g2' g3' hb5 hb2
  obtain ⟨W5, hW5⟩ : ∃ W5, ((w1.alloc (.cells #[.int .i64 N, .int .i64 D] 26)).alloc (.cells #[.int .i64 M, .int .i64 E] 26)) = W5 := ⟨_, rfl⟩
  rw [hW5] at g1 g2 g3 g4 g5 hb6 ⊢
  clear hW5
  have hS : ∀ w' : World, Below W5.heap.size W5 w' → (w'.cell? ⟨w.heap.size, 0, none⟩ = some (.int .i64 (k : Int)) ∧ w'.cell? ⟨w.heap.size, 1, none⟩ = some (.int .i64 qa) ∧ w'.cell? ⟨w.heap.size, 2, none⟩ = some (.int .i64 qb) ∧ w'.cell? ⟨w.heap.size, 3, none⟩ = some (.int .i64 qc) ∧ w'.cell? ⟨w.heap.size, 4, none⟩ = some (.int .i64 qd)) ∧ (w'.cell? ⟨w.heap.size + 1, 0, none⟩ = some (.int .i64 px) ∧ w'.cell? ⟨w.heap.size + 1, 1, none⟩ = some (.int .i64 py)) ∧ (w'.cell? ⟨w.heap.size + 1 + 1, 0, none⟩ = some (.int .i64 0) ∧ w'.cell? ⟨w.heap.size + 1 + 1, 1, none⟩ = some (.int .i64 0) ∧ w'.cell? ⟨w.heap.size + 1 + 1, 2, none⟩ = some (.int .i64 0) ∧ w'.cell? ⟨w.heap.size + 1 + 1, 3, none⟩ = some (.int .i64 0) ∧ w'.cell? ⟨w.heap.size + 1 + 1, 4, none⟩ = some (.int .i64 0) ∧ w'.cell? ⟨w.heap.size + 1 + 1, 5, none⟩ = some (.int .i64 0)) ∧ (w'.frozen? ⟨w.heap.size + 1 + 1, 0, none⟩ = false ∧ w'.frozen? ⟨w.heap.size + 1 + 1, 1, none⟩ = false ∧ w'.frozen? ⟨w.heap.size + 1 + 1, 2, none⟩ = false ∧ w'.frozen? ⟨w.heap.size + 1 + 1, 3, none⟩ = false ∧ w'.frozen? ⟨w.heap.size + 1 + 1, 4, none⟩ = false ∧ w'.frozen? ⟨w.heap.size + 1 + 1, 5, none⟩ = false) ∧ (w'.cell? ⟨w1.heap.size, 0, none⟩ = some (.int .i64 N) ∧ w'.cell? ⟨w1.heap.size, 1, none⟩ = some (.int .i64 D)) ∧ (w'.cell? ⟨w1.heap.size + 1, 0, none⟩ = some (.int .i64 M) ∧ w'.cell? ⟨w1.heap.size + 1, 1, none⟩ = some (.int .i64 E)) := fun w' hb => ⟨(g1.below hb g1.lt).facts, ⟨(g2.below hb g2.lt).facts.1, (g2.below hb g2.lt).facts.2.1⟩, (g3.below hb g3.lt).facts.1, (g3.below hb g3.lt).facts.2, ⟨(g4.below hb g4.lt).facts.1, (g4.below hb g4.lt).facts.2.1⟩, (g5.below hb g5.lt).facts.1, (g5.below hb g5.lt).facts.2.1⟩
  have hS0 := hS _ (Below.refl W5.heap.size W5).drew
  refine Rl.start_of 11 (fun w' => (w'.cell? ⟨w.heap.size, 0, none⟩ = some (.int .i64 (k : Int)) ∧ w'.cell? ⟨w.heap.size, 1, none⟩ = some (.int .i64 qa) ∧ w'.cell? ⟨w.heap.size, 2, none⟩ = some (.int .i64 qb) ∧ w'.cell? ⟨w.heap.size, 3, none⟩ = some (.int .i64 qc) ∧ w'.cell? ⟨w.heap.size, 4, none⟩ = some (.int .i64 qd)) ∧ (w'.cell? ⟨w.heap.size + 1, 0, none⟩ = some (.int .i64 px) ∧ w'.cell? ⟨w.heap.size + 1, 1, none⟩ = some (.int .i64 py)) ∧ (w'.cell? ⟨w.heap.size + 1 + 1, 0, none⟩ = some (.int .i64 0) ∧ w'.cell? ⟨w.heap.size + 1 + 1, 1, none⟩ = some (.int .i64 0) ∧ w'.cell? ⟨w.heap.size + 1 + 1, 2, none⟩ = some (.int .i64 0) ∧ w'.cell? ⟨w.heap.size + 1 + 1, 3, none⟩ = some (.int .i64 0) ∧ w'.cell? ⟨w.heap.size + 1 + 1, 4, none⟩ = some (.int .i64 0) ∧ w'.cell? ⟨w.heap.size + 1 + 1, 5, none⟩ = some (.int .i64 0)) ∧ (w'.frozen? ⟨w.heap.size + 1 + 1, 0, none⟩ = false ∧ w'.frozen? ⟨w.heap.size + 1 + 1, 1, none⟩ = false ∧ w'.frozen? ⟨w.heap.size + 1 + 1, 2, none⟩ = false ∧ w'.frozen? ⟨w.heap.size + 1 + 1, 3, none⟩ = false ∧ w'.frozen? ⟨w.heap.size + 1 + 1, 4, none⟩ = false ∧ w'.frozen? ⟨w.heap.size + 1 + 1, 5, none⟩ = false) ∧ (w'.cell? ⟨w1.heap.size, 0, none⟩ = some (.int .i64 N) ∧ w'.cell? ⟨w1.heap.size, 1, none⟩ = some (.int .i64 D)) ∧ (w'.cell? ⟨w1.heap.size + 1, 0, none⟩ = some (.int .i64 M) ∧ w'.cell? ⟨w1.heap.size + 1, 1, none⟩ = some (.int .i64 E))) (by kernel_rfl) ?_
  refine Rl.take_of (i := 0) (v := .pointer (some ⟨w.heap.size, 0, none⟩)) rfl (by decide) (by kernel_rfl) (by kernel_rfl) (by kernel_rfl) (by kernel_rfl) (by kernel_rfl) (fun _ _ _ h => h) (Or.inl ⟨by rfl, ?_⟩) (hS0) ?_
  · intro w' hSw; obtain ⟨⟨a0, a1, a2, a3, a4⟩, ⟨b0, b1⟩, ⟨c0, c1, c2, c3, c4, c5⟩, ⟨f0, f1, f2, f3, f4, f5⟩, ⟨d0, d1⟩, e0, e1⟩ := hSw; go_simp
  simp only [Act.put, List.setIfInBounds_toArray, List.set_cons_zero, List.set_cons_succ]
  refine Rl.take_of (i := 1) (v := .int .i64 (k : Int)) rfl (by decide) (by kernel_rfl) (by kernel_rfl) (by kernel_rfl) (by kernel_rfl) (by kernel_rfl) (fun _ _ _ h => h) (Or.inl ⟨by rfl, ?_⟩) (hS0) ?_
  · intro w' hSw; obtain ⟨⟨a0, a1, a2, a3, a4⟩, ⟨b0, b1⟩, ⟨c0, c1, c2, c3, c4, c5⟩, ⟨f0, f1, f2, f3, f4, f5⟩, ⟨d0, d1⟩, e0, e1⟩ := hSw; go_simp
  simp only [Act.put, List.setIfInBounds_toArray, List.set_cons_zero, List.set_cons_succ]
  refine Rl.take_of (i := 2) (v := .agg #[.int .i64 N, .int .i64 D]) rfl (by decide) (by kernel_rfl) (by kernel_rfl) (by kernel_rfl) (by kernel_rfl) (by kernel_rfl) (fun _ _ _ h => h) (Or.inl ⟨by rfl, ?_⟩) (hS0) ?_
  · intro w' hSw; obtain ⟨⟨a0, a1, a2, a3, a4⟩, ⟨b0, b1⟩, ⟨c0, c1, c2, c3, c4, c5⟩, ⟨f0, f1, f2, f3, f4, f5⟩, ⟨d0, d1⟩, e0, e1⟩ := hSw; go_simp
  simp only [Act.put, List.setIfInBounds_toArray, List.set_cons_zero, List.set_cons_succ]
  refine Rl.take_of (i := 3) (v := .pointer (some ⟨w.heap.size, 1, none⟩)) rfl (by decide) (by kernel_rfl) (by kernel_rfl) (by kernel_rfl) (by kernel_rfl) (by kernel_rfl) (fun _ _ _ h => h) (Or.inl ⟨by rfl, ?_⟩) (hS0) ?_
  · intro w' hSw; obtain ⟨⟨a0, a1, a2, a3, a4⟩, ⟨b0, b1⟩, ⟨c0, c1, c2, c3, c4, c5⟩, ⟨f0, f1, f2, f3, f4, f5⟩, ⟨d0, d1⟩, e0, e1⟩ := hSw; go_simp
  simp only [Act.put, List.setIfInBounds_toArray, List.set_cons_zero, List.set_cons_succ]
  refine Rl.take_of (i := 4) (v := .agg #[.int .i64 qa, .int .i64 qb]) rfl (by decide) (by kernel_rfl) (by kernel_rfl) (by kernel_rfl) (by kernel_rfl) (by kernel_rfl) (fun _ _ _ h => h) (Or.inl ⟨by rfl, ?_⟩) (hS0) ?_
  · intro w' hSw; obtain ⟨⟨a0, a1, a2, a3, a4⟩, ⟨b0, b1⟩, ⟨c0, c1, c2, c3, c4, c5⟩, ⟨f0, f1, f2, f3, f4, f5⟩, ⟨d0, d1⟩, e0, e1⟩ := hSw; go_simp
  simp only [Act.put, List.setIfInBounds_toArray, List.set_cons_zero, List.set_cons_succ]
  refine Rl.take_of (i := 5) (v := .pointer (some ⟨w.heap.size, 3, none⟩)) rfl (by decide) (by kernel_rfl) (by kernel_rfl) (by kernel_rfl) (by kernel_rfl) (by kernel_rfl) (fun _ _ _ h => h) (Or.inl ⟨by rfl, ?_⟩) (hS0) ?_
  · intro w' hSw; obtain ⟨⟨a0, a1, a2, a3, a4⟩, ⟨b0, b1⟩, ⟨c0, c1, c2, c3, c4, c5⟩, ⟨f0, f1, f2, f3, f4, f5⟩, ⟨d0, d1⟩, e0, e1⟩ := hSw; go_simp
  simp only [Act.put, List.setIfInBounds_toArray, List.set_cons_zero, List.set_cons_succ]
  refine Rl.take_of (i := 6) (v := .agg #[.int .i64 qc, .int .i64 qd]) rfl (by decide) (by kernel_rfl) (by kernel_rfl) (by kernel_rfl) (by kernel_rfl) (by kernel_rfl) (fun _ _ _ h => h) (Or.inl ⟨by rfl, ?_⟩) (hS0) ?_
  · intro w' hSw; obtain ⟨⟨a0, a1, a2, a3, a4⟩, ⟨b0, b1⟩, ⟨c0, c1, c2, c3, c4, c5⟩, ⟨f0, f1, f2, f3, f4, f5⟩, ⟨d0, d1⟩, e0, e1⟩ := hSw; go_simp
  simp only [Act.put, List.setIfInBounds_toArray, List.set_cons_zero, List.set_cons_succ]
  refine Rl.take_of (i := 7) (v := .agg #[.int .i64 px, .int .i64 py]) rfl (by decide) (by kernel_rfl) (by kernel_rfl) (by kernel_rfl) (by kernel_rfl) (by kernel_rfl) (fun _ _ _ h => h) (Or.inl ⟨by rfl, ?_⟩) (hS0) ?_
  · intro w' hSw; obtain ⟨⟨a0, a1, a2, a3, a4⟩, ⟨b0, b1⟩, ⟨c0, c1, c2, c3, c4, c5⟩, ⟨f0, f1, f2, f3, f4, f5⟩, ⟨d0, d1⟩, e0, e1⟩ := hSw; go_simp
  simp only [Act.put, List.setIfInBounds_toArray, List.set_cons_zero, List.set_cons_succ]
  refine Rl.take_of (i := 9) (v := .agg #[.int .i64 M, .int .i64 E]) rfl (by decide) (by kernel_rfl) (by kernel_rfl) (by kernel_rfl) (by kernel_rfl) (by kernel_rfl) (fun _ _ _ h => h) (Or.inl ⟨by rfl, ?_⟩) (hS0) ?_
  · intro w' hSw; obtain ⟨⟨a0, a1, a2, a3, a4⟩, ⟨b0, b1⟩, ⟨c0, c1, c2, c3, c4, c5⟩, ⟨f0, f1, f2, f3, f4, f5⟩, ⟨d0, d1⟩, e0, e1⟩ := hSw; go_simp
  simp only [Act.put, List.setIfInBounds_toArray, List.set_cons_zero, List.set_cons_succ]
  refine Rl.one_of (i := 8) rfl (by kernel_rfl) (fun K hK => ?_)
  rw [if_pos (by rfl)]
  go_simp
  go_at_call 28
  refine (HT.out _).mono ?_
  rintro r y1 ⟨rfl, hy1'⟩
  have hy1 : Below W5.heap.size W5 y1 := ((Below.refl W5.heap.size W5).drew).trans (hy1'.mono ((Below.refl W5.heap.size W5).drew).size)
  refine hK.out _ _ (fun _ => hS _ hy1) ?_
  clear hK K
  try simp only [Act.put, List.setIfInBounds_toArray, List.set_cons_zero, List.set_cons_succ]
  refine Rl.take_of (i := 10) (v := .agg #[.int .i64 (k : Int), .int .i64 N, .int .i64 D, .int .i64 T, .int .i64 M, .int .i64 E]) rfl (by decide) (by kernel_rfl) (by kernel_rfl) (by kernel_rfl) (by kernel_rfl) (by kernel_rfl) (fun _ _ _ h => h) (Or.inl ⟨by rfl, ?_⟩) (hS _ hy1) ?_
  · intro w' hSw; obtain ⟨⟨a0, a1, a2, a3, a4⟩, ⟨b0, b1⟩, ⟨c0, c1, c2, c3, c4, c5⟩, ⟨f0, f1, f2, f3, f4, f5⟩, ⟨d0, d1⟩, e0, e1⟩ := hSw; go_simp
  simp only [Act.put, List.setIfInBounds_toArray, List.set_cons_zero, List.set_cons_succ]
  obtain ⟨⟨a0, a1, a2, a3, a4⟩, ⟨b0, b1⟩, ⟨c0, c1, c2, c3, c4, c5⟩, ⟨f0, f1, f2, f3, f4, f5⟩, ⟨d0, d1⟩, e0, e1⟩ := hS _ hy1
  refine Rl.one_of (i := 11) rfl (by kernel_rfl) (fun K hK => ?_)
  rw [if_pos (by rfl)]
  go_simp
  refine hK.out _ _ (fun h => Bool.noConfusion (show true = false from h)) ?_
  clear hK K
  try simp only [Act.put, List.setIfInBounds_toArray, List.set_cons_zero, List.set_cons_succ]
  refine Rl.done_of (by kernel_rfl) ?_ _
  have h3 := (g3.below hy1 g3.lt)
  go_wp2
  refine bodyPost_ret (v := .agg #[.int .i64 (k : Int), .int .i64 N, .int .i64 D, .int .i64 T, .int .i64 M, .int .i64 E]) ?_ rfl ⟨rfl, ?_⟩
  · obtain ⟨⟨z0, z1, z2, z3, z4, z5⟩, -⟩ := (six_at h3 ((k : Int), (N, D), T, (M, E))).facts
    unfold sixW at z0 z1 z2 z3 z4 z5
    simp [results, Try.f51, go_sem, z0, z1, z2, z3, z4, z5]
  · exact (hb6.trans (hy1.mono hb6.size)).trans ((six_below y1 (w.heap.size + 1 + 1) ((k : Int), (N, D), T, (M, E))).mono (by omega))

theorem spot_any (p : Pt) (x : Sg) (w : World) :
    Calls Try.prog 51 #[.agg #[.int .i64 (x.1 : Int), .int .i64 x.2.1.1, .int .i64 x.2.1.2, .int .i64 x.2.2.1, .int .i64 x.2.2.2], .agg #[.int .i64 p.1, .int .i64 p.2]] w fun e w' => e = .returned (spV (spotW p x)) ∧ Below w.heap.size w w' := by
  unfold spV spotW
  by_cases h : onP p.1 p.2 ∧ onP x.2.1.1 x.2.1.2 ∧ onP x.2.2.1 x.2.2.2
  · rw [if_pos h]
    exact spot_gen _ _ _ _ _ _ _ _ _ _ _ _ _ (fun w => (Foot_any _ _ _ _ _ _ w).mono fun e w' m => by rw [if_pos h] at m; exact m) (fun w => Turn_any _ _ _ _ _ _ w) w
  · rw [if_neg h]
    have hT : turnV x.2.1.1 x.2.1.2 x.2.2.1 x.2.2.2 p.1 p.2 = 0 := by
      unfold turnV
      rw [if_neg (fun k => h ⟨k.2.2, k.1, k.2.1⟩)]
    exact spot_gen _ _ _ _ _ _ _ _ _ _ _ _ _ (fun w => (Foot_any _ _ _ _ _ _ w).mono fun e w' m => by rw [if_neg h] at m; exact m) (fun w => by have := Turn_any x.2.1.1 x.2.1.2 x.2.2.1 x.2.2.2 p.1 p.2 w; rw [hT] at this; exact this) w
end Go.Proofs.Ytcpcmlonbpccnaa.Ge
