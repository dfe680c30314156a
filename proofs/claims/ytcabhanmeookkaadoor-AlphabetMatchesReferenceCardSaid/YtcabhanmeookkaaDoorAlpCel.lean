/- Blocks of cells that stay what they are. -/
import Derived.Test.YtcabhanmeookkaaDoorAlpW3
namespace Go.Proofs.YtcabhanmeookkaaDoor.Al
set_option linter.unusedVariables false
set_option linter.unusedSimpArgs false
open Go.RowKit

/-- block B holds just these cells -/
def Blk (w : World) (B : Nat) (t : TypeId) (cs : Array Value) : Prop := w.heap[B]? = some (.cells cs t (0, 0))
theorem Blk.lt {w : World} {B : Nat} {t : TypeId} {cs : Array Value} (h : Blk w B t cs) : B < w.heap.size := (Array.getElem?_eq_some_iff.1 h).1
theorem Blk.cell {w : World} {B : Nat} {t : TypeId} {cs : Array Value} (h : Blk w B t cs) (i : Nat) : w.cell? ⟨B, i, none⟩ = cs[i]? := cell_of_row _ _ _ _ _ _ h
theorem Blk.frozen {w : World} {B : Nat} {t : TypeId} {cs : Array Value} (h : Blk w B t cs) (i : Nat) : w.frozen? ⟨B, i, none⟩ = false := Lib.frozen_of_heap h i
theorem Blk.below {w w' : World} {N B : Nat} {t : TypeId} {cs : Array Value} (h : Blk w B t cs) (hb : Below N w w') (hlt : B < N) : Blk w' B t cs := (hb.block B hlt).trans h
theorem Blk.grown {w w' : World} {B : Nat} {t : TypeId} {cs : Array Value} {row : Option Nat} (h : Blk w B t cs) (hg : w.grownBy w' row) (hne : some B ≠ row) : Blk w' B t cs := (hg.block B h.lt hne).trans h
theorem Blk.alloc {w : World} {B : Nat} {t : TypeId} {cs : Array Value} (h : Blk w B t cs) (o : Obj) : Blk (w.alloc o) B t cs := h.grown (World.grownBy_alloc w o none) (by simp)
theorem Blk.new (w : World) (t : TypeId) (cs : Array Value) : Blk (w.alloc (.cells cs t)) w.heap.size t cs := heap_alloc_new w _
theorem Blk.set {w : World} {B : Nat} {t : TypeId} {cs : Array Value} (h : Blk w B t cs) (i : Nat) (v : Value) : Blk (w.setCell ⟨B, i, none⟩ v) B t (cs.setIfInBounds i v) := heap_setCell_same _ _ _ _ _ _ h
theorem Blk.other {w : World} {B C : Nat} {t : TypeId} {cs : Array Value} (h : Blk w B t cs) (i : Nat) (v : Value) (hne : B ≠ C) : Blk (w.setCell ⟨C, i, none⟩ v) B t cs := (heap_setCell_other _ _ _ _ hne).trans h
theorem Blk.at {w : World} {B : Nat} (h : B = w.heap.size) (t : TypeId) (cs : Array Value) : Blk (w.alloc (.cells cs t)) B t cs := by subst h; exact Blk.new w t cs
theorem set_below {B b i : Nat} {w wx : World} (h : Below B w wx) (hb : B ≤ b) (x : Value) : Below B w (wx.setCell ⟨b, i, none⟩ x) := h.setCell (p := ⟨b, i, none⟩) hb _
theorem grownBelow {w w' : World} (h : Below w.heap.size w w') (row : Option Nat) : w.grownBy w' row := ⟨h.os, h.tape, h.output, h.size, fun i hi _ => h.block i hi⟩
end Go.Proofs.YtcabhanmeookkaaDoor.Al
