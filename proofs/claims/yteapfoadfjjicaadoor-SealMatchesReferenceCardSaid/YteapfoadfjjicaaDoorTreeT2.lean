/- Walks over package gazetteerref02: Texts. -/
import Derived.Test.YteapfoadfjjicaaDoorTreeT1
namespace Go.Proofs.YteapfoadfjjicaaDoor.Dig
set_option linter.unusedVariables false
set_option linter.unusedSimpArgs false
open Go.RowKit
attribute [local go_sem ↓] Go.wp_at_zero Go.wp_at_succ

theorem OwnStr.mono {w : World} {B B' : Nat} {v : Value} {l : List ByteArray} (h : OwnStr w B v l) (hB : B' ≤ B) : OwnStr w B' v l := by
  refine ⟨h.1, ?_⟩
  rcases h.2 with h2 | ⟨g, cap, cur, hv, hb, r⟩
  · exact .inl h2
  · exact .inr ⟨g, cap, cur, hv, Nat.le_trans hB hb, r⟩

theorem OwnStr.ne {w : World} {B H : Nat} {v : Value} {l : List ByteArray} (h : OwnStr w B v l) (hH : w.heap.size ≤ H ∨ H < B) : v.ownBlock ≠ some H := by
  intro he
  have := World.ownsRow.lt h _ he
  omega
theorem StrSl.grown {w w' : World} {v : Value} {l : List ByteArray} {row : Option Nat} (h : StrSl w v l) (hg : w.grownBy w' row) (hne : ∀ g, v.ownBlock = some g → row ≠ some g) : StrSl w' v l := by
  rcases h with h | ⟨b, off, cap, rfl, h0, hlt, hm, hc⟩
  · exact .inl h
  · exact .inr ⟨b, off, cap, rfl, h0, Nat.lt_of_lt_of_le hlt hg.size, hm, fun i hi => (hg.cell_far ⟨b, off + i, none⟩ hlt (fun e => hne b rfl e.symm)).trans (hc i hi)⟩
theorem ne_slice {a : Addr} {n c : Nat} {row : Option Nat} (h : row ≠ some a.block) : ∀ g, (Value.slice (some a) n c).ownBlock = some g → row ≠ some g := by
  intro g hg
  simp only [Value.ownBlock, Option.some.injEq] at hg
  exact hg ▸ h

theorem sl1' (a : ByteArray) (w : World) : StrSl (w.alloc (.cells #[.string a] 9)) (.slice (some ⟨w.heap.size, 0, none⟩) 1 1) [a] := sl1 a w

end Go.Proofs.YteapfoadfjjicaaDoor.Dig
