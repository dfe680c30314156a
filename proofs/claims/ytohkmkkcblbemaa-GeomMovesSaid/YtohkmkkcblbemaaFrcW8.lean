/- Walks over package fraction: the order of two fractions. -/
import Derived.Test.YtohkmkkcblbemaaFrcW7
namespace Go.Proofs.Ytohkmkkcblbemaa.Fr
set_option linter.unusedVariables false
set_option linter.unusedSimpArgs false
open Go.RowKit

theorem two_b1 {W w1 : World} {t : TypeId} {x y : Value} (hb : Below (W.alloc (.cells #[x, y] t)).drew.heap.size (W.alloc (.cells #[x, y] t)).drew w1) : Two w1 W.heap.size t x y :=
  Two.below (w := (W.alloc (.cells #[x, y] t)).drew) (Two.new W t x y) hb (by simp)
theorem two_b2 {W w1 : World} {t s : TypeId} {x y a b : Value} (hb : Below ((W.alloc (.cells #[x, y] t)).alloc (.cells #[a, b] s)).drew.heap.size ((W.alloc (.cells #[x, y] t)).alloc (.cells #[a, b] s)).drew w1) : Two w1 W.heap.size t x y ∧ Two w1 (W.heap.size + 1) s a b :=
  ⟨Two.below (w := ((W.alloc (.cells #[x, y] t)).alloc (.cells #[a, b] s)).drew) ((Two.new W t x y).alloc _) hb (by simp; omega), Two.below (w := ((W.alloc (.cells #[x, y] t)).alloc (.cells #[a, b] s)).drew) (Two.at (by simp) s a b) hb (by simp)⟩
theorem two_b3 {W w1 : World} {t : TypeId} {x y : Value} (hb : Below (W.alloc (.cells #[x, y] t)).heap.size (W.alloc (.cells #[x, y] t)) w1) : Two w1 W.heap.size t x y :=
  Two.below (Two.new W t x y) hb (by simp)
theorem two_b4 {W w1 : World} {t s : TypeId} {x y a b : Value} (hb : Below ((W.alloc (.cells #[x, y] t)).alloc (.cells #[a, b] s)).heap.size ((W.alloc (.cells #[x, y] t)).alloc (.cells #[a, b] s)) w1) : Two w1 W.heap.size t x y ∧ Two w1 (W.heap.size + 1) s a b :=
  ⟨Two.below ((Two.new W t x y).alloc _) hb (by simp; omega), Two.below (Two.at (by simp) s a b) hb (by simp)⟩

/-- what the region of Compare leaves -/
def CmpAt (W : World) (P Q : Int) (v u : Value) (wx : World) : Prop :=
  ∃ B1 B2 : Nat, v = .pointer (some ⟨B1, 0, none⟩) ∧ u = .pointer (some ⟨B2, 0, none⟩) ∧ (wx.cell? ⟨B1, 0, none⟩ = some (.int .i64 (hiW P)) ∧ wx.cell? ⟨B1, 1, none⟩ = some (.int .u64 (loW P))) ∧
    (wx.cell? ⟨B2, 0, none⟩ = some (.int .i64 (hiW Q)) ∧ wx.cell? ⟨B2, 1, none⟩ = some (.int .u64 (loW Q))) ∧ Below W.heap.size W wx

end Go.Proofs.Ytohkmkkcblbemaa.Fr
