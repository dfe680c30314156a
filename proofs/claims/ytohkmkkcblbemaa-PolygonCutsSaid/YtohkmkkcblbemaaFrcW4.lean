/- Walks over package fraction: quotients of numbers of 128 bits, results, validity. -/
import Derived.Test.YtohkmkkcblbemaaFrcW3
import Derived.Deep.RegionHeld3
import Derived.OneCell
namespace Go.Proofs.Ytohkmkkcblbemaa.Fr
set_option linter.unusedVariables false
set_option linter.unusedSimpArgs false
open Go.RowKit

theorem wide_div (P d : Int) (hd : 1 ≤ d) : hiW (P / d) = hiW P / d ∧ loW (P / d) = (hiW P % d * 18446744073709551616 + loW P) / d ∧ P % d = (hiW P % d * 18446744073709551616 + loW P) % d := by
  have eP : P = hiW P * 18446744073709551616 + loW P := by unfold hiW loW; omega
  have b := lo_bd P
  have eh : hiW P = hiW P / d * d + hiW P % d := (Int.ediv_mul_add_emod _ _).symm
  have h0 := Int.emod_nonneg (hiW P) (show d ≠ 0 by omega)
  have h1 := Int.emod_lt_of_pos (hiW P) (show 0 < d by omega)
  have e2 : P = (hiW P % d * 18446744073709551616 + loW P) + d * (hiW P / d * 18446744073709551616) := by
    have : hiW P * 18446744073709551616 = d * (hiW P / d * 18446744073709551616) + hiW P % d * 18446744073709551616 := by
      conv => lhs; rw [eh]
      rw [Int.add_mul, Int.mul_comm _ d, Int.mul_assoc]
    omega
  have e3 : P / d = (hiW P % d * 18446744073709551616 + loW P) / d + hiW P / d * 18446744073709551616 := by
    conv => lhs; rw [e2]
    rw [Int.add_mul_ediv_left _ _ (by omega)]
  have e4 : P % d = (hiW P % d * 18446744073709551616 + loW P) % d := by
    conv => lhs; rw [e2]
    rw [Int.add_mul_emod_self_left]
  have hq0 : 0 ≤ (hiW P % d * 18446744073709551616 + loW P) / d := Int.ediv_nonneg (by omega) (by omega)
  have hq1 : (hiW P % d * 18446744073709551616 + loW P) / d < 18446744073709551616 := by
    rw [Int.ediv_lt_iff_lt_mul (by omega)]
    have : (hiW P % d + 1) * 18446744073709551616 ≤ d * 18446744073709551616 := Int.mul_le_mul_of_nonneg_right (by omega) (by omega)
    omega
  refine ⟨?_, ?_, e4⟩
  · rw [e3]
    generalize (hiW P % d * 18446744073709551616 + loW P) / d = x at *
    generalize hiW P / d = z at *
    unfold hiW
    omega
  · rw [e3]
    generalize (hiW P % d * 18446744073709551616 + loW P) / d = x at *
    generalize hiW P / d = z at *
    unfold loW
    omega

theorem bcell {W w1 : World} (hb : Below W.heap.size W w1) : (∀ b o, b < W.heap.size → w1.cell? ⟨b, o, none⟩ = W.cell? ⟨b, o, none⟩) ∧ (∀ b o, b < W.heap.size → w1.frozen? ⟨b, o, none⟩ = W.frozen? ⟨b, o, none⟩) :=
  ⟨fun b o h => hb.cell (p := ⟨b, o, none⟩) h, fun b o h => hb.frozen (p := ⟨b, o, none⟩) h⟩
/-- block B holds two cells -/
def Two (w : World) (B : Nat) (t : TypeId) (x y : Value) : Prop := w.heap[B]? = some (.cells #[x, y] t (0, 0))
theorem Two.lt {w : World} {B : Nat} {t : TypeId} {x y : Value} (h : Two w B t x y) : B < w.heap.size := (Array.getElem?_eq_some_iff.1 h).1
theorem Two.facts {w : World} {B : Nat} {t : TypeId} {x y : Value} (h : Two w B t x y) :
    w.cell? ⟨B, 0, none⟩ = some x ∧ w.cell? ⟨B, 1, none⟩ = some y ∧ w.frozen? ⟨B, 0, none⟩ = false ∧ w.frozen? ⟨B, 1, none⟩ = false := by
  unfold Two at h
  simp [World.cell?, World.frozen?, h]
theorem Two.below {w w' : World} {N B : Nat} {t : TypeId} {x y : Value} (h : Two w B t x y) (hb : Below N w w') (hlt : B < N) : Two w' B t x y := (hb.block B hlt).trans h
theorem Two.alloc {w : World} {B : Nat} {t : TypeId} {x y : Value} (h : Two w B t x y) (o : Obj) : Two (w.alloc o) B t x y := by
  have := h.lt
  unfold Two at h ⊢
  show (w.heap.push o)[B]? = _
  rw [Array.getElem?_push, if_neg (by omega), h]
theorem Two.new (w : World) (t : TypeId) (x y : Value) : Two (w.alloc (.cells #[x, y] t)) w.heap.size t x y := by
  show (w.heap.push _)[w.heap.size]? = _
  rw [Array.getElem?_push, if_pos rfl]
theorem Two.at {w : World} {B : Nat} (h : B = w.heap.size) (t : TypeId) (x y : Value) : Two (w.alloc (.cells #[x, y] t)) B t x y := by
  subst h
  exact Two.new w t x y
theorem Two.drew {w : World} {B : Nat} {t : TypeId} {x y : Value} (h : Two w B t x y) : Two w.drew B t x y := h

end Go.Proofs.Ytohkmkkcblbemaa.Fr
