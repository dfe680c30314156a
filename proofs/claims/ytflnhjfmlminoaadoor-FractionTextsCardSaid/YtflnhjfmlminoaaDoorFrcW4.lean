/- Walks over package fraction: quotients of numbers of 128 bits, results, validity. -/
import Derived.Test.YtflnhjfmlminoaaDoorFrcW3
import Derived.Deep.RegionHeld3
import Derived.OneCell
namespace Go.Proofs.YtflnhjfmlminoaaDoor.Fr
set_option linter.unusedVariables false
set_option linter.unusedSimpArgs false
open Go.RowKit

theorem div64_any (hi lo y : Int) (h0 : 0 ≤ hi) (h1 : hi < y) (hy : y ≤ 4611686018427387904) (hl : 0 ≤ lo) (hl2 : lo < 18446744073709551616) (w : World) :
    Calls Tryd.prog 55 #[.int .u64 hi, .int .u64 lo, .int .u64 y] w fun e w' => e = .returned (.tuple #[.int .u64 ((hi * 18446744073709551616 + lo) / y), .int .u64 ((hi * 18446744073709551616 + lo) % y)]) ∧ Below w.heap.size w w' := by
  by_cases hz : hi = 0
  · subst hz
    have hq : IntKind.u64.wrap (lo.tdiv y) = lo / y := IntWalk.u64_quo _ _ (by omega)
    have hr : lo.tmod y = lo % y := IntWalk.rem_in _ _ hl
    have hy0 : (y == 0) = false := by simp; omega
    rw [Int.zero_mul, Int.zero_add]
    go_enter Tryd.func55, Tryd.ntmps55
    go_wp2_with fail
    go_quiet (fail)
    go_wp2_with fail
    go_ret2
    exact ⟨rfl, below_drewN _ _ _⟩
  · obtain ⟨s, hs, hs1, hs2, hY1, hY2⟩ := shift_of y (by omega) hy
    have hp : 1 ≤ (2 : Int) ^ s := by have := Int.pow_pos (m := s) (show (0 : Int) < 2 by omega); omega
    have hp' : 1 ≤ (2 : Int) ^ (64 - s) := by have := Int.pow_pos (m := 64 - s) (show (0 : Int) < 2 by omega); omega
    have hpp : (2 : Int) ^ s * 2 ^ (64 - s) = 18446744073709551616 := by
      rw [← Int.pow_add, show s + (64 - s) = 64 by omega]
      rfl
    obtain ⟨k1, k2, k3⟩ := shift_all hi lo y _ _ hp hp' hpp h0 h1 hl hl2
    have hV0 : 0 ≤ lo / 2 ^ (64 - s) := Int.ediv_nonneg hl (by omega)
    have hH0 : 0 ≤ hi * 2 ^ s := Int.mul_nonneg h0 (by omega)
    have hor := or_shift hi s (lo / 2 ^ (64 - s)) hs2 h0 hV0 k3 (by omega) (by omega)
    have hyp : 1 ≤ y := by omega
    have hnp := k2
    generalize hYe : y * 2 ^ s = Y at *
    generalize hLe : lo * 2 ^ s % 18446744073709551616 = L at *
    have hLw : IntKind.u64.wrap (lo * 2 ^ s) = L := by rw [IntKind.wrap_u64]; exact hLe
    have hL1 : 0 ≤ L := by rw [← hLe]; exact Int.emod_nonneg _ (by omega)
    have hL2 : L < 18446744073709551616 := by rw [← hLe]; exact Int.emod_lt_of_pos _ (by omega)
    have d1 : Dig (Y / 4294967296) (Y % 4294967296) Y (hi * 2 ^ s + lo / 2 ^ (64 - s)) (L / 4294967296) :=
      ⟨by omega, by omega, by omega, by omega, by omega, by omega, k1, by omega, by omega⟩
    have hY0 : 0 < Y := by omega
    have d2 : Dig (Y / 4294967296) (Y % 4294967296) Y (((hi * 2 ^ s + lo / 2 ^ (64 - s)) * 4294967296 + L / 4294967296) % Y) (L % 4294967296) :=
      ⟨by omega, by omega, by omega, by omega, by omega, Int.emod_nonneg _ (by omega), Int.emod_lt_of_pos _ hY0, by omega, by omega⟩
    obtain ⟨e1, e2⟩ := div_end (hi * 18446744073709551616 + lo) y (2 ^ s) Y _ L (L / 4294967296) (L % 4294967296) _ _ _ _ hp hyp hYe.symm hnp (by omega) (Int.ediv_mul_add_emod _ Y).symm (Int.ediv_mul_add_emod _ Y).symm (Int.emod_nonneg _ (by omega)) (Int.emod_lt_of_pos _ hY0)
    rw [e1, e2]
    refine (div64_core hi lo y Y _ _ _ L _ _ _ _ s (by omega) h1 hy hl hl2 hs hs1 hs2 (by rw [hYe]; exact IntWalk.u64_in _ (by omega)) rfl (and_low32 _ (by omega) (by omega)) (IntWalk.u64_in _ (by omega)) rfl hor hLw rfl (and_low32 _ hL1 hL2) hL1 hL2 (by omega) (by omega) d1 d2 w).mono ?_
    rintro e w' ⟨rfl, rfl⟩
    exact ⟨rfl, Below.refl _ _⟩

theorem wide_div (P d : Int) (hd : 1 ≤ d) : hiW (P / d) = hiW P / d ∧ loW (P / d) = (hiW P % d * 18446744073709551616 + loW P) / d ∧ P % d = (hiW P % d * 18446744073709551616 + loW P) % d := by
  have eP : P = hiW P * 18446744073709551616 + loW P := by unfold hiW loW; omega
  have b := lo_bd P
  have eh : hiW P = hiW P / d * d + hiW P % d := (Int.ediv_mul_add_emod _ _).symm
  have h0 := Int.emod_nonneg (hiW P) (show d ≠ 0 by omega)
  have h1 := Int.emod_lt_of_pos (hiW P) (show 0 < d by omega)
  have e2 : P = (hiW P % d * 18446744073709551616 + loW P) + d * (hiW P / d * 18446744073709551616) := by
    have : hiW P * 18446744073709551616 = d * (hiW P / d * 18446744073709551616) + hiW P % d * 18446744073709551616 := by
      conv => lhs; rw [eh]
      rw [Int.add_mul, Int.mul_comm _ d, Int.mul_assoc]
    omega
  have e3 : P / d = (hiW P % d * 18446744073709551616 + loW P) / d + hiW P / d * 18446744073709551616 := by
    conv => lhs; rw [e2]
    rw [Int.add_mul_ediv_left _ _ (by omega)]
  have e4 : P % d = (hiW P % d * 18446744073709551616 + loW P) % d := by
    conv => lhs; rw [e2]
    rw [Int.add_mul_emod_self_left]
  have hq0 : 0 ≤ (hiW P % d * 18446744073709551616 + loW P) / d := Int.ediv_nonneg (by omega) (by omega)
  have hq1 : (hiW P % d * 18446744073709551616 + loW P) / d < 18446744073709551616 := by
    rw [Int.ediv_lt_iff_lt_mul (by omega)]
    have : (hiW P % d + 1) * 18446744073709551616 ≤ d * 18446744073709551616 := Int.mul_le_mul_of_nonneg_right (by omega) (by omega)
    omega
  refine ⟨?_, ?_, e4⟩
  · rw [e3]
    generalize (hiW P % d * 18446744073709551616 + loW P) / d = x at *
    generalize hiW P / d = z at *
    unfold hiW
    omega
  · rw [e3]
    generalize (hiW P % d * 18446744073709551616 + loW P) / d = x at *
    generalize hiW P / d = z at *
    unfold loW
    omega

theorem bcell {W w1 : World} (hb : Below W.heap.size W w1) : (∀ b o, b < W.heap.size → w1.cell? ⟨b, o, none⟩ = W.cell? ⟨b, o, none⟩) ∧ (∀ b o, b < W.heap.size → w1.frozen? ⟨b, o, none⟩ = W.frozen? ⟨b, o, none⟩) :=
  ⟨fun b o h => hb.cell (p := ⟨b, o, none⟩) h, fun b o h => hb.frozen (p := ⟨b, o, none⟩) h⟩
/-- block B holds two cells -/
def Two (w : World) (B : Nat) (t : TypeId) (x y : Value) : Prop := w.heap[B]? = some (.cells #[x, y] t (0, 0))
theorem Two.lt {w : World} {B : Nat} {t : TypeId} {x y : Value} (h : Two w B t x y) : B < w.heap.size := (Array.getElem?_eq_some_iff.1 h).1
theorem Two.facts {w : World} {B : Nat} {t : TypeId} {x y : Value} (h : Two w B t x y) :
    w.cell? ⟨B, 0, none⟩ = some x ∧ w.cell? ⟨B, 1, none⟩ = some y ∧ w.frozen? ⟨B, 0, none⟩ = false ∧ w.frozen? ⟨B, 1, none⟩ = false := by
  unfold Two at h
  simp [World.cell?, World.frozen?, h]
theorem Two.below {w w' : World} {N B : Nat} {t : TypeId} {x y : Value} (h : Two w B t x y) (hb : Below N w w') (hlt : B < N) : Two w' B t x y := (hb.block B hlt).trans h
theorem Two.alloc {w : World} {B : Nat} {t : TypeId} {x y : Value} (h : Two w B t x y) (o : Obj) : Two (w.alloc o) B t x y := by
  have := h.lt
  unfold Two at h ⊢
  show (w.heap.push o)[B]? = _
  rw [Array.getElem?_push, if_neg (by omega), h]
theorem Two.new (w : World) (t : TypeId) (x y : Value) : Two (w.alloc (.cells #[x, y] t)) w.heap.size t x y := by
  show (w.heap.push _)[w.heap.size]? = _
  rw [Array.getElem?_push, if_pos rfl]
theorem Two.at {w : World} {B : Nat} (h : B = w.heap.size) (t : TypeId) (x y : Value) : Two (w.alloc (.cells #[x, y] t)) B t x y := by
  subst h
  exact Two.new w t x y
theorem Two.drew {w : World} {B : Nat} {t : TypeId} {x y : Value} (h : Two w B t x y) : Two w.drew B t x y := h

theorem wdivide_any (P d : Int) (hp : -9223372036854775808 ≤ hiW P) (hp2 : hiW P ≤ 9223372036854775807) (hd : 1 ≤ d) (hd2 : d ≤ 4611686018427387904) (w : World) :
    Calls Tryd.prog 35 #[.agg #[.int .i64 (hiW P), .int .u64 (loW P)], .int .i64 d] w fun e w' => e = .returned (.tuple #[.agg #[.int .i64 (hiW (P / d)), .int .u64 (loW (P / d))], .int .i64 (P % d)]) ∧ Below w.heap.size w w' := by
  obtain ⟨e1, e2, e3⟩ := wide_div P d hd
  have b := lo_bd P
  have hr0 := Int.emod_nonneg (hiW P) (show d ≠ 0 by omega)
  have hr1 := Int.emod_lt_of_pos (hiW P) (show 0 < d by omega)
  have hm0 := Int.emod_nonneg P (show d ≠ 0 by omega)
  have hm1 := Int.emod_lt_of_pos P (show 0 < d by omega)
  rw [e1, e2]
  rw [e3] at hm0 hm1 ⊢
  obtain ⟨b1, b2⟩ := b
  clear e1 e2 e3
  generalize hiW P = p at *
  generalize loW P = x at *
  go_enter Tryd.func35, Tryd.ntmps35
  go_wp2_with fail
  refine (divide_any p d hp hp2 hd hd2 _).mono ?_
  rintro e w1 ⟨rfl, hb1⟩
  have t1 := ((Two.new w 45 (.int .i64 p) (.int .u64 x)).alloc (.cells #[.int .i64 0, .int .u64 0] 45)).below hb1 (by simp; omega)
  have u1 := (Two.at (w := w.alloc (.cells #[.int .i64 p, .int .u64 x] 45)) (B := w.heap.size + 1) (by simp) 45 (.int .i64 0) (.int .u64 0)).below hb1 (by simp)
  obtain ⟨c10, c11, f10, f11⟩ := t1.facts
  have hs1 := hb1.size
  go_wp2_with fail
  refine (div64_any _ _ _ hr0 hr1 hd2 b1 b2 _).mono ?_
  rintro e w2 ⟨rfl, hb2⟩
  have u2 := u1.below hb2 u1.lt
  obtain ⟨c20, c21, f20, f21⟩ := u2.facts
  clear c10 c11 f10 f11
  go_wp2_with fail
  refine bodyPost_ret (v := .tuple #[.agg #[.int .i64 (p / d), .int .u64 ((p % d * 18446744073709551616 + x) / d)], .int .i64 ((p % d * 18446744073709551616 + x) % d)]) ?_ rfl ⟨rfl, ?_⟩
  · simp [results, Tryd.results35, go_sem, c20, c21]
  · exact ((((((Below.refl _ _).alloc (Nat.le_refl _) _).alloc (by simp) _).trans (hb1.mono (by simp; omega))).trans (hb2.mono (by simp at hs1; omega))).setCell (by simp) _).setCell (by simp) _
end Go.Proofs.YtflnhjfmlminoaaDoor.Fr
