/- Walks over package fraction: quotients of numbers of 128 bits, results, validity. -/
import Derived.Test.YtcpcmlonbpccnaaFrcW3
import Derived.Deep.RegionHeld3
import Derived.OneCell
import Derived.Test.YtcpcmlonbpccnaaBdA1
import Derived.RegionTactic
import Derived.Deep.DeepCutAuto
namespace Go.Proofs.Ytcpcmlonbpccnaa.Fr
set_option linter.unusedVariables false
set_option linter.unusedSimpArgs false
open Go.RowKit

theorem div64_any (hi lo y : Int) (h0 : 0 ≤ hi) (h1 : hi < y) (hy : y ≤ 4611686018427387904) (hl : 0 ≤ lo) (hl2 : lo < 18446744073709551616) (w : World) :
    Calls Try.prog 110 #[.int .u64 hi, .int .u64 lo, .int .u64 y] w fun e w' => e = .returned (.tuple #[.int .u64 ((hi * 18446744073709551616 + lo) / y), .int .u64 ((hi * 18446744073709551616 + lo) % y)]) ∧ Below w.heap.size w w' := by
  by_cases hz : hi = 0
  · subst hz
    have hq : IntKind.u64.wrap (lo.tdiv y) = lo / y := IntWalk.u64_quo _ _ (by omega)
    have hr : lo.tmod y = lo % y := IntWalk.rem_in _ _ hl
    have hy0 : (y == 0) = false := by simp; omega
    rw [Int.zero_mul, Int.zero_add]
    go_enter Try.func110, Try.ntmps110
    go_wp2_with fail
    go_quiet (fail)
    go_wp2_with fail
    go_ret2
    exact ⟨rfl, below_drewN _ _ _⟩
  · obtain ⟨s, hs, hs1, hs2, hY1, hY2⟩ := shift_of y (by omega) hy
    have hp : 1 ≤ (2 : Int) ^ s := by have := Int.pow_pos (m := s) (show (0 : Int) < 2 by omega); omega
    have hp' : 1 ≤ (2 : Int) ^ (64 - s) := by have := Int.pow_pos (m := 64 - s) (show (0 : Int) < 2 by omega); omega
    have hpp : (2 : Int) ^ s * 2 ^ (64 - s) = 18446744073709551616 := by
      rw [← Int.pow_add, show s + (64 - s) = 64 by omega]
      rfl
    obtain ⟨k1, k2, k3⟩ := shift_all hi lo y _ _ hp hp' hpp h0 h1 hl hl2
    have hV0 : 0 ≤ lo / 2 ^ (64 - s) := Int.ediv_nonneg hl (by omega)
    have hH0 : 0 ≤ hi * 2 ^ s := Int.mul_nonneg h0 (by omega)
    have hor := or_shift hi s (lo / 2 ^ (64 - s)) hs2 h0 hV0 k3 (by omega) (by omega)
    have hyp : 1 ≤ y := by omega
    have hnp := k2
    generalize hYe : y * 2 ^ s = Y at *
    generalize hLe : lo * 2 ^ s % 18446744073709551616 = L at *
    have hLw : IntKind.u64.wrap (lo * 2 ^ s) = L := by rw [IntKind.wrap_u64]; exact hLe
    have hL1 : 0 ≤ L := by rw [← hLe]; exact Int.emod_nonneg _ (by omega)
    have hL2 : L < 18446744073709551616 := by rw [← hLe]; exact Int.emod_lt_of_pos _ (by omega)
    have d1 : Dig (Y / 4294967296) (Y % 4294967296) Y (hi * 2 ^ s + lo / 2 ^ (64 - s)) (L / 4294967296) :=
      ⟨by omega, by omega, by omega, by omega, by omega, by omega, k1, by omega, by omega⟩
    have hY0 : 0 < Y := by omega
    have d2 : Dig (Y / 4294967296) (Y % 4294967296) Y (((hi * 2 ^ s + lo / 2 ^ (64 - s)) * 4294967296 + L / 4294967296) % Y) (L % 4294967296) :=
      ⟨by omega, by omega, by omega, by omega, by omega, Int.emod_nonneg _ (by omega), Int.emod_lt_of_pos _ hY0, by omega, by omega⟩
    obtain ⟨e1, e2⟩ := div_end (hi * 18446744073709551616 + lo) y (2 ^ s) Y _ L (L / 4294967296) (L % 4294967296) _ _ _ _ hp hyp hYe.symm hnp (by omega) (Int.ediv_mul_add_emod _ Y).symm (Int.ediv_mul_add_emod _ Y).symm (Int.emod_nonneg _ (by omega)) (Int.emod_lt_of_pos _ hY0)
    rw [e1, e2]
    refine (div64_core hi lo y Y _ _ _ L _ _ _ _ s (by omega) h1 hy hl hl2 hs hs1 hs2 (by rw [hYe]; exact IntWalk.u64_in _ (by omega)) rfl (and_low32 _ (by omega) (by omega)) (IntWalk.u64_in _ (by omega)) rfl hor hLw rfl (and_low32 _ hL1 hL2) hL1 hL2 (by omega) (by omega) d1 d2 w).mono ?_
    rintro e w' ⟨rfl, rfl⟩
    exact ⟨rfl, Below.refl _ _⟩

theorem wide_div (P d : Int) (hd : 1 ≤ d) : hiW (P / d) = hiW P / d ∧ loW (P / d) = (hiW P % d * 18446744073709551616 + loW P) / d ∧ P % d = (hiW P % d * 18446744073709551616 + loW P) % d := by
  have eP : P = hiW P * 18446744073709551616 + loW P := by unfold hiW loW; omega
  have b := lo_bd P
  have eh : hiW P = hiW P / d * d + hiW P % d := (Int.ediv_mul_add_emod _ _).symm
  have h0 := Int.emod_nonneg (hiW P) (show d ≠ 0 by omega)
  have h1 := Int.emod_lt_of_pos (hiW P) (show 0 < d by omega)
  have e2 : P = (hiW P % d * 18446744073709551616 + loW P) + d * (hiW P / d * 18446744073709551616) := by
    have : hiW P * 18446744073709551616 = d * (hiW P / d * 18446744073709551616) + hiW P % d * 18446744073709551616 := by
      conv => lhs; rw [eh]
      rw [Int.add_mul, Int.mul_comm _ d, Int.mul_assoc]
    omega
  have e3 : P / d = (hiW P % d * 18446744073709551616 + loW P) / d + hiW P / d * 18446744073709551616 := by
    conv => lhs; rw [e2]
    rw [Int.add_mul_ediv_left _ _ (by omega)]
  have e4 : P % d = (hiW P % d * 18446744073709551616 + loW P) % d := by
    conv => lhs; rw [e2]
    rw [Int.add_mul_emod_self_left]
  have hq0 : 0 ≤ (hiW P % d * 18446744073709551616 + loW P) / d := Int.ediv_nonneg (by omega) (by omega)
  have hq1 : (hiW P % d * 18446744073709551616 + loW P) / d < 18446744073709551616 := by
    rw [Int.ediv_lt_iff_lt_mul (by omega)]
    have : (hiW P % d + 1) * 18446744073709551616 ≤ d * 18446744073709551616 := Int.mul_le_mul_of_nonneg_right (by omega) (by omega)
    omega
  refine ⟨?_, ?_, e4⟩
  · rw [e3]
    generalize (hiW P % d * 18446744073709551616 + loW P) / d = x at *
    generalize hiW P / d = z at *
    unfold hiW
    omega
  · rw [e3]
    generalize (hiW P % d * 18446744073709551616 + loW P) / d = x at *
    generalize hiW P / d = z at *
    unfold loW
    omega

theorem bcell {W w1 : World} (hb : Below W.heap.size W w1) : (∀ b o, b < W.heap.size → w1.cell? ⟨b, o, none⟩ = W.cell? ⟨b, o, none⟩) ∧ (∀ b o, b < W.heap.size → w1.frozen? ⟨b, o, none⟩ = W.frozen? ⟨b, o, none⟩) :=
  ⟨fun b o h => hb.cell (p := ⟨b, o, none⟩) h, fun b o h => hb.frozen (p := ⟨b, o, none⟩) h⟩
/-- block B holds two cells -/
def Two (w : World) (B : Nat) (t : TypeId) (x y : Value) : Prop := w.heap[B]? = some (.cells #[x, y] t (0, 0))
theorem Two.lt {w : World} {B : Nat} {t : TypeId} {x y : Value} (h : Two w B t x y) : B < w.heap.size := (Array.getElem?_eq_some_iff.1 h).1
theorem Two.facts {w : World} {B : Nat} {t : TypeId} {x y : Value} (h : Two w B t x y) :
    w.cell? ⟨B, 0, none⟩ = some x ∧ w.cell? ⟨B, 1, none⟩ = some y ∧ w.frozen? ⟨B, 0, none⟩ = false ∧ w.frozen? ⟨B, 1, none⟩ = false := by
  unfold Two at h
  simp [World.cell?, World.frozen?, h]
theorem Two.below {w w' : World} {N B : Nat} {t : TypeId} {x y : Value} (h : Two w B t x y) (hb : Below N w w') (hlt : B < N) : Two w' B t x y := (hb.block B hlt).trans h
theorem Two.alloc {w : World} {B : Nat} {t : TypeId} {x y : Value} (h : Two w B t x y) (o : Obj) : Two (w.alloc o) B t x y := by
  have := h.lt
  unfold Two at h ⊢
  show (w.heap.push o)[B]? = _
  rw [Array.getElem?_push, if_neg (by omega), h]
theorem Two.new (w : World) (t : TypeId) (x y : Value) : Two (w.alloc (.cells #[x, y] t)) w.heap.size t x y := by
  show (w.heap.push _)[w.heap.size]? = _
  rw [Array.getElem?_push, if_pos rfl]
theorem Two.at {w : World} {B : Nat} (h : B = w.heap.size) (t : TypeId) (x y : Value) : Two (w.alloc (.cells #[x, y] t)) B t x y := by
  subst h
  exact Two.new w t x y
theorem Two.drew {w : World} {B : Nat} {t : TypeId} {x y : Value} (h : Two w B t x y) : Two w.drew B t x y := h

theorem wdivide_any (P d : Int) (hp : -9223372036854775808 ≤ hiW P) (hp2 : hiW P ≤ 9223372036854775807) (hd : 1 ≤ d) (hd2 : d ≤ 4611686018427387904) (w : World) :
    Calls Try.prog 74 #[.agg #[.int .i64 (hiW P), .int .u64 (loW P)], .int .i64 d] w fun e w' => e = .returned (.tuple #[.agg #[.int .i64 (hiW (P / d)), .int .u64 (loW (P / d))], .int .i64 (P % d)]) ∧ Below w.heap.size w w' := by
  obtain ⟨e1, e2, e3⟩ := wide_div P d hd
  have b := lo_bd P
  have hr0 := Int.emod_nonneg (hiW P) (show d ≠ 0 by omega)
  have hr1 := Int.emod_lt_of_pos (hiW P) (show 0 < d by omega)
  have hm0 := Int.emod_nonneg P (show d ≠ 0 by omega)
  have hm1 := Int.emod_lt_of_pos P (show 0 < d by omega)
  rw [e1, e2]
  rw [e3] at hm0 hm1 ⊢
  obtain ⟨b1, b2⟩ := b
  clear e1 e2 e3
  generalize hiW P = p at *
  generalize loW P = x at *
  go_enter Try.func74, Try.ntmps74
  go_wp2_with fail
  refine (divide_any p d hp hp2 hd hd2 _).mono ?_
  rintro e w1 ⟨rfl, hb1⟩
  have t1 := ((Two.new w 93 (.int .i64 p) (.int .u64 x)).alloc (.cells #[.int .i64 0, .int .u64 0] 93)).below hb1 (by simp; omega)
  have u1 := (Two.at (w := w.alloc (.cells #[.int .i64 p, .int .u64 x] 93)) (B := w.heap.size + 1) (by simp) 93 (.int .i64 0) (.int .u64 0)).below hb1 (by simp)
  obtain ⟨c10, c11, f10, f11⟩ := t1.facts
  have hs1 := hb1.size
  go_wp2_with fail
  refine (div64_any _ _ _ hr0 hr1 hd2 b1 b2 _).mono ?_
  rintro e w2 ⟨rfl, hb2⟩
  have u2 := u1.below hb2 u1.lt
  obtain ⟨c20, c21, f20, f21⟩ := u2.facts
  clear c10 c11 f10 f11
  go_wp2_with fail
  refine bodyPost_ret (v := .tuple #[.agg #[.int .i64 (p / d), .int .u64 ((p % d * 18446744073709551616 + x) / d)], .int .i64 ((p % d * 18446744073709551616 + x) % d)]) ?_ rfl ⟨rfl, ?_⟩
  · simp [results, Try.results74, go_sem, c20, c21]
  · exact ((((((Below.refl _ _).alloc (Nat.le_refl _) _).alloc (by simp) _).trans (hb1.mono (by simp; omega))).trans (hb2.mono (by simp at hs1; omega))).setCell (by simp) _).setCell (by simp) _
end Go.Proofs.Ytcpcmlonbpccnaa.Fr

/- Walks over package geom: points, segments, turns. -/
namespace Go.Proofs.Ytcpcmlonbpccnaa.Ge
set_option linter.unusedVariables false
set_option linter.unusedSimpArgs false
open Go.RowKit
open Go.Proofs.Ytcpcmlonbpccnaa.Fr (Two)

theorem two_set2 {w : World} {B : Nat} {t : TypeId} {x y : Value} (h : Two w B t x y) (a b : Value) : Two ((w.setCell ⟨B, 0, none⟩ a).setCell ⟨B, 1, none⟩ b) B t a b := by
  unfold Two at h ⊢
  rw [heap_setCell_same _ _ _ _ _ _ (heap_setCell_same _ _ _ _ _ _ h)]
  rfl
theorem set2_below {B b : Nat} {w wx : World} (h : Below B w wx) (hb : B ≤ b) (x y : Value) : Below B w ((wx.setCell ⟨b, 0, none⟩ x).setCell ⟨b, 1, none⟩ y) :=
  (h.setCell (p := ⟨b, 0, none⟩) hb _).setCell (p := ⟨b, 1, none⟩) hb _

/-- a coordinate taken modulo the size of the grid -/
theorem grid_mod (x : Int) : (x.tmod 32768 + 32768).tmod 32768 = x % 32768 := by
  have h1 := Int.mul_tdiv_add_tmod x 32768
  have h2 := Int.tmod_lt_of_pos x (b := 32768) (by decide)
  have h3 := Int.lt_tmod_of_pos x (b := 32768) (by decide)
  rw [Int.tmod_eq_emod_of_nonneg (by omega)]
  omega
theorem on_yes (x y : Int) (h : onP x y) (w : World) :
    Calls Try.prog 26 #[.agg #[.int .i64 x, .int .i64 y]] w fun e w' => e = .returned (.bool true) ∧ Below w.heap.size w w' := by
  obtain ⟨⟨h1, h2⟩, h3, h4⟩ := h
  go_enter Try.func26, Try.ntmps26
  go_wp2_with fail
  go_ret
  exact ⟨rfl, (Below.refl _ _).alloc (Nat.le_refl _) _⟩
theorem on_no (x y : Int) (h : ¬ onP x y) (w : World) :
    Calls Try.prog 26 #[.agg #[.int .i64 x, .int .i64 y]] w fun e w' => e = .returned (.bool false) ∧ Below w.heap.size w w' := by
  unfold onP at h
  by_cases h1 : 0 ≤ x
  · by_cases h2 : x ≤ 32767
    · by_cases h3 : 0 ≤ y
      · have h4 : decide (y ≤ 32767) = false := by simp; omega
        clear h
        go_enter Try.func26, Try.ntmps26
        go_wp2_with fail
        go_ret
        exact ⟨rfl, (Below.refl _ _).alloc (Nat.le_refl _) _⟩
      · have h4 : decide (0 ≤ y) = false := by simpa using h3
        clear h
        go_enter Try.func26, Try.ntmps26
        go_wp2_with fail
        go_ret
        exact ⟨rfl, (Below.refl _ _).alloc (Nat.le_refl _) _⟩
    · have h4 : decide (x ≤ 32767) = false := by simpa using h2
      clear h
      go_enter Try.func26, Try.ntmps26
      go_wp2_with fail
      go_ret
      exact ⟨rfl, (Below.refl _ _).alloc (Nat.le_refl _) _⟩
  · have h4 : decide (0 ≤ x) = false := by simpa using h1
    clear h
    go_enter Try.func26, Try.ntmps26
    go_wp2_with fail
    go_ret
    exact ⟨rfl, (Below.refl _ _).alloc (Nat.le_refl _) _⟩
theorem on_any (x y : Int) (w : World) :
    Calls Try.prog 26 #[.agg #[.int .i64 x, .int .i64 y]] w fun e w' => e = .returned (.bool (decide (onP x y))) ∧ Below w.heap.size w w' := by
  by_cases h : onP x y
  · rw [decide_eq_true h]; exact on_yes x y h w
  · rw [decide_eq_false h]; exact on_no x y h w

theorem join_any (ax ay bx bz : Int) (w : World) :
    Calls Try.prog 62 #[.agg #[.int .i64 ax, .int .i64 ay], .agg #[.int .i64 bx, .int .i64 bz]] w fun e w' => e = .returned (.agg #[.int .i64 ax, .int .i64 ay, .int .i64 bx, .int .i64 bz]) ∧ Below w.heap.size w w' := by
  go_enter Try.func62, Try.ntmps62
  go_wp2_with fail
  refine bodyPost_ret (v := .agg #[.int .i64 ax, .int .i64 ay, .int .i64 bx, .int .i64 bz]) ?_ rfl ⟨rfl, ?_⟩
  · simp [results, Try.results62, go_sem]
  · exact (((Below.refl _ _).alloc (Nat.le_refl _) _).alloc (by simp) _).alloc (by simp; omega) _
theorem along_any (ax ay bx bz cx cy : Int) (ha : onP ax ay) (hb : onP bx bz) (hc : onP cx cy) (w : World) :
    Calls Try.prog 63 #[.agg #[.int .i64 ax, .int .i64 ay, .int .i64 bx, .int .i64 bz], .agg #[.int .i64 cx, .int .i64 cy]] w fun e w' => e = .returned (.int .i64 (alongN ax ay bx bz cx cy)) ∧ Below w.heap.size w w' := by
  obtain ⟨⟨a1, a2⟩, a3, a4⟩ := ha
  obtain ⟨⟨b1, b2⟩, b3, b4⟩ := hb
  obtain ⟨⟨c1, c2⟩, c3, c4⟩ := hc
  have h1 := p_bd (d_bd a1 a2 b1 b2) (d_bd a1 a2 c1 c2)
  have h2 := p_bd (d_bd a3 a4 b3 b4) (d_bd a3 a4 c3 c4)
  go_enter Try.func63, Try.ntmps63
  go_wp2_with fail
  go_ret
  exact ⟨rfl, ((Below.refl _ _).alloc (Nat.le_refl _) _).alloc (by simp) _⟩
theorem turn_any (ax ay bx bz cx cy : Int) (ha : onP ax ay) (hb : onP bx bz) (hc : onP cx cy) (w : World) :
    Calls Try.prog 65 #[.agg #[.int .i64 ax, .int .i64 ay, .int .i64 bx, .int .i64 bz], .agg #[.int .i64 cx, .int .i64 cy]] w fun e w' => e = .returned (.int .i64 (areaN ax ay bx bz cx cy)) ∧ Below w.heap.size w w' := by
  obtain ⟨⟨a1, a2⟩, a3, a4⟩ := ha
  obtain ⟨⟨b1, b2⟩, b3, b4⟩ := hb
  obtain ⟨⟨c1, c2⟩, c3, c4⟩ := hc
  have h1 := p_bd (d_bd a1 a2 b1 b2) (d_bd a3 a4 c3 c4)
  have h2 := p_bd (d_bd a3 a4 b3 b4) (d_bd a1 a2 c1 c2)
  go_enter Try.func65, Try.ntmps65
  go_wp2_with fail
  go_ret
  exact ⟨rfl, ((Below.refl _ _).alloc (Nat.le_refl _) _).alloc (by simp) _⟩
theorem nan_any (n : Int) (w : World) :
    Calls Try.prog 124 #[.int .i64 n] w fun e w' => e = .returned (.bool false) ∧ w = w' := by
  have h : (n != n) = false := by simp
  go_enter Try.func124, Try.ntmps124
  go_wp2_with fail
  go_ret
  exact ⟨rfl, rfl⟩
theorem sign_any (n : Int) (w : World) :
    Calls Try.prog 104 #[.int .i64 n, .int .i64 0] w fun e w' => e = .returned (.int .i64 (sgnI n)) ∧ w = w' := by
  unfold sgnI
  by_cases h1 : n < 0
  · rw [if_pos h1]
    go_enter Try.func104, Try.ntmps104
    go_wp2_with fail
    refine (nan_any _ _).mono ?_
    rintro r w' ⟨rfl, rfl⟩
    go_wp2_with fail
    refine (nan_any _ _).mono ?_
    rintro r w' ⟨rfl, rfl⟩
    go_wp2_with fail
    go_ret
    exact ⟨rfl, rfl⟩
  · rw [if_neg h1]
    have h2 : decide (n < 0) = false := by simpa using h1
    by_cases h3 : 0 < n
    · rw [if_pos h3]
      clear h1
      go_enter Try.func104, Try.ntmps104
      go_wp2_with fail
      refine (nan_any _ _).mono ?_
      rintro r w' ⟨rfl, rfl⟩
      go_wp2_with fail
      refine (nan_any _ _).mono ?_
      rintro r w' ⟨rfl, rfl⟩
      go_wp2_with fail
      go_ret
      exact ⟨rfl, rfl⟩
    · rw [if_neg h3]
      have h4 : decide (0 < n) = false := by simpa using h3
      clear h1 h3
      go_enter Try.func104, Try.ntmps104
      go_wp2_with fail
      refine (nan_any _ _).mono ?_
      rintro r w' ⟨rfl, rfl⟩
      go_wp2_with fail
      refine (nan_any _ _).mono ?_
      rintro r w' ⟨rfl, rfl⟩
      go_wp2_with fail
      go_ret
      exact ⟨rfl, rfl⟩
theorem side_any (ax ay bx bz cx cy : Int) (ha : onP ax ay) (hb : onP bx bz) (hc : onP cx cy) (w : World) :
    Calls Try.prog 67 #[.agg #[.int .i64 ax, .int .i64 ay, .int .i64 bx, .int .i64 bz], .agg #[.int .i64 cx, .int .i64 cy]] w fun e w' => e = .returned (.int .i64 (sgnI (areaN ax ay bx bz cx cy))) ∧ Below w.heap.size w w' := by
  go_enter Try.func67, Try.ntmps67
  go_wp2_with fail
  refine (turn_any _ _ _ _ _ _ ha hb hc _).mono ?_
  rintro r w1 ⟨rfl, hb1⟩
  go_wp2_with fail
  refine (sign_any _ _).mono ?_
  rintro r w' ⟨rfl, rfl⟩
  go_wp2_with fail
  go_ret
  exact ⟨rfl, (((Below.refl _ _).alloc (Nat.le_refl _) _).alloc (by simp) _).trans (hb1.mono (by simp; omega))⟩
end Go.Proofs.Ytcpcmlonbpccnaa.Ge

/- Walks over package geom: are all on the grid? Turn, Dist. -/
namespace Go.Proofs.Ytcpcmlonbpccnaa.Ge
set_option linter.unusedVariables false
set_option linter.unusedSimpArgs false
open Go.RowKit
open Go.Proofs.Ytcpcmlonbpccnaa.Fr (Two)

/-- block b holds the cells of these points -/
def Pts (w : World) (b : Nat) (l : List (Int × Int)) : Prop :=
  b < w.heap.size ∧ ∀ i (h : i < l.length), w.cell? ⟨b, i * 2, none⟩ = some (.int .i64 l[i].1) ∧ w.cell? ⟨b, i * 2 + 1, none⟩ = some (.int .i64 l[i].2)
theorem Pts.below {w w' : World} {b : Nat} {l : List (Int × Int)} (h : Pts w b l) (hb : Below w.heap.size w w') : Pts w' b l :=
  ⟨Nat.lt_of_lt_of_le h.1 hb.size, fun i hi => ⟨(hb.cell (p := ⟨b, i * 2, none⟩) h.1).trans (h.2 i hi).1, (hb.cell (p := ⟨b, i * 2 + 1, none⟩) h.1).trans (h.2 i hi).2⟩⟩
theorem pts_new {w : World} {B : Nat} (hB : B = w.heap.size) (t : TypeId) (cs : Array Value) (l : List (Int × Int)) (hc : ∀ i (h : i < l.length), cs[i * 2]? = some (.int .i64 l[i].1) ∧ cs[i * 2 + 1]? = some (.int .i64 l[i].2)) : Pts (w.alloc (.cells cs t)) B l := by
  subst hB
  have hg : (w.alloc (.cells cs t)).heap[w.heap.size]? = some (.cells cs t (0, 0)) := by
    show (w.heap.push _)[w.heap.size]? = _
    rw [Array.getElem?_push, if_pos rfl]
  refine ⟨by simp, fun i hi => ?_⟩
  obtain ⟨h1, h2⟩ := hc i hi
  simp only [World.cell?, hg]
  exact ⟨by simpa using h1, by simpa using h2⟩
theorem pts2 {w : World} {B : Nat} (hB : B = w.heap.size) (t : TypeId) (a b c d : Int) : Pts (w.alloc (.cells #[.int .i64 a, .int .i64 b, .int .i64 c, .int .i64 d] t)) B [(a, b), (c, d)] :=
  pts_new hB t _ _ fun i hi => by
    simp only [List.length_cons, List.length_nil] at hi
    obtain rfl | rfl : i = 0 ∨ i = 1 := by omega
    all_goals exact ⟨rfl, rfl⟩
theorem pts3 {w : World} {B : Nat} (hB : B = w.heap.size) (t : TypeId) (a b c d e f : Int) : Pts (w.alloc (.cells #[.int .i64 a, .int .i64 b, .int .i64 c, .int .i64 d, .int .i64 e, .int .i64 f] t)) B [(a, b), (c, d), (e, f)] :=
  pts_new hB t _ _ fun i hi => by
    simp only [List.length_cons, List.length_nil] at hi
    obtain rfl | rfl | rfl : i = 0 ∨ i = 1 ∨ i = 2 := by omega
    all_goals exact ⟨rfl, rfl⟩
theorem pts4 {w : World} {B : Nat} (hB : B = w.heap.size) (t : TypeId) (a b c d e f g h : Int) : Pts (w.alloc (.cells #[.int .i64 a, .int .i64 b, .int .i64 c, .int .i64 d, .int .i64 e, .int .i64 f, .int .i64 g, .int .i64 h] t)) B [(a, b), (c, d), (e, f), (g, h)] :=
  pts_new hB t _ _ fun i hi => by
    simp only [List.length_cons, List.length_nil] at hi
    obtain rfl | rfl | rfl | rfl : i = 0 ∨ i = 1 ∨ i = 2 ∨ i = 3 := by omega
    all_goals exact ⟨rfl, rfl⟩

/-- are all of a list on the grid? -/
def allP (l : List (Int × Int)) : Prop := ∀ i (h : i < l.length), onP l[i].1 l[i].2
set_option maxRecDepth 100000 in
set_option maxHeartbeats 4000000 in
theorem allOn_yes (l : List (Int × Int)) (b cap : Nat) (w : World) (h : Pts w b l) (hl : l.length ≤ 9) (ha : allP l) :
    Calls Try.prog 61 #[.slice (some ⟨b, 0, none⟩) l.length cap] w fun e w' => e = .returned (.bool true) ∧ Below w.heap.size w w' := by
  have HA := Lib.hid ha
  obtain ⟨hb, hc⟩ := h
  have HC := Lib.hid (fun (w' : World) (hw : Below w.heap.size w w') i (hi : i < l.length) => (Pts.below ⟨hb, hc⟩ hw).2 i hi)
  clear ha hc
  go_enter Try.func61, Try.ntmps61
  go_wp2_with fail
  go_loopw [7] (fun i wr => ∃ k : Nat, i = .int .i64 (k : Int) ∧ k ≤ l.length ∧ Below w.heap.size w wr) (fun i _ => l.length - (intOf i).toNat)
  case atStart => exact ⟨0, rfl, Nat.zero_le _, Below.refl _ _⟩
  case round =>
    obtain ⟨k, rfl, hk, hbel⟩ := hrel
    by_cases hlt : k < l.length
    · obtain ⟨c1, c2⟩ := HC.out wr hbel k hlt
      have HCALL := Lib.hid (fun w => on_yes _ _ (HA.out k hlt) w)
      generalize l[k].1 = f at *
      generalize l[k].2 = u at *
      go_wp2_with fail
      refine (HCALL.out _).mono ?_
      rintro r w1 ⟨rfl, hb1⟩
      have hb2 := (hbel.alloc hbel.size (.cells #[.int .i64 f, .int .i64 u] 24)).trans (hb1.mono (by have := hbel.size; simp; omega))
      clear c1 c2
      go_wp2_with fail
      go_roundw
      case rel => exact ⟨k + 1, by go_num, by omega, hb2⟩
      case measure => simp [intOf]; omega
    · go_wp2_with fail
      go_ret
      exact ⟨rfl, hbel⟩
set_option maxRecDepth 100000 in
set_option maxHeartbeats 4000000 in
theorem allOn_no (l : List (Int × Int)) (b cap : Nat) (w : World) (h : Pts w b l) (hl : l.length ≤ 9) (ha : ¬ allP l) :
    Calls Try.prog 61 #[.slice (some ⟨b, 0, none⟩) l.length cap] w fun e w' => e = .returned (.bool false) ∧ Below w.heap.size w w' := by
  have HA := Lib.hid ha
  obtain ⟨hb, hc⟩ := h
  have HC := Lib.hid (fun (w' : World) (hw : Below w.heap.size w w') i (hi : i < l.length) => (Pts.below ⟨hb, hc⟩ hw).2 i hi)
  clear ha hc
  go_enter Try.func61, Try.ntmps61
  go_wp2_with fail
  go_loopw [7] (fun i wr => ∃ k : Nat, i = .int .i64 (k : Int) ∧ k ≤ l.length ∧ (∀ j (hj : j < l.length), j < k → onP l[j].1 l[j].2) ∧ Below w.heap.size w wr) (fun i _ => l.length - (intOf i).toNat)
  case atStart => exact ⟨0, rfl, Nat.zero_le _, fun j hj hk => by omega, Below.refl _ _⟩
  case round =>
    obtain ⟨k, rfl, hk, hall, hbel⟩ := hrel
    have HL := Lib.hid hall
    clear hall
    by_cases hlt : k < l.length
    · obtain ⟨c1, c2⟩ := HC.out wr hbel k hlt
      by_cases hq : onP l[k].1 l[k].2
      · have HCALL := Lib.hid (fun w => on_yes _ _ hq w)
        have HL2 := Lib.hid (show ∀ j (hj : j < l.length), j < k + 1 → onP l[j].1 l[j].2 from fun j hj hjk => by
          by_cases e : j = k
          · subst e; exact hq
          · exact HL.out j hj (by omega))
        clear hq
        generalize l[k].1 = f at *
        generalize l[k].2 = u at *
        go_wp2_with fail
        refine (HCALL.out _).mono ?_
        rintro r w1 ⟨rfl, hb1⟩
        have hb2 := (hbel.alloc hbel.size (.cells #[.int .i64 f, .int .i64 u] 24)).trans (hb1.mono (by have := hbel.size; simp; omega))
        clear c1 c2
        go_wp2_with fail
        go_roundw
        case rel => exact ⟨k + 1, by go_num, by omega, HL2.out, hb2⟩
        case measure => simp [intOf]; omega
      · have HCALL := Lib.hid (fun w => on_no _ _ hq w)
        clear hq
        generalize l[k].1 = f at *
        generalize l[k].2 = u at *
        go_wp2_with fail
        refine (HCALL.out _).mono ?_
        rintro r w1 ⟨rfl, hb1⟩
        have hb2 := (hbel.alloc hbel.size (.cells #[.int .i64 f, .int .i64 u] 24)).trans (hb1.mono (by have := hbel.size; simp; omega))
        clear c1 c2
        go_wp2_with fail
        go_ret
        exact ⟨rfl, hb2⟩
    · exfalso
      refine HA.out fun i hi => ?_
      exact HL.out i hi (by omega)

theorem allP2 {ax ay bx bz : Int} : allP [(ax, ay), (bx, bz)] ↔ onP ax ay ∧ onP bx bz := by
  constructor
  · exact fun h => ⟨h 0 (by simp), h 1 (by simp)⟩
  · rintro ⟨h1, h2⟩ i hi
    simp only [List.length_cons, List.length_nil] at hi
    obtain rfl | rfl : i = 0 ∨ i = 1 := by omega
    · exact h1
    · exact h2
theorem allP3 {ax ay bx bz cx cy : Int} : allP [(ax, ay), (bx, bz), (cx, cy)] ↔ onP ax ay ∧ onP bx bz ∧ onP cx cy := by
  constructor
  · exact fun h => ⟨h 0 (by simp), h 1 (by simp), h 2 (by simp)⟩
  · rintro ⟨h1, h2, h3⟩ i hi
    simp only [List.length_cons, List.length_nil] at hi
    obtain rfl | rfl | rfl : i = 0 ∨ i = 1 ∨ i = 2 := by omega
    · exact h1
    · exact h2
    · exact h3
theorem allP4 {ax ay bx bz cx cy dx dy : Int} : allP [(ax, ay), (bx, bz), (cx, cy), (dx, dy)] ↔ onP ax ay ∧ onP bx bz ∧ onP cx cy ∧ onP dx dy := by
  constructor
  · exact fun h => ⟨h 0 (by simp), h 1 (by simp), h 2 (by simp), h 3 (by simp)⟩
  · rintro ⟨h1, h2, h3, h4⟩ i hi
    simp only [List.length_cons, List.length_nil] at hi
    obtain rfl | rfl | rfl | rfl : i = 0 ∨ i = 1 ∨ i = 2 ∨ i = 3 := by omega
    · exact h1
    · exact h2
    · exact h3
    · exact h4

theorem allOn_any (l : List (Int × Int)) (P : Prop) [Decidable P] (hP : allP l ↔ P) (n : Nat) (hn : l.length = n) (h9 : n ≤ 9) (b cap : Nat) (w : World) (h : Pts w b l) :
    Calls Try.prog 61 #[.slice (some ⟨b, 0, none⟩) n cap] w fun e w' => e = .returned (.bool (decide P)) ∧ Below w.heap.size w w' := by
  subst hn
  by_cases k : P
  · rw [decide_eq_true k]; exact allOn_yes l b cap w h h9 (hP.2 k)
  · rw [decide_eq_false k]; exact allOn_no l b cap w h h9 (fun q => k (hP.1 q))
theorem allOn2 (ax ay bx bz : Int) (b cap : Nat) (w : World) (h : Pts w b [(ax, ay), (bx, bz)]) :
    Calls Try.prog 61 #[.slice (some ⟨b, 0, none⟩) 2 cap] w fun e w' => e = .returned (.bool (decide (onP ax ay ∧ onP bx bz))) ∧ Below w.heap.size w w' := 
  allOn_any _ _ allP2 2 rfl (by decide) b cap w h
theorem allOn3 (ax ay bx bz cx cy : Int) (b cap : Nat) (w : World) (h : Pts w b [(ax, ay), (bx, bz), (cx, cy)]) :
    Calls Try.prog 61 #[.slice (some ⟨b, 0, none⟩) 3 cap] w fun e w' => e = .returned (.bool (decide (onP ax ay ∧ onP bx bz ∧ onP cx cy))) ∧ Below w.heap.size w w' := 
  allOn_any _ _ allP3 3 rfl (by decide) b cap w h
theorem allOn4 (ax ay bx bz cx cy dx dy : Int) (b cap : Nat) (w : World) (h : Pts w b [(ax, ay), (bx, bz), (cx, cy), (dx, dy)]) :
    Calls Try.prog 61 #[.slice (some ⟨b, 0, none⟩) 4 cap] w fun e w' => e = .returned (.bool (decide (onP ax ay ∧ onP bx bz ∧ onP cx cy ∧ onP dx dy))) ∧ Below w.heap.size w w' := 
  allOn_any _ _ allP4 4 rfl (by decide) b cap w h
end Go.Proofs.Ytcpcmlonbpccnaa.Ge

/- Walks over package geom: Turn, Dist, segments' places. -/
namespace Go.Proofs.Ytcpcmlonbpccnaa.Ge
set_option linter.unusedVariables false
set_option linter.unusedSimpArgs false
open Go.RowKit
open Go.Proofs.Ytcpcmlonbpccnaa.Fr (Two)

theorem two_of {w w' : World} {B : Nat} {t : TypeId} {x y : Value} (h : Two w B t x y) (hb : Below w.heap.size w w') : w'.cell? ⟨B, 0, none⟩ = some x ∧ w'.cell? ⟨B, 1, none⟩ = some y :=
  ⟨(h.below hb h.lt).facts.1, (h.below hb h.lt).facts.2.1⟩

set_option maxHeartbeats 4000000 in
theorem Dist_any (ax ay bx bz : Int) (w : World) :
    Calls Try.prog 64 #[.agg #[.int .i64 ax, .int .i64 ay], .agg #[.int .i64 bx, .int .i64 bz]] w fun e w' => e = .returned (.int .i64 (distV ax ay bx bz)) ∧ Below w.heap.size w w' := by
  unfold distV
  have HL := Lib.hid (fun b cap w k => allOn2 ax ay bx bz b cap w k)
  by_cases h : onP ax ay ∧ onP bx bz
  · rw [if_pos h]
    rw [decide_eq_true h] at HL
    have HJ := Lib.hid (fun w => join_any ax ay bx bz w)
    have HS := Lib.hid (fun w => along_any ax ay bx bz bx bz h.1 h.2 h.2 w)
    have e : alongN ax ay bx bz bx bz = distN ax ay bx bz := rfl
    rw [e] at HS
    clear h e
    have t1 := (Two.new w 24 (.int .i64 ax) (.int .i64 ay)).alloc (.cells #[.int .i64 bx, .int .i64 bz] 24)
    have t2 := Two.at (w := w.alloc (.cells #[.int .i64 ax, .int .i64 ay] 24)) (B := w.heap.size + 1) (by simp) 24 (.int .i64 bx) (.int .i64 bz)
    have s1 := t1.alloc (.cells #[.int .i64 ax, .int .i64 ay, .int .i64 bx, .int .i64 bz] 24)
    have s2 := t2.alloc (.cells #[.int .i64 ax, .int .i64 ay, .int .i64 bx, .int .i64 bz] 24)
    have hb0 := ((((Below.refl w.heap.size w).alloc (Nat.le_refl _) (.cells #[.int .i64 ax, .int .i64 ay] 24)).alloc (by simp) (.cells #[.int .i64 bx, .int .i64 bz] 24))).alloc (by simp; omega) (.cells #[.int .i64 ax, .int .i64 ay, .int .i64 bx, .int .i64 bz] 24)
    clear t1 t2
    go_enter Try.func64, Try.ntmps64
    go_wp2_with fail
    refine (HL.out _ _ _ (pts2 (by simp) _ _ _ _ _)).mono ?_
    rintro r w1 ⟨rfl, hb1⟩
    have r1 := s1.below hb1 s1.lt
    have r2 := s2.below hb1 s2.lt
    have hb2 := hb0.trans (hb1.mono hb0.size)
    clear s1 s2 hb0 hb1
    go_upto_region 3 with fail
    have hS : ∀ w' : World, Below w1.heap.size w1 w' → (w'.cell? ⟨w.heap.size, 0, none⟩ = some (.int .i64 ax) ∧ w'.cell? ⟨w.heap.size, 1, none⟩ = some (.int .i64 ay)) ∧ w'.cell? ⟨w.heap.size + 1, 0, none⟩ = some (.int .i64 bx) ∧ w'.cell? ⟨w.heap.size + 1, 1, none⟩ = some (.int .i64 bz) := fun w' hb =>
      ⟨two_of r1 hb, two_of r2 hb⟩
    have hr := Below.refl w1.heap.size w1
    go_region_held3 (fun w' => (w'.cell? ⟨w.heap.size, 0, none⟩ = some (.int .i64 ax) ∧ w'.cell? ⟨w.heap.size, 1, none⟩ = some (.int .i64 ay)) ∧ w'.cell? ⟨w.heap.size + 1, 0, none⟩ = some (.int .i64 bx) ∧ w'.cell? ⟨w.heap.size + 1, 1, none⟩ = some (.int .i64 bz))
      (first | exact hS _ hr.drew | exact hS _ (by assumption))
      (first
        | (go_at_call 62; refine (HJ.out _).mono ?_; rintro r x1 ⟨rfl, hx1'⟩; have hx1 : Below w1.heap.size w1 x1 := hr.drew.trans hx1')
        | (go_at_call 63; refine (HS.out _).mono ?_; rintro r x2 ⟨rfl, hx2'⟩; have hx2 : Below w1.heap.size w1 x2 := hx1.trans (hx2'.mono hx1.size)))
    all_goals
      go_wp2_with fail
      go_ret
      exact ⟨rfl, hb2.trans (hx2.mono hb2.size)⟩
  · rw [if_neg h]
    rw [decide_eq_false h] at HL
    clear h
    have hb0 := ((((Below.refl w.heap.size w).alloc (Nat.le_refl _) (.cells #[.int .i64 ax, .int .i64 ay] 24)).alloc (by simp) (.cells #[.int .i64 bx, .int .i64 bz] 24))).alloc (by simp; omega) (.cells #[.int .i64 ax, .int .i64 ay, .int .i64 bx, .int .i64 bz] 24)
    go_enter Try.func64, Try.ntmps64
    go_wp2_with fail
    refine (HL.out _ _ _ (pts2 (by simp) _ _ _ _ _)).mono ?_
    rintro r w1 ⟨rfl, hb1⟩
    go_wp2_with fail
    go_ret
    exact ⟨rfl, hb0.trans (hb1.mono hb0.size)⟩
end Go.Proofs.Ytcpcmlonbpccnaa.Ge

/- Walks over package geom: Turn, places of a segment. -/
namespace Go.Proofs.Ytcpcmlonbpccnaa.Ge
set_option linter.unusedVariables false
set_option linter.unusedSimpArgs false
open Go.RowKit
open Go.Proofs.Ytcpcmlonbpccnaa.Fr (Two)

set_option maxHeartbeats 4000000 in
theorem Turn_any (ax ay bx bz cx cy : Int) (w : World) :
    Calls Try.prog 28 #[.agg #[.int .i64 ax, .int .i64 ay], .agg #[.int .i64 bx, .int .i64 bz], .agg #[.int .i64 cx, .int .i64 cy]] w fun e w' => e = .returned (.int .i64 (turnV ax ay bx bz cx cy)) ∧ Below w.heap.size w w' := by
  unfold turnV
  have HL := Lib.hid (fun b cap w k => allOn3 ax ay bx bz cx cy b cap w k)
  by_cases h : onP ax ay ∧ onP bx bz ∧ onP cx cy
  · rw [if_pos h]
    rw [decide_eq_true h] at HL
    have HJ := Lib.hid (fun w => join_any ax ay bx bz w)
    have HS := Lib.hid (fun w => side_any ax ay bx bz cx cy h.1 h.2.1 h.2.2 w)
    clear h
    have b0_0 := Two.at (w := w) (B := w.heap.size) (by simp) 24 (.int .i64 ax) (.int .i64 ay)
    have b1_1 := Two.at (w := (w.alloc (.cells #[.int .i64 ax, .int .i64 ay] 24))) (B := w.heap.size + 1) (by simp) 24 (.int .i64 bx) (.int .i64 bz)
    have b0_1 := b0_0.alloc (.cells #[.int .i64 bx, .int .i64 bz] 24)
    have b2_2 := Two.at (w := ((w.alloc (.cells #[.int .i64 ax, .int .i64 ay] 24)).alloc (.cells #[.int .i64 bx, .int .i64 bz] 24))) (B := w.heap.size + 1 + 1) (by simp) 24 (.int .i64 cx) (.int .i64 cy)
    have b0_2 := b0_1.alloc (.cells #[.int .i64 cx, .int .i64 cy] 24)
    have b1_2 := b1_1.alloc (.cells #[.int .i64 cx, .int .i64 cy] 24)
    have b0_2e := b0_2.alloc (.cells #[.int .i64 ax, .int .i64 ay, .int .i64 bx, .int .i64 bz, .int .i64 cx, .int .i64 cy] 24)
    have b1_2e := b1_2.alloc (.cells #[.int .i64 ax, .int .i64 ay, .int .i64 bx, .int .i64 bz, .int .i64 cx, .int .i64 cy] 24)
    have b2_2e := b2_2.alloc (.cells #[.int .i64 ax, .int .i64 ay, .int .i64 bx, .int .i64 bz, .int .i64 cx, .int .i64 cy] 24)
    have hb0 : Below w.heap.size w _ := (((((Below.refl w.heap.size w).alloc (by simp <;> omega) (.cells #[.int .i64 ax, .int .i64 ay] 24)).alloc (by simp <;> omega) (.cells #[.int .i64 bx, .int .i64 bz] 24)).alloc (by simp <;> omega) (.cells #[.int .i64 cx, .int .i64 cy] 24)).alloc (by simp <;> omega) (.cells #[.int .i64 ax, .int .i64 ay, .int .i64 bx, .int .i64 bz, .int .i64 cx, .int .i64 cy] 24))
    go_enter Try.func28, Try.ntmps28
    go_wp2_with fail
    refine (HL.out _ _ _ (pts3 (by simp) _ _ _ _ _ _ _)).mono ?_
    rintro r w1 ⟨rfl, hb1⟩
    have r0 := b0_2e.below hb1 b0_2e.lt
    have r1 := b1_2e.below hb1 b1_2e.lt
    have r2 := b2_2e.below hb1 b2_2e.lt
    have hb2 := hb0.trans (hb1.mono hb0.size)
    clear b0_0 b0_1 b1_1 b0_2 b1_2 b2_2 b0_2e b1_2e b2_2e hb0 hb1
    go_upto_region 3 with fail
    have hS : ∀ w' : World, Below w1.heap.size w1 w' → (w'.cell? ⟨w.heap.size, 0, none⟩ = some (.int .i64 ax) ∧ w'.cell? ⟨w.heap.size, 1, none⟩ = some (.int .i64 ay)) ∧ (w'.cell? ⟨w.heap.size + 1, 0, none⟩ = some (.int .i64 bx) ∧ w'.cell? ⟨w.heap.size + 1, 1, none⟩ = some (.int .i64 bz)) ∧ (w'.cell? ⟨w.heap.size + 1 + 1, 0, none⟩ = some (.int .i64 cx) ∧ w'.cell? ⟨w.heap.size + 1 + 1, 1, none⟩ = some (.int .i64 cy)) := fun w' hb => ⟨two_of r0 hb, two_of r1 hb, two_of r2 hb⟩
    have hr := Below.refl w1.heap.size w1
    go_region_held3 (fun w' => (w'.cell? ⟨w.heap.size, 0, none⟩ = some (.int .i64 ax) ∧ w'.cell? ⟨w.heap.size, 1, none⟩ = some (.int .i64 ay)) ∧ (w'.cell? ⟨w.heap.size + 1, 0, none⟩ = some (.int .i64 bx) ∧ w'.cell? ⟨w.heap.size + 1, 1, none⟩ = some (.int .i64 bz)) ∧ (w'.cell? ⟨w.heap.size + 1 + 1, 0, none⟩ = some (.int .i64 cx) ∧ w'.cell? ⟨w.heap.size + 1 + 1, 1, none⟩ = some (.int .i64 cy)))
      (first | exact hS _ hr.drew | exact hS _ (by assumption))
      (first
        | (go_at_call 62; refine (HJ.out _).mono ?_; rintro r x1 ⟨rfl, hx1'⟩; have hx1 : Below w1.heap.size w1 x1 := hr.drew.trans hx1')
        | (go_at_call 67; refine (HS.out _).mono ?_; rintro r x2 ⟨rfl, hx2'⟩; have hx2 : Below w1.heap.size w1 x2 := hx1.trans (hx2'.mono hx1.size)))
    all_goals
      go_wp2_with fail
      go_ret
      exact ⟨rfl, hb2.trans (hx2.mono hb2.size)⟩
  · rw [if_neg h]
    rw [decide_eq_false h] at HL
    clear h
    have hb0 : Below w.heap.size w _ := (((((Below.refl w.heap.size w).alloc (by simp <;> omega) (.cells #[.int .i64 ax, .int .i64 ay] 24)).alloc (by simp <;> omega) (.cells #[.int .i64 bx, .int .i64 bz] 24)).alloc (by simp <;> omega) (.cells #[.int .i64 cx, .int .i64 cy] 24)).alloc (by simp <;> omega) (.cells #[.int .i64 ax, .int .i64 ay, .int .i64 bx, .int .i64 bz, .int .i64 cx, .int .i64 cy] 24))
    go_enter Try.func28, Try.ntmps28
    go_wp2_with fail
    refine (HL.out _ _ _ (pts3 (by simp) _ _ _ _ _ _ _)).mono ?_
    rintro r w1 ⟨rfl, hb1⟩
    go_wp2_with fail
    go_ret
    exact ⟨rfl, hb0.trans (hb1.mono hb0.size)⟩
/-- block B holds the four cells of a segment -/
def Four (w : World) (B : Nat) (x y z u : Int) : Prop := w.heap[B]? = some (.cells #[.int .i64 x, .int .i64 y, .int .i64 z, .int .i64 u] 85 (0, 0))
theorem Four.lt {w : World} {B : Nat} {x y z u : Int} (h : Four w B x y z u) : B < w.heap.size := (Array.getElem?_eq_some_iff.1 h).1
theorem Four.facts {w : World} {B : Nat} {x y z u : Int} (h : Four w B x y z u) :
    w.cell? ⟨B, 0, none⟩ = some (.int .i64 x) ∧ w.cell? ⟨B, 1, none⟩ = some (.int .i64 y) ∧ w.cell? ⟨B, 2, none⟩ = some (.int .i64 z) ∧ w.cell? ⟨B, 3, none⟩ = some (.int .i64 u) := by
  unfold Four at h
  simp [World.cell?, h]
theorem Four.facts8 {w : World} {B : Nat} {x y z u : Int} (h : Four w B x y z u) :
    (w.cell? ⟨B, 0, none⟩ = some (.int .i64 x) ∧ w.cell? ⟨B, 1, none⟩ = some (.int .i64 y) ∧ w.cell? ⟨B, 2, none⟩ = some (.int .i64 z) ∧ w.cell? ⟨B, 3, none⟩ = some (.int .i64 u)) ∧
    w.frozen? ⟨B, 0, none⟩ = false ∧ w.frozen? ⟨B, 1, none⟩ = false ∧ w.frozen? ⟨B, 2, none⟩ = false ∧ w.frozen? ⟨B, 3, none⟩ = false := by
  unfold Four at h
  simp [World.cell?, World.frozen?, h]
theorem Four.below {w w' : World} {N B : Nat} {x y z u : Int} (h : Four w B x y z u) (hb : Below N w w') (hlt : B < N) : Four w' B x y z u := (hb.block B hlt).trans h
theorem Four.alloc {w : World} {B : Nat} {x y z u : Int} (h : Four w B x y z u) (o : Obj) : Four (w.alloc o) B x y z u := by
  have := h.lt
  unfold Four at h ⊢
  show (w.heap.push o)[B]? = _
  rw [Array.getElem?_push, if_neg (by omega), h]
theorem Four.at {w : World} {B : Nat} (h : B = w.heap.size) (x y z u : Int) : Four (w.alloc (.cells #[.int .i64 x, .int .i64 y, .int .i64 z, .int .i64 u] 85)) B x y z u := by
  subst h
  show (w.heap.push _)[w.heap.size]? = _
  rw [Array.getElem?_push, if_pos rfl]
theorem four_of {w w' : World} {B : Nat} {x y z u : Int} (h : Four w B x y z u) (hb : Below w.heap.size w w') :
    w'.cell? ⟨B, 0, none⟩ = some (.int .i64 x) ∧ w'.cell? ⟨B, 1, none⟩ = some (.int .i64 y) ∧ w'.cell? ⟨B, 2, none⟩ = some (.int .i64 z) ∧ w'.cell? ⟨B, 3, none⟩ = some (.int .i64 u) := (h.below hb h.lt).facts

theorem has_same (ax ay cx cy : Int) : hasB ax ay ax ay cx cy = (cx == ax && cy == ay) := by
  rw [Bool.eq_iff_iff]
  unfold hasB
  rw [decide_eq_true_iff]
  unfold hasP
  rw [if_pos ⟨rfl, rfl⟩]
  simp
theorem has_other {ax ay bx bz cx cy : Int} (h : ¬ (ax = bx ∧ ay = bz)) : hasB ax ay bx bz cx cy = decide (areaN ax ay bx bz cx cy = 0 ∧ 0 ≤ alongN ax ay bx bz cx cy ∧ alongN ax ay bx bz cx cy ≤ distN ax ay bx bz) := by
  rw [Bool.eq_iff_iff]
  unfold hasB
  rw [decide_eq_true_iff, decide_eq_true_iff]
  unfold hasP
  rw [if_neg h]
set_option maxHeartbeats 4000000 in
theorem has_any (ax ay bx bz cx cy : Int) (ha : onP ax ay) (hb : onP bx bz) (hc : onP cx cy) (w : World) :
    Calls Try.prog 71 #[.agg #[.int .i64 ax, .int .i64 ay, .int .i64 bx, .int .i64 bz], .agg #[.int .i64 cx, .int .i64 cy]] w fun e w' => e = .returned (.bool (hasB ax ay bx bz cx cy)) ∧ Below w.heap.size w w' := by
  have hb0 := ((Below.refl w.heap.size w).alloc (Nat.le_refl _) (.cells #[.int .i64 ax, .int .i64 ay, .int .i64 bx, .int .i64 bz] 85)).alloc (by simp) (.cells #[.int .i64 cx, .int .i64 cy] 24)
  by_cases h : ax = bx ∧ ay = bz
  · obtain ⟨rfl, rfl⟩ := h
    rw [has_same]
    clear ha hb hc
    have hcs : (cx = ax ∧ cy = ay) ∨ (cx == ax) = false ∨ cx = ax ∧ (cy == ay) = false := by
      simp only [beq_eq_false_iff_ne, ne_eq]
      omega
    rcases hcs with ⟨rfl, rfl⟩ | h1 | ⟨rfl, h1⟩
    · have e : (cx == cx && cy == cy) = true := by simp
      rw [e]
      clear e
      go_enter Try.func71, Try.ntmps71
      go_wp2_with fail
      go_ret
      exact ⟨rfl, hb0⟩
    · have e : (cx == ax && cy == ay) = false := by rw [h1]; rfl
      rw [e]
      clear e
      go_enter Try.func71, Try.ntmps71
      go_wp2_with fail
      go_ret
      exact ⟨rfl, hb0⟩
    · have e : (cx == cx && cy == ay) = false := by rw [h1]; simp
      rw [e]
      clear e
      go_enter Try.func71, Try.ntmps71
      go_wp2_with fail
      go_ret
      exact ⟨rfl, hb0⟩
  · rw [has_other h]
    have hne : (ax == bx) = false ∨ ax = bx ∧ (ay == bz) = false := by
      simp only [beq_eq_false_iff_ne, ne_eq]
      omega
    have HL := Lib.hid (fun w => along_any ax ay bx bz cx cy ha hb hc w)
    have HS := Lib.hid (fun w => side_any ax ay bx bz cx cy ha hb hc w)
    have HD := Lib.hid (fun w => Dist_any ax ay bx bz w)
    have ed : distV ax ay bx bz = distN ax ay bx bz := by unfold distV; rw [if_pos ⟨ha, hb⟩]
    rw [ed] at HD
    have hsg := sgn_cases (areaN ax ay bx bz cx cy)
    have bd1 := along_bd ha hb hc
    have bd2 := dist_bd ha hb
    generalize areaN ax ay bx bz cx cy = A at *
    generalize alongN ax ay bx bz cx cy = L at *
    generalize distN ax ay bx bz = D at *
    have b1_ := Four.at (w := w) (B := w.heap.size) rfl ax ay bx bz
    have s1 := b1_.alloc (.cells #[.int .i64 cx, .int .i64 cy] 24)
    have s2 := Two.at (w := w.alloc (.cells #[.int .i64 ax, .int .i64 ay, .int .i64 bx, .int .i64 bz] 85)) (B := w.heap.size + 1) (by simp) 24 (.int .i64 cx) (.int .i64 cy)
    clear b1_ ed h ha hb hc
    have key : ∃ z : Int, sgnI A = z ∧ (z = 0 ↔ A = 0) := ⟨_, rfl, by omega⟩
    obtain ⟨z, ez, hz⟩ := key
    rw [ez] at HS
    clear ez hsg
    by_cases hA : A = 0
    · have hz0 : z = 0 := hz.2 hA
      subst hz0
      by_cases hL : 0 ≤ L
      · have er : decide (A = 0 ∧ 0 ≤ L ∧ L ≤ D) = decide (L ≤ D) := by simp [hA, hL]
        rw [er]
        clear er hz hA
        rcases hne with hne | ⟨rfl, hne⟩
        · go_enter Try.func71, Try.ntmps71
          go_wp2_with fail
          refine (HL.out _).mono ?_
          rintro r w1 ⟨rfl, hx1⟩
          have hb1 := hb0.trans (hx1.mono hb0.size)
          have r1 := s1.below hx1 s1.lt
          have r2 := s2.below hx1 s2.lt
          obtain ⟨c1, c2, c3, c4⟩ := r1.facts
          obtain ⟨d1, d2, d3, d4⟩ := r2.facts
          go_wp2_with fail
          refine (HS.out _).mono ?_
          rintro r w2 ⟨rfl, hx2⟩
          have hb2 := hb1.trans (hx2.mono hb1.size)
          have q1 := r1.below hx2 r1.lt
          have q2 := r2.below hx2 r2.lt
          clear c1 c2 c3 c4 d1 d2 d3 d4
          obtain ⟨c1, c2, c3, c4⟩ := q1.facts
          obtain ⟨d1, d2, d3, d4⟩ := q2.facts
          go_wp2_with fail
          refine (HD.out _).mono ?_
          rintro r w3 ⟨rfl, hx3⟩
          have hb3 := hb2.trans (hx3.mono hb2.size)
          go_wp2_with fail
          go_ret
          exact ⟨rfl, hb3⟩
        · go_enter Try.func71, Try.ntmps71
          go_wp2_with fail
          refine (HL.out _).mono ?_
          rintro r w1 ⟨rfl, hx1⟩
          have hb1 := hb0.trans (hx1.mono hb0.size)
          have r1 := s1.below hx1 s1.lt
          have r2 := s2.below hx1 s2.lt
          obtain ⟨c1, c2, c3, c4⟩ := r1.facts
          obtain ⟨d1, d2, d3, d4⟩ := r2.facts
          go_wp2_with fail
          refine (HS.out _).mono ?_
          rintro r w2 ⟨rfl, hx2⟩
          have hb2 := hb1.trans (hx2.mono hb1.size)
          have q1 := r1.below hx2 r1.lt
          have q2 := r2.below hx2 r2.lt
          clear c1 c2 c3 c4 d1 d2 d3 d4
          obtain ⟨c1, c2, c3, c4⟩ := q1.facts
          obtain ⟨d1, d2, d3, d4⟩ := q2.facts
          go_wp2_with fail
          refine (HD.out _).mono ?_
          rintro r w3 ⟨rfl, hx3⟩
          have hb3 := hb2.trans (hx3.mono hb2.size)
          go_wp2_with fail
          go_ret
          exact ⟨rfl, hb3⟩
      · have er : decide (A = 0 ∧ 0 ≤ L ∧ L ≤ D) = false := by simp [hL]
        rw [er]
        have hL2 : decide (0 ≤ L) = false := by simpa using hL
        clear er hz hA hL
        rcases hne with hne | ⟨rfl, hne⟩
        · go_enter Try.func71, Try.ntmps71
          go_wp2_with fail
          refine (HL.out _).mono ?_
          rintro r w1 ⟨rfl, hx1⟩
          have hb1 := hb0.trans (hx1.mono hb0.size)
          have r1 := s1.below hx1 s1.lt
          have r2 := s2.below hx1 s2.lt
          obtain ⟨c1, c2, c3, c4⟩ := r1.facts
          obtain ⟨d1, d2, d3, d4⟩ := r2.facts
          go_wp2_with fail
          refine (HS.out _).mono ?_
          rintro r w2 ⟨rfl, hx2⟩
          have hb2 := hb1.trans (hx2.mono hb1.size)
          have q1 := r1.below hx2 r1.lt
          have q2 := r2.below hx2 r2.lt
          clear c1 c2 c3 c4 d1 d2 d3 d4
          obtain ⟨c1, c2, c3, c4⟩ := q1.facts
          obtain ⟨d1, d2, d3, d4⟩ := q2.facts
          go_wp2_with fail
          go_ret
          exact ⟨rfl, hb2⟩
        · go_enter Try.func71, Try.ntmps71
          go_wp2_with fail
          refine (HL.out _).mono ?_
          rintro r w1 ⟨rfl, hx1⟩
          have hb1 := hb0.trans (hx1.mono hb0.size)
          have r1 := s1.below hx1 s1.lt
          have r2 := s2.below hx1 s2.lt
          obtain ⟨c1, c2, c3, c4⟩ := r1.facts
          obtain ⟨d1, d2, d3, d4⟩ := r2.facts
          go_wp2_with fail
          refine (HS.out _).mono ?_
          rintro r w2 ⟨rfl, hx2⟩
          have hb2 := hb1.trans (hx2.mono hb1.size)
          have q1 := r1.below hx2 r1.lt
          have q2 := r2.below hx2 r2.lt
          clear c1 c2 c3 c4 d1 d2 d3 d4
          obtain ⟨c1, c2, c3, c4⟩ := q1.facts
          obtain ⟨d1, d2, d3, d4⟩ := q2.facts
          go_wp2_with fail
          go_ret
          exact ⟨rfl, hb2⟩
    · have er : decide (A = 0 ∧ 0 ≤ L ∧ L ≤ D) = false := by simp [hA]
      rw [er]
      have hz1 : (z == 0) = false := by simp only [beq_eq_false_iff_ne, ne_eq]; omega
      clear er hz hA
      rcases hne with hne | ⟨rfl, hne⟩
      · go_enter Try.func71, Try.ntmps71
        go_wp2_with fail
        refine (HL.out _).mono ?_
        rintro r w1 ⟨rfl, hx1⟩
        have hb1 := hb0.trans (hx1.mono hb0.size)
        have r1 := s1.below hx1 s1.lt
        have r2 := s2.below hx1 s2.lt
        obtain ⟨c1, c2, c3, c4⟩ := r1.facts
        obtain ⟨d1, d2, d3, d4⟩ := r2.facts
        go_wp2_with fail
        refine (HS.out _).mono ?_
        rintro r w2 ⟨rfl, hx2⟩
        have hb2 := hb1.trans (hx2.mono hb1.size)
        have q1 := r1.below hx2 r1.lt
        have q2 := r2.below hx2 r2.lt
        clear c1 c2 c3 c4 d1 d2 d3 d4
        obtain ⟨c1, c2, c3, c4⟩ := q1.facts
        obtain ⟨d1, d2, d3, d4⟩ := q2.facts
        go_wp2_with fail
        go_ret
        exact ⟨rfl, hb2⟩
      · go_enter Try.func71, Try.ntmps71
        go_wp2_with fail
        refine (HL.out _).mono ?_
        rintro r w1 ⟨rfl, hx1⟩
        have hb1 := hb0.trans (hx1.mono hb0.size)
        have r1 := s1.below hx1 s1.lt
        have r2 := s2.below hx1 s2.lt
        obtain ⟨c1, c2, c3, c4⟩ := r1.facts
        obtain ⟨d1, d2, d3, d4⟩ := r2.facts
        go_wp2_with fail
        refine (HS.out _).mono ?_
        rintro r w2 ⟨rfl, hx2⟩
        have hb2 := hb1.trans (hx2.mono hb1.size)
        have q1 := r1.below hx2 r1.lt
        have q2 := r2.below hx2 r2.lt
        clear c1 c2 c3 c4 d1 d2 d3 d4
        obtain ⟨c1, c2, c3, c4⟩ := q1.facts
        obtain ⟨d1, d2, d3, d4⟩ := q2.facts
        go_wp2_with fail
        go_ret
        exact ⟨rfl, hb2⟩
end Go.Proofs.Ytcpcmlonbpccnaa.Ge

/- Walks over package geom: ends of a segment on both sides of another one. -/
namespace Go.Proofs.Ytcpcmlonbpccnaa.Ge
set_option linter.unusedVariables false
set_option linter.unusedSimpArgs false
open Go.RowKit
open Go.Proofs.Ytcpcmlonbpccnaa.Fr (Two)

set_option maxHeartbeats 4000000 in
theorem apart_any (ax ay bx bz cx cy dx dy : Int) (ha : onP ax ay) (hb : onP bx bz) (hc : onP cx cy) (hd : onP dx dy) (w : World) :
    Calls Try.prog 137 #[.agg #[.int .i64 ax, .int .i64 ay, .int .i64 bx, .int .i64 bz], .func (.func 67) #[.agg #[.int .i64 cx, .int .i64 cy, .int .i64 dx, .int .i64 dy]] #[]] w fun e w' => e = .returned (.bool (apartB ax ay bx bz cx cy dx dy)) ∧ Below w.heap.size w w' := by
  have HN := Lib.hid (fun w => side_any cx cy dx dy ax ay hc hd ha w)
  have HM := Lib.hid (fun w => side_any cx cy dx dy bx bz hc hd hb w)
  have bn := sgn_bd (areaN cx cy dx dy ax ay)
  have bm := sgn_bd (areaN cx cy dx dy bx bz)
  unfold apartB
  generalize sgnI (areaN cx cy dx dy ax ay) = N at *
  generalize sgnI (areaN cx cy dx dy bx bz) = M at *
  have bnm := mul_bd (m := 1) (k := 1) bn.1 bn.2 bm.1 bm.2 (by decide) (by decide)
  have hw : IntKind.i64.wrap (N * M) = N * M := by rw [IntKind.wrap_i64]; omega
  clear ha hb hc hd
  have s1 := Four.at (w := w) (B := w.heap.size) rfl ax ay bx bz
  have hb0 := (Below.refl w.heap.size w).alloc (Nat.le_refl _) (.cells #[.int .i64 ax, .int .i64 ay, .int .i64 bx, .int .i64 bz] 85)
  go_enter Try.func137, Try.ntmps137
  go_upto_region 1 with fail
  generalize w.alloc (.cells #[.int .i64 ax, .int .i64 ay, .int .i64 bx, .int .i64 bz] 85) = W at *
  have hS : ∀ w' : World, Below W.heap.size W w' → (w'.cell? ⟨w.heap.size, 0, none⟩ = some (.int .i64 ax) ∧ w'.cell? ⟨w.heap.size, 1, none⟩ = some (.int .i64 ay) ∧ w'.cell? ⟨w.heap.size, 2, none⟩ = some (.int .i64 bx) ∧ w'.cell? ⟨w.heap.size, 3, none⟩ = some (.int .i64 bz)) := fun w' hb => four_of s1 hb
  have hr := Below.refl W.heap.size W
  go_region_held3 (fun w' => (w'.cell? ⟨w.heap.size, 0, none⟩ = some (.int .i64 ax) ∧ w'.cell? ⟨w.heap.size, 1, none⟩ = some (.int .i64 ay) ∧ w'.cell? ⟨w.heap.size, 2, none⟩ = some (.int .i64 bx) ∧ w'.cell? ⟨w.heap.size, 3, none⟩ = some (.int .i64 bz)))
    (first | exact hS _ hr.drew | exact hS _ (by assumption))
    (first
      | (go_at_call 67; have hz := hx1; refine (HM.out _).mono ?_; rintro r x2 ⟨rfl, hx2'⟩; have hx2 : Below W.heap.size W x2 := hx1.trans (hx2'.mono hx1.size))
      | (go_at_call 67; refine (HN.out _).mono ?_; rintro r x1 ⟨rfl, hx1'⟩; have hx1 : Below W.heap.size W x1 := hr.drew.trans hx1'))
  all_goals
    go_wp2_with fail
    go_ret
    exact ⟨rfl, hb0.trans (hx2.mono hb0.size)⟩
end Go.Proofs.Ytcpcmlonbpccnaa.Ge

/- Walks over package geom: Cross. -/
namespace Go.Proofs.Ytcpcmlonbpccnaa.Ge
set_option linter.unusedVariables false
set_option linter.unusedSimpArgs false
open Go.RowKit
open Go.Proofs.Ytcpcmlonbpccnaa.Fr (Two)

theorem cutI {p q : Prop} (a : p) (b : p → q) : q := b a
theorem four_b1 {W w1 : World} {x y z u : Int} (hb : Below (W.alloc (.cells #[.int .i64 x, .int .i64 y, .int .i64 z, .int .i64 u] 85)).drew.heap.size (W.alloc (.cells #[.int .i64 x, .int .i64 y, .int .i64 z, .int .i64 u] 85)).drew w1) : Four w1 W.heap.size x y z u :=
  Four.below (w := (W.alloc (.cells #[.int .i64 x, .int .i64 y, .int .i64 z, .int .i64 u] 85)).drew) (Four.at rfl x y z u) hb (by simp)
theorem four_b2 {W w1 : World} {x y z u a b c d : Int} (hb : Below ((W.alloc (.cells #[.int .i64 x, .int .i64 y, .int .i64 z, .int .i64 u] 85)).alloc (.cells #[.int .i64 a, .int .i64 b, .int .i64 c, .int .i64 d] 85)).drew.heap.size ((W.alloc (.cells #[.int .i64 x, .int .i64 y, .int .i64 z, .int .i64 u] 85)).alloc (.cells #[.int .i64 a, .int .i64 b, .int .i64 c, .int .i64 d] 85)).drew w1) : Four w1 W.heap.size x y z u ∧ Four w1 (W.heap.size + 1) a b c d :=
  ⟨Four.below (w := ((W.alloc (.cells #[.int .i64 x, .int .i64 y, .int .i64 z, .int .i64 u] 85)).alloc (.cells #[.int .i64 a, .int .i64 b, .int .i64 c, .int .i64 d] 85)).drew) ((Four.at rfl x y z u).alloc _) hb (by simp; omega), Four.below (w := ((W.alloc (.cells #[.int .i64 x, .int .i64 y, .int .i64 z, .int .i64 u] 85)).alloc (.cells #[.int .i64 a, .int .i64 b, .int .i64 c, .int .i64 d] 85)).drew) (Four.at (by simp) a b c d) hb (by simp)⟩
theorem four_b3 {W w1 : World} {x y z u : Int} (hb : Below (W.alloc (.cells #[.int .i64 x, .int .i64 y, .int .i64 z, .int .i64 u] 85)).heap.size (W.alloc (.cells #[.int .i64 x, .int .i64 y, .int .i64 z, .int .i64 u] 85)) w1) : Four w1 W.heap.size x y z u :=
  Four.below (Four.at rfl x y z u) hb (by simp)
theorem four_b4 {W w1 : World} {x y z u a b c d : Int} (hb : Below ((W.alloc (.cells #[.int .i64 x, .int .i64 y, .int .i64 z, .int .i64 u] 85)).alloc (.cells #[.int .i64 a, .int .i64 b, .int .i64 c, .int .i64 d] 85)).heap.size ((W.alloc (.cells #[.int .i64 x, .int .i64 y, .int .i64 z, .int .i64 u] 85)).alloc (.cells #[.int .i64 a, .int .i64 b, .int .i64 c, .int .i64 d] 85)) w1) : Four w1 W.heap.size x y z u ∧ Four w1 (W.heap.size + 1) a b c d :=
  ⟨Four.below ((Four.at rfl x y z u).alloc _) hb (by simp; omega), Four.below (Four.at (by simp) a b c d) hb (by simp)⟩
theorem Four.drew {w : World} {B : Nat} {x y z u : Int} (h : Four w B x y z u) : Four w.drew B x y z u := h
theorem four_set {w : World} {B : Nat} {x y z u : Int} (h : Four w B x y z u) (a b c d : Int) : Four ((((w.setCell ⟨B, 0, none⟩ (.int .i64 a)).setCell ⟨B, 1, none⟩ (.int .i64 b)).setCell ⟨B, 2, none⟩ (.int .i64 c)).setCell ⟨B, 3, none⟩ (.int .i64 d)) B a b c d := by
  unfold Four at h ⊢
  rw [heap_setCell_same _ _ _ _ _ _ (heap_setCell_same _ _ _ _ _ _ (heap_setCell_same _ _ _ _ _ _ (heap_setCell_same _ _ _ _ _ _ h)))]
  rfl

/-- the cells of a segment -/
def Seg (w : World) (B : Nat) (x y z u : Int) : Prop := (w.cell? ⟨B, 0, none⟩ = some (.int .i64 x) ∧ w.cell? ⟨B, 1, none⟩ = some (.int .i64 y) ∧ w.cell? ⟨B, 2, none⟩ = some (.int .i64 z) ∧ w.cell? ⟨B, 3, none⟩ = some (.int .i64 u))
theorem Seg.below {w w' : World} {B : Nat} {x y z u : Int} (h : Seg w B x y z u) (hb : Below w.heap.size w w') : Seg w' B x y z u := by
  have hlt : B < w.heap.size := World.block_lt_of_cell? _ _ h.1
  exact ⟨(hb.cell (p := ⟨B, 0, none⟩) hlt).trans h.1, (hb.cell (p := ⟨B, 1, none⟩) hlt).trans h.2.1, (hb.cell (p := ⟨B, 2, none⟩) hlt).trans h.2.2.1, (hb.cell (p := ⟨B, 3, none⟩) hlt).trans h.2.2.2⟩
/-- what Cross's segments lie in -/
def CrossAt (W : World) (ax ay bx bz cx cy dx dy : Int) (v u : Value) (wx : World) : Prop :=
  ∃ B1 B2 : Nat, v = .pointer (some ⟨B1, 0, none⟩) ∧ u = .pointer (some ⟨B2, 0, none⟩) ∧ Seg wx B1 ax ay bx bz ∧ Seg wx B2 cx cy dx dy ∧ Below W.heap.size W wx

set_option maxRecDepth 100000 in
set_option maxHeartbeats 8000000 in
theorem Cross_any (ax ay bx bz cx cy dx dy : Int) (w : World) :
    Calls Try.prog 129 #[.agg #[.int .i64 ax, .int .i64 ay], .agg #[.int .i64 bx, .int .i64 bz], .agg #[.int .i64 cx, .int .i64 cy], .agg #[.int .i64 dx, .int .i64 dy]] w fun e w' => e = .returned (.int .i64 (crossV ax ay bx bz cx cy dx dy)) ∧ Below w.heap.size w w' := by
  unfold crossV
  have HL := Lib.hid (fun b cap w k => allOn4 ax ay bx bz cx cy dx dy b cap w k)
  have b0_0 := Two.at (w := w) (B := w.heap.size) (by simp) 24 (.int .i64 ax) (.int .i64 ay)
  have b1_1 := Two.at (w := (w.alloc (.cells #[.int .i64 ax, .int .i64 ay] 24))) (B := w.heap.size + 1) (by simp) 24 (.int .i64 bx) (.int .i64 bz)
  have b0_1 := b0_0.alloc (.cells #[.int .i64 bx, .int .i64 bz] 24)
  have b2_2 := Two.at (w := ((w.alloc (.cells #[.int .i64 ax, .int .i64 ay] 24)).alloc (.cells #[.int .i64 bx, .int .i64 bz] 24))) (B := w.heap.size + 1 + 1) (by simp) 24 (.int .i64 cx) (.int .i64 cy)
  have b0_2 := b0_1.alloc (.cells #[.int .i64 cx, .int .i64 cy] 24)
  have b1_2 := b1_1.alloc (.cells #[.int .i64 cx, .int .i64 cy] 24)
  have b3_3 := Two.at (w := (((w.alloc (.cells #[.int .i64 ax, .int .i64 ay] 24)).alloc (.cells #[.int .i64 bx, .int .i64 bz] 24)).alloc (.cells #[.int .i64 cx, .int .i64 cy] 24))) (B := w.heap.size + 1 + 1 + 1) (by simp) 24 (.int .i64 dx) (.int .i64 dy)
  have b0_3 := b0_2.alloc (.cells #[.int .i64 dx, .int .i64 dy] 24)
  have b1_3 := b1_2.alloc (.cells #[.int .i64 dx, .int .i64 dy] 24)
  have b2_3 := b2_2.alloc (.cells #[.int .i64 dx, .int .i64 dy] 24)
  have b0_3e := b0_3.alloc (.cells #[.int .i64 ax, .int .i64 ay, .int .i64 bx, .int .i64 bz, .int .i64 cx, .int .i64 cy, .int .i64 dx, .int .i64 dy] 24)
  have b1_3e := b1_3.alloc (.cells #[.int .i64 ax, .int .i64 ay, .int .i64 bx, .int .i64 bz, .int .i64 cx, .int .i64 cy, .int .i64 dx, .int .i64 dy] 24)
  have b2_3e := b2_3.alloc (.cells #[.int .i64 ax, .int .i64 ay, .int .i64 bx, .int .i64 bz, .int .i64 cx, .int .i64 cy, .int .i64 dx, .int .i64 dy] 24)
  have b3_3e := b3_3.alloc (.cells #[.int .i64 ax, .int .i64 ay, .int .i64 bx, .int .i64 bz, .int .i64 cx, .int .i64 cy, .int .i64 dx, .int .i64 dy] 24)
  have hb0 : Below w.heap.size w _ := ((((((Below.refl w.heap.size w).alloc (by simp <;> omega) (.cells #[.int .i64 ax, .int .i64 ay] 24)).alloc (by simp <;> omega) (.cells #[.int .i64 bx, .int .i64 bz] 24)).alloc (by simp <;> omega) (.cells #[.int .i64 cx, .int .i64 cy] 24)).alloc (by simp <;> omega) (.cells #[.int .i64 dx, .int .i64 dy] 24)).alloc (by simp <;> omega) (.cells #[.int .i64 ax, .int .i64 ay, .int .i64 bx, .int .i64 bz, .int .i64 cx, .int .i64 cy, .int .i64 dx, .int .i64 dy] 24))
  by_cases h : onP ax ay ∧ onP bx bz ∧ onP cx cy ∧ onP dx dy
  · rw [if_pos h]
    rw [decide_eq_true h] at HL
    have HA1 := Lib.hid (fun w => apart_any ax ay bx bz cx cy dx dy h.1 h.2.1 h.2.2.1 h.2.2.2 w)
    have HA2 := Lib.hid (fun w => apart_any cx cy dx dy ax ay bx bz h.2.2.1 h.2.2.2 h.1 h.2.1 w)
    have HJ1 := Lib.hid (fun w => join_any ax ay bx bz w)
    have HJ2 := Lib.hid (fun w => join_any cx cy dx dy w)
    have HH1 := Lib.hid (fun w => has_any ax ay bx bz cx cy h.1 h.2.1 h.2.2.1 w)
    have HH2 := Lib.hid (fun w => has_any ax ay bx bz dx dy h.1 h.2.1 h.2.2.2 w)
    have HH3 := Lib.hid (fun w => has_any cx cy dx dy ax ay h.2.2.1 h.2.2.2 h.1 w)
    have HH4 := Lib.hid (fun w => has_any cx cy dx dy bx bz h.2.2.1 h.2.2.2 h.2.1 w)
    clear h
    generalize apartB ax ay bx bz cx cy dx dy = A1 at *
    generalize apartB cx cy dx dy ax ay bx bz = A2 at *
    generalize hasB ax ay bx bz cx cy = H1 at *
    generalize hasB ax ay bx bz dx dy = H2 at *
    generalize hasB cx cy dx dy ax ay = H3 at *
    generalize hasB cx cy dx dy bx bz = H4 at *
    generalize hR : (if A1 = true ∧ A2 = true then (2 : Int) else if H1 = true ∨ H2 = true ∨ H3 = true ∨ H4 = true then 1 else 0) = R
    have HR := Lib.hid hR
    clear hR
    go_enter Try.func129, Try.ntmps129
    go_wp2_with fail
    refine (HL.out _ _ _ (pts4 (by simp) _ _ _ _ _ _ _ _ _)).mono ?_
    rintro r w1 ⟨rfl, hb1⟩
    have r0 := b0_3e.below hb1 b0_3e.lt
    have r1 := b1_3e.below hb1 b1_3e.lt
    have r2 := b2_3e.below hb1 b2_3e.lt
    have r3 := b3_3e.below hb1 b3_3e.lt
    have hb2 := hb0.trans (hb1.mono hb0.size)
    clear b0_0 b0_1 b1_1 b0_2 b1_2 b2_2 b0_3 b1_3 b2_3 b3_3 b0_3e b1_3e b2_3e b3_3e hb0 hb1 HL
    go_upto_region 3 with fail
    have hS : ∀ w' : World, Below w1.heap.size w1 w' → ((w'.cell? ⟨w.heap.size, 0, none⟩ = some (.int .i64 ax) ∧ w'.cell? ⟨w.heap.size, 1, none⟩ = some (.int .i64 ay)) ∧ (w'.cell? ⟨w.heap.size + 1, 0, none⟩ = some (.int .i64 bx) ∧ w'.cell? ⟨w.heap.size + 1, 1, none⟩ = some (.int .i64 bz)) ∧ (w'.cell? ⟨w.heap.size + 1 + 1, 0, none⟩ = some (.int .i64 cx) ∧ w'.cell? ⟨w.heap.size + 1 + 1, 1, none⟩ = some (.int .i64 cy)) ∧ (w'.cell? ⟨w.heap.size + 1 + 1 + 1, 0, none⟩ = some (.int .i64 dx) ∧ w'.cell? ⟨w.heap.size + 1 + 1 + 1, 1, none⟩ = some (.int .i64 dy))) ∧ Below w1.heap.size w1 w' := fun w' hb => ⟨⟨two_of r0 hb, two_of r1 hb, two_of r2 hb, two_of r3 hb⟩, hb⟩
    have hr := Below.refl w1.heap.size w1
    go_cut [9, 10] (fun v u wx => CrossAt w1 ax ay bx bz cx cy dx dy v u wx)
    case first =>
      go_region_held3 (fun w' => ((w'.cell? ⟨w.heap.size, 0, none⟩ = some (.int .i64 ax) ∧ w'.cell? ⟨w.heap.size, 1, none⟩ = some (.int .i64 ay)) ∧ (w'.cell? ⟨w.heap.size + 1, 0, none⟩ = some (.int .i64 bx) ∧ w'.cell? ⟨w.heap.size + 1, 1, none⟩ = some (.int .i64 bz)) ∧ (w'.cell? ⟨w.heap.size + 1 + 1, 0, none⟩ = some (.int .i64 cx) ∧ w'.cell? ⟨w.heap.size + 1 + 1, 1, none⟩ = some (.int .i64 cy)) ∧ (w'.cell? ⟨w.heap.size + 1 + 1 + 1, 0, none⟩ = some (.int .i64 dx) ∧ w'.cell? ⟨w.heap.size + 1 + 1 + 1, 1, none⟩ = some (.int .i64 dy))) ∧ Below w1.heap.size w1 w')
        (first | (with_reducible exact hS _ hr.drew) | (with_reducible refine hS _ ?_; (repeat (first | (with_reducible assumption) | (with_reducible refine Below.drew ?_) | (with_reducible refine Below.setCell ?_ ?_ _) | (with_reducible refine Below.alloc ?_ ?_ _))); all_goals (first | omega | (simp; omega) | simp)))
        (first
          | (go_at_call 62; have hz := hb3; refine (HJ2.out _).mono ?_; rintro r w4 ⟨rfl, hb4'⟩;
              have hb34 : Below w3.heap.size w3 w4 := (by first | exact hb4' | exact ((Below.refl w3.heap.size w3).alloc (Nat.le_refl _) _).trans (hb4'.mono (by simp)) | exact (((Below.refl w3.heap.size w3).alloc (Nat.le_refl _) _).alloc (by simp) _).trans (hb4'.mono (by simp; omega)));
              have hb4 : Below w1.heap.size w1 w4 := hb3.trans (hb34.mono hb3.size); have z4 := hb34.size;
              (try (refine cutI (p7.below hb34 p7.lt) (fun q7 => ?_); obtain ⟨⟨f1, f2, f3, f4⟩, h1, h2, h3, h4⟩ := q7.facts8; have lf := q7.lt));
              (try (refine cutI (p8.below hb34 p8.lt) (fun q8 => ?_); obtain ⟨⟨g1, g2, g3, g4⟩, i1, i2, i3, i4⟩ := q8.facts8; have lg := q8.lt));
              (first | (refine cutI (four_b4 hb4').1 (fun x7 => ?_); refine cutI (four_b4 hb4').2 (fun x8 => ?_); obtain ⟨⟨f1, f2, f3, f4⟩, h1, h2, h3, h4⟩ := x7.facts8; obtain ⟨⟨g1, g2, g3, g4⟩, i1, i2, i3, i4⟩ := x8.facts8; have lf := x7.lt; have lg := x8.lt) | (refine cutI (four_b3 hb4') (fun x7 => ?_); obtain ⟨⟨f5, f6, f7, f8⟩, h5, h6, h7, h8⟩ := x7.facts8; have lx := x7.lt) | skip))
          | (go_at_call 62; refine (HJ1.out _).mono ?_; rintro r w3 ⟨rfl, hb3'⟩;
              have hb3 : Below w1.heap.size w1 w3 := (by first | exact hr.drew.trans hb3' | exact (hr.alloc hr.size _).drew.trans (hb3'.mono (by simp)) | exact ((hr.alloc hr.size _).alloc (by simp) _).drew.trans (hb3'.mono (by simp; omega)));
              have z3 := hb3.size;
              (first | (refine cutI (four_b2 hb3').1 (fun p7 => ?_); refine cutI (four_b2 hb3').2 (fun p8 => ?_); have lp := p7.lt; have lq := p8.lt) | (refine cutI (four_b1 hb3') (fun p7 => ?_); have lp := p7.lt) | skip)))
      all_goals
        go_wp2_with fail
        go_meet
        refine ⟨_, _, rfl, rfl, ⟨?_, ?_, ?_, ?_⟩, ⟨?_, ?_, ?_, ?_⟩, ?_⟩
        iterate 8
          · go_simp
        · (repeat (first | (with_reducible assumption) | (with_reducible refine Below.drew ?_) | (with_reducible refine Below.setCell ?_ ?_ _) | (with_reducible refine Below.alloc ?_ ?_ _))); all_goals (first | omega | (simp; omega) | simp)
    case rest =>
      obtain ⟨B1, B2, rfl, rfl, sg1, sg2, hbc⟩ := hcut
      have hb3 := hb2.trans (hbc.mono hb2.size)
      have t0 := r0.below hbc r0.lt
      have t1 := r1.below hbc r1.lt
      have t2 := r2.below hbc r2.lt
      have t3 := r3.below hbc r3.lt
      clear hS hr hb2 hbc r0 r1 r2 r3 HJ1 HJ2
      cases A1 with
      | true =>
        cases A2 with
        | true =>
          obtain rfl : R = 2 := by rw [← HR.out]; simp
          clear HR
          have u11 := sg1
          have u12 := sg2
          obtain ⟨c0, c1, c2, c3⟩ := sg1
          obtain ⟨d0, d1, d2, d3⟩ := sg2
          obtain ⟨e00, e01, -, -⟩ := t0.facts
          obtain ⟨e10, e11, -, -⟩ := t1.facts
          obtain ⟨e20, e21, -, -⟩ := t2.facts
          obtain ⟨e30, e31, -, -⟩ := t3.facts
          go_wp2_with fail
          refine (HA1.out _).mono ?_
          rintro r v1 ⟨rfl, hx1⟩
          clear c0 c1 c2 c3 d0 d1 d2 d3 e00 e01 e10 e11 e20 e21 e30 e31
          have s11 := u11.below hx1
          have s12 := u12.below hx1
          have t0_1 := t0.below hx1 t0.lt
          have t1_1 := t1.below hx1 t1.lt
          have t2_1 := t2.below hx1 t2.lt
          have t3_1 := t3.below hx1 t3.lt
          have k1 := hb3.trans (hx1.mono hb3.size)
          clear u11 u12 hx1 hb3 t0 t1 t2 t3
          have u21 := s11
          have u22 := s12
          obtain ⟨c0, c1, c2, c3⟩ := s11
          obtain ⟨d0, d1, d2, d3⟩ := s12
          obtain ⟨e00, e01, -, -⟩ := t0_1.facts
          obtain ⟨e10, e11, -, -⟩ := t1_1.facts
          obtain ⟨e20, e21, -, -⟩ := t2_1.facts
          obtain ⟨e30, e31, -, -⟩ := t3_1.facts
          go_wp2_with fail
          refine (HA2.out _).mono ?_
          rintro r v2 ⟨rfl, hx2⟩
          clear c0 c1 c2 c3 d0 d1 d2 d3 e00 e01 e10 e11 e20 e21 e30 e31
          have s21 := u21.below hx2
          have s22 := u22.below hx2
          have t0_2 := t0_1.below hx2 t0_1.lt
          have t1_2 := t1_1.below hx2 t1_1.lt
          have t2_2 := t2_1.below hx2 t2_1.lt
          have t3_2 := t3_1.below hx2 t3_1.lt
          have k2 := k1.trans (hx2.mono k1.size)
          clear u21 u22 hx2 k1 t0_1 t1_1 t2_1 t3_1
          obtain ⟨c0, c1, c2, c3⟩ := s21
          obtain ⟨d0, d1, d2, d3⟩ := s22
          obtain ⟨e00, e01, -, -⟩ := t0_2.facts
          obtain ⟨e10, e11, -, -⟩ := t1_2.facts
          obtain ⟨e20, e21, -, -⟩ := t2_2.facts
          obtain ⟨e30, e31, -, -⟩ := t3_2.facts
          go_wp2_with fail
          go_ret
          exact ⟨rfl, k2⟩
        | false =>
          cases H1 with
          | true =>
            obtain rfl : R = 1 := by rw [← HR.out]; simp
            clear HR
            have u11 := sg1
            have u12 := sg2
            obtain ⟨c0, c1, c2, c3⟩ := sg1
            obtain ⟨d0, d1, d2, d3⟩ := sg2
            obtain ⟨e00, e01, -, -⟩ := t0.facts
            obtain ⟨e10, e11, -, -⟩ := t1.facts
            obtain ⟨e20, e21, -, -⟩ := t2.facts
            obtain ⟨e30, e31, -, -⟩ := t3.facts
            go_wp2_with fail
            refine (HA1.out _).mono ?_
            rintro r v1 ⟨rfl, hx1⟩
            clear c0 c1 c2 c3 d0 d1 d2 d3 e00 e01 e10 e11 e20 e21 e30 e31
            have s11 := u11.below hx1
            have s12 := u12.below hx1
            have t0_1 := t0.below hx1 t0.lt
            have t1_1 := t1.below hx1 t1.lt
            have t2_1 := t2.below hx1 t2.lt
            have t3_1 := t3.below hx1 t3.lt
            have k1 := hb3.trans (hx1.mono hb3.size)
            clear u11 u12 hx1 hb3 t0 t1 t2 t3
            have u21 := s11
            have u22 := s12
            obtain ⟨c0, c1, c2, c3⟩ := s11
            obtain ⟨d0, d1, d2, d3⟩ := s12
            obtain ⟨e00, e01, -, -⟩ := t0_1.facts
            obtain ⟨e10, e11, -, -⟩ := t1_1.facts
            obtain ⟨e20, e21, -, -⟩ := t2_1.facts
            obtain ⟨e30, e31, -, -⟩ := t3_1.facts
            go_wp2_with fail
            refine (HA2.out _).mono ?_
            rintro r v2 ⟨rfl, hx2⟩
            clear c0 c1 c2 c3 d0 d1 d2 d3 e00 e01 e10 e11 e20 e21 e30 e31
            have s21 := u21.below hx2
            have s22 := u22.below hx2
            have t0_2 := t0_1.below hx2 t0_1.lt
            have t1_2 := t1_1.below hx2 t1_1.lt
            have t2_2 := t2_1.below hx2 t2_1.lt
            have t3_2 := t3_1.below hx2 t3_1.lt
            have k2 := k1.trans (hx2.mono k1.size)
            clear u21 u22 hx2 k1 t0_1 t1_1 t2_1 t3_1
            have u31 := s21
            have u32 := s22
            obtain ⟨c0, c1, c2, c3⟩ := s21
            obtain ⟨d0, d1, d2, d3⟩ := s22
            obtain ⟨e00, e01, -, -⟩ := t0_2.facts
            obtain ⟨e10, e11, -, -⟩ := t1_2.facts
            obtain ⟨e20, e21, -, -⟩ := t2_2.facts
            obtain ⟨e30, e31, -, -⟩ := t3_2.facts
            go_wp2_with fail
            refine (HH1.out _).mono ?_
            rintro r v3 ⟨rfl, hx3⟩
            clear c0 c1 c2 c3 d0 d1 d2 d3 e00 e01 e10 e11 e20 e21 e30 e31
            have s31 := u31.below hx3
            have s32 := u32.below hx3
            have t0_3 := t0_2.below hx3 t0_2.lt
            have t1_3 := t1_2.below hx3 t1_2.lt
            have t2_3 := t2_2.below hx3 t2_2.lt
            have t3_3 := t3_2.below hx3 t3_2.lt
            have k3 := k2.trans (hx3.mono k2.size)
            clear u31 u32 hx3 k2 t0_2 t1_2 t2_2 t3_2
            obtain ⟨c0, c1, c2, c3⟩ := s31
            obtain ⟨d0, d1, d2, d3⟩ := s32
            obtain ⟨e00, e01, -, -⟩ := t0_3.facts
            obtain ⟨e10, e11, -, -⟩ := t1_3.facts
            obtain ⟨e20, e21, -, -⟩ := t2_3.facts
            obtain ⟨e30, e31, -, -⟩ := t3_3.facts
            go_wp2_with fail
            go_ret
            exact ⟨rfl, k3⟩
          | false =>
            cases H2 with
            | true =>
              obtain rfl : R = 1 := by rw [← HR.out]; simp
              clear HR
              have u11 := sg1
              have u12 := sg2
              obtain ⟨c0, c1, c2, c3⟩ := sg1
              obtain ⟨d0, d1, d2, d3⟩ := sg2
              obtain ⟨e00, e01, -, -⟩ := t0.facts
              obtain ⟨e10, e11, -, -⟩ := t1.facts
              obtain ⟨e20, e21, -, -⟩ := t2.facts
              obtain ⟨e30, e31, -, -⟩ := t3.facts
              go_wp2_with fail
              refine (HA1.out _).mono ?_
              rintro r v1 ⟨rfl, hx1⟩
              clear c0 c1 c2 c3 d0 d1 d2 d3 e00 e01 e10 e11 e20 e21 e30 e31
              have s11 := u11.below hx1
              have s12 := u12.below hx1
              have t0_1 := t0.below hx1 t0.lt
              have t1_1 := t1.below hx1 t1.lt
              have t2_1 := t2.below hx1 t2.lt
              have t3_1 := t3.below hx1 t3.lt
              have k1 := hb3.trans (hx1.mono hb3.size)
              clear u11 u12 hx1 hb3 t0 t1 t2 t3
              have u21 := s11
              have u22 := s12
              obtain ⟨c0, c1, c2, c3⟩ := s11
              obtain ⟨d0, d1, d2, d3⟩ := s12
              obtain ⟨e00, e01, -, -⟩ := t0_1.facts
              obtain ⟨e10, e11, -, -⟩ := t1_1.facts
              obtain ⟨e20, e21, -, -⟩ := t2_1.facts
              obtain ⟨e30, e31, -, -⟩ := t3_1.facts
              go_wp2_with fail
              refine (HA2.out _).mono ?_
              rintro r v2 ⟨rfl, hx2⟩
              clear c0 c1 c2 c3 d0 d1 d2 d3 e00 e01 e10 e11 e20 e21 e30 e31
              have s21 := u21.below hx2
              have s22 := u22.below hx2
              have t0_2 := t0_1.below hx2 t0_1.lt
              have t1_2 := t1_1.below hx2 t1_1.lt
              have t2_2 := t2_1.below hx2 t2_1.lt
              have t3_2 := t3_1.below hx2 t3_1.lt
              have k2 := k1.trans (hx2.mono k1.size)
              clear u21 u22 hx2 k1 t0_1 t1_1 t2_1 t3_1
              have u31 := s21
              have u32 := s22
              obtain ⟨c0, c1, c2, c3⟩ := s21
              obtain ⟨d0, d1, d2, d3⟩ := s22
              obtain ⟨e00, e01, -, -⟩ := t0_2.facts
              obtain ⟨e10, e11, -, -⟩ := t1_2.facts
              obtain ⟨e20, e21, -, -⟩ := t2_2.facts
              obtain ⟨e30, e31, -, -⟩ := t3_2.facts
              go_wp2_with fail
              refine (HH1.out _).mono ?_
              rintro r v3 ⟨rfl, hx3⟩
              clear c0 c1 c2 c3 d0 d1 d2 d3 e00 e01 e10 e11 e20 e21 e30 e31
              have s31 := u31.below hx3
              have s32 := u32.below hx3
              have t0_3 := t0_2.below hx3 t0_2.lt
              have t1_3 := t1_2.below hx3 t1_2.lt
              have t2_3 := t2_2.below hx3 t2_2.lt
              have t3_3 := t3_2.below hx3 t3_2.lt
              have k3 := k2.trans (hx3.mono k2.size)
              clear u31 u32 hx3 k2 t0_2 t1_2 t2_2 t3_2
              have u41 := s31
              have u42 := s32
              obtain ⟨c0, c1, c2, c3⟩ := s31
              obtain ⟨d0, d1, d2, d3⟩ := s32
              obtain ⟨e00, e01, -, -⟩ := t0_3.facts
              obtain ⟨e10, e11, -, -⟩ := t1_3.facts
              obtain ⟨e20, e21, -, -⟩ := t2_3.facts
              obtain ⟨e30, e31, -, -⟩ := t3_3.facts
              go_wp2_with fail
              refine (HH2.out _).mono ?_
              rintro r v4 ⟨rfl, hx4⟩
              clear c0 c1 c2 c3 d0 d1 d2 d3 e00 e01 e10 e11 e20 e21 e30 e31
              have s41 := u41.below hx4
              have s42 := u42.below hx4
              have t0_4 := t0_3.below hx4 t0_3.lt
              have t1_4 := t1_3.below hx4 t1_3.lt
              have t2_4 := t2_3.below hx4 t2_3.lt
              have t3_4 := t3_3.below hx4 t3_3.lt
              have k4 := k3.trans (hx4.mono k3.size)
              clear u41 u42 hx4 k3 t0_3 t1_3 t2_3 t3_3
              obtain ⟨c0, c1, c2, c3⟩ := s41
              obtain ⟨d0, d1, d2, d3⟩ := s42
              obtain ⟨e00, e01, -, -⟩ := t0_4.facts
              obtain ⟨e10, e11, -, -⟩ := t1_4.facts
              obtain ⟨e20, e21, -, -⟩ := t2_4.facts
              obtain ⟨e30, e31, -, -⟩ := t3_4.facts
              go_wp2_with fail
              go_ret
              exact ⟨rfl, k4⟩
            | false =>
              cases H3 with
              | true =>
                obtain rfl : R = 1 := by rw [← HR.out]; simp
                clear HR
                have u11 := sg1
                have u12 := sg2
                obtain ⟨c0, c1, c2, c3⟩ := sg1
                obtain ⟨d0, d1, d2, d3⟩ := sg2
                obtain ⟨e00, e01, -, -⟩ := t0.facts
                obtain ⟨e10, e11, -, -⟩ := t1.facts
                obtain ⟨e20, e21, -, -⟩ := t2.facts
                obtain ⟨e30, e31, -, -⟩ := t3.facts
                go_wp2_with fail
                refine (HA1.out _).mono ?_
                rintro r v1 ⟨rfl, hx1⟩
                clear c0 c1 c2 c3 d0 d1 d2 d3 e00 e01 e10 e11 e20 e21 e30 e31
                have s11 := u11.below hx1
                have s12 := u12.below hx1
                have t0_1 := t0.below hx1 t0.lt
                have t1_1 := t1.below hx1 t1.lt
                have t2_1 := t2.below hx1 t2.lt
                have t3_1 := t3.below hx1 t3.lt
                have k1 := hb3.trans (hx1.mono hb3.size)
                clear u11 u12 hx1 hb3 t0 t1 t2 t3
                have u21 := s11
                have u22 := s12
                obtain ⟨c0, c1, c2, c3⟩ := s11
                obtain ⟨d0, d1, d2, d3⟩ := s12
                obtain ⟨e00, e01, -, -⟩ := t0_1.facts
                obtain ⟨e10, e11, -, -⟩ := t1_1.facts
                obtain ⟨e20, e21, -, -⟩ := t2_1.facts
                obtain ⟨e30, e31, -, -⟩ := t3_1.facts
                go_wp2_with fail
                refine (HA2.out _).mono ?_
                rintro r v2 ⟨rfl, hx2⟩
                clear c0 c1 c2 c3 d0 d1 d2 d3 e00 e01 e10 e11 e20 e21 e30 e31
                have s21 := u21.below hx2
                have s22 := u22.below hx2
                have t0_2 := t0_1.below hx2 t0_1.lt
                have t1_2 := t1_1.below hx2 t1_1.lt
                have t2_2 := t2_1.below hx2 t2_1.lt
                have t3_2 := t3_1.below hx2 t3_1.lt
                have k2 := k1.trans (hx2.mono k1.size)
                clear u21 u22 hx2 k1 t0_1 t1_1 t2_1 t3_1
                have u31 := s21
                have u32 := s22
                obtain ⟨c0, c1, c2, c3⟩ := s21
                obtain ⟨d0, d1, d2, d3⟩ := s22
                obtain ⟨e00, e01, -, -⟩ := t0_2.facts
                obtain ⟨e10, e11, -, -⟩ := t1_2.facts
                obtain ⟨e20, e21, -, -⟩ := t2_2.facts
                obtain ⟨e30, e31, -, -⟩ := t3_2.facts
                go_wp2_with fail
                refine (HH1.out _).mono ?_
                rintro r v3 ⟨rfl, hx3⟩
                clear c0 c1 c2 c3 d0 d1 d2 d3 e00 e01 e10 e11 e20 e21 e30 e31
                have s31 := u31.below hx3
                have s32 := u32.below hx3
                have t0_3 := t0_2.below hx3 t0_2.lt
                have t1_3 := t1_2.below hx3 t1_2.lt
                have t2_3 := t2_2.below hx3 t2_2.lt
                have t3_3 := t3_2.below hx3 t3_2.lt
                have k3 := k2.trans (hx3.mono k2.size)
                clear u31 u32 hx3 k2 t0_2 t1_2 t2_2 t3_2
                have u41 := s31
                have u42 := s32
                obtain ⟨c0, c1, c2, c3⟩ := s31
                obtain ⟨d0, d1, d2, d3⟩ := s32
                obtain ⟨e00, e01, -, -⟩ := t0_3.facts
                obtain ⟨e10, e11, -, -⟩ := t1_3.facts
                obtain ⟨e20, e21, -, -⟩ := t2_3.facts
                obtain ⟨e30, e31, -, -⟩ := t3_3.facts
                go_wp2_with fail
                refine (HH2.out _).mono ?_
                rintro r v4 ⟨rfl, hx4⟩
                clear c0 c1 c2 c3 d0 d1 d2 d3 e00 e01 e10 e11 e20 e21 e30 e31
                have s41 := u41.below hx4
                have s42 := u42.below hx4
                have t0_4 := t0_3.below hx4 t0_3.lt
                have t1_4 := t1_3.below hx4 t1_3.lt
                have t2_4 := t2_3.below hx4 t2_3.lt
                have t3_4 := t3_3.below hx4 t3_3.lt
                have k4 := k3.trans (hx4.mono k3.size)
                clear u41 u42 hx4 k3 t0_3 t1_3 t2_3 t3_3
                have u51 := s41
                have u52 := s42
                obtain ⟨c0, c1, c2, c3⟩ := s41
                obtain ⟨d0, d1, d2, d3⟩ := s42
                obtain ⟨e00, e01, -, -⟩ := t0_4.facts
                obtain ⟨e10, e11, -, -⟩ := t1_4.facts
                obtain ⟨e20, e21, -, -⟩ := t2_4.facts
                obtain ⟨e30, e31, -, -⟩ := t3_4.facts
                go_wp2_with fail
                refine (HH3.out _).mono ?_
                rintro r v5 ⟨rfl, hx5⟩
                clear c0 c1 c2 c3 d0 d1 d2 d3 e00 e01 e10 e11 e20 e21 e30 e31
                have s51 := u51.below hx5
                have s52 := u52.below hx5
                have t0_5 := t0_4.below hx5 t0_4.lt
                have t1_5 := t1_4.below hx5 t1_4.lt
                have t2_5 := t2_4.below hx5 t2_4.lt
                have t3_5 := t3_4.below hx5 t3_4.lt
                have k5 := k4.trans (hx5.mono k4.size)
                clear u51 u52 hx5 k4 t0_4 t1_4 t2_4 t3_4
                obtain ⟨c0, c1, c2, c3⟩ := s51
                obtain ⟨d0, d1, d2, d3⟩ := s52
                obtain ⟨e00, e01, -, -⟩ := t0_5.facts
                obtain ⟨e10, e11, -, -⟩ := t1_5.facts
                obtain ⟨e20, e21, -, -⟩ := t2_5.facts
                obtain ⟨e30, e31, -, -⟩ := t3_5.facts
                go_wp2_with fail
                go_ret
                exact ⟨rfl, k5⟩
              | false =>
                cases H4 with
                | true =>
                  obtain rfl : R = 1 := by rw [← HR.out]; simp
                  clear HR
                  have u11 := sg1
                  have u12 := sg2
                  obtain ⟨c0, c1, c2, c3⟩ := sg1
                  obtain ⟨d0, d1, d2, d3⟩ := sg2
                  obtain ⟨e00, e01, -, -⟩ := t0.facts
                  obtain ⟨e10, e11, -, -⟩ := t1.facts
                  obtain ⟨e20, e21, -, -⟩ := t2.facts
                  obtain ⟨e30, e31, -, -⟩ := t3.facts
                  go_wp2_with fail
                  refine (HA1.out _).mono ?_
                  rintro r v1 ⟨rfl, hx1⟩
                  clear c0 c1 c2 c3 d0 d1 d2 d3 e00 e01 e10 e11 e20 e21 e30 e31
                  have s11 := u11.below hx1
                  have s12 := u12.below hx1
                  have t0_1 := t0.below hx1 t0.lt
                  have t1_1 := t1.below hx1 t1.lt
                  have t2_1 := t2.below hx1 t2.lt
                  have t3_1 := t3.below hx1 t3.lt
                  have k1 := hb3.trans (hx1.mono hb3.size)
                  clear u11 u12 hx1 hb3 t0 t1 t2 t3
                  have u21 := s11
                  have u22 := s12
                  obtain ⟨c0, c1, c2, c3⟩ := s11
                  obtain ⟨d0, d1, d2, d3⟩ := s12
                  obtain ⟨e00, e01, -, -⟩ := t0_1.facts
                  obtain ⟨e10, e11, -, -⟩ := t1_1.facts
                  obtain ⟨e20, e21, -, -⟩ := t2_1.facts
                  obtain ⟨e30, e31, -, -⟩ := t3_1.facts
                  go_wp2_with fail
                  refine (HA2.out _).mono ?_
                  rintro r v2 ⟨rfl, hx2⟩
                  clear c0 c1 c2 c3 d0 d1 d2 d3 e00 e01 e10 e11 e20 e21 e30 e31
                  have s21 := u21.below hx2
                  have s22 := u22.below hx2
                  have t0_2 := t0_1.below hx2 t0_1.lt
                  have t1_2 := t1_1.below hx2 t1_1.lt
                  have t2_2 := t2_1.below hx2 t2_1.lt
                  have t3_2 := t3_1.below hx2 t3_1.lt
                  have k2 := k1.trans (hx2.mono k1.size)
                  clear u21 u22 hx2 k1 t0_1 t1_1 t2_1 t3_1
                  have u31 := s21
                  have u32 := s22
                  obtain ⟨c0, c1, c2, c3⟩ := s21
                  obtain ⟨d0, d1, d2, d3⟩ := s22
                  obtain ⟨e00, e01, -, -⟩ := t0_2.facts
                  obtain ⟨e10, e11, -, -⟩ := t1_2.facts
                  obtain ⟨e20, e21, -, -⟩ := t2_2.facts
                  obtain ⟨e30, e31, -, -⟩ := t3_2.facts
                  go_wp2_with fail
                  refine (HH1.out _).mono ?_
                  rintro r v3 ⟨rfl, hx3⟩
                  clear c0 c1 c2 c3 d0 d1 d2 d3 e00 e01 e10 e11 e20 e21 e30 e31
                  have s31 := u31.below hx3
                  have s32 := u32.below hx3
                  have t0_3 := t0_2.below hx3 t0_2.lt
                  have t1_3 := t1_2.below hx3 t1_2.lt
                  have t2_3 := t2_2.below hx3 t2_2.lt
                  have t3_3 := t3_2.below hx3 t3_2.lt
                  have k3 := k2.trans (hx3.mono k2.size)
                  clear u31 u32 hx3 k2 t0_2 t1_2 t2_2 t3_2
                  have u41 := s31
                  have u42 := s32
                  obtain ⟨c0, c1, c2, c3⟩ := s31
                  obtain ⟨d0, d1, d2, d3⟩ := s32
                  obtain ⟨e00, e01, -, -⟩ := t0_3.facts
                  obtain ⟨e10, e11, -, -⟩ := t1_3.facts
                  obtain ⟨e20, e21, -, -⟩ := t2_3.facts
                  obtain ⟨e30, e31, -, -⟩ := t3_3.facts
                  go_wp2_with fail
                  refine (HH2.out _).mono ?_
                  rintro r v4 ⟨rfl, hx4⟩
                  clear c0 c1 c2 c3 d0 d1 d2 d3 e00 e01 e10 e11 e20 e21 e30 e31
                  have s41 := u41.below hx4
                  have s42 := u42.below hx4
                  have t0_4 := t0_3.below hx4 t0_3.lt
                  have t1_4 := t1_3.below hx4 t1_3.lt
                  have t2_4 := t2_3.below hx4 t2_3.lt
                  have t3_4 := t3_3.below hx4 t3_3.lt
                  have k4 := k3.trans (hx4.mono k3.size)
                  clear u41 u42 hx4 k3 t0_3 t1_3 t2_3 t3_3
                  have u51 := s41
                  have u52 := s42
                  obtain ⟨c0, c1, c2, c3⟩ := s41
                  obtain ⟨d0, d1, d2, d3⟩ := s42
                  obtain ⟨e00, e01, -, -⟩ := t0_4.facts
                  obtain ⟨e10, e11, -, -⟩ := t1_4.facts
                  obtain ⟨e20, e21, -, -⟩ := t2_4.facts
                  obtain ⟨e30, e31, -, -⟩ := t3_4.facts
                  go_wp2_with fail
                  refine (HH3.out _).mono ?_
                  rintro r v5 ⟨rfl, hx5⟩
                  clear c0 c1 c2 c3 d0 d1 d2 d3 e00 e01 e10 e11 e20 e21 e30 e31
                  have s51 := u51.below hx5
                  have s52 := u52.below hx5
                  have t0_5 := t0_4.below hx5 t0_4.lt
                  have t1_5 := t1_4.below hx5 t1_4.lt
                  have t2_5 := t2_4.below hx5 t2_4.lt
                  have t3_5 := t3_4.below hx5 t3_4.lt
                  have k5 := k4.trans (hx5.mono k4.size)
                  clear u51 u52 hx5 k4 t0_4 t1_4 t2_4 t3_4
                  have u61 := s51
                  have u62 := s52
                  obtain ⟨c0, c1, c2, c3⟩ := s51
                  obtain ⟨d0, d1, d2, d3⟩ := s52
                  obtain ⟨e00, e01, -, -⟩ := t0_5.facts
                  obtain ⟨e10, e11, -, -⟩ := t1_5.facts
                  obtain ⟨e20, e21, -, -⟩ := t2_5.facts
                  obtain ⟨e30, e31, -, -⟩ := t3_5.facts
                  go_wp2_with fail
                  refine (HH4.out _).mono ?_
                  rintro r v6 ⟨rfl, hx6⟩
                  clear c0 c1 c2 c3 d0 d1 d2 d3 e00 e01 e10 e11 e20 e21 e30 e31
                  have s61 := u61.below hx6
                  have s62 := u62.below hx6
                  have t0_6 := t0_5.below hx6 t0_5.lt
                  have t1_6 := t1_5.below hx6 t1_5.lt
                  have t2_6 := t2_5.below hx6 t2_5.lt
                  have t3_6 := t3_5.below hx6 t3_5.lt
                  have k6 := k5.trans (hx6.mono k5.size)
                  clear u61 u62 hx6 k5 t0_5 t1_5 t2_5 t3_5
                  obtain ⟨c0, c1, c2, c3⟩ := s61
                  obtain ⟨d0, d1, d2, d3⟩ := s62
                  obtain ⟨e00, e01, -, -⟩ := t0_6.facts
                  obtain ⟨e10, e11, -, -⟩ := t1_6.facts
                  obtain ⟨e20, e21, -, -⟩ := t2_6.facts
                  obtain ⟨e30, e31, -, -⟩ := t3_6.facts
                  go_wp2_with fail
                  go_ret
                  exact ⟨rfl, k6⟩
                | false =>
                  obtain rfl : R = 0 := by rw [← HR.out]; simp
                  clear HR
                  have u11 := sg1
                  have u12 := sg2
                  obtain ⟨c0, c1, c2, c3⟩ := sg1
                  obtain ⟨d0, d1, d2, d3⟩ := sg2
                  obtain ⟨e00, e01, -, -⟩ := t0.facts
                  obtain ⟨e10, e11, -, -⟩ := t1.facts
                  obtain ⟨e20, e21, -, -⟩ := t2.facts
                  obtain ⟨e30, e31, -, -⟩ := t3.facts
                  go_wp2_with fail
                  refine (HA1.out _).mono ?_
                  rintro r v1 ⟨rfl, hx1⟩
                  clear c0 c1 c2 c3 d0 d1 d2 d3 e00 e01 e10 e11 e20 e21 e30 e31
                  have s11 := u11.below hx1
                  have s12 := u12.below hx1
                  have t0_1 := t0.below hx1 t0.lt
                  have t1_1 := t1.below hx1 t1.lt
                  have t2_1 := t2.below hx1 t2.lt
                  have t3_1 := t3.below hx1 t3.lt
                  have k1 := hb3.trans (hx1.mono hb3.size)
                  clear u11 u12 hx1 hb3 t0 t1 t2 t3
                  have u21 := s11
                  have u22 := s12
                  obtain ⟨c0, c1, c2, c3⟩ := s11
                  obtain ⟨d0, d1, d2, d3⟩ := s12
                  obtain ⟨e00, e01, -, -⟩ := t0_1.facts
                  obtain ⟨e10, e11, -, -⟩ := t1_1.facts
                  obtain ⟨e20, e21, -, -⟩ := t2_1.facts
                  obtain ⟨e30, e31, -, -⟩ := t3_1.facts
                  go_wp2_with fail
                  refine (HA2.out _).mono ?_
                  rintro r v2 ⟨rfl, hx2⟩
                  clear c0 c1 c2 c3 d0 d1 d2 d3 e00 e01 e10 e11 e20 e21 e30 e31
                  have s21 := u21.below hx2
                  have s22 := u22.below hx2
                  have t0_2 := t0_1.below hx2 t0_1.lt
                  have t1_2 := t1_1.below hx2 t1_1.lt
                  have t2_2 := t2_1.below hx2 t2_1.lt
                  have t3_2 := t3_1.below hx2 t3_1.lt
                  have k2 := k1.trans (hx2.mono k1.size)
                  clear u21 u22 hx2 k1 t0_1 t1_1 t2_1 t3_1
                  have u31 := s21
                  have u32 := s22
                  obtain ⟨c0, c1, c2, c3⟩ := s21
                  obtain ⟨d0, d1, d2, d3⟩ := s22
                  obtain ⟨e00, e01, -, -⟩ := t0_2.facts
                  obtain ⟨e10, e11, -, -⟩ := t1_2.facts
                  obtain ⟨e20, e21, -, -⟩ := t2_2.facts
                  obtain ⟨e30, e31, -, -⟩ := t3_2.facts
                  go_wp2_with fail
                  refine (HH1.out _).mono ?_
                  rintro r v3 ⟨rfl, hx3⟩
                  clear c0 c1 c2 c3 d0 d1 d2 d3 e00 e01 e10 e11 e20 e21 e30 e31
                  have s31 := u31.below hx3
                  have s32 := u32.below hx3
                  have t0_3 := t0_2.below hx3 t0_2.lt
                  have t1_3 := t1_2.below hx3 t1_2.lt
                  have t2_3 := t2_2.below hx3 t2_2.lt
                  have t3_3 := t3_2.below hx3 t3_2.lt
                  have k3 := k2.trans (hx3.mono k2.size)
                  clear u31 u32 hx3 k2 t0_2 t1_2 t2_2 t3_2
                  have u41 := s31
                  have u42 := s32
                  obtain ⟨c0, c1, c2, c3⟩ := s31
                  obtain ⟨d0, d1, d2, d3⟩ := s32
                  obtain ⟨e00, e01, -, -⟩ := t0_3.facts
                  obtain ⟨e10, e11, -, -⟩ := t1_3.facts
                  obtain ⟨e20, e21, -, -⟩ := t2_3.facts
                  obtain ⟨e30, e31, -, -⟩ := t3_3.facts
                  go_wp2_with fail
                  refine (HH2.out _).mono ?_
                  rintro r v4 ⟨rfl, hx4⟩
                  clear c0 c1 c2 c3 d0 d1 d2 d3 e00 e01 e10 e11 e20 e21 e30 e31
                  have s41 := u41.below hx4
                  have s42 := u42.below hx4
                  have t0_4 := t0_3.below hx4 t0_3.lt
                  have t1_4 := t1_3.below hx4 t1_3.lt
                  have t2_4 := t2_3.below hx4 t2_3.lt
                  have t3_4 := t3_3.below hx4 t3_3.lt
                  have k4 := k3.trans (hx4.mono k3.size)
                  clear u41 u42 hx4 k3 t0_3 t1_3 t2_3 t3_3
                  have u51 := s41
                  have u52 := s42
                  obtain ⟨c0, c1, c2, c3⟩ := s41
                  obtain ⟨d0, d1, d2, d3⟩ := s42
                  obtain ⟨e00, e01, -, -⟩ := t0_4.facts
                  obtain ⟨e10, e11, -, -⟩ := t1_4.facts
                  obtain ⟨e20, e21, -, -⟩ := t2_4.facts
                  obtain ⟨e30, e31, -, -⟩ := t3_4.facts
                  go_wp2_with fail
                  refine (HH3.out _).mono ?_
                  rintro r v5 ⟨rfl, hx5⟩
                  clear c0 c1 c2 c3 d0 d1 d2 d3 e00 e01 e10 e11 e20 e21 e30 e31
                  have s51 := u51.below hx5
                  have s52 := u52.below hx5
                  have t0_5 := t0_4.below hx5 t0_4.lt
                  have t1_5 := t1_4.below hx5 t1_4.lt
                  have t2_5 := t2_4.below hx5 t2_4.lt
                  have t3_5 := t3_4.below hx5 t3_4.lt
                  have k5 := k4.trans (hx5.mono k4.size)
                  clear u51 u52 hx5 k4 t0_4 t1_4 t2_4 t3_4
                  have u61 := s51
                  have u62 := s52
                  obtain ⟨c0, c1, c2, c3⟩ := s51
                  obtain ⟨d0, d1, d2, d3⟩ := s52
                  obtain ⟨e00, e01, -, -⟩ := t0_5.facts
                  obtain ⟨e10, e11, -, -⟩ := t1_5.facts
                  obtain ⟨e20, e21, -, -⟩ := t2_5.facts
                  obtain ⟨e30, e31, -, -⟩ := t3_5.facts
                  go_wp2_with fail
                  refine (HH4.out _).mono ?_
                  rintro r v6 ⟨rfl, hx6⟩
                  clear c0 c1 c2 c3 d0 d1 d2 d3 e00 e01 e10 e11 e20 e21 e30 e31
                  have s61 := u61.below hx6
                  have s62 := u62.below hx6
                  have t0_6 := t0_5.below hx6 t0_5.lt
                  have t1_6 := t1_5.below hx6 t1_5.lt
                  have t2_6 := t2_5.below hx6 t2_5.lt
                  have t3_6 := t3_5.below hx6 t3_5.lt
                  have k6 := k5.trans (hx6.mono k5.size)
                  clear u61 u62 hx6 k5 t0_5 t1_5 t2_5 t3_5
                  obtain ⟨c0, c1, c2, c3⟩ := s61
                  obtain ⟨d0, d1, d2, d3⟩ := s62
                  obtain ⟨e00, e01, -, -⟩ := t0_6.facts
                  obtain ⟨e10, e11, -, -⟩ := t1_6.facts
                  obtain ⟨e20, e21, -, -⟩ := t2_6.facts
                  obtain ⟨e30, e31, -, -⟩ := t3_6.facts
                  go_wp2_with fail
                  go_ret
                  exact ⟨rfl, k6⟩
      | false =>
        cases H1 with
        | true =>
          obtain rfl : R = 1 := by rw [← HR.out]; simp
          clear HR
          have u11 := sg1
          have u12 := sg2
          obtain ⟨c0, c1, c2, c3⟩ := sg1
          obtain ⟨d0, d1, d2, d3⟩ := sg2
          obtain ⟨e00, e01, -, -⟩ := t0.facts
          obtain ⟨e10, e11, -, -⟩ := t1.facts
          obtain ⟨e20, e21, -, -⟩ := t2.facts
          obtain ⟨e30, e31, -, -⟩ := t3.facts
          go_wp2_with fail
          refine (HA1.out _).mono ?_
          rintro r v1 ⟨rfl, hx1⟩
          clear c0 c1 c2 c3 d0 d1 d2 d3 e00 e01 e10 e11 e20 e21 e30 e31
          have s11 := u11.below hx1
          have s12 := u12.below hx1
          have t0_1 := t0.below hx1 t0.lt
          have t1_1 := t1.below hx1 t1.lt
          have t2_1 := t2.below hx1 t2.lt
          have t3_1 := t3.below hx1 t3.lt
          have k1 := hb3.trans (hx1.mono hb3.size)
          clear u11 u12 hx1 hb3 t0 t1 t2 t3
          have u21 := s11
          have u22 := s12
          obtain ⟨c0, c1, c2, c3⟩ := s11
          obtain ⟨d0, d1, d2, d3⟩ := s12
          obtain ⟨e00, e01, -, -⟩ := t0_1.facts
          obtain ⟨e10, e11, -, -⟩ := t1_1.facts
          obtain ⟨e20, e21, -, -⟩ := t2_1.facts
          obtain ⟨e30, e31, -, -⟩ := t3_1.facts
          go_wp2_with fail
          refine (HH1.out _).mono ?_
          rintro r v2 ⟨rfl, hx2⟩
          clear c0 c1 c2 c3 d0 d1 d2 d3 e00 e01 e10 e11 e20 e21 e30 e31
          have s21 := u21.below hx2
          have s22 := u22.below hx2
          have t0_2 := t0_1.below hx2 t0_1.lt
          have t1_2 := t1_1.below hx2 t1_1.lt
          have t2_2 := t2_1.below hx2 t2_1.lt
          have t3_2 := t3_1.below hx2 t3_1.lt
          have k2 := k1.trans (hx2.mono k1.size)
          clear u21 u22 hx2 k1 t0_1 t1_1 t2_1 t3_1
          obtain ⟨c0, c1, c2, c3⟩ := s21
          obtain ⟨d0, d1, d2, d3⟩ := s22
          obtain ⟨e00, e01, -, -⟩ := t0_2.facts
          obtain ⟨e10, e11, -, -⟩ := t1_2.facts
          obtain ⟨e20, e21, -, -⟩ := t2_2.facts
          obtain ⟨e30, e31, -, -⟩ := t3_2.facts
          go_wp2_with fail
          go_ret
          exact ⟨rfl, k2⟩
        | false =>
          cases H2 with
          | true =>
            obtain rfl : R = 1 := by rw [← HR.out]; simp
            clear HR
            have u11 := sg1
            have u12 := sg2
            obtain ⟨c0, c1, c2, c3⟩ := sg1
            obtain ⟨d0, d1, d2, d3⟩ := sg2
            obtain ⟨e00, e01, -, -⟩ := t0.facts
            obtain ⟨e10, e11, -, -⟩ := t1.facts
            obtain ⟨e20, e21, -, -⟩ := t2.facts
            obtain ⟨e30, e31, -, -⟩ := t3.facts
            go_wp2_with fail
            refine (HA1.out _).mono ?_
            rintro r v1 ⟨rfl, hx1⟩
            clear c0 c1 c2 c3 d0 d1 d2 d3 e00 e01 e10 e11 e20 e21 e30 e31
            have s11 := u11.below hx1
            have s12 := u12.below hx1
            have t0_1 := t0.below hx1 t0.lt
            have t1_1 := t1.below hx1 t1.lt
            have t2_1 := t2.below hx1 t2.lt
            have t3_1 := t3.below hx1 t3.lt
            have k1 := hb3.trans (hx1.mono hb3.size)
            clear u11 u12 hx1 hb3 t0 t1 t2 t3
            have u21 := s11
            have u22 := s12
            obtain ⟨c0, c1, c2, c3⟩ := s11
            obtain ⟨d0, d1, d2, d3⟩ := s12
            obtain ⟨e00, e01, -, -⟩ := t0_1.facts
            obtain ⟨e10, e11, -, -⟩ := t1_1.facts
            obtain ⟨e20, e21, -, -⟩ := t2_1.facts
            obtain ⟨e30, e31, -, -⟩ := t3_1.facts
            go_wp2_with fail
            refine (HH1.out _).mono ?_
            rintro r v2 ⟨rfl, hx2⟩
            clear c0 c1 c2 c3 d0 d1 d2 d3 e00 e01 e10 e11 e20 e21 e30 e31
            have s21 := u21.below hx2
            have s22 := u22.below hx2
            have t0_2 := t0_1.below hx2 t0_1.lt
            have t1_2 := t1_1.below hx2 t1_1.lt
            have t2_2 := t2_1.below hx2 t2_1.lt
            have t3_2 := t3_1.below hx2 t3_1.lt
            have k2 := k1.trans (hx2.mono k1.size)
            clear u21 u22 hx2 k1 t0_1 t1_1 t2_1 t3_1
            have u31 := s21
            have u32 := s22
            obtain ⟨c0, c1, c2, c3⟩ := s21
            obtain ⟨d0, d1, d2, d3⟩ := s22
            obtain ⟨e00, e01, -, -⟩ := t0_2.facts
            obtain ⟨e10, e11, -, -⟩ := t1_2.facts
            obtain ⟨e20, e21, -, -⟩ := t2_2.facts
            obtain ⟨e30, e31, -, -⟩ := t3_2.facts
            go_wp2_with fail
            refine (HH2.out _).mono ?_
            rintro r v3 ⟨rfl, hx3⟩
            clear c0 c1 c2 c3 d0 d1 d2 d3 e00 e01 e10 e11 e20 e21 e30 e31
            have s31 := u31.below hx3
            have s32 := u32.below hx3
            have t0_3 := t0_2.below hx3 t0_2.lt
            have t1_3 := t1_2.below hx3 t1_2.lt
            have t2_3 := t2_2.below hx3 t2_2.lt
            have t3_3 := t3_2.below hx3 t3_2.lt
            have k3 := k2.trans (hx3.mono k2.size)
            clear u31 u32 hx3 k2 t0_2 t1_2 t2_2 t3_2
            obtain ⟨c0, c1, c2, c3⟩ := s31
            obtain ⟨d0, d1, d2, d3⟩ := s32
            obtain ⟨e00, e01, -, -⟩ := t0_3.facts
            obtain ⟨e10, e11, -, -⟩ := t1_3.facts
            obtain ⟨e20, e21, -, -⟩ := t2_3.facts
            obtain ⟨e30, e31, -, -⟩ := t3_3.facts
            go_wp2_with fail
            go_ret
            exact ⟨rfl, k3⟩
          | false =>
            cases H3 with
            | true =>
              obtain rfl : R = 1 := by rw [← HR.out]; simp
              clear HR
              have u11 := sg1
              have u12 := sg2
              obtain ⟨c0, c1, c2, c3⟩ := sg1
              obtain ⟨d0, d1, d2, d3⟩ := sg2
              obtain ⟨e00, e01, -, -⟩ := t0.facts
              obtain ⟨e10, e11, -, -⟩ := t1.facts
              obtain ⟨e20, e21, -, -⟩ := t2.facts
              obtain ⟨e30, e31, -, -⟩ := t3.facts
              go_wp2_with fail
              refine (HA1.out _).mono ?_
              rintro r v1 ⟨rfl, hx1⟩
              clear c0 c1 c2 c3 d0 d1 d2 d3 e00 e01 e10 e11 e20 e21 e30 e31
              have s11 := u11.below hx1
              have s12 := u12.below hx1
              have t0_1 := t0.below hx1 t0.lt
              have t1_1 := t1.below hx1 t1.lt
              have t2_1 := t2.below hx1 t2.lt
              have t3_1 := t3.below hx1 t3.lt
              have k1 := hb3.trans (hx1.mono hb3.size)
              clear u11 u12 hx1 hb3 t0 t1 t2 t3
              have u21 := s11
              have u22 := s12
              obtain ⟨c0, c1, c2, c3⟩ := s11
              obtain ⟨d0, d1, d2, d3⟩ := s12
              obtain ⟨e00, e01, -, -⟩ := t0_1.facts
              obtain ⟨e10, e11, -, -⟩ := t1_1.facts
              obtain ⟨e20, e21, -, -⟩ := t2_1.facts
              obtain ⟨e30, e31, -, -⟩ := t3_1.facts
              go_wp2_with fail
              refine (HH1.out _).mono ?_
              rintro r v2 ⟨rfl, hx2⟩
              clear c0 c1 c2 c3 d0 d1 d2 d3 e00 e01 e10 e11 e20 e21 e30 e31
              have s21 := u21.below hx2
              have s22 := u22.below hx2
              have t0_2 := t0_1.below hx2 t0_1.lt
              have t1_2 := t1_1.below hx2 t1_1.lt
              have t2_2 := t2_1.below hx2 t2_1.lt
              have t3_2 := t3_1.below hx2 t3_1.lt
              have k2 := k1.trans (hx2.mono k1.size)
              clear u21 u22 hx2 k1 t0_1 t1_1 t2_1 t3_1
              have u31 := s21
              have u32 := s22
              obtain ⟨c0, c1, c2, c3⟩ := s21
              obtain ⟨d0, d1, d2, d3⟩ := s22
              obtain ⟨e00, e01, -, -⟩ := t0_2.facts
              obtain ⟨e10, e11, -, -⟩ := t1_2.facts
              obtain ⟨e20, e21, -, -⟩ := t2_2.facts
              obtain ⟨e30, e31, -, -⟩ := t3_2.facts
              go_wp2_with fail
              refine (HH2.out _).mono ?_
              rintro r v3 ⟨rfl, hx3⟩
              clear c0 c1 c2 c3 d0 d1 d2 d3 e00 e01 e10 e11 e20 e21 e30 e31
              have s31 := u31.below hx3
              have s32 := u32.below hx3
              have t0_3 := t0_2.below hx3 t0_2.lt
              have t1_3 := t1_2.below hx3 t1_2.lt
              have t2_3 := t2_2.below hx3 t2_2.lt
              have t3_3 := t3_2.below hx3 t3_2.lt
              have k3 := k2.trans (hx3.mono k2.size)
              clear u31 u32 hx3 k2 t0_2 t1_2 t2_2 t3_2
              have u41 := s31
              have u42 := s32
              obtain ⟨c0, c1, c2, c3⟩ := s31
              obtain ⟨d0, d1, d2, d3⟩ := s32
              obtain ⟨e00, e01, -, -⟩ := t0_3.facts
              obtain ⟨e10, e11, -, -⟩ := t1_3.facts
              obtain ⟨e20, e21, -, -⟩ := t2_3.facts
              obtain ⟨e30, e31, -, -⟩ := t3_3.facts
              go_wp2_with fail
              refine (HH3.out _).mono ?_
              rintro r v4 ⟨rfl, hx4⟩
              clear c0 c1 c2 c3 d0 d1 d2 d3 e00 e01 e10 e11 e20 e21 e30 e31
              have s41 := u41.below hx4
              have s42 := u42.below hx4
              have t0_4 := t0_3.below hx4 t0_3.lt
              have t1_4 := t1_3.below hx4 t1_3.lt
              have t2_4 := t2_3.below hx4 t2_3.lt
              have t3_4 := t3_3.below hx4 t3_3.lt
              have k4 := k3.trans (hx4.mono k3.size)
              clear u41 u42 hx4 k3 t0_3 t1_3 t2_3 t3_3
              obtain ⟨c0, c1, c2, c3⟩ := s41
              obtain ⟨d0, d1, d2, d3⟩ := s42
              obtain ⟨e00, e01, -, -⟩ := t0_4.facts
              obtain ⟨e10, e11, -, -⟩ := t1_4.facts
              obtain ⟨e20, e21, -, -⟩ := t2_4.facts
              obtain ⟨e30, e31, -, -⟩ := t3_4.facts
              go_wp2_with fail
              go_ret
              exact ⟨rfl, k4⟩
            | false =>
              cases H4 with
              | true =>
                obtain rfl : R = 1 := by rw [← HR.out]; simp
                clear HR
                have u11 := sg1
                have u12 := sg2
                obtain ⟨c0, c1, c2, c3⟩ := sg1
                obtain ⟨d0, d1, d2, d3⟩ := sg2
                obtain ⟨e00, e01, -, -⟩ := t0.facts
                obtain ⟨e10, e11, -, -⟩ := t1.facts
                obtain ⟨e20, e21, -, -⟩ := t2.facts
                obtain ⟨e30, e31, -, -⟩ := t3.facts
                go_wp2_with fail
                refine (HA1.out _).mono ?_
                rintro r v1 ⟨rfl, hx1⟩
                clear c0 c1 c2 c3 d0 d1 d2 d3 e00 e01 e10 e11 e20 e21 e30 e31
                have s11 := u11.below hx1
                have s12 := u12.below hx1
                have t0_1 := t0.below hx1 t0.lt
                have t1_1 := t1.below hx1 t1.lt
                have t2_1 := t2.below hx1 t2.lt
                have t3_1 := t3.below hx1 t3.lt
                have k1 := hb3.trans (hx1.mono hb3.size)
                clear u11 u12 hx1 hb3 t0 t1 t2 t3
                have u21 := s11
                have u22 := s12
                obtain ⟨c0, c1, c2, c3⟩ := s11
                obtain ⟨d0, d1, d2, d3⟩ := s12
                obtain ⟨e00, e01, -, -⟩ := t0_1.facts
                obtain ⟨e10, e11, -, -⟩ := t1_1.facts
                obtain ⟨e20, e21, -, -⟩ := t2_1.facts
                obtain ⟨e30, e31, -, -⟩ := t3_1.facts
                go_wp2_with fail
                refine (HH1.out _).mono ?_
                rintro r v2 ⟨rfl, hx2⟩
                clear c0 c1 c2 c3 d0 d1 d2 d3 e00 e01 e10 e11 e20 e21 e30 e31
                have s21 := u21.below hx2
                have s22 := u22.below hx2
                have t0_2 := t0_1.below hx2 t0_1.lt
                have t1_2 := t1_1.below hx2 t1_1.lt
                have t2_2 := t2_1.below hx2 t2_1.lt
                have t3_2 := t3_1.below hx2 t3_1.lt
                have k2 := k1.trans (hx2.mono k1.size)
                clear u21 u22 hx2 k1 t0_1 t1_1 t2_1 t3_1
                have u31 := s21
                have u32 := s22
                obtain ⟨c0, c1, c2, c3⟩ := s21
                obtain ⟨d0, d1, d2, d3⟩ := s22
                obtain ⟨e00, e01, -, -⟩ := t0_2.facts
                obtain ⟨e10, e11, -, -⟩ := t1_2.facts
                obtain ⟨e20, e21, -, -⟩ := t2_2.facts
                obtain ⟨e30, e31, -, -⟩ := t3_2.facts
                go_wp2_with fail
                refine (HH2.out _).mono ?_
                rintro r v3 ⟨rfl, hx3⟩
                clear c0 c1 c2 c3 d0 d1 d2 d3 e00 e01 e10 e11 e20 e21 e30 e31
                have s31 := u31.below hx3
                have s32 := u32.below hx3
                have t0_3 := t0_2.below hx3 t0_2.lt
                have t1_3 := t1_2.below hx3 t1_2.lt
                have t2_3 := t2_2.below hx3 t2_2.lt
                have t3_3 := t3_2.below hx3 t3_2.lt
                have k3 := k2.trans (hx3.mono k2.size)
                clear u31 u32 hx3 k2 t0_2 t1_2 t2_2 t3_2
                have u41 := s31
                have u42 := s32
                obtain ⟨c0, c1, c2, c3⟩ := s31
                obtain ⟨d0, d1, d2, d3⟩ := s32
                obtain ⟨e00, e01, -, -⟩ := t0_3.facts
                obtain ⟨e10, e11, -, -⟩ := t1_3.facts
                obtain ⟨e20, e21, -, -⟩ := t2_3.facts
                obtain ⟨e30, e31, -, -⟩ := t3_3.facts
                go_wp2_with fail
                refine (HH3.out _).mono ?_
                rintro r v4 ⟨rfl, hx4⟩
                clear c0 c1 c2 c3 d0 d1 d2 d3 e00 e01 e10 e11 e20 e21 e30 e31
                have s41 := u41.below hx4
                have s42 := u42.below hx4
                have t0_4 := t0_3.below hx4 t0_3.lt
                have t1_4 := t1_3.below hx4 t1_3.lt
                have t2_4 := t2_3.below hx4 t2_3.lt
                have t3_4 := t3_3.below hx4 t3_3.lt
                have k4 := k3.trans (hx4.mono k3.size)
                clear u41 u42 hx4 k3 t0_3 t1_3 t2_3 t3_3
                have u51 := s41
                have u52 := s42
                obtain ⟨c0, c1, c2, c3⟩ := s41
                obtain ⟨d0, d1, d2, d3⟩ := s42
                obtain ⟨e00, e01, -, -⟩ := t0_4.facts
                obtain ⟨e10, e11, -, -⟩ := t1_4.facts
                obtain ⟨e20, e21, -, -⟩ := t2_4.facts
                obtain ⟨e30, e31, -, -⟩ := t3_4.facts
                go_wp2_with fail
                refine (HH4.out _).mono ?_
                rintro r v5 ⟨rfl, hx5⟩
                clear c0 c1 c2 c3 d0 d1 d2 d3 e00 e01 e10 e11 e20 e21 e30 e31
                have s51 := u51.below hx5
                have s52 := u52.below hx5
                have t0_5 := t0_4.below hx5 t0_4.lt
                have t1_5 := t1_4.below hx5 t1_4.lt
                have t2_5 := t2_4.below hx5 t2_4.lt
                have t3_5 := t3_4.below hx5 t3_4.lt
                have k5 := k4.trans (hx5.mono k4.size)
                clear u51 u52 hx5 k4 t0_4 t1_4 t2_4 t3_4
                obtain ⟨c0, c1, c2, c3⟩ := s51
                obtain ⟨d0, d1, d2, d3⟩ := s52
                obtain ⟨e00, e01, -, -⟩ := t0_5.facts
                obtain ⟨e10, e11, -, -⟩ := t1_5.facts
                obtain ⟨e20, e21, -, -⟩ := t2_5.facts
                obtain ⟨e30, e31, -, -⟩ := t3_5.facts
                go_wp2_with fail
                go_ret
                exact ⟨rfl, k5⟩
              | false =>
                obtain rfl : R = 0 := by rw [← HR.out]; simp
                clear HR
                have u11 := sg1
                have u12 := sg2
                obtain ⟨c0, c1, c2, c3⟩ := sg1
                obtain ⟨d0, d1, d2, d3⟩ := sg2
                obtain ⟨e00, e01, -, -⟩ := t0.facts
                obtain ⟨e10, e11, -, -⟩ := t1.facts
                obtain ⟨e20, e21, -, -⟩ := t2.facts
                obtain ⟨e30, e31, -, -⟩ := t3.facts
                go_wp2_with fail
                refine (HA1.out _).mono ?_
                rintro r v1 ⟨rfl, hx1⟩
                clear c0 c1 c2 c3 d0 d1 d2 d3 e00 e01 e10 e11 e20 e21 e30 e31
                have s11 := u11.below hx1
                have s12 := u12.below hx1
                have t0_1 := t0.below hx1 t0.lt
                have t1_1 := t1.below hx1 t1.lt
                have t2_1 := t2.below hx1 t2.lt
                have t3_1 := t3.below hx1 t3.lt
                have k1 := hb3.trans (hx1.mono hb3.size)
                clear u11 u12 hx1 hb3 t0 t1 t2 t3
                have u21 := s11
                have u22 := s12
                obtain ⟨c0, c1, c2, c3⟩ := s11
                obtain ⟨d0, d1, d2, d3⟩ := s12
                obtain ⟨e00, e01, -, -⟩ := t0_1.facts
                obtain ⟨e10, e11, -, -⟩ := t1_1.facts
                obtain ⟨e20, e21, -, -⟩ := t2_1.facts
                obtain ⟨e30, e31, -, -⟩ := t3_1.facts
                go_wp2_with fail
                refine (HH1.out _).mono ?_
                rintro r v2 ⟨rfl, hx2⟩
                clear c0 c1 c2 c3 d0 d1 d2 d3 e00 e01 e10 e11 e20 e21 e30 e31
                have s21 := u21.below hx2
                have s22 := u22.below hx2
                have t0_2 := t0_1.below hx2 t0_1.lt
                have t1_2 := t1_1.below hx2 t1_1.lt
                have t2_2 := t2_1.below hx2 t2_1.lt
                have t3_2 := t3_1.below hx2 t3_1.lt
                have k2 := k1.trans (hx2.mono k1.size)
                clear u21 u22 hx2 k1 t0_1 t1_1 t2_1 t3_1
                have u31 := s21
                have u32 := s22
                obtain ⟨c0, c1, c2, c3⟩ := s21
                obtain ⟨d0, d1, d2, d3⟩ := s22
                obtain ⟨e00, e01, -, -⟩ := t0_2.facts
                obtain ⟨e10, e11, -, -⟩ := t1_2.facts
                obtain ⟨e20, e21, -, -⟩ := t2_2.facts
                obtain ⟨e30, e31, -, -⟩ := t3_2.facts
                go_wp2_with fail
                refine (HH2.out _).mono ?_
                rintro r v3 ⟨rfl, hx3⟩
                clear c0 c1 c2 c3 d0 d1 d2 d3 e00 e01 e10 e11 e20 e21 e30 e31
                have s31 := u31.below hx3
                have s32 := u32.below hx3
                have t0_3 := t0_2.below hx3 t0_2.lt
                have t1_3 := t1_2.below hx3 t1_2.lt
                have t2_3 := t2_2.below hx3 t2_2.lt
                have t3_3 := t3_2.below hx3 t3_2.lt
                have k3 := k2.trans (hx3.mono k2.size)
                clear u31 u32 hx3 k2 t0_2 t1_2 t2_2 t3_2
                have u41 := s31
                have u42 := s32
                obtain ⟨c0, c1, c2, c3⟩ := s31
                obtain ⟨d0, d1, d2, d3⟩ := s32
                obtain ⟨e00, e01, -, -⟩ := t0_3.facts
                obtain ⟨e10, e11, -, -⟩ := t1_3.facts
                obtain ⟨e20, e21, -, -⟩ := t2_3.facts
                obtain ⟨e30, e31, -, -⟩ := t3_3.facts
                go_wp2_with fail
                refine (HH3.out _).mono ?_
                rintro r v4 ⟨rfl, hx4⟩
                clear c0 c1 c2 c3 d0 d1 d2 d3 e00 e01 e10 e11 e20 e21 e30 e31
                have s41 := u41.below hx4
                have s42 := u42.below hx4
                have t0_4 := t0_3.below hx4 t0_3.lt
                have t1_4 := t1_3.below hx4 t1_3.lt
                have t2_4 := t2_3.below hx4 t2_3.lt
                have t3_4 := t3_3.below hx4 t3_3.lt
                have k4 := k3.trans (hx4.mono k3.size)
                clear u41 u42 hx4 k3 t0_3 t1_3 t2_3 t3_3
                have u51 := s41
                have u52 := s42
                obtain ⟨c0, c1, c2, c3⟩ := s41
                obtain ⟨d0, d1, d2, d3⟩ := s42
                obtain ⟨e00, e01, -, -⟩ := t0_4.facts
                obtain ⟨e10, e11, -, -⟩ := t1_4.facts
                obtain ⟨e20, e21, -, -⟩ := t2_4.facts
                obtain ⟨e30, e31, -, -⟩ := t3_4.facts
                go_wp2_with fail
                refine (HH4.out _).mono ?_
                rintro r v5 ⟨rfl, hx5⟩
                clear c0 c1 c2 c3 d0 d1 d2 d3 e00 e01 e10 e11 e20 e21 e30 e31
                have s51 := u51.below hx5
                have s52 := u52.below hx5
                have t0_5 := t0_4.below hx5 t0_4.lt
                have t1_5 := t1_4.below hx5 t1_4.lt
                have t2_5 := t2_4.below hx5 t2_4.lt
                have t3_5 := t3_4.below hx5 t3_4.lt
                have k5 := k4.trans (hx5.mono k4.size)
                clear u51 u52 hx5 k4 t0_4 t1_4 t2_4 t3_4
                obtain ⟨c0, c1, c2, c3⟩ := s51
                obtain ⟨d0, d1, d2, d3⟩ := s52
                obtain ⟨e00, e01, -, -⟩ := t0_5.facts
                obtain ⟨e10, e11, -, -⟩ := t1_5.facts
                obtain ⟨e20, e21, -, -⟩ := t2_5.facts
                obtain ⟨e30, e31, -, -⟩ := t3_5.facts
                go_wp2_with fail
                go_ret
                exact ⟨rfl, k5⟩
  · rw [if_neg h]
    rw [decide_eq_false h] at HL
    clear h
    go_enter Try.func129, Try.ntmps129
    go_wp2_with fail
    refine (HL.out _ _ _ (pts4 (by simp) _ _ _ _ _ _ _ _ _)).mono ?_
    rintro r w1 ⟨rfl, hb1⟩
    go_wp2_with fail
    go_ret
    exact ⟨rfl, hb0.trans (hb1.mono hb0.size)⟩
end Go.Proofs.Ytcpcmlonbpccnaa.Ge

/- Walks over package geom: Between. -/
namespace Go.Proofs.Ytcpcmlonbpccnaa.Ge
set_option linter.unusedVariables false
set_option linter.unusedSimpArgs false
open Go.RowKit
open Go.Proofs.Ytcpcmlonbpccnaa.Fr (Two)

theorem Pts.drew {w : World} {b : Nat} {l : List (Int × Int)} (h : Pts w b l) : Pts w.drew b l := h
set_option maxHeartbeats 4000000 in
theorem Between_any (px py ax ay bx bz : Int) (w : World) :
    Calls Try.prog 30 #[.agg #[.int .i64 px, .int .i64 py], .agg #[.int .i64 ax, .int .i64 ay], .agg #[.int .i64 bx, .int .i64 bz]] w fun e w' => e = .returned (.bool (betB px py ax ay bx bz)) ∧ Below w.heap.size w w' := by
  have HL := Lib.hid (fun b cap w k => allOn3 px py ax ay bx bz b cap w k)
  have b0_0 := Two.at (w := w) (B := w.heap.size) (by simp) 24 (.int .i64 px) (.int .i64 py)
  have b1_1 := Two.at (w := (w.alloc (.cells #[.int .i64 px, .int .i64 py] 24))) (B := w.heap.size + 1) (by simp) 24 (.int .i64 ax) (.int .i64 ay)
  have b0_1 := b0_0.alloc (.cells #[.int .i64 ax, .int .i64 ay] 24)
  have b2_2 := Two.at (w := ((w.alloc (.cells #[.int .i64 px, .int .i64 py] 24)).alloc (.cells #[.int .i64 ax, .int .i64 ay] 24))) (B := w.heap.size + 1 + 1) (by simp) 24 (.int .i64 bx) (.int .i64 bz)
  have b0_2 := b0_1.alloc (.cells #[.int .i64 bx, .int .i64 bz] 24)
  have b1_2 := b1_1.alloc (.cells #[.int .i64 bx, .int .i64 bz] 24)
  have hb0 : Below w.heap.size w _ := ((((Below.refl w.heap.size w).alloc (by simp <;> omega) (.cells #[.int .i64 px, .int .i64 py] 24)).alloc (by simp <;> omega) (.cells #[.int .i64 ax, .int .i64 ay] 24)).alloc (by simp <;> omega) (.cells #[.int .i64 bx, .int .i64 bz] 24))
  by_cases h : onP px py ∧ onP ax ay ∧ onP bx bz
  · have e : betB px py ax ay bx bz = hasB ax ay bx bz px py := by
      rw [Bool.eq_iff_iff]
      unfold betB hasB
      rw [decide_eq_true_iff, decide_eq_true_iff]
      exact ⟨fun k => k.2.2.2, fun k => ⟨h.1, h.2.1, h.2.2, k⟩⟩
    rw [e]
    rw [decide_eq_true h] at HL
    have HJ := Lib.hid (fun w => join_any ax ay bx bz w)
    have HS := Lib.hid (fun w => has_any ax ay bx bz px py h.2.1 h.2.2 h.1 w)
    clear h e
    generalize hasB ax ay bx bz px py = R at *
    go_enter Try.func30, Try.ntmps30
    go_upto_region 1 with fail
    generalize (((w.alloc (.cells #[.int .i64 px, .int .i64 py] 24)).alloc (.cells #[.int .i64 ax, .int .i64 ay] 24)).alloc (.cells #[.int .i64 bx, .int .i64 bz] 24)) = W at *
    have hS : ∀ w' : World, Below W.heap.size W w' → (w'.cell? ⟨w.heap.size, 0, none⟩ = some (.int .i64 px) ∧ w'.cell? ⟨w.heap.size, 1, none⟩ = some (.int .i64 py)) ∧ (w'.cell? ⟨w.heap.size + 1, 0, none⟩ = some (.int .i64 ax) ∧ w'.cell? ⟨w.heap.size + 1, 1, none⟩ = some (.int .i64 ay)) ∧ (w'.cell? ⟨w.heap.size + 1 + 1, 0, none⟩ = some (.int .i64 bx) ∧ w'.cell? ⟨w.heap.size + 1 + 1, 1, none⟩ = some (.int .i64 bz)) := fun w' hb => ⟨two_of b0_2 hb, two_of b1_2 hb, two_of b2_2 hb⟩
    clear b0_0 b0_1 b1_1 b0_2 b1_2 b2_2
    have hr := Below.refl W.heap.size W
    go_region_held3 (fun w' => (w'.cell? ⟨w.heap.size, 0, none⟩ = some (.int .i64 px) ∧ w'.cell? ⟨w.heap.size, 1, none⟩ = some (.int .i64 py)) ∧ (w'.cell? ⟨w.heap.size + 1, 0, none⟩ = some (.int .i64 ax) ∧ w'.cell? ⟨w.heap.size + 1, 1, none⟩ = some (.int .i64 ay)) ∧ (w'.cell? ⟨w.heap.size + 1 + 1, 0, none⟩ = some (.int .i64 bx) ∧ w'.cell? ⟨w.heap.size + 1 + 1, 1, none⟩ = some (.int .i64 bz)))
      (first | exact hS _ hr.drew | exact hS _ (by assumption) | exact hS _ (hr.alloc hr.size _).drew)
      (first
        | (go_at_call 61; refine (HL.out _ _ _ (Pts.drew (pts3 (by simp) _ _ _ _ _ _ _))).mono ?_; rintro r x0 ⟨rfl, hx0'⟩; have hx0 : Below W.heap.size W x0 := (hr.alloc hr.size _).drew.trans (hx0'.mono (by simp)))
        | (go_at_call 62; refine (HJ.out _).mono ?_; rintro r x1 ⟨rfl, hx1'⟩; have hx1 : Below W.heap.size W x1 := hx0.trans (hx1'.mono hx0.size))
        | (go_at_call 71; refine (HS.out _).mono ?_; rintro r x2 ⟨rfl, hx2'⟩; have hx2 : Below W.heap.size W x2 := hx1.trans (hx2'.mono hx1.size)))
    all_goals
      go_wp2_with fail
      go_ret
      exact ⟨rfl, hb0.trans (hx2.mono hb0.size)⟩
  · have e : betB px py ax ay bx bz = false := decide_eq_false (fun k => h ⟨k.1, k.2.1, k.2.2.1⟩)
    rw [e]
    rw [decide_eq_false h] at HL
    clear h e
    go_enter Try.func30, Try.ntmps30
    go_upto_region 1 with fail
    first | go_region_with (first | (go_at_call 61; refine (HL.out _ _ _ (Pts.drew (pts3 (by simp) _ _ _ _ _ _ _))).mono ?_; rintro r x0 ⟨rfl, hx0'⟩; have hx0 := hb0.trans ((((Below.refl _ _).alloc (Nat.le_refl _) _).drew.trans (hx0'.mono (by simp))).mono hb0.size))) | fail
    all_goals
      go_wp2_with fail
      go_ret
      exact ⟨rfl, hx0⟩
end Go.Proofs.Ytcpcmlonbpccnaa.Ge

/- Walks over package fraction: results. -/
namespace Go.Proofs.Ytcpcmlonbpccnaa.Fr
set_option linter.unusedVariables false
set_option linter.unusedSimpArgs false
open Go.RowKit

/-- is the number a term? -/
def isT (P : Int) : Bool := decide (-4611686018427387904 ≤ P ∧ P ≤ 4611686018427387904)

/-- block B holds one cell -/
def One (w : World) (B : Nat) (t : TypeId) (x : Value) : Prop := w.heap[B]? = some (.cells #[x] t (0, 0))
theorem One.lt {w : World} {B : Nat} {t : TypeId} {x : Value} (h : One w B t x) : B < w.heap.size := (Array.getElem?_eq_some_iff.1 h).1
theorem One.facts {w : World} {B : Nat} {t : TypeId} {x : Value} (h : One w B t x) : w.cell? ⟨B, 0, none⟩ = some x ∧ w.frozen? ⟨B, 0, none⟩ = false := by
  unfold One at h
  simp [World.cell?, World.frozen?, h]
theorem One.below {w w' : World} {N B : Nat} {t : TypeId} {x : Value} (h : One w B t x) (hb : Below N w w') (hlt : B < N) : One w' B t x := (hb.block B hlt).trans h
theorem One.alloc {w : World} {B : Nat} {t : TypeId} {x : Value} (h : One w B t x) (o : Obj) : One (w.alloc o) B t x := by
  have := h.lt
  unfold One at h ⊢
  show (w.heap.push o)[B]? = _
  rw [Array.getElem?_push, if_neg (by omega), h]
theorem One.at {w : World} {B : Nat} (h : B = w.heap.size) (t : TypeId) (x : Value) : One (w.alloc (.cells #[x] t)) B t x := by
  subst h
  show (w.heap.push _)[w.heap.size]? = _
  rw [Array.getElem?_push, if_pos rfl]

/-- all blocks but c are as they were -/
structure KeptBut (c : Nat) (w w' : World) : Prop where
  os : w'.os = w.os
  tape : w'.tape = w.tape
  output : w'.output = w.output
  size : w.heap.size ≤ w'.heap.size
  block : ∀ k, k < w.heap.size → k ≠ c → w'.heap[k]? = w.heap[k]?
theorem KeptBut.refl (c : Nat) (w : World) : KeptBut c w w := ⟨rfl, rfl, rfl, Nat.le_refl _, fun _ _ _ => rfl⟩
theorem KeptBut.then {c : Nat} {w w1 w2 : World} (h : KeptBut c w w1) (hb : Below w1.heap.size w1 w2) : KeptBut c w w2 :=
  ⟨hb.os.trans h.os, hb.tape.trans h.tape, hb.output.trans h.output, Nat.le_trans h.size hb.size, fun k hk hc => (hb.block k (Nat.lt_of_lt_of_le hk h.size)).trans (h.block k hk hc)⟩
theorem KeptBut.ofBelow {w w1 : World} (c : Nat) (hb : Below w.heap.size w w1) : KeptBut c w w1 := (KeptBut.refl c w).then hb
theorem KeptBut.set {c : Nat} {w w1 : World} (h : KeptBut c w w1) (v : Value) : KeptBut c w (w1.setCell ⟨c, 0, none⟩ v) :=
  ⟨h.os, h.tape, h.output, by have := h.size; simpa [World.setCell] using this, fun k hk hc => (Below.heap_setCell _ _ _ _ hc).trans (h.block k hk hc)⟩
theorem KeptBut.below {c N : Nat} {w0 w w1 : World} (h : KeptBut c w w1) (hb : Below N w0 w) (hc : N ≤ c) (hN : N ≤ w.heap.size) : Below N w0 w1 :=
  hb.trans ⟨h.os, h.tape, h.output, h.size, fun k hk => h.block k (by omega) (by omega)⟩
theorem One.set {w : World} {c : Nat} {t : TypeId} {x : Value} (h : One w c t x) (v : Value) : One (w.setCell ⟨c, 0, none⟩ v) c t v := by
  unfold One at h ⊢
  rw [heap_setCell_same _ _ _ _ _ _ h]
  rfl

/-- what the closure leaves -/
def TermPost (P : Int) (c : Nat) (r : Bool) (w : World) (e : Ending) (w' : World) : Prop :=
  ∃ n : Int, e = .returned (.int .i64 n) ∧ (r = true → n = P) ∧ KeptBut c w w' ∧ One w' c 4 (.bool r)

theorem wrap_lo (P n : Int) (hn : IntKind.i64.wrap (loW P) = n) : loW n = loW P ∧ (P = n ∨ hiW P ≠ hiW n) ∧ -9223372036854775808 ≤ n ∧ n ≤ 9223372036854775807 := by
  rw [IntKind.wrap_i64] at hn
  unfold loW hiW at *
  omega
theorem term_yes (P : Int) (c : Nat) (w : World) (hc : One w c 4 (.bool true)) (hP : isT P = true) :
    Calls Try.prog 111 #[.agg #[.int .i64 (hiW P), .int .u64 (loW P)], .pointer (some ⟨c, 0, none⟩)] w (TermPost P c true w) := by
  have hT := of_decide_eq_true hP
  obtain ⟨n1, n2⟩ := hT
  have hn : IntKind.i64.wrap (loW P) = P := by
    rw [IntKind.wrap_i64]
    unfold loW
    omega
  have clt := hc.lt
  obtain ⟨c0, f0⟩ := hc.facts
  go_enter Try.func111, Try.ntmps111
  go_wp2_with fail
  go_region_with (first | (go_at_call 69; refine (product_any _ _ (by omega) (by omega) (by omega) (by omega) _).mono ?_; rintro e w1 ⟨rfl, hb1⟩; have o1 : One w1 c 4 (.bool true) := (hb1.block c (by simp; omega)).trans (hc.alloc _); obtain ⟨c1, f1⟩ := o1.facts; have p1 : Two w1 w.heap.size 93 (.int .i64 (hiW P)) (.int .u64 (loW P)) := (hb1.block w.heap.size (by simp)).trans (Two.new _ _ _ _); obtain ⟨d1, d2, d3, d4⟩ := p1.facts) | (go_at_call 105; refine (isTerm_yes _ n1 n2 _).mono ?_; rintro e w2 ⟨rfl, rfl⟩))
  all_goals
    go_wp2_with fail
    go_ret
    exact ⟨P, rfl, fun _ => rfl, (KeptBut.ofBelow c (((Below.refl w.heap.size w).alloc (Nat.le_refl _) _).drew.trans (hb1.mono (by simp)))).set _, o1.set _⟩
set_option maxHeartbeats 1000000 in
theorem term_no (P : Int) (c : Nat) (w : World) (hc : One w c 4 (.bool true)) (hP : isT P = false) :
    Calls Try.prog 111 #[.agg #[.int .i64 (hiW P), .int .u64 (loW P)], .pointer (some ⟨c, 0, none⟩)] w (TermPost P c false w) := by
  have hT := of_decide_eq_false hP
  have clt := hc.lt
  obtain ⟨c0, f0⟩ := hc.facts
  generalize hn : IntKind.i64.wrap (loW P) = n
  obtain ⟨k1, k2, k3, k4⟩ := wrap_lo P n hn
  by_cases hPn : P = n
  · subst hPn
    go_enter Try.func111, Try.ntmps111
    go_wp2_with fail
    go_region_with (first | (go_at_call 69; refine (product_any _ _ (by omega) (by omega) (by omega) (by omega) _).mono ?_; rintro e w1 ⟨rfl, hb1⟩; have o1 : One w1 c 4 (.bool true) := (hb1.block c (by simp; omega)).trans (hc.alloc _); obtain ⟨c1, f1⟩ := o1.facts; have p1 : Two w1 w.heap.size 93 (.int .i64 (hiW P)) (.int .u64 (loW P)) := (hb1.block w.heap.size (by simp)).trans (Two.new _ _ _ _); obtain ⟨d1, d2, d3, d4⟩ := p1.facts) | (go_at_call 105; refine (isTerm_no _ hT _).mono ?_; rintro e w2 ⟨rfl, rfl⟩))
    all_goals
      go_wp2_with fail
      go_ret
      exact ⟨P, rfl, nofun, (KeptBut.ofBelow c (((Below.refl w.heap.size w).alloc (Nat.le_refl _) _).drew.trans (hb1.mono (by simp)))).set _, o1.set _⟩
  · have k5 : (hiW P == hiW n) = false := by simpa using k2.resolve_left hPn
    clear k2
    go_enter Try.func111, Try.ntmps111
    go_wp2_with fail
    first | go_region_with (first | (go_at_call 69; refine (product_any _ _ (by omega) (by omega) (by omega) (by omega) _).mono ?_; rintro e w1 ⟨rfl, hb1⟩; have o1 : One w1 c 4 (.bool true) := (hb1.block c (by simp; omega)).trans (hc.alloc _); obtain ⟨c1, f1⟩ := o1.facts; have p1 : Two w1 w.heap.size 93 (.int .i64 (hiW P)) (.int .u64 (loW P)) := (hb1.block w.heap.size (by simp)).trans (Two.new _ _ _ _); obtain ⟨d1, d2, d3, d4⟩ := p1.facts)) | fail
    all_goals
      go_wp2_with fail
      go_ret
      exact ⟨n, rfl, nofun, (KeptBut.ofBelow c (((Below.refl w.heap.size w).alloc (Nat.le_refl _) _).drew.trans (hb1.mono (by simp)))).set _, o1.set _⟩
theorem term_off (P : Int) (c : Nat) (w : World) (hc : One w c 4 (.bool false)) :
    Calls Try.prog 111 #[.agg #[.int .i64 (hiW P), .int .u64 (loW P)], .pointer (some ⟨c, 0, none⟩)] w (TermPost P c false w) := by
  have clt := hc.lt
  obtain ⟨c0, f0⟩ := hc.facts
  generalize hn : IntKind.i64.wrap (loW P) = n
  go_enter Try.func111, Try.ntmps111
  go_wp2_with fail
  first | go_region_with (fail) | fail
  all_goals
    go_wp2_with fail
    go_ret
    exact ⟨n, rfl, nofun, ((KeptBut.refl c w).set _).then (((Below.refl _ _).alloc (Nat.le_refl _) _).drew), (hc.set _).alloc _⟩
end Go.Proofs.Ytcpcmlonbpccnaa.Fr

/- Walks over package fraction: results, validity, Of. -/
namespace Go.Proofs.Ytcpcmlonbpccnaa.Fr
set_option linter.unusedVariables false
set_option linter.unusedSimpArgs false
open Go.RowKit

theorem term_any (P : Int) (c : Nat) (b : Bool) (w : World) (hc : One w c 4 (.bool b)) :
    Calls Try.prog 111 #[.agg #[.int .i64 (hiW P), .int .u64 (loW P)], .pointer (some ⟨c, 0, none⟩)] w (TermPost P c (b && isT P) w) := by
  cases b with
  | false => exact term_off P c w hc
  | true =>
    cases hP : isT P with
    | false => exact term_no P c w hc hP
    | true => exact term_yes P c w hc hP

theorem cutI {p q : Prop} (h : p) (k : p → q) : q := k h
theorem two_kept {c : Nat} {W w1 : World} {t : TypeId} {x y : Value} (hk : KeptBut c (W.alloc (.cells #[x, y] t)).drew w1) (hc : W.heap.size ≠ c) : Two w1 W.heap.size t x y :=
  (hk.block W.heap.size (by simp) hc).trans (Two.new W t x y)
theorem two_kept2 {c : Nat} {w1 w2 : World} {t : TypeId} {x y : Value} {B : Nat} (hk : KeptBut c w1 w2) (h : Two w1 B t x y) (hc : B ≠ c) : Two w2 B t x y :=
  (hk.block B h.lt hc).trans h
theorem two_kept3 {W w1 : World} {c : Nat} {t : TypeId} {x y : Value} (hk : KeptBut c (W.alloc (.cells #[x, y] t)) w1) (hc : W.heap.size ≠ c) : Two w1 W.heap.size t x y :=
  (hk.block W.heap.size (by simp) hc).trans (Two.new W t x y)

theorem Two.set2 {w : World} {B : Nat} {t : TypeId} {x y : Value} (h : Two w B t x y) (a b : Value) : Two ((w.setCell ⟨B, 0, none⟩ a).setCell ⟨B, 1, none⟩ b) B t a b := by
  unfold Two at h ⊢
  rw [heap_setCell_same _ _ _ _ _ _ (heap_setCell_same _ _ _ _ _ _ h)]
  rfl
theorem heap_set2 (w : World) (B k : Nat) (a b : Value) (h : k ≠ B) : ((w.setCell ⟨B, 0, none⟩ a).setCell ⟨B, 1, none⟩ b).heap[k]? = w.heap[k]? := by
  rw [heap_setCell_other _ _ _ _ h, heap_setCell_other _ _ _ _ h]
/-- what the region of result leaves -/
def ResAt (w : World) (P Q : Int) (R : Bool) (v : Value) (wx : World) : Prop :=
  ∃ (B : Nat) (n m : Int), v = .pointer (some ⟨B, 0, none⟩) ∧ Two wx B 26 (.int .i64 n) (.int .i64 m) ∧ One wx (w.heap.size + 1 + 1 + 1) 4 (.bool R) ∧ (R = true → n = P ∧ m = Q) ∧ Two wx (w.heap.size + 1 + 1) 26 (.int .i64 0) (.int .i64 0) ∧ Below w.heap.size w wx
theorem res_num {P Q n m : Int} {R : Bool} (hR : (isT P && isT Q) = R) (hn : (true && isT P) = true → n = P) (hm : (true && isT P && isT Q) = true → m = Q) : (true && isT P && isT Q) = R ∧ (R = true → n = P ∧ m = Q) := by
  subst hR
  cases h1 : isT P <;> cases h2 : isT Q <;> simp_all
theorem res_alloc {w w2 : World} {P Q n m : Int} {R : Bool} (hR : (isT P && isT Q) = R) (hn : (true && isT P) = true → n = P) (hm : (true && isT P && isT Q) = true → m = Q)
    (o2 : One w2 (w.heap.size + 1 + 1 + 1) 4 (.bool (true && isT P && isT Q))) (s2 : Two w2 (w.heap.size + 1 + 1) 26 (.int .i64 0) (.int .i64 0)) (hb : Below w.heap.size w w2) :
    ResAt w P Q R (.pointer (some ⟨w2.heap.size, 0, none⟩)) (w2.alloc (.cells #[.int .i64 n, .int .i64 m] 26)) := by
  obtain ⟨e1, e2⟩ := res_num hR hn hm
  rw [e1] at o2
  exact ⟨_, n, m, rfl, Two.new _ _ _ _, o2.alloc _, e2, s2.alloc _, hb.alloc hb.size _⟩
theorem res_set {w w2 : World} {P Q n m : Int} {R : Bool} {B : Nat} (hR : (isT P && isT Q) = R) (hn : (true && isT P) = true → n = P) (hm : (true && isT P && isT Q) = true → m = Q)
    (o2 : One w2 (w.heap.size + 1 + 1 + 1) 4 (.bool (true && isT P && isT Q))) (s2 : Two w2 (w.heap.size + 1 + 1) 26 (.int .i64 0) (.int .i64 0)) (hb : Below w.heap.size w w2)
    (q8 : Two w2 B 26 (.int .i64 0) (.int .i64 0)) (hB : w.heap.size + 1 + 1 + 1 < B) :
    ResAt w P Q R (.pointer (some ⟨B, 0, none⟩)) ((w2.setCell ⟨B, 0, none⟩ (.int .i64 n)).setCell ⟨B, 1, none⟩ (.int .i64 m)) := by
  obtain ⟨e1, e2⟩ := res_num hR hn hm
  rw [e1] at o2
  refine ⟨_, n, m, rfl, q8.set2 _ _, ?_, e2, ?_, (hb.setCell (by show w.heap.size ≤ B; omega) _).setCell (by show w.heap.size ≤ B; omega) _⟩
  · exact (heap_set2 _ _ _ _ _ (by omega)).trans o2
  · exact (heap_set2 _ _ _ _ _ (by omega)).trans s2

set_option maxRecDepth 100000 in
set_option maxHeartbeats 4000000 in
theorem result_any (P Q : Int) (w : World) :
    Calls Try.prog 75 #[.agg #[.int .i64 (hiW P), .int .u64 (loW P)], .agg #[.int .i64 (hiW Q), .int .u64 (loW Q)]] w fun e w' => e = .returned (.tuple #[.agg #[.int .i64 (if isT P && isT Q then P else 0), .int .i64 (if isT P && isT Q then Q else 0)], .int .i64 (if isT P && isT Q then 0 else 9)]) ∧ Below w.heap.size w w' := by
  generalize hR : (isT P && isT Q) = R
  go_enter Try.func75, Try.ntmps75
  go_upto_region 3 with fail
  have t2 : Two ((((w.alloc (Obj.cells #[Value.int IntKind.i64 (hiW P), Value.int IntKind.u64 (loW P)] 93)).alloc (Obj.cells #[Value.int IntKind.i64 (hiW Q), Value.int IntKind.u64 (loW Q)] 93)).alloc (Obj.cells #[Value.int IntKind.i64 0, Value.int IntKind.i64 0] 26)).alloc (Obj.cells #[Value.bool true] 4)) w.heap.size 93 (.int .i64 (hiW P)) (.int .u64 (loW P)) := (((Two.new _ _ _ _).alloc _).alloc _).alloc _
  have t3 : Two ((((w.alloc (Obj.cells #[Value.int IntKind.i64 (hiW P), Value.int IntKind.u64 (loW P)] 93)).alloc (Obj.cells #[Value.int IntKind.i64 (hiW Q), Value.int IntKind.u64 (loW Q)] 93)).alloc (Obj.cells #[Value.int IntKind.i64 0, Value.int IntKind.i64 0] 26)).alloc (Obj.cells #[Value.bool true] 4)) (w.heap.size + 1) 93 (.int .i64 (hiW Q)) (.int .u64 (loW Q)) := ((Two.at (by simp) _ _ _).alloc _).alloc _
  have t4 : Two ((((w.alloc (Obj.cells #[Value.int IntKind.i64 (hiW P), Value.int IntKind.u64 (loW P)] 93)).alloc (Obj.cells #[Value.int IntKind.i64 (hiW Q), Value.int IntKind.u64 (loW Q)] 93)).alloc (Obj.cells #[Value.int IntKind.i64 0, Value.int IntKind.i64 0] 26)).alloc (Obj.cells #[Value.bool true] 4)) (w.heap.size + 1 + 1) 26 (.int .i64 0) (.int .i64 0) := (Two.at (by simp) _ _ _).alloc _
  have o4 : One ((((w.alloc (Obj.cells #[Value.int IntKind.i64 (hiW P), Value.int IntKind.u64 (loW P)] 93)).alloc (Obj.cells #[Value.int IntKind.i64 (hiW Q), Value.int IntKind.u64 (loW Q)] 93)).alloc (Obj.cells #[Value.int IntKind.i64 0, Value.int IntKind.i64 0] 26)).alloc (Obj.cells #[Value.bool true] 4)) (w.heap.size + 1 + 1 + 1) 4 (.bool true) := One.at (by simp) _ _
  have hB : Below w.heap.size w ((((w.alloc (Obj.cells #[Value.int IntKind.i64 (hiW P), Value.int IntKind.u64 (loW P)] 93)).alloc (Obj.cells #[Value.int IntKind.i64 (hiW Q), Value.int IntKind.u64 (loW Q)] 93)).alloc (Obj.cells #[Value.int IntKind.i64 0, Value.int IntKind.i64 0] 26)).alloc (Obj.cells #[Value.bool true] 4)) := ((((Below.refl _ _).alloc (Nat.le_refl _) _).alloc (by simp) _).alloc (by simp; omega) _).alloc (by simp; omega) _
  generalize ((((w.alloc (Obj.cells #[Value.int IntKind.i64 (hiW P), Value.int IntKind.u64 (loW P)] 93)).alloc (Obj.cells #[Value.int IntKind.i64 (hiW Q), Value.int IntKind.u64 (loW Q)] 93)).alloc (Obj.cells #[Value.int IntKind.i64 0, Value.int IntKind.i64 0] 26)).alloc (Obj.cells #[Value.bool true] 4)) = W at t2 t3 t4 o4 hB ⊢
  have hW4 := o4.lt
  have hW3 : w.heap.size + 1 < W.heap.size := by omega
  have hW2 : w.heap.size < W.heap.size := by omega
  have hW5 : Hid (W.heap.size ≠ w.heap.size + 1 + 1 + 1) := by show W.heap.size ≠ _; omega
  have HB := hB
  clear hB
  obtain ⟨a1, a2, a3, a4⟩ := t2.facts
  obtain ⟨b1, b2, b3, b4⟩ := t3.facts
  go_cut [8] (fun v wx => ResAt w P Q R v wx)
  case first =>
    go_region_with (first
      | (go_at_call 111; have hz := o1; refine (term_any Q _ (true && isT P) _ ?_).mono ?_; (first | exact o1 | exact o1.alloc _); rintro e w2 ⟨m, rfl, hm, hk2, o2⟩; have s2 : Two w2 (w.heap.size + 1 + 1) 26 (.int .i64 0) (.int .i64 0) := (hk2.block _ (by first | omega | (simp; omega)) (by omega)).trans (by first | exact s1 | exact s1.alloc _); have HB2 : Below w.heap.size w w2 := hk2.below (by first | exact HB1 | exact HB1.alloc (by omega) _) (by omega) (by first | omega | (simp; omega)); (try (refine cutI (two_kept2 hk2 p8 hW5.out) (fun q8 => ?_); obtain ⟨g1, g2, g3, g4⟩ := q8.facts)); (try (refine cutI (two_kept3 hk2 (by omega)) (fun q8 => ?_); obtain ⟨g1, g2, g3, g4⟩ := q8.facts)))
      | (go_at_call 111; refine (term_any P _ true _ ?_).mono ?_; (first | exact o4 | exact o4.alloc _); rintro e w1 ⟨n, rfl, hn, hk1, o1⟩; have p3 : Two w1 (w.heap.size + 1) 93 (.int .i64 (hiW Q)) (.int .u64 (loW Q)) := (hk1.block _ (by simp; omega) (by omega)).trans (by first | exact t3 | exact t3.alloc _); obtain ⟨d1, d2, d3, d4⟩ := p3.facts; have l1 := o1.lt; have s1 : Two w1 (w.heap.size + 1 + 1) 26 (.int .i64 0) (.int .i64 0) := (hk1.block _ (by simp; omega) (by omega)).trans (by first | exact t4 | exact t4.alloc _); have HB1 : Below w.heap.size w w1 := hk1.below (by first | exact HB.drew | exact (HB.alloc (by omega) _).drew) (by omega) (by simp; omega); have l2 : w.heap.size + 1 < w1.heap.size := (by omega); have l3 : w.heap.size < w1.heap.size := (by omega); (try (refine cutI (two_kept hk1 hW5.out) (fun p8 => ?_); obtain ⟨e1, e2, e3, e4⟩ := p8.facts))))
    all_goals
      go_wp2_with fail
      go_meet
      first
        | exact res_alloc hR hn hm o2 s2 HB2
        | exact res_set hR hn hm o2 s2 HB2 q8 l1
        | exact res_set hR hn hm o2 s2 HB2 q8 hW4
  case rest =>
    obtain ⟨B, n, m, rfl, t8, o9, hnm, t9, hb9⟩ := hcut
    obtain ⟨c1, c2, c3, c4⟩ := t8.facts
    obtain ⟨d1, d2⟩ := o9.facts
    obtain ⟨e1, e2, e3, e4⟩ := t9.facts
    have Hnm := Lib.hid hnm
    clear hnm
    cases R with
    | false =>
      go_wp2_with fail
      refine bodyPost_ret (v := .tuple #[.agg #[.int .i64 0, .int .i64 0], .int .i64 9]) ?_ rfl ⟨rfl, ?_⟩
      · simp [results, Try.results75, go_sem, e1, e2]
      · exact (hb9.setCell (by show w.heap.size ≤ w.heap.size + 1 + 1; omega) _).setCell (by show w.heap.size ≤ w.heap.size + 1 + 1; omega) _
    | true =>
      obtain ⟨rfl, rfl⟩ := Hnm.out rfl
      go_wp2_with fail
      refine bodyPost_ret (v := .tuple #[.agg #[.int .i64 n, .int .i64 m], .int .i64 0]) ?_ rfl ⟨rfl, ?_⟩
      · simp [results, Try.results75, go_sem, e1, e2]
      · exact (hb9.setCell (by show w.heap.size ≤ w.heap.size + 1 + 1; omega) _).setCell (by show w.heap.size ≤ w.heap.size + 1 + 1; omega) _
end Go.Proofs.Ytcpcmlonbpccnaa.Fr

/- Walks over package fraction: validity, quotients, floors. -/
namespace Go.Proofs.Ytcpcmlonbpccnaa.Fr
set_option linter.unusedVariables false
set_option linter.unusedSimpArgs false
open Go.RowKit

theorem valid_yes (n d : Int) (h : valP n d) (w : World) :
    Calls Try.prog 68 #[.agg #[.int .i64 n, .int .i64 d]] w fun e w' => e = .returned (.bool true) ∧ Below w.heap.size w w' := by
  obtain ⟨h1, h2, h3, h4, h5⟩ := h
  have t1 := Two.new w 26 (.int .i64 n) (.int .i64 d)
  go_enter Try.func68, Try.ntmps68
  go_wp2_with (first
    | (go_at_call 105; refine (isTerm_yes _ (by omega) (by omega) _).mono ?_; rintro e w1 ⟨rfl, rfl⟩)
    | (go_at_call 72; refine (divisor_any _ _ (by omega) (by omega) (by omega) (by omega) _).mono ?_; rintro e w1 ⟨rfl, hb1⟩; rw [h5]))
  go_ret
  exact ⟨rfl, ((Below.refl _ _).alloc (Nat.le_refl _) _).trans (hb1.mono (by simp))⟩

theorem valid_no (n d : Int) (h : ¬ valP n d) (w : World) :
    Calls Try.prog 68 #[.agg #[.int .i64 n, .int .i64 d]] w fun e w' => e = .returned (.bool false) ∧ Below w.heap.size w w' := by
  by_cases h1 : -4611686018427387904 ≤ n ∧ n ≤ 4611686018427387904
  · by_cases h2 : -4611686018427387904 ≤ d ∧ d ≤ 4611686018427387904
    · by_cases h3 : 1 ≤ d
      · have h4 : ¬ Nat.gcd n.natAbs d.natAbs = 1 := fun k => h ⟨h1.1, h1.2, h3, h2.2, k⟩
        have h5 : (((Nat.gcd n.natAbs d.natAbs : Nat) : Int) == 1) = false := by
          simp only [beq_eq_false_iff_ne, ne_eq]
          omega
        clear h h4
        go_enter Try.func68, Try.ntmps68
        go_wp2_with fail
        refine (isTerm_yes _ (by omega) (by omega) _).mono ?_
        rintro e w1 ⟨rfl, rfl⟩
        go_wp2_with fail
        refine (isTerm_yes _ (by omega) (by omega) _).mono ?_
        rintro e w1 ⟨rfl, rfl⟩
        go_wp2_with fail
        refine (divisor_any _ _ (by omega) (by omega) (by omega) (by omega) _).mono ?_
        rintro e w1 ⟨rfl, hb1⟩
        go_wp2_with fail
        go_ret
        exact ⟨rfl, ((Below.refl _ _).alloc (Nat.le_refl _) _).trans (hb1.mono (by simp))⟩
      · have h4 : decide (1 ≤ d) = false := by simp; omega
        clear h
        go_enter Try.func68, Try.ntmps68
        go_wp2_with fail
        refine (isTerm_yes _ (by omega) (by omega) _).mono ?_
        rintro e w1 ⟨rfl, rfl⟩
        go_wp2_with fail
        refine (isTerm_yes _ (by omega) (by omega) _).mono ?_
        rintro e w1 ⟨rfl, rfl⟩
        go_wp2_with fail
        go_ret
        exact ⟨rfl, ((Below.refl _ _).alloc (Nat.le_refl _) _)⟩
    · clear h
      go_enter Try.func68, Try.ntmps68
      go_wp2_with fail
      refine (isTerm_yes _ (by omega) (by omega) _).mono ?_
      rintro e w1 ⟨rfl, rfl⟩
      go_wp2_with fail
      refine (isTerm_no _ h2 _).mono ?_
      rintro e w1 ⟨rfl, rfl⟩
      go_wp2_with fail
      go_ret
      exact ⟨rfl, ((Below.refl _ _).alloc (Nat.le_refl _) _)⟩
  · clear h
    go_enter Try.func68, Try.ntmps68
    go_wp2_with (first
      | (go_at_call 105; refine (isTerm_no _ h1 _).mono ?_; rintro e w1 ⟨rfl, rfl⟩))
    go_ret
    exact ⟨rfl, ((Below.refl _ _).alloc (Nat.le_refl _) _)⟩

theorem valid_any (n d : Int) (w : World) :
    Calls Try.prog 68 #[.agg #[.int .i64 n, .int .i64 d]] w fun e w' => e = .returned (.bool (valB n d)) ∧ Below w.heap.size w w' := by
  by_cases h : valP n d
  · rw [valB_iff.2 h]
    exact valid_yes n d h w
  · rw [valB_false h]
    exact valid_no n d h w

end Go.Proofs.Ytcpcmlonbpccnaa.Fr
