/- Plain mathematics of layer 5: long division by two digits of 32 bits (math/bits.Div64). -/
import Derived.Lib.BitFns
import Derived.Lib.ItoaNum
import Derived.Laws.Bits64b
import Derived.Laws.MathBits
namespace Go.Proofs.Ytcpcmlonbpccnaa.Fr

/-- one digit: Q is the true one; q is tried, r is what is left of the upper part -/
structure Dig (A C Y U D : Int) : Prop where
  a1 : 2147483648 ≤ A
  a2 : A < 4294967296
  c1 : 0 ≤ C
  c2 : C < 4294967296
  y : Y = A * 4294967296 + C
  u1 : 0 ≤ U
  u2 : U < Y
  d1 : 0 ≤ D
  d2 : D < 4294967296

theorem Dig.le {A C Y U D : Int} (h : Dig A C Y U D) (q : Int) : q ≤ (U * 4294967296 + D) / Y ↔ q * Y ≤ U * 4294967296 + D :=
  Int.le_ediv_iff_mul_le (by have := h.y; have := h.a1; have := h.c1; omega)
theorem Dig.key {A C Y U D : Int} (h : Dig A C Y U D) {q r : Int} (hr : q * A + r = U) : q * Y ≤ U * 4294967296 + D ↔ q * C ≤ r * 4294967296 + D := by
  have e : q * Y = q * A * 4294967296 + q * C := by rw [h.y, Int.mul_add, Int.mul_assoc]
  rw [e]
  generalize q * A = x at *
  generalize q * C = z at *
  omega
theorem Dig.bd {A C Y U D : Int} (h : Dig A C Y U D) : 0 ≤ (U * 4294967296 + D) / Y ∧ (U * 4294967296 + D) / Y < 4294967296 := by
  obtain ⟨a1, a2, c1, c2, y, u1, u2, d1, d2⟩ := h
  have hy : 0 < Y := by omega
  refine ⟨Int.ediv_nonneg (by omega) (by omega), ?_⟩
  rw [Int.ediv_lt_iff_lt_mul hy]
  omega
theorem Dig.first {A C Y U D : Int} (h : Dig A C Y U D) : (U * 4294967296 + D) / Y ≤ U / A ∧ U / A ≤ 4294967297 ∧ U / A * A + U % A = U ∧ 0 ≤ U % A ∧ U % A < 4294967296 ∧ 0 ≤ U / A := by
  have hb := h.bd
  have hq := (h.le _).1 (Int.le_refl _)
  have e : (U * 4294967296 + D) / Y * Y = (U * 4294967296 + D) / Y * A * 4294967296 + (U * 4294967296 + D) / Y * C := by
    conv => lhs; rhs; rw [h.y]
    rw [Int.mul_add, Int.mul_assoc]
  have hc : 0 ≤ (U * 4294967296 + D) / Y * C := Int.mul_nonneg hb.1 h.c1
  obtain ⟨a1, a2, c1, c2, y, u1, u2, d1, d2⟩ := h
  refine ⟨?_, ?_, Int.ediv_mul_add_emod U A, Int.emod_nonneg _ (by omega), by have := Int.emod_lt_of_pos U (show 0 < A by omega); omega, Int.ediv_nonneg u1 (by omega)⟩
  · rw [Int.le_ediv_iff_mul_le (by omega)]
    rw [e] at hq
    generalize (U * 4294967296 + D) / Y * A = x at *
    generalize (U * 4294967296 + D) / Y * C = z at *
    omega
  · have : U / A < 4294967298 := by
      rw [Int.ediv_lt_iff_lt_mul (by omega)]
      omega
    omega
/-- the test says that q is too great -/
theorem Dig.more {A C Y U D : Int} (h : Dig A C Y U D) {q r : Int} (hr : q * A + r = U) (ht : 4294967296 ≤ q ∨ r * 4294967296 + D < q * C) (hq : (U * 4294967296 + D) / Y ≤ q) :
    (U * 4294967296 + D) / Y ≤ q - 1 ∧ 1 ≤ q ∧ (q - 1) * A + (r + A) = U := by
  have hb := h.bd
  have hk := h.key hr
  have hl := h.le q
  have e : (q - 1) * A = q * A - A := by rw [Int.sub_mul, Int.one_mul]
  refine ⟨?_, ?_, by rw [e]; omega⟩
  · rcases ht with ht | ht
    · omega
    · have : ¬ q ≤ (U * 4294967296 + D) / Y := fun k => by have := hk.1 (hl.1 k); omega
      omega
  · rcases ht with ht | ht
    · omega
    · have : ¬ q ≤ (U * 4294967296 + D) / Y := fun k => by have := hk.1 (hl.1 k); omega
      omega
theorem Dig.done {A C Y U D : Int} (h : Dig A C Y U D) {q r : Int} (hr : q * A + r = U) (ht : q * C ≤ r * 4294967296 + D) (hq : (U * 4294967296 + D) / Y ≤ q) :
    q = (U * 4294967296 + D) / Y := by
  have := (h.le q).2 ((h.key hr).2 ht)
  omega
theorem Dig.over {A C Y U D : Int} (h : Dig A C Y U D) {q r : Int} (hr : q * A + r = U) (hq2 : q ≤ 4294967296) (hr2 : 4294967296 ≤ r) (_hq0 : 0 ≤ q) (hq : (U * 4294967296 + D) / Y ≤ q) :
    q = (U * 4294967296 + D) / Y := by
  refine h.done hr ?_ hq
  have h1 : q * C ≤ 4294967296 * C := Int.mul_le_mul_of_nonneg_right hq2 h.c1
  have := h.c2
  have := h.d1
  omega

theorem shift_all (hi lo y p p' : Int) (hp : 1 ≤ p) (hp' : 1 ≤ p') (hpp : p * p' = 18446744073709551616) (_h0 : 0 ≤ hi) (h1 : hi < y) (_hl : 0 ≤ lo) (hl2 : lo < 18446744073709551616) :
    hi * p + lo / p' < y * p ∧ (hi * 18446744073709551616 + lo) * p = (hi * p + lo / p') * 18446744073709551616 + (lo * p) % 18446744073709551616 ∧ lo / p' < p := by
  have e1 : lo * p / 18446744073709551616 = lo / p' := by
    rw [← hpp, Int.mul_comm lo p, Int.mul_ediv_mul_of_pos _ _ (by omega)]
  have e2 : lo / p' < p := by
    rw [Int.ediv_lt_iff_lt_mul (by omega), hpp]
    exact hl2
  have e3 : (y - hi) * p = y * p - hi * p := Int.sub_mul _ _ _
  have e4 : 1 * p ≤ (y - hi) * p := Int.mul_le_mul_of_nonneg_right (by omega) (by omega)
  refine ⟨by omega, ?_, e2⟩
  have e5 : (hi * 18446744073709551616 + lo) * p = hi * p * 18446744073709551616 + lo * p := by
    rw [Int.add_mul, Int.mul_right_comm]
  rw [e5, Int.add_mul]
  omega

theorem div_end (n y p Y U L D E q1 W q0 Z : Int) (hp : 1 ≤ p) (hy : 1 ≤ y) (hY : Y = y * p) (hn : n * p = U * 18446744073709551616 + L) (hL : L = D * 4294967296 + E)
    (h1 : U * 4294967296 + D = q1 * Y + W) (h2 : W * 4294967296 + E = q0 * Y + Z) (hZ : 0 ≤ Z) (hZ2 : Z < Y) :
    n / y = q1 * 4294967296 + q0 ∧ n % y = Z / p := by
  have e1 : n * p = (q1 * 4294967296 + q0) * Y + Z := by
    rw [Int.add_mul, Int.mul_right_comm]
    omega
  have e2 : Z = (n - (q1 * 4294967296 + q0) * y) * p := by
    rw [Int.sub_mul, Int.mul_assoc, ← hY]
    omega
  generalize q1 * 4294967296 + q0 = q at *
  have e3 : Z / p = n - q * y := by rw [e2, Int.mul_ediv_cancel _ (by omega)]
  have e4 : 0 ≤ n - q * y := by rw [← e3]; exact Int.ediv_nonneg hZ (by omega)
  have e5 : n - q * y < y := by
    rw [← e3, Int.ediv_lt_iff_lt_mul (by omega), ← hY]
    exact hZ2
  have e6 : n / y = q ∧ n % y = n - q * y := (Int.ediv_emod_unique (by omega)).2 ⟨by rw [Int.mul_comm y q]; omega, e4, e5⟩
  rw [e3]
  exact e6

/-- the leading zeros of y -/
theorem shift_of (y : Int) (h1 : 1 ≤ y) (h2 : y ≤ 4611686018427387904) :
    ∃ s : Nat, Lib.bitLen y.toNat = 64 - s ∧ 1 ≤ s ∧ s ≤ 63 ∧ 9223372036854775808 ≤ y * 2 ^ s ∧ y * 2 ^ s < 18446744073709551616 := by
  obtain ⟨Y, rfl⟩ := Int.eq_ofNat_of_zero_le (show 0 ≤ y by omega)
  obtain ⟨a, b, c⟩ := Lib.bitLenAux_bounds 64 Y (by omega) (by omega)
  have hle : Lib.bitLen Y ≤ 63 := Lib.bitLen_le Y 63 (by omega) (by omega)
  change 1 ≤ Lib.bitLen Y at a
  change 2 ^ (Lib.bitLen Y - 1) ≤ Y at b
  change Y < 2 ^ Lib.bitLen Y at c
  rw [Int.toNat_natCast]
  generalize Lib.bitLen Y = k at *
  refine ⟨64 - k, by omega, by omega, by omega, ?_, ?_⟩
  · have e : 2 ^ (k - 1) * 2 ^ (64 - k) = 9223372036854775808 := by
      rw [← Nat.pow_add, show k - 1 + (64 - k) = 63 by omega]
    have := Nat.mul_le_mul_right (2 ^ (64 - k)) b
    rw [e] at this
    rw [show (Y : Int) * 2 ^ (64 - k) = ((Y * 2 ^ (64 - k) : Nat) : Int) by simp]
    generalize Y * 2 ^ (64 - k) = M at *
    omega
  · have e : 2 ^ k * 2 ^ (64 - k) = 18446744073709551616 := by
      rw [← Nat.pow_add, show k + (64 - k) = 64 by omega]
    have := (Nat.mul_lt_mul_right (a := 2 ^ (64 - k)) (by exact Nat.two_pow_pos _)).2 c
    rw [e] at this
    rw [show (Y : Int) * 2 ^ (64 - k) = ((Y * 2 ^ (64 - k) : Nat) : Int) by simp]
    generalize Y * 2 ^ (64 - k) = M at *
    omega
theorem or_shift (a : Int) (s : Nat) (b : Int) (_hs : s ≤ 63) (ha : 0 ≤ a) (hb : 0 ≤ b) (hb2 : b < 2 ^ s) (hlt : a * 2 ^ s < 18446744073709551616) (hb3 : b < 18446744073709551616) :
    bits .or .u64 (a * 2 ^ s) b = a * 2 ^ s + b := by
  obtain ⟨A, rfl⟩ := Int.eq_ofNat_of_zero_le ha
  obtain ⟨B, rfl⟩ := Int.eq_ofNat_of_zero_le hb
  have hB : B < 2 ^ s := by exact_mod_cast hb2
  have e : ((A : Int) * 2 ^ s) = ((A * 2 ^ s : Nat) : Int) := by simp
  rw [e] at hlt ⊢
  rw [bits_or_u64_nat _ _ (by omega) (by omega), Nat.mul_comm A, ← Nat.two_pow_add_eq_or_of_lt hB A]
  simp
end Go.Proofs.Ytcpcmlonbpccnaa.Fr
