/- Walks over package fraction: numbers of 128 bits. -/
import Derived.Test.YtohkmkkcblbemaaFrcMath
import Derived.Test.YtohkmkkcblbemaaProg
import Derived.Test.YtohkmkkcblbemaaShelf
import Derived.WalkKit
import Derived.IntWalk
import Derived.LoopTactic
import Derived.BigQuiet
import Derived.Outline
import Derived.Laws.Externs
import Derived.Lib.Hide
namespace Go.Proofs.Ytohkmkkcblbemaa.Fr
set_option linter.unusedVariables false
set_option linter.unusedSimpArgs false
open Go.RowKit

/-- a number of 128 bits, as two -/
def hiW (P : Int) : Int := P / 18446744073709551616
def loW (P : Int) : Int := P % 18446744073709551616

theorem mul64_any (x y : Int) (hx : 0 ≤ x) (hx2 : x < 18446744073709551616) (hy : 0 ≤ y) (hy2 : y < 18446744073709551616) (w : World) :
    Calls Try.prog 95 #[.int .u64 x, .int .u64 y] w fun e w' => e = .returned (.tuple #[.int .u64 (hiW (x * y)), .int .u64 (loW (x * y))]) ∧ w = w' := by
  obtain ⟨X, rfl⟩ := Int.eq_ofNat_of_zero_le hx
  obtain ⟨Y, rfl⟩ := Int.eq_ofNat_of_zero_le hy
  refine (Try.bits_Mul64 X Y (by omega) (by omega) w).mono ?_
  rintro e w' ⟨rfl, rfl⟩
  refine ⟨?_, rfl⟩
  unfold hiW loW
  simp

theorem prod_hi (a b ua ub : Int) (s t : Int) (hs : ua = a + 18446744073709551616 * s) (ht : ub = b + 18446744073709551616 * t) :
    hiW (ua * ub) = hiW (a * b) + (s * b + t * a + 18446744073709551616 * (s * t)) ∧ loW (ua * ub) = loW (a * b) := by
  have e : ua * ub = a * b + (s * b + t * a + 18446744073709551616 * (s * t)) * 18446744073709551616 := by
    subst hs ht
    simp only [Int.add_mul, Int.mul_add, Int.mul_comm, Int.mul_assoc, Int.mul_left_comm]
    omega
  unfold hiW loW
  rw [e, Int.add_mul_ediv_right _ _ (by omega), Int.add_mul_emod_self_right]
  exact ⟨rfl, rfl⟩
theorem hi_bd (a b : Int) (ha : -9223372036854775808 ≤ a) (ha2 : a ≤ 9223372036854775807) (hb : -9223372036854775808 ≤ b) (hb2 : b ≤ 9223372036854775807) :
    -4611686018427387904 ≤ hiW (a * b) ∧ hiW (a * b) ≤ 4611686018427387904 := by
  have h1 : (a * b).natAbs ≤ 9223372036854775808 * 9223372036854775808 := by
    rw [Int.natAbs_mul]
    exact Nat.mul_le_mul (by omega) (by omega)
  unfold hiW
  omega

theorem product_any (a b : Int) (ha : -9223372036854775808 ≤ a) (ha2 : a ≤ 9223372036854775807) (hb : -9223372036854775808 ≤ b) (hb2 : b ≤ 9223372036854775807) (w : World) :
    Calls Try.prog 81 #[.int .i64 a, .int .i64 b] w fun e w' => e = .returned (.agg #[.int .i64 (hiW (a * b)), .int .u64 (loW (a * b))]) ∧ Below w.heap.size w w' := by
  have hbd := hi_bd a b ha ha2 hb hb2
  by_cases h1 : a < 0
  · by_cases h2 : b < 0
    · obtain ⟨e1, e2⟩ := prod_hi a b (a + 18446744073709551616) (b + 18446744073709551616) 1 1 (by omega) (by omega)
      have u1 : IntKind.u64.wrap a = a + 18446744073709551616 := by rw [IntKind.wrap_u64]; omega
      have u2 : IntKind.u64.wrap b = b + 18446744073709551616 := by rw [IntKind.wrap_u64]; omega
      go_enter Try.func81, Try.ntmps81
      go_wp2_with (go_at_call 95; refine (mul64_any _ _ (by omega) (by omega) (by omega) (by omega) _).mono ?_; rintro e w' ⟨rfl, rfl⟩)
      refine bodyPost_ret (v := .agg #[.int .i64 (hiW (a * b)), .int .u64 (loW (a * b))]) ?_ rfl ⟨rfl, ?_⟩
      · simp [results, Try.results81, go_sem]
        clear e1 e2 u1 u2
        generalize hiW (a * b) = H at *
        unfold wrap64
        omega
      · exact ((Below.refl _ _).alloc (Nat.le_refl _) _).alloc (by simp) _
    · obtain ⟨e1, e2⟩ := prod_hi a b (a + 18446744073709551616) (b) 1 0 (by omega) (by omega)
      have u1 : IntKind.u64.wrap a = a + 18446744073709551616 := by rw [IntKind.wrap_u64]; omega
      have u2 : IntKind.u64.wrap b = b := by rw [IntKind.wrap_u64]; omega
      go_enter Try.func81, Try.ntmps81
      go_wp2_with (go_at_call 95; refine (mul64_any _ _ (by omega) (by omega) (by omega) (by omega) _).mono ?_; rintro e w' ⟨rfl, rfl⟩)
      refine bodyPost_ret (v := .agg #[.int .i64 (hiW (a * b)), .int .u64 (loW (a * b))]) ?_ rfl ⟨rfl, ?_⟩
      · simp [results, Try.results81, go_sem]
        clear e1 e2 u1 u2
        generalize hiW (a * b) = H at *
        unfold wrap64
        omega
      · exact ((Below.refl _ _).alloc (Nat.le_refl _) _).alloc (by simp) _
  · by_cases h2 : b < 0
    · obtain ⟨e1, e2⟩ := prod_hi a b (a) (b + 18446744073709551616) 0 1 (by omega) (by omega)
      have u1 : IntKind.u64.wrap a = a := by rw [IntKind.wrap_u64]; omega
      have u2 : IntKind.u64.wrap b = b + 18446744073709551616 := by rw [IntKind.wrap_u64]; omega
      go_enter Try.func81, Try.ntmps81
      go_wp2_with (go_at_call 95; refine (mul64_any _ _ (by omega) (by omega) (by omega) (by omega) _).mono ?_; rintro e w' ⟨rfl, rfl⟩)
      refine bodyPost_ret (v := .agg #[.int .i64 (hiW (a * b)), .int .u64 (loW (a * b))]) ?_ rfl ⟨rfl, ?_⟩
      · simp [results, Try.results81, go_sem]
        clear e1 e2 u1 u2
        generalize hiW (a * b) = H at *
        unfold wrap64
        omega
      · exact ((Below.refl _ _).alloc (Nat.le_refl _) _).alloc (by simp) _
    · have u1 : IntKind.u64.wrap a = a := by rw [IntKind.wrap_u64]; omega
      have u2 : IntKind.u64.wrap b = b := by rw [IntKind.wrap_u64]; omega
      go_enter Try.func81, Try.ntmps81
      go_wp2_with (go_at_call 95; refine (mul64_any _ _ (by omega) (by omega) (by omega) (by omega) _).mono ?_; rintro e w' ⟨rfl, rfl⟩)
      refine bodyPost_ret (v := .agg #[.int .i64 (hiW (a * b)), .int .u64 (loW (a * b))]) ?_ rfl ⟨rfl, ?_⟩
      · simp [results, Try.results81, go_sem]
      · exact ((Below.refl _ _).alloc (Nat.le_refl _) _).alloc (by simp) _
end Go.Proofs.Ytohkmkkcblbemaa.Fr
