/- Walks over package fraction: the quotient of a number of 128 bits (math/bits.Div64). -/
import Derived.Test.YtcpcmlonbpccnaaBdA3
import Derived.Test.YtcpcmlonbpccnaaFrcDiv
import Derived.Deep.CutBlock
import Derived.Deep.CutRange
import Derived.Deep.DeepCutAuto
namespace Go.Proofs.Ytcpcmlonbpccnaa.Fr
set_option linter.unusedVariables false
set_option linter.unusedSimpArgs false
open Go.RowKit

theorem wrap_mod (a b c q : Int) (h : a * 4294967296 + b = q * c + (a * 4294967296 + b) % c) (h0 : 0 ≤ (a * 4294967296 + b) % c) (h1 : (a * 4294967296 + b) % c < 18446744073709551616) :
    IntKind.u64.wrap (IntKind.u64.wrap (IntKind.u64.wrap (a * 4294967296) + b) - IntKind.u64.wrap (q * c)) = (a * 4294967296 + b) % c := by
  rw [IntKind.wrap_u64, IntKind.wrap_u64, IntKind.wrap_u64, IntKind.wrap_u64]
  generalize (a * 4294967296 + b) % c = m at *
  generalize q * c = x at *
  omega

set_option maxHeartbeats 1000000 in
theorem div64_core (hi lo y Y A C U L D E H V : Int) (s : Nat) (h0 : 1 ≤ hi) (h1 : hi < y) (hy : y ≤ 4611686018427387904) (hl : 0 ≤ lo) (hl2 : lo < 18446744073709551616)
    (hs : Lib.bitLen y.toNat = 64 - s) (hs1 : 1 ≤ s) (hs2 : s ≤ 63)
    (hY : IntKind.u64.wrap (y * 2 ^ s) = Y) (hA : Y / 4294967296 = A) (hC : bits .and .u64 Y 4294967295 = C) (hH : IntKind.u64.wrap (hi * 2 ^ s) = H)
    (hV : lo / 2 ^ (64 - s) = V) (hU : bits .or .u64 H V = U) (hL : IntKind.u64.wrap (lo * 2 ^ s) = L) (hD : L / 4294967296 = D) (hE : bits .and .u64 L 4294967295 = E)
    (hL1 : 0 ≤ L) (hL2 : L < 18446744073709551616) (hY1 : 0 ≤ Y) (hY2 : Y < 18446744073709551616)
    (d1 : Dig A C Y U D) (d2 : Dig A C Y ((U * 4294967296 + D) % Y) E) (w : World) :
    Calls Try.prog 110 #[.int .u64 hi, .int .u64 lo, .int .u64 y] w fun e w' => e = .returned (.tuple #[.int .u64 ((U * 4294967296 + D) / Y * 4294967296 + ((U * 4294967296 + D) % Y * 4294967296 + E) / Y), .int .u64 (((U * 4294967296 + D) % Y * 4294967296 + E) % Y / 2 ^ s)]) ∧ w = w' := by
  have hc : (64 - (Lib.bitLen y.toNat : Int)) = (s : Int) := by omega
  clear hs
  have f1 := d1.first
  have b1 := d1.bd
  generalize hQ1 : (U * 4294967296 + D) / Y = Q1 at *
  have HQ1 := Lib.hid hQ1
  clear hQ1
  have D1 := Lib.hid d1
  have D2 := Lib.hid d2
  obtain ⟨a1, a2, c1, c2, ey, u1, u2, dd1, dd2⟩ := d1
  have ey' := Lib.hid ey
  clear ey d2
  obtain ⟨f11, f12, f13, f14, f15, f16⟩ := f1
  have F13 := Lib.hid f13
  clear f13
  have hua : IntKind.u64.wrap (U.tdiv A) = U / A := IntWalk.u64_quo _ _ (by omega)
  have hra : IntKind.u64.wrap (U - IntKind.u64.wrap (U / A * A)) = U % A := by
    rw [IntKind.wrap_u64, IntKind.wrap_u64]
    have := F13.out
    generalize U / A * A = x at *
    omega
  have hW0 : 0 ≤ (U * 4294967296 + D) % Y := D2.out.u1
  have hW1 : (U * 4294967296 + D) % Y < Y := D2.out.u2
  have hwm := wrap_mod U D Y Q1 (by rw [← HQ1.out]; exact (Int.ediv_mul_add_emod _ _).symm) hW0 (by omega)
  have f2 := D2.out.first
  have b2 := D2.out.bd
  have hwm2 := wrap_mod ((U * 4294967296 + D) % Y) E Y _ (Int.ediv_mul_add_emod _ _).symm (Int.emod_nonneg _ (by omega)) (by have := Int.emod_lt_of_pos ((U * 4294967296 + D) % Y * 4294967296 + E) (show 0 < Y by omega); omega)
  have hZ0 : 0 ≤ ((U * 4294967296 + D) % Y * 4294967296 + E) % Y := Int.emod_nonneg _ (by omega)
  have hZ1 : ((U * 4294967296 + D) % Y * 4294967296 + E) % Y < 18446744073709551616 := by have := Int.emod_lt_of_pos ((U * 4294967296 + D) % Y * 4294967296 + E) (show 0 < Y by omega); omega
  generalize (U * 4294967296 + D) % Y = W at *
  generalize hQ0 : (W * 4294967296 + E) / Y = Q0 at *
  have HQ0 := Lib.hid hQ0
  clear hQ0
  generalize (W * 4294967296 + E) % Y = Z at *
  obtain ⟨f21, f22, f23, f24, f25, f26⟩ := f2
  have F23 := Lib.hid f23
  clear f23
  have e1 : 0 ≤ E := D2.out.d1
  have e2 : E < 4294967296 := D2.out.d2
  have hua2 : IntKind.u64.wrap (W.tdiv A) = W / A := IntWalk.u64_quo _ _ (by omega)
  have hra2 : IntKind.u64.wrap (W - IntKind.u64.wrap (W / A * A)) = W % A := by
    rw [IntKind.wrap_u64, IntKind.wrap_u64]
    have := F23.out
    generalize W / A * A = x at *
    omega
  go_enter Try.func110, Try.ntmps110
  go_upto_block 0 with (go_at_call 125; refine (Try.bits_LeadingZeros64 _ _ (by omega) (by omega)).mono ?_; rintro e w ⟨rfl, rfl⟩; rw [hc])
  go_cut [15, 16] from 67 to 85 (fun q r wx => q = .int .u64 Q1 ∧ (∃ z : Int, r = .int .u64 z) ∧ w = wx)
  case first =>
    go_wp2_with fail
    go_loop [15, 16] (fun x z => ∃ q r : Int, x = .int .u64 q ∧ z = .int .u64 r ∧ Hid (q * A + r = U) ∧ Q1 ≤ q ∧ q ≤ 4294967297 ∧ 0 ≤ r ∧ r < 4294967296) (fun x _ => (intOf x).toNat)
    case atStart => exact ⟨_, _, rfl, rfl, F13, f11, f12, f14, f15⟩
    case round =>
      obtain ⟨q, r, rfl, rfl, hqr, g1, g2, g3, g4⟩ := hrel
      by_cases hq : 4294967296 ≤ q
      · obtain ⟨m1, m2, m3⟩ := D1.out.more hqr.out (.inl hq) (by rw [HQ1.out]; exact g1)
        rw [HQ1.out] at m1
        have M3 := Lib.hid m3
        clear m3
        by_cases hr : 4294967296 ≤ r + A
        · have hend := D1.out.over M3.out (by omega) hr (by omega) (by rw [HQ1.out]; exact m1)
          rw [HQ1.out] at hend
          have Hend := Lib.hid hend
          clear hend
          go_wp2_with fail
          go_meet
          exact ⟨by rw [Hend.out], ⟨_, rfl⟩, rfl⟩
        · go_wp2_with fail
          go_round
          case rel => exact ⟨_, _, rfl, rfl, M3, m1, by omega, by omega, by omega⟩
          case measure => simp [intOf]; omega
      · have hq1 : decide (4294967296 ≤ q) = false := by simp; omega
        have hqc : 0 ≤ q * C := Int.mul_nonneg (by omega) c1
        have hqc2 : q * C ≤ 4294967295 * C := Int.mul_le_mul_of_nonneg_right (by omega) c1
        have w1 : IntKind.u64.wrap (q * C) = q * C := IntWalk.u64_in _ (by omega)
        by_cases ht : r * 4294967296 + D < q * C
        · obtain ⟨m1, m2, m3⟩ := D1.out.more hqr.out (.inr ht) (by rw [HQ1.out]; exact g1)
          rw [HQ1.out] at m1
          have M3 := Lib.hid m3
          have ht2 : decide (4294967296 * r + D < q * C) = true := by simp; omega
          clear m3 hqc hqc2
          by_cases hr : 4294967296 ≤ r + A
          · have hend := D1.out.over M3.out (by omega) hr (by omega) (by rw [HQ1.out]; exact m1)
            rw [HQ1.out] at hend
            have Hend := Lib.hid hend
            clear hend
            go_wp2_with fail
            go_meet
            exact ⟨by rw [Hend.out], ⟨_, rfl⟩, rfl⟩
          · go_wp2_with fail
            go_round
            case rel => exact ⟨_, _, rfl, rfl, M3, m1, by omega, by omega, by omega⟩
            case measure => simp [intOf]; omega
        · have hend := D1.out.done hqr.out (by omega) (by rw [HQ1.out]; exact g1)
          rw [HQ1.out] at hend
          have Hend := Lib.hid hend
          have ht2 : decide (4294967296 * r + D < q * C) = false := by simp; omega
          clear hend hqc hqc2
          go_wp2_with fail
          go_meet
          exact ⟨by rw [Hend.out], ⟨_, rfl⟩, rfl⟩
  case rest =>
    obtain ⟨rfl, ⟨z, rfl⟩, rfl⟩ := hcut
    go_upto_block 2 with fail
    go_cut [16, 18] from 102 to 120 (fun r q wx => (∃ z : Int, r = .int .u64 z) ∧ q = .int .u64 Q0 ∧ w = wx)
    case first =>
      go_wp2_with fail
      go_loop [16, 18] (fun z x => ∃ q r : Int, x = .int .u64 q ∧ z = .int .u64 r ∧ Hid (q * A + r = W) ∧ Q0 ≤ q ∧ q ≤ 4294967297 ∧ 0 ≤ r ∧ r < 4294967296) (fun _ x => (intOf x).toNat)
      case atStart => exact ⟨_, _, rfl, rfl, F23, f21, f22, f24, f25⟩
      case round =>
        obtain ⟨q, r, rfl, rfl, hqr, g1, g2, g3, g4⟩ := hrel
        by_cases hq : 4294967296 ≤ q
        · obtain ⟨m1, m2, m3⟩ := D2.out.more hqr.out (.inl hq) (by rw [HQ0.out]; exact g1)
          rw [HQ0.out] at m1
          have M3 := Lib.hid m3
          clear m3
          by_cases hr : 4294967296 ≤ r + A
          · have hend := D2.out.over M3.out (by omega) hr (by omega) (by rw [HQ0.out]; exact m1)
            rw [HQ0.out] at hend
            have Hend := Lib.hid hend
            clear hend
            go_wp2_with fail
            go_meet
            exact ⟨⟨_, rfl⟩, by rw [Hend.out], rfl⟩
          · go_wp2_with fail
            go_round
            case rel => exact ⟨_, _, rfl, rfl, M3, m1, by omega, by omega, by omega⟩
            case measure => simp [intOf]; omega
        · have hq1 : decide (4294967296 ≤ q) = false := by simp; omega
          have hqc : 0 ≤ q * C := Int.mul_nonneg (by omega) c1
          have hqc2 : q * C ≤ 4294967295 * C := Int.mul_le_mul_of_nonneg_right (by omega) c1
          have w1 : IntKind.u64.wrap (q * C) = q * C := IntWalk.u64_in _ (by omega)
          by_cases ht : r * 4294967296 + E < q * C
          · obtain ⟨m1, m2, m3⟩ := D2.out.more hqr.out (.inr ht) (by rw [HQ0.out]; exact g1)
            rw [HQ0.out] at m1
            have M3 := Lib.hid m3
            have ht2 : decide (4294967296 * r + E < q * C) = true := by simp; omega
            clear m3 hqc hqc2
            by_cases hr : 4294967296 ≤ r + A
            · have hend := D2.out.over M3.out (by omega) hr (by omega) (by rw [HQ0.out]; exact m1)
              rw [HQ0.out] at hend
              have Hend := Lib.hid hend
              clear hend
              go_wp2_with fail
              go_meet
              exact ⟨⟨_, rfl⟩, by rw [Hend.out], rfl⟩
            · go_wp2_with fail
              go_round
              case rel => exact ⟨_, _, rfl, rfl, M3, m1, by omega, by omega, by omega⟩
              case measure => simp [intOf]; omega
          · have hend := D2.out.done hqr.out (by omega) (by rw [HQ0.out]; exact g1)
            rw [HQ0.out] at hend
            have Hend := Lib.hid hend
            have ht2 : decide (4294967296 * r + E < q * C) = false := by simp; omega
            clear hend hqc hqc2
            go_wp2_with fail
            go_meet
            exact ⟨⟨_, rfl⟩, by rw [Hend.out], rfl⟩
    case rest =>
      clear hwm hua2 hra2 hua hra hW0 hW1
      obtain ⟨⟨z, rfl⟩, rfl, rfl⟩ := hcut
      go_wp2_with fail
      go_ret2
      exact ⟨rfl, rfl⟩

end Go.Proofs.Ytcpcmlonbpccnaa.Fr
