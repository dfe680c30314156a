/- Walks over package fraction: sums, comparisons, divisors. -/
import Derived.Test.YtohkmkkcblbemaaFrcW1
namespace Go.Proofs.Ytohkmkkcblbemaa.Fr
set_option linter.unusedVariables false
set_option linter.unusedSimpArgs false
open Go.RowKit

theorem wide_add (P Q : Int) : hiW (P + Q) = hiW P + hiW Q + (loW P + loW Q) / 18446744073709551616 ∧ loW (P + Q) = (loW P + loW Q) % 18446744073709551616 := by
  unfold hiW loW
  constructor <;> omega
theorem lo_bd (P : Int) : 0 ≤ loW P ∧ loW P < 18446744073709551616 := by
  unfold loW
  omega
theorem wide_eq (P Q : Int) : P = Q ↔ hiW P = hiW Q ∧ loW P = loW Q := by
  unfold hiW loW
  constructor
  · rintro rfl; exact ⟨rfl, rfl⟩
  · rintro ⟨h1, h2⟩; omega
theorem wide_lt (P Q : Int) : P < Q ↔ hiW P < hiW Q ∨ (hiW P = hiW Q ∧ loW P < loW Q) := by
  unfold hiW loW
  omega

theorem isTerm_yes (n : Int) (h1 : -4611686018427387904 ≤ n) (h2 : n ≤ 4611686018427387904) (w : World) :
    Calls Try.prog 94 #[.int .i64 n] w fun e w' => e = .returned (.bool true) ∧ w = w' := by
  go_enter Try.func94, Try.ntmps94
  go_wp2_with fail
  go_ret
  exact ⟨rfl, rfl⟩
theorem isTerm_no (n : Int) (h : ¬ (-4611686018427387904 ≤ n ∧ n ≤ 4611686018427387904)) (w : World) :
    Calls Try.prog 94 #[.int .i64 n] w fun e w' => e = .returned (.bool false) ∧ w = w' := by
  by_cases h1 : n < -4611686018427387904
  · have h2 : decide (-4611686018427387904 ≤ n) = false := by simp; omega
    go_enter Try.func94, Try.ntmps94
    go_wp2_with fail
    go_ret
    exact ⟨rfl, rfl⟩
  · have h2 : 4611686018427387904 < n := by omega
    have h3 : decide (-4611686018427387904 ≤ n) = true := by simp; omega
    have h4 : decide (n ≤ 4611686018427387904) = false := by simp; omega
    go_enter Try.func94, Try.ntmps94
    go_wp2_with fail
    go_ret
    exact ⟨rfl, rfl⟩

theorem size_any (n : Int) (h1 : -9223372036854775808 ≤ n) (h2 : n ≤ 9223372036854775807) (w : World) :
    Calls Try.prog 98 #[.int .i64 n] w fun e w' => e = .returned (.int .u64 (n.natAbs : Int)) ∧ w = w' := by
  by_cases h : n < 0
  · have u1 : IntKind.u64.wrap n = n + 18446744073709551616 := by rw [IntKind.wrap_u64]; omega
    have u2 : IntKind.u64.wrap (-(n + 18446744073709551616)) = n.natAbs := by rw [IntKind.wrap_u64]; omega
    go_enter Try.func98, Try.ntmps98
    go_wp2_with fail
    go_ret
    exact ⟨rfl, rfl⟩
  · have h0 : 0 ≤ n := by omega
    have u1 : (n.natAbs : Int) = n := by omega
    rw [u1]
    clear u1
    go_enter Try.func98, Try.ntmps98
    go_wp2_with fail
    go_ret
    exact ⟨rfl, rfl⟩

theorem below_drewN (B : Nat) (w : World) (n : Nat) : Below B w (w.drewN n) := ⟨rfl, rfl, rfl, Nat.le_refl _, fun _ _ => rfl⟩

theorem divisor_any (a b : Int) (ha : -9223372036854775808 ≤ a) (ha2 : a ≤ 9223372036854775807) (hb : -9223372036854775808 ≤ b) (hb2 : b ≤ 9223372036854775807) (w : World) :
    Calls Try.prog 92 #[.int .i64 a, .int .i64 b] w fun e w' => e = .returned (.int .u64 (Nat.gcd a.natAbs b.natAbs : Nat)) ∧ Below w.heap.size w w' := by
  have hA : (a.natAbs : Int) ≤ 9223372036854775808 := by omega
  have hB : (b.natAbs : Int) ≤ 9223372036854775808 := by omega
  go_enter Try.func92, Try.ntmps92
  go_wp2_with (go_at_call 98; refine (size_any _ (by assumption) (by assumption) _).mono ?_; rintro e w' ⟨rfl, rfl⟩)
  go_loopw [5, 6] (fun x y wr => ∃ X Y : Nat, x = .int .u64 (X : Int) ∧ y = .int .u64 (Y : Int) ∧ (X : Int) ≤ 9223372036854775808 ∧ (Y : Int) ≤ 9223372036854775808 ∧ Nat.gcd X Y = Nat.gcd a.natAbs b.natAbs ∧ Below w.heap.size w wr) (fun _ y _ => (intOf y).toNat)
  case atStart => exact ⟨_, _, rfl, rfl, hA, hB, rfl, Below.refl _ _⟩
  case round =>
    obtain ⟨X, Y, rfl, rfl, hX, hY, hg, hbel⟩ := hrel
    have Hg := Lib.hid hg
    clear hg
    by_cases hz : Y = 0
    · subst hz
      go_wp2_with fail
      go_ret
      refine ⟨?_, hbel⟩
      rw [← Hg.out, Nat.gcd_zero_right]
      rfl
    · have h1 : 1 ≤ Y := by omega
      have hm : X % Y < Y := Nat.mod_lt _ (by omega)
      go_wp2_with fail
      go_quiet (fail)
      go_wp2_with fail
      go_roundw
      case rel => exact ⟨Y, X % Y, rfl, rfl, hY, by omega, by rw [← Hg.out, Nat.gcd_comm X Y, Nat.gcd_comm Y, ← Nat.gcd_rec], hbel.trans (below_drewN _ _ _)⟩
      case measure => simp [intOf]; omega

theorem floor_of (n d q r : Int) (hd : 0 < d) (h : n = d * q + r) (h0 : 0 ≤ r) (h1 : r < d) : n / d = q ∧ n % d = r :=
  (Int.ediv_emod_unique hd).2 ⟨by omega, h0, h1⟩
theorem tdiv_small (n d : Int) (hd : 1 ≤ d) (h1 : -9223372036854775808 ≤ n) (h2 : n ≤ 9223372036854775807) : -9223372036854775808 ≤ n.tdiv d ∧ n.tdiv d ≤ 9223372036854775807 := by
  have h := Int.natAbs_tdiv_le_natAbs n d
  by_cases hn : 0 ≤ n
  · have := Int.tdiv_nonneg hn (show 0 ≤ d by omega)
    omega
  · have h3 := Int.tdiv_nonneg (show 0 ≤ -n by omega) (show 0 ≤ d by omega)
    rw [Int.neg_tdiv] at h3
    omega

/-- two numbers by their greatest common divisor -/
theorem reduced_any (a b : Int) (g : Int) (ha : -9223372036854775808 ≤ a) (ha2 : a ≤ 9223372036854775807) (hb : -9223372036854775808 ≤ b) (hb2 : b ≤ 9223372036854775807)
    (hg : IntKind.i64.wrap ((Nat.gcd a.natAbs b.natAbs : Nat) : Int) = g) (hg0 : g ≠ 0) (x y : Int) (hx : IntKind.i64.wrap (a.tdiv g) = x) (hy : IntKind.i64.wrap (b.tdiv g) = y) (w : World) :
    Calls Try.prog 79 #[.int .i64 a, .int .i64 b] w fun e w' => e = .returned (.tuple #[.int .i64 x, .int .i64 y]) ∧ Below w.heap.size w w' := by
  generalize hgg : ((Nat.gcd a.natAbs b.natAbs : Nat) : Int) = gg at hg
  have Hgg := Lib.hid hgg
  clear hgg
  have hg1 : (g == 0) = false := by simpa using hg0
  go_enter Try.func79, Try.ntmps79
  go_wp2_with (go_at_call 92; refine (divisor_any _ _ ha ha2 hb hb2 _).mono ?_; rintro e w1 ⟨rfl, hb1⟩; rw [Hgg.out])
  go_quiet (fail)
  go_wp2_with fail
  go_ret2
  exact ⟨rfl, hb1.trans (below_drewN _ _ _)⟩

end Go.Proofs.Ytohkmkkcblbemaa.Fr
