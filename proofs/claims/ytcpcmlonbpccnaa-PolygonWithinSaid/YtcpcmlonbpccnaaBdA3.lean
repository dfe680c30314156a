/- Walks over package fraction: numbers of 128 bits. -/
import Derived.Test.YtcpcmlonbpccnaaBdA2
import Derived.Test.YtcpcmlonbpccnaaProg
import Derived.Test.YtcpcmlonbpccnaaShelf
import Derived.WalkKit
import Derived.IntWalk
import Derived.LoopTactic
import Derived.BigQuiet
import Derived.Outline
import Derived.Laws.Externs
import Derived.Lib.Hide
namespace Go.Proofs.Ytcpcmlonbpccnaa.Fr
set_option linter.unusedVariables false
set_option linter.unusedSimpArgs false
open Go.RowKit

/-- a number of 128 bits, as two -/
def hiW (P : Int) : Int := P / 18446744073709551616
def loW (P : Int) : Int := P % 18446744073709551616

theorem add64_run (x y : Int) (hx : 0 ≤ x) (hy : 0 ≤ y) (w : World) :
    (callFunc 108 #[.int .u64 x, .int .u64 y, .int .u64 0]).run Try.prog w =
      .ok (.value (.tuple #[.int .u64 ((x + y) % 18446744073709551616), .int .u64 ((x + y) / 18446744073709551616)])) w := by
  rw [run_callFunc_extern Try.func108 (by kernel_rfl) (by kernel_rfl) (by kernel_rfl) (e := add64Entry) (by kernel_rfl), run_add64 x y 0 hx hy (by omega) (by omega)]
  simp only [Result.andThen, Int.add_zero]

theorem mul64_any (x y : Int) (hx : 0 ≤ x) (hx2 : x < 18446744073709551616) (hy : 0 ≤ y) (hy2 : y < 18446744073709551616) (w : World) :
    Calls Try.prog 106 #[.int .u64 x, .int .u64 y] w fun e w' => e = .returned (.tuple #[.int .u64 (hiW (x * y)), .int .u64 (loW (x * y))]) ∧ w = w' := by
  obtain ⟨X, rfl⟩ := Int.eq_ofNat_of_zero_le hx
  obtain ⟨Y, rfl⟩ := Int.eq_ofNat_of_zero_le hy
  refine (Try.bits_Mul64 X Y (by omega) (by omega) w).mono ?_
  rintro e w' ⟨rfl, rfl⟩
  refine ⟨?_, rfl⟩
  unfold hiW loW
  simp

theorem prod_hi (a b ua ub : Int) (s t : Int) (hs : ua = a + 18446744073709551616 * s) (ht : ub = b + 18446744073709551616 * t) :
    hiW (ua * ub) = hiW (a * b) + (s * b + t * a + 18446744073709551616 * (s * t)) ∧ loW (ua * ub) = loW (a * b) := by
  have e : ua * ub = a * b + (s * b + t * a + 18446744073709551616 * (s * t)) * 18446744073709551616 := by
    subst hs ht
    simp only [Int.add_mul, Int.mul_add, Int.mul_comm, Int.mul_assoc, Int.mul_left_comm]
    omega
  unfold hiW loW
  rw [e, Int.add_mul_ediv_right _ _ (by omega), Int.add_mul_emod_self_right]
  exact ⟨rfl, rfl⟩
theorem hi_bd (a b : Int) (ha : -9223372036854775808 ≤ a) (ha2 : a ≤ 9223372036854775807) (hb : -9223372036854775808 ≤ b) (hb2 : b ≤ 9223372036854775807) :
    -4611686018427387904 ≤ hiW (a * b) ∧ hiW (a * b) ≤ 4611686018427387904 := by
  have h1 : (a * b).natAbs ≤ 9223372036854775808 * 9223372036854775808 := by
    rw [Int.natAbs_mul]
    exact Nat.mul_le_mul (by omega) (by omega)
  unfold hiW
  omega

theorem product_any (a b : Int) (ha : -9223372036854775808 ≤ a) (ha2 : a ≤ 9223372036854775807) (hb : -9223372036854775808 ≤ b) (hb2 : b ≤ 9223372036854775807) (w : World) :
    Calls Try.prog 69 #[.int .i64 a, .int .i64 b] w fun e w' => e = .returned (.agg #[.int .i64 (hiW (a * b)), .int .u64 (loW (a * b))]) ∧ Below w.heap.size w w' := by
  have hbd := hi_bd a b ha ha2 hb hb2
  by_cases h1 : a < 0
  · by_cases h2 : b < 0
    · obtain ⟨e1, e2⟩ := prod_hi a b (a + 18446744073709551616) (b + 18446744073709551616) 1 1 (by omega) (by omega)
      have u1 : IntKind.u64.wrap a = a + 18446744073709551616 := by rw [IntKind.wrap_u64]; omega
      have u2 : IntKind.u64.wrap b = b + 18446744073709551616 := by rw [IntKind.wrap_u64]; omega
      go_enter Try.func69, Try.ntmps69
      go_wp2_with (go_at_call 106; refine (mul64_any _ _ (by omega) (by omega) (by omega) (by omega) _).mono ?_; rintro e w' ⟨rfl, rfl⟩)
      refine bodyPost_ret (v := .agg #[.int .i64 (hiW (a * b)), .int .u64 (loW (a * b))]) ?_ rfl ⟨rfl, ?_⟩
      · simp [results, Try.results69, go_sem]
        clear e1 e2 u1 u2
        generalize hiW (a * b) = H at *
        unfold wrap64
        omega
      · exact ((Below.refl _ _).alloc (Nat.le_refl _) _).alloc (by simp) _
    · obtain ⟨e1, e2⟩ := prod_hi a b (a + 18446744073709551616) (b) 1 0 (by omega) (by omega)
      have u1 : IntKind.u64.wrap a = a + 18446744073709551616 := by rw [IntKind.wrap_u64]; omega
      have u2 : IntKind.u64.wrap b = b := by rw [IntKind.wrap_u64]; omega
      go_enter Try.func69, Try.ntmps69
      go_wp2_with (go_at_call 106; refine (mul64_any _ _ (by omega) (by omega) (by omega) (by omega) _).mono ?_; rintro e w' ⟨rfl, rfl⟩)
      refine bodyPost_ret (v := .agg #[.int .i64 (hiW (a * b)), .int .u64 (loW (a * b))]) ?_ rfl ⟨rfl, ?_⟩
      · simp [results, Try.results69, go_sem]
        clear e1 e2 u1 u2
        generalize hiW (a * b) = H at *
        unfold wrap64
        omega
      · exact ((Below.refl _ _).alloc (Nat.le_refl _) _).alloc (by simp) _
  · by_cases h2 : b < 0
    · obtain ⟨e1, e2⟩ := prod_hi a b (a) (b + 18446744073709551616) 0 1 (by omega) (by omega)
      have u1 : IntKind.u64.wrap a = a := by rw [IntKind.wrap_u64]; omega
      have u2 : IntKind.u64.wrap b = b + 18446744073709551616 := by rw [IntKind.wrap_u64]; omega
      go_enter Try.func69, Try.ntmps69
      go_wp2_with (go_at_call 106; refine (mul64_any _ _ (by omega) (by omega) (by omega) (by omega) _).mono ?_; rintro e w' ⟨rfl, rfl⟩)
      refine bodyPost_ret (v := .agg #[.int .i64 (hiW (a * b)), .int .u64 (loW (a * b))]) ?_ rfl ⟨rfl, ?_⟩
      · simp [results, Try.results69, go_sem]
        clear e1 e2 u1 u2
        generalize hiW (a * b) = H at *
        unfold wrap64
        omega
      · exact ((Below.refl _ _).alloc (Nat.le_refl _) _).alloc (by simp) _
    · have u1 : IntKind.u64.wrap a = a := by rw [IntKind.wrap_u64]; omega
      have u2 : IntKind.u64.wrap b = b := by rw [IntKind.wrap_u64]; omega
      go_enter Try.func69, Try.ntmps69
      go_wp2_with (go_at_call 106; refine (mul64_any _ _ (by omega) (by omega) (by omega) (by omega) _).mono ?_; rintro e w' ⟨rfl, rfl⟩)
      refine bodyPost_ret (v := .agg #[.int .i64 (hiW (a * b)), .int .u64 (loW (a * b))]) ?_ rfl ⟨rfl, ?_⟩
      · simp [results, Try.results69, go_sem]
      · exact ((Below.refl _ _).alloc (Nat.le_refl _) _).alloc (by simp) _
end Go.Proofs.Ytcpcmlonbpccnaa.Fr

/- Walks over package fraction: sums, comparisons, divisors. -/
namespace Go.Proofs.Ytcpcmlonbpccnaa.Fr
set_option linter.unusedVariables false
set_option linter.unusedSimpArgs false
open Go.RowKit

theorem wide_add (P Q : Int) : hiW (P + Q) = hiW P + hiW Q + (loW P + loW Q) / 18446744073709551616 ∧ loW (P + Q) = (loW P + loW Q) % 18446744073709551616 := by
  unfold hiW loW
  constructor <;> omega
theorem lo_bd (P : Int) : 0 ≤ loW P ∧ loW P < 18446744073709551616 := by
  unfold loW
  omega
theorem wide_eq (P Q : Int) : P = Q ↔ hiW P = hiW Q ∧ loW P = loW Q := by
  unfold hiW loW
  constructor
  · rintro rfl; exact ⟨rfl, rfl⟩
  · rintro ⟨h1, h2⟩; omega
theorem wide_lt (P Q : Int) : P < Q ↔ hiW P < hiW Q ∨ (hiW P = hiW Q ∧ loW P < loW Q) := by
  unfold hiW loW
  omega

theorem plus_any (P Q : Int) (hp : -4611686018427387904 ≤ hiW P ∧ hiW P ≤ 4611686018427387903) (hq : -4611686018427387904 ≤ hiW Q ∧ hiW Q ≤ 4611686018427387903) (w : World) :
    Calls Try.prog 73 #[.agg #[.int .i64 (hiW P), .int .u64 (loW P)], .agg #[.int .i64 (hiW Q), .int .u64 (loW Q)]] w fun e w' => e = .returned (.agg #[.int .i64 (hiW (P + Q)), .int .u64 (loW (P + Q))]) ∧ Below w.heap.size w w' := by
  obtain ⟨e1, e2⟩ := wide_add P Q
  rw [e1, e2]
  have b1 := lo_bd P
  have b2 := lo_bd Q
  clear e1 e2
  obtain ⟨p1, p2⟩ := hp
  obtain ⟨q1, q2⟩ := hq
  obtain ⟨b11, b12⟩ := b1
  obtain ⟨b21, b22⟩ := b2
  generalize hiW P = p at *
  generalize hiW Q = q at *
  generalize loW P = x at *
  generalize loW Q = y at *
  have hrun := fun w => add64_run x y b11 b21 w
  go_enter Try.func73, Try.ntmps73
  go_wp2_with (simp only [hrun])
  refine bodyPost_ret (v := .agg #[.int .i64 (p + q + (x + y) / 18446744073709551616), .int .u64 ((x + y) % 18446744073709551616)]) ?_ rfl ⟨rfl, ?_⟩
  · simp [results, Try.results73, go_sem]
  · exact (((Below.refl _ _).alloc (Nat.le_refl _) _).alloc (by simp) _).alloc (by simp; omega) _

theorem less_yes (P Q : Int) (h : P < Q) (w : World) :
    Calls Try.prog 70 #[.agg #[.int .i64 (hiW P), .int .u64 (loW P)], .agg #[.int .i64 (hiW Q), .int .u64 (loW Q)]] w fun e w' => e = .returned (.bool true) ∧ Below w.heap.size w w' := by
  have h := (wide_lt P Q).1 h
  generalize hiW P = p at *
  generalize hiW Q = q at *
  generalize loW P = x at *
  generalize loW Q = y at *
  rcases h with h | ⟨h1, h2⟩
  · go_enter Try.func70, Try.ntmps70
    go_wp2_with fail
    go_ret
    exact ⟨rfl, ((Below.refl _ _).alloc (Nat.le_refl _) _).alloc (by simp) _⟩
  · subst h1
    have h0 : decide (p < p) = false := by simp
    go_enter Try.func70, Try.ntmps70
    go_wp2_with fail
    go_ret
    exact ⟨rfl, ((Below.refl _ _).alloc (Nat.le_refl _) _).alloc (by simp) _⟩
theorem less_no (P Q : Int) (h : Q ≤ P) (w : World) :
    Calls Try.prog 70 #[.agg #[.int .i64 (hiW P), .int .u64 (loW P)], .agg #[.int .i64 (hiW Q), .int .u64 (loW Q)]] w fun e w' => e = .returned (.bool false) ∧ Below w.heap.size w w' := by
  have h : ¬ (hiW P < hiW Q ∨ (hiW P = hiW Q ∧ loW P < loW Q)) := fun k => by have := (wide_lt P Q).2 k; omega
  generalize hiW P = p at *
  generalize hiW Q = q at *
  generalize loW P = x at *
  generalize loW Q = y at *
  by_cases h1 : p = q
  · subst h1
    have h2 : decide (x < y) = false := by simp; omega
    have h0 : decide (p < p) = false := by simp
    clear h
    go_enter Try.func70, Try.ntmps70
    go_wp2_with fail
    go_ret
    exact ⟨rfl, ((Below.refl _ _).alloc (Nat.le_refl _) _).alloc (by simp) _⟩
  · have h2 : q ≤ p := by omega
    have h0 : decide (p < q) = false := by simp; omega
    have h3 : (p == q) = false := by simpa using h1
    clear h
    go_enter Try.func70, Try.ntmps70
    go_wp2_with fail
    go_ret
    exact ⟨rfl, ((Below.refl _ _).alloc (Nat.le_refl _) _).alloc (by simp) _⟩

theorem isTerm_yes (n : Int) (h1 : -4611686018427387904 ≤ n) (h2 : n ≤ 4611686018427387904) (w : World) :
    Calls Try.prog 105 #[.int .i64 n] w fun e w' => e = .returned (.bool true) ∧ w = w' := by
  go_enter Try.func105, Try.ntmps105
  go_wp2_with fail
  go_ret
  exact ⟨rfl, rfl⟩
theorem isTerm_no (n : Int) (h : ¬ (-4611686018427387904 ≤ n ∧ n ≤ 4611686018427387904)) (w : World) :
    Calls Try.prog 105 #[.int .i64 n] w fun e w' => e = .returned (.bool false) ∧ w = w' := by
  by_cases h1 : n < -4611686018427387904
  · have h2 : decide (-4611686018427387904 ≤ n) = false := by simp; omega
    go_enter Try.func105, Try.ntmps105
    go_wp2_with fail
    go_ret
    exact ⟨rfl, rfl⟩
  · have h2 : 4611686018427387904 < n := by omega
    have h3 : decide (-4611686018427387904 ≤ n) = true := by simp; omega
    have h4 : decide (n ≤ 4611686018427387904) = false := by simp; omega
    go_enter Try.func105, Try.ntmps105
    go_wp2_with fail
    go_ret
    exact ⟨rfl, rfl⟩

theorem size_any (n : Int) (h1 : -9223372036854775808 ≤ n) (h2 : n ≤ 9223372036854775807) (w : World) :
    Calls Try.prog 107 #[.int .i64 n] w fun e w' => e = .returned (.int .u64 (n.natAbs : Int)) ∧ w = w' := by
  by_cases h : n < 0
  · have u1 : IntKind.u64.wrap n = n + 18446744073709551616 := by rw [IntKind.wrap_u64]; omega
    have u2 : IntKind.u64.wrap (-(n + 18446744073709551616)) = n.natAbs := by rw [IntKind.wrap_u64]; omega
    go_enter Try.func107, Try.ntmps107
    go_wp2_with fail
    go_ret
    exact ⟨rfl, rfl⟩
  · have h0 : 0 ≤ n := by omega
    have u1 : (n.natAbs : Int) = n := by omega
    rw [u1]
    clear u1
    go_enter Try.func107, Try.ntmps107
    go_wp2_with fail
    go_ret
    exact ⟨rfl, rfl⟩

theorem below_drewN (B : Nat) (w : World) (n : Nat) : Below B w (w.drewN n) := ⟨rfl, rfl, rfl, Nat.le_refl _, fun _ _ => rfl⟩

theorem divisor_any (a b : Int) (ha : -9223372036854775808 ≤ a) (ha2 : a ≤ 9223372036854775807) (hb : -9223372036854775808 ≤ b) (hb2 : b ≤ 9223372036854775807) (w : World) :
    Calls Try.prog 72 #[.int .i64 a, .int .i64 b] w fun e w' => e = .returned (.int .u64 (Nat.gcd a.natAbs b.natAbs : Nat)) ∧ Below w.heap.size w w' := by
  have hA : (a.natAbs : Int) ≤ 9223372036854775808 := by omega
  have hB : (b.natAbs : Int) ≤ 9223372036854775808 := by omega
  go_enter Try.func72, Try.ntmps72
  go_wp2_with (go_at_call 107; refine (size_any _ (by assumption) (by assumption) _).mono ?_; rintro e w' ⟨rfl, rfl⟩)
  go_loopw [5, 6] (fun x y wr => ∃ X Y : Nat, x = .int .u64 (X : Int) ∧ y = .int .u64 (Y : Int) ∧ (X : Int) ≤ 9223372036854775808 ∧ (Y : Int) ≤ 9223372036854775808 ∧ Nat.gcd X Y = Nat.gcd a.natAbs b.natAbs ∧ Below w.heap.size w wr) (fun _ y _ => (intOf y).toNat)
  case atStart => exact ⟨_, _, rfl, rfl, hA, hB, rfl, Below.refl _ _⟩
  case round =>
    obtain ⟨X, Y, rfl, rfl, hX, hY, hg, hbel⟩ := hrel
    have Hg := Lib.hid hg
    clear hg
    by_cases hz : Y = 0
    · subst hz
      go_wp2_with fail
      go_ret
      refine ⟨?_, hbel⟩
      rw [← Hg.out, Nat.gcd_zero_right]
      rfl
    · have h1 : 1 ≤ Y := by omega
      have hm : X % Y < Y := Nat.mod_lt _ (by omega)
      go_wp2_with fail
      go_quiet (fail)
      go_wp2_with fail
      go_roundw
      case rel => exact ⟨Y, X % Y, rfl, rfl, hY, by omega, by rw [← Hg.out, Nat.gcd_comm X Y, Nat.gcd_comm Y, ← Nat.gcd_rec], hbel.trans (below_drewN _ _ _)⟩
      case measure => simp [intOf]; omega

theorem floor_of (n d q r : Int) (hd : 0 < d) (h : n = d * q + r) (h0 : 0 ≤ r) (h1 : r < d) : n / d = q ∧ n % d = r :=
  (Int.ediv_emod_unique hd).2 ⟨by omega, h0, h1⟩
theorem tdiv_small (n d : Int) (hd : 1 ≤ d) (h1 : -9223372036854775808 ≤ n) (h2 : n ≤ 9223372036854775807) : -9223372036854775808 ≤ n.tdiv d ∧ n.tdiv d ≤ 9223372036854775807 := by
  have h := Int.natAbs_tdiv_le_natAbs n d
  by_cases hn : 0 ≤ n
  · have := Int.tdiv_nonneg hn (show 0 ≤ d by omega)
    omega
  · have h3 := Int.tdiv_nonneg (show 0 ≤ -n by omega) (show 0 ≤ d by omega)
    rw [Int.neg_tdiv] at h3
    omega

theorem divide_any (n d : Int) (h1 : -9223372036854775808 ≤ n) (h2 : n ≤ 9223372036854775807) (hd : 1 ≤ d) (hd2 : d ≤ 4611686018427387904) (w : World) :
    Calls Try.prog 109 #[.int .i64 n, .int .i64 d] w fun e w' => e = .returned (.tuple #[.int .i64 (n / d), .int .i64 (n % d)]) ∧ Below w.heap.size w w' := by
  have hb := tdiv_small n d hd h1 h2
  have hn : n = d * n.tdiv d + n.tmod d := (Int.mul_tdiv_add_tmod n d).symm
  have hl := Int.tmod_lt_of_pos n (b := d) (by omega)
  have hg := Int.lt_tmod_of_pos n (b := d) (by omega)
  have hw : IntKind.i64.wrap (n.tdiv d) = n.tdiv d := IntWalk.i64_in _ hb
  have hlow : -9223372036854775808 < n.tdiv d ∨ 0 ≤ n.tmod d := by
    by_cases hq : n.tdiv d = -9223372036854775808
    · right
      rw [hq] at hn
      omega
    · left; omega
  by_cases hr : n.tmod d < 0
  · obtain ⟨e1, e2⟩ := floor_of n d (n.tdiv d - 1) (n.tmod d + d) (by omega) (by rw [Int.mul_sub]; omega) (by omega) (by omega)
    rw [e1, e2]
    clear e1 e2
    have hn' := Lib.hid hn
    clear hn
    have hlow2 : -9223372036854775807 ≤ n.tdiv d := by omega
    clear hlow
    go_enter Try.func109, Try.ntmps109
    go_wp2_with fail
    go_quiet (fail)
    go_wp2_with fail
    go_ret2
    exact ⟨rfl, below_drewN _ _ _⟩
  · obtain ⟨e1, e2⟩ := floor_of n d (n.tdiv d) (n.tmod d) (by omega) hn (by omega) (by omega)
    rw [e1, e2]
    clear e1 e2 hn hlow
    go_enter Try.func109, Try.ntmps109
    go_wp2_with fail
    go_quiet (fail)
    go_wp2_with fail
    go_ret2
    exact ⟨rfl, below_drewN _ _ _⟩

/-- two numbers by their greatest common divisor -/
theorem reduced_any (a b : Int) (g : Int) (ha : -9223372036854775808 ≤ a) (ha2 : a ≤ 9223372036854775807) (hb : -9223372036854775808 ≤ b) (hb2 : b ≤ 9223372036854775807)
    (hg : IntKind.i64.wrap ((Nat.gcd a.natAbs b.natAbs : Nat) : Int) = g) (hg0 : g ≠ 0) (x y : Int) (hx : IntKind.i64.wrap (a.tdiv g) = x) (hy : IntKind.i64.wrap (b.tdiv g) = y) (w : World) :
    Calls Try.prog 123 #[.int .i64 a, .int .i64 b] w fun e w' => e = .returned (.tuple #[.int .i64 x, .int .i64 y]) ∧ Below w.heap.size w w' := by
  generalize hgg : ((Nat.gcd a.natAbs b.natAbs : Nat) : Int) = gg at hg
  have Hgg := Lib.hid hgg
  clear hgg
  have hg1 : (g == 0) = false := by simpa using hg0
  go_enter Try.func123, Try.ntmps123
  go_wp2_with (go_at_call 72; refine (divisor_any _ _ ha ha2 hb hb2 _).mono ?_; rintro e w1 ⟨rfl, hb1⟩; rw [Hgg.out])
  go_quiet (fail)
  go_wp2_with fail
  go_ret2
  exact ⟨rfl, hb1.trans (below_drewN _ _ _)⟩

end Go.Proofs.Ytcpcmlonbpccnaa.Fr
