/- Layer 7's reference: Lowest. -/
import Derived.Test.YtbkeennjoepmmaaGeoR1
namespace Go.Proofs.Ytbkeennjoepmmaa.Ge
set_option linter.unusedVariables false
set_option linter.unusedSimpArgs false
open Go.RowKit
open Go.Proofs.Ytbkeennjoepmmaa.Fr (Two)

set_option maxRecDepth 100000 in
set_option maxHeartbeats 4000000 in
theorem r_lowest_any (a b : Int) (ha : 0 ≤ a) (hb : 1 ≤ b) (ha2 : a ≤ 4611686018427387904) (hb2 : b ≤ 4611686018427387904) (w : World) :
    Calls Try.prog 33 #[.int .i64 a, .int .i64 b] w fun e w' => e = .returned (.agg #[.int .i64 (qN a b), .int .i64 (qD a b)]) ∧ Below w.heap.size w w' := by
  obtain ⟨A, rfl⟩ := Int.eq_ofNat_of_zero_le ha
  obtain ⟨B, rfl⟩ := Int.eq_ofNat_of_zero_le (show 0 ≤ b by omega)
  have HB := Lib.hid hb
  have hq := q_bd ha hb
  have hg := gI_pos (a := (A : Int)) hb
  have eN : (A : Int) / gI (A : Int) (B : Int) = qN (A : Int) (B : Int) := rfl
  have eD : (B : Int) / gI (A : Int) (B : Int) = qD (A : Int) (B : Int) := rfl
  have eG : gI (A : Int) (B : Int) = ((Nat.gcd A B : Nat) : Int) := rfl
  rw [eG] at eN eD hg
  have HQ := Lib.hid (And.intro hq (And.intro hg (And.intro eN eD)))
  clear hq hg eN eD eG hb
  generalize qN (A : Int) (B : Int) = N at *
  generalize qD (A : Int) (B : Int) = D at *
  have o1 := Two.new w 26 (.int .i64 0) (.int .i64 0)
  have hb0 := (Below.refl w.heap.size w).alloc (Nat.le_refl _) (.cells #[.int .i64 0, .int .i64 0] 26)
  go_enter Try.func33, Try.ntmps33
  go_wp2_with fail
  generalize w.alloc (.cells #[.int .i64 0, .int .i64 0] 26) = W at *
  go_loopw [5, 6, 7] (fun x y z wr => ∃ X Y : Nat, x = .int .i64 (X : Int) ∧ y = .int .i64 (Y : Int) ∧ (X : Int) ≤ 4611686018427387904 ∧ (Y : Int) ≤ 4611686018427387904 ∧ Nat.gcd X Y = Nat.gcd A B ∧ Two wr w.heap.size 26 (.int .i64 0) (.int .i64 0) ∧ Below w.heap.size w wr) (fun _ y _ _ => (intOf y).toNat)
  case atStart => exact ⟨_, _, rfl, rfl, ha2, hb2, rfl, o1, hb0⟩
  case round =>
    obtain ⟨X, Y, rfl, rfl, hX, hY, hg, o2, hb1⟩ := hrel
    have Hg := Lib.hid hg
    clear hg
    by_cases hz : Y = 0
    · subst hz
      have e := Hg.out
      rw [Nat.gcd_zero_right] at e
      subst e
      obtain ⟨hq, hg, eN, eD⟩ := HQ.out
      have hg0 : (((Nat.gcd A B : Nat) : Int) == 0) = false := by simp only [beq_eq_false_iff_ne, ne_eq]; omega
      have hg1 : ¬ ((Nat.gcd A B : Nat) : Int) = 0 := by omega
      have tN : (A : Int).tdiv ((Nat.gcd A B : Nat) : Int) = N := by rw [Int.tdiv_eq_ediv_of_nonneg (by omega)]; exact eN
      have tD : (B : Int).tdiv ((Nat.gcd A B : Nat) : Int) = D := by rw [Int.tdiv_eq_ediv_of_nonneg (by omega)]; exact eD
      have wN : IntKind.i64.wrap N = N := by rw [IntKind.wrap_i64]; omega
      have wD : IntKind.i64.wrap D = D := by rw [IntKind.wrap_i64]; omega
      clear HQ Hg HB o1 hb0
      generalize ((Nat.gcd A B : Nat) : Int) = G at *
      obtain ⟨c1, c2, c3, c4⟩ := o2.facts
      go_upto_region 7 with fail
      go_region_with (fail)
      all_goals
        go_wp2_with fail
        have o3 := (two_set2 o2 (.int .i64 N) (.int .i64 D)).drew
        obtain ⟨d1, d2, -, -⟩ := o3.facts
        refine bodyPost_ret (v := .agg #[.int .i64 N, .int .i64 D]) ?_ rfl ⟨rfl, ?_⟩
        · simp [results, Try.results33, go_sem, d1, d2]
        · exact (set2_below hb1 (Nat.le_refl _) _ _).drew
    · have h1 : 1 ≤ Y := by omega
      have hm : X % Y < Y := Nat.mod_lt _ (by omega)
      go_wp2_with fail
      go_roundw
      case rel => exact ⟨Y, X % Y, rfl, rfl, hY, by omega, by rw [← Hg.out, Nat.gcd_comm X Y, Nat.gcd_comm Y, ← Nat.gcd_rec], o2, hb1⟩
      case measure => simp [intOf]; omega
end Go.Proofs.Ytbkeennjoepmmaa.Ge
