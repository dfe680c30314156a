/- Walks over layer 5's reference: Floor. -/
import Derived.Test.YtflnhjfmlminoaaDoorFrcR12
import Derived.Test.YtflnhjfmlminoaaDoorFrcR13
namespace Go.Proofs.YtflnhjfmlminoaaDoor.Fr
set_option linter.unusedVariables false
set_option linter.unusedSimpArgs false
open Go.RowKit

theorem rfloor_of (n d : Int) (hd : 1 ≤ d) : n / d = if n < n.tdiv d * d then n.tdiv d - 1 else n.tdiv d := by
  have h1 := Int.mul_tdiv_add_tmod n d
  have h2 := Int.mul_ediv_add_emod n d
  have h3 := Int.emod_nonneg n (show d ≠ 0 by omega)
  have h4 := Int.emod_lt_of_pos n (show 0 < d by omega)
  have e : d * n.tdiv d = n.tdiv d * d := Int.mul_comm _ _
  by_cases hn : 0 ≤ n
  · have h5 := Int.tdiv_eq_ediv_of_nonneg (b := d) hn
    rw [h5, if_neg]
    rw [h5] at e
    rw [← e]
    omega
  · have h6 : n.tmod d ≤ 0 := by
      have := Int.tmod_nonneg (a := -n) d (by omega)
      rw [Int.neg_tmod] at this
      omega
    have h7 : -d < n.tmod d := by
      have := Int.tmod_lt_of_pos (-n) (show 0 < d by omega)
      rw [Int.neg_tmod] at this
      omega
    by_cases h8 : n.tmod d = 0
    · rw [if_neg (by omega)]
      refine Int.ediv_eq_of_eq_mul_left (by omega) ?_
      omega
    · rw [if_pos (by omega)]
      have e2 : n = (n.tdiv d - 1) * d + (n.tmod d + d) := by
        rw [Int.sub_mul]
        omega
      have e3 : n / d = ((n.tmod d + d) + (n.tdiv d - 1) * d) / d := by
        congr 1
        omega
      rw [e3, Int.add_mul_ediv_right _ _ (show d ≠ 0 by omega), Int.ediv_eq_zero_of_lt (by omega) (by omega)]
      omega

set_option maxRecDepth 100000 in
set_option maxHeartbeats 4000000 in
theorem rfloor_any (n d : Int) (w : World) (hn1 : -9223372036854775808 ≤ n) (hn2 : n ≤ 9223372036854775807) :
    Calls Tryd.prog 21 #[.agg #[.int .i64 n, .int .i64 d]] w fun e w' => e = .returned (.tuple #[.int .i64 (flV n d), .int .i64 (flE n d)]) ∧ Below w.heap.size w w' := by
  unfold flV flE
  have t1 := Two.new w 23 (.int .i64 n) (.int .i64 d)
  have B0 : Below w.heap.size w (w.alloc (.cells #[.int .i64 n, .int .i64 d] 23)) := (Below.refl _ _).alloc (Nat.le_refl _) _
  have HV := Lib.hid (fun w => rvalid_any n d w)
  by_cases h : valP n d
  · rw [if_pos h, if_pos h, rfloor_of n d h.2.2.1]
    rw [valB_iff.2 h] at HV
    obtain ⟨h1, h2, h3, h4, h5⟩ := h
    have q1 := Int.natAbs_tdiv_le_natAbs n d
    have q2 : (n.tdiv d * d).natAbs ≤ n.natAbs := by
      rw [Int.natAbs_mul, Int.natAbs_tdiv]
      exact Nat.div_mul_le_self _ _
    have k1 : (d == 0) = false := by simp; omega
    have k2 : ¬ d = 0 := by omega
    have k2b : decide (d = 0) = false := decide_eq_false k2
    have k3 : IntKind.i64.wrap (n.tdiv d) = n.tdiv d := IntWalk.i64_in _ (by omega)
    have k4 : IntKind.i64.wrap (n.tdiv d * d) = n.tdiv d * d := IntWalk.i64_in _ (by omega)
    have k4' : wrap64 (n.tdiv d * d) = n.tdiv d * d := IntWalk.wrap64_in _ (by omega)
    have k5 : IntKind.i64.wrap (n.tdiv d - 1) = n.tdiv d - 1 := IntWalk.i64_in _ (by omega)
    have k5' : wrap64 (n.tdiv d - 1) = n.tdiv d - 1 := IntWalk.wrap64_in _ (by omega)
    clear q1 q2 h5
    by_cases hz : n < n.tdiv d * d
    · rw [if_pos hz]
      have k6 : decide (n < n.tdiv d * d) = true := decide_eq_true hz
      have k7 : decide (n < wrap64 (n.tdiv d * d)) = true := by rw [k4']; exact k6
      clear hz h1 h2 h3 h4
      go_enter Tryd.func21, Tryd.ntmps21
      go_wp2_with fail
      refine (HV.out _).mono ?_
      rintro e w1 ⟨rfl, hb1⟩
      obtain ⟨c1, c2, c3, c4⟩ := (t1.below hb1 t1.lt).facts
      have hb2 := B0.trans (hb1.mono B0.size)
      go_wp2_with fail
      go_ret2
      exact ⟨rfl, hb2⟩
    · rw [if_neg hz]
      have k6 : decide (n < n.tdiv d * d) = false := decide_eq_false hz
      have k7 : decide (n < wrap64 (n.tdiv d * d)) = false := by rw [k4']; exact k6
      clear hz h1 h2 h3 h4
      go_enter Tryd.func21, Tryd.ntmps21
      go_wp2_with fail
      refine (HV.out _).mono ?_
      rintro e w1 ⟨rfl, hb1⟩
      obtain ⟨c1, c2, c3, c4⟩ := (t1.below hb1 t1.lt).facts
      have hb2 := B0.trans (hb1.mono B0.size)
      go_wp2_with fail
      go_ret2
      exact ⟨rfl, hb2⟩
  · rw [if_neg h, if_neg h]
    rw [valB_false h] at HV
    clear h
    go_enter Tryd.func21, Tryd.ntmps21
    go_wp2_with fail
    refine (HV.out _).mono ?_
    rintro e w1 ⟨rfl, hb1⟩
    go_wp2_with fail
    go_ret2
    exact ⟨rfl, B0.trans (hb1.mono B0.size)⟩
end Go.Proofs.YtflnhjfmlminoaaDoor.Fr
