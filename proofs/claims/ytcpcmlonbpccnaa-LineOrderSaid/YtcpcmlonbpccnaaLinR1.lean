/- Walks over the reference of layer 9: Formed, Before. -/
import Derived.Test.YtcpcmlonbpccnaaBdA18
import Derived.Test.YtcpcmlonbpccnaaBdA22
namespace Go.Proofs.Ytcpcmlonbpccnaa.Ge
set_option linter.unusedVariables false
set_option linter.unusedSimpArgs false
open Go.RowKit Go.Shelf
open Go.Proofs.Ytcpcmlonbpccnaa.Fr

set_option maxRecDepth 100000 in
set_option maxHeartbeats 2000000 in
theorem rformed_lo (s : Sp) (h1 : s.1 < 0) (w : World) :
    Calls Try.prog 32 #[spV s] w fun e w' => e = .returned (.bool false) ∧ Below w.heap.size w w' := by
  have gs := SpAt.new w s
  obtain ⟨⟨a0, a1, a2, a3, a4, a5⟩, -⟩ := gs.facts
  have hb0 : Below w.heap.size w (w.alloc (.cells #[.int .i64 s.1, .int .i64 s.2.1.1, .int .i64 s.2.1.2, .int .i64 s.2.2.1, .int .i64 s.2.2.2.1, .int .i64 s.2.2.2.2] 28)) := (Below.refl _ w).alloc (Nat.le_refl _) _
  have k : decide (0 ≤ s.1) = false := by simp; omega
  unfold spV
  go_enter Try.func32, Try.ntmps32
  go_wp2
  go_ret
  exact ⟨rfl, hb0⟩

set_option maxRecDepth 100000 in
set_option maxHeartbeats 2000000 in
theorem rformed_hi (s : Sp) (h1 : 0 ≤ s.1) (h2 : 38 < s.1) (w : World) :
    Calls Try.prog 32 #[spV s] w fun e w' => e = .returned (.bool false) ∧ Below w.heap.size w w' := by
  have gs := SpAt.new w s
  obtain ⟨⟨a0, a1, a2, a3, a4, a5⟩, -⟩ := gs.facts
  have hb0 : Below w.heap.size w (w.alloc (.cells #[.int .i64 s.1, .int .i64 s.2.1.1, .int .i64 s.2.1.2, .int .i64 s.2.2.1, .int .i64 s.2.2.2.1, .int .i64 s.2.2.2.2] 28)) := (Below.refl _ w).alloc (Nat.le_refl _) _
  have k : decide (0 ≤ s.1) = true := by simpa using h1
  have k2 : decide (s.1 ≤ 38) = false := by simp; omega
  unfold spV
  go_enter Try.func32, Try.ntmps32
  go_wp2
  go_ret
  exact ⟨rfl, hb0⟩

set_option maxRecDepth 100000 in
set_option maxHeartbeats 2000000 in
theorem rformed_val (s : Sp) (h1 : 0 ≤ s.1) (h2 : s.1 ≤ 38) (h3 : valB s.2.1.1 s.2.1.2 = false) (w : World) :
    Calls Try.prog 32 #[spV s] w fun e w' => e = .returned (.bool false) ∧ Below w.heap.size w w' := by
  have gs := SpAt.new w s
  obtain ⟨⟨a0, a1, a2, a3, a4, a5⟩, -⟩ := gs.facts
  have hb0 : Below w.heap.size w (w.alloc (.cells #[.int .i64 s.1, .int .i64 s.2.1.1, .int .i64 s.2.1.2, .int .i64 s.2.2.1, .int .i64 s.2.2.2.1, .int .i64 s.2.2.2.2] 28)) := (Below.refl _ w).alloc (Nat.le_refl _) _
  have k : decide (0 ≤ s.1) = true := by simpa using h1
  have k2 : decide (s.1 ≤ 38) = true := by simpa using h2
  have HV := Lib.hid (fun w => rvalid_any s.2.1.1 s.2.1.2 w)
  rw [h3] at HV
  unfold spV
  go_enter Try.func32, Try.ntmps32
  go_wp2_with fail
  refine (HV.out _).mono ?_
  rintro e w1 ⟨rfl, hb1⟩
  have gs1 := gs.below hb1 gs.lt
  have hb2 := hb0.trans (hb1.mono hb0.size)
  clear a0 a1 a2 a3 a4 a5 gs hb0 hb1 HV
  obtain ⟨⟨a0, a1, a2, a3, a4, a5⟩, -⟩ := gs1.facts
  go_wp2
  go_ret
  exact ⟨rfl, hb2⟩

set_option maxRecDepth 100000 in
set_option maxHeartbeats 2000000 in
theorem rformed_neg (s : Sp) (h1 : 0 ≤ s.1) (h2 : s.1 ≤ 38) (h3 : valB s.2.1.1 s.2.1.2 = true) (h4 : s.2.1.1 < 0) (w : World) :
    Calls Try.prog 32 #[spV s] w fun e w' => e = .returned (.bool false) ∧ Below w.heap.size w w' := by
  have gs := SpAt.new w s
  obtain ⟨⟨a0, a1, a2, a3, a4, a5⟩, -⟩ := gs.facts
  have hb0 : Below w.heap.size w (w.alloc (.cells #[.int .i64 s.1, .int .i64 s.2.1.1, .int .i64 s.2.1.2, .int .i64 s.2.2.1, .int .i64 s.2.2.2.1, .int .i64 s.2.2.2.2] 28)) := (Below.refl _ w).alloc (Nat.le_refl _) _
  have k : decide (0 ≤ s.1) = true := by simpa using h1
  have k2 : decide (s.1 ≤ 38) = true := by simpa using h2
  have HV := Lib.hid (fun w => rvalid_any s.2.1.1 s.2.1.2 w)
  rw [h3] at HV
  have k3 : decide (0 ≤ s.2.1.1) = false := by simp; omega
  unfold spV
  go_enter Try.func32, Try.ntmps32
  go_wp2_with fail
  refine (HV.out _).mono ?_
  rintro e w1 ⟨rfl, hb1⟩
  have gs1 := gs.below hb1 gs.lt
  have hb2 := hb0.trans (hb1.mono hb0.size)
  clear a0 a1 a2 a3 a4 a5 gs hb0 hb1 HV
  obtain ⟨⟨a0, a1, a2, a3, a4, a5⟩, -⟩ := gs1.facts
  go_wp2
  go_ret
  exact ⟨rfl, hb2⟩

set_option maxRecDepth 100000 in
set_option maxHeartbeats 2000000 in
theorem rformed_big (s : Sp) (h1 : 0 ≤ s.1) (h2 : s.1 ≤ 38) (h3 : valB s.2.1.1 s.2.1.2 = true) (h4 : 0 ≤ s.2.1.1) (h5 : s.2.1.2 < s.2.1.1) (w : World) :
    Calls Try.prog 32 #[spV s] w fun e w' => e = .returned (.bool false) ∧ Below w.heap.size w w' := by
  have gs := SpAt.new w s
  obtain ⟨⟨a0, a1, a2, a3, a4, a5⟩, -⟩ := gs.facts
  have hb0 : Below w.heap.size w (w.alloc (.cells #[.int .i64 s.1, .int .i64 s.2.1.1, .int .i64 s.2.1.2, .int .i64 s.2.2.1, .int .i64 s.2.2.2.1, .int .i64 s.2.2.2.2] 28)) := (Below.refl _ w).alloc (Nat.le_refl _) _
  have k : decide (0 ≤ s.1) = true := by simpa using h1
  have k2 : decide (s.1 ≤ 38) = true := by simpa using h2
  have HV := Lib.hid (fun w => rvalid_any s.2.1.1 s.2.1.2 w)
  rw [h3] at HV
  have k3 : decide (0 ≤ s.2.1.1) = true := by simpa using h4
  have k4 : decide (s.2.1.1 ≤ s.2.1.2) = false := by simp; omega
  unfold spV
  go_enter Try.func32, Try.ntmps32
  go_wp2_with fail
  refine (HV.out _).mono ?_
  rintro e w1 ⟨rfl, hb1⟩
  have gs1 := gs.below hb1 gs.lt
  have hb2 := hb0.trans (hb1.mono hb0.size)
  clear a0 a1 a2 a3 a4 a5 gs hb0 hb1 HV
  obtain ⟨⟨a0, a1, a2, a3, a4, a5⟩, -⟩ := gs1.facts
  go_wp2
  go_ret
  exact ⟨rfl, hb2⟩

set_option maxRecDepth 100000 in
set_option maxHeartbeats 2000000 in
theorem rformed_ok (s : Sp) (h1 : 0 ≤ s.1) (h2 : s.1 ≤ 38) (h3 : valB s.2.1.1 s.2.1.2 = true) (h4 : 0 ≤ s.2.1.1) (h5 : s.2.1.1 ≤ s.2.1.2) (w : World) :
    Calls Try.prog 32 #[spV s] w fun e w' => e = .returned (.bool true) ∧ Below w.heap.size w w' := by
  have gs := SpAt.new w s
  obtain ⟨⟨a0, a1, a2, a3, a4, a5⟩, -⟩ := gs.facts
  have hb0 : Below w.heap.size w (w.alloc (.cells #[.int .i64 s.1, .int .i64 s.2.1.1, .int .i64 s.2.1.2, .int .i64 s.2.2.1, .int .i64 s.2.2.2.1, .int .i64 s.2.2.2.2] 28)) := (Below.refl _ w).alloc (Nat.le_refl _) _
  have k : decide (0 ≤ s.1) = true := by simpa using h1
  have k2 : decide (s.1 ≤ 38) = true := by simpa using h2
  have HV := Lib.hid (fun w => rvalid_any s.2.1.1 s.2.1.2 w)
  rw [h3] at HV
  have k3 : decide (0 ≤ s.2.1.1) = true := by simpa using h4
  have k4 : decide (s.2.1.1 ≤ s.2.1.2) = true := by simpa using h5
  unfold spV
  go_enter Try.func32, Try.ntmps32
  go_wp2_with fail
  refine (HV.out _).mono ?_
  rintro e w1 ⟨rfl, hb1⟩
  have gs1 := gs.below hb1 gs.lt
  have hb2 := hb0.trans (hb1.mono hb0.size)
  clear a0 a1 a2 a3 a4 a5 gs hb0 hb1 HV
  obtain ⟨⟨a0, a1, a2, a3, a4, a5⟩, -⟩ := gs1.facts
  go_wp2
  go_ret
  exact ⟨rfl, hb2⟩

theorem rformed_any (s : Sp) (w : World) :
    Calls Try.prog 32 #[spV s] w fun e w' => e = .returned (.bool (decide (formP s))) ∧ Below w.heap.size w w' := by
  by_cases h : formP s
  · rw [decide_eq_true h]
    obtain ⟨⟨⟨h1, h2⟩, h3⟩, h4, h5⟩ := h
    exact rformed_ok s h1 h2 (valB_iff.2 h3) h4 h5 w
  · rw [decide_eq_false h]
    by_cases h1 : 0 ≤ s.1
    · by_cases h2 : s.1 ≤ 38
      · by_cases h3 : valP s.2.1.1 s.2.1.2
        · by_cases h4 : 0 ≤ s.2.1.1
          · exact rformed_big s h1 h2 (valB_iff.2 h3) h4 (Int.not_le.1 fun h5 => h ⟨⟨⟨h1, h2⟩, h3⟩, h4, h5⟩) w
          · exact rformed_neg s h1 h2 (valB_iff.2 h3) (by omega) w
        · exact rformed_val s h1 h2 (valB_false h3) w
      · exact rformed_hi s h1 (by omega) w
    · exact rformed_lo s (by omega) w
end Go.Proofs.Ytcpcmlonbpccnaa.Ge
