/- Walks over the law's package: head. -/
import Derived.Test.YtgmncimfpbjmjaaDoorDigW6
namespace Go.Proofs.YtgmncimfpbjmjaaDoor.Dig
set_option linter.unusedVariables false
set_option linter.unusedSimpArgs false
open Go.RowKit

theorem is_1 (w : World) : Calls Tryd.prog 18 #[.string { data := #[48, 49, 50, 51, 52, 53, 54, 55, 56, 57, 97, 98, 99, 100, 101, 102] }] w fun e w' => e = .returned (.bool true) ∧ w = w' := is_any _ w
theorem is_2 (w : World) : Calls Tryd.prog 18 #[.string { data := #[48, 49, 50, 51, 52, 53, 54, 55, 56, 57, 97, 98, 99, 100, 101, 70] }] w fun e w' => e = .returned (.bool false) ∧ w = w' := is_any _ w
theorem is_3 (w : World) : Calls Tryd.prog 18 #[.string { data := #[] }] w fun e w' => e = .returned (.bool false) ∧ w = w' := is_any _ w

theorem sum_c (l : List UInt8) (hl : l.length ≤ 1000) (w : World) : Calls Tryd.prog 12 #[.string ⟨l.toArray⟩] w fun e w' => e = .returned (.string ⟨(dsum l).toArray⟩) ∧ Below w.heap.size w w' := by
  have h := sum_any ⟨l.toArray⟩ (by rw [Lib.size_eq]; simp only [List.toList_toArray]; omega) w
  simpa using h

theorem chain_c (l : List UInt8) (hl : l.length ≤ 1000) (n : Nat) (hn : n ≤ 1000) (w : World) : Calls Tryd.prog 16 #[.string ⟨l.toArray⟩, .int .i64 (n : Int)] w fun e w' => e = .returned (.string ⟨(dchain l n).toArray⟩) ∧ Below w.heap.size w w' := by
  have h := chain_any ⟨l.toArray⟩ (by rw [Lib.size_eq]; simp only [List.toList_toArray]; omega) n (by omega) w
  rw [show chainN (n : Int) = n by unfold chainN; omega] at h
  simpa using h

theorem chain_0 (w : World) : Calls Tryd.prog 16 #[.string ⟨#[120]⟩, .int .i64 0] w fun e w' => e = .returned (.string ⟨#[120]⟩) ∧ Below w.heap.size w w' := chain_c [120] (by decide) 0 (by decide) w
theorem chain_2 (w : World) : Calls Tryd.prog 16 #[.string ⟨#[120]⟩, .int .i64 2] w fun e w' => e = .returned (.string ⟨(dsum (dsum [120])).toArray⟩) ∧ Below w.heap.size w w' := chain_c [120] (by decide) 2 (by decide) w

theorem list_c (w : World) (ht : Tab w) : Calls Tryd.prog 14 #[.slice (some ⟨w.heap.size, 0, none⟩) 2 2] (w.alloc (Obj.cells #[Value.string { data := #[97] }, Value.string { data := #[98, 99] }] 9)) fun e w' => e = .returned (.string ⟨(dsum [49, 58, 97, 50, 58, 98, 99]).toArray⟩) ∧ Below w.heap.size w w' := by
  have hb : Below w.heap.size w (w.alloc (Obj.cells #[Value.string { data := #[97] }, Value.string { data := #[98, 99] }] 9)) := (Below.refl _ _).alloc (Nat.le_refl _) _
  have e : joinB [⟨#[97]⟩, ⟨#[98, 99]⟩] = [49, 58, 97, 50, 58, 98, 99] := by decide +kernel
  have h := list_any (.slice (some ⟨w.heap.size, 0, none⟩) 2 2) [⟨#[97]⟩, ⟨#[98, 99]⟩] _ (ht.below hb) (.inr ⟨w.heap.size, 0, 2, rfl, by decide, by simp, by decide, by
    intro i hi
    match i, hi with
    | 0, _ => simp
    | 1, _ => simp⟩) (by rw [e]; decide)
  rw [e] at h
  exact h.mono fun e w' ⟨he, hw⟩ => ⟨he, hb.trans (hw.mono (by simp))⟩

set_option maxHeartbeats 1000000 in
theorem head_any (w : World) (ht : Tab w) :
    Calls Tryd.prog 10 #[] w fun e w' => e = .returned (.bool true) ∧ Below w.heap.size w w' := by
  go_enter Tryd.func10, Tryd.ntmps10
  go_wp2_with fail
  refine (is_1 _).mono ?_
  rintro e w1 ⟨rfl, rfl⟩
  go_wp2_with fail
  refine (is_2 _).mono ?_
  rintro e w1 ⟨rfl, rfl⟩
  go_wp2_with fail
  refine (is_3 _).mono ?_
  rintro e w1 ⟨rfl, rfl⟩
  go_wp2_with fail
  refine (list_c _ ht).mono ?_
  rintro e w1 ⟨rfl, hb1⟩
  go_wp2_with fail
  refine (sum_c [49, 58, 97, 50, 58, 98, 99] (by decide) _).mono ?_
  rintro e w2 ⟨rfl, hb2⟩
  go_wp2_with fail
  refine (chain_0 _).mono ?_
  rintro e w3 ⟨rfl, hb3⟩
  go_wp2_with fail
  refine (chain_2 _).mono ?_
  rintro e w4 ⟨rfl, hb4⟩
  go_wp2_with fail
  refine (sum_c [120] (by decide) _).mono ?_
  rintro e w5 ⟨rfl, hb5⟩
  go_wp2_with fail
  refine (sum_c (dsum [120]) (by rw [dsum_length]; decide) _).mono ?_
  rintro e w6 ⟨rfl, hb6⟩
  go_wp2_with fail
  refine (sum_c [] (by decide) _).mono ?_
  rintro e w7 ⟨rfl, hb7⟩
  go_wp2_with fail
  refine (sum_c [0] (by decide) _).mono ?_
  rintro e w8 ⟨rfl, hb8⟩
  have n1 : (dsum [] == dsum [0]) = false := by decide +kernel
  have n2 : (dsum [1] == dsum []) = false := by decide +kernel
  go_wp2_with fail
  refine (sum_c [1] (by decide) _).mono ?_
  rintro e w9 ⟨rfl, hb9⟩
  go_wp2_with fail
  refine (sum_c [] (by decide) _).mono ?_
  rintro e w10 ⟨rfl, hb10⟩
  go_wp2_with fail
  go_ret
  refine ⟨rfl, ?_⟩
  have s1 := hb1.size
  have s2 := hb2.size
  have s3 := hb3.size
  have s4 := hb4.size
  have s5 := hb5.size
  have s6 := hb6.size
  have s7 := hb7.size
  have s8 := hb8.size
  have s9 := hb9.size
  exact ((((((((hb1.trans (hb2.mono (by omega))).trans (hb3.mono (by omega))).trans (hb4.mono (by omega))).trans (hb5.mono (by omega))).trans (hb6.mono (by omega))).trans (hb7.mono (by omega))).trans (hb8.mono (by omega))).trans (hb9.mono (by omega))).trans (hb10.mono (by omega))

end Go.Proofs.YtgmncimfpbjmjaaDoor.Dig
