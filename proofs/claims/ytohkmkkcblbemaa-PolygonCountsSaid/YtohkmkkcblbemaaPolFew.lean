/- The walk of Few. -/
import Derived.Test.YtohkmkkcblbemaaPolH
namespace Go.Proofs.Ytohkmkkcblbemaa.Ge
set_option linter.unusedVariables false
set_option linter.unusedSimpArgs false
open Go.RowKit

theorem few_two (va vb : Value) (ra rb : List Pt) (w : World) (ha : PtSl w va ra) (hb : PtSl w vb rb) :
    Calls Try.prog 20 #[va, vb] w fun e w' => e = .returned (.bool (decide (ra.length ≤ 50) && decide (rb.length ≤ 50))) ∧ w' = w := by
  obtain ⟨a1, a2, rfl⟩ := ha.form
  obtain ⟨b1, b2, rfl⟩ := hb.form
  by_cases h1 : ra.length ≤ 50
  · have h1' : (ra.length : Int) ≤ 50 := by omega
    by_cases h2 : rb.length ≤ 50
    · have h2' : (rb.length : Int) ≤ 50 := by omega
      rw [decide_eq_true h1, decide_eq_true h2]
      go_enter Try.func20, Try.ntmps20
      go_wp2_with fail
      go_ret
      exact ⟨rfl, rfl⟩
    · have h2' : ¬ (rb.length : Int) ≤ 50 := by omega
      rw [decide_eq_true h1, decide_eq_false h2]
      go_enter Try.func20, Try.ntmps20
      go_wp2_with fail
      go_ret
      exact ⟨rfl, rfl⟩
  · have h1' : ¬ (ra.length : Int) ≤ 50 := by omega
    rw [decide_eq_false h1, Bool.false_and]
    go_enter Try.func20, Try.ntmps20
    go_wp2_with fail
    go_ret
    exact ⟨rfl, rfl⟩
end Go.Proofs.Ytohkmkkcblbemaa.Ge
