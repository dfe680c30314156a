/- The walk of Few. -/
import Derived.Test.YtohkmkkcblbemaaPolH
import Derived.Test.YtohkmkkcblbemaaPolJor
namespace Go.Proofs.Ytohkmkkcblbemaa.Ge
set_option linter.unusedVariables false
set_option linter.unusedSimpArgs false
open Go.RowKit
open Go.Proofs.Ytohkmkkcblbemaa.Fr (Two)

theorem few_two (va vb : Value) (ra rb : List Pt) (w : World) (ha : PtSl w va ra) (hb : PtSl w vb rb) :
    Calls Try.prog 20 #[va, vb] w fun e w' => e = .returned (.bool (decide (ra.length ≤ 50) && decide (rb.length ≤ 50))) ∧ w' = w := by
  obtain ⟨a1, a2, rfl⟩ := ha.form
  obtain ⟨b1, b2, rfl⟩ := hb.form
  by_cases h1 : ra.length ≤ 50
  · have h1' : (ra.length : Int) ≤ 50 := by omega
    by_cases h2 : rb.length ≤ 50
    · have h2' : (rb.length : Int) ≤ 50 := by omega
      rw [decide_eq_true h1, decide_eq_true h2]
      go_enter Try.func20, Try.ntmps20
      go_wp2_with fail
      go_ret
      exact ⟨rfl, rfl⟩
    · have h2' : ¬ (rb.length : Int) ≤ 50 := by omega
      rw [decide_eq_true h1, decide_eq_false h2]
      go_enter Try.func20, Try.ntmps20
      go_wp2_with fail
      go_ret
      exact ⟨rfl, rfl⟩
  · have h1' : ¬ (ra.length : Int) ≤ 50 := by omega
    rw [decide_eq_false h1, Bool.false_and]
    go_enter Try.func20, Try.ntmps20
    go_wp2_with fail
    go_ret
    exact ⟨rfl, rfl⟩

theorem idx8 (n : Int) (len : Nat) (h : 0 < len) (hn : 0 ≤ n) : ∃ i : Nat, i < len ∧ n % (len : Int) = (i : Int) := by
  have h1 := Int.emod_nonneg n (show (len : Int) ≠ 0 by omega)
  have h2 := Int.emod_lt_of_pos n (show (0 : Int) < (len : Int) by omega)
  exact ⟨(n % (len : Int)).toNat, by omega, by omega⟩
theorem box_bd {l : List Pt} (h : validB l = true) : (0 ≤ (lowP l).1 ∧ (lowP l).1 ≤ (highP l).1 ∧ (highP l).1 ≤ 32767) ∧ 0 ≤ (lowP l).2 ∧ (lowP l).2 ≤ (highP l).2 ∧ (highP l).2 ≤ 32767 := by
  obtain ⟨w1, w2⟩ := box_wide h
  have hl : 0 < l.length := by have := (valid_len h).1; omega
  have hd : l ≠ [] := List.length_pos_iff.1 hl
  have on0 := fun p (hp : p ∈ l) => valid_on h p hp
  have mem : ∀ (f : Pt → Int) (P : Int → Prop), (∀ p ∈ l, P (f p)) → P (minI (l.map f) (f (nth l 0))) ∧ P (maxI (l.map f) (f (nth l 0))) := fun f P hP => by
    constructor
    · rcases min_mem (f (nth l 0)) (l.map f) with k | k
      · rw [k]; exact hP _ (nth_mem hd 0)
      · obtain ⟨p, hp, e⟩ := List.mem_map.1 k
        rw [← e]; exact hP p hp
    · rcases max_mem (f (nth l 0)) (l.map f) with k | k
      · rw [k]; exact hP _ (nth_mem hd 0)
      · obtain ⟨p, hp, e⟩ := List.mem_map.1 k
        rw [← e]; exact hP p hp
  have m1 := mem (·.1) (fun x => 0 ≤ x ∧ x ≤ 32767) (fun p hp => (on0 p hp).1)
  have m2 := mem (·.2) (fun x => 0 ≤ x ∧ x ≤ 32767) (fun p hp => (on0 p hp).2)
  refine ⟨⟨?_, Int.le_of_lt w1, ?_⟩, ?_, Int.le_of_lt w2, ?_⟩
  · unfold lowP; rw [if_pos h]; exact m1.1.1
  · unfold highP; rw [if_pos h]; exact m1.2.2
  · unfold lowP; rw [if_pos h]; exact m2.1.1
  · unfold highP; rw [if_pos h]; exact m2.2.2
theorem two_cells {W : World} {B : Nat} {x y : Int} (h : Two W B 23 (.int .i64 x) (.int .i64 y)) {W' : World} (hb : Below W.heap.size W W') : W'.cell? ⟨B, 0, none⟩ = some (.int .i64 x) ∧ W'.cell? ⟨B, 1, none⟩ = some (.int .i64 y) := by
  have := (h.below hb h.lt).facts
  exact ⟨this.1, this.2.1⟩
end Go.Proofs.Ytohkmkkcblbemaa.Ge
