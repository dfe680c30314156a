/- Walks over layer 3's laws: SealForm. -/
import Derived.Test.YtkgkejphifkpkaaDoorSlmW9
namespace Go.Proofs.YtkgkejphifkpkaaDoor.Dig
set_option linter.unusedVariables false
set_option linter.unusedSimpArgs false
open Go.RowKit

theorem is_dig (s : ByteArray) (h : digB s = true) (w : World) : Calls Tryd.prog 85 #[.string s] w fun e w' => e = .returned (.bool true) ∧ w = w' := by
  have h1 := is_any s w
  rw [show isDig (bl s) = true from h] at h1
  exact h1

theorem Held.other {W : World} {B : Nat} {x v y : Value} (h : Held W B x v y) (p : Addr) (u : Value) (hne : B ≠ p.block) : Held (W.setCell p u) B x v y := (Below.heap_setCell W p u B hne).trans h

end Go.Proofs.YtkgkejphifkpkaaDoor.Dig

/- Walks over layer 3's laws: SealVerifies. -/
namespace Go.Proofs.YtkgkejphifkpkaaDoor.Dig
set_option linter.unusedVariables false
set_option linter.unusedSimpArgs false
open Go.RowKit

theorem index_of' (n : Int) (len : Nat) (h : 0 < len) (hn : 0 ≤ n) : ∃ i : Nat, i < len ∧ n % (len : Int) = (i : Int) := by
  have h1 := Int.emod_nonneg n (b := (len : Int)) (by omega)
  have h2 := Int.emod_lt_of_pos n (b := (len : Int)) (by omega)
  exact ⟨(n % (len : Int)).toNat, by omega, by omega⟩
/-- the height and the index that the laws draw -/
theorem draw_h (rh : Int) (n : Nat) (h0 : 0 ≤ rh) (hn : 0 < n) : ∃ h : Nat, h < n ∧ rh % (n : Int) = (h : Int) := index_of' rh n hn h0
theorem draw_i (ri : Int) (h : Nat) (hh : h ≤ 8) (i0 : 0 ≤ ri) : ∃ i : Nat, i < 2 ^ h ∧ ri % (2 : Int) ^ h = (i : Int) := by
  obtain ⟨i, h1, h2⟩ := index_of' ri (2 ^ h) (Nat.pow_pos (by decide)) i0
  refine ⟨i, h1, ?_⟩
  rw [← h2]
  simp
theorem wrap_pow (h : Nat) (hh : h ≤ 8) : wrap64 ((2 : Int) ^ h) = (2 : Int) ^ h := by rw [pow_wrap h hh]; simp

theorem pow_ne (h : Nat) : ((2 : Int) ^ h = 0) = False := by
  have e : (2 : Int) ^ h = ((2 ^ h : Nat) : Int) := by simp
  have hp := Nat.pow_pos (n := h) (show 0 < 2 by decide)
  refine eq_false ?_
  rw [e]
  omega

end Go.Proofs.YtkgkejphifkpkaaDoor.Dig
