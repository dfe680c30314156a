/- The walk over DigestForm. -/
import Derived.Test.YtgmncimfpbjmjaaDoorDigHead
import Derived.Test.YtgmncimfpbjmjaaDoorRefW1
import Derived.Lib.ItoaLen
namespace Go.Proofs.YtgmncimfpbjmjaaDoor.Dig
set_option linter.unusedVariables false
set_option linter.unusedSimpArgs false
open Go.RowKit

theorem joinB_len (m : Nat) (hm : m ≤ 9223372036854775807) : ∀ l : List ByteArray, (∀ s ∈ l, s.size ≤ m) → (joinB l).length ≤ l.length * (m + 22)
  | [], _ => by simp [joinB]
  | s :: r, h => by
    have h1 := joinB_len m hm r (fun x hx => h x (List.mem_cons_of_mem _ hx))
    have h2 := h s List.mem_cons_self
    have h3 := Lib.itoa_length_le (s.size : Int) (by omega) (by omega)
    have h4 := Lib.size_eq s
    rw [joinB, List.length_append, encS, List.length_append, List.length_cons, List.length_cons, Nat.add_mul, ← h4]
    omega

theorem few_len (l : List ByteArray) (h : fewB l 200 = true) : (joinB l).length ≤ 6660 ∧ l.length ≤ 30 := by
  unfold fewB at h
  simp only [Bool.and_eq_true, List.all_eq_true, decide_eq_true_eq] at h
  have h1 := joinB_len 200 (by decide) l h.1
  have h2 : l.length * 222 ≤ 30 * 222 := Nat.mul_le_mul_right _ h.2
  omega

theorem chain_isDig (l : List UInt8) (n : Int) (h : 1 ≤ n) : isDig (dchain l (chainN n)) = true := by
  obtain ⟨k, hk⟩ : ∃ k, chainN n = k + 1 := ⟨chainN n - 1, by unfold chainN; omega⟩
  rw [hk]
  exact dsum_isDig _

theorem is_mk (l : List UInt8) (h : isDig l = true) (w : World) :
    Calls Tryd.prog 18 #[.string ⟨l.toArray⟩] w fun e w' => e = .returned (.bool true) ∧ w = w' := by
  have h1 := is_any ⟨l.toArray⟩ w
  rw [show isDig (bl ⟨l.toArray⟩) = true from h] at h1
  exact h1

set_option maxHeartbeats 1000000 in
theorem form_walk (s : ByteArray) (v : Value) (l : List ByteArray) (n : Int) (h1 : 0 ≤ n) (h2 : n ≤ 255) (w : World) (hl : StrSl w v l) (ht : Tab w) :
    Calls Tryd.prog 5 #[.string s, v, .int .u8 n] w fun e w' => e = .returned (.bool true) ∧ Below w.heap.size w w' := by
  go_enter Tryd.func5, Tryd.ntmps5
  go_wp2_with fail
  refine (head_any _ ht).mono ?_
  rintro e w1 ⟨rfl, hb1⟩
  have hl1 := hl.below hb1
  have ht1 := ht.below hb1
  by_cases hbig : 2000 < s.size
  · go_wp2_with fail
    go_ret
    exact ⟨rfl, hb1⟩
  · go_wp2_with fail
    refine (few_any v l 200 _ hl1).mono ?_
    rintro e w2 ⟨rfl, rfl⟩
    cases hf : fewB l 200 with
    | false =>
      go_wp2_with fail
      go_ret
      exact ⟨rfl, hb1⟩
    | true =>
      obtain ⟨hj, _⟩ := few_len l hf
      have Hf := Lib.hid hf
      clear hf
      go_wp2_with fail
      refine (sum_any s (by omega) _).mono ?_
      rintro e w3 ⟨rfl, hb3⟩
      go_wp2_with fail
      refine (is_mk _ (dsum_isDig _) _).mono ?_
      rintro e w4 ⟨rfl, rfl⟩
      go_wp2_with fail
      refine (list_any v l _ (ht1.below hb3) (hl1.below hb3) (by omega)).mono ?_
      rintro e w5 ⟨rfl, hb5⟩
      go_wp2_with fail
      refine (is_mk _ (dsum_isDig _) _).mono ?_
      rintro e w6 ⟨rfl, rfl⟩
      go_wp2_with fail
      refine (chain_any s (by omega) _ (by omega) _).mono ?_
      rintro e w7 ⟨rfl, hb7⟩
      go_wp2_with fail
      refine (is_mk _ (chain_isDig _ _ (by omega)) _).mono ?_
      rintro e w8 ⟨rfl, rfl⟩
      go_wp2_with fail
      go_ret
      have s1 := hb1.size
      have s3 := hb3.size
      have s5 := hb5.size
      exact ⟨rfl, ((hb1.trans (hb3.mono (by omega))).trans (hb5.mono (by omega))).trans (hb7.mono (by omega))⟩

end Go.Proofs.YtgmncimfpbjmjaaDoor.Dig
