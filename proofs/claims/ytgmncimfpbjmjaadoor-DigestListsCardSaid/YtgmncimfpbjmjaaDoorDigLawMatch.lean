/- The walk over DigestMatchesReference. -/
import Derived.Test.YtgmncimfpbjmjaaDoorDigLawForm
import Derived.Test.YtgmncimfpbjmjaaDoorDigLawShort
import Derived.Test.YtgmncimfpbjmjaaDoorRefW5
namespace Go.Proofs.YtgmncimfpbjmjaaDoor.Dig
set_option linter.unusedVariables false
set_option linter.unusedSimpArgs false
open Go.RowKit

theorem sumB_len (m : Nat) : ∀ l : List ByteArray, (∀ s ∈ l, s.size ≤ m) → sumB l ≤ l.length * (m + 21)
  | [], _ => by simp [sumB]
  | s :: r, h => by
    have h1 := sumB_len m r (fun x hx => h x (List.mem_cons_of_mem _ hx))
    have h2 := h s List.mem_cons_self
    rw [sumB, List.length_cons, Nat.add_mul]
    omega

theorem few_room (l : List ByteArray) (h : fewB l 200 = true) : sumB l ≤ 6630 := by
  unfold fewB at h
  simp only [Bool.and_eq_true, List.all_eq_true, decide_eq_true_eq] at h
  have h1 := sumB_len 200 l h.1
  have h2 : l.length * 221 ≤ 30 * 221 := Nat.mul_le_mul_right _ h.2
  omega

set_option maxHeartbeats 1000000 in
theorem match_walk (s : ByteArray) (v : Value) (l : List ByteArray) (n : Int) (h1 : -9223372036854775808 ≤ n) (h2 : n ≤ 9223372036854775807) (w : World) (hl : StrSl w v l) (ht : Tab w) :
    Calls Tryd.prog 3 #[.string s, v, .int .i64 n] w fun e w' => e = .returned (.bool true) ∧ Below w.heap.size w w' := by
  have n1 : n.tmod 40 ≤ 1000 := by
    have := Int.tmod_lt_of_pos n (b := 40) (by decide)
    omega
  go_enter Tryd.func3, Tryd.ntmps3
  go_wp2_with fail
  refine (head_any _ ht).mono ?_
  rintro e w1 ⟨rfl, hb1⟩
  have hl1 := hl.below hb1
  have ht1 := ht.below hb1
  by_cases hbig : 2000 < s.size
  · go_wp2_with fail
    go_ret
    exact ⟨rfl, hb1⟩
  · go_wp2_with fail
    refine (few_any v l 200 _ hl1).mono ?_
    rintro e w2 ⟨rfl, rfl⟩
    cases hf : fewB l 200 with
    | false =>
      go_wp2_with fail
      go_ret
      exact ⟨rfl, hb1⟩
    | true =>
      obtain ⟨hj, _⟩ := few_len l hf
      have hr := few_room l hf
      have Hf := Lib.hid hf
      clear hf
      go_wp2_with fail
      refine (sum_any s (by omega) _).mono ?_
      rintro e w3 ⟨rfl, hb3⟩
      go_wp2_with fail
      refine (rsum_any s (by omega) _).mono ?_
      rintro e w4 ⟨rfl, rfl⟩
      have ht3 := ht1.below hb3
      have hl3 := hl1.below hb3
      go_wp2_with fail
      refine (list_any v l _ ht3 hl3 (by omega)).mono ?_
      rintro e w5 ⟨rfl, hb5⟩
      go_wp2_with fail
      refine (rlist_any v l _ (hl3.below hb5) (by omega) (by omega)).mono ?_
      rintro e w6 ⟨rfl, hb6⟩
      go_wp2_with fail
      refine (chain_any s (by omega) _ (by omega) _).mono ?_
      rintro e w7 ⟨rfl, hb7⟩
      go_wp2_with fail
      refine (rchain_any s (by omega) _ n1 _).mono ?_
      rintro e w8 ⟨rfl, rfl⟩
      go_wp2_with fail
      refine (is_any s _).mono ?_
      rintro e w9 ⟨rfl, rfl⟩
      go_wp2_with fail
      refine (ris_any s (by omega) _).mono ?_
      rintro e w10 ⟨rfl, rfl⟩
      go_wp2_with fail
      go_ret
      have s1 := hb1.size
      have s3 := hb3.size
      have s5 := hb5.size
      have s6 := hb6.size
      refine ⟨?_, (((hb1.trans (hb3.mono (by omega))).trans (hb5.mono (by omega))).trans (hb6.mono (by omega))).trans (hb7.mono (by omega))⟩
      simp

end Go.Proofs.YtgmncimfpbjmjaaDoor.Dig
