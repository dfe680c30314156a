/- Walks over package alphabet: proper, folding. -/
import Derived.Test.YtcabhanmeookkaaDoorAlpW1
namespace Go.Proofs.YtcabhanmeookkaaDoor.Al
set_option linter.unusedVariables false
set_option linter.unusedSimpArgs false
open Go.RowKit

theorem byte_good {c : UInt8} (h : byteB c = true) : ¬ (c.toNat : Int) ≤ 32 ∧ ¬ (126 : Int) < (c.toNat : Int) ∧ ((c.toNat : Int) == 34) = false := by
  unfold byteB at h
  simp only [Bool.and_eq_true, decide_eq_true_eq, Bool.not_eq_true', decide_eq_false_iff_not] at h
  refine ⟨by omega, by omega, ?_⟩
  rw [beq_eq_false_iff_ne]; omega
theorem byte_bad {c : UInt8} (h : byteB c = false) : (c.toNat : Int) ≤ 32 ∨ (¬ (c.toNat : Int) ≤ 32 ∧ (126 : Int) < (c.toNat : Int)) ∨ (¬ (c.toNat : Int) ≤ 32 ∧ ¬ (126 : Int) < (c.toNat : Int) ∧ ((c.toNat : Int) == 34) = true) := by
  by_cases h1 : (c.toNat : Int) ≤ 32
  · exact .inl h1
  · by_cases h2 : (126 : Int) < (c.toNat : Int)
    · exact .inr (.inl ⟨h1, h2⟩)
    · refine .inr (.inr ⟨h1, h2, ?_⟩)
      unfold byteB at h
      simp only [Bool.and_eq_false_iff, decide_eq_false_iff_not, Bool.not_eq_false', decide_eq_true_eq] at h
      rw [beq_iff_eq]; omega
theorem all_snoc {p : UInt8 → Bool} {s : ByteArray} {k : Nat} (h : k < s.size) (h1 : ((bl s).take k).all p = true) (h2 : p s[k] = true) : ((bl s).take (k + 1)).all p = true := by
  have hl : k < s.data.toList.length := by rw [← Lib.size_eq]; exact h
  have e : (bl s).take (k + 1) = (bl s).take k ++ [s[k]] := List.take_succ_eq_append_getElem hl
  rw [e, List.all_append, h1, Bool.true_and, List.all_cons, h2]; rfl
theorem all_fail {p : UInt8 → Bool} {s : ByteArray} {k : Nat} (h : k < s.size) (h2 : p s[k] = false) : (bl s).all p = false := by
  have hl : k < s.data.toList.length := by rw [← Lib.size_eq]; exact h
  rw [List.all_eq_false]
  exact ⟨s[k], List.getElem_mem hl, by rw [h2]; simp⟩

set_option maxHeartbeats 1000000 in
theorem proper_any (s : ByteArray) (hs : s.size ≤ 100000) (w : World) :
    Calls Tryd.prog 35 #[.string s] w fun e w' => e = .returned (.bool (propB (bl s))) ∧ w = w' := by
  have Hp := Lib.hid (show propB (bl s) = (decide (1 ≤ s.size) && (decide (s.size ≤ 3) && (bl s).all byteB)) by unfold propB; rw [bl_len])
  generalize propB (bl s) = R at *
  by_cases h0 : s.size = 0
  · have he : s.toList.isEmpty = true := by rw [toList_bl, List.isEmpty_iff_length_eq_zero, bl_len]; exact h0
    go_enter Tryd.func35, Tryd.ntmps35
    go_wp2_with fail
    go_ret
    rw [Hp.out, h0]
    exact ⟨rfl, rfl⟩
  · have he : s.toList.isEmpty = false := by
      rw [Bool.eq_false_iff]; intro h; rw [toList_bl, List.isEmpty_iff_length_eq_zero, bl_len] at h; exact h0 h
    by_cases h3 : (3 : Int) < (s.size : Int)
    · go_enter Tryd.func35, Tryd.ntmps35
      go_wp2_with fail
      go_ret
      rw [Hp.out]
      have : decide (s.size ≤ 3) = false := by simp; omega
      rw [this]
      exact ⟨by simp, rfl⟩
    · go_enter Tryd.func35, Tryd.ntmps35
      go_wp2_with fail
      go_loop [14] (fun i => ∃ k : Nat, k ≤ s.size ∧ i = .int .i64 k ∧ Hid (((bl s).take k).all byteB = true)) (fun i => s.size - (intOf i).toNat)
      case atStart => exact ⟨0, by omega, rfl, Lib.hid rfl⟩
      case round =>
        obtain ⟨k, hk, rfl, Hall⟩ := hrel
        by_cases hlt : k < s.size
        · have hc : s[k].toNat < 256 := UInt8.toNat_lt s[k]
          cases hx : byteB s[k] with
          | true =>
            obtain ⟨g1, g2, g3⟩ := byte_good hx
            have Hx := Lib.hid (all_snoc hlt Hall.out hx)
            clear hx
            go_wp2_with fail
            go_round
            case rel => exact ⟨k + 1, by omega, by go_num, Hx⟩
            case measure => simp [intOf]; omega
          | false =>
            have Hx := Lib.hid (all_fail hlt hx)
            have hR : R = false := by rw [Hp.out, Hx.out]; simp
            subst hR
            rcases byte_bad hx with g1 | ⟨g1, g2⟩ | ⟨g1, g2, g3⟩
            · clear hx
              go_wp2_with fail
              go_ret
              exact ⟨rfl, rfl⟩
            · clear hx
              go_wp2_with fail
              go_ret
              exact ⟨rfl, rfl⟩
            · clear hx
              go_wp2_with fail
              go_ret
              exact ⟨rfl, rfl⟩
        · obtain rfl : k = s.size := by omega
          have Ha := Lib.hid (show (bl s).all byteB = true by have := Hall.out; rwa [List.take_of_length_le (by rw [bl_len]; omega)] at this)
          go_wp2_with fail
          go_ret
          rw [Hp.out, Ha.out]
          exact ⟨by simp; omega, rfl⟩

/-! ### Small letters -/

theorem getD_of {l : List Int} {i : Nat} (h : i < l.length) : l.getD i 0 = l[i] := by
  rw [List.getD_eq_getElem?_getD, List.getElem?_eq_getElem h]; rfl
def foldOk (S : List Int) (n : Nat) (s : Int) : Bool := decide (0 ≤ s) && (decide (s < (n : Int)) && decide (S.getD s.toNat 0 = s))

set_option maxHeartbeats 1000000 in
theorem folding_any (v : Value) (S : List Int) (n : Nat) (hn : n ≤ 1000000) (w : World) (hS : IntSl w v S) :
    Calls Tryd.prog 33 #[v, .int .i64 (n : Int)] w fun e w' => e = .returned (.bool (foldS S n)) ∧ w = w' := by
  have Hp := Lib.hid (show foldS S n = (decide (S.length = n) && S.all (foldOk S n)) from rfl)
  generalize foldS S n = R at *
  by_cases hl : S.length = n
  · subst hl
    have hne : ((S.length : Int) != (S.length : Int)) = false := by simp
    by_cases h0 : S.length = 0
    · obtain rfl := List.length_eq_zero_iff.1 h0
      obtain ⟨a, cap, rfl⟩ := hS.form
      go_enter Tryd.func33, Tryd.ntmps33
      go_wp2_with fail
      refine wp_loop_rounds 1 ?_
      rw [rounds_succ]
      go_wp2_with fail
      go_ret
      rw [Hp.out]
      exact ⟨rfl, rfl⟩
    · obtain ⟨b, off, cap, rfl, hb, hm, hcell⟩ := hS.open h0
      go_enter Tryd.func33, Tryd.ntmps33
      go_wp2_with fail
      go_loop [13] (fun i => ∃ k : Nat, k ≤ S.length ∧ i = .int .i64 k ∧ Hid (∀ j (h : j < S.length), j < k → foldOk S S.length S[j] = true)) (fun i => S.length - (intOf i).toNat)
      case atStart => exact ⟨0, by omega, rfl, Lib.hid (fun j _ h => by omega)⟩
      case round =>
        obtain ⟨k, hk, rfl, Hall⟩ := hrel
        by_cases hlt : k < S.length
        · have hck := hcell k hlt
          have Hcell := Lib.hid hcell
          clear hcell
          cases hx : foldOk S S.length S[k] with
          | true =>
            have Hx := Lib.hid hx
            unfold foldOk at hx
            simp only [Bool.and_eq_true, decide_eq_true_eq] at hx
            obtain ⟨g1, g2, g3⟩ := hx
            obtain ⟨m, hm2⟩ := Int.eq_ofNat_of_zero_le g1
            have hml : m < S.length := by omega
            have hcm := Hcell.out m hml
            have g4 : S[m] = (m : Int) := by rw [← getD_of hml]; rw [hm2] at g3; simpa using g3
            rw [hm2] at hck
            rw [g4] at hcm
            have g5 : ((m : Int) != (m : Int)) = false := by simp
            clear g3 Hcell g4
            go_wp2_with fail
            go_round
            case rel =>
              refine ⟨k + 1, by omega, by go_num, Lib.hid fun j h hj => ?_⟩
              rcases Nat.lt_succ_iff_lt_or_eq.1 hj with h2 | rfl
              · exact Hall.out j h h2
              · exact Hx.out
            case measure => simp [intOf]; omega
          | false =>
            have hR : R = false := by
              rw [Hp.out]
              have : S.all (foldOk S S.length) = false := by rw [List.all_eq_false]; exact ⟨S[k], List.getElem_mem hlt, by rw [hx]; simp⟩
              rw [this]; simp
            subst hR
            by_cases g1 : S[k] < 0
            · clear hx Hcell
              go_wp2_with fail
              go_ret
              exact ⟨rfl, rfl⟩
            · by_cases g2 : S[k] < (S.length : Int)
              · obtain ⟨m, hm2⟩ := Int.eq_ofNat_of_zero_le (Int.not_lt.1 g1)
                have hml : m < S.length := by omega
                have hcm := Hcell.out m hml
                have g4 : (S[m] != (m : Int)) = true := by
                  rw [bne_iff_ne]
                  intro e
                  unfold foldOk at hx
                  rw [hm2] at hx
                  simp [List.getElem?_eq_getElem hml, e, hml] at hx
                have g6 : ¬ (m : Int) < 0 := by omega
                rw [hm2] at hck
                clear hx Hcell g1 g2
                go_wp2_with fail
                go_ret
                exact ⟨rfl, rfl⟩
              · have g3 : (S.length : Int) ≤ S[k] := Int.not_lt.1 g2
                clear hx Hcell
                go_wp2_with fail
                go_ret
                exact ⟨rfl, rfl⟩
        · obtain rfl : k = S.length := by omega
          clear hcell
          go_wp2_with fail
          go_ret
          rw [Hp.out]
          have : S.all (foldOk S S.length) = true := by
            rw [List.all_eq_true]
            intro x hx
            obtain ⟨j, hj, rfl⟩ := List.mem_iff_getElem.1 hx
            exact Hall.out j hj hj
          rw [this]
          exact ⟨by simp, rfl⟩
  · have hne : ((S.length : Int) != (n : Int)) = true := by rw [bne_iff_ne]; omega
    obtain ⟨a, cap, rfl⟩ := hS.form
    go_enter Tryd.func33, Tryd.ntmps33
    go_wp2_with fail
    go_ret
    rw [Hp.out]
    have : decide (S.length = n) = false := by simp [hl]
    rw [this]
    exact ⟨by simp, rfl⟩
end Go.Proofs.YtcabhanmeookkaaDoor.Al
