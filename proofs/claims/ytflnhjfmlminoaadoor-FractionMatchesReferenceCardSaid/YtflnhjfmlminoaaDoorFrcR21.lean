/- Layer 5's reference: Text, and the value of decimal digits. -/
import Derived.Test.YtflnhjfmlminoaaDoorFrcR20
import Derived.Test.YtflnhjfmlminoaaDoorFrcR12
import Derived.Test.YtflnhjfmlminoaaDoorFrcW12
import Derived.Test.YtflnhjfmlminoaaDoorFrcNum
namespace Go.Proofs.YtflnhjfmlminoaaDoor.Fr
set_option linter.unusedVariables false
set_option linter.unusedSimpArgs false
open Go.RowKit

set_option maxHeartbeats 1000000 in
theorem rtext_any (n d : Int) (w : World) :
    Calls Tryd.prog 23 #[.agg #[.int .i64 n, .int .i64 d]] w fun e w' => e = .returned (.tuple #[.string ⟨(txL n d).toArray⟩, .int .i64 (txE n d)]) ∧ Below w.heap.size w w' := by
  unfold txL txE
  have t1 := Two.new w 23 (.int .i64 n) (.int .i64 d)
  have hb0 : Below w.heap.size w (w.alloc (.cells #[.int .i64 n, .int .i64 d] 23)) := (Below.refl w.heap.size w).alloc (Nat.le_refl _) _
  have HV := Lib.hid (fun w => rvalid_any n d w)
  by_cases h : valP n d
  · rw [if_pos h, if_pos h]
    rw [valB_iff.2 h] at HV
    obtain ⟨h1, h2, h3, h4, -⟩ := id h
    have HI := Lib.itoa_length_le n (by omega) (by omega)
    have HD := Lib.itoa_length_le d (by omega) (by omega)
    have C1 := Lib.hid (fun w => rdecimal_any n (by omega) (by omega) w)
    have C2 := Lib.hid (fun w => rdecimal_any d (by omega) (by omega) w)
    by_cases hd : d = 1
    · subst hd
      rw [if_pos rfl, List.append_nil]
      go_enter Tryd.func23, Tryd.ntmps23
      go_wp2_with fail
      refine (HV.out _).mono ?_
      rintro e w1 ⟨rfl, hb1⟩
      obtain ⟨c1, c2, c3, c4⟩ := (t1.below hb1 t1.lt).facts
      go_wp2_with fail
      refine (C1.out _).mono ?_
      rintro e w2 ⟨rfl, rfl⟩
      go_wp2_with fail
      go_ret2
      exact ⟨rfl, hb0.trans (hb1.mono hb0.size)⟩
    · rw [if_neg hd]
      have hdf : (d == 1) = false := by simpa using hd
      have HJ := Lib.hid (join3 (Lib.itoa n) (Lib.itoa d))
      have s1 : (ByteArray.mk (Lib.itoa n).toArray).size ≤ 21 := by simpa [ByteArray.size] using HI
      have s2 : (ByteArray.mk (Lib.itoa d).toArray).size ≤ 21 := by simpa [ByteArray.size] using HD
      go_enter Tryd.func23, Tryd.ntmps23
      go_wp2_with fail
      refine (HV.out _).mono ?_
      rintro e w1 ⟨rfl, hb1⟩
      obtain ⟨c1, c2, c3, c4⟩ := (t1.below hb1 t1.lt).facts
      have D1 := Lib.hid (fun w => (C1.out w).mono (fun e w' h => (⟨h.1, h.2 ▸ Below.refl w.heap.size w⟩ : e = .returned (.string ⟨(Lib.itoa n).toArray⟩) ∧ Below w.heap.size w w')))
      have D2 := Lib.hid (fun w => (C2.out w).mono (fun e w' h => (⟨h.1, h.2 ▸ Below.refl w.heap.size w⟩ : e = .returned (.string ⟨(Lib.itoa d).toArray⟩) ∧ Below w.heap.size w w')))
      have t2 := t1.below hb1 t1.lt
      have hb2 := hb0.trans (hb1.mono hb0.size)
      go_wp2_with fail
      clear c1 c2 c3 c4 hb0 hb1 t1 C1 C2
      have hS : ∀ w' : World, Below w1.heap.size w1 w' → w'.cell? ⟨w.heap.size, 0, none⟩ = some (.int .i64 n) ∧ w'.cell? ⟨w.heap.size, 1, none⟩ = some (.int .i64 d) := fun w' hb => by
        obtain ⟨k1, k2, -, -⟩ := (t2.below hb t2.lt).facts
        exact ⟨k1, k2⟩
      have hr := Below.refl w1.heap.size w1
      have q1 : (9223372036854775807 < (Lib.itoa n).length + 1) = False := eq_false (by omega)
      have q2 : (9223372036854775807 < (Lib.itoa n).length + 1 + (Lib.itoa d).length) = False := eq_false (by omega)
      go_region_held3 (fun w' => w'.cell? ⟨w.heap.size, 0, none⟩ = some (.int .i64 n) ∧ w'.cell? ⟨w.heap.size, 1, none⟩ = some (.int .i64 d))
        (first | exact hS _ hr.drew | exact hS _ (by assumption))
        (first
          | (go_at_call 45; have hz := hx1; refine (D2.out _).mono ?_; rintro r x2 ⟨rfl, hx2'⟩; have hx2 : Below w1.heap.size w1 x2 := hx1.trans (hx2'.mono hx1.size))
          | (go_at_call 45; refine (D1.out _).mono ?_; rintro r x1 ⟨rfl, hx1'⟩; have hx1 : Below w1.heap.size w1 x1 := hr.drew.trans hx1'))
      go_wp2_with fail
      go_ret2
      refine ⟨?_, hb2.trans (hx2.mono hb2.size)⟩
      rw [← HJ.out]
      rfl
  · rw [if_neg h, if_neg h]
    rw [valB_false h] at HV
    go_enter Tryd.func23, Tryd.ntmps23
    go_wp2_with fail
    refine (HV.out _).mono ?_
    rintro e w1 ⟨rfl, hb1⟩
    go_wp2_with fail
    go_ret2
    exact ⟨rfl, hb0.trans (hb1.mono hb0.size)⟩

theorem drop_at (s : ByteArray) (k : Nat) (h : k < s.size) : s.data.toList.drop k = s[k] :: s.data.toList.drop (k + 1) := by
  rw [List.drop_eq_getElem_cons (by simpa using h)]; rfl

set_option maxRecDepth 100000 in
set_option maxHeartbeats 1000000 in
theorem rnumber_any (s : ByteArray) (hs : s.size ≤ 1000) (w : World) :
    Calls Tryd.prog 48 #[.string s] w fun e w' => e = .returned (.tuple #[.int .i64 (nuV s.data.toList), .bool (nuB s.data.toList)]) ∧ w = w' := by
  generalize hV : nuV s.data.toList = V
  generalize hB : nuB s.data.toList = B
  unfold nuV at hV
  unfold nuB at hB
  have hlen : s.data.toList.length = s.size := by rw [← Lib.size_eq]
  rw [hlen] at hB
  have HV := Lib.hid hV
  have HB := Lib.hid hB
  clear hV hB hlen
  go_enter Tryd.func48, Tryd.ntmps48
  go_wp2_with fail
  go_loop [4, 5] (fun n i => ∃ k m : Nat, i = .int .i64 (k : Int) ∧ n = .int .i64 (m : Int) ∧ k ≤ s.size ∧ m ≤ 4611686018427387909 ∧ Hid (numL 0 s.data.toList = numL m (s.data.toList.drop k))) (fun _ i => s.size - (intOf i).toNat)
  case atStart => exact ⟨0, 0, rfl, rfl, Nat.zero_le _, by omega, Lib.hid rfl⟩
  case round =>
    obtain ⟨k, m, rfl, rfl, hk, hm, HN⟩ := hrel
    have hmI : (m : Int) ≤ 4611686018427387909 := by omega
    clear hm
    by_cases hlt : k < s.size
    · have hn := HN.out
      rw [drop_at s k hlt, numL] at hn
      by_cases hc : s[k].toNat < 48 ∨ 57 < s[k].toNat ∨ 461168601842738790 < m
      · rw [if_pos hc] at hn
        have hV := HV.out
        have hB := HB.out
        rw [hn] at hV hB
        simp only at hV hB
        subst hV
        subst hB
        clear hn HN HV HB
        by_cases d1 : s[k].toNat < 48
        · clear hc
          go_wp2_with fail
          go_ret2
          exact ⟨rfl, rfl⟩
        · have d3 : decide ((s[k].toNat : Int) < 48) = false := by simp; omega
          have d4 : decide (s[k].toNat < 48) = false := by simp; omega
          by_cases d2 : 57 < s[k].toNat
          · clear hc d1
            go_wp2_with fail
            go_ret2
            exact ⟨rfl, rfl⟩
          · have d5 : decide ((57 : Int) < (s[k].toNat : Int)) = false := by simp; omega
            have d6 : decide (57 < s[k].toNat) = false := by simp; omega
            have d7 : decide ((461168601842738790 : Int) < (m : Int)) = true := by simp; omega
            clear hc d1 d2
            go_wp2_with fail
            go_ret2
            exact ⟨rfl, rfl⟩
      · rw [if_neg hc] at hn
        have HN2 := Lib.hid hn
        have hd1 : 48 ≤ s[k].toNat := by omega
        have hd2 : s[k].toNat ≤ 57 := by omega
        have hd3 : (m : Int) ≤ 461168601842738790 := by omega
        have d3 : decide ((s[k].toNat : Int) < 48) = false := by simp; omega
        have d4 : decide (s[k].toNat < 48) = false := by simp; omega
        have d5 : decide ((57 : Int) < (s[k].toNat : Int)) = false := by simp; omega
        have d6 : decide (57 < s[k].toNat) = false := by simp; omega
        have d7 : decide ((461168601842738790 : Int) < (m : Int)) = false := by simp; omega
        clear hn hc HN
        go_wp2_with fail
        go_round
        case rel => exact ⟨k + 1, 10 * m + (s[k].toNat - 48), by go_num, (by congr 1; omega), by omega, by omega, HN2⟩
        case measure => simp [intOf]; omega
    · obtain rfl : k = s.size := by omega
      have hn := HN.out
      rw [List.drop_of_length_le (by rw [← Lib.size_eq]; omega), numL] at hn
      have hV := HV.out
      have hB := HB.out
      rw [hn] at hV hB
      simp only at hV hB
      subst hV
      have hB2 : B = decide ((0 : Int) < (s.size : Int)) := by rw [← hB]; simp
      subst hB2
      clear hn HN HV HB hB
      go_wp2_with fail
      go_ret2
      exact ⟨rfl, rfl⟩
end Go.Proofs.YtflnhjfmlminoaaDoor.Fr
