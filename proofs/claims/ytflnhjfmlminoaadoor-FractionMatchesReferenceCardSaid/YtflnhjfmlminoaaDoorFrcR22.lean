/- Layer 5's reference: Parse. -/
import Derived.Test.YtflnhjfmlminoaaDoorFrcR21
import Derived.Test.YtflnhjfmlminoaaDoorFrcW14
namespace Go.Proofs.YtflnhjfmlminoaaDoor.Fr
set_option linter.unusedVariables false
set_option linter.unusedSimpArgs false
open Go.RowKit

theorem index_both : ∀ (l : List UInt8) (c : UInt8), (Lib.indexByte l c < 0 ∧ ∀ j (hj : j < l.length), l[j] ≠ c) ∨ (∃ i : Nat, Lib.indexByte l c = (i : Int) ∧ (∃ h : i < l.length, l[i] = c) ∧ ∀ j (hj : j < l.length), j < i → l[j] ≠ c)
  | [], c => .inl ⟨by simp [Lib.indexByte], fun j hj => absurd hj (Nat.not_lt_zero _)⟩
  | b :: l, c => by
    simp only [Lib.indexByte]
    by_cases hb : b = c
    · refine .inr ⟨0, by simp [hb], ⟨by simp, by simpa using hb⟩, fun j hj h => absurd h (Nat.not_lt_zero _)⟩
    · rcases index_both l c with ⟨h1, h2⟩ | ⟨i, h1, ⟨h2, h3⟩, h4⟩
      · refine .inl ⟨by have := Lib.indexByte_ge l c; simp [hb]; split <;> omega, fun j hj => ?_⟩
        cases j with
        | zero => simpa using hb
        | succ j => simpa using h2 j (by simpa using hj)
      · refine .inr ⟨i + 1, ?_, ⟨by simpa using h2, by simpa using h3⟩, fun j hj h => ?_⟩
        · rw [h1]
          have : ¬ ((i : Int) < 0) := by omega
          simp [hb, this]
        · cases j with
          | zero => simpa using hb
          | succ j => simpa using h4 j (by simpa using hj) (by omega)
theorem get_u8 (s : ByteArray) (j : Nat) (h : j < s.size) (h2 : j < s.data.toList.length) : s.data.toList[j] = s[j] := rfl
theorem slash_at (s : ByteArray) : ∃ K : Nat, K ≤ s.size ∧ (∀ j (h : j < s.size), j < K → s[j].toNat ≠ 47) ∧ (s.extract 0 K).data.toList = cutF s.data.toList ∧
    ((K = s.size ∧ cutG s.data.toList = [49]) ∨ (∃ h : K < s.size, s[K].toNat = 47 ∧ (s.extract (K + 1) s.size).data.toList = cutG s.data.toList)) := by
  unfold cutF cutG
  rcases index_both s.data.toList 47 with ⟨h1, h2⟩ | ⟨i, h1, ⟨h2, h3⟩, h4⟩
  · refine ⟨s.size, Nat.le_refl _, fun j h _ e => h2 j (by rw [← Lib.size_eq]; exact h) (UInt8.toNat_inj.1 e), ?_, .inl ⟨rfl, by rw [if_pos h1]⟩⟩
    rw [if_pos h1]
    simp
  · have hi : i < s.size := by rw [Lib.size_eq]; exact h2
    have hn : ¬ Lib.indexByte s.data.toList 47 < 0 := by omega
    refine ⟨i, Nat.le_of_lt hi, fun j h k e => h4 j (by rw [← Lib.size_eq]; exact h) k (UInt8.toNat_inj.1 e), ?_, .inr ⟨hi, ?_, ?_⟩⟩
    · rw [if_neg hn, h1]
      simp
    · have := congrArg UInt8.toNat h3
      exact this
    · rw [if_neg hn, h1, Lib.extract_to_end]
      rfl
theorem sign_at (F : ByteArray) : (F.size = 0 ∧ negL F.data.toList = false ∧ magL F.data.toList = F.data.toList) ∨ (∃ h : 0 < F.size, F[0].toNat ≠ 45 ∧ negL F.data.toList = false ∧ magL F.data.toList = F.data.toList) ∨ (∃ h : 0 < F.size, F[0].toNat = 45 ∧ negL F.data.toList = true ∧ (F.extract 1 F.size).data.toList = magL F.data.toList) := by
  by_cases h : 0 < F.size
  · have hl : 0 < F.data.toList.length := by rw [← Lib.size_eq]; exact h
    have hh : F.data.toList.head? = some F[0] := by
      rw [List.head?_eq_getElem?, List.getElem?_eq_getElem hl]
      rfl
    by_cases e : F[0].toNat = 45
    · have e1 : negL F.data.toList = true := by
        unfold negL
        rw [hh, show F[0] = 45 from UInt8.toNat_inj.1 e]
        rfl
      refine .inr (.inr ⟨h, e, e1, ?_⟩)
      unfold magL
      rw [if_pos e1, Lib.extract_to_end]
      simp
    · have e1 : negL F.data.toList = false := by
        unfold negL
        rw [hh]
        simp only [beq_eq_false_iff_ne, ne_eq, Option.some.injEq]
        exact fun k => e (by rw [k]; rfl)
      refine .inr (.inl ⟨h, e, e1, ?_⟩)
      unfold magL
      rw [if_neg (by rw [e1]; simp)]
  · have h0 : F.data.toList = [] := List.eq_nil_of_length_eq_zero (by rw [← Lib.size_eq]; omega)
    refine .inl ⟨by omega, ?_, ?_⟩
    · rw [h0]; rfl
    · rw [h0]; rfl
theorem nu_one : nuV [49] = 1 ∧ nuB [49] = true := by decide

set_option maxRecDepth 100000 in
set_option maxHeartbeats 8000000 in
theorem rparse_any (s : ByteArray) (hs : s.size ≤ 1000) (w : World) :
    Calls Tryd.prog 25 #[.string s] w fun e w' => e = .returned (.tuple #[.agg #[.int .i64 (parV s.data.toList).1, .int .i64 (parV s.data.toList).2.1], .int .i64 (parV s.data.toList).2.2]) ∧ Below w.heap.size w w' := by
  have hP := par_f s.data.toList
  generalize parV s.data.toList = R at *
  have t0 := Two.new w 23 (.int .i64 0) (.int .i64 0)
  have B0 : Below w.heap.size w (w.alloc (.cells #[.int .i64 0, .int .i64 0] 23)) := (Below.refl _ _).alloc (Nat.le_refl _) _
  obtain ⟨K, hK, hno, hF, hG⟩ := slash_at s
  have HNO := Lib.hid hno
  have hFs : (s.extract 0 K).size = K := by simp; omega
  have hN := fun (F : ByteArray) (h : F.size ≤ 1000) w => rnumber_any F h w
  unfold fN fD fB at hP
  rw [← hF] at hP
  have hsg := sign_at (s.extract 0 K)
  generalize hFE : s.extract 0 K = Fr at *
  have HFE := Lib.hid hFE
  have hFr : Fr.size ≤ 1000 := by omega
  have hvb := nuV_bd (magL Fr.data.toList)
  clear hno hF hFE hFs
  rcases hG with ⟨hKs, hG⟩ | ⟨hKs, hsl, hG⟩
  · obtain rfl : s = Fr := by rw [← HFE.out, hKs]; simp
    clear HFE
    rcases hsg with ⟨hz, hneg, hm⟩ | ⟨hz, hc, hneg, hm⟩ | ⟨hz, hc, hneg, hm⟩
    · obtain rfl : s = ByteArray.empty := ByteArray.size_eq_zero_iff.1 hz
      have HN1 := Lib.hid (fun w => hN ByteArray.empty hFr w)
      rw [hm] at hP hvb
      have hn0 : nuV ByteArray.empty.data.toList = 0 ∧ nuB ByteArray.empty.data.toList = false := by decide
      rw [hn0.1, hn0.2] at hP HN1
      clear hn0
      rw [hneg] at hP
      simp only [Bool.false_eq_true, if_false, if_true] at hP
      rw [hG, nu_one.1, nu_one.2] at hP
      clear hG
      clear hvb hN hneg
      have HP := Lib.hid hP
      clear hP
      go_enter Tryd.func25, Tryd.ntmps25
      go_wp2_with fail
      go_loop [4] (fun x => ∃ k : Nat, k ≤ K ∧ x = .int .i64 (k : Int)) (fun x => K - (intOf x).toNat)
      case atStart => exact ⟨0, Nat.zero_le _, rfl⟩
      case round =>
        obtain ⟨k, hk, rfl⟩ := hrel
        by_cases hlt : k < K
        · exact absurd hlt (by rw [hKs]; exact Nat.not_lt_zero k)
        · obtain rfl : k = K := by omega
          clear hk hlt HNO
          go_wp2_with fail
          refine (HN1.out _).mono ?_
          rintro e w1 ⟨rfl, rfl⟩
          · skip
            go_wp2_with fail
            have tz := t0.alloc (.cells #[.int .i64 0, .int .i64 1] 23)
            have tf := Two.at (w := w.alloc (.cells #[.int .i64 0, .int .i64 0] 23)) (B := w.heap.size + 1) (by simp) 23 (.int .i64 0) (.int .i64 1)
            have BF := B0.alloc B0.size (.cells #[.int .i64 0, .int .i64 1] 23)
            refine (rtext_any 0 1 _).mono ?_
            rintro e w2 ⟨rfl, hb2⟩
            obtain ⟨c1, c2, c3, c4⟩ := (tz.below hb2 tz.lt).facts
            obtain ⟨d1, d2, d3, d4⟩ := (tf.below hb2 tf.lt).facts
            have hb3 := BF.trans (hb2.mono BF.size)
            clear tz tf BF hb2 t0 B0
            have hP := HP.out
            rw [if_neg (by simp)] at hP
            subst hP
            clear HP
            go_wp2_with fail
            refine bodyPost_ret (v := .tuple #[.agg #[.int .i64 0, .int .i64 0], .int .i64 5]) ?_ rfl ⟨rfl, ?_⟩
            · simp [results, Tryd.results25, go_sem, c1, c2]
            · exact (hb3.setCell (Nat.le_refl _) _).setCell (Nat.le_refl _) _
    · have hc1 : ((s[0].toNat : Int) == 45) = false := by simp; omega
      have hc2 : (s[0].toNat == 45) = false := by simpa using hc
      clear hc
      have HN1 := Lib.hid (fun w => hN s hFr w)
      rw [hm] at hP hvb
      generalize nuV s.data.toList = n at *
      generalize nuB s.data.toList = b1 at *
      rw [hneg] at hP
      simp only [Bool.false_eq_true, if_false, if_true] at hP
      rw [hG, nu_one.1, nu_one.2] at hP
      clear hG
      clear hvb hN hneg
      have HP := Lib.hid hP
      clear hP
      go_enter Tryd.func25, Tryd.ntmps25
      go_wp2_with fail
      go_loop [4] (fun x => ∃ k : Nat, k ≤ K ∧ x = .int .i64 (k : Int)) (fun x => K - (intOf x).toNat)
      case atStart => exact ⟨0, Nat.zero_le _, rfl⟩
      case round =>
        obtain ⟨k, hk, rfl⟩ := hrel
        by_cases hlt : k < K
        · have hks : k < s.size := by omega
          have hne := HNO.out k hks hlt
          have hne1 : ((s[k].toNat : Int) == 47) = false := by simp; omega
          have hne2 : (s[k].toNat == 47) = false := by simpa using hne
          clear hne
          go_wp2_with fail
          go_round
          case rel => exact ⟨k + 1, by omega, by go_num⟩
          case measure => simp [intOf]; omega
        · obtain rfl : k = K := by omega
          clear hk hlt HNO
          go_wp2_with fail
          refine (HN1.out _).mono ?_
          rintro e w1 ⟨rfl, rfl⟩
          rcases Bool.eq_false_or_eq_true b1 with rfl | rfl
          · skip
            go_wp2_with fail
            have tz := t0.alloc (.cells #[.int .i64 n, .int .i64 1] 23)
            have tf := Two.at (w := w.alloc (.cells #[.int .i64 0, .int .i64 0] 23)) (B := w.heap.size + 1) (by simp) 23 (.int .i64 n) (.int .i64 1)
            have BF := B0.alloc B0.size (.cells #[.int .i64 n, .int .i64 1] 23)
            refine (rtext_any n 1 _).mono ?_
            rintro e w2 ⟨rfl, hb2⟩
            obtain ⟨c1, c2, c3, c4⟩ := (tz.below hb2 tz.lt).facts
            obtain ⟨d1, d2, d3, d4⟩ := (tf.below hb2 tf.lt).facts
            have hb3 := BF.trans (hb2.mono BF.size)
            clear tz tf BF hb2 t0 B0
            by_cases hv : valP n 1
            · have he : txE n 1 = 0 := txE_zero.2 hv
              by_cases ht : txL n 1 = s.data.toList
              · have hP := HP.out
                rw [if_pos ⟨by simp, hv, ht⟩] at hP
                subst hP
                have hteq := bytes_eq.2 ht
                rw [he, hteq]
                clear HP hv ht he hteq
                go_wp2_with fail
                refine bodyPost_ret (v := .tuple #[.agg #[.int .i64 n, .int .i64 1], .int .i64 0]) ?_ rfl ⟨rfl, ?_⟩
                · simp [results, Tryd.results25, go_sem, c1, c2]
                · exact (hb3.setCell (Nat.le_refl _) _).setCell (Nat.le_refl _) _
              · have hP := HP.out
                rw [if_neg (fun h => ht h.2.2)] at hP
                subst hP
                have htne : (txL n 1 == s.toList) = false := by
                  rw [beq_eq_false_iff_ne, ByteArray.toList_eq]
                  exact ht
                rw [he]
                clear HP hv ht he
                go_wp2_with fail
                refine bodyPost_ret (v := .tuple #[.agg #[.int .i64 0, .int .i64 0], .int .i64 5]) ?_ rfl ⟨rfl, ?_⟩
                · simp [results, Tryd.results25, go_sem, c1, c2]
                · exact (hb3.setCell (Nat.le_refl _) _).setCell (Nat.le_refl _) _
            · have he : txE n 1 = 1 := by unfold txE; rw [if_neg hv]
              have hP := HP.out
              rw [if_neg (fun h => hv h.2.1)] at hP
              subst hP
              rw [he]
              clear HP hv he
              go_wp2_with fail
              refine bodyPost_ret (v := .tuple #[.agg #[.int .i64 0, .int .i64 0], .int .i64 5]) ?_ rfl ⟨rfl, ?_⟩
              · simp [results, Tryd.results25, go_sem, c1, c2]
              · exact (hb3.setCell (Nat.le_refl _) _).setCell (Nat.le_refl _) _
          · skip
            go_wp2_with fail
            have tz := t0.alloc (.cells #[.int .i64 n, .int .i64 1] 23)
            have tf := Two.at (w := w.alloc (.cells #[.int .i64 0, .int .i64 0] 23)) (B := w.heap.size + 1) (by simp) 23 (.int .i64 n) (.int .i64 1)
            have BF := B0.alloc B0.size (.cells #[.int .i64 n, .int .i64 1] 23)
            refine (rtext_any n 1 _).mono ?_
            rintro e w2 ⟨rfl, hb2⟩
            obtain ⟨c1, c2, c3, c4⟩ := (tz.below hb2 tz.lt).facts
            obtain ⟨d1, d2, d3, d4⟩ := (tf.below hb2 tf.lt).facts
            have hb3 := BF.trans (hb2.mono BF.size)
            clear tz tf BF hb2 t0 B0
            have hP := HP.out
            rw [if_neg (by simp)] at hP
            subst hP
            clear HP
            go_wp2_with fail
            refine bodyPost_ret (v := .tuple #[.agg #[.int .i64 0, .int .i64 0], .int .i64 5]) ?_ rfl ⟨rfl, ?_⟩
            · simp [results, Tryd.results25, go_sem, c1, c2]
            · exact (hb3.setCell (Nat.le_refl _) _).setCell (Nat.le_refl _) _
    · have hc1 : ((s[0].toNat : Int) == 45) = true := by simp; omega
      have hc2 : (s[0].toNat == 45) = true := by simpa using hc
      clear hc
      have hMs : (s.extract 1 s.size).size ≤ 1000 := by simp; omega
      have HN1 := Lib.hid (fun w => hN (s.extract 1 s.size) hMs w)
      rw [hm] at HN1
      clear hm hMs
      generalize nuV (magL s.data.toList) = n at *
      generalize nuB (magL s.data.toList) = b1 at *
      rw [hneg] at hP
      simp only [Bool.false_eq_true, if_false, if_true] at hP
      have hng : IntKind.i64.wrap (-n) = -n := IntWalk.i64_in _ (by omega)
      rw [hG, nu_one.1, nu_one.2] at hP
      clear hG
      clear hvb hN hneg
      have HP := Lib.hid hP
      clear hP
      go_enter Tryd.func25, Tryd.ntmps25
      go_wp2_with fail
      go_loop [4] (fun x => ∃ k : Nat, k ≤ K ∧ x = .int .i64 (k : Int)) (fun x => K - (intOf x).toNat)
      case atStart => exact ⟨0, Nat.zero_le _, rfl⟩
      case round =>
        obtain ⟨k, hk, rfl⟩ := hrel
        by_cases hlt : k < K
        · have hks : k < s.size := by omega
          have hne := HNO.out k hks hlt
          have hne1 : ((s[k].toNat : Int) == 47) = false := by simp; omega
          have hne2 : (s[k].toNat == 47) = false := by simpa using hne
          clear hne
          go_wp2_with fail
          go_round
          case rel => exact ⟨k + 1, by omega, by go_num⟩
          case measure => simp [intOf]; omega
        · obtain rfl : k = K := by omega
          clear hk hlt HNO
          go_wp2_with fail
          refine (HN1.out _).mono ?_
          rintro e w1 ⟨rfl, rfl⟩
          rcases Bool.eq_false_or_eq_true b1 with rfl | rfl
          · skip
            go_wp2_with fail
            have tz := t0.alloc (.cells #[.int .i64 (-n), .int .i64 1] 23)
            have tf := Two.at (w := w.alloc (.cells #[.int .i64 0, .int .i64 0] 23)) (B := w.heap.size + 1) (by simp) 23 (.int .i64 (-n)) (.int .i64 1)
            have BF := B0.alloc B0.size (.cells #[.int .i64 (-n), .int .i64 1] 23)
            refine (rtext_any (-n) 1 _).mono ?_
            rintro e w2 ⟨rfl, hb2⟩
            obtain ⟨c1, c2, c3, c4⟩ := (tz.below hb2 tz.lt).facts
            obtain ⟨d1, d2, d3, d4⟩ := (tf.below hb2 tf.lt).facts
            have hb3 := BF.trans (hb2.mono BF.size)
            clear tz tf BF hb2 t0 B0
            by_cases hv : valP (-n) 1
            · have he : txE (-n) 1 = 0 := txE_zero.2 hv
              by_cases ht : txL (-n) 1 = s.data.toList
              · have hP := HP.out
                rw [if_pos ⟨by simp, hv, ht⟩] at hP
                subst hP
                have hteq := bytes_eq.2 ht
                rw [he, hteq]
                clear HP hv ht he hteq
                go_wp2_with fail
                refine bodyPost_ret (v := .tuple #[.agg #[.int .i64 (-n), .int .i64 1], .int .i64 0]) ?_ rfl ⟨rfl, ?_⟩
                · simp [results, Tryd.results25, go_sem, c1, c2]
                · exact (hb3.setCell (Nat.le_refl _) _).setCell (Nat.le_refl _) _
              · have hP := HP.out
                rw [if_neg (fun h => ht h.2.2)] at hP
                subst hP
                have htne : (txL (-n) 1 == s.toList) = false := by
                  rw [beq_eq_false_iff_ne, ByteArray.toList_eq]
                  exact ht
                rw [he]
                clear HP hv ht he
                go_wp2_with fail
                refine bodyPost_ret (v := .tuple #[.agg #[.int .i64 0, .int .i64 0], .int .i64 5]) ?_ rfl ⟨rfl, ?_⟩
                · simp [results, Tryd.results25, go_sem, c1, c2]
                · exact (hb3.setCell (Nat.le_refl _) _).setCell (Nat.le_refl _) _
            · have he : txE (-n) 1 = 1 := by unfold txE; rw [if_neg hv]
              have hP := HP.out
              rw [if_neg (fun h => hv h.2.1)] at hP
              subst hP
              rw [he]
              clear HP hv he
              go_wp2_with fail
              refine bodyPost_ret (v := .tuple #[.agg #[.int .i64 0, .int .i64 0], .int .i64 5]) ?_ rfl ⟨rfl, ?_⟩
              · simp [results, Tryd.results25, go_sem, c1, c2]
              · exact (hb3.setCell (Nat.le_refl _) _).setCell (Nat.le_refl _) _
          · skip
            go_wp2_with fail
            have tz := t0.alloc (.cells #[.int .i64 (-n), .int .i64 1] 23)
            have tf := Two.at (w := w.alloc (.cells #[.int .i64 0, .int .i64 0] 23)) (B := w.heap.size + 1) (by simp) 23 (.int .i64 (-n)) (.int .i64 1)
            have BF := B0.alloc B0.size (.cells #[.int .i64 (-n), .int .i64 1] 23)
            refine (rtext_any (-n) 1 _).mono ?_
            rintro e w2 ⟨rfl, hb2⟩
            obtain ⟨c1, c2, c3, c4⟩ := (tz.below hb2 tz.lt).facts
            obtain ⟨d1, d2, d3, d4⟩ := (tf.below hb2 tf.lt).facts
            have hb3 := BF.trans (hb2.mono BF.size)
            clear tz tf BF hb2 t0 B0
            have hP := HP.out
            rw [if_neg (by simp)] at hP
            subst hP
            clear HP
            go_wp2_with fail
            refine bodyPost_ret (v := .tuple #[.agg #[.int .i64 0, .int .i64 0], .int .i64 5]) ?_ rfl ⟨rfl, ?_⟩
            · simp [results, Tryd.results25, go_sem, c1, c2]
            · exact (hb3.setCell (Nat.le_refl _) _).setCell (Nat.le_refl _) _
  · have hs1 : ((s[K].toNat : Int) == 47) = true := by simp; omega
    have hs2 : (s[K].toNat == 47) = true := by simpa using hsl
    clear hsl
    rcases hsg with ⟨hz, hneg, hm⟩ | ⟨hz, hc, hneg, hm⟩ | ⟨hz, hc, hneg, hm⟩
    · obtain rfl : Fr = ByteArray.empty := ByteArray.size_eq_zero_iff.1 hz
      have HN1 := Lib.hid (fun w => hN ByteArray.empty hFr w)
      rw [hm] at hP hvb
      have hn0 : nuV ByteArray.empty.data.toList = 0 ∧ nuB ByteArray.empty.data.toList = false := by decide
      rw [hn0.1, hn0.2] at hP HN1
      clear hn0
      rw [hneg] at hP
      simp only [Bool.false_eq_true, if_false, if_true] at hP
      rw [← hG] at hP
      have HN2 := Lib.hid (fun w => hN (s.extract (K + 1) s.size) (by simp; omega) w)
      generalize nuV (s.extract (K + 1) s.size).data.toList = d at *
      generalize nuB (s.extract (K + 1) s.size).data.toList = b2 at *
      clear hG
      clear hvb hN hneg
      have HP := Lib.hid hP
      clear hP
      go_enter Tryd.func25, Tryd.ntmps25
      go_wp2_with fail
      go_loop [4] (fun x => ∃ k : Nat, k ≤ K ∧ x = .int .i64 (k : Int)) (fun x => K - (intOf x).toNat)
      case atStart => exact ⟨0, Nat.zero_le _, rfl⟩
      case round =>
        obtain ⟨k, hk, rfl⟩ := hrel
        by_cases hlt : k < K
        · have hks : k < s.size := by omega
          have hne := HNO.out k hks hlt
          have hne1 : ((s[k].toNat : Int) == 47) = false := by simp; omega
          have hne2 : (s[k].toNat == 47) = false := by simpa using hne
          clear hne
          go_wp2_with fail
          go_round
          case rel => exact ⟨k + 1, by omega, by go_num⟩
          case measure => simp [intOf]; omega
        · obtain rfl : k = K := by omega
          clear hk hlt HNO
          go_upto_region 5 with fail
          rw [HFE.out]
          clear HFE
          go_wp2_with fail
          refine (HN1.out _).mono ?_
          rintro e w1 ⟨rfl, rfl⟩
          go_wp2_with fail
          refine (HN2.out _).mono ?_
          rintro e w1 ⟨rfl, rfl⟩
          · skip
            go_wp2_with fail
            have tz := t0.alloc (.cells #[.int .i64 0, .int .i64 d] 23)
            have tf := Two.at (w := w.alloc (.cells #[.int .i64 0, .int .i64 0] 23)) (B := w.heap.size + 1) (by simp) 23 (.int .i64 0) (.int .i64 d)
            have BF := B0.alloc B0.size (.cells #[.int .i64 0, .int .i64 d] 23)
            refine (rtext_any 0 d _).mono ?_
            rintro e w2 ⟨rfl, hb2⟩
            obtain ⟨c1, c2, c3, c4⟩ := (tz.below hb2 tz.lt).facts
            obtain ⟨d1, d2, d3, d4⟩ := (tf.below hb2 tf.lt).facts
            have hb3 := BF.trans (hb2.mono BF.size)
            clear tz tf BF hb2 t0 B0
            have hP := HP.out
            rw [if_neg (by simp)] at hP
            subst hP
            clear HP
            go_wp2_with fail
            refine bodyPost_ret (v := .tuple #[.agg #[.int .i64 0, .int .i64 0], .int .i64 5]) ?_ rfl ⟨rfl, ?_⟩
            · simp [results, Tryd.results25, go_sem, c1, c2]
            · exact (hb3.setCell (Nat.le_refl _) _).setCell (Nat.le_refl _) _
    · have hc1 : ((Fr[0].toNat : Int) == 45) = false := by simp; omega
      have hc2 : (Fr[0].toNat == 45) = false := by simpa using hc
      clear hc
      have HN1 := Lib.hid (fun w => hN Fr hFr w)
      rw [hm] at hP hvb
      generalize nuV Fr.data.toList = n at *
      generalize nuB Fr.data.toList = b1 at *
      rw [hneg] at hP
      simp only [Bool.false_eq_true, if_false, if_true] at hP
      rw [← hG] at hP
      have HN2 := Lib.hid (fun w => hN (s.extract (K + 1) s.size) (by simp; omega) w)
      generalize nuV (s.extract (K + 1) s.size).data.toList = d at *
      generalize nuB (s.extract (K + 1) s.size).data.toList = b2 at *
      clear hG
      clear hvb hN hneg
      have HP := Lib.hid hP
      clear hP
      go_enter Tryd.func25, Tryd.ntmps25
      go_wp2_with fail
      go_loop [4] (fun x => ∃ k : Nat, k ≤ K ∧ x = .int .i64 (k : Int)) (fun x => K - (intOf x).toNat)
      case atStart => exact ⟨0, Nat.zero_le _, rfl⟩
      case round =>
        obtain ⟨k, hk, rfl⟩ := hrel
        by_cases hlt : k < K
        · have hks : k < s.size := by omega
          have hne := HNO.out k hks hlt
          have hne1 : ((s[k].toNat : Int) == 47) = false := by simp; omega
          have hne2 : (s[k].toNat == 47) = false := by simpa using hne
          clear hne
          go_wp2_with fail
          go_round
          case rel => exact ⟨k + 1, by omega, by go_num⟩
          case measure => simp [intOf]; omega
        · obtain rfl : k = K := by omega
          clear hk hlt HNO
          go_upto_region 5 with fail
          rw [HFE.out]
          clear HFE
          go_wp2_with fail
          refine (HN1.out _).mono ?_
          rintro e w1 ⟨rfl, rfl⟩
          go_wp2_with fail
          refine (HN2.out _).mono ?_
          rintro e w1 ⟨rfl, rfl⟩
          rcases Bool.eq_false_or_eq_true b1 with rfl | rfl
          · rcases Bool.eq_false_or_eq_true b2 with rfl | rfl
            · skip
              go_wp2_with fail
              have tz := t0.alloc (.cells #[.int .i64 n, .int .i64 d] 23)
              have tf := Two.at (w := w.alloc (.cells #[.int .i64 0, .int .i64 0] 23)) (B := w.heap.size + 1) (by simp) 23 (.int .i64 n) (.int .i64 d)
              have BF := B0.alloc B0.size (.cells #[.int .i64 n, .int .i64 d] 23)
              refine (rtext_any n d _).mono ?_
              rintro e w2 ⟨rfl, hb2⟩
              obtain ⟨c1, c2, c3, c4⟩ := (tz.below hb2 tz.lt).facts
              obtain ⟨d1, d2, d3, d4⟩ := (tf.below hb2 tf.lt).facts
              have hb3 := BF.trans (hb2.mono BF.size)
              clear tz tf BF hb2 t0 B0
              by_cases hv : valP n d
              · have he : txE n d = 0 := txE_zero.2 hv
                by_cases ht : txL n d = s.data.toList
                · have hP := HP.out
                  rw [if_pos ⟨by simp, hv, ht⟩] at hP
                  subst hP
                  have hteq := bytes_eq.2 ht
                  rw [he, hteq]
                  clear HP hv ht he hteq
                  go_wp2_with fail
                  refine bodyPost_ret (v := .tuple #[.agg #[.int .i64 n, .int .i64 d], .int .i64 0]) ?_ rfl ⟨rfl, ?_⟩
                  · simp [results, Tryd.results25, go_sem, c1, c2]
                  · exact (hb3.setCell (Nat.le_refl _) _).setCell (Nat.le_refl _) _
                · have hP := HP.out
                  rw [if_neg (fun h => ht h.2.2)] at hP
                  subst hP
                  have htne : (txL n d == s.toList) = false := by
                    rw [beq_eq_false_iff_ne, ByteArray.toList_eq]
                    exact ht
                  rw [he]
                  clear HP hv ht he
                  go_wp2_with fail
                  refine bodyPost_ret (v := .tuple #[.agg #[.int .i64 0, .int .i64 0], .int .i64 5]) ?_ rfl ⟨rfl, ?_⟩
                  · simp [results, Tryd.results25, go_sem, c1, c2]
                  · exact (hb3.setCell (Nat.le_refl _) _).setCell (Nat.le_refl _) _
              · have he : txE n d = 1 := by unfold txE; rw [if_neg hv]
                have hP := HP.out
                rw [if_neg (fun h => hv h.2.1)] at hP
                subst hP
                rw [he]
                clear HP hv he
                go_wp2_with fail
                refine bodyPost_ret (v := .tuple #[.agg #[.int .i64 0, .int .i64 0], .int .i64 5]) ?_ rfl ⟨rfl, ?_⟩
                · simp [results, Tryd.results25, go_sem, c1, c2]
                · exact (hb3.setCell (Nat.le_refl _) _).setCell (Nat.le_refl _) _
            · skip
              go_wp2_with fail
              have tz := t0.alloc (.cells #[.int .i64 n, .int .i64 d] 23)
              have tf := Two.at (w := w.alloc (.cells #[.int .i64 0, .int .i64 0] 23)) (B := w.heap.size + 1) (by simp) 23 (.int .i64 n) (.int .i64 d)
              have BF := B0.alloc B0.size (.cells #[.int .i64 n, .int .i64 d] 23)
              refine (rtext_any n d _).mono ?_
              rintro e w2 ⟨rfl, hb2⟩
              obtain ⟨c1, c2, c3, c4⟩ := (tz.below hb2 tz.lt).facts
              obtain ⟨d1, d2, d3, d4⟩ := (tf.below hb2 tf.lt).facts
              have hb3 := BF.trans (hb2.mono BF.size)
              clear tz tf BF hb2 t0 B0
              have hP := HP.out
              rw [if_neg (by simp)] at hP
              subst hP
              clear HP
              go_wp2_with fail
              refine bodyPost_ret (v := .tuple #[.agg #[.int .i64 0, .int .i64 0], .int .i64 5]) ?_ rfl ⟨rfl, ?_⟩
              · simp [results, Tryd.results25, go_sem, c1, c2]
              · exact (hb3.setCell (Nat.le_refl _) _).setCell (Nat.le_refl _) _
          · skip
            go_wp2_with fail
            have tz := t0.alloc (.cells #[.int .i64 n, .int .i64 d] 23)
            have tf := Two.at (w := w.alloc (.cells #[.int .i64 0, .int .i64 0] 23)) (B := w.heap.size + 1) (by simp) 23 (.int .i64 n) (.int .i64 d)
            have BF := B0.alloc B0.size (.cells #[.int .i64 n, .int .i64 d] 23)
            refine (rtext_any n d _).mono ?_
            rintro e w2 ⟨rfl, hb2⟩
            obtain ⟨c1, c2, c3, c4⟩ := (tz.below hb2 tz.lt).facts
            obtain ⟨d1, d2, d3, d4⟩ := (tf.below hb2 tf.lt).facts
            have hb3 := BF.trans (hb2.mono BF.size)
            clear tz tf BF hb2 t0 B0
            have hP := HP.out
            rw [if_neg (by simp)] at hP
            subst hP
            clear HP
            go_wp2_with fail
            refine bodyPost_ret (v := .tuple #[.agg #[.int .i64 0, .int .i64 0], .int .i64 5]) ?_ rfl ⟨rfl, ?_⟩
            · simp [results, Tryd.results25, go_sem, c1, c2]
            · exact (hb3.setCell (Nat.le_refl _) _).setCell (Nat.le_refl _) _
    · have hc1 : ((Fr[0].toNat : Int) == 45) = true := by simp; omega
      have hc2 : (Fr[0].toNat == 45) = true := by simpa using hc
      clear hc
      have hMs : (Fr.extract 1 Fr.size).size ≤ 1000 := by simp; omega
      have HN1 := Lib.hid (fun w => hN (Fr.extract 1 Fr.size) hMs w)
      rw [hm] at HN1
      clear hm hMs
      generalize nuV (magL Fr.data.toList) = n at *
      generalize nuB (magL Fr.data.toList) = b1 at *
      rw [hneg] at hP
      simp only [Bool.false_eq_true, if_false, if_true] at hP
      have hng : IntKind.i64.wrap (-n) = -n := IntWalk.i64_in _ (by omega)
      rw [← hG] at hP
      have HN2 := Lib.hid (fun w => hN (s.extract (K + 1) s.size) (by simp; omega) w)
      generalize nuV (s.extract (K + 1) s.size).data.toList = d at *
      generalize nuB (s.extract (K + 1) s.size).data.toList = b2 at *
      clear hG
      clear hvb hN hneg
      have HP := Lib.hid hP
      clear hP
      go_enter Tryd.func25, Tryd.ntmps25
      go_wp2_with fail
      go_loop [4] (fun x => ∃ k : Nat, k ≤ K ∧ x = .int .i64 (k : Int)) (fun x => K - (intOf x).toNat)
      case atStart => exact ⟨0, Nat.zero_le _, rfl⟩
      case round =>
        obtain ⟨k, hk, rfl⟩ := hrel
        by_cases hlt : k < K
        · have hks : k < s.size := by omega
          have hne := HNO.out k hks hlt
          have hne1 : ((s[k].toNat : Int) == 47) = false := by simp; omega
          have hne2 : (s[k].toNat == 47) = false := by simpa using hne
          clear hne
          go_wp2_with fail
          go_round
          case rel => exact ⟨k + 1, by omega, by go_num⟩
          case measure => simp [intOf]; omega
        · obtain rfl : k = K := by omega
          clear hk hlt HNO
          go_upto_region 5 with fail
          rw [HFE.out]
          clear HFE
          go_wp2_with fail
          refine (HN1.out _).mono ?_
          rintro e w1 ⟨rfl, rfl⟩
          go_wp2_with fail
          refine (HN2.out _).mono ?_
          rintro e w1 ⟨rfl, rfl⟩
          rcases Bool.eq_false_or_eq_true b1 with rfl | rfl
          · rcases Bool.eq_false_or_eq_true b2 with rfl | rfl
            · skip
              go_wp2_with fail
              have tz := t0.alloc (.cells #[.int .i64 (-n), .int .i64 d] 23)
              have tf := Two.at (w := w.alloc (.cells #[.int .i64 0, .int .i64 0] 23)) (B := w.heap.size + 1) (by simp) 23 (.int .i64 (-n)) (.int .i64 d)
              have BF := B0.alloc B0.size (.cells #[.int .i64 (-n), .int .i64 d] 23)
              refine (rtext_any (-n) d _).mono ?_
              rintro e w2 ⟨rfl, hb2⟩
              obtain ⟨c1, c2, c3, c4⟩ := (tz.below hb2 tz.lt).facts
              obtain ⟨d1, d2, d3, d4⟩ := (tf.below hb2 tf.lt).facts
              have hb3 := BF.trans (hb2.mono BF.size)
              clear tz tf BF hb2 t0 B0
              by_cases hv : valP (-n) d
              · have he : txE (-n) d = 0 := txE_zero.2 hv
                by_cases ht : txL (-n) d = s.data.toList
                · have hP := HP.out
                  rw [if_pos ⟨by simp, hv, ht⟩] at hP
                  subst hP
                  have hteq := bytes_eq.2 ht
                  rw [he, hteq]
                  clear HP hv ht he hteq
                  go_wp2_with fail
                  refine bodyPost_ret (v := .tuple #[.agg #[.int .i64 (-n), .int .i64 d], .int .i64 0]) ?_ rfl ⟨rfl, ?_⟩
                  · simp [results, Tryd.results25, go_sem, c1, c2]
                  · exact (hb3.setCell (Nat.le_refl _) _).setCell (Nat.le_refl _) _
                · have hP := HP.out
                  rw [if_neg (fun h => ht h.2.2)] at hP
                  subst hP
                  have htne : (txL (-n) d == s.toList) = false := by
                    rw [beq_eq_false_iff_ne, ByteArray.toList_eq]
                    exact ht
                  rw [he]
                  clear HP hv ht he
                  go_wp2_with fail
                  refine bodyPost_ret (v := .tuple #[.agg #[.int .i64 0, .int .i64 0], .int .i64 5]) ?_ rfl ⟨rfl, ?_⟩
                  · simp [results, Tryd.results25, go_sem, c1, c2]
                  · exact (hb3.setCell (Nat.le_refl _) _).setCell (Nat.le_refl _) _
              · have he : txE (-n) d = 1 := by unfold txE; rw [if_neg hv]
                have hP := HP.out
                rw [if_neg (fun h => hv h.2.1)] at hP
                subst hP
                rw [he]
                clear HP hv he
                go_wp2_with fail
                refine bodyPost_ret (v := .tuple #[.agg #[.int .i64 0, .int .i64 0], .int .i64 5]) ?_ rfl ⟨rfl, ?_⟩
                · simp [results, Tryd.results25, go_sem, c1, c2]
                · exact (hb3.setCell (Nat.le_refl _) _).setCell (Nat.le_refl _) _
            · skip
              go_wp2_with fail
              have tz := t0.alloc (.cells #[.int .i64 (-n), .int .i64 d] 23)
              have tf := Two.at (w := w.alloc (.cells #[.int .i64 0, .int .i64 0] 23)) (B := w.heap.size + 1) (by simp) 23 (.int .i64 (-n)) (.int .i64 d)
              have BF := B0.alloc B0.size (.cells #[.int .i64 (-n), .int .i64 d] 23)
              refine (rtext_any (-n) d _).mono ?_
              rintro e w2 ⟨rfl, hb2⟩
              obtain ⟨c1, c2, c3, c4⟩ := (tz.below hb2 tz.lt).facts
              obtain ⟨d1, d2, d3, d4⟩ := (tf.below hb2 tf.lt).facts
              have hb3 := BF.trans (hb2.mono BF.size)
              clear tz tf BF hb2 t0 B0
              have hP := HP.out
              rw [if_neg (by simp)] at hP
              subst hP
              clear HP
              go_wp2_with fail
              refine bodyPost_ret (v := .tuple #[.agg #[.int .i64 0, .int .i64 0], .int .i64 5]) ?_ rfl ⟨rfl, ?_⟩
              · simp [results, Tryd.results25, go_sem, c1, c2]
              · exact (hb3.setCell (Nat.le_refl _) _).setCell (Nat.le_refl _) _
          · skip
            go_wp2_with fail
            have tz := t0.alloc (.cells #[.int .i64 (-n), .int .i64 d] 23)
            have tf := Two.at (w := w.alloc (.cells #[.int .i64 0, .int .i64 0] 23)) (B := w.heap.size + 1) (by simp) 23 (.int .i64 (-n)) (.int .i64 d)
            have BF := B0.alloc B0.size (.cells #[.int .i64 (-n), .int .i64 d] 23)
            refine (rtext_any (-n) d _).mono ?_
            rintro e w2 ⟨rfl, hb2⟩
            obtain ⟨c1, c2, c3, c4⟩ := (tz.below hb2 tz.lt).facts
            obtain ⟨d1, d2, d3, d4⟩ := (tf.below hb2 tf.lt).facts
            have hb3 := BF.trans (hb2.mono BF.size)
            clear tz tf BF hb2 t0 B0
            have hP := HP.out
            rw [if_neg (by simp)] at hP
            subst hP
            clear HP
            go_wp2_with fail
            refine bodyPost_ret (v := .tuple #[.agg #[.int .i64 0, .int .i64 0], .int .i64 5]) ?_ rfl ⟨rfl, ?_⟩
            · simp [results, Tryd.results25, go_sem, c1, c2]
            · exact (hb3.setCell (Nat.le_refl _) _).setCell (Nat.le_refl _) _
end Go.Proofs.YtflnhjfmlminoaaDoor.Fr
