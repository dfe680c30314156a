/- Walks of layer 4's laws: LexerParts. -/
import Derived.Test.YtkgkejphifkpkaaDoorLexL1
namespace Go.Proofs.YtkgkejphifkpkaaDoor.Lx
set_option linter.unusedVariables false
set_option linter.unusedSimpArgs false
open Go.RowKit

theorem join_bytes (a b : ByteArray) : (a ++ ByteArray.mk #[10] ++ b).data.toList = a.data.toList ++ 10 :: b.data.toList := by simp
theorem join_size (a b : ByteArray) : (a ++ ByteArray.mk #[10] ++ b).size = a.size + 1 + b.size := by simp [ByteArray.size_append]; rfl

theorem one_size (a : ByteArray) : (a ++ ByteArray.mk #[10]).size = a.size + 1 := by simp [ByteArray.size_append]; rfl
theorem TokSl.form {w : World} {v : Value} {ts : List Tok} (h : TokSl w v ts) : ∃ a cap, v = .slice a ts.length cap ∧ (0 < ts.length → ts.length ≤ cap ∧ cap ≤ maxLen) := by
  rcases h with ⟨rfl, a, cap, rfl⟩ | ⟨b, off, cap, rfl, _, _, hm, _⟩
  · exact ⟨a, cap, rfl, fun h => by simp at h⟩
  · exact ⟨_, cap, rfl, fun _ => hm⟩

theorem sl_take {w : World} {b off n cap : Nat} {ts : List Tok} (h : TokSl w (.slice (some ⟨b, off, none⟩) n cap) ts) (hn : n = ts.length) (k : Nat) (hk : k ≤ ts.length) : TokSl w (.slice (some ⟨b, off, none⟩) k cap) (ts.take k) := by
  have hlen : (ts.take k).length = k := by rw [List.length_take]; omega
  by_cases h0 : k = 0
  · subst h0
    exact .inl ⟨rfl, _, _, rfl⟩
  · rcases h with ⟨rfl, _⟩ | ⟨b', off', cap', he, h1, hlt, hm, hc⟩
    · simp at hk
      omega
    · simp only [Value.slice.injEq, Option.some.injEq, Addr.mk.injEq, and_true] at he
      obtain ⟨⟨rfl, rfl⟩, _, rfl⟩ := he
      refine .inr ⟨b, off, cap, by rw [hlen], by omega, hlt, ⟨by omega, hm.2⟩, fun i hi => ?_⟩
      rw [List.getElem_take]
      exact hc i (by omega)
theorem sl_drop {w : World} {b off n cap : Nat} {ts : List Tok} (h : TokSl w (.slice (some ⟨b, off, none⟩) n cap) ts) (hn : n = ts.length) (k : Nat) (hk : k < ts.length) : TokSl w (.slice (some ⟨b, off + k * 4, none⟩) (ts.length - k) (cap - k)) (ts.drop k) := by
  have hlen : (ts.drop k).length = ts.length - k := List.length_drop
  rcases h with ⟨rfl, _⟩ | ⟨b', off', cap', he, h1, hlt, hm, hc⟩
  · simp at hk
  · simp only [Value.slice.injEq, Option.some.injEq, Addr.mk.injEq, and_true] at he
    obtain ⟨⟨rfl, rfl⟩, _, rfl⟩ := he
    refine .inr ⟨b, off + k * 4, cap - k, by rw [hlen], by omega, hlt, ⟨by omega, by have := hm.2; omega⟩, fun i hi => ?_⟩
    rw [List.getElem_drop, Nat.add_assoc, ← Nat.add_mul]
    exact hc (k + i) (by omega)

set_option maxHeartbeats 2000000 in
theorem parts_walk (s t : ByteArray) (hs : s.size ≤ maxLen) (ht : t.size ≤ maxLen) (w : World) :
    Calls Tryd.prog 8 #[.string s, .string t] w fun e w' => e = .returned (.bool true) ∧ Below w.heap.size w w' := by
  unfold maxLen at hs ht
  go_enter Tryd.func8, Tryd.ntmps8
  go_wp2_with fail
  refine (head_any _).mono ?_
  rintro e w1 ⟨rfl, hb1⟩
  by_cases hl1 : 1500 < s.size
  · have hI : (1500 : Int) < (s.size : Int) := by omega
    go_wp2_with fail
    go_ret
    exact ⟨rfl, hb1⟩
  by_cases hl2 : 1500 < t.size
  · have hI : ¬ (1500 : Int) < (s.size : Int) := by omega
    have hI2 : (1500 : Int) < (t.size : Int) := by omega
    have hd : decide (1500 < s.size) = false := by simp; omega
    go_wp2_with fail
    go_ret
    exact ⟨rfl, hb1⟩
  have hI : ¬ (1500 : Int) < (s.size : Int) := by omega
  have hI2 : ¬ (1500 : Int) < (t.size : Int) := by omega
  have hd : decide (1500 < s.size) = false := by simp; omega
  have hd2 : decide (1500 < t.size) = false := by simp; omega
  have hsz : s.size ≤ 1500 := by omega
  have htz : t.size ≤ 1500 := by omega
  clear hl1 hl2 hs ht
  have hj := lex_join_at s.data.toList t.data.toList 0
  rw [lexU_at t.data.toList, ← Lib.size_eq, Nat.zero_add] at hj
  have Hj := Lib.hid hj
  clear hj
  cases hr : lexU s.data.toList 0 with
  | err c q =>
    have hj := Hj.out
    rw [hr] at hj
    have hcz := err_nz hr
    have hcz2 : ((c : Int) != 0) = true := by rw [bne, hcz]; rfl
    have Hr := Lib.hid hr
    have HJ := Lib.hid (show lexU (s ++ ByteArray.mk #[10] ++ t).data.toList 0 = .err c q by rw [join_bytes]; exact hj)
    have Hjs := Lib.hid (join_size s t)
    have hjs : (s ++ ByteArray.mk #[10] ++ t).size ≤ 3001 := by have := Hjs.out; omega
    have hjs2 : (s ++ ByteArray.mk #[10]).size ≤ 1501 := by rw [one_size]; omega
    clear hr hj
    go_wp2_with fail
    refine (lex_u s (by omega) _ _ Hr.out).mono ?_
    rintro e w2 ⟨rfl, hb2⟩
    have hb02 := hb1.trans (hb2.mono hb1.size)
    go_wp2_with fail
    cases hr2 : lexU t.data.toList 0 with
    | err c2 q2 =>
      have Hr2 := Lib.hid hr2
      clear hr2
      refine (lex_u t (by omega) _ _ Hr2.out).mono ?_
      rintro e w3 ⟨rfl, hb3⟩
      have hb03 := hb02.trans (hb3.mono hb02.size)
      go_wp2_with fail
      refine (lex_u _ (by omega) _ _ HJ.out).mono ?_
      rintro e w4 ⟨rfl, hb4⟩
      have hb04 := hb03.trans (hb4.mono hb03.size)
      go_wp2_with fail
      go_ret
      exact ⟨rfl, hb04⟩
    | toks us =>
      have Hr2 := Lib.hid hr2
      clear hr2
      refine (lex_u t (by omega) _ _ Hr2.out).mono ?_
      rintro e w3 ⟨v3, rfl, _, hb3⟩
      have hb03 := hb02.trans (hb3.mono hb02.size)
      go_wp2_with fail
      refine (lex_u _ (by omega) _ _ HJ.out).mono ?_
      rintro e w4 ⟨rfl, hb4⟩
      have hb04 := hb03.trans (hb4.mono hb03.size)
      go_wp2_with fail
      go_ret
      exact ⟨rfl, hb04⟩
  | toks ts =>
    have hj := Hj.out
    rw [hr] at hj
    have Hr := Lib.hid hr
    have Hjs := Lib.hid (join_size s t)
    have hjs : (s ++ ByteArray.mk #[10] ++ t).size ≤ 3001 := by have := Hjs.out; omega
    have hjs2 : (s ++ ByteArray.mk #[10]).size ≤ 1501 := by rw [one_size]; omega
    clear hr
    cases hr2 : lexU t.data.toList 0 with
    | err c2 q2 =>
      rw [hr2] at hj
      have hcz := err_nz hr2
      have hcz2 : ((c2 : Int) != 0) = true := by rw [bne, hcz]; rfl
      have Hr2 := Lib.hid hr2
      have HJ := Lib.hid (show lexU (s ++ ByteArray.mk #[10] ++ t).data.toList 0 = .err c2 (q2 + (s.size + 1)) by rw [join_bytes]; exact hj)
      obtain ⟨j, hq, hjl, _, _⟩ := lex_before _ _ (Nat.le_refl _) _ _ _ hr2
      rw [Nat.zero_add] at hq
      subst hq
      rw [← Lib.size_eq] at hjl
      have hqe : ((q2 + (s.size + 1) : Nat) : Int) = (q2 : Int) + (s.size : Int) + 1 := by omega
      have hqb : (q2 : Int) ≤ 1500 := by omega
      clear hr2 hj
      go_wp2_with fail
      refine (lex_u s (by omega) _ _ Hr.out).mono ?_
      rintro e w2 ⟨v2, rfl, ht2, hb2⟩
      have hb02 := hb1.trans (hb2.mono hb1.size)
      have Ht2 := Lib.hid ht2
      clear ht2
      go_wp2_with fail
      refine (lex_u t (by omega) _ _ Hr2.out).mono ?_
      rintro e w3 ⟨rfl, hb3⟩
      have hb03 := hb02.trans (hb3.mono hb02.size)
      go_wp2_with fail
      refine (lex_u _ (by omega) _ _ HJ.out).mono ?_
      rintro e w4 ⟨rfl, hb4⟩
      have hb04 := hb03.trans (hb4.mono hb03.size)
      rw [hqe]
      go_wp2_with fail
      go_ret
      exact ⟨rfl, hb04⟩
    | toks us =>
      rw [hr2] at hj
      have Hr2 := Lib.hid hr2
      have HJ := Lib.hid (show lexU (s ++ ByteArray.mk #[10] ++ t).data.toList 0 = .toks (ts ++ us.map (Tok.shift (s.size + 1))) by rw [join_bytes]; exact hj)
      clear hr2 hj
      go_wp2_with fail
      refine (lex_u s (by omega) _ _ Hr.out).mono ?_
      rintro e w2 ⟨v2, rfl, ht2, hb2⟩
      have hb02 := hb1.trans (hb2.mono hb1.size)
      have Ht2 := Lib.hid ht2
      clear ht2
      go_wp2_with fail
      refine (lex_u t (by omega) _ _ Hr2.out).mono ?_
      rintro e w3 ⟨v3, rfl, ht3, hb3⟩
      have hb03 := hb02.trans (hb3.mono hb02.size)
      have Ht3 := Lib.hid ht3
      have Hv3 := Lib.hid (Ht2.out.below hb3)
      clear ht3
      go_wp2_with fail
      refine (lex_u _ (by omega) _ _ HJ.out).mono ?_
      rintro e w4 ⟨v4, rfl, ht4, hb4⟩
      have hb04 := hb03.trans (hb4.mono hb03.size)
      have Hc4 := Lib.hid ht4
      have Hb4 := Lib.hid (Ht3.out.below hb4)
      have Ha4 := Lib.hid (Hv3.out.below hb4)
      clear ht4
      have hlc : (ts ++ us.map (Tok.shift (s.size + 1))).length = ts.length + us.length := by rw [List.length_append, List.length_map]
      have hts : ts.length ≤ 1500 := by
        have := lex_count ts _ _ Hr.out
        rw [← Lib.size_eq] at this
        omega
      have hus : us.length ≤ 1500 := by
        have := lex_count us _ _ Hr2.out
        rw [← Lib.size_eq] at this
        omega
      have HP1 := Lib.hid (show ∀ x ∈ ts, x.pos ≤ 1000000 from fun x hx => by
        have := ((lex_texts ts _ _ Hr.out).1 x hx).2.2
        rw [← Lib.size_eq] at this
        omega)
      have HP2 := Lib.hid (show ∀ x ∈ us, x.pos ≤ 1000000 from fun x hx => by
        have := ((lex_texts us _ _ Hr2.out).1 x hx).2.2
        rw [← Lib.size_eq] at this
        omega)
      obtain ⟨a2, c2, rfl, hc2⟩ := Ha4.out.form
      obtain ⟨a3, c3, rfl, hc3⟩ := Hb4.out.form
      have hsI : (s.size : Int) ≤ 1500 := by omega
      have hs1 : ((s.size + 1 : Nat) : Int) = (s.size : Int) + 1 := by omega
      by_cases h00 : ts.length + us.length = 0
      · obtain rfl : us = [] := List.eq_nil_of_length_eq_zero (by omega)
        obtain rfl : ts = [] := List.eq_nil_of_length_eq_zero (by omega)
        obtain ⟨a4, c4, rfl, _⟩ := Hc4.out.form
        have N1 := fun a a' c c' w => same_none a a' c c' 0 w
        have N2 := fun a a' c c' w => same_none a a' c c' (s.size + 1) w
        rw [hs1] at N2
        have HN1 := Lib.hid N1
        have HN2 := Lib.hid N2
        clear N1 N2
        simp only [List.map_nil, List.append_nil, List.length_nil] at *
        go_wp2_with fail
        refine (HN1.out _ _ _ _ w4).mono ?_
        rintro e w5 ⟨rfl, hb5⟩
        have hb05 := hb04.trans (hb5.mono hb04.size)
        go_wp2_with fail
        all_goals
          refine (HN2.out _ _ _ _ w5).mono ?_
          rintro e w6 ⟨rfl, hb6⟩
          have hb06 := hb05.trans (hb6.mono hb05.size)
          go_wp2_with fail
          go_ret
          exact ⟨rfl, hb06⟩
      · obtain ⟨b, off, cap, rfl, hbw, hm, _⟩ := Hc4.out.open (by rw [hlc]; omega)
        unfold maxLen at hm
        have hk1 : ts.length ≤ cap := by omega
        have hk2 : ts.length + us.length ≤ cap := by omega
        have hk3 : cap ≤ 9223372036854775807 := by omega
        have Htake := Lib.hid (sl_take (ts := ts ++ us.map (Tok.shift (s.size + 1))) Hc4.out rfl ts.length (by omega))
        rw [List.take_left] at Htake
        rw [hlc]
        have Hlc := Lib.hid hlc
        clear hlc hm
        have hd3 : decide (ts.length + us.length = ts.length + us.length) = true := by simp
        go_wp2_with fail
        refine (same_any ts ts 0 (by omega) HP1.out ⟨rfl, fun i _ _ => ⟨⟨rfl, rfl, rfl⟩, rfl⟩⟩ _ _ w4 Ha4.out Htake.out).mono ?_
        rintro e w5 ⟨rfl, hb5⟩
        have hb05 := hb04.trans (hb5.mono hb04.size)
        by_cases hu : us.length = 0
        · obtain rfl : us = [] := List.eq_nil_of_length_eq_zero (by omega)
          have N2 := fun a a' c c' w => same_none a a' c c' (s.size + 1) w
          rw [hs1] at N2
          have HN2 := Lib.hid N2
          clear N2
          go_wp2_with fail
          all_goals
            refine (HN2.out _ _ _ _ w5).mono ?_
            rintro e w6 ⟨rfl, hb6⟩
            have hb06 := hb05.trans (hb6.mono hb05.size)
            go_wp2_with fail
            go_ret
            exact ⟨rfl, hb06⟩
        · have Hdrop := Lib.hid ((sl_drop (ts := ts ++ us.map (Tok.shift (s.size + 1))) Hc4.out rfl ts.length (by rw [Hlc.out]; omega)).below hb5)
          rw [List.drop_left, Hlc.out, Nat.add_sub_cancel_left] at Hdrop
          have Hb5 := Lib.hid (Hb4.out.below hb5)
          have hsh : ShiftL us (s.size + 1) (us.map (Tok.shift (s.size + 1))) := by
            refine ⟨by rw [List.length_map], fun i h1 h2 => ?_⟩
            rw [List.getElem_map]
            exact ⟨⟨rfl, rfl, rfl⟩, rfl⟩
          have S2 := same_any us _ (s.size + 1) (by omega) HP2.out hsh _ _ w5 Hb5.out Hdrop.out
          rw [hs1] at S2
          have HS2 := Lib.hid S2
          clear S2 hsh
          go_wp2_with fail
          refine HS2.out.mono ?_
          rintro e w6 ⟨rfl, hb6⟩
          have hb06 := hb05.trans (hb6.mono hb05.size)
          go_wp2_with fail
          go_ret
          exact ⟨rfl, hb06⟩

end Go.Proofs.YtkgkejphifkpkaaDoor.Lx
