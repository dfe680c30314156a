/- Walks of layer 4's laws: LexerBeginnings, LexerAgain. -/
import Derived.Test.YtkgkejphifkpkaaDoorLexH
import Derived.Test.YtkgkejphifkpkaaDoorLexMath3
namespace Go.Proofs.YtkgkejphifkpkaaDoor.Lx
set_option linter.unusedVariables false
set_option linter.unusedSimpArgs false
open Go.RowKit

theorem lex_u (s : ByteArray) (h : s.size ≤ 5000) (w : World) (r : Res) (hr : lexU s.data.toList 0 = r) : Calls Tryd.prog 27 #[.string s] w (Lexed r w) :=
  lex_any s (by omega) w r (by rw [rest_zero, lexL_U (by rw [← Lib.size_eq]; exact h), hr])

theorem err_code : ∀ (n : Nat) (l : List UInt8), l.length ≤ n → ∀ p e q, lexU l p = .err e q → e = 2 ∨ e = 3 ∨ e = 4 ∨ e = 6
  | 0, l, h, p, e, q, hx => by
    have := gp_le l false
    rw [lexU_gap (by omega)] at hx
    cases hx
  | n + 1, l, h, p, e, q, hx => by
    rcases lex_cases l with hg | ⟨e', hg, ht⟩ | ⟨k, v, w, x, ht⟩
    · rw [lexU_gap hg] at hx
      cases hx
    · rw [lexU_bad hg ht] at hx
      cases hx
      exact tok_code ht
    · have hw := tok_width ht
      rw [List.length_drop] at hw
      rw [lexU_good ht] at hx
      cases hr : lexU (l.drop (gp false l + w)) (p + gp false l + w) with
      | toks us => rw [hr] at hx; cases hx
      | err e' q' =>
        rw [hr] at hx
        simp only [Res.pre, Res.err.injEq] at hx
        obtain ⟨rfl, rfl⟩ := hx
        exact err_code n _ (by rw [List.length_drop]; omega) _ _ _ hr
theorem err_nz {l : List UInt8} {p e q : Nat} (h : lexU l p = .err e q) : ((e : Int) == 0) = false := by
  have := err_code _ l (Nat.le_refl _) p e q h
  rw [beq_eq_false_iff_ne]
  omega

theorem ext_take (s : ByteArray) (j : Nat) : (s.extract 0 j).data.toList = s.data.toList.take j := by
  rw [Lib.extract_data]
  simp
theorem ext_drop (s : ByteArray) (j : Nat) : (s.extract j s.size).data.toList = s.data.toList.drop j := by
  rw [Lib.extract_data]
  exact List.take_of_length_le (by rw [List.length_drop, ← Lib.size_eq]; omega)
theorem ext_size (s : ByteArray) (i j : Nat) : (s.extract i j).size ≤ s.size := by
  rw [Lib.size_eq, Lib.extract_data, List.length_take, List.length_drop, ← Lib.size_eq]
  omega

set_option maxHeartbeats 1000000 in
theorem beginnings_walk (s : ByteArray) (hs : s.size ≤ maxLen) (w : World) :
    Calls Tryd.prog 9 #[.string s] w fun e w' => e = .returned (.bool true) ∧ Below w.heap.size w w' := by
  unfold maxLen at hs
  go_enter Tryd.func9, Tryd.ntmps9
  go_wp2_with fail
  refine (head_any _).mono ?_
  rintro e w1 ⟨rfl, hb1⟩
  by_cases hlong : 3000 < s.size
  · have hI : (3000 : Int) < (s.size : Int) := by omega
    go_wp2_with fail
    go_ret
    exact ⟨rfl, hb1⟩
  · have hI : ¬ (3000 : Int) < (s.size : Int) := by omega
    cases hr : lexU s.data.toList 0 with
    | toks ts =>
      have Hr := Lib.hid hr
      clear hr hlong
      go_wp2_with fail
      refine (lex_u s (by omega) _ _ Hr.out).mono ?_
      rintro e w2 ⟨v, rfl, ht2, hb2⟩
      have hb02 := hb1.trans (hb2.mono hb1.size)
      go_wp2_with fail
      go_ret
      exact ⟨rfl, hb02⟩
    | err c q =>
      obtain ⟨j, hq, hj, ⟨ts, h1⟩, h2⟩ := lex_before _ _ (Nat.le_refl _) _ _ _ hr
      rw [Nat.zero_add] at hq
      subst hq
      rw [← Lib.size_eq] at hj
      have hcz := err_nz hr
      have Hr := Lib.hid hr
      have H1 := Lib.hid h1
      have H2 := Lib.hid (h2 0)
      have hjI : (q : Int) < (s.size : Int) := by omega
      clear hr hlong h1 h2
      go_wp2_with fail
      refine (lex_u s (by omega) _ _ Hr.out).mono ?_
      rintro e w2 ⟨rfl, hb2⟩
      have hb02 := hb1.trans (hb2.mono hb1.size)
      go_wp2_with fail
      refine (lex_u (s.extract 0 q) (Nat.le_trans (ext_size _ _ _) (by omega)) _ (.toks ts) (by rw [ext_take]; exact H1.out)).mono ?_
      rintro e w3 ⟨v, rfl, ht3, hb3⟩
      have hb03 := hb02.trans (hb3.mono hb02.size)
      go_wp2_with fail
      refine (lex_u (s.extract q s.size) (Nat.le_trans (ext_size _ _ _) (by omega)) _ (.err c 0) (by rw [ext_drop]; exact H2.out)).mono ?_
      rintro e w4 ⟨rfl, hb4⟩
      have hb04 := hb03.trans (hb4.mono hb03.size)
      go_wp2_with fail
      go_ret
      exact ⟨rfl, hb04⟩

/-! ### Again -/

theorem allL_allW : ∀ ts : List Tok, allL ts = allW ts
  | [] => rfl
  | t :: ts => by
    rw [allL_cons, allL_allW ts]
    rfl
theorem lex_texts : ∀ (ts : List Tok) (l : List UInt8) (p : Nat), lexU l p = .toks ts → (∀ t ∈ ts, t.text.length ≤ l.length ∧ p ≤ t.pos ∧ t.pos + (wr t.kind t.text).length ≤ p + l.length) ∧ (allL ts).length ≤ 2 * l.length
  | [], l, p, _ => ⟨fun t ht => by simp at ht, by simp [allL]⟩
  | t :: ts, l, p, h => by
    obtain ⟨w, ht, hp, hr, hw, hwl⟩ := lex_first h
    obtain ⟨h1, h2⟩ := lex_texts ts _ _ hr
    have hwr := tok_written ht
    rw [List.length_drop] at h1 h2
    have hx : t.text.length ≤ (wr t.kind t.text).length := by
      unfold wr
      split
      · simp only [List.length_append, List.length_cons]
        omega
      · exact Nat.le_refl _
    refine ⟨fun u hu => ?_, ?_⟩
    · rcases List.mem_cons.1 hu with rfl | hu
      · rw [hwr.2] at hx ⊢
        omega
      · have := h1 u hu
        omega
    · rw [allL_cons, List.length_append, List.length_cons]
      unfold wrT
      rw [hwr.2]
      omega
theorem lex_count : ∀ (ts : List Tok) (l : List UInt8) (p : Nat), lexU l p = .toks ts → ts.length ≤ l.length
  | [], l, p, _ => Nat.zero_le _
  | t :: ts, l, p, h => by
    obtain ⟨w, ht, hp, hr, hw, hwl⟩ := lex_first h
    have := lex_count ts _ _ hr
    rw [List.length_drop] at this
    simp only [List.length_cons]
    omega
theorem alike_of_bare {a b : List Tok} (h : Bare a b) : AlikeL a b := ⟨h.length, fun i h1 h2 => h.get i h1 h2⟩

set_option maxHeartbeats 1000000 in
theorem again_walk (s : ByteArray) (hs : s.size ≤ maxLen) (w : World) :
    Calls Tryd.prog 7 #[.string s] w fun e w' => e = .returned (.bool true) ∧ Below w.heap.size w w' := by
  unfold maxLen at hs
  go_enter Tryd.func7, Tryd.ntmps7
  go_wp2_with fail
  refine (head_any _).mono ?_
  rintro e w1 ⟨rfl, hb1⟩
  by_cases hlong : 2000 < s.size
  · have hI : (2000 : Int) < (s.size : Int) := by omega
    go_wp2_with fail
    go_ret
    exact ⟨rfl, hb1⟩
  · have hI : ¬ (2000 : Int) < (s.size : Int) := by omega
    cases hr : lexU s.data.toList 0 with
    | err c q =>
      have hcz := err_nz hr
      have hcz2 : ((c : Int) != 0) = true := by rw [bne, hcz]; rfl
      have Hr := Lib.hid hr
      clear hr hlong hcz
      go_wp2_with fail
      refine (lex_u s (by omega) _ _ Hr.out).mono ?_
      rintro e w2 ⟨rfl, hb2⟩
      have hb02 := hb1.trans (hb2.mono hb1.size)
      go_wp2_with fail
      go_ret
      exact ⟨rfl, hb02⟩
    | toks ts =>
      obtain ⟨us, h1, h2⟩ := lex_again ts _ _ 0 hr
      obtain ⟨h3, h4⟩ := lex_texts ts _ _ hr
      rw [← Lib.size_eq] at h4
      have hsh : Short ts := fun t ht => by
        have := (h3 t ht).1
        rw [← Lib.size_eq] at this
        omega
      have hal := alike_of_bare h2
      rw [← allL_allW] at h1
      have Hr := Lib.hid hr
      have H1 := Lib.hid h1
      have H4 := Lib.hid h4
      have Hlong := Lib.hid hlong
      clear hr hlong h1 h2 h3 h4
      go_wp2_with fail
      refine (lex_u s (by have := Hlong.out; omega) _ _ Hr.out).mono ?_
      rintro e w2 ⟨v, rfl, ht2, hb2⟩
      have hb02 := hb1.trans (hb2.mono hb1.size)
      have Ht2 := Lib.hid ht2
      clear ht2
      go_wp2_with fail
      refine (all_any ts hsh (by have := H4.out; have := Hlong.out; omega) v _ Ht2.out).mono ?_
      rintro e w3 ⟨rfl, hb3⟩
      have hb03 := hb02.trans (hb3.mono hb02.size)
      have Ht3 := Lib.hid (Ht2.out.below hb3)
      go_wp2_with fail
      refine (lex_u ⟨(allL ts).toArray⟩ (by rw [Lib.size_eq]; have := H4.out; have := Hlong.out; simp only [List.toList_toArray]; omega) _ _ H1.out).mono ?_
      rintro e w4 ⟨u, rfl, hu4, hb4⟩
      have hb04 := hb03.trans (hb4.mono hb03.size)
      have Ht4 := Lib.hid (Ht3.out.below hb4)
      have Hu4 := Lib.hid hu4
      clear hu4
      go_wp2_with fail
      refine (alike_any ts us hal v u _ Ht4.out Hu4.out).mono ?_
      rintro e w5 ⟨rfl, hb5⟩
      have hb05 := hb04.trans (hb5.mono hb04.size)
      go_wp2_with fail
      go_ret
      exact ⟨rfl, hb05⟩

end Go.Proofs.YtkgkejphifkpkaaDoor.Lx
