/- Walks over package lexer: numbers and strings. -/
import Derived.Test.YtcabhanmeookkaaDoorLexW3
namespace Go.Proofs.YtcabhanmeookkaaDoor.Lx
set_option linter.unusedVariables false
set_option linter.unusedSimpArgs false
open Go.RowKit

theorem rest_drop_head (s : ByteArray) (p n : Nat) : (rest s (p + n)).head? = ((rest s p).drop n).head? := by rw [rest_drop]
theorem next_let (s : ByteArray) (p : Nat) : isB s (p + tw isNum (rest s p)) [4, 6] = nextWord ((rest s p).drop (tw isNum (rest s p))) := by
  rw [isB_head, rest_drop_head]
  unfold nextWord
  cases h : ((rest s p).drop (tw isNum (rest s p))).head? with
  | none => rfl
  | some c => exact of_let c (tw_head isNum (rest s p) c h)
theorem next_quote (s : ByteArray) (q : Nat) : isB s q [7] = nextIs (rest s q) 34 := by
  rw [isB_head, of_quote]
  unfold nextIs
  cases h : (rest s q).head? with
  | none => rfl
  | some c => by_cases hc : c = 34 <;> simp [hc]
theorem next_equals (s : ByteArray) (q : Nat) : isB s q [10] = nextIs (rest s q) 61 := by
  rw [isB_head, of_equals]
  unfold nextIs
  cases h : (rest s q).head? with
  | none => rfl
  | some c => by_cases hc : c = 61 <;> simp [hc]

theorem decFrom_val : ∀ (l : List UInt8) (a : Nat), (∀ c ∈ l, isNum c = true) → Lib.decFrom a l = some (l.foldl (fun n c => n * 10 + (c.toNat - 48)) a)
  | [], a, _ => rfl
  | c :: l, a, h => by
    have hc := h c (List.mem_cons_self ..)
    unfold isNum at hc
    simp only [Bool.and_eq_true, decide_eq_true_eq] at hc
    simp only [Lib.decFrom, Lib.digitVal, if_pos hc, List.foldl_cons]
    exact decFrom_val l _ (fun d hd => h d (List.mem_cons_of_mem _ hd))
theorem atoi_val (l : List UInt8) (h : ∀ c ∈ l, isNum c = true) (hn : l ≠ []) : Lib.atoi l = some ((val l : Nat) : Int) := by
  cases l with
  | nil => exact absurd rfl hn
  | cons c l =>
    have hc := h c (List.mem_cons_self ..)
    have h1 : (c == 45) = false := by
      cases hx : (c == 45) with
      | false => rfl
      | true => rw [beq_iff_eq] at hx; subst hx; revert hc; decide
    have h2 : (c == 43) = false := by
      cases hx : (c == 43) with
      | false => rfl
      | true => rw [beq_iff_eq] at hx; subst hx; revert hc; decide
    simp only [Lib.atoi, h1, h2, Bool.false_eq_true, if_false, Lib.decNat, List.isEmpty_cons, decFrom_val _ _ h]
    rfl
theorem take_num (l : List UInt8) : ∀ c ∈ l.take (tw isNum l), isNum c = true := by
  intro c hc
  obtain ⟨i, hi, rfl⟩ := List.mem_iff_getElem.1 hc
  rw [List.length_take] at hi
  rw [List.getElem_take]
  exact tw_all isNum l i (by omega)

theorem tokA_val (k p v : Nat) (t : ByteArray) (u : Nat) : (tokA k p v t).setIfInBounds 2 (.int .i64 (u : Int)) = tokA k p u t := rfl
theorem tokA_text (k p v : Nat) (t u : ByteArray) : (tokA k p v t).setIfInBounds 3 (.string u) = tokA k p v u := rfl
theorem TokAt.val {w : World} {g k p v : Nat} {t : ByteArray} (h : TokAt w g (tokA k p v t)) (u : Nat) : TokAt (w.setCell ⟨g, 2, none⟩ (.int .i64 (u : Int))) g (tokA k p u t) := by
  unfold TokAt
  rw [heap_setCell_same _ _ _ _ _ _ h, tokA_val]
theorem TokAt.text {w : World} {g k p v : Nat} {t : ByteArray} (h : TokAt w g (tokA k p v t)) (u : ByteArray) : TokAt (w.setCell ⟨g, 3, none⟩ (.string u)) g (tokA k p v u) := by
  unfold TokAt
  rw [heap_setCell_same _ _ _ _ _ _ h, tokA_text]
theorem TokAt.c2 {w : World} {g k p v : Nat} {t : ByteArray} (h : TokAt w g (tokA k p v t)) : w.cell? ⟨g, 2, none⟩ = some (.int .i64 (v : Int)) := by rw [cell_of_row _ _ _ _ _ _ h]; rfl
theorem TokAt.c3 {w : World} {g k p v : Nat} {t : ByteArray} (h : TokAt w g (tokA k p v t)) : w.cell? ⟨g, 3, none⟩ = some (.string t) := by rw [cell_of_row _ _ _ _ _ _ h]; rfl
theorem TokAt.frozen {w : World} {g : Nat} {cs : Array Value} (h : TokAt w g cs) (o : Nat) : w.frozen? ⟨g, o, none⟩ = false := frozen_of_row _ _ _ _ _ h

set_option maxHeartbeats 2000000 in
theorem number_any (B p : Nat) (s : ByteArray) (hs : s.size ≤ 100000) (hp : p ≤ s.size) (h1 : 0 < tw isNum (rest s p)) (w : World) (hr : Rd w B s p) (o : One)
    (ho : o = if 13 < tw isNum (rest s p) ∨ nextWord ((rest s p).drop (tw isNum (rest s p))) = true then .bad 4 else .good 2 (val ((rest s p).take (tw isNum (rest s p)))) (tw isNum (rest s p)) ((rest s p).take (tw isNum (rest s p)))) :
    Calls Tryd.prog 58 #[.pointer (some ⟨B, 0, none⟩)] w (Read o B p s w) := by
  have hb0 : Below w.heap.size w (w.alloc (.cells zeroA 69)) := (Below.refl _ w).alloc (Nat.le_refl _) _
  have hr0 := hr.kept hb0
  have hat0 := hr0.at
  have hBlt := hr.lt
  have hne : B ≠ w.heap.size := by omega
  have Hr0 := Lib.hid hr0
  have HT0 := Lib.hid (TokAt.new w)
  have hlen := tw_le isNum (rest s p)
  rw [rest_length] at hlen
  have He := Lib.hid (ext_rest s p (tw isNum (rest s p)))
  have Hnx := Lib.hid (next_let s p)
  have Hat := Lib.hid (atoi_val ((rest s p).take (tw isNum (rest s p))) (take_num _) (fun h => by
    have := congrArg List.length h
    rw [List.length_take, rest_length] at this
    simp at this
    omega))
  have Hln := Lib.hid (show ((rest s p).take (tw isNum (rest s p))).length ≤ tw isNum (rest s p) by rw [List.length_take]; omega)
  have hzero : zeroA = #[.int .i64 0, .int .i64 0, .int .i64 0, .string ⟨#[]⟩] := rfl
  rw [hzero] at hat0
  have HO := Lib.hid ho
  clear hr hr0 ho hzero
  go_enter Tryd.func58, Tryd.ntmps58
  go_wp2_with fail
  refine (after_new B p s hs p (by omega) [5] (by decide) _ 1 _ rfl rfl (w.alloc (.cells zeroA 69)) (by simp) Hr0.out).mono ?_
  rintro e w1 ⟨rfl, hb1⟩
  rw [of_num]
  generalize hN : tw isNum (rest s p) = n at *
  generalize hV : val ((rest s p).take n) = v at *
  have HN := Lib.hid hN
  have hr1 := Hr0.out.kept hb1
  have hT1 := HT0.out.below hb1
  have hb01 : Below w.heap.size w w1 := hb0.trans (hb1.mono hb0.size)
  have hat1 := hr1.at
  have Hr1 := Lib.hid hr1
  have HT1 := Lib.hid hT1
  clear hr1 hT1 hat0 hb1 hb0 hN hV
  have hq1 : p ≤ p + n := by omega
  have hq2 : p + n ≤ s.size := by omega
  have hq3 : ((p + n : Nat) : Int) ≤ 100000 := by omega
  by_cases h : 13 < n
  · have HO1 := Lib.hid (HO.out.trans (if_pos (.inl h)))
    have hI : (13 : Int) < ((p + n : Nat) : Int) - (p : Int) := by omega
    generalize p + n = q at *
    go_wp2_with (first | (refine wpList_store_row rfl 69 (.tmp 2) (.tmp 26) rfl w.heap.size zeroA rfl rfl 69 zeroA HT1.out (by kernel_rfl) rfl zeroA_one ?_))
    refine bodyPost_ret (results_tok2 Tryd.results58 _ _ w.heap.size _ rfl rfl (HT1.out.row _)) rfl ?_
    rw [HO1.out]
    exact ⟨rfl, Hr1.out.only (only_row _ _ _) hne, only_new (only_below B hb01) (only_row _ _ _) (Nat.le_refl _)⟩
  · have hI : ¬ (13 : Int) < ((p + n : Nat) : Int) - (p : Int) := by omega
    have Hn13 := Lib.hid h
    have hd : decide ((13 : Int) < ((p + n : Nat) : Int) - (p : Int)) = false := decide_eq_false hI
    generalize hq : p + n = q at *
    have Hq := Lib.hid hq
    clear hq h
    go_wp2_with fail
    refine (is_new B p s q (by omega) [4, 6] (by decide) _ 2 _ rfl rfl w1 rfl Hr1.out).mono ?_
    rintro e w2 ⟨rfl, hb2⟩
    have hr2 := Hr1.out.kept hb2
    have hT2 := HT1.out.below hb2
    have hb02 := hb01.trans (hb2.mono hb01.size)
    have Hr2 := Lib.hid hr2
    have HT2 := Lib.hid hT2
    clear hr2 hT2 hat1 hb2 hb01
    cases hx : isB s q [4, 6] with
    | true =>
      have HO1 := Lib.hid (HO.out.trans (if_pos (.inr (by rw [← Hnx.out, hx]))))
      clear hx
      go_wp2_with (first | (refine wpList_store_row rfl 69 (.tmp 2) (.tmp 26) rfl w.heap.size zeroA rfl rfl 69 zeroA HT2.out (by kernel_rfl) rfl zeroA_one ?_))
      refine bodyPost_ret (results_tok2 Tryd.results58 _ _ w.heap.size _ rfl rfl (HT2.out.row _)) rfl ?_
      rw [HO1.out]
      exact ⟨rfl, Hr2.out.only (only_row _ _ _) hne, only_new (only_below B hb02) (only_row _ _ _) (Nat.le_refl _)⟩
    | false =>
      have HO1 := Lib.hid (HO.out.trans (if_neg (fun h => h.elim Hn13.out (fun h => by rw [← Hnx.out, hx] at h; cases h))))
      clear hx
      go_wp2_with fail
      refine (take_any B p s hs 2 q (by decide) hq1 hq2 w2 Hr2.out).mono ?_
      rintro e w3 ⟨rfl, hr3, hon3⟩
      have hT3 := HT2.out.kept hon3 (fun h => hne (by cases h; rfl))
      have hon03 := only_trans (only_below B hb02) hon3
      have hs03 := hon03.size
      have Hr3 := Lib.hid hr3
      have HT3 := Lib.hid hT3
      have hB3 := hr3.lt
      have hg3 := hT3.lt
      have hN3 : TokAt ((w3.alloc (.cells zeroA 69)).setRow w3.heap.size (tokA 2 p 0 (s.extract p q))) w3.heap.size (tokA 2 p 0 (s.extract p q)) := (TokAt.new w3).row _
      have hb4 : Below w3.heap.size w3 ((w3.alloc (.cells zeroA 69)).setRow w3.heap.size (tokA 2 p 0 (s.extract p q))) := below_setRow ((Below.refl _ _).alloc (Nat.le_refl _) _) (Nat.le_refl _) _
      have hr4 := hr3.kept hb4
      have hT4 := hT3.below hb4
      have hb04 := only_trans hon03 (only_below B hb4)
      have c3 := hN3.c3
      have Hr4 := Lib.hid hr4
      have HT4 := Lib.hid hT4
      have HN4 := Lib.hid hN3
      have Hzero : Hid (zeroA = #[.int .i64 0, .int .i64 0, .int .i64 0, .string ⟨#[]⟩]) := rfl
      rw [Hzero.out] at c3
      clear hr3 hT3 hr4 hT4 hN3 hb4 hon3 hon03
      go_wp2_with (first | (refine wpList_store_row rfl 69 (.tmp 5) (.tmp 29) rfl w3.heap.size (tokA 2 p 0 (s.extract p q)) rfl rfl 69 zeroA (TokAt.new w3) (by kernel_rfl) rfl (tokA_one _ _ _ _) ?_))
      have hsz : (s.extract p q).size ≤ 18 := by
        rw [He.out, Lib.size_eq]
        have h1 := Hln.out
        have h2 := Hn13.out
        simp only [List.toList_toArray]
        omega
      have hat : Lib.atoi (s.extract p q).data.toList = some (v : Int) := by rw [He.out]; exact Hat.out
      refine (Tryd.strconv_Atoi _ (v : Int) hsz hat ((w3.alloc (.cells zeroA 69)).setRow w3.heap.size (tokA 2 p 0 (s.extract p q)))).mono ?_
      rintro e w5 ⟨rfl, tt, hw5⟩
      have hb5 : Below ((w3.alloc (.cells zeroA 69)).setRow w3.heap.size (tokA 2 p 0 (s.extract p q))).heap.size ((w3.alloc (.cells zeroA 69)).setRow w3.heap.size (tokA 2 p 0 (s.extract p q))) w5 := by
        rw [hw5]
        exact Joins.below_bytesWorld _ _ _ _ (Nat.le_refl _)
      have hr5 := Hr4.out.kept hb5
      have hT5 := HT4.out.below hb5
      have hN5 := HN4.out.below hb5
      have hb05 := only_trans hb04 (only_below B hb5)
      have c2 := hN5.c2
      have f2 := hN5.frozen 2
      have hneN : w.heap.size ≠ w3.heap.size := by omega
      have hneB : B ≠ w3.heap.size := by omega
      have hr6 := hr5.only (only_set w5 w3.heap.size 2 (.int .i64 (v : Int))) hneB
      have hT6 := hT5.kept (only_set w5 w3.heap.size 2 (.int .i64 (v : Int))) (fun h => hneN (Option.some.inj h))
      have hN6 := hN5.val v
      have hb06 := only_new hb05 (only_set w5 w3.heap.size 2 (.int .i64 (v : Int))) hs03
      have Hr6 := Lib.hid hr6
      have HT6 := Lib.hid hT6
      have HN6 := Lib.hid hN6
      have Hb06 := Lib.hid hb06
      clear hr5 hT5 hN5 hr6 hT6 hN6 hb05 hb04 hb5 hw5 c3 Hr4 HT4 HN4 hb06 hsz hat
      generalize s.extract p q = sx at *
      go_wp2_with (first | (refine wpList_load_row rfl 69 (.tmp 5) rfl w3.heap.size rfl 69 (tokA 2 p v sx) _ _ HN6.out Tryd.underlying69 rfl (by kernel_rfl) ?_) | (refine wpList_store_row rfl 69 (.tmp 2) (.tmp 37) rfl w.heap.size (tokA 2 p v sx) rfl rfl 69 zeroA HT6.out (by kernel_rfl) rfl (tokA_one _ _ _ _) ?_))
      refine bodyPost_ret (results_tok2 Tryd.results58 _ _ w.heap.size _ rfl rfl (HT6.out.row _)) rfl ?_
      rw [HO1.out, He.out]
      refine ⟨rfl, ?_, only_new Hb06.out (only_row _ _ _) (Nat.le_refl _)⟩
      rw [Hq.out]
      exact Hr6.out.only (only_row _ _ _) hne

set_option maxHeartbeats 2000000 in
theorem quoted_any (B p : Nat) (s : ByteArray) (hs : s.size ≤ 100000) (hp : p < s.size) (w : World) (hr : Rd w B s p) (o : One)
    (ho : o = if nextIs ((rest s (p + 1)).drop (tw isIn (rest s (p + 1)))) 34 = true then (if 400 < tw isIn (rest s (p + 1)) then .bad 2 else .good 3 0 (tw isIn (rest s (p + 1)) + 2) ((rest s (p + 1)).take (tw isIn (rest s (p + 1))))) else .bad 6) :
    Calls Tryd.prog 59 #[.pointer (some ⟨B, 0, none⟩)] w (Read o B p s w) := by
  have hb0 : Below w.heap.size w (w.alloc (.cells zeroA 69)) := (Below.refl _ w).alloc (Nat.le_refl _) _
  have hr0 := hr.kept hb0
  have hat0 := hr0.at
  have hBlt := hr.lt
  have hne : B ≠ w.heap.size := by omega
  have Hr0 := Lib.hid hr0
  have HT0 := Lib.hid (TokAt.new w)
  have hlen := tw_le isIn (rest s (p + 1))
  rw [rest_length] at hlen
  have He := Lib.hid (ext_rest s (p + 1) (tw isIn (rest s (p + 1))))
  have Hnx := Lib.hid (next_quote s (p + 1 + tw isIn (rest s (p + 1))))
  have Hhd := Lib.hid (rest_drop s (p + 1) (tw isIn (rest s (p + 1))))
  have hzero : zeroA = #[.int .i64 0, .int .i64 0, .int .i64 0, .string ⟨#[]⟩] := rfl
  rw [hzero] at hat0
  have HO := Lib.hid ho
  obtain ⟨p1, hp1⟩ : ∃ p1, p + 1 = p1 := ⟨_, rfl⟩
  rw [hp1] at hlen He Hnx Hhd HO
  have hpI : (p : Int) + 1 = (p1 : Int) := by omega
  have hp1s : p1 ≤ s.size := by omega
  have Hp1 := Lib.hid hp1
  clear hr hr0 ho hzero hp1
  go_enter Tryd.func59, Tryd.ntmps59
  go_wp2_with fail
  refine (until_new B p s hs p1 (by omega) [7, 2] (by decide) _ 2 _ rfl rfl (w.alloc (.cells zeroA 69)) (by simp) Hr0.out).mono ?_
  rintro e w1 ⟨rfl, hb1⟩
  rw [of_in]
  generalize hN : tw isIn (rest s p1) = n at *
  have HN := Lib.hid hN
  have hr1 := Hr0.out.kept hb1
  have hT1 := HT0.out.below hb1
  have hb01 : Below w.heap.size w w1 := hb0.trans (hb1.mono hb0.size)
  have Hr1 := Lib.hid hr1
  have HT1 := Lib.hid hT1
  clear hr1 hT1 hat0 hb1 hb0 hN
  have hq1 : p1 ≤ p1 + n := by omega
  have hq2 : p1 + n ≤ s.size := by omega
  have hq3 : ((p1 + n : Nat) : Int) ≤ 100000 := by omega
  have Hpq := Lib.hid (show p + (n + 2) = p1 + n + 1 by have := Hp1.out; omega)
  have hnI : ((p1 + n : Nat) : Int) - (p1 : Int) = (n : Int) := by omega
  generalize hq : p1 + n = q at *
  have Hq := Lib.hid hq
  clear hq
  go_wp2_with fail
  refine (is_new B p s q (by omega) [7] (by decide) _ 1 _ rfl rfl w1 rfl Hr1.out).mono ?_
  rintro e w2 ⟨rfl, hb2⟩
  have hr2 := Hr1.out.kept hb2
  have hT2 := HT1.out.below hb2
  have hb02 := hb01.trans (hb2.mono hb01.size)
  have Hr2 := Lib.hid hr2
  have HT2 := Lib.hid hT2
  clear hr2 hT2 hb2 hb01
  cases hx : isB s q [7] with
  | false =>
    have HO1 := Lib.hid (HO.out.trans (if_neg (fun h => by rw [Hhd.out, ← Hnx.out, hx] at h; cases h)))
    clear hx
    go_wp2_with (first | (refine wpList_store_row rfl 69 (.tmp 2) (.tmp 21) rfl w.heap.size zeroA rfl rfl 69 zeroA HT2.out (by kernel_rfl) rfl zeroA_one ?_))
    refine bodyPost_ret (results_tok2 Tryd.results59 _ _ w.heap.size _ rfl rfl (HT2.out.row _)) rfl ?_
    rw [HO1.out]
    exact ⟨rfl, Hr2.out.only (only_row _ _ _) hne, only_new (only_below B hb02) (only_row _ _ _) (Nat.le_refl _)⟩
  | true =>
    have HO0 := Lib.hid (HO.out.trans (if_pos (by rw [Hhd.out, ← Hnx.out, hx])))
    have hqs : q < s.size := by
      unfold isB at hx
      by_cases h : q < s.size
      · exact h
      · rw [dif_neg h] at hx; cases hx
    clear hx
    by_cases h : 400 < n
    · have HO1 := Lib.hid (HO0.out.trans (if_pos h))
      have hI : (400 : Int) < ((n : Nat) : Int) := by omega
      go_wp2_with (first | (refine wpList_store_row rfl 69 (.tmp 2) (.tmp 26) rfl w.heap.size zeroA rfl rfl 69 zeroA HT2.out (by kernel_rfl) rfl zeroA_one ?_))
      refine bodyPost_ret (results_tok2 Tryd.results59 _ _ w.heap.size _ rfl rfl (HT2.out.row _)) rfl ?_
      rw [HO1.out]
      exact ⟨rfl, Hr2.out.only (only_row _ _ _) hne, only_new (only_below B hb02) (only_row _ _ _) (Nat.le_refl _)⟩
    · have HO1 := Lib.hid (HO0.out.trans (if_neg h))
      have hI : ¬ (400 : Int) < ((n : Nat) : Int) := by omega
      have hqp : p ≤ q + 1 := by have := Hp1.out; omega
      have hqI : (q : Int) + 1 = ((q + 1 : Nat) : Int) := by omega
      have hqs1 : q + 1 ≤ s.size := hqs
      have hq1I : ((q + 1 : Nat) : Int) ≤ 100000 := by omega
      generalize q + 1 = q' at *
      clear h
      go_wp2_with fail
      refine (take_any B p s hs 3 q' (by decide) hqp hqs1 w2 Hr2.out).mono ?_
      rintro e w3 ⟨rfl, hr3, hon3⟩
      have hT3 := HT2.out.kept hon3 (fun h => hne (by cases h; rfl))
      have hon03 := only_trans (only_below B hb02) hon3
      have hs03 := hon03.size
      have hB3 := hr3.lt
      have hg3 := hT3.lt
      have hN3 : TokAt ((w3.alloc (.cells zeroA 69)).setRow w3.heap.size (tokA 3 p 0 (s.extract p q'))) w3.heap.size (tokA 3 p 0 (s.extract p q')) := (TokAt.new w3).row _
      have hb4 : Below w3.heap.size w3 ((w3.alloc (.cells zeroA 69)).setRow w3.heap.size (tokA 3 p 0 (s.extract p q'))) := below_setRow ((Below.refl _ _).alloc (Nat.le_refl _) _) (Nat.le_refl _) _
      have hr4 := hr3.kept hb4
      have hT4 := hT3.below hb4
      have hb04 := only_trans hon03 (only_below B hb4)
      have hneN : w.heap.size ≠ w3.heap.size := by omega
      have hneB : B ≠ w3.heap.size := by omega
      generalize hX : s.extract p q' = sx at *
      have c0 := hr4.text
      have c3 := hN3.c3
      have f3 := hN3.frozen 3
      have HN6 := Lib.hid (hN3.text (s.extract p1 q))
      have Hr6 := Lib.hid (hr4.only (only_set _ w3.heap.size 3 (.string (s.extract p1 q))) hneB)
      have HT6 := Lib.hid (hT4.kept (only_set _ w3.heap.size 3 (.string (s.extract p1 q))) (fun h => hneN (Option.some.inj h)))
      have Hb06 := Lib.hid (only_new hb04 (only_set _ w3.heap.size 3 (.string (s.extract p1 q))) hs03)
      have Hzero : Hid (zeroA = #[.int .i64 0, .int .i64 0, .int .i64 0, .string ⟨#[]⟩]) := rfl
      rw [Hzero.out] at c0 c3 f3
      have hsl : p1 ≤ q ∧ q ≤ s.size := ⟨hq1, hq2⟩
      clear hr3 hT3 hr4 hT4 hN3 hb4 hon3 hon03 hb04 hX
      go_wp2_with (first | (refine wpList_store_row rfl 69 (.tmp 6) (.tmp 30) rfl w3.heap.size (tokA 3 p 0 sx) rfl rfl 69 zeroA (TokAt.new w3) (by kernel_rfl) rfl (tokA_one _ _ _ _) ?_) | (refine wpList_load_row rfl 69 (.tmp 6) rfl w3.heap.size rfl 69 (tokA 3 p 0 (s.extract p1 q)) _ _ HN6.out Tryd.underlying69 rfl (by kernel_rfl) ?_) | (refine wpList_store_row rfl 69 (.tmp 2) (.tmp 39) rfl w.heap.size (tokA 3 p 0 (s.extract p1 q)) rfl rfl 69 zeroA HT6.out (by kernel_rfl) rfl (tokA_one _ _ _ _) ?_))
      refine bodyPost_ret (results_tok2 Tryd.results59 _ _ w.heap.size _ rfl rfl (HT6.out.row _)) rfl ?_
      rw [HO1.out]
      refine ⟨by show Ending.returned (.tuple #[tokV 3 p 0 (s.extract p1 q), .int .i64 0]) = _; rw [He.out], ?_, only_new Hb06.out (only_row _ _ _) (Nat.le_refl _)⟩
      rw [Hpq.out]
      exact Hr6.out.only (only_row _ _ _) hne

end Go.Proofs.YtcabhanmeookkaaDoor.Lx
