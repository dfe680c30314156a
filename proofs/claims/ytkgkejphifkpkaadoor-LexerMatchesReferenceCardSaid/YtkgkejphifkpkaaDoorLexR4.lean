/- Walks over package gazetteerref04: one token: strings and symbols. -/
import Derived.Test.YtkgkejphifkpkaaDoorLexR3
namespace Go.Proofs.YtkgkejphifkpkaaDoor.Lx
set_option linter.unusedVariables false
set_option linter.unusedSimpArgs false
open Go.RowKit

set_option maxRecDepth 100000 in
set_option maxHeartbeats 2000000 in
theorem next_quoted (s : ByteArray) (hs : s.size ≤ 100000) (p : Nat) (hp : p < s.size) (w : World) (h1 : isLet s[p] = false) (h2 : isNum s[p] = false) (h34 : s[p].toNat = 34) (o : One) (ho : tokB (rest s p) = o) :
    Calls Tryd.prog 68 #[.string s, .int .i64 (p : Int)] w (Next o p w) := by
  have HO := Lib.hid (ho.symm.trans (tok_quoted hp h34))
  have hI34 : ((s[p].toNat : Int) == 34) = true := by rw [h34]; rfl
  clear ho h34
  have hpI : (p : Int) < (s.size : Int) := by omega
  have HL := Lib.hid (letter_any s[p])
  have HD := Lib.hid (digit_any s[p])
  obtain ⟨p1, hp1⟩ : ∃ p1, p + 1 = p1 := ⟨_, rfl⟩
  have hpI1 : (p : Int) + 1 = (p1 : Int) := by omega
  have hp1s : p1 ≤ s.size := by omega
  have Hp1 := Lib.hid hp1
  clear hp1
  go_enter Tryd.func68, Tryd.ntmps68
  go_wp2_with fail
  obtain ⟨w2, hw2⟩ : ∃ w2, (w.alloc (.cells #[.int .i64 0, .int .i64 0, .int .i64 0, .string ⟨#[]⟩] 46)).alloc (.cells #[.int .i64 0, .int .i64 (p : Int), .int .i64 0, .string ⟨#[]⟩] 46) = w2 := ⟨_, rfl⟩
  rw [hw2]
  have hR : TokAt w2 w.heap.size zeroA := by rw [← hw2]; exact heap_alloc2_old w _ _
  have hT : TokAt w2 (w.heap.size + 1) (tokA 0 p 0 ⟨#[]⟩) := by rw [← hw2]; exact heap_alloc2_new w _ _
  have hb2 : Below w.heap.size w w2 := by rw [← hw2]; exact ((Below.refl _ w).alloc (Nat.le_refl _) _).alloc (by simp) _
  have hne : w.heap.size ≠ w.heap.size + 1 := by omega
  have HR := Lib.hid hR
  have HT := Lib.hid hT
  clear hw2 hR hT
  refine (HL.out _).mono ?_
  rintro e w3 ⟨rfl, rfl⟩
  rw [h1]
  go_wp2_with fail
  refine (HD.out _).mono ?_
  rintro e w3 ⟨rfl, rfl⟩
  rw [h2]
  clear HL HD h1 h2
  rw [show p + 1 = p1 from Hp1.out] at HO
  have Htl := Lib.hid (tw_le isIn (rest s p1))
  go_wp2_with fail
  go_loop [6] (fun i => ∃ k : Nat, k ≤ tw isIn (rest s p1) ∧ i = .int .i64 ((p1 + k : Nat) : Int)) (fun i => s.size - (intOf i).toNat)
  case atStart => exact ⟨0, by omega, rfl⟩
  case round =>
    obtain ⟨k, hk, rfl⟩ := hrel
    have hkl : k ≤ s.size - p1 := by have := Htl.out; rw [rest_length] at this; omega
    have Hk := Lib.hid hk
    have HLn := Lib.hid (rest_length s p1)
    have HRg := Lib.hid (rest_get s p1 k)
    clear hk
    by_cases hlt : p1 + k < s.size
    · have hl : k < (rest s p1).length := by have := HLn.out; omega
      have HE := Lib.hid (tw_eq_of isIn (rest s p1) k Hk.out)
      have HG := Lib.hid (tw_ge_succ isIn (rest s p1) k Hk.out hl)
      have hRR := HRg.out hl hlt
      have HRR := Lib.hid hRR
      have HH := Lib.hid (show ((rest s p1).drop k).head? = some s[p1 + k] by rw [List.head?_drop, List.getElem?_eq_getElem hl, hRR])
      clear hRR
      by_cases hq34 : s[p1 + k].toNat = 34
      · have Hx := Lib.hid (show isIn s[p1 + k] = false by unfold isIn; simp [hq34])
        have hn := HE.out (fun h => by rw [HRR.out]; exact Hx.out)
        have hN : nextIs ((rest s p1).drop k) 34 = true := by
          unfold nextIs
          rw [HH.out, show s[p1 + k] = 34 from UInt8.toNat_inj.1 (by rw [hq34]; rfl)]
          rfl
        rw [hn, if_pos hN] at HO
        obtain ⟨q, hq, hqs, hqc⟩ : ∃ q, p1 + k = q ∧ ∃ h : q < s.size, s[q].toNat = 34 := ⟨_, rfl, hlt, hq34⟩
        have hA : ((s[q].toNat : Int) == 34) = true := by rw [hqc]; rfl
        have hA2 : ((s[q].toNat : Int) != 34) = false := by rw [hqc]; rfl
        have hB : ((s[q].toNat : Int) == 10) = false := by rw [hqc]; rfl
        have hB2 : ((s[q].toNat : Int) != 10) = true := by rw [hqc]; rfl
        have he := ext_rest s p1 k
        rw [hq] at he
        have He := Lib.hid he
        have hk2 : (q : Int) - (p : Int) - 1 = (k : Int) := by have := Hp1.out; omega
        have g2 : (p1 : Int) ≤ (q : Int) := by omega
        have g3 : (q : Int) ≤ (s.size : Int) := by omega
        rw [hq]
        clear hn hN hq34 HE HG he hqc HH HRR HRg Hx hlt hq Hk
        by_cases h400 : 400 < k
        · have HO1 := Lib.hid (HO.out.trans (if_pos h400))
          have hI : (400 : Int) < (k : Int) := by omega
          clear h400
          go_wp2_with (first | (refine wpList_store_row rfl 46 (.tmp 4) (.tmp 121) rfl w.heap.size zeroA rfl rfl 46 zeroA HR.out (by kernel_rfl) rfl zeroA_one ?_))
          refine bodyPost_ret (results_tok2 Tryd.results68 _ _ w.heap.size _ rfl rfl (HR.out.row _)) rfl ?_
          rw [HO1.out]
          exact ⟨rfl, below_setRow hb2 (Nat.le_refl _) _⟩
        · have HO1 := Lib.hid (HO.out.trans (if_neg h400))
          have hI : ¬ (400 : Int) < (k : Int) := by omega
          clear h400
          have g1 : (0 : Int) ≤ (p1 : Int) := by omega
          go_wp2_with (first | (refine wpList_store_row rfl 46 (.tmp 4) (.tmp 128) rfl w.heap.size (tokA 3 p 0 (s.extract p1 q)) rfl rfl 46 zeroA HR.out (by kernel_rfl) rfl (tokA_one _ _ _ _) ?_))
          refine bodyPost_ret (results_tok2 Tryd.results68 _ _ w.heap.size _ rfl rfl (HR.out.row _)) rfl ?_
          rw [HO1.out]
          exact ⟨by show Ending.returned (.tuple #[tokV 3 p 0 (s.extract p1 q), .int .i64 0]) = _; rw [He.out], below_setRow hb2 (Nat.le_refl _) _⟩
      · by_cases hq10 : s[p1 + k].toNat = 10
        · have Hx := Lib.hid (show isIn s[p1 + k] = false by unfold isIn; simp [hq10])
          have hA : ((s[p1 + k].toNat : Int) == 34) = false := by rw [hq10]; rfl
          have hA2 : ((s[p1 + k].toNat : Int) != 34) = true := by rw [hq10]; rfl
          have hB : ((s[p1 + k].toNat : Int) == 10) = true := by rw [hq10]; rfl
          have hB2 : ((s[p1 + k].toNat : Int) != 10) = false := by rw [hq10]; rfl
          have hn := HE.out (fun h => by rw [HRR.out]; exact Hx.out)
          have hN : ¬ nextIs ((rest s p1).drop k) 34 = true := by
            unfold nextIs
            rw [HH.out, show s[p1 + k] = 10 from UInt8.toNat_inj.1 (by rw [hq10]; rfl)]
            decide
          rw [hn, if_neg hN] at HO
          clear hn hN hq34 hq10 HE HG
          have HO1 := HO
          go_wp2_with (first | (refine wpList_store_row rfl 46 (.tmp 4) (.tmp 115) rfl w.heap.size zeroA rfl rfl 46 zeroA HR.out (by kernel_rfl) rfl zeroA_one ?_))
          refine bodyPost_ret (results_tok2 Tryd.results68 _ _ w.heap.size _ rfl rfl (HR.out.row _)) rfl ?_
          rw [HO1.out]
          exact ⟨rfl, below_setRow hb2 (Nat.le_refl _) _⟩
        · have Hx := Lib.hid (show isIn s[p1 + k] = true by unfold isIn; simp [hq34, hq10])
          have hA2 : ((s[p1 + k].toNat : Int) != 34) = true := by simp; omega
          have hB2 : ((s[p1 + k].toNat : Int) != 10) = true := by simp; omega
          clear hq34 hq10
          go_wp2_with fail
          go_round
          case rel => exact ⟨k + 1, HG.out (by rw [HRR.out]; exact Hx.out), by go_num⟩
          case measure => simp [intOf]; omega
    · have hd : decide (p1 + k < s.size) = false := decide_eq_false hlt
      have hqs : p1 + k = s.size := by omega
      have hn := tw_eq_of isIn (rest s p1) k Hk.out (fun h => by have := HLn.out; omega)
      have hN : ¬ nextIs ((rest s p1).drop k) 34 = true := by
        rw [List.drop_eq_nil_of_le (by have := HLn.out; omega)]
        decide
      rw [hn, if_neg hN] at HO
      clear hn hN
      have HO1 := HO
      have hee : ((p1 + k : Nat) : Int) = (s.size : Int) := by omega
      clear hqs
      go_wp2_with (first | (refine wpList_store_row rfl 46 (.tmp 4) (.tmp 115) rfl w.heap.size zeroA rfl rfl 46 zeroA HR.out (by kernel_rfl) rfl zeroA_one ?_))
      refine bodyPost_ret (results_tok2 Tryd.results68 _ _ w.heap.size _ rfl rfl (HR.out.row _)) rfl ?_
      rw [HO1.out]
      exact ⟨rfl, below_setRow hb2 (Nat.le_refl _) _⟩

theorem sym_has : ∀ c : UInt8, ([59, 44, 46, 58, 40, 41, 91, 93, 123, 125, 61, 60, 62, 43, 45] : List UInt8).contains c = isSym c := fun _ => rfl
theorem nextIs_at {s : ByteArray} {q : Nat} (h : q < s.size) : nextIs (rest s q) 61 = (s[q] == 61) := by
  unfold nextIs
  rw [rest_cons s q h]
  rfl
theorem nextIs_end {s : ByteArray} {q : Nat} (h : ¬ q < s.size) : nextIs (rest s q) 61 = false := by
  have : rest s q = [] := List.eq_nil_of_length_eq_zero (by rw [rest_length]; omega)
  rw [this]
  rfl

set_option maxRecDepth 100000 in
set_option maxHeartbeats 2000000 in
theorem next_two (s : ByteArray) (hs : s.size ≤ 100000) (p : Nat) (hp : p < s.size) (w : World) (hc : isTwo s[p] = true) (hn : nextIs (rest s (p + 1)) 61 = true) (o : One) (ho : tokB (rest s p) = o) :
    Calls Tryd.prog 68 #[.string s, .int .i64 (p : Int)] w (Next o p w) := by
  obtain ⟨_, h1, h2, h34⟩ := two_facts _ hc
  have HO := Lib.hid (ho.symm.trans (tok_two hp hc hn))
  have He := Lib.hid (ext_rest s p 2)
  have hlt : p + 1 < s.size := by
    by_cases h : p + 1 < s.size
    · exact h
    · rw [nextIs_end h] at hn; cases hn
  have h61 : ((s[p + 1].toNat : Int) == 61) = true := by
    rw [nextIs_at hlt, beq_iff_eq] at hn
    rw [hn]; rfl
  have hI34 : ((s[p].toNat : Int) == 34) = false := by simp; omega
  have hh := has_any' ⟨#[33, 60, 62]⟩ (by decide) s[p]
  have hh2 := has_any' ⟨#[59, 44, 46, 58, 40, 41, 91, 93, 123, 125, 61, 60, 62, 43, 45]⟩ (by decide) s[p]
  rw [show (ByteArray.mk #[33, 60, 62]).data.toList.contains s[p] = isTwo s[p] from two_has s[p]] at hh
  rw [show (ByteArray.mk #[59, 44, 46, 58, 40, 41, 91, 93, 123, 125, 61, 60, 62, 43, 45]).data.toList.contains s[p] = isSym s[p] from sym_has s[p]] at hh2
  rw [hc] at hh
  clear ho h34 hn hc
  obtain ⟨p2, hp2⟩ : ∃ p2, p + 2 = p2 := ⟨_, rfl⟩
  rw [hp2] at He
  have hpI2 : (p : Int) + 1 + 1 = (p2 : Int) := by omega
  have hp2s : p2 ≤ s.size := by omega
  clear hp2
  have hpI : (p : Int) < (s.size : Int) := by omega
  have HL := Lib.hid (letter_any s[p])
  have HD := Lib.hid (digit_any s[p])
  obtain ⟨p1, hp1, hlt, h61⟩ : ∃ p1, p + 1 = p1 ∧ ∃ h : p1 < s.size, ((s[p1].toNat : Int) == 61) = true := ⟨_, rfl, hlt, h61⟩
  have hpI1 : (p : Int) + 1 = (p1 : Int) := by omega
  have hp1s : p1 ≤ s.size := by omega
  have hlt1 : (p1 : Int) < (s.size : Int) := by omega
  have hpI3 : (p1 : Int) + 1 = (p2 : Int) := by omega
  clear hp1 hpI2
  go_enter Tryd.func68, Tryd.ntmps68
  go_wp2_with fail
  obtain ⟨w2, hw2⟩ : ∃ w2, (w.alloc (.cells #[.int .i64 0, .int .i64 0, .int .i64 0, .string ⟨#[]⟩] 46)).alloc (.cells #[.int .i64 0, .int .i64 (p : Int), .int .i64 0, .string ⟨#[]⟩] 46) = w2 := ⟨_, rfl⟩
  rw [hw2]
  have hR : TokAt w2 w.heap.size zeroA := by rw [← hw2]; exact heap_alloc2_old w _ _
  have hT : TokAt w2 (w.heap.size + 1) (tokA 0 p 0 ⟨#[]⟩) := by rw [← hw2]; exact heap_alloc2_new w _ _
  have hb2 : Below w.heap.size w w2 := by rw [← hw2]; exact ((Below.refl _ w).alloc (Nat.le_refl _) _).alloc (by simp) _
  have hne : w.heap.size ≠ w.heap.size + 1 := by omega
  have HR := Lib.hid hR
  have HT := Lib.hid hT
  clear hw2 hR hT
  refine (HL.out _).mono ?_
  rintro e w3 ⟨rfl, rfl⟩
  rw [h1]
  go_wp2_with fail
  refine (HD.out _).mono ?_
  rintro e w3 ⟨rfl, rfl⟩
  rw [h2]
  clear HL HD h1 h2
  have c0 := HT.out.c0
  have f0 := HT.out.frozen 0
  have HT3 := Lib.hid (HT.out.kind 4)
  have HR3 := Lib.hid (HR.out.far hne 0 (.int .i64 4))
  have hb3 := below_set hb2 (w.heap.size + 1) (by omega) 0 (.int .i64 4)
  go_wp2_with fail
  refine (hh _).mono ?_
  rintro e w3 ⟨rfl, rfl⟩
  have c3 : (w2.setCell ⟨w.heap.size + 1, 0, none⟩ (.int .i64 4)).cell? ⟨w.heap.size + 1, 3, none⟩ = some (.string ⟨#[]⟩) := HT3.out.c3
  have f3 : (w2.setCell ⟨w.heap.size + 1, 0, none⟩ (.int .i64 4)).frozen? ⟨w.heap.size + 1, 3, none⟩ = false := HT3.out.frozen 3
  have HT9 := Lib.hid (HT3.out.text (s.extract p p2))
  have HR9 := Lib.hid (HR3.out.far hne 3 (.string (s.extract p p2)))
  have Hb9 := Lib.hid (below_set hb3 (w.heap.size + 1) (by omega) 3 (.string (s.extract p p2)))
  have g1 : (0 : Int) ≤ (p : Int) := by omega
  have g2 : (p : Int) ≤ (p2 : Int) := by omega
  have g3 : (p2 : Int) ≤ (s.size : Int) := by omega
  go_wp2_with (first | (refine wpList_load_row rfl 46 (.tmp 7) rfl (w.heap.size + 1) rfl 46 (tokA 4 p 0 (s.extract p p2)) _ _ HT9.out Tryd.underlying46 rfl (by kernel_rfl) ?_) | (refine wpList_store_row rfl 46 (.tmp 4) (.tmp 155) rfl w.heap.size (tokA 4 p 0 (s.extract p p2)) rfl rfl 46 zeroA HR9.out (by kernel_rfl) rfl (tokA_one _ _ _ _) ?_))
  refine bodyPost_ret (results_tok2 Tryd.results68 _ _ w.heap.size _ rfl rfl (HR9.out.row _)) rfl ?_
  rw [HO.out]
  exact ⟨by show Ending.returned (.tuple #[tokV 4 p 0 (s.extract p p2), .int .i64 0]) = _; rw [He.out], below_setRow Hb9.out (Nat.le_refl _) _⟩

set_option maxRecDepth 100000 in
set_option maxHeartbeats 2000000 in
theorem next_one (s : ByteArray) (hs : s.size ≤ 100000) (p : Nat) (hp : p < s.size) (w : World) (hc : isSym s[p] = true) (hn : isTwo s[p] = false ∨ nextIs (rest s (p + 1)) 61 = false) (o : One) (ho : tokB (rest s p) = o) :
    Calls Tryd.prog 68 #[.string s, .int .i64 (p : Int)] w (Next o p w) := by
  obtain ⟨_, h1, h2, h34⟩ := sym_facts _ hc
  have HO := Lib.hid (ho.symm.trans (tok_one hp hc hn))
  have He := Lib.hid (ext_rest s p 1)
  have hI34 : ((s[p].toNat : Int) == 34) = false := by simp; omega
  have hh := has_any' ⟨#[33, 60, 62]⟩ (by decide) s[p]
  have hh2 := has_any' ⟨#[59, 44, 46, 58, 40, 41, 91, 93, 123, 125, 61, 60, 62, 43, 45]⟩ (by decide) s[p]
  rw [show (ByteArray.mk #[33, 60, 62]).data.toList.contains s[p] = isTwo s[p] from two_has s[p]] at hh
  rw [show (ByteArray.mk #[59, 44, 46, 58, 40, 41, 91, 93, 123, 125, 61, 60, 62, 43, 45]).data.toList.contains s[p] = isSym s[p] from sym_has s[p]] at hh2
  rw [hc] at hh2
  clear ho h34 hc
  have hpI : (p : Int) < (s.size : Int) := by omega
  have HL := Lib.hid (letter_any s[p])
  have HD := Lib.hid (digit_any s[p])
  obtain ⟨p1, hp1⟩ : ∃ p1, p + 1 = p1 := ⟨_, rfl⟩
  have hpI1 : (p : Int) + 1 = (p1 : Int) := by omega
  have hp1s : p1 ≤ s.size := by omega
  have Hp1 := Lib.hid hp1
  rw [hp1] at hn
  rw [hp1] at He
  clear hp1
  go_enter Tryd.func68, Tryd.ntmps68
  go_wp2_with fail
  obtain ⟨w2, hw2⟩ : ∃ w2, (w.alloc (.cells #[.int .i64 0, .int .i64 0, .int .i64 0, .string ⟨#[]⟩] 46)).alloc (.cells #[.int .i64 0, .int .i64 (p : Int), .int .i64 0, .string ⟨#[]⟩] 46) = w2 := ⟨_, rfl⟩
  rw [hw2]
  have hR : TokAt w2 w.heap.size zeroA := by rw [← hw2]; exact heap_alloc2_old w _ _
  have hT : TokAt w2 (w.heap.size + 1) (tokA 0 p 0 ⟨#[]⟩) := by rw [← hw2]; exact heap_alloc2_new w _ _
  have hb2 : Below w.heap.size w w2 := by rw [← hw2]; exact ((Below.refl _ w).alloc (Nat.le_refl _) _).alloc (by simp) _
  have hne : w.heap.size ≠ w.heap.size + 1 := by omega
  have HR := Lib.hid hR
  have HT := Lib.hid hT
  clear hw2 hR hT
  refine (HL.out _).mono ?_
  rintro e w3 ⟨rfl, rfl⟩
  rw [h1]
  go_wp2_with fail
  refine (HD.out _).mono ?_
  rintro e w3 ⟨rfl, rfl⟩
  rw [h2]
  clear HL HD h1 h2
  have c0 := HT.out.c0
  have f0 := HT.out.frozen 0
  have HT3 := Lib.hid (HT.out.kind 4)
  have HR3 := Lib.hid (HR.out.far hne 0 (.int .i64 4))
  have hb3 := below_set hb2 (w.heap.size + 1) (by omega) 0 (.int .i64 4)
  cases hx : isTwo s[p] with
  | false =>
    rw [hx] at hh
    clear hx hn
    go_wp2_with fail
    refine (hh _).mono ?_
    rintro e w3 ⟨rfl, rfl⟩
    go_wp2_with fail
    refine (hh2 _).mono ?_
    rintro e w3 ⟨rfl, rfl⟩
    have c3 : (w2.setCell ⟨w.heap.size + 1, 0, none⟩ (.int .i64 4)).cell? ⟨w.heap.size + 1, 3, none⟩ = some (.string ⟨#[]⟩) := HT3.out.c3
    have f3 : (w2.setCell ⟨w.heap.size + 1, 0, none⟩ (.int .i64 4)).frozen? ⟨w.heap.size + 1, 3, none⟩ = false := HT3.out.frozen 3
    have HT9 := Lib.hid (HT3.out.text (s.extract p p1))
    have HR9 := Lib.hid (HR3.out.far hne 3 (.string (s.extract p p1)))
    have Hb9 := Lib.hid (below_set hb3 (w.heap.size + 1) (by omega) 3 (.string (s.extract p p1)))
    have g1 : (0 : Int) ≤ (p : Int) := by omega
    have g2 : (p : Int) ≤ (p1 : Int) := by omega
    have g3 : (p1 : Int) ≤ (s.size : Int) := by omega
    go_wp2_with (first | (refine wpList_load_row rfl 46 (.tmp 7) rfl (w.heap.size + 1) rfl 46 (tokA 4 p 0 (s.extract p p1)) _ _ HT9.out Tryd.underlying46 rfl (by kernel_rfl) ?_) | (refine wpList_store_row rfl 46 (.tmp 4) (.tmp 155) rfl w.heap.size (tokA 4 p 0 (s.extract p p1)) rfl rfl 46 zeroA HR9.out (by kernel_rfl) rfl (tokA_one _ _ _ _) ?_))
    refine bodyPost_ret (results_tok2 Tryd.results68 _ _ w.heap.size _ rfl rfl (HR9.out.row _)) rfl ?_
    rw [HO.out]
    exact ⟨by show Ending.returned (.tuple #[tokV 4 p 0 (s.extract p p1), .int .i64 0]) = _; rw [He.out], below_setRow Hb9.out (Nat.le_refl _) _⟩
  | true =>
    rw [hx] at hh
    rw [hx] at hn
    have hn2 := hn.resolve_left (fun h => by cases h)
    clear hx hn
    by_cases hlt : p1 < s.size
    · have h61 : ((s[p1].toNat : Int) == 61) = false := by
        rw [nextIs_at hlt] at hn2
        rw [show (61 : Int) = ((61 : UInt8).toNat : Int) from rfl, byte_eq]
        exact hn2
      have hlt1 : (p1 : Int) < (s.size : Int) := by omega
      clear hn2
      go_wp2_with fail
      refine (hh _).mono ?_
      rintro e w3 ⟨rfl, rfl⟩
      go_wp2_with fail
      refine (hh2 _).mono ?_
      rintro e w3 ⟨rfl, rfl⟩
      have c3 : (w2.setCell ⟨w.heap.size + 1, 0, none⟩ (.int .i64 4)).cell? ⟨w.heap.size + 1, 3, none⟩ = some (.string ⟨#[]⟩) := HT3.out.c3
      have f3 : (w2.setCell ⟨w.heap.size + 1, 0, none⟩ (.int .i64 4)).frozen? ⟨w.heap.size + 1, 3, none⟩ = false := HT3.out.frozen 3
      have HT9 := Lib.hid (HT3.out.text (s.extract p p1))
      have HR9 := Lib.hid (HR3.out.far hne 3 (.string (s.extract p p1)))
      have Hb9 := Lib.hid (below_set hb3 (w.heap.size + 1) (by omega) 3 (.string (s.extract p p1)))
      have g1 : (0 : Int) ≤ (p : Int) := by omega
      have g2 : (p : Int) ≤ (p1 : Int) := by omega
      have g3 : (p1 : Int) ≤ (s.size : Int) := by omega
      go_wp2_with (first | (refine wpList_load_row rfl 46 (.tmp 7) rfl (w.heap.size + 1) rfl 46 (tokA 4 p 0 (s.extract p p1)) _ _ HT9.out Tryd.underlying46 rfl (by kernel_rfl) ?_) | (refine wpList_store_row rfl 46 (.tmp 4) (.tmp 155) rfl w.heap.size (tokA 4 p 0 (s.extract p p1)) rfl rfl 46 zeroA HR9.out (by kernel_rfl) rfl (tokA_one _ _ _ _) ?_))
      refine bodyPost_ret (results_tok2 Tryd.results68 _ _ w.heap.size _ rfl rfl (HR9.out.row _)) rfl ?_
      rw [HO.out]
      exact ⟨by show Ending.returned (.tuple #[tokV 4 p 0 (s.extract p p1), .int .i64 0]) = _; rw [He.out], below_setRow Hb9.out (Nat.le_refl _) _⟩
    · have hlt1 : ¬ (p1 : Int) < (s.size : Int) := by omega
      clear hn2
      go_wp2_with fail
      refine (hh _).mono ?_
      rintro e w3 ⟨rfl, rfl⟩
      go_wp2_with fail
      refine (hh2 _).mono ?_
      rintro e w3 ⟨rfl, rfl⟩
      have c3 : (w2.setCell ⟨w.heap.size + 1, 0, none⟩ (.int .i64 4)).cell? ⟨w.heap.size + 1, 3, none⟩ = some (.string ⟨#[]⟩) := HT3.out.c3
      have f3 : (w2.setCell ⟨w.heap.size + 1, 0, none⟩ (.int .i64 4)).frozen? ⟨w.heap.size + 1, 3, none⟩ = false := HT3.out.frozen 3
      have HT9 := Lib.hid (HT3.out.text (s.extract p p1))
      have HR9 := Lib.hid (HR3.out.far hne 3 (.string (s.extract p p1)))
      have Hb9 := Lib.hid (below_set hb3 (w.heap.size + 1) (by omega) 3 (.string (s.extract p p1)))
      have g1 : (0 : Int) ≤ (p : Int) := by omega
      have g2 : (p : Int) ≤ (p1 : Int) := by omega
      have g3 : (p1 : Int) ≤ (s.size : Int) := by omega
      go_wp2_with (first | (refine wpList_load_row rfl 46 (.tmp 7) rfl (w.heap.size + 1) rfl 46 (tokA 4 p 0 (s.extract p p1)) _ _ HT9.out Tryd.underlying46 rfl (by kernel_rfl) ?_) | (refine wpList_store_row rfl 46 (.tmp 4) (.tmp 155) rfl w.heap.size (tokA 4 p 0 (s.extract p p1)) rfl rfl 46 zeroA HR9.out (by kernel_rfl) rfl (tokA_one _ _ _ _) ?_))
      refine bodyPost_ret (results_tok2 Tryd.results68 _ _ w.heap.size _ rfl rfl (HR9.out.row _)) rfl ?_
      rw [HO.out]
      exact ⟨by show Ending.returned (.tuple #[tokV 4 p 0 (s.extract p p1), .int .i64 0]) = _; rw [He.out], below_setRow Hb9.out (Nat.le_refl _) _⟩

set_option maxRecDepth 100000 in
set_option maxHeartbeats 2000000 in
theorem next_none (s : ByteArray) (hs : s.size ≤ 100000) (p : Nat) (hp : p < s.size) (w : World) (h1 : isLet s[p] = false) (h2 : isNum s[p] = false) (h34 : s[p].toNat ≠ 34) (hc : isSym s[p] = false) (hn : isTwo s[p] = false ∨ nextIs (rest s (p + 1)) 61 = false) (o : One) (ho : tokB (rest s p) = o) :
    Calls Tryd.prog 68 #[.string s, .int .i64 (p : Int)] w (Next o p w) := by
  have HO := Lib.hid (ho.symm.trans (tok_none hp h1 h2 h34 hc hn))
  have hI34 : ((s[p].toNat : Int) == 34) = false := by simp; omega
  have hh := has_any' ⟨#[33, 60, 62]⟩ (by decide) s[p]
  have hh2 := has_any' ⟨#[59, 44, 46, 58, 40, 41, 91, 93, 123, 125, 61, 60, 62, 43, 45]⟩ (by decide) s[p]
  rw [show (ByteArray.mk #[33, 60, 62]).data.toList.contains s[p] = isTwo s[p] from two_has s[p]] at hh
  rw [show (ByteArray.mk #[59, 44, 46, 58, 40, 41, 91, 93, 123, 125, 61, 60, 62, 43, 45]).data.toList.contains s[p] = isSym s[p] from sym_has s[p]] at hh2
  rw [hc] at hh2
  clear ho h34 hc
  have hpI : (p : Int) < (s.size : Int) := by omega
  have HL := Lib.hid (letter_any s[p])
  have HD := Lib.hid (digit_any s[p])
  obtain ⟨p1, hp1⟩ : ∃ p1, p + 1 = p1 := ⟨_, rfl⟩
  have hpI1 : (p : Int) + 1 = (p1 : Int) := by omega
  have hp1s : p1 ≤ s.size := by omega
  have Hp1 := Lib.hid hp1
  rw [hp1] at hn
  clear hp1
  go_enter Tryd.func68, Tryd.ntmps68
  go_wp2_with fail
  obtain ⟨w2, hw2⟩ : ∃ w2, (w.alloc (.cells #[.int .i64 0, .int .i64 0, .int .i64 0, .string ⟨#[]⟩] 46)).alloc (.cells #[.int .i64 0, .int .i64 (p : Int), .int .i64 0, .string ⟨#[]⟩] 46) = w2 := ⟨_, rfl⟩
  rw [hw2]
  have hR : TokAt w2 w.heap.size zeroA := by rw [← hw2]; exact heap_alloc2_old w _ _
  have hT : TokAt w2 (w.heap.size + 1) (tokA 0 p 0 ⟨#[]⟩) := by rw [← hw2]; exact heap_alloc2_new w _ _
  have hb2 : Below w.heap.size w w2 := by rw [← hw2]; exact ((Below.refl _ w).alloc (Nat.le_refl _) _).alloc (by simp) _
  have hne : w.heap.size ≠ w.heap.size + 1 := by omega
  have HR := Lib.hid hR
  have HT := Lib.hid hT
  clear hw2 hR hT
  refine (HL.out _).mono ?_
  rintro e w3 ⟨rfl, rfl⟩
  rw [h1]
  go_wp2_with fail
  refine (HD.out _).mono ?_
  rintro e w3 ⟨rfl, rfl⟩
  rw [h2]
  clear HL HD h1 h2
  have c0 := HT.out.c0
  have f0 := HT.out.frozen 0
  have HT3 := Lib.hid (HT.out.kind 4)
  have HR3 := Lib.hid (HR.out.far hne 0 (.int .i64 4))
  have hb3 := below_set hb2 (w.heap.size + 1) (by omega) 0 (.int .i64 4)
  cases hx : isTwo s[p] with
  | false =>
    rw [hx] at hh
    clear hx hn
    go_wp2_with fail
    refine (hh _).mono ?_
    rintro e w3 ⟨rfl, rfl⟩
    go_wp2_with fail
    refine (hh2 _).mono ?_
    rintro e w3 ⟨rfl, rfl⟩
    have HO1 := HO
    go_wp2_with (first | (refine wpList_store_row rfl 46 (.tmp 4) (.tmp 149) rfl w.heap.size zeroA rfl rfl 46 zeroA HR3.out (by kernel_rfl) rfl zeroA_one ?_))
    refine bodyPost_ret (results_tok2 Tryd.results68 _ _ w.heap.size _ rfl rfl (HR3.out.row _)) rfl ?_
    rw [HO1.out]
    exact ⟨rfl, below_setRow hb3 (Nat.le_refl _) _⟩
  | true =>
    rw [hx] at hh
    rw [hx] at hn
    have hn2 := hn.resolve_left (fun h => by cases h)
    clear hx hn
    by_cases hlt : p1 < s.size
    · have h61 : ((s[p1].toNat : Int) == 61) = false := by
        rw [nextIs_at hlt] at hn2
        rw [show (61 : Int) = ((61 : UInt8).toNat : Int) from rfl, byte_eq]
        exact hn2
      have hlt1 : (p1 : Int) < (s.size : Int) := by omega
      clear hn2
      go_wp2_with fail
      refine (hh _).mono ?_
      rintro e w3 ⟨rfl, rfl⟩
      go_wp2_with fail
      refine (hh2 _).mono ?_
      rintro e w3 ⟨rfl, rfl⟩
      have HO1 := HO
      go_wp2_with (first | (refine wpList_store_row rfl 46 (.tmp 4) (.tmp 149) rfl w.heap.size zeroA rfl rfl 46 zeroA HR3.out (by kernel_rfl) rfl zeroA_one ?_))
      refine bodyPost_ret (results_tok2 Tryd.results68 _ _ w.heap.size _ rfl rfl (HR3.out.row _)) rfl ?_
      rw [HO1.out]
      exact ⟨rfl, below_setRow hb3 (Nat.le_refl _) _⟩
    · have hlt1 : ¬ (p1 : Int) < (s.size : Int) := by omega
      clear hn2
      go_wp2_with fail
      refine (hh _).mono ?_
      rintro e w3 ⟨rfl, rfl⟩
      go_wp2_with fail
      refine (hh2 _).mono ?_
      rintro e w3 ⟨rfl, rfl⟩
      have HO1 := HO
      go_wp2_with (first | (refine wpList_store_row rfl 46 (.tmp 4) (.tmp 149) rfl w.heap.size zeroA rfl rfl 46 zeroA HR3.out (by kernel_rfl) rfl zeroA_one ?_))
      refine bodyPost_ret (results_tok2 Tryd.results68 _ _ w.heap.size _ rfl rfl (HR3.out.row _)) rfl ?_
      rw [HO1.out]
      exact ⟨rfl, below_setRow hb3 (Nat.le_refl _) _⟩

end Go.Proofs.YtkgkejphifkpkaaDoor.Lx
