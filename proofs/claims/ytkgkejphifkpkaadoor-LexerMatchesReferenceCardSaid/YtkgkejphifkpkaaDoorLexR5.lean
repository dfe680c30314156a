/- Walks over package gazetteerref04: one token: numbers; any token. -/
import Derived.Test.YtkgkejphifkpkaaDoorLexR4
namespace Go.Proofs.YtkgkejphifkpkaaDoor.Lx
set_option linter.unusedVariables false
set_option linter.unusedSimpArgs false
open Go.RowKit

theorem val_lt : ∀ (l : List UInt8) (a : Nat), (∀ c ∈ l, isNum c = true) → l.foldl (fun n c => n * 10 + (c.toNat - 48)) a < (a + 1) * 10 ^ l.length
  | [], a, _ => by simp
  | c :: l, a, h => by
    have hc := h c (List.mem_cons_self ..)
    unfold isNum at hc
    simp only [Bool.and_eq_true, decide_eq_true_eq] at hc
    have := val_lt l (a * 10 + (c.toNat - 48)) (fun d hd => h d (List.mem_cons_of_mem _ hd))
    rw [List.foldl_cons, List.length_cons]
    refine Nat.lt_of_lt_of_le this ?_
    rw [Nat.pow_succ, Nat.mul_comm (10 ^ l.length) 10, ← Nat.mul_assoc]
    exact Nat.mul_le_mul_right _ (by omega)
theorem val_small (l : List UInt8) (j : Nat) (hj : j < tw isNum l) (h13 : tw isNum l ≤ 13) : val (l.take j) ≤ 1000000000000 := by
  have h := val_lt (l.take j) 0 (fun c hc => take_num l c (by
    have : l.take j = (l.take (tw isNum l)).take j := by rw [List.take_take, Nat.min_eq_left (by omega)]
    rw [this] at hc
    exact List.mem_of_mem_take hc))
  have h2 : (l.take j).length ≤ 12 := by rw [List.length_take]; omega
  have h3 : 10 ^ (l.take j).length ≤ 10 ^ 12 := Nat.pow_le_pow_right (by decide) h2
  unfold val
  omega
theorem val_step (l : List UInt8) (j : Nat) (hj : j < l.length) : val (l.take (j + 1)) = 10 * val (l.take j) + (l[j].toNat - 48) := by
  rw [List.take_succ_eq_append_getElem hj]
  unfold val
  rw [List.foldl_append]
  simp only [List.foldl_cons, List.foldl_nil]
  omega

set_option maxRecDepth 100000 in
set_option maxHeartbeats 4000000 in
theorem next_number (s : ByteArray) (hs : s.size ≤ 100000) (p : Nat) (hp : p < s.size) (w : World) (h1 : isLet s[p] = false) (h2 : isNum s[p] = true) (o : One) (ho : tokB (rest s p) = o) :
    Calls Tryd.prog 68 #[.string s, .int .i64 (p : Int)] w (Next o p w) := by
  obtain ⟨n, hn⟩ : ∃ n, tw isNum (rest s p) = n := ⟨_, rfl⟩
  have htk := (tok_number hp h2).2
  have hn0 := (tok_number hp h2).1
  rw [hn] at htk hn0
  have HO := Lib.hid (ho.symm.trans htk)
  have Hn := Lib.hid hn
  have hn1 : tw isNum (rest s p) = tw isNum (rest s (p + 1)) + 1 := by rw [rest_cons s p hp, tw_cons, h2]; rfl
  rw [hn] at hn1
  have hnle : p + n ≤ s.size := by
    have := tw_le isNum (rest s p)
    rw [rest_length] at this
    omega
  clear ho htk hn
  have hpI : (p : Int) < (s.size : Int) := by omega
  have HL := Lib.hid (letter_any s[p])
  have HD := Lib.hid (digit_any s[p])
  obtain ⟨p1, hp1⟩ : ∃ p1, p + 1 = p1 := ⟨_, rfl⟩
  have hpI1 : (p : Int) + 1 = (p1 : Int) := by omega
  have hp1s : p1 ≤ s.size := by omega
  have Hp1 := Lib.hid hp1
  rw [hp1] at hn1
  clear hp1
  go_enter Tryd.func68, Tryd.ntmps68
  go_wp2_with fail
  obtain ⟨w2, hw2⟩ : ∃ w2, (w.alloc (.cells #[.int .i64 0, .int .i64 0, .int .i64 0, .string ⟨#[]⟩] 46)).alloc (.cells #[.int .i64 0, .int .i64 (p : Int), .int .i64 0, .string ⟨#[]⟩] 46) = w2 := ⟨_, rfl⟩
  rw [hw2]
  have hR : TokAt w2 w.heap.size zeroA := by rw [← hw2]; exact heap_alloc2_old w _ _
  have hT : TokAt w2 (w.heap.size + 1) (tokA 0 p 0 ⟨#[]⟩) := by rw [← hw2]; exact heap_alloc2_new w _ _
  have hb2 : Below w.heap.size w w2 := by rw [← hw2]; exact ((Below.refl _ w).alloc (Nat.le_refl _) _).alloc (by simp) _
  have hne : w.heap.size ≠ w.heap.size + 1 := by omega
  have HR := Lib.hid hR
  have HT := Lib.hid hT
  clear hw2 hR hT
  refine (HL.out _).mono ?_
  rintro e w3 ⟨rfl, rfl⟩
  rw [h1]
  go_wp2_with fail
  refine (HD.out _).mono ?_
  rintro e w3 ⟨rfl, rfl⟩
  rw [h2]
  clear HL HD h1 h2
  have Htl := Lib.hid (tw_le isNum (rest s p1))
  go_wp2_with fail
  go_loop [6] (fun i => ∃ k : Nat, k ≤ tw isNum (rest s p1) ∧ i = .int .i64 ((p1 + k : Nat) : Int)) (fun i => s.size - (intOf i).toNat)
  case atStart => exact ⟨0, by omega, rfl⟩
  case round =>
    obtain ⟨k, hk, rfl⟩ := hrel
    have hkl : k ≤ s.size - p1 := by have := Htl.out; rw [rest_length] at this; omega
    have Hk := Lib.hid hk
    have HLn := Lib.hid (rest_length s p1)
    have HRg := Lib.hid (rest_get s p1 k)
    clear hk
    by_cases hlt : p1 + k < s.size
    · have hl : k < (rest s p1).length := by have := HLn.out; omega
      have HE := Lib.hid (tw_eq_of isNum (rest s p1) k Hk.out)
      have HG := Lib.hid (tw_ge_succ isNum (rest s p1) k Hk.out hl)
      have hRR := HRg.out hl hlt
      have HRR := Lib.hid hRR
      clear hRR
      have HW1 := Lib.hid (digit_any s[p1 + k] w2)
      cases hx : isNum s[p1 + k] with
      | true =>
        have Hx := Lib.hid hx
        rw [hx] at HW1
        clear hx
        go_wp2_with fail
        refine HW1.out.mono ?_
        rintro e w3 ⟨rfl, rfl⟩
        go_wp2_with fail
        go_round
        case rel => exact ⟨k + 1, HG.out (by rw [HRR.out]; exact Hx.out), by go_num⟩
        case measure => simp [intOf]; omega
      | false =>
        have Hx := Lib.hid hx
        rw [hx] at HW1
        have hkn : k + 1 = n := by rw [hn1, HE.out (fun h => by rw [HRR.out]; exact hx)]
        obtain ⟨q, hq, hqle, hltq, hnd⟩ : ∃ q, p1 + k = q ∧ q ≤ s.size ∧ ∃ h : q < s.size, isNum s[q] = false := ⟨_, rfl, by omega, hlt, hx⟩
        have HD1 := Lib.hid (digit_any s[q] w2)
        rw [hnd] at HD1
        clear HW1 Hx hx HRR HRg HE HG hl hlt
        rw [hq]
        have hlt := hltq
        have hltI0 : (q : Int) < (s.size : Int) := by omega
        go_wp2_with fail
        refine HD1.out.mono ?_
        rintro e w3 ⟨rfl, rfl⟩
        have hqp : q = p + n := by have := Hp1.out; omega
        have HRn := Lib.hid (rest_get s p n)
        have he := ext_rest s p n
        rw [← hqp] at he
        have He := Lib.hid he
        clear he
        have hqn : (q : Int) - (p : Int) = (n : Int) := by omega
        have Hqp := Lib.hid hqp
        clear hn1 hkn
        
        have c0 := HT.out.c0
        have f0 := HT.out.frozen 0
        have HT3 : Hid (TokAt (w2.setCell ⟨w.heap.size + 1, 0, none⟩ (.int .i64 2)) (w.heap.size + 1) (tokA 2 p 0 ⟨#[]⟩)) := Lib.hid (HT.out.kind 2)
        have HR3 := Lib.hid (HR.out.far hne 0 (.int .i64 2))
        have hb3 := below_set hb2 (w.heap.size + 1) (by omega) 0 (.int .i64 2)
        have hNW : nextWord ((rest s p).drop n) = isWord s[q] := by
          unfold nextWord
          rw [rest_drop, ← hqp, rest_cons s q hlt]
          rfl
        have HNW := Lib.hid hNW
        have HW := Lib.hid (word_any s[q])
        clear hNW
        have hltI : (q : Int) < (s.size : Int) := by omega
        clear hqp hq Hk
        by_cases h13 : 13 < n
        · have HO1 := Lib.hid (HO.out.trans (if_pos (Or.inl h13)))
          have hI : (13 : Int) < (n : Int) := by omega
          clear h13
          go_wp2_with (first | (refine wpList_store_row rfl 46 (.tmp 4) (.tmp 68) rfl w.heap.size zeroA rfl rfl 46 zeroA HR3.out (by kernel_rfl) rfl zeroA_one ?_))
          refine bodyPost_ret (results_tok2 Tryd.results68 _ _ w.heap.size _ rfl rfl (HR3.out.row _)) rfl ?_
          rw [HO1.out]
          exact ⟨rfl, below_setRow hb3 (Nat.le_refl _) _⟩
        · have hI : ¬ (13 : Int) < (n : Int) := by omega
          cases hx2 : isWord s[q] with
          | true =>
            have HO1 := Lib.hid (HO.out.trans (if_pos (Or.inr (HNW.out.trans hx2))))
            rw [hx2] at HW
            clear hx2 h13
            go_wp2_with fail
            refine (HW.out _).mono ?_
            rintro e w3 ⟨rfl, rfl⟩
            go_wp2_with (first | (refine wpList_store_row rfl 46 (.tmp 4) (.tmp 68) rfl w.heap.size zeroA rfl rfl 46 zeroA HR3.out (by kernel_rfl) rfl zeroA_one ?_))
            refine bodyPost_ret (results_tok2 Tryd.results68 _ _ w.heap.size _ rfl rfl (HR3.out.row _)) rfl ?_
            rw [HO1.out]
            exact ⟨rfl, below_setRow hb3 (Nat.le_refl _) _⟩
          | false =>
            have HO1 := Lib.hid (HO.out.trans (if_neg (fun h => h.elim h13 (fun h => by rw [HNW.out, hx2] at h; cases h))))
            rw [hx2] at HW
            have H13 := Lib.hid (show n ≤ 13 by omega)
            clear hx2 h13 HNW
            go_wp2_with fail
            refine (HW.out _).mono ?_
            rintro e w3 ⟨rfl, rfl⟩
            clear HW
            go_wp2_with fail
            obtain ⟨w4, hw4⟩ : ∃ w4, w2.setCell ⟨w.heap.size + 1, 0, none⟩ (.int .i64 2) = w4 := ⟨_, rfl⟩
            rw [hw4] at HT3 HR3 hb3
            rw [hw4]
            go_loopw [9] (fun i wr => ∃ j : Nat, j ≤ n ∧ i = .int .i64 ((p + j : Nat) : Int) ∧ TokAt wr (w.heap.size + 1) (tokA 2 p (val ((rest s p).take j)) ⟨#[]⟩) ∧ TokAt wr w.heap.size zeroA ∧ Below w.heap.size w wr) (fun i _ => q - (intOf i).toNat)
            case atStart => exact ⟨0, by omega, rfl, HT3.out, HR3.out, hb3⟩
            case round =>
              clear HT3 HR3 hb3 hw4 hb2 HR HT c0 f0
              obtain ⟨j, hj, rfl, hT5, hR5, hb5⟩ := hrel
              by_cases hjn : j < n
              · have hjs : p + j < s.size := by have := Hqp.out; omega
                have hjl : j < (rest s p).length := by rw [rest_length]; omega
                have hget := rest_get s p j hjl hjs
                have hdig : isNum s[p + j] = true := by rw [← hget]; exact tw_all isNum (rest s p) j (by rw [Hn.out]; exact hjn)
                unfold isNum at hdig
                simp only [Bool.and_eq_true, decide_eq_true_eq] at hdig
                have hstep := val_step (rest s p) j hjl
                rw [hget] at hstep
                have hsm := val_small (rest s p) j (by rw [Hn.out]; exact hjn) (by rw [Hn.out]; exact H13.out)
                obtain ⟨v, hv⟩ : ∃ v, val ((rest s p).take j) = v := ⟨_, rfl⟩
                rw [hv] at hT5 hstep hsm
                obtain ⟨v2, hv2⟩ : ∃ v2, val ((rest s p).take (j + 1)) = v2 := ⟨_, rfl⟩
                rw [hv2] at hstep
                have Hv2 := Lib.hid hv2
                have c2 := hT5.c2
                have f2 := hT5.frozen 2
                obtain ⟨x, hx, hxs, hxd, hxl⟩ : ∃ x, p + j = x ∧ ∃ h : x < s.size, (48 ≤ s[x].toNat ∧ s[x].toNat ≤ 57) ∧ v2 = 10 * v + (s[x].toNat - 48) := ⟨_, rfl, hjs, hdig, hstep⟩
                rw [hx]
                obtain ⟨y, hy⟩ : ∃ y, s[x].toNat = y := ⟨_, rfl⟩
                have hyI : (s[x].toNat : Int) = (y : Int) := by omega
                rw [hy] at hxd hxl
                have hvI : 10 * (v : Int) + ((y : Int) - 48) = (v2 : Int) := by omega
                have k1 : (48 : Int) ≤ (y : Int) := by omega
                have k2 : (y : Int) ≤ 57 := by omega
                have k3 : (v : Int) ≤ 1000000000000 := by omega
                have hxq : (x : Int) < (q : Int) := by have := Hqp.out; omega
                have HT6 := Lib.hid (hT5.val v2)
                have HR6 := Lib.hid (hR5.far hne 2 (.int .i64 (v2 : Int)))
                have Hb6 := Lib.hid (below_set hb5 (w.heap.size + 1) (by omega) 2 (.int .i64 (v2 : Int)))
                clear hjs hjl hget hdig hstep hsm hv hv2 hT5 hR5 hb5 hxd hxl
                go_wp2_with fail
                go_region
                go_wp2_with fail
                go_roundw
                case rel => exact ⟨j + 1, by omega, by go_num, by rw [Hv2.out]; exact HT6.out, HR6.out, Hb6.out.trans ⟨rfl, rfl, rfl, Nat.le_refl _, fun _ _ => rfl⟩⟩
                case measure => simp [intOf]; omega
              · obtain rfl : j = n := by omega
                have hqj : ((p + j : Nat) : Int) = (q : Int) := by have := Hqp.out; omega
                have c3 := hT5.c3
                have f3 := hT5.frozen 3
                have HT9 := Lib.hid (hT5.text (s.extract p q))
                have HR9 := Lib.hid (hR5.far hne 3 (.string (s.extract p q)))
                have Hb9 := Lib.hid (below_set hb5 (w.heap.size + 1) (by omega) 3 (.string (s.extract p q)))
                obtain ⟨v, hv⟩ : ∃ v, val ((rest s p).take j) = v := ⟨_, rfl⟩
                rw [hv] at HT9
                have HV := Lib.hid hv
                have g1 : (0 : Int) ≤ (p : Int) := by omega
                have g2 : (p : Int) ≤ (q : Int) := by omega
                have g3 : (q : Int) ≤ (s.size : Int) := by omega
                rw [show p + j = q from Hqp.out.symm]
                clear hT5 hR5 hb5 hv hjn hqj
                go_wp2_with (first | (refine wpList_load_row rfl 46 (.tmp 7) rfl (w.heap.size + 1) rfl 46 (tokA 2 p v (s.extract p q)) _ _ HT9.out Tryd.underlying46 rfl (by kernel_rfl) ?_) | (refine wpList_store_row rfl 46 (.tmp 4) (.tmp 155) rfl w.heap.size (tokA 2 p v (s.extract p q)) rfl rfl 46 zeroA HR9.out (by kernel_rfl) rfl (tokA_one _ _ _ _) ?_))
                refine bodyPost_ret (results_tok2 Tryd.results68 _ _ w.heap.size _ rfl rfl (HR9.out.row _)) rfl ?_
                rw [HO1.out, HV.out]
                exact ⟨by show Ending.returned (.tuple #[tokV 2 p v (s.extract p q), .int .i64 0]) = _; rw [He.out], below_setRow Hb9.out (Nat.le_refl _) _⟩
    · have hd : decide (p1 + k < s.size) = false := decide_eq_false hlt
      have hkn : k + 1 = n := by rw [hn1, tw_eq_of isNum (rest s p1) k Hk.out (fun h => by have := HLn.out; omega)]
      obtain ⟨q, hq, hqle⟩ : ∃ q, p1 + k = q ∧ q ≤ s.size := ⟨_, rfl, by omega⟩
      
      have hqp : q = p + n := by have := Hp1.out; omega
      have HRn := Lib.hid (rest_get s p n)
      have he := ext_rest s p n
      rw [← hqp] at he
      have He := Lib.hid he
      clear he
      have hqn : (q : Int) - (p : Int) = (n : Int) := by omega
      have Hqp := Lib.hid hqp
      clear hn1 hkn
      rw [hq]
      have c0 := HT.out.c0
      have f0 := HT.out.frozen 0
      have HT3 : Hid (TokAt (w2.setCell ⟨w.heap.size + 1, 0, none⟩ (.int .i64 2)) (w.heap.size + 1) (tokA 2 p 0 ⟨#[]⟩)) := Lib.hid (HT.out.kind 2)
      have HR3 := Lib.hid (HR.out.far hne 0 (.int .i64 2))
      have hb3 := below_set hb2 (w.heap.size + 1) (by omega) 0 (.int .i64 2)
      have HNW := Lib.hid (show nextWord ((rest s p).drop n) = false by
        have : (rest s p).drop n = [] := List.drop_eq_nil_of_le (by rw [rest_length]; omega)
        rw [this]
        rfl)
      have hltI : ¬ (q : Int) < (s.size : Int) := by omega
      clear hqp hq Hk
      by_cases h13 : 13 < n
      · have HO1 := Lib.hid (HO.out.trans (if_pos (Or.inl h13)))
        have hI : (13 : Int) < (n : Int) := by omega
        clear h13
        go_wp2_with (first | (refine wpList_store_row rfl 46 (.tmp 4) (.tmp 68) rfl w.heap.size zeroA rfl rfl 46 zeroA HR3.out (by kernel_rfl) rfl zeroA_one ?_))
        refine bodyPost_ret (results_tok2 Tryd.results68 _ _ w.heap.size _ rfl rfl (HR3.out.row _)) rfl ?_
        rw [HO1.out]
        exact ⟨rfl, below_setRow hb3 (Nat.le_refl _) _⟩
      · have hI : ¬ (13 : Int) < (n : Int) := by omega
        have HO1 := Lib.hid (HO.out.trans (if_neg (fun h => h.elim h13 (fun h => by rw [HNW.out] at h; cases h))))
        have H13 := Lib.hid (show n ≤ 13 by omega)
        clear h13 HNW
        go_wp2_with fail
        obtain ⟨w4, hw4⟩ : ∃ w4, w2.setCell ⟨w.heap.size + 1, 0, none⟩ (.int .i64 2) = w4 := ⟨_, rfl⟩
        rw [hw4] at HT3 HR3 hb3
        rw [hw4]
        go_loopw [9] (fun i wr => ∃ j : Nat, j ≤ n ∧ i = .int .i64 ((p + j : Nat) : Int) ∧ TokAt wr (w.heap.size + 1) (tokA 2 p (val ((rest s p).take j)) ⟨#[]⟩) ∧ TokAt wr w.heap.size zeroA ∧ Below w.heap.size w wr) (fun i _ => q - (intOf i).toNat)
        case atStart => exact ⟨0, by omega, rfl, HT3.out, HR3.out, hb3⟩
        case round =>
          clear HT3 HR3 hb3 hw4 hb2 HR HT c0 f0
          obtain ⟨j, hj, rfl, hT5, hR5, hb5⟩ := hrel
          by_cases hjn : j < n
          · have hjs : p + j < s.size := by have := Hqp.out; omega
            have hjl : j < (rest s p).length := by rw [rest_length]; omega
            have hget := rest_get s p j hjl hjs
            have hdig : isNum s[p + j] = true := by rw [← hget]; exact tw_all isNum (rest s p) j (by rw [Hn.out]; exact hjn)
            unfold isNum at hdig
            simp only [Bool.and_eq_true, decide_eq_true_eq] at hdig
            have hstep := val_step (rest s p) j hjl
            rw [hget] at hstep
            have hsm := val_small (rest s p) j (by rw [Hn.out]; exact hjn) (by rw [Hn.out]; exact H13.out)
            obtain ⟨v, hv⟩ : ∃ v, val ((rest s p).take j) = v := ⟨_, rfl⟩
            rw [hv] at hT5 hstep hsm
            obtain ⟨v2, hv2⟩ : ∃ v2, val ((rest s p).take (j + 1)) = v2 := ⟨_, rfl⟩
            rw [hv2] at hstep
            have Hv2 := Lib.hid hv2
            have c2 := hT5.c2
            have f2 := hT5.frozen 2
            obtain ⟨x, hx, hxs, hxd, hxl⟩ : ∃ x, p + j = x ∧ ∃ h : x < s.size, (48 ≤ s[x].toNat ∧ s[x].toNat ≤ 57) ∧ v2 = 10 * v + (s[x].toNat - 48) := ⟨_, rfl, hjs, hdig, hstep⟩
            rw [hx]
            obtain ⟨y, hy⟩ : ∃ y, s[x].toNat = y := ⟨_, rfl⟩
            have hyI : (s[x].toNat : Int) = (y : Int) := by omega
            rw [hy] at hxd hxl
            have hvI : 10 * (v : Int) + ((y : Int) - 48) = (v2 : Int) := by omega
            have k1 : (48 : Int) ≤ (y : Int) := by omega
            have k2 : (y : Int) ≤ 57 := by omega
            have k3 : (v : Int) ≤ 1000000000000 := by omega
            have hxq : (x : Int) < (q : Int) := by have := Hqp.out; omega
            have HT6 := Lib.hid (hT5.val v2)
            have HR6 := Lib.hid (hR5.far hne 2 (.int .i64 (v2 : Int)))
            have Hb6 := Lib.hid (below_set hb5 (w.heap.size + 1) (by omega) 2 (.int .i64 (v2 : Int)))
            clear hjs hjl hget hdig hstep hsm hv hv2 hT5 hR5 hb5 hxd hxl
            go_wp2_with fail
            go_region
            go_wp2_with fail
            go_roundw
            case rel => exact ⟨j + 1, by omega, by go_num, by rw [Hv2.out]; exact HT6.out, HR6.out, Hb6.out.trans ⟨rfl, rfl, rfl, Nat.le_refl _, fun _ _ => rfl⟩⟩
            case measure => simp [intOf]; omega
          · obtain rfl : j = n := by omega
            have hqj : ((p + j : Nat) : Int) = (q : Int) := by have := Hqp.out; omega
            have c3 := hT5.c3
            have f3 := hT5.frozen 3
            have HT9 := Lib.hid (hT5.text (s.extract p q))
            have HR9 := Lib.hid (hR5.far hne 3 (.string (s.extract p q)))
            have Hb9 := Lib.hid (below_set hb5 (w.heap.size + 1) (by omega) 3 (.string (s.extract p q)))
            obtain ⟨v, hv⟩ : ∃ v, val ((rest s p).take j) = v := ⟨_, rfl⟩
            rw [hv] at HT9
            have HV := Lib.hid hv
            have g1 : (0 : Int) ≤ (p : Int) := by omega
            have g2 : (p : Int) ≤ (q : Int) := by omega
            have g3 : (q : Int) ≤ (s.size : Int) := by omega
            rw [show p + j = q from Hqp.out.symm]
            clear hT5 hR5 hb5 hv hjn hqj
            go_wp2_with (first | (refine wpList_load_row rfl 46 (.tmp 7) rfl (w.heap.size + 1) rfl 46 (tokA 2 p v (s.extract p q)) _ _ HT9.out Tryd.underlying46 rfl (by kernel_rfl) ?_) | (refine wpList_store_row rfl 46 (.tmp 4) (.tmp 155) rfl w.heap.size (tokA 2 p v (s.extract p q)) rfl rfl 46 zeroA HR9.out (by kernel_rfl) rfl (tokA_one _ _ _ _) ?_))
            refine bodyPost_ret (results_tok2 Tryd.results68 _ _ w.heap.size _ rfl rfl (HR9.out.row _)) rfl ?_
            rw [HO1.out, HV.out]
            exact ⟨by show Ending.returned (.tuple #[tokV 2 p v (s.extract p q), .int .i64 0]) = _; rw [He.out], below_setRow Hb9.out (Nat.le_refl _) _⟩

/-- the reference's reading of a token -/
theorem next_any (s : ByteArray) (hs : s.size ≤ 100000) (p : Nat) (hp : p < s.size) (w : World) :
    Calls Tryd.prog 68 #[.string s, .int .i64 (p : Int)] w (Next (tokB (rest s p)) p w) := by
  cases h1 : isLet s[p] with
  | true => exact next_name s hs p hp w h1 _ rfl
  | false =>
    cases h2 : isNum s[p] with
    | true => exact next_number s hs p hp w h1 h2 _ rfl
    | false =>
      by_cases h34 : s[p].toNat = 34
      · exact next_quoted s hs p hp w h1 h2 h34 _ rfl
      · cases h4 : isTwo s[p] && nextIs (rest s (p + 1)) 61 with
        | true =>
          simp only [Bool.and_eq_true] at h4
          exact next_two s hs p hp w h4.1 h4.2 _ rfl
        | false =>
          have h5 : isTwo s[p] = false ∨ nextIs (rest s (p + 1)) 61 = false := by
            rw [Bool.and_eq_false_iff] at h4
            exact h4
          cases h6 : isSym s[p] with
          | true => exact next_one s hs p hp w h6 h5 _ rfl
          | false => exact next_none s hs p hp w h1 h2 h34 h6 h5 _ rfl

end Go.Proofs.YtkgkejphifkpkaaDoor.Lx
