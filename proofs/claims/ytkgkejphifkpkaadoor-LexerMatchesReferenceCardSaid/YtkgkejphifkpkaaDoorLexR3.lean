/- Walks over package gazetteerref04: one token. -/
import Derived.Test.YtkgkejphifkpkaaDoorLexL7
namespace Go.Proofs.YtkgkejphifkpkaaDoor.Lx
set_option linter.unusedVariables false
set_option linter.unusedSimpArgs false
open Go.RowKit

theorem TokAt.kind {w : World} {g k p v : Nat} {t : ByteArray} (h : TokAt w g (tokA k p v t)) (u : Nat) : TokAt (w.setCell ⟨g, 0, none⟩ (.int .i64 (u : Int))) g (tokA u p v t) := by
  unfold TokAt
  rw [heap_setCell_same _ _ _ _ _ _ h]
  rfl
theorem TokAt.c0 {w : World} {g k p v : Nat} {t : ByteArray} (h : TokAt w g (tokA k p v t)) : w.cell? ⟨g, 0, none⟩ = some (.int .i64 (k : Int)) := by rw [cell_of_row _ _ _ _ _ _ h]; rfl
theorem TokAt.far {w : World} {g h : Nat} {cs : Array Value} (ht : TokAt w g cs) (hne : g ≠ h) (o : Nat) (v : Value) : TokAt (w.setCell ⟨h, o, none⟩ v) g cs := ht.kept (only_set w h o v) (fun e => hne (Option.some.inj e))
theorem below_set {n : Nat} {w w' : World} (h : Below n w w') (g : Nat) (hg : n ≤ g) (o : Nat) (v : Value) : Below n w (w'.setCell ⟨g, o, none⟩ v) := h.setCell (p := ⟨g, o, none⟩) hg v

/-- what the reference's reading of a token comes to -/
def Next (o : One) (p : Nat) (w : World) (e : Ending) (w' : World) : Prop :=
  match o with
  | .good k v n t => e = .returned (.tuple #[tokV k p v ⟨t.toArray⟩, .int .i64 0]) ∧ Below w.heap.size w w'
  | .bad c => e = .returned (.tuple #[.agg zeroA, .int .i64 (c : Int)]) ∧ Below w.heap.size w w'

set_option maxRecDepth 100000 in
set_option maxHeartbeats 2000000 in
theorem next_name (s : ByteArray) (hs : s.size ≤ 100000) (p : Nat) (hp : p < s.size) (w : World) (hc : isLet s[p] = true) (o : One) (ho : tokB (rest s p) = o) :
    Calls Tryd.prog 68 #[.string s, .int .i64 (p : Int)] w (Next o p w) := by
  have htk := tok_name hp hc
  rw [rest_cons s p hp, tw_cons, show isWord s[p] = true by unfold isWord; rw [hc]; rfl] at htk
  rw [rest_cons s p hp] at ho
  simp only [if_true, List.take_succ_cons] at htk
  have HO := Lib.hid (ho.symm.trans htk)
  have He := Lib.hid (ext_rest s p (tw isWord (rest s (p + 1)) + 1))
  rw [rest_cons s p hp, List.take_succ_cons] at He
  clear htk ho
  have hpI : (p : Int) < (s.size : Int) := by omega
  have HL := Lib.hid (letter_any s[p])
  have HD := Lib.hid (digit_any s[p])
  obtain ⟨p1, hp1⟩ : ∃ p1, p + 1 = p1 := ⟨_, rfl⟩
  have hpI1 : (p : Int) + 1 = (p1 : Int) := by omega
  have hp1s : p1 ≤ s.size := by omega
  have Hp1 := Lib.hid hp1
  clear hp1
  go_enter Tryd.func68, Tryd.ntmps68
  go_wp2_with fail
  obtain ⟨w2, hw2⟩ : ∃ w2, (w.alloc (.cells #[.int .i64 0, .int .i64 0, .int .i64 0, .string ⟨#[]⟩] 46)).alloc (.cells #[.int .i64 0, .int .i64 (p : Int), .int .i64 0, .string ⟨#[]⟩] 46) = w2 := ⟨_, rfl⟩
  rw [hw2]
  have hR : TokAt w2 w.heap.size zeroA := by rw [← hw2]; exact heap_alloc2_old w _ _
  have hT : TokAt w2 (w.heap.size + 1) (tokA 0 p 0 ⟨#[]⟩) := by rw [← hw2]; exact heap_alloc2_new w _ _
  have hb2 : Below w.heap.size w w2 := by rw [← hw2]; exact ((Below.refl _ w).alloc (Nat.le_refl _) _).alloc (by simp) _
  have hne : w.heap.size ≠ w.heap.size + 1 := by omega
  have HR := Lib.hid hR
  have HT := Lib.hid hT
  clear hw2 hR hT
  refine (HL.out _).mono ?_
  rintro e w3 ⟨rfl, rfl⟩
  rw [hc]
  clear HL HD hc
  rw [show p + 1 = p1 from Hp1.out] at HO He
  have Htl := Lib.hid (tw_le isWord (rest s p1))
  go_wp2_with fail
  go_loop [6] (fun i => ∃ k : Nat, k ≤ tw isWord (rest s p1) ∧ i = .int .i64 ((p1 + k : Nat) : Int)) (fun i => s.size - (intOf i).toNat)
  case atStart => exact ⟨0, by omega, rfl⟩
  case round =>
    obtain ⟨k, hk, rfl⟩ := hrel
    have hkl : k ≤ s.size - p1 := by have := Htl.out; rw [rest_length] at this; omega
    have Hk := Lib.hid hk
    have HLn := Lib.hid (rest_length s p1)
    have HRg := Lib.hid (rest_get s p1 k)
    clear hk
    by_cases hlt : p1 + k < s.size
    · have hl : k < (rest s p1).length := by have := HLn.out; omega
      have HE := Lib.hid (tw_eq_of isWord (rest s p1) k Hk.out)
      have HG := Lib.hid (tw_ge_succ isWord (rest s p1) k Hk.out hl)
      have hRR := HRg.out hl hlt
      have HRR := Lib.hid hRR
      clear hRR
      have HW := Lib.hid (word_any s[p1 + k] w2)
      cases hx : isWord s[p1 + k] with
      | true =>
        have Hx := Lib.hid hx
        rw [hx] at HW
        clear hx
        go_wp2_with fail
        refine HW.out.mono ?_
        rintro e w3 ⟨rfl, rfl⟩
        go_wp2_with fail
        go_round
        case rel => exact ⟨k + 1, HG.out (by rw [HRR.out]; exact Hx.out), by go_num⟩
        case measure => simp [intOf]; omega
      | false =>
        have Hx := Lib.hid hx
        rw [hx] at HW
        have hn := HE.out (fun h => by rw [HRR.out]; exact hx)
        rw [hn] at HO He
        have HRR' := HRR
        clear hx hn HG HE
        go_wp2_with fail
        refine HW.out.mono ?_
        rintro e w3 ⟨rfl, rfl⟩
        obtain ⟨q, hq⟩ : ∃ q, p1 + k = q := ⟨_, rfl⟩
        have hqI : (p1 : Int) + (k : Int) = (q : Int) := by omega
        have hqp : q = p + (k + 1) := by have := Hp1.out; omega
        have hqs : q ≤ s.size := by omega
        rw [← hqp] at He
        have hIk : (q : Int) - (p : Int) = ((k + 1 : Nat) : Int) := by omega
        have c0 := HT.out.c0
        have f0 := HT.out.frozen 0
        have HT3 := Lib.hid (HT.out.kind 1)
        have HR3 := Lib.hid (HR.out.far hne 0 (.int .i64 1))
        have hb3 := below_set hb2 (w.heap.size + 1) (by omega) 0 (.int .i64 1)
        by_cases h24 : 24 < k + 1
        · have HO1 := Lib.hid (HO.out.trans (if_pos h24))
          have hI : (24 : Int) < ((k + 1 : Nat) : Int) := by omega
          clear hq hqp h24
          go_wp2_with (first | (refine wpList_store_row rfl 46 (.tmp 4) (.tmp 36) rfl w.heap.size zeroA rfl rfl 46 zeroA HR3.out (by kernel_rfl) rfl zeroA_one ?_))
          refine bodyPost_ret (results_tok2 Tryd.results68 _ _ w.heap.size _ rfl rfl (HR3.out.row _)) rfl ?_
          rw [HO1.out]
          exact ⟨rfl, below_setRow hb3 (Nat.le_refl _) _⟩
        · have HO1 := Lib.hid (HO.out.trans (if_neg h24))
          have hI : ¬ (24 : Int) < ((k + 1 : Nat) : Int) := by omega
          clear hq hqp h24
          have c3 : (w2.setCell ⟨w.heap.size + 1, 0, none⟩ (.int .i64 1)).cell? ⟨w.heap.size + 1, 3, none⟩ = some (.string ⟨#[]⟩) := HT3.out.c3
          have f3 : (w2.setCell ⟨w.heap.size + 1, 0, none⟩ (.int .i64 1)).frozen? ⟨w.heap.size + 1, 3, none⟩ = false := HT3.out.frozen 3
          have HT9 := Lib.hid (HT3.out.text (s.extract p q))
          have HR9 := Lib.hid (HR3.out.far hne 3 (.string (s.extract p q)))
          have Hb9 := Lib.hid (below_set hb3 (w.heap.size + 1) (by omega) 3 (.string (s.extract p q)))
          have g1 : (0 : Int) ≤ (p : Int) := by omega
          have g2 : (p : Int) ≤ (q : Int) := by omega
          have g3 : (q : Int) ≤ (s.size : Int) := by omega
          go_wp2_with (first | (refine wpList_load_row rfl 46 (.tmp 7) rfl (w.heap.size + 1) rfl 46 (tokA 1 p 0 (s.extract p q)) _ _ HT9.out Tryd.underlying46 rfl (by kernel_rfl) ?_) | (refine wpList_store_row rfl 46 (.tmp 4) (.tmp 155) rfl w.heap.size (tokA 1 p 0 (s.extract p q)) rfl rfl 46 zeroA HR9.out (by kernel_rfl) rfl (tokA_one _ _ _ _) ?_))
          refine bodyPost_ret (results_tok2 Tryd.results68 _ _ w.heap.size _ rfl rfl (HR9.out.row _)) rfl ?_
          rw [HO1.out]
          exact ⟨by show Ending.returned (.tuple #[tokV 1 p 0 (s.extract p q), .int .i64 0]) = _; rw [He.out], below_setRow Hb9.out (Nat.le_refl _) _⟩
    · have hd : decide (p1 + k < s.size) = false := decide_eq_false hlt
      have hn := tw_eq_of isWord (rest s p1) k Hk.out (fun h => by have := HLn.out; omega)
      rw [hn] at HO He
      clear hn
      obtain ⟨q, hq⟩ : ∃ q, p1 + k = q := ⟨_, rfl⟩
      have hqI : (p1 : Int) + (k : Int) = (q : Int) := by omega
      have hqp : q = p + (k + 1) := by have := Hp1.out; omega
      have hqs : q ≤ s.size := by omega
      rw [← hqp] at He
      have hIk : (q : Int) - (p : Int) = ((k + 1 : Nat) : Int) := by omega
      have c0 := HT.out.c0
      have f0 := HT.out.frozen 0
      have HT3 := Lib.hid (HT.out.kind 1)
      have HR3 := Lib.hid (HR.out.far hne 0 (.int .i64 1))
      have hb3 := below_set hb2 (w.heap.size + 1) (by omega) 0 (.int .i64 1)
      by_cases h24 : 24 < k + 1
      · have HO1 := Lib.hid (HO.out.trans (if_pos h24))
        have hI : (24 : Int) < ((k + 1 : Nat) : Int) := by omega
        clear hq hqp h24
        go_wp2_with (first | (refine wpList_store_row rfl 46 (.tmp 4) (.tmp 36) rfl w.heap.size zeroA rfl rfl 46 zeroA HR3.out (by kernel_rfl) rfl zeroA_one ?_))
        refine bodyPost_ret (results_tok2 Tryd.results68 _ _ w.heap.size _ rfl rfl (HR3.out.row _)) rfl ?_
        rw [HO1.out]
        exact ⟨rfl, below_setRow hb3 (Nat.le_refl _) _⟩
      · have HO1 := Lib.hid (HO.out.trans (if_neg h24))
        have hI : ¬ (24 : Int) < ((k + 1 : Nat) : Int) := by omega
        clear hq hqp h24
        have c3 : (w2.setCell ⟨w.heap.size + 1, 0, none⟩ (.int .i64 1)).cell? ⟨w.heap.size + 1, 3, none⟩ = some (.string ⟨#[]⟩) := HT3.out.c3
        have f3 : (w2.setCell ⟨w.heap.size + 1, 0, none⟩ (.int .i64 1)).frozen? ⟨w.heap.size + 1, 3, none⟩ = false := HT3.out.frozen 3
        have HT9 := Lib.hid (HT3.out.text (s.extract p q))
        have HR9 := Lib.hid (HR3.out.far hne 3 (.string (s.extract p q)))
        have Hb9 := Lib.hid (below_set hb3 (w.heap.size + 1) (by omega) 3 (.string (s.extract p q)))
        have g1 : (0 : Int) ≤ (p : Int) := by omega
        have g2 : (p : Int) ≤ (q : Int) := by omega
        have g3 : (q : Int) ≤ (s.size : Int) := by omega
        go_wp2_with (first | (refine wpList_load_row rfl 46 (.tmp 7) rfl (w.heap.size + 1) rfl 46 (tokA 1 p 0 (s.extract p q)) _ _ HT9.out Tryd.underlying46 rfl (by kernel_rfl) ?_) | (refine wpList_store_row rfl 46 (.tmp 4) (.tmp 155) rfl w.heap.size (tokA 1 p 0 (s.extract p q)) rfl rfl 46 zeroA HR9.out (by kernel_rfl) rfl (tokA_one _ _ _ _) ?_))
        refine bodyPost_ret (results_tok2 Tryd.results68 _ _ w.heap.size _ rfl rfl (HR9.out.row _)) rfl ?_
        rw [HO1.out]
        exact ⟨by show Ending.returned (.tuple #[tokV 1 p 0 (s.extract p q), .int .i64 0]) = _; rw [He.out], below_setRow Hb9.out (Nat.le_refl _) _⟩

end Go.Proofs.YtkgkejphifkpkaaDoor.Lx
