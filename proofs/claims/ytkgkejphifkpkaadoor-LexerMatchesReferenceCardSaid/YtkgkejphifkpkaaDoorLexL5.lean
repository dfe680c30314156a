/- Walks of layer 4's laws: LexerPlaces. -/
import Derived.Test.YtkgkejphifkpkaaDoorLexL4
namespace Go.Proofs.YtkgkejphifkpkaaDoor.Lx
set_option linter.unusedVariables false
set_option linter.unusedSimpArgs false
open Go.RowKit

theorem extract_data' (s : ByteArray) (i j : Nat) : (s.extract i j).data.toList = (rest s i).take (j - i) := Lib.extract_data ..
theorem places_step {s : ByteArray} {e : Nat} {t : Tok} {ts : List Tok} (he : e ≤ s.size) (h : lexU (rest s e) e = .toks (t :: ts)) :
    e ≤ t.pos ∧ t.pos + wid t ≤ s.size ∧ s.extract t.pos (t.pos + wid t) = ⟨(wrT t).toArray⟩ ∧ 0 < wid t ∧ gapsB (s.extract e t.pos) = true ∧ lexU (rest s (t.pos + wid t)) (t.pos + wid t) = .toks ts := by
  obtain ⟨w, ht, hp, hr, hw, hwl⟩ := lex_first h
  have hwr := tok_written ht
  have hwid : wid t = w := hwr.2
  rw [rest_length] at hwl
  refine ⟨by omega, by omega, ?_, by omega, ?_, ?_⟩
  · rw [ext_rest]
    unfold wrT
    rw [hwr.1, hp, hwid, ← rest_drop]
  · unfold gapsB
    rw [extract_data', hp, Nat.add_sub_cancel_left]
    have h1 := gp_take_self (rest s e) false
    have h2 := gp_le (rest s e) false
    rw [h1, List.length_take]
    exact decide_eq_true (by omega)
  · rw [rest_drop, ← Nat.add_assoc] at hr
    rw [hp, hwid]
    exact hr

set_option maxRecDepth 100000 in
set_option maxHeartbeats 2000000 in
theorem places_walk (s : ByteArray) (hs : s.size ≤ maxLen) (w : World) :
    Calls Tryd.prog 6 #[.string s] w fun e w' => e = .returned (.bool true) ∧ Below w.heap.size w w' := by
  unfold maxLen at hs
  go_enter Tryd.func6, Tryd.ntmps6
  go_wp2_with fail
  refine (head_any _).mono ?_
  rintro e w1 ⟨rfl, hb1⟩
  by_cases hlong : 3000 < s.size
  · have hI : (3000 : Int) < (s.size : Int) := by omega
    go_wp2_with fail
    go_ret
    exact ⟨rfl, hb1⟩
  · have hI : ¬ (3000 : Int) < (s.size : Int) := by omega
    have hsz : s.size ≤ 3000 := by omega
    clear hlong hs
    cases hr : lexU s.data.toList 0 with
    | err c q =>
      have hcz := err_nz hr
      have hcz2 : ((c : Int) != 0) = true := by rw [bne, hcz]; rfl
      obtain ⟨j, hq, hj, _, _⟩ := lex_before _ _ (Nat.le_refl _) _ _ _ hr
      rw [Nat.zero_add] at hq
      subst hq
      rw [← Lib.size_eq] at hj
      have Hr := Lib.hid hr
      have hqI : (q : Int) < (s.size : Int) := by omega
      clear hr hcz
      go_wp2_with fail
      refine (lex_u s (by omega) _ _ Hr.out).mono ?_
      rintro e w2 ⟨rfl, hb2⟩
      have hb02 := hb1.trans (hb2.mono hb1.size)
      go_wp2_with fail
      go_ret
      exact ⟨rfl, hb02⟩
    | toks ts =>
      have hcnt := lex_count ts _ _ hr
      rw [← Lib.size_eq] at hcnt
      have HT := Lib.hid (lex_texts ts _ _ hr).1
      have Hr := Lib.hid hr
      clear hr
      go_wp2_with fail
      refine (lex_u s (by omega) _ _ Hr.out).mono ?_
      rintro e w2 ⟨v, rfl, ht2, hb2⟩
      have hb02 := hb1.trans (hb2.mono hb1.size)
      obtain ⟨a0, c0, rfl, _⟩ := ht2.form
      have Ht2 := Lib.hid ht2
      clear ht2 hb2
      go_wp2_with fail
      go_loopw [7, 8] (fun v i wr => ∃ j e : Nat, j ≤ ts.length ∧ i = .int .i64 j ∧ v = .int .i64 e ∧ e ≤ s.size ∧ Hid (lexU (rest s e) e = .toks (ts.drop j)) ∧ Below w2.heap.size w2 wr) (fun _ i _ => ts.length - (intOf i).toNat)
      case atStart => exact ⟨0, 0, by omega, rfl, rfl, by omega, Lib.hid (by rw [rest_zero, List.drop_zero]; exact Hr.out), Below.refl _ _⟩
      case round =>
        obtain ⟨j, e, hj, rfl, rfl, he, Hlex, hbel⟩ := hrel
        by_cases hlt : j < ts.length
        · obtain ⟨b, off, cap, he', hbw, hm, hc⟩ := Ht2.out.open (by omega)
          simp only [Value.slice.injEq, true_and] at he'
          obtain ⟨rfl, rfl⟩ := he'
          have hJ := hc j hlt
          have ht1 := HT.out _ (List.getElem_mem hlt)
          rw [← Lib.size_eq] at ht1
          have hlex := Hlex.out
          rw [List.drop_eq_getElem_cons hlt] at hlex
          have hst := places_step he hlex
          have hwd := width_any ts[j] (by omega)
          have hw1 := written_any ts[j] (by omega)
          unfold maxLen at hm
          clear hc hlex
          generalize ts[j] = tj at *
          obtain ⟨s1, s2, s3, s4, s5, s6⟩ := hst
          have hpj : (tj.pos : Int) ≤ 3000 := by omega
          have hwj : (wid tj : Int) ≤ 3000 := by omega
          have hwrap : IntKind.i64.wrap ((tj.pos : Int) + (wid tj : Int)) = ((tj.pos + wid tj : Nat) : Int) := by rw [IntWalk.i64_in _ (by omega)]; omega
          have hG := fun w => gaps_any (s.extract e tj.pos) (Nat.le_trans (ext_size _ _ _) (by omega)) w
          rw [s5] at hG
          have hsz2 : (ByteArray.mk (wrT tj).toArray).size = wid tj := by rw [Lib.size_eq]; rfl
          have Hwd := Lib.hid hwd
          have Hw1 := Lib.hid hw1
          have HG := Lib.hid hG
          have S6 := Lib.hid s6
          have hbwr : b < wr.heap.size := Nat.lt_of_lt_of_le hbw hbel.size
          have hJr := hJ.below hbel hbw
          have hS : ∀ w', Below wr.heap.size wr w' → ((w'.cell? ⟨b, off + j * 4, none⟩ = some (.int .i64 (tj.kind : Int)) ∧ w'.cell? ⟨b, off + j * 4 + 1, none⟩ = some (.int .i64 (tj.pos : Int))) ∧ w'.cell? ⟨b, off + j * 4 + 2, none⟩ = some (.int .i64 (tj.n : Int)) ∧ w'.cell? ⟨b, off + j * 4 + 3, none⟩ = some (.string ⟨tj.text.toArray⟩)) ∧ Below wr.heap.size wr w' := by
            intro w' hb
            have h2 := hJr.below hb hbwr
            exact ⟨⟨⟨h2.1, h2.2.1⟩, h2.2.2.1, h2.2.2.2⟩, hb⟩
          have hr4 := Below.refl wr.heap.size wr
          obtain ⟨⟨⟨c0', c1'⟩, c2', c3'⟩, _⟩ := hS wr hr4
          have d1 : decide ((tj.pos : Int) < (e : Int)) = false := by simp; omega
          have d2 : ¬ ((tj.pos : Int) < (e : Int)) := by omega
          have d3 : ¬ ((s.size : Int) < ((tj.pos + wid tj : Nat) : Int)) := by omega
          clear hwd hw1 hG s5 s6 ht1 hJ hJr
          generalize hW : tj.pos + wid tj = pe at *
          have HW := Lib.hid hW
          clear hW
          go_wp2_with fail
          refine (Hwd.out _).mono ?_
          rintro e' w3 ⟨rfl, hb3⟩
          go_wp2_with fail
          have hS3 : ∀ w', Below w3.heap.size w3 w' → ((w'.cell? ⟨b, off + j * 4, none⟩ = some (.int .i64 (tj.kind : Int)) ∧ w'.cell? ⟨b, off + j * 4 + 1, none⟩ = some (.int .i64 (tj.pos : Int))) ∧ w'.cell? ⟨b, off + j * 4 + 2, none⟩ = some (.int .i64 (tj.n : Int)) ∧ w'.cell? ⟨b, off + j * 4 + 3, none⟩ = some (.string ⟨tj.text.toArray⟩)) ∧ Below w3.heap.size w3 w' := fun w' hb => ⟨(hS w' (hb3.trans (hb.mono hb3.size))).1, hb⟩
          have hr5 := Below.refl w3.heap.size w3
          have g1 : (0 : Int) ≤ (tj.pos : Int) := by omega
          have g2 : (tj.pos : Int) ≤ (pe : Int) := by have := HW.out; omega
          have g3 : (pe : Int) ≤ (s.size : Int) := by omega
          have g4 : (0 : Int) ≤ (e : Int) := by omega
          have g5 : (e : Int) ≤ (tj.pos : Int) := by omega
          have g6 : (tj.pos : Int) ≤ (s.size : Int) := by omega
          have g7 : (0 : Int) ≤ (j : Int) := by omega
          have g8 : (j : Int) < (ts.length : Int) := by omega
          have g9 : (j : Int) ≤ (c0 : Int) := by omega
          have hyl : (ByteArray.mk (wrT tj).toArray).toList ≠ [] := by
            rw [ByteArray.toList_eq]
            intro h
            have := congrArg List.length h
            simp only [List.toList_toArray, List.length_nil] at this
            have h2 : wid tj = (wrT tj).length := rfl
            omega
          have hy1 : (ByteArray.mk (wrT tj).toArray).toList.isEmpty = false := by
            cases h : (ByteArray.mk (wrT tj).toArray).toList with
            | nil => exact absurd h hyl
            | cons a l => rfl
          have hy2 : ((ByteArray.mk (wrT tj).toArray).toList == []) = false := by rw [beq_eq_false_iff_ne]; exact hyl
          have hy0 : ((ByteArray.mk (wrT tj).toArray).toList == (ByteArray.mk #[]).toList) = false := by
            rw [beq_eq_false_iff_ne, ByteArray.toList_eq (ByteArray.mk #[])]
            exact hyl
          clear hS c0' c1' c2' c3' hsz2
          generalize ByteArray.mk (wrT tj).toArray = Y at *
          generalize hX : s.extract e tj.pos = X at *
          go_region_held3 (fun w' => ((w'.cell? ⟨b, off + j * 4, none⟩ = some (.int .i64 (tj.kind : Int)) ∧ w'.cell? ⟨b, off + j * 4 + 1, none⟩ = some (.int .i64 (tj.pos : Int))) ∧ w'.cell? ⟨b, off + j * 4 + 2, none⟩ = some (.int .i64 (tj.n : Int)) ∧ w'.cell? ⟨b, off + j * 4 + 3, none⟩ = some (.string ⟨tj.text.toArray⟩)) ∧ Below w3.heap.size w3 w')
            (first | exact hS3 _ hr5.drew | exact hS3 _ (by assumption))
            (first
              | (go_at_call 30; refine (Hwd.out _).mono ?_; rintro e' w4 ⟨rfl, hb4'⟩; have hb4 : Below w3.heap.size w3 w4 := hr5.drew.trans hb4')
              | (go_at_call 31; refine (Hw1.out w4).mono ?_; rintro e' w5 ⟨rfl, hb5'⟩; have hb5 : Below w3.heap.size w3 w5 := hb4.trans (hb5'.mono hb4.size))
              | (go_at_call 31; refine (Hw1.out w5).mono ?_; rintro e' w6 ⟨rfl, hb6'⟩; have hb6 : Below w3.heap.size w3 w6 := hb5.trans (hb6'.mono hb5.size))
              | (go_at_call 32; refine (HG.out _).mono ?_; rintro e' w7 ⟨rfl, rfl⟩))
          obtain ⟨⟨⟨e0, e1⟩, e2, e3⟩, _⟩ := hS3 _ hb6
          clear hS3 hyl hy0 hy1 hy2
          go_wp2_with fail
          refine (Hwd.out _).mono ?_
          rintro e' w8 ⟨rfl, hb8⟩
          have hb9 := hb3.trans ((hb6.trans (hb8.mono hb6.size)).mono hb3.size)
          go_wp2_with fail
          go_roundw
          case rel => exact ⟨j + 1, pe, by omega, by go_num, by rfl, by omega, S6, hbel.trans (hb9.mono hbel.size)⟩
          case measure => simp [intOf]; omega
        · obtain rfl : j = ts.length := by omega
          have hlex := Hlex.out
          rw [List.drop_length] at hlex
          have hgp := lex_end hlex
          have hG := fun w => gaps_any (s.extract e s.size) (Nat.le_trans (ext_size _ _ _) (by omega)) w
          have hgb : gapsB (s.extract e s.size) = true := by
            unfold gapsB
            rw [ext_drop]
            exact decide_eq_true hgp
          rw [hgb] at hG
          have HG := Lib.hid hG
          have g3 : (e : Int) ≤ (s.size : Int) := by omega
          clear hG hgb hgp hlex
          go_wp2_with fail
          refine (HG.out _).mono ?_
          rintro e' w3 ⟨rfl, rfl⟩
          go_wp2_with fail
          go_ret
          exact ⟨rfl, hb02.trans (hbel.mono hb02.size)⟩

end Go.Proofs.YtkgkejphifkpkaaDoor.Lx
