/- Walks of layer 4's laws: LexerLongest. -/
import Derived.Test.YtkgkejphifkpkaaDoorLexL3
namespace Go.Proofs.YtkgkejphifkpkaaDoor.Lx
set_option linter.unusedVariables false
set_option linter.unusedSimpArgs false
open Go.RowKit

theorem lex_two_at : ∀ (ts : List Tok) (l : List UInt8) (p : Nat), lexU l p = .toks ts → ∀ (k : Nat) (h1 : k < ts.length) (h2 : k + 1 < ts.length), ts[k].pos + wid ts[k] = ts[k + 1].pos →
    ∀ (p' : Nat) (us : List Tok), lexU (wrT ts[k] ++ wrT ts[k + 1]) p' = .toks us → us.length ≠ 1
  | [], _, _, _, k, h1, _, _ => by simp at h1
  | [t], _, _, _, k, _, h2, _ => by simp at h2
  | t :: u :: ts, l, p, h, 0, _, _, hs => lex_two h hs
  | t :: u :: ts, l, p, h, k + 1, h1, h2, hs => by
    obtain ⟨w, ht, hp, hr, hw, hwl⟩ := lex_first h
    exact lex_two_at (u :: ts) _ _ hr k (by simpa using h1) (by simpa using h2) hs

set_option maxRecDepth 100000 in
set_option maxHeartbeats 2000000 in
theorem longest_walk (s : ByteArray) (hs : s.size ≤ maxLen) (w : World) :
    Calls Tryd.prog 11 #[.string s] w fun e w' => e = .returned (.bool true) ∧ Below w.heap.size w w' := by
  unfold maxLen at hs
  go_enter Tryd.func11, Tryd.ntmps11
  go_wp2_with fail
  refine (head_any _).mono ?_
  rintro e w1 ⟨rfl, hb1⟩
  by_cases hlong : 3000 < s.size
  · have hI : (3000 : Int) < (s.size : Int) := by omega
    go_wp2_with fail
    go_ret
    exact ⟨rfl, hb1⟩
  · have hI : ¬ (3000 : Int) < (s.size : Int) := by omega
    have hsz : s.size ≤ 3000 := by omega
    clear hlong hs
    cases hr : lexU s.data.toList 0 with
    | err c q =>
      have hcz := err_nz hr
      have Hr := Lib.hid hr
      clear hr
      go_wp2_with fail
      refine (lex_u s (by omega) _ _ Hr.out).mono ?_
      rintro e w2 ⟨rfl, hb2⟩
      have hb02 := hb1.trans (hb2.mono hb1.size)
      go_wp2_with fail
      refine wp_loop_rounds 1 ?_
      rw [rounds_succ]
      go_wp2_with fail
      go_ret
      exact ⟨rfl, hb02⟩
    | toks ts =>
      have hcnt := lex_count ts _ _ hr
      rw [← Lib.size_eq] at hcnt
      have HT := Lib.hid (lex_texts ts _ _ hr).1
      have H2 := Lib.hid (lex_two_at ts _ _ hr)
      have Hr := Lib.hid hr
      clear hr
      go_wp2_with fail
      refine (lex_u s (by omega) _ _ Hr.out).mono ?_
      rintro e w2 ⟨v, rfl, ht2, hb2⟩
      have hb02 := hb1.trans (hb2.mono hb1.size)
      obtain ⟨a0, c0, rfl, _⟩ := ht2.form
      have Ht2 := Lib.hid ht2
      clear ht2 hb2
      go_wp2_with fail
      go_loopw [7] (fun i wr => ∃ j : Nat, 1 ≤ j ∧ j ≤ ts.length + 1 ∧ i = .int .i64 j ∧ Below w2.heap.size w2 wr) (fun i _ => ts.length + 1 - (intOf i).toNat)
      case atStart => exact ⟨1, by omega, by omega, rfl, Below.refl _ _⟩
      case round =>
        obtain ⟨j, hj1, hj2, rfl, hbel⟩ := hrel
        by_cases hlt : j < ts.length
        · obtain ⟨b, off, cap, he, hbw, hm, hc⟩ := Ht2.out.open (by omega)
          simp only [Value.slice.injEq, true_and] at he
          obtain ⟨rfl, rfl⟩ := he
          obtain ⟨k, hk⟩ : ∃ k, j = k + 1 := ⟨j - 1, by omega⟩
          have hjk : (j : Int) - 1 = (k : Int) := by omega
          have hkl : k < ts.length := by omega
          have hK := hc k hkl
          have hJ := hc j hlt
          have h2 := H2.out k hkl (by omega)
          have ht1 := HT.out _ (List.getElem_mem hkl)
          have ht2 := HT.out _ (List.getElem_mem hlt)
          rw [← Lib.size_eq] at ht1 ht2
          have hej : ts[k + 1]'(by omega) = ts[j] := by congr 1; exact hk.symm
          rw [hej] at h2
          have hwd := width_any ts[k] (by omega)
          have hw1 := written_any ts[k] (by omega)
          have hw2 := written_any ts[j] (by omega)
          have hkI : (k : Int) < (ts.length : Int) := by omega
          unfold maxLen at hm
          clear hej hc
          generalize ts[k] = tk at *
          generalize ts[j] = tj at *
          have hpk : (tk.pos : Int) ≤ 3000 := by omega
          have hpj : (tj.pos : Int) ≤ 3000 := by omega
          have hwk : wid tk ≤ 3000 := by unfold wid wrT; omega
          have hwj : wid tj ≤ 3000 := by unfold wid wrT; omega
          have hwkI : (wid tk : Int) ≤ 3000 := by omega
          have Hend := Lib.hid (show tj.pos + wid tj ≤ 3000 by unfold wid wrT; omega)
          have hwrap : IntKind.i64.wrap ((tk.pos : Int) + (wid tk : Int)) = (tk.pos : Int) + (wid tk : Int) := IntWalk.i64_in _ (by omega)
          have Hwd := Lib.hid hwd
          have Hw1 := Lib.hid hw1
          have Hw2 := Lib.hid hw2
          have H22 := Lib.hid h2
          have hbwr : b < wr.heap.size := Nat.lt_of_lt_of_le hbw hbel.size
          have hKr := hK.below hbel hbw
          have hJr := hJ.below hbel hbw
          have hS : ∀ w', Below wr.heap.size wr w' → ((((w'.cell? ⟨b, off + k * 4, none⟩ = some (.int .i64 (tk.kind : Int)) ∧ w'.cell? ⟨b, off + k * 4 + 1, none⟩ = some (.int .i64 (tk.pos : Int))) ∧ w'.cell? ⟨b, off + k * 4 + 2, none⟩ = some (.int .i64 (tk.n : Int)) ∧ w'.cell? ⟨b, off + k * 4 + 3, none⟩ = some (.string ⟨tk.text.toArray⟩)) ∧ (w'.cell? ⟨b, off + j * 4, none⟩ = some (.int .i64 (tj.kind : Int)) ∧ w'.cell? ⟨b, off + j * 4 + 1, none⟩ = some (.int .i64 (tj.pos : Int))) ∧ w'.cell? ⟨b, off + j * 4 + 2, none⟩ = some (.int .i64 (tj.n : Int)) ∧ w'.cell? ⟨b, off + j * 4 + 3, none⟩ = some (.string ⟨tj.text.toArray⟩)) ∧ Below wr.heap.size wr w') := by
            intro w' hb
            have h1 := hKr.below hb hbwr
            have h2 := hJr.below hb hbwr
            exact ⟨⟨⟨⟨h1.1, h1.2.1⟩, h1.2.2.1, h1.2.2.2⟩, ⟨h2.1, h2.2.1⟩, h2.2.2.1, h2.2.2.2⟩, hb⟩
          have hr4 := Below.refl wr.heap.size wr
          have g0 : (0 : Int) ≤ (k : Int) := by omega
          have g1 : (0 : Int) ≤ (j : Int) := by omega
          have g2 : (j : Int) < (ts.length : Int) := by omega
          have g3 : IntKind.i64.wrap ((j : Int) - 1) = (k : Int) := by rw [hjk]; exact IntWalk.i64_in _ (by omega)
          have g4 : IntKind.i64.wrap (k : Int) = (k : Int) := IntWalk.i64_in _ (by omega)
          have g5 : (k : Int) ≤ (c0 : Int) := by omega
          have g6 : (j : Int) ≤ (c0 : Int) := by omega
          have Hk := Lib.hid hk
          clear hk hjk
          clear hwd hw1 hw2 h2 ht1 ht2 hK hJ hKr hJr
          go_wp2_with fail
          go_region_held3 (fun w' => (((w'.cell? ⟨b, off + k * 4, none⟩ = some (.int .i64 (tk.kind : Int)) ∧ w'.cell? ⟨b, off + k * 4 + 1, none⟩ = some (.int .i64 (tk.pos : Int))) ∧ w'.cell? ⟨b, off + k * 4 + 2, none⟩ = some (.int .i64 (tk.n : Int)) ∧ w'.cell? ⟨b, off + k * 4 + 3, none⟩ = some (.string ⟨tk.text.toArray⟩)) ∧ (w'.cell? ⟨b, off + j * 4, none⟩ = some (.int .i64 (tj.kind : Int)) ∧ w'.cell? ⟨b, off + j * 4 + 1, none⟩ = some (.int .i64 (tj.pos : Int))) ∧ w'.cell? ⟨b, off + j * 4 + 2, none⟩ = some (.int .i64 (tj.n : Int)) ∧ w'.cell? ⟨b, off + j * 4 + 3, none⟩ = some (.string ⟨tj.text.toArray⟩)) ∧ Below wr.heap.size wr w')
            (first | exact hS _ hr4.drew | exact hS _ (by assumption))
            (first | (go_at_call 30; refine (Hwd.out _).mono ?_; rintro e w3 ⟨rfl, hb3'⟩; have hb3 : Below wr.heap.size wr w3 := hr4.drew.trans hb3'))
          by_cases hside : tk.pos + wid tk = tj.pos
          · have hne : (((tk.pos : Int) + (wid tk : Int)) != (tj.pos : Int)) = false := by rw [bne, Bool.not_eq_false', beq_iff_eq]; omega
            have hus := fun us => H22.out (by rw [hside]) 0 us
            have z1 : (ByteArray.mk (wrT tk).toArray).size = wid tk := by rw [Lib.size_eq]; rfl
            have z2 : (ByteArray.mk (wrT tj).toArray).size = wid tj := by rw [Lib.size_eq]; rfl
            have hdat : (ByteArray.mk (wrT tk).toArray ++ ByteArray.mk (wrT tj).toArray).data.toList = wrT tk ++ wrT tj := by simp
            have hysz : (ByteArray.mk (wrT tk).toArray ++ ByteArray.mk (wrT tj).toArray).size = (ByteArray.mk (wrT tk).toArray).size + (ByteArray.mk (wrT tj).toArray).size := ByteArray.size_append
            have Hdat := Lib.hid hdat
            have Hus := Lib.hid hus
            clear hdat hus
            generalize ByteArray.mk (wrT tk).toArray = x1 at *
            generalize ByteArray.mk (wrT tj).toArray = x2 at *
            generalize hy : x1 ++ x2 = y at *
            have hysz2 : y.size ≤ 5000 := by have := Hend.out; omega
            have f1 : (9223372036854775807 < x1.size + x2.size) = False := by apply eq_false; omega
            have hS3 : ∀ w', Below w3.heap.size w3 w' → ((((w'.cell? ⟨b, off + k * 4, none⟩ = some (.int .i64 (tk.kind : Int)) ∧ w'.cell? ⟨b, off + k * 4 + 1, none⟩ = some (.int .i64 (tk.pos : Int))) ∧ w'.cell? ⟨b, off + k * 4 + 2, none⟩ = some (.int .i64 (tk.n : Int)) ∧ w'.cell? ⟨b, off + k * 4 + 3, none⟩ = some (.string ⟨tk.text.toArray⟩)) ∧ (w'.cell? ⟨b, off + j * 4, none⟩ = some (.int .i64 (tj.kind : Int)) ∧ w'.cell? ⟨b, off + j * 4 + 1, none⟩ = some (.int .i64 (tj.pos : Int))) ∧ w'.cell? ⟨b, off + j * 4 + 2, none⟩ = some (.int .i64 (tj.n : Int)) ∧ w'.cell? ⟨b, off + j * 4 + 3, none⟩ = some (.string ⟨tj.text.toArray⟩)) ∧ Below w3.heap.size w3 w') := fun w' hb => ⟨(hS w' (hb3.trans (hb.mono hb3.size))).1, hb⟩
            have hr5 := Below.refl w3.heap.size w3
            have Hz1 := Lib.hid z1
            have Hz2 := Lib.hid z2
            clear hysz hS hside z1 z2 hwk hwj hwkI hwrap
            cases hr : lexU y.data.toList 0 with
            | err c q =>
              have hcz := err_nz hr
              have HL := Lib.hid (fun w => lex_u y hysz2 w _ hr)
              clear hr
              go_wp2_with fail
              go_region_held3 (fun w' => (((w'.cell? ⟨b, off + k * 4, none⟩ = some (.int .i64 (tk.kind : Int)) ∧ w'.cell? ⟨b, off + k * 4 + 1, none⟩ = some (.int .i64 (tk.pos : Int))) ∧ w'.cell? ⟨b, off + k * 4 + 2, none⟩ = some (.int .i64 (tk.n : Int)) ∧ w'.cell? ⟨b, off + k * 4 + 3, none⟩ = some (.string ⟨tk.text.toArray⟩)) ∧ (w'.cell? ⟨b, off + j * 4, none⟩ = some (.int .i64 (tj.kind : Int)) ∧ w'.cell? ⟨b, off + j * 4 + 1, none⟩ = some (.int .i64 (tj.pos : Int))) ∧ w'.cell? ⟨b, off + j * 4 + 2, none⟩ = some (.int .i64 (tj.n : Int)) ∧ w'.cell? ⟨b, off + j * 4 + 3, none⟩ = some (.string ⟨tj.text.toArray⟩)) ∧ Below w3.heap.size w3 w')
                (first | exact hS3 _ hr5.drew | exact hS3 _ (by assumption))
                (first
                  | (go_at_call_of 31 (Value.agg #[.int .i64 (tk.kind : Int), .int .i64 (tk.pos : Int), .int .i64 (tk.n : Int), .string ⟨tk.text.toArray⟩]); refine (Hw1.out _).mono ?_; rintro e w4 ⟨rfl, hb4'⟩; have hb4 : Below w3.heap.size w3 w4 := hr5.drew.trans hb4')
                  | (go_at_call_of 31 (Value.agg #[.int .i64 (tj.kind : Int), .int .i64 (tj.pos : Int), .int .i64 (tj.n : Int), .string ⟨tj.text.toArray⟩]); refine (Hw2.out _).mono ?_; rintro e w5 ⟨rfl, hb5'⟩; have hb5 : Below w3.heap.size w3 w5 := hb4.trans (hb5'.mono hb4.size))
                  | (go_at_call 27; refine (HL.out _).mono ?_; rintro e w6 ⟨rfl, hb6'⟩; have hb6 : Below w3.heap.size w3 w6 := hb5.trans (hb6'.mono hb5.size)))
              go_wp2_with fail
              go_roundw
              case rel => exact ⟨j + 1, by omega, by omega, by go_num, hbel.trans ((hb3.trans (hb6.mono hb3.size)).mono hbel.size)⟩
              case measure => simp [intOf]; omega
            | toks us =>
              have hone := Hus.out us (by rw [← Hdat.out]; exact hr)
              have honeI : ((us.length : Int) == 1) = false := by rw [beq_eq_false_iff_ne]; omega
              have HL := Lib.hid (fun w => lex_u y hysz2 w _ hr)
              clear hr hone
              go_wp2_with fail
              go_region_held3 (fun w' => (((w'.cell? ⟨b, off + k * 4, none⟩ = some (.int .i64 (tk.kind : Int)) ∧ w'.cell? ⟨b, off + k * 4 + 1, none⟩ = some (.int .i64 (tk.pos : Int))) ∧ w'.cell? ⟨b, off + k * 4 + 2, none⟩ = some (.int .i64 (tk.n : Int)) ∧ w'.cell? ⟨b, off + k * 4 + 3, none⟩ = some (.string ⟨tk.text.toArray⟩)) ∧ (w'.cell? ⟨b, off + j * 4, none⟩ = some (.int .i64 (tj.kind : Int)) ∧ w'.cell? ⟨b, off + j * 4 + 1, none⟩ = some (.int .i64 (tj.pos : Int))) ∧ w'.cell? ⟨b, off + j * 4 + 2, none⟩ = some (.int .i64 (tj.n : Int)) ∧ w'.cell? ⟨b, off + j * 4 + 3, none⟩ = some (.string ⟨tj.text.toArray⟩)) ∧ Below w3.heap.size w3 w')
                (first | exact hS3 _ hr5.drew | exact hS3 _ (by assumption))
                (first
                  | (go_at_call_of 31 (Value.agg #[.int .i64 (tk.kind : Int), .int .i64 (tk.pos : Int), .int .i64 (tk.n : Int), .string ⟨tk.text.toArray⟩]); refine (Hw1.out _).mono ?_; rintro e w4 ⟨rfl, hb4'⟩; have hb4 : Below w3.heap.size w3 w4 := hr5.drew.trans hb4')
                  | (go_at_call_of 31 (Value.agg #[.int .i64 (tj.kind : Int), .int .i64 (tj.pos : Int), .int .i64 (tj.n : Int), .string ⟨tj.text.toArray⟩]); refine (Hw2.out _).mono ?_; rintro e w5 ⟨rfl, hb5'⟩; have hb5 : Below w3.heap.size w3 w5 := hb4.trans (hb5'.mono hb4.size))
                  | (go_at_call 27; refine (HL.out _).mono ?_; rintro e w6 ⟨v6, rfl, hv6, hb6'⟩; have hb6 : Below w3.heap.size w3 w6 := hb5.trans (hb6'.mono hb5.size)))
              obtain ⟨a6, c6, rfl, _⟩ := hv6.form
              go_wp2_with fail
              go_roundw
              case rel => exact ⟨j + 1, by omega, by omega, by go_num, hbel.trans ((hb3.trans (hb6.mono hb3.size)).mono hbel.size)⟩
              case measure => simp [intOf]; omega
          · have hne : (((tk.pos : Int) + (wid tk : Int)) != (tj.pos : Int)) = true := by rw [bne, Bool.not_eq_true', beq_eq_false_iff_ne]; omega
            go_wp2_with fail
            go_roundw
            case rel => exact ⟨j + 1, by omega, by omega, by go_num, hbel.trans (hb3.mono hbel.size)⟩
            case measure => simp [intOf]; omega
        · have hd : decide (j < ts.length) = false := by simp; omega
          go_wp2_with fail
          go_ret
          exact ⟨rfl, hb02.trans (hbel.mono hb02.size)⟩

end Go.Proofs.YtkgkejphifkpkaaDoor.Lx
