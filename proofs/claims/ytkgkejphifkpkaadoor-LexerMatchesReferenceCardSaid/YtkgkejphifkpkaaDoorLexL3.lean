/- Walks of layer 4's laws: LexerGaps. -/
import Derived.Test.YtkgkejphifkpkaaDoorLexL2
import Derived.Deep.RegionHeld3
import Derived.Deep.DeepMust
import Derived.Deep.Cut
import Derived.Deep.CutRange
import Derived.Deep.DeepCutAuto
namespace Go.Proofs.YtkgkejphifkpkaaDoor.Lx
set_option linter.unusedVariables false
set_option linter.unusedSimpArgs false
open Go.RowKit

theorem gaps_law (l g : List UInt8) (hg : gp false g = g.length) (ts : List Tok) (h : lexU l 0 = .toks ts) (m : Nat) (hm : (ts = [] ∧ m = 0) ∨ ∃ i, ∃ hi : i < ts.length, m = ts[i].pos + wid ts[i]) :
    m ≤ l.length ∧ ∃ us, lexU (g ++ 10 :: ((l.take m ++ (g ++ 10 :: l.drop m)) ++ 10 :: g)) 0 = .toks us ∧ Bare ts us := by
  have key : m ≤ l.length ∧ ∀ p', ∃ us, lexU (l.take m ++ (g ++ 10 :: l.drop m)) p' = .toks us ∧ Bare ts us := by
    rcases hm with ⟨rfl, rfl⟩ | ⟨i, hi, hm⟩
    · refine ⟨Nat.zero_le _, fun p' => ?_⟩
      rw [List.take_zero, List.nil_append, List.drop_zero, lex_gap_front g _ hg]
      obtain ⟨us, h1, h2⟩ := lexU_bare h (p' + g.length + 1)
      exact ⟨us, h1, h2⟩
    · exact lex_mid g hg ts l 0 i hi h m (by rw [Nat.zero_add]; exact hm)
  refine ⟨key.1, ?_⟩
  obtain ⟨us, h1, h2⟩ := key.2 (0 + g.length + 1)
  refine ⟨us, ?_, h2⟩
  rw [lex_gap_front g _ hg, lex_join_at, h1, lexU_gap hg]
  simp [Res.join, Res.pre]

theorem gaps_bytes (s g : ByteArray) (m : Nat) : (((((g ++ ByteArray.mk #[10]) ++ s.extract 0 m) ++ (g ++ ByteArray.mk #[10])) ++ s.extract m s.size) ++ ByteArray.mk #[10] ++ g).data.toList
    = g.data.toList ++ 10 :: ((s.data.toList.take m ++ (g.data.toList ++ 10 :: s.data.toList.drop m)) ++ 10 :: g.data.toList) := by
  have h1 := ext_take s m
  have h2 := ext_drop s m
  simp only [ByteArray.data_append, Array.toList_append, h1, h2]
  simp

set_option maxRecDepth 100000 in
set_option maxHeartbeats 2000000 in
theorem gaps_walk (s g : ByteArray) (hs : s.size ≤ maxLen) (hg : g.size ≤ maxLen) (n : Nat) (hn : n ≤ 65535) (w : World) :
    Calls Tryd.prog 10 #[.string s, .string g, .int .u16 (n : Int)] w fun e w' => e = .returned (.bool true) ∧ Below w.heap.size w w' := by
  unfold maxLen at hs hg
  go_enter Tryd.func10, Tryd.ntmps10
  go_wp2_with fail
  refine (head_any _).mono ?_
  rintro e w1 ⟨rfl, hb1⟩
  by_cases hl1 : 1500 < s.size
  · have hI : (1500 : Int) < (s.size : Int) := by omega
    go_wp2_with fail
    go_ret
    exact ⟨rfl, hb1⟩
  have hd : decide (1500 < s.size) = false := by simp; omega
  by_cases hl2 : 300 < g.size
  · have hI : ¬ (1500 : Int) < (s.size : Int) := by omega
    have hI2 : (300 : Int) < (g.size : Int) := by omega
    go_wp2_with fail
    go_ret
    exact ⟨rfl, hb1⟩
  have hI : ¬ (1500 : Int) < (s.size : Int) := by omega
  have hI2 : ¬ (300 : Int) < (g.size : Int) := by omega
  have hd2 : decide (300 < g.size) = false := by simp; omega
  have hsz : s.size ≤ 1500 := by omega
  have hgz : g.size ≤ 300 := by omega
  clear hl1 hl2 hs hg
  have hG := gaps_any g (by omega) w1
  cases hgb : gapsB g with
  | false =>
    rw [hgb] at hG
    have HG := Lib.hid hG
    clear hG hgb
    go_wp2_with fail
    refine HG.out.mono ?_
    rintro e w2 ⟨rfl, rfl⟩
    go_wp2_with fail
    go_ret
    exact ⟨rfl, hb1⟩
  | true =>
    rw [hgb] at hG
    have HG := Lib.hid hG
    have Hgp := Lib.hid (of_decide_eq_true (show decide (gp false g.data.toList = g.data.toList.length) = true from hgb))
    clear hG hgb
    go_wp2_with fail
    refine HG.out.mono ?_
    rintro e w2 ⟨rfl, rfl⟩
    cases hr : lexU s.data.toList 0 with
    | err c q =>
      have hcz := err_nz hr
      have hcz2 : ((c : Int) != 0) = true := by rw [bne, hcz]; rfl
      have Hr := Lib.hid hr
      clear hr hcz
      go_wp2_with fail
      refine (lex_u s (by omega) _ _ Hr.out).mono ?_
      rintro e w3 ⟨rfl, hb3⟩
      have hb03 := hb1.trans (hb3.mono hb1.size)
      go_wp2_with fail
      go_ret
      exact ⟨rfl, hb03⟩
    | toks ts =>
      have Hr := Lib.hid hr
      clear hr
      go_wp2_with fail
      refine (lex_u s (by omega) _ _ Hr.out).mono ?_
      rintro e w3 ⟨v, rfl, ht3, hb3⟩
      have hb03 := hb1.trans (hb3.mono hb1.size)
      obtain ⟨a0, c0, rfl, hcc⟩ := ht3.form
      go_upto_if 43 with fail
      go_cut [11] (fun x wx => ∃ m : Nat, x = .int .i64 m ∧ Hid (m ≤ s.data.toList.length ∧ ∃ us, lexU (g.data.toList ++ 10 :: ((s.data.toList.take m ++ (g.data.toList ++ 10 :: s.data.toList.drop m)) ++ 10 :: g.data.toList)) 0 = .toks us ∧ Bare ts us) ∧ TokSl wx (.slice a0 ts.length c0) ts ∧ Below w.heap.size w wx)
      case first =>
        by_cases h0 : ts.length = 0
        · obtain rfl : ts = [] := List.eq_nil_of_length_eq_zero h0
          have Hgl := Lib.hid (gaps_law s.data.toList g.data.toList Hgp.out [] Hr.out 0 (.inl ⟨rfl, rfl⟩))
          have Ht3 := Lib.hid ht3
          simp only [List.length_nil] at *
          clear ht3
          go_wp2_with fail
          go_meet
          exact ⟨0, rfl, Hgl, Ht3.out, hb03⟩
        · skip
          obtain ⟨b, off, cap, he, hbw, hm, hc⟩ := ht3.open h0
          simp only [Value.slice.injEq, true_and] at he
          obtain ⟨rfl, rfl⟩ := he
          unfold maxLen at hm
          have hmod : n % ts.length < ts.length := Nat.mod_lt _ (by omega)
          obtain ⟨k0, k1, k2, k3⟩ := hc (n % ts.length) hmod
          have hne : (0 : Int) < (ts.length : Int) := by omega
          have hlz : (ts.length : Int) ≠ 0 := by omega
          have Ht3 := Lib.hid ht3
          clear hc ht3
          have hT3 := lex_texts ts _ _ Hr.out
          have hT4 := hT3.1 _ (List.getElem_mem hmod)
          rw [← Lib.size_eq] at hT4
          have hgl := gaps_law s.data.toList g.data.toList Hgp.out ts Hr.out (ts[n % ts.length].pos + wid ts[n % ts.length]) (.inr ⟨_, hmod, rfl⟩)
          have hwd := width_any ts[n % ts.length] (by omega)
          generalize ts[n % ts.length] = tk at *
          have Hgl := Lib.hid hgl
          have Hwd := Lib.hid hwd
          have hpb : (tk.pos : Int) ≤ 1500 := by omega
          have hwb : (wid tk : Int) ≤ 1500 := by unfold wid wrT; omega
          clear hT3 hT4 hgl hwd
          go_wp2_with fail
          obtain ⟨w4, hw4⟩ : ∃ w4, w3.alloc (.cells #[.int .i64 (tk.kind : Int), .int .i64 (tk.pos : Int), .int .i64 (tk.n : Int), .string ⟨tk.text.toArray⟩] 46) = w4 := ⟨_, rfl⟩
          rw [hw4]
          have hN : w4.heap[w3.heap.size]? = some (.cells #[.int .i64 (tk.kind : Int), .int .i64 (tk.pos : Int), .int .i64 (tk.n : Int), .string ⟨tk.text.toArray⟩] 46 (0, 0)) := by rw [← hw4]; exact heap_alloc_new w3 _
          have hb34 : Below w3.heap.size w3 w4 := by rw [← hw4]; exact (Below.refl _ _).alloc (Nat.le_refl _) _
          have hg4 : w3.heap.size < w4.heap.size := (Array.getElem?_eq_some_iff.1 hN).1
          have hb04 := hb03.trans (hb34.mono hb03.size)
          have Ht4 := Lib.hid (Ht3.out.below hb34)
          generalize w3.heap.size = N at *
          have hS : ∀ w', Below w4.heap.size w4 w' → ((w'.cell? ⟨N, 0, none⟩ = some (.int .i64 (tk.kind : Int)) ∧ w'.cell? ⟨N, 1, none⟩ = some (.int .i64 (tk.pos : Int))) ∧ w'.cell? ⟨N, 2, none⟩ = some (.int .i64 (tk.n : Int)) ∧ w'.cell? ⟨N, 3, none⟩ = some (.string ⟨tk.text.toArray⟩)) ∧ Below w4.heap.size w4 w' := by
            intro w' hb
            refine ⟨⟨⟨?_, ?_⟩, ?_, ?_⟩, hb⟩
            · rw [hb.cell (p := ⟨N, 0, none⟩) hg4, cell_of_row _ _ _ _ _ _ hN]; rfl
            · rw [hb.cell (p := ⟨N, 1, none⟩) hg4, cell_of_row _ _ _ _ _ _ hN]; rfl
            · rw [hb.cell (p := ⟨N, 2, none⟩) hg4, cell_of_row _ _ _ _ _ _ hN]; rfl
            · rw [hb.cell (p := ⟨N, 3, none⟩) hg4, cell_of_row _ _ _ _ _ _ hN]; rfl
          have hr4 := Below.refl w4.heap.size w4
          clear hN hw4 hb34 k0 k1 k2 k3
          go_region_held3 (fun w' => ((w'.cell? ⟨N, 0, none⟩ = some (.int .i64 (tk.kind : Int)) ∧ w'.cell? ⟨N, 1, none⟩ = some (.int .i64 (tk.pos : Int))) ∧ w'.cell? ⟨N, 2, none⟩ = some (.int .i64 (tk.n : Int)) ∧ w'.cell? ⟨N, 3, none⟩ = some (.string ⟨tk.text.toArray⟩)) ∧ Below w4.heap.size w4 w')
            (first | exact hS _ hr4.drew | exact hS _ (by assumption))
            (first | (go_at_call 30; refine (Hwd.out _).mono ?_; rintro e w5 ⟨rfl, hb5'⟩; have hb5 : Below w4.heap.size w4 w5 := hr4.drew.trans hb5'))
          obtain ⟨m, hm'⟩ : ∃ m, tk.pos + wid tk = m := ⟨_, rfl⟩
          rw [hm'] at Hgl
          have hwrap : IntKind.i64.wrap ((tk.pos : Int) + (wid tk : Int)) = (m : Int) := by rw [IntWalk.i64_in _ (by omega)]; omega
          rw [hwrap]
          have hb05 := hb04.trans (hb5.mono hb04.size)
          have Ht5 := Lib.hid (Ht4.out.below hb5)
          clear hwrap hm' hS hb5 hb5'
          go_wp2_with fail
          go_meet
          exact ⟨m, rfl, Hgl, Ht5.out, hb05⟩
      case rest =>
        obtain ⟨m, rfl, Hgl, ht5, hb05⟩ := hcut
        have Ht5 := Lib.hid ht5
        clear ht5 ht3
        have hms : m ≤ s.size := by rw [Lib.size_eq]; exact Hgl.out.1
        have hmd : decide (s.size < m) = false := by simp; omega
        have hmI : ¬ ((s.size : Int) < (m : Int)) := by omega
        have hm0 : ¬ ((m : Int) < 0) := by omega
        obtain ⟨us, hus, hbare⟩ := Hgl.out.2
        have hal := alike_of_bare hbare
        have HT := Lib.hid (show lexU ((((((g ++ ByteArray.mk #[10]) ++ s.extract 0 m) ++ (g ++ ByteArray.mk #[10])) ++ s.extract m s.size) ++ ByteArray.mk #[10]) ++ g).data.toList 0 = .toks us by rw [gaps_bytes]; exact hus)
        have z1 : (g ++ ByteArray.mk #[10]).size ≤ 301 := by rw [one_size]; omega
        have z2 := ext_size s 0 m
        have z3 := ext_size s m s.size
        clear hus hbare Hgl
        generalize hgl : g ++ ByteArray.mk #[10] = gl at *
        generalize hx1 : s.extract 0 m = x1 at *
        generalize hx2 : s.extract m s.size = x2 at *
        have z4 : (gl ++ x1).size ≤ 1801 := by rw [ByteArray.size_append]; omega
        generalize hy1 : gl ++ x1 = y1 at *
        have z5 : (y1 ++ gl).size ≤ 2102 := by rw [ByteArray.size_append]; omega
        generalize hy2 : y1 ++ gl = y2 at *
        have z6 : (y2 ++ x2).size ≤ 3602 := by rw [ByteArray.size_append]; omega
        generalize hy3 : y2 ++ x2 = y3 at *
        have z7 : (y3 ++ ByteArray.mk #[10]).size ≤ 3603 := by rw [one_size]; omega
        generalize hy4 : y3 ++ ByteArray.mk #[10] = y4 at *
        have z8 : (y4 ++ g).size ≤ 3903 := by rw [ByteArray.size_append]; omega
        generalize hy5 : y4 ++ g = y5 at *
        have HL := Lib.hid (fun w => lex_u y5 (by omega) w _ HT.out)
        have f1 : (9223372036854775807 < gl.size + x1.size) = False := by apply eq_false; omega
        have f2 : (9223372036854775807 < y1.size + gl.size) = False := by apply eq_false; omega
        have f3 : (9223372036854775807 < y2.size + x2.size) = False := by apply eq_false; omega
        have f4 : (9223372036854775807 < y3.size + 1) = False := by apply eq_false; omega
        have f5 : (9223372036854775807 < y4.size + g.size) = False := by apply eq_false; omega
        go_wp2_with fail
        go_region_held3 (fun w' => True) (exact trivial) (first | (go_at_call 27; refine (HL.out _).mono ?_; rintro e w6 ⟨u, rfl, hu6, hb6'⟩; have hb6 : Below wc.heap.size wc w6 := (Below.refl _ _).drew.trans hb6'))
        have Hu6 := Lib.hid hu6
        have Hv6 := Lib.hid (Ht5.out.below hb6)
        have hb06 := hb05.trans (hb6.mono hb05.size)
        clear hu6 hb6 hb6' f1 f2 f3 f4 f5 z1 z2 z3 z4 z5 z6 z7 z8 hgl hx1 hx2 hy1 hy2 hy3 hy4 hy5
        go_wp2_with fail
        refine (alike_any ts us hal _ u _ Hv6.out Hu6.out).mono ?_
        rintro e w7 ⟨rfl, hb7⟩
        have hb07 := hb06.trans (hb7.mono hb06.size)
        go_wp2_with fail
        go_ret
        exact ⟨rfl, hb07⟩

end Go.Proofs.YtkgkejphifkpkaaDoor.Lx
