/- Walks over package gazetteerref04: Lex; LexerMatchesReference. -/
import Derived.Test.YtkgkejphifkpkaaDoorLexR5
namespace Go.Proofs.YtkgkejphifkpkaaDoor.Lx
set_option linter.unusedVariables false
set_option linter.unusedSimpArgs false
open Go.RowKit

theorem lexL_pos : ∀ (n left : Nat) (l : List UInt8) (p : Nat) (ts : List Tok), l.length ≤ n → lexL left l p = .toks ts → ∀ t ∈ ts, t.pos ≤ p + l.length := by
  intro n
  induction n with
  | zero =>
    intro left l p ts hn h
    have hg := gp_le l false
    rw [lexL_gap (by omega)] at h
    cases h
    intro t ht
    cases ht
  | succ n ih =>
    intro left l p ts hn h
    have hg := gp_le l false
    by_cases hgl : gp false l = l.length
    · rw [lexL_gap hgl] at h
      cases h
      intro t ht
      cases ht
    · cases ho : tokB (l.drop (gp false l)) with
      | bad e =>
        rw [lexL_bad (by omega) ho] at h
        cases h
      | good k v w x =>
        cases left with
        | zero =>
          rw [lexL_full ho] at h
          cases h
        | succ left =>
          have hw := tok_width ho
          rw [List.length_drop] at hw
          rw [lexL_good ho (by omega)] at h
          cases hr : lexL (left + 1 - 1) (l.drop (gp false l + w)) (p + gp false l + w) with
          | err c q => rw [hr] at h; cases h
          | toks us =>
            rw [hr] at h
            simp only [Res.pre, Res.toks.injEq] at h
            subst h
            intro t ht
            rw [List.mem_append] at ht
            rcases ht with ht | ht
            · simp only [List.mem_singleton] at ht
              subst ht
              show p + gp false l ≤ _
              omega
            · have := ih _ _ _ _ (by rw [List.length_drop]; omega) hr t ht
              rw [List.length_drop] at this
              omega

theorem next_code {l : List UInt8} {k v w : Nat} {t : List UInt8} {q : Nat} (h : tokB l = .good k v w t) : wid ⟨k, q, v, t⟩ = w := (tok_written h).2

set_option maxHeartbeats 1000000 in
theorem rlex_long (s : ByteArray) (h : 20000 < s.size) (hs : s.size ≤ 1000000) (w : World) :
    Calls Tryd.prog 28 #[.string s] w fun e w' => e = .returned (.tuple #[.slice none 0 0, .int .i64 2, .int .i64 (-1)]) ∧ w = w' := by
  go_enter Tryd.func28, Tryd.ntmps28
  go_wp2_with fail
  go_ret3
  exact ⟨rfl, rfl⟩

set_option maxRecDepth 100000 in
set_option maxHeartbeats 2000000 in
theorem rlex_any (s : ByteArray) (hs : s.size ≤ 20000) (w : World) (r : Res) (hres : lexL 5000 (rest s 0) 0 = r) :
    Calls Tryd.prog 28 #[.string s] w (Lexed r w) := by
  have Hres := Lib.hid hres
  have hn : ¬ (20000 : Int) < (s.size : Int) := by omega
  clear hres
  obtain ⟨i0, z0, hi, hz0, hz1, hz2, hz3⟩ := tok_info
  have Hi := Lib.hid hi
  have Hz0 := Lib.hid hz0
  have Hz1 := Lib.hid hz1
  have Hz2 := Lib.hid hz2
  have Hz3 := Lib.hid hz3
  clear hi hz0 hz1 hz2 hz3
  go_enter Tryd.func28, Tryd.ntmps28
  go_wp2_with fail
  refine (gap_any s (by omega) 0 (Nat.zero_le _) w).mono ?_
  rintro e w1 ⟨rfl, rfl⟩
  rw [Nat.zero_add]
  have hg0 := gp_le (rest s 0) false
  rw [rest_length] at hg0
  obtain ⟨g0, hg⟩ : ∃ g0, gp false (rest s 0) = g0 := ⟨_, rfl⟩
  rw [hg] at hg0
  rw [hg]
  have Hg := Lib.hid hg
  clear hg
  go_wp2_with fail
  go_loopw [5, 6] (fun v i wr => ∃ (q : Nat) (ts : List Tok), q ≤ s.size ∧ i = .int .i64 (q : Int) ∧ OwnTok wr w.heap.size v ts ∧ Below w.heap.size w wr ∧ gp false (rest s q) = 0 ∧ ts.length ≤ 5000 ∧ lexL 5000 (rest s 0) 0 = (lexL (5000 - ts.length) (rest s q) q).pre ts) (fun _ i _ => s.size - (intOf i).toNat)
  case atStart =>
    refine ⟨g0, [], by omega, rfl, OwnTok.nil _ _, Below.refl _ _, ?_, by simp, ?_⟩
    · have := gp_drop (rest s 0) false
      rw [rest_drop, Nat.zero_add, Hg.out] at this
      exact this
    · rw [Res.pre_nil, lexL_skip_gap, rest_drop, Nat.zero_add, Hg.out]
      rfl
  case round =>
    clear hg0 Hg
    obtain ⟨q, ts, hq, rfl, hown, hbel, hgp, hlen, hlex⟩ := hrel
    obtain ⟨a0, cap0, rfl⟩ := hown.form
    have Hown := Lib.hid hown
    have Hgp := Lib.hid hgp
    have Hlex := Lib.hid (hlex.symm.trans Hres.out)
    have Hlex0 := Lib.hid hlex
    clear hown hgp hlex
    by_cases hlt : q < s.size
    · have hltI : (q : Int) < (s.size : Int) := by omega
      go_wp2_with fail
      refine (next_any s (by omega) q hlt wr).mono ?_
      intro e w4 hread
      cases ho : tokB (rest s q) with
      | bad c =>
        rw [ho] at hread
        obtain ⟨rfl, hb45⟩ := hread
        have hb4 := hbel.trans (hb45.mono hbel.size)
        have hb5 : Below w.heap.size w ((w4.alloc (.cells zeroA 46)).setRow w4.heap.size zeroA) := below_setRow (hb4.alloc hb4.size _) hb4.size _
        have Hb5 := Lib.hid hb5
        have hr5 : r = .err c q := by
          rw [← Hlex.out, lexL_bad (by rw [Hgp.out, rest_length]; omega) (by rw [Hgp.out]; exact ho), Hgp.out]
          rfl
        have Hr5 := Lib.hid hr5
        have hcode := tok_code ho
        clear ho hb4 hb5 hr5 hb45
        rcases hcode with rfl | rfl | rfl | rfl
        all_goals
          go_wp2_with (first | (refine wpList_store_row rfl 46 (.tmp 7) (.tmp 25) rfl w4.heap.size zeroA rfl rfl 46 zeroA (TokAt.new w4) (by kernel_rfl) rfl zeroA_one ?_))
          go_ret3
          rw [Hr5.out]
          exact ⟨rfl, Hb5.out⟩
      | good k v n t =>
        rw [ho] at hread
        obtain ⟨rfl, hb04⟩ := hread
        have hb4 := hbel.trans (hb04.mono hbel.size)
        have hown4 := Hown.out.kept (only_below wr.heap.size hb04) (fun h => by
          have := (World.ownsRow.lt Hown.out _ h).2
          omega)
        have Hdis := Lib.hid (fun k h => (World.ownsRow.lt hown4 k h).2)
        have hb45 : Below w4.heap.size w4 ((w4.alloc (.cells zeroA 46)).setRow w4.heap.size (tokA k q v ⟨t.toArray⟩)) := below_setRow ((Below.refl _ _).alloc (Nat.le_refl _) _) (Nat.le_refl _) _
        have hb5 := hb4.trans (hb45.mono hb4.size)
        have hown5 := hown4.kept (only_below w4.heap.size hb45) (fun h => by
          have := (World.ownsRow.lt hown4 _ h).2
          omega)
        have hN5 : TokAt ((w4.alloc (.cells zeroA 46)).setRow w4.heap.size (tokA k q v ⟨t.toArray⟩)) w4.heap.size (tokA k q v ⟨t.toArray⟩) := (TokAt.new w4).row _
        have hw := tok_width ho
        rw [rest_length] at hw
        have hwr := (tok_written ho).2
        have Hwid := Lib.hid (next_code (q := q) ho)
        have htl : t.length ≤ 100000 := by
          have h3 := wid_eq ⟨k, q, v, t⟩
          rw [Hwid.out] at h3
          simp only at h3
          split at h3 <;> omega
        have Hb5 := Lib.hid hb5
        have Hown5 := Lib.hid hown5
        have HN5 := Lib.hid hN5
        have Ho := Lib.hid ho
        clear ho hb4 hb5 hown4 hown5 hb45 hN5 hb04 hwr
        by_cases hfull : ts.length = 5000
        · have hF : ((ts.length : Int) == 5000) = true := by rw [hfull]; rfl
          have hr6 : r = .err 2 q := by
            rw [← Hlex.out, hfull, lexL_full (by rw [Hgp.out]; exact Ho.out), Hgp.out]
            rfl
          have Hr6 := Lib.hid hr6
          clear hr6 hfull
          go_wp2_with (first | (refine wpList_store_row rfl 46 (.tmp 7) (.tmp 25) rfl w4.heap.size (tokA k q v ⟨t.toArray⟩) rfl rfl 46 zeroA (TokAt.new w4) (by kernel_rfl) rfl (tokA_one _ _ _ _) ?_))
          go_ret3
          rw [Hr6.out]
          exact ⟨rfl, Hb5.out⟩
        · have hF : ((ts.length : Int) == 5000) = false := by simp; omega
          have Hlex2 := Lib.hid (show lexL 5000 (rest s 0) 0 = (lexL (5000 - (ts.length + 1)) (rest s (q + n)) (q + n)).pre (ts ++ [⟨k, q, v, t⟩]) by
            rw [Hlex0.out, lexL_good (by rw [Hgp.out]; exact Ho.out) (by omega), Hgp.out, Res.pre_pre, Nat.zero_add, rest_drop, Nat.add_zero]
            rfl)
          have hlen1 : ts.length + 1 ≤ 5000 := by omega
          clear hfull
          obtain ⟨w5, hw5⟩ : ∃ w5, (w4.alloc (.cells zeroA 46)).setRow w4.heap.size (tokA k q v ⟨t.toArray⟩) = w5 := ⟨_, rfl⟩
          rw [hw5] at Hb5 Hown5 HN5
          have hw5' : (w4.alloc (.cells #[.int .i64 0, .int .i64 0, .int .i64 0, .string ⟨#[]⟩] 46)).setRow w4.heap.size (tokA k q v ⟨t.toArray⟩) = w5 := hw5
          clear hw5
          go_wp2_with (first | (refine wpList_store_row rfl 46 (.tmp 7) (.tmp 25) rfl w4.heap.size (tokA k q v ⟨t.toArray⟩) rfl rfl 46 zeroA (TokAt.new w4) (by kernel_rfl) rfl (tokA_one _ _ _ _) ?_) | (refine wpList_load_row rfl 46 (.tmp 7) rfl w4.heap.size rfl 46 #[.int .i64 (k : Int), .int .i64 (q : Int), .int .i64 (v : Int), .string ⟨t.toArray⟩] _ _ HN5.out Tryd.underlying46 rfl (by kernel_rfl) ?_) | (at_builtin; refine wpList_append_own _ rfl _ _ 40 rfl w.heap.size 46 i0 z0 4 40 Tryd.underlying40 Hi.out Hz0.out Hz1.out Hz2.out Hz3.out (by decide) _ ts.length (flat ts) rfl (World.ownsRow.alloc Hown5.out _) ⟨w5.heap.size, 0, none⟩ 1 1 [.int .i64 (k : Int), .int .i64 (q : Int), .int .i64 (v : Int), .string ⟨t.toArray⟩] rfl rfl ?c1 ?c2 ?c3 ?c4 ?c5 ?_))
          case c1 => exact cells_new w5 #[.int .i64 (k : Int), .int .i64 (q : Int), .int .i64 (v : Int), .string ⟨t.toArray⟩] _
          case c2 => simp [Value.oneCell']
          case c3 => unfold maxLen; omega
          case c4 => omega
          case c5 => have := Hb5.out.size; simp; omega
          intro v6 w6 hown6 hgrow6 _
          have hb5a := (Below.refl w5.heap.size w5).alloc (Nat.le_refl _) (.cells #[.int .i64 (k : Int), .int .i64 (q : Int), .int .i64 (v : Int), .string ⟨t.toArray⟩] 46)
          have hN6 : TokAt w6 w4.heap.size (tokA k q v ⟨t.toArray⟩) := by
            have h1 : TokAt (w5.alloc (.cells #[.int .i64 (k : Int), .int .i64 (q : Int), .int .i64 (v : Int), .string ⟨t.toArray⟩] 46)) w4.heap.size (tokA k q v ⟨t.toArray⟩) := HN5.out.below hb5a
            refine h1.kept hgrow6 (fun h => ?_)
            exact absurd (Hdis.out _ h.symm) (Nat.lt_irrefl _)
          have hb6 : Below w.heap.size w w6 := (Hb5.out.trans (hb5a.mono Hb5.out.size)).grown hgrow6 (by have := Hb5.out.size; simp; omega) (fun k hk => Hown5.out.lt k hk.symm.symm)
          have hown6' : OwnTok w6 w.heap.size v6 (ts ++ [⟨k, q, v, t⟩]) := by
            unfold OwnTok
            rw [flat_append, List.length_append]
            exact hown6
          have Hb6 := Lib.hid hb6
          have HN6 := Lib.hid hN6
          have Hown6 := Lib.hid hown6'
          clear hown6 hgrow6 hb5a hb6 hown6' hN6 Hb5 Hown5 HN5 hw5'
          go_wp2_with (first | (refine wpList_load_row rfl 46 (.tmp 7) rfl w4.heap.size rfl 46 #[.int .i64 (k : Int), .int .i64 (q : Int), .int .i64 (v : Int), .string ⟨t.toArray⟩] _ _ HN6.out Tryd.underlying46 rfl (by kernel_rfl) ?_))
          refine (width_any ⟨k, q, v, t⟩ htl w6).mono ?_
          rintro e w7 ⟨rfl, hb67⟩
          rw [Hwid.out]
          have hb7 := Hb6.out.trans (hb67.mono Hb6.out.size)
          have hown7 := Hown6.out.kept (only_below w6.heap.size hb67) (fun h => by
            have := (World.ownsRow.lt Hown6.out _ h).2
            omega)
          have Hb7 := Lib.hid hb7
          have Hown7 := Lib.hid hown7
          obtain ⟨q2, hq2⟩ : ∃ q2, q + n = q2 := ⟨_, rfl⟩
          have hqI : (q : Int) + (n : Int) = (q2 : Int) := by omega
          have hqle : q2 ≤ s.size := by omega
          have hqgt : q < q2 := by omega
          rw [hq2] at Hlex2
          clear hb7 hown7 hb67 hw htl
          go_wp2_with fail
          refine (gap_any s (by omega) q2 hqle w7).mono ?_
          rintro e w8 ⟨rfl, rfl⟩
          have hg7 := gp_le (rest s q2) false
          rw [rest_length] at hg7
          go_wp2_with fail
          go_roundw
          case rel =>
            refine ⟨q2 + gp false (rest s q2), ts ++ [⟨k, q, v, t⟩], by omega, rfl, Hown7.out, Hb7.out, ?_, by simp; omega, ?_⟩
            · have := gp_drop (rest s q2) false
              rw [rest_drop] at this
              exact this
            · rw [Hlex2.out, lexL_skip_gap, rest_drop, List.length_append]
              rfl
          case measure => simp [intOf]; omega
    · obtain rfl : q = s.size := by omega
      have hF : decide ((s.size : Int) < (s.size : Int)) = false := by simp
      have hr6 : r = .toks ts := by
        rw [← Hlex.out, lexL_gap (by rw [Hgp.out, rest_length]; omega)]
        simp [Res.pre]
      have Hr6 := Lib.hid hr6
      clear hr6
      go_wp2_with fail
      go_ret3
      rw [Hr6.out]
      exact ⟨_, rfl, Hown.out.sl, hbel⟩


theorem shift_self (ts : List Tok) : ShiftL ts 0 ts := ⟨rfl, fun i h1 h2 => ⟨⟨rfl, rfl, rfl⟩, by omega⟩⟩

set_option maxHeartbeats 1000000 in
theorem match_walk (s : ByteArray) (hs : s.size ≤ maxLen) (w : World) :
    Calls Tryd.prog 5 #[.string s] w fun e w' => e = .returned (.bool true) ∧ Below w.heap.size w w' := by
  unfold maxLen at hs
  go_enter Tryd.func5, Tryd.ntmps5
  go_wp2_with fail
  refine (head_any _).mono ?_
  rintro e w1 ⟨rfl, hb1⟩
  by_cases hl1 : 21000 < s.size
  · have hI : (21000 : Int) < (s.size : Int) := by omega
    go_wp2_with fail
    go_ret
    exact ⟨rfl, hb1⟩
  have hI : ¬ (21000 : Int) < (s.size : Int) := by omega
  have hsz : s.size ≤ 21000 := by omega
  have hnil : ∀ w9 : World, TokSl w9 (.slice none 0 0) [] := fun w9 => (OwnTok.nil w9 0).sl
  by_cases hl2 : 20000 < s.size
  · clear hl1
    go_wp2_with fail
    refine (lex_long s hl2 (by omega) w1).mono ?_
    rintro e w2 ⟨rfl, rfl⟩
    go_wp2_with fail
    refine (rlex_long s hl2 (by omega) w1).mono ?_
    rintro e w3 ⟨rfl, rfl⟩
    go_wp2_with fail
    refine (same_any [] [] 0 (by omega) (fun _ h => by cases h) (shift_self []) _ _ w1 (hnil _) (hnil _)).mono ?_
    rintro e w4 ⟨rfl, hb4⟩
    have hb04 := hb1.trans (hb4.mono hb1.size)
    go_wp2_with fail
    go_ret
    exact ⟨rfl, hb04⟩
  · have hsz2 : s.size ≤ 20000 := by omega
    clear hl1 hl2 hs
    cases hr : lexL 5000 (rest s 0) 0 with
    | err c q =>
      have Hr := Lib.hid hr
      clear hr
      go_wp2_with fail
      refine (lex_any s hsz2 w1 _ Hr.out).mono ?_
      rintro e w2 ⟨rfl, hb2⟩
      have hb02 := hb1.trans (hb2.mono hb1.size)
      go_wp2_with fail
      refine (rlex_any s hsz2 w2 _ Hr.out).mono ?_
      rintro e w3 ⟨rfl, hb3⟩
      have hb03 := hb02.trans (hb3.mono hb02.size)
      go_wp2_with fail
      refine (same_any [] [] 0 (by omega) (fun _ h => by cases h) (shift_self []) _ _ w3 (hnil _) (hnil _)).mono ?_
      rintro e w4 ⟨rfl, hb4⟩
      have hb04 := hb03.trans (hb4.mono hb03.size)
      go_wp2_with fail
      go_ret
      exact ⟨rfl, hb04⟩
    | toks ts =>
      have Hr := Lib.hid hr
      have Hpos := Lib.hid (fun t ht => Nat.le_trans (lexL_pos _ 5000 (rest s 0) 0 ts (Nat.le_refl _) hr t ht) (by rw [rest_length]; omega : 0 + (rest s 0).length ≤ 1000000))
      clear hr
      go_wp2_with fail
      refine (lex_any s hsz2 w1 _ Hr.out).mono ?_
      rintro e w2 ⟨v2, rfl, hv2, hb2⟩
      have hb02 := hb1.trans (hb2.mono hb1.size)
      have Hv2 := Lib.hid hv2
      clear hv2
      go_wp2_with fail
      refine (rlex_any s hsz2 w2 _ Hr.out).mono ?_
      rintro e w3 ⟨v3, rfl, hv3, hb3⟩
      have hb03 := hb02.trans (hb3.mono hb02.size)
      have Hv23 := Lib.hid (Hv2.out.below hb3)
      have Hv3 := Lib.hid hv3
      clear hv3
      go_wp2_with fail
      refine (same_any ts ts 0 (by omega) Hpos.out (shift_self ts) _ _ w3 Hv23.out Hv3.out).mono ?_
      rintro e w4 ⟨rfl, hb4⟩
      have hb04 := hb03.trans (hb4.mono hb03.size)
      go_wp2_with fail
      go_ret
      exact ⟨rfl, hb04⟩

end Go.Proofs.YtkgkejphifkpkaaDoor.Lx
