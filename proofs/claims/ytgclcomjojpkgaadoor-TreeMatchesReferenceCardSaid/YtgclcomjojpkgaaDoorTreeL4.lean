/- The walk over TreeContinues. -/
import Derived.Test.YtgclcomjojpkgaaDoorTreeL3
import Derived.Deep.RegionHeld3
namespace Go.Proofs.YtgclcomjojpkgaaDoor.Dig
set_option linter.unusedVariables false
set_option linter.unusedSimpArgs false
open Go.RowKit
attribute [local go_sem ↓] Go.wp_at_zero Go.wp_at_succ

theorem extB_true {old root : ByteArray} {m n : Nat} {p : List ByteArray} (hm : 1 ≤ m) (h : extB old (m : Int) root (n : Int) p = true) :
    p.all digB = true ∧ p.length = span n m true ∧ (boB n m true old p).1 = old ∧ (boB n m true old p).2 = root := by
  unfold extB extN at h
  rw [Int.toNat_natCast, Int.toNat_natCast, if_neg (by omega)] at h
  unfold extP at h
  simp only [Bool.and_eq_true, decide_eq_true_eq] at h
  exact ⟨h.2.2.2.1, h.2.2.2.2.1, h.2.2.2.2.2.1, h.2.2.2.2.2.2⟩

set_option maxRecDepth 100000 in
set_option maxHeartbeats 4000000 in
theorem continues_walk (v u z : Value) (a l p : List ByteArray) (w : World) (ha : StrSl w v a) (hl : StrSl w u l) (hp : StrSl w z p) (ht : Tab w) :
    Calls Tryd.prog 8 #[v, u, z] w fun e w' => e = .returned (.bool true) ∧ Below w.heap.size w w' := by
  have Ha := Lib.hid ha
  have Hl := Lib.hid hl
  have Hp := Lib.hid hp
  obtain ⟨aa, ac, rfl, hma⟩ := strSl_form ha
  obtain ⟨pa, pc, rfl, hmp⟩ := strSl_form hp
  obtain ⟨la, lc, rfl, hlc, hml, hcut⟩ := strSl_cut hl
  have Hcut := Lib.hid hcut
  unfold maxLen at hma hmp hml
  clear ha hl hp hcut
  go_enter Tryd.func8, Tryd.ntmps8
  go_wp2_with fail
  refine (head2_any _ ht).mono ?_
  rintro e w1 ⟨rfl, hb1⟩
  go_wp2_with fail
  refine (good_any _ a _ (Ha.out.below hb1)).mono ?_
  rintro e w2 ⟨rfl, rfl⟩
  cases hga : goodB a with
  | false =>
    go_wp2_with fail
    go_ret
    exact ⟨rfl, hb1⟩
  | true =>
    have a20 := goodB_len hga
    have Hda := Lib.hid (goodB_all hga)
    clear hga
    go_wp2_with fail
    refine (good_any _ l _ (Hl.out.below hb1)).mono ?_
    rintro e w2 ⟨rfl, rfl⟩
    cases hgl : goodB l with
    | false =>
      go_wp2_with fail
      go_ret
      exact ⟨rfl, hb1⟩
    | true =>
      have l20 := goodB_len hgl
      have Hdl := Lib.hid (goodB_all hgl)
      clear hgl
      go_wp2_with fail
      refine (few2_any _ p _ (Hp.out.below hb1)).mono ?_
      rintro e w2 ⟨rfl, rfl⟩
      cases hf : few2 p with
      | false =>
        go_wp2_with fail
        go_ret
        exact ⟨rfl, hb1⟩
      | true =>
        have p20 := few2_len hf
        clear hf
        by_cases hal : l.length < a.length
        · go_wp2_with fail
          go_ret
          exact ⟨rfl, hb1⟩
        · have hal2 : a.length ≤ l.length := by omega
          clear hal
          have k0 : (0 : Int) ≤ (a.length : Int) := by omega
          have k1 : (a.length : Int) ≤ (lc : Int) := by omega
          go_wp2_with fail
          refine (rooted_yes _ a Hda.out _ (ht.below hb1) (Ha.out.below hb1)).mono ?_
          rintro e w2 ⟨rfl, hb2'⟩
          have hb2 := hb1.trans (hb2'.mono hb1.size)
          go_wp2_with fail
          refine (rooted_yes _ l Hdl.out _ (ht.below hb2) (Hl.out.below hb2)).mono ?_
          rintro e w3 ⟨rfl, hb3'⟩
          have hb3 := hb2.trans (hb3'.mono hb2.size)
          go_wp2_with fail
          refine (Extends_any (rootB a) a.length (rootB l) l.length _ p _ (ht.below hb3) (Hp.out.below hb3)).mono ?_
          rintro e w4 ⟨rfl, hb4'⟩
          have hb4 := hb3.trans (hb4'.mono hb3.size)
          cases hx : extB (rootB a) (a.length : Int) (rootB l) (l.length : Int) p with
          | false =>
            go_wp2_with fail
            go_ret
            exact ⟨rfl, hb4⟩
          | true =>
            have Hx := Lib.hid hx
            clear hx
            go_wp2_with fail
            refine (rsame_any _ _ a (l.take a.length) _ (Ha.out.below hb4) ((Hcut.out a.length hal2).below hb4)).mono ?_
            rintro e w5 ⟨rfl, hb5'⟩
            have hb5 := hb4.trans (hb5'.mono hb4.size)
            cases hs : sameB a (l.take a.length) with
            | true =>
              go_wp2_with fail
              go_ret
              exact ⟨rfl, hb5⟩
            | false =>
              have hne : ¬ a = l.take a.length := by
                intro h
                rw [(sameB_iff _ _).2 h] at hs
                cases hs
              have ha1 : 1 ≤ a.length := by
                rcases Nat.eq_zero_or_pos a.length with h | h
                · exact absurd (by rw [h, List.eq_nil_of_length_eq_zero h]; rfl) hne
                · exact h
              obtain ⟨hdp, hlp, hbo1, hbo2⟩ := extB_true ha1 Hx.out
              have hcoll : Coll (textsB a ++ textsB l ++ textsB (l.take a.length) ++ ltB l.length a.length true (rootB a) p) := by
                rcases continues_coll a l p ha1 hal2 hlp hbo1 hbo2 with h | h
                · exact h
                · exact absurd h hne
              have Hcoll := Lib.hid hcoll
              have Hdp := Lib.hid hdp
              have Hlp := Lib.hid hlp
              have Hpl := Lib.hid (linkZ_len l a.length)
              have hneq : (((linkZ l a.length).length : Int) != (p.length : Int)) = false := by rw [Hpl.out, if_neg (by omega), Hlp.out]; simp
              have haz : ((a.length : Int) == 0) = false := by rw [beq_eq_false_iff_ne]; omega
              have q1 := textsB_le a
              have q2 := textsB_le l
              have q3 := textsB_le (l.take a.length)
              have e3 : (l.take a.length).length = a.length := by rw [List.length_take]; omega
              rw [e3] at q3
              have q4 := ltB_len l.length l.length a.length true (rootB a) p (Nat.le_refl _)
              have q5 : (textsB a ++ textsB l).length ≤ 100 := by rw [List.length_append]; omega
              have q6 : (textsB a ++ textsB l ++ textsB (l.take a.length)).length ≤ 200 := by rw [List.length_append]; omega
              have hqn : (textsB a ++ textsB l ++ textsB (l.take a.length) ++ ltB l.length a.length true (rootB a) p).length ≤ 1000 := by rw [List.length_append]; omega
              have hra := rootB_small _ (small_dig Hda.out)
              have Hsh := Lib.hid ((((textsB_short a.length a (Nat.le_refl _) (small_dig Hda.out)).append (textsB_short l.length l (Nat.le_refl _) (small_dig Hdl.out))).append (textsB_short (l.take a.length).length _ (Nat.le_refl _) ((small_dig Hdl.out).take _))).append (ltB_short l.length l.length a.length true (rootB a) p (Nat.le_refl _) hra (small_dig Hdp.out)))
              have Tx1 := Lib.hid (fun w9 (s9 : StrSl w9 (.slice aa a.length ac) a) => texts_any a.length _ a w9 (Nat.le_refl _) (by omega) (small_dig Hda.out) s9)
              have Tx2 := Lib.hid (fun w9 (s9 : StrSl w9 (.slice la l.length lc) l) => texts_any l.length _ l w9 (Nat.le_refl _) (by omega) (small_dig Hdl.out) s9)
              have Tx3 := Lib.hid (fun w9 (s9 : StrSl w9 (.slice la a.length lc) (l.take a.length)) => texts_any l.length _ (l.take a.length) w9 (by omega) (by omega) ((small_dig Hdl.out).take _) s9)
              clear hs hne hdp hlp hbo1 hbo2 hcoll e3
              go_wp2_with fail
              refine (Link_yes _ l a.length (by unfold linkOk; rw [Hdl.out]; simp; omega) (by omega) _ (ht.below hb5) (Hl.out.below hb5)).mono ?_
              rintro e w6 ⟨y, rfl, own, hb6'⟩
              rw [Int.toNat_natCast] at own
              have hb6 := hb5.trans (hb6'.mono hb5.size)
              obtain ⟨ya, yc, rfl, hym⟩ := strSl_form own.sl
              clear own
              go_wp2_with fail
              go_region_held3 (fun w' => True) (exact trivial)
                (first
                  | (go_at_call_of 27 (Value.slice aa a.length ac); refine (Tx1.out _ (Ha.out.below hb6.drew)).mono ?_; rintro e w7 ⟨u1, rfl, own1, hb7'⟩; have hb7 := hb6.drew.trans (hb7'.mono hb6.size); have own1a := own1.mono hb6.size)
                  | (go_at_call_of 27 (Value.slice la l.length lc); refine (Tx2.out _ (Hl.out.below hb7)).mono ?_; rintro e w8 ⟨u2, rfl, own2, hb8'⟩; have hb8 := hb7.trans (hb8'.mono hb7.size); have own1b := own1a.below hb8')
                  | ((refine step_append_str _ (by rfl) _ _ (by rfl) w.heap.size u1 u2 (textsB a) (textsB l) (by rfl) (by rfl) own1b own2.sl (by omega) hb8.size ?_; intro v9 w9 own9 grow9 at9; have hb9 := below_grow' own1b hb8 grow9))
                  | (go_at_call_of 27 (Value.slice la a.length lc); refine (Tx3.out _ ((Hcut.out a.length hal2).below hb9)).mono ?_; rintro e w10 ⟨u3, rfl, own3, hb10'⟩; have hb10 := hb9.trans (hb10'.mono hb9.size); have own9b := own9.below hb10')
                  | ((refine step_append_str _ (by rfl) _ _ (by rfl) w.heap.size v9 u3 (textsB a ++ textsB l) (textsB (l.take a.length)) (by rfl) (by rfl) own9b own3.sl (by omega) hb10.size ?_; intro v11 w11 own11 grow11 at11; have hb11 := below_grow' own9b hb10 grow11)))
              go_wp2_with fail
              refine (rooted_yes _ a Hda.out _ (ht.below hb11) (Ha.out.below hb11)).mono ?_
              rintro e w12 ⟨rfl, hb12'⟩
              have hb12 := hb11.trans (hb12'.mono hb11.size)
              have own12 := own11.below hb12'
              go_wp2_with fail
              refine (lt_any (rootB a) hra l.length l.length a.length true _ p _ (Nat.le_refl _) ha1 hal2 (by omega) (small_dig Hdp.out) Hlp.out (Hp.out.below hb12)).mono ?_
              rintro e w13 ⟨u4, rfl, own4, hb13'⟩
              have hb13 := hb12.trans (hb13'.mono hb12.size)
              have own13 := own12.below hb13'
              go_wp2_with (at_builtin; refine list_append_str' _ (by rfl) _ _ rfl w.heap.size v11 u4 (textsB a ++ textsB l ++ textsB (l.take a.length)) (ltB l.length a.length true (rootB a) p) rfl rfl own13 own4.sl (by omega) hb13.size ?_; intro v14 w14 own14 grow14 at14)
              have hb14 := below_grow' own13 hb13 grow14
              go_wp2_with fail
              refine (shown_any _ _ Hcoll.out Hsh.out hqn _ own14.sl).mono ?_
              rintro e w15 ⟨rfl, hb15'⟩
              go_wp2_with fail
              go_ret
              exact ⟨rfl, hb14.trans (hb15'.mono hb14.size)⟩

end Go.Proofs.YtgclcomjojpkgaaDoor.Dig
