/- The walk over TreeRoots. -/
import Derived.Test.YtgclcomjojpkgaaDoorTreeH
namespace Go.Proofs.YtgclcomjojpkgaaDoor.Dig
set_option linter.unusedVariables false
set_option linter.unusedSimpArgs false
open Go.RowKit

/-- append at an operation that is guarded -/
theorem list_append_str' (w : World) {ops : Array Oper} {rest : List Oper} {o : Oper} {a : Act} {Q : Exit → Act → World → Prop} (hw : Region.wanted o (yielded ops a.tmps) = true) (s x : Operand)
    (ho : o.op = .call { callee := .builtin .append, args := #[s, x], argTypes := #[22, 22] })
    (B : Nat) (v u : Value) (p q : List ByteArray) (hs : a.eval s = v) (hx : a.eval x = u) (own : OwnStr w B v p) (hq : StrSl w u q) (hlen : p.length + q.length ≤ 1000000) (hB : B ≤ w.heap.size)
    (h : ∀ v' w', OwnStr w' B v' (p ++ q) → w.grownBy w' v.ownBlock → (v'.ownBlock = v.ownBlock ∨ v'.ownBlock = some w.heap.size) → wpList Tryd.prog ops Q rest (a.put o.dst v') w') : wpList Tryd.prog ops Q (o :: rest) a w :=
  wpList_step fun K hK => by
    rw [if_pos hw]
    exact wp_append_str w s x ho B v u p q hs hx own hq hlen hB fun v' w' h2 h3 h4 => hK _ _ (h v' w' h2 h3 h4)

theorem goodB_of {l : List ByteArray} (h : l.all digB = true) (h2 : few2 l = true) : goodB l = true := by unfold goodB; rw [h, h2]; rfl
theorem goodB_no {l : List ByteArray} (h : l.all digB = false) : goodB l = false := by unfold goodB; rw [h]; rfl

set_option maxRecDepth 100000 in
set_option maxHeartbeats 2000000 in
theorem roots_walk (v u : Value) (a b : List ByteArray) (w : World) (hl : StrSl w v a) (hm : StrSl w u b) (ht : Tab w) :
    Calls Tryd.prog 6 #[v, u] w fun e w' => e = .returned (.bool true) ∧ Below w.heap.size w w' := by
  obtain ⟨ad, cap, rfl, hma⟩ := strSl_form hl
  obtain ⟨bd, cap2, rfl, hmb⟩ := strSl_form hm
  unfold maxLen at hma hmb
  go_enter Tryd.func6, Tryd.ntmps6
  go_wp2_with fail
  refine (head2_any _ ht).mono ?_
  rintro e w1 ⟨rfl, hb1⟩
  have ht1 := ht.below hb1
  have hl1 := hl.below hb1
  have hm1 := hm.below hb1
  go_wp2_with fail
  refine (few2_any _ a _ hl1).mono ?_
  rintro e w2 ⟨rfl, rfl⟩
  cases hf : few2 a with
  | false =>
    go_wp2_with fail
    go_ret
    exact ⟨rfl, hb1⟩
  | true =>
    go_wp2_with fail
    refine (few2_any _ b _ hm1).mono ?_
    rintro e w2 ⟨rfl, rfl⟩
    cases hg : few2 b with
    | false =>
      go_wp2_with fail
      go_ret
      exact ⟨rfl, hb1⟩
    | true =>
      have Hf := Lib.hid hf
      have Hg := Lib.hid hg
      have l20 := few2_len hf
      clear hf hg
      by_cases hab : a.length = b.length
      · have Hab := Lib.hid hab
        have hne : ((a.length : Int) != (b.length : Int)) = false := by rw [hab]; simp
        clear hab
        have l20b := few2_len Hg.out
        cases hda : a.all digB with
        | false =>
          have Hda := Lib.hid hda
          have Hga := Lib.hid (goodB_no hda)
          clear hda
          go_wp2_with fail
          refine (Root_no _ a Hda.out _ hl1).mono ?_
          rintro e w2 ⟨rfl, rfl⟩
          cases hdb : b.all digB with
          | false =>
            have Hdb := Lib.hid hdb
            have Hgb := Lib.hid (goodB_no hdb)
            clear hdb
            go_wp2_with fail
            refine (Root_no _ b Hdb.out _ hm1).mono ?_
            rintro e w2 ⟨rfl, rfl⟩
            go_wp2_with fail
            refine (good_any _ a _ hl1).mono ?_
            rintro e w2 ⟨rfl, rfl⟩
            rw [Hga.out]
            go_wp2_with fail
            refine (good_any _ b _ hm1).mono ?_
            rintro e w2 ⟨rfl, rfl⟩
            rw [Hgb.out]
            go_wp2_with fail
            go_ret
            exact ⟨rfl, hb1⟩
          | true =>
            have Hdb := Lib.hid hdb
            have Hgb := Lib.hid (goodB_of hdb Hg.out)
            clear hdb
            go_wp2_with fail
            refine (Root_yes _ b Hdb.out _ ht1 hm1).mono ?_
            rintro e w2 ⟨rfl, hb2'⟩
            have hb2 := hb1.trans (hb2'.mono hb1.size)
            go_wp2_with fail
            refine (good_any _ a _ (hl1.below hb2')).mono ?_
            rintro e w9 ⟨rfl, rfl⟩
            rw [Hga.out]
            go_wp2_with fail
            refine (good_any _ b _ (hm1.below hb2')).mono ?_
            rintro e w9 ⟨rfl, rfl⟩
            rw [Hgb.out]
            go_wp2_with fail
            go_ret
            exact ⟨rfl, hb2⟩
        | true =>
          have Hda := Lib.hid hda
          have Hga := Lib.hid (goodB_of hda Hf.out)
          clear hda
          go_wp2_with fail
          refine (Root_yes _ a Hda.out _ ht1 hl1).mono ?_
          rintro e w2 ⟨rfl, hb2'⟩
          have hb2 := hb1.trans (hb2'.mono hb1.size)
          have ht2 := ht1.below hb2'
          have hl2 := hl1.below hb2'
          have hm2 := hm1.below hb2'
          cases hdb : b.all digB with
          | false =>
            have Hdb := Lib.hid hdb
            have Hgb := Lib.hid (goodB_no hdb)
            clear hdb
            go_wp2_with fail
            refine (Root_no _ b Hdb.out _ hm2).mono ?_
            rintro e w3 ⟨rfl, rfl⟩
            go_wp2_with fail
            refine (good_any _ a _ hl2).mono ?_
            rintro e w9 ⟨rfl, rfl⟩
            rw [Hga.out]
            go_wp2_with fail
            refine (good_any _ b _ hm2).mono ?_
            rintro e w9 ⟨rfl, rfl⟩
            rw [Hgb.out]
            go_wp2_with fail
            go_ret
            exact ⟨rfl, hb2⟩
          | true =>
            have Hdb := Lib.hid hdb
            have Hgb := Lib.hid (goodB_of hdb Hg.out)
            clear hdb
            go_wp2_with fail
            refine (Root_yes _ b Hdb.out _ ht2 hm2).mono ?_
            rintro e w3 ⟨rfl, hb3'⟩
            have hb3 := hb2.trans (hb3'.mono hb2.size)
            have hl3 := hl2.below hb3'
            have hm3 := hm2.below hb3'
            go_wp2_with fail
            refine (good_any _ a _ hl3).mono ?_
            rintro e w9 ⟨rfl, rfl⟩
            rw [Hga.out]
            go_wp2_with fail
            refine (good_any _ b _ hm3).mono ?_
            rintro e w9 ⟨rfl, rfl⟩
            rw [Hgb.out]
            go_wp2_with fail
            refine (rsame_any _ _ a b _ hl3 hm3).mono ?_
            rintro e w4 ⟨rfl, hb4'⟩
            have hb4 := hb3.trans (hb4'.mono hb3.size)
            have hl4 := hl3.below hb4'
            have hm4 := hm3.below hb4'
            cases hs : sameB a b with
            | true =>
              have hq := str_eq (congrArg rootB ((sameB_iff a b).1 hs))
              go_wp2_with fail
              go_ret
              exact ⟨rfl, hb4⟩
            | false =>
              by_cases hr : rootB a = rootB b
              · have hq := str_eq hr
                have hcoll : Coll (textsB a ++ textsB b) := by
                  rcases roots_coll a.length a b (Nat.le_refl _) Hab.out hr with hc | he
                  · exact hc
                  · rw [(sameB_iff a b).2 he] at hs
                    cases hs
                have Hcoll := Lib.hid hcoll
                have q1 := textsB_le a
                have q2 := textsB_le b
                have hqn : (textsB a ++ textsB b).length ≤ 1000 := by rw [List.length_append]; omega
                have Hsh := Lib.hid ((textsB_short a.length a (Nat.le_refl _) (small_dig Hda.out)).append (textsB_short b.length b (Nat.le_refl _) (small_dig Hdb.out)))
                clear hr hcoll hs
                go_wp2_with fail
                refine (texts_any a.length _ a _ (Nat.le_refl _) (by omega) (small_dig Hda.out) hl4).mono ?_
                rintro e w5 ⟨u1, rfl, own1, hb5'⟩
                have hb5 := hb4.trans (hb5'.mono hb4.size)
                have hm5 := hm4.below hb5'
                go_wp2_with fail
                refine (texts_any b.length _ b _ (Nat.le_refl _) (by omega) (small_dig Hdb.out) hm5).mono ?_
                rintro e w6 ⟨u2, rfl, own2, hb6'⟩
                have hb6 := hb5.trans (hb6'.mono hb5.size)
                have own1b := (own1.below hb6').mono hb4.size
                go_wp2_with (at_builtin; refine list_append_str' _ (by rfl) _ _ rfl w.heap.size u1 u2 (textsB a) (textsB b) rfl rfl own1b own2.sl (by omega) hb6.size ?_; intro v7 w7 own7 grow7 at7)
                have hb7 := below_grow' own1b hb6 grow7
                go_wp2_with fail
                refine (shown_any _ _ Hcoll.out Hsh.out hqn _ own7.sl).mono ?_
                rintro e w8 ⟨rfl, hb8'⟩
                go_wp2_with fail
                go_ret
                exact ⟨rfl, hb7.trans (hb8'.mono hb7.size)⟩
              · have hq := str_ne hr
                clear hr
                go_wp2_with fail
                go_ret
                exact ⟨rfl, hb4⟩
      · have hne : ((a.length : Int) != (b.length : Int)) = true := by rw [bne_iff_ne]; omega
        go_wp2_with fail
        go_ret
        exact ⟨rfl, hb1⟩

end Go.Proofs.YtgclcomjojpkgaaDoor.Dig
