/- The walk over TreeBinds. -/
import Derived.Test.YtgclcomjojpkgaaDoorTreeL2
import Derived.Deep.Cut
import Derived.Deep.CutRange
import Derived.Deep.DeepCutAuto
namespace Go.Proofs.YtgclcomjojpkgaaDoor.Dig
set_option linter.unusedVariables false
set_option linter.unusedSimpArgs false
open Go.RowKit

theorem checkB_true {r d : ByteArray} {n i : Nat} {p : List ByteArray} (h : checkB r (n : Int) (i : Int) d p = true) : digB d = true ∧ p.all digB = true ∧ p.length = depth n i ∧ upB n i d p = r := by
  unfold checkB at h
  simp only [Int.toNat_natCast, Bool.and_eq_true, decide_eq_true_eq] at h
  exact ⟨h.2.1, h.2.2.1, h.2.2.2.1, h.2.2.2.2⟩

/-- an index of a list out of a byte -/
theorem index_of (n : Int) (len : Nat) (h : 0 < len) (hn : 0 ≤ n) : ∃ i : Nat, i < len ∧ n % (len : Int) = (i : Int) := by
  have h1 := Int.emod_nonneg n (show (len : Int) ≠ 0 by omega)
  have h2 := Int.emod_lt_of_pos n (show 0 < (len : Int) by omega)
  exact ⟨(n % (len : Int)).toNat, by omega, by omega⟩

set_option maxRecDepth 100000 in
set_option maxHeartbeats 4000000 in
theorem binds_walk (v : Value) (l : List ByteArray) (n : Int) (hn0 : 0 ≤ n) (hn1 : n ≤ 255) (s : ByteArray) (hs : s.size ≤ maxLen) (u : Value) (p : List ByteArray) (w : World) (hl : StrSl w v l) (hp : StrSl w u p) (ht : Tab w) :
    Calls Tryd.prog 5 #[v, .int .u8 n, .string s, u] w fun e w' => e = .returned (.bool true) ∧ Below w.heap.size w w' := by
  unfold maxLen at hs
  have Hp := Lib.hid hp
  obtain ⟨pa, pc, rfl, hmp⟩ := strSl_form hp
  unfold maxLen at hmp
  clear hp
  rcases hl with ⟨rfl, a, cap, rfl⟩ | ⟨b, off, cap, rfl, h0, hbb, hm, hc⟩
  · have Hl := Lib.hid (show StrSl w (.slice a 0 cap) [] from .inl ⟨rfl, a, cap, rfl⟩)
    go_enter Tryd.func5, Tryd.ntmps5
    go_wp2_with fail
    refine (head2_any _ ht).mono ?_
    rintro e w1 ⟨rfl, hb1⟩
    go_wp2_with fail
    refine (good_any _ [] _ (Hl.out.below hb1)).mono ?_
    rintro e w2 ⟨rfl, rfl⟩
    rw [show goodB [] = true from rfl]
    go_wp2_with fail
    refine (few2_any _ p _ (Hp.out.below hb1)).mono ?_
    rintro e w2 ⟨rfl, rfl⟩
    cases hf : few2 p with
    | false =>
      go_wp2_with fail
      go_ret
      exact ⟨rfl, hb1⟩
    | true =>
      by_cases hz : 100 < s.size
      · go_wp2_with fail
        go_ret
        exact ⟨rfl, hb1⟩
      · go_wp2_with fail
        go_ret
        exact ⟨rfl, hb1⟩
  · have Hl := Lib.hid (show StrSl w (.slice (some ⟨b, off, none⟩) l.length cap) l from .inr ⟨b, off, cap, rfl, h0, hbb, hm, hc⟩)
    have Hc := Lib.hid hc
    unfold maxLen at hm
    have hlz : ((l.length : Int) == 0) = false := by rw [beq_eq_false_iff_ne]; omega
    clear hc
    go_enter Tryd.func5, Tryd.ntmps5
    go_wp2_with fail
    refine (head2_any _ ht).mono ?_
    rintro e w1 ⟨rfl, hb1⟩
    have ht1 := ht.below hb1
    go_wp2_with fail
    refine (good_any _ l _ (Hl.out.below hb1)).mono ?_
    rintro e w2 ⟨rfl, rfl⟩
    cases hg : goodB l with
    | false =>
      go_wp2_with fail
      go_ret
      exact ⟨rfl, hb1⟩
    | true =>
      have l20 := goodB_len hg
      have Hd := Lib.hid (goodB_all hg)
      clear hg
      go_wp2_with fail
      refine (few2_any _ p _ (Hp.out.below hb1)).mono ?_
      rintro e w2 ⟨rfl, rfl⟩
      cases hf : few2 p with
      | false =>
        go_wp2_with fail
        go_ret
        exact ⟨rfl, hb1⟩
      | true =>
        have p20 := few2_len hf
        clear hf
        by_cases hz : 100 < s.size
        · go_wp2_with fail
          go_ret
          exact ⟨rfl, hb1⟩
        · obtain ⟨i, hil, hi⟩ := index_of n l.length h0 hn0
          have Hi := Lib.hid hi
          clear hi
          go_upto_region 5 with fail
          rw [Hi.out]
          have hc1 : w1.cell? ⟨b, off + i, none⟩ = some (.string l[i]) := (hb1.cell (p := ⟨b, off + i, none⟩) hbb).trans (Hc.out i hil)
          have Hx := Lib.hid (fun (h1 : p.length = depth l.length i) (h2 : upB l.length i s p = rootB l) (h3 : True) => binds_coll l.length l p i s (Nat.le_refl _) hil h1 h2)
          generalize hlx : l[i] = x at *
          clear hlx
          have i0 : (0 : Int) ≤ (i : Int) := by omega
          have i1 : (i : Int) < (l.length : Int) := by omega
          by_cases hsx : s = x
          · have hq := str_eq hsx
            clear hsx
            go_wp2_with fail
            go_ret
            exact ⟨rfl, hb1⟩
          · have hq := str_ne hsx
            have Hsx := Lib.hid hsx
            clear hsx
            go_wp2_with fail
            refine (rooted_yes _ l Hd.out _ ht1 (Hl.out.below hb1)).mono ?_
            rintro e w2 ⟨rfl, hb2'⟩
            have hb2 := hb1.trans (hb2'.mono hb1.size)
            go_wp2_with fail
            refine (Check_any (rootB l) l.length i s _ p _ (ht.below hb2) (Hp.out.below hb2)).mono ?_
            rintro e w3 ⟨rfl, hb3'⟩
            have hb3 := hb2.trans (hb3'.mono hb2.size)
            cases hck : checkB (rootB l) (l.length : Int) (i : Int) s p with
            | false =>
              go_wp2_with fail
              go_ret
              exact ⟨rfl, hb3⟩
            | true =>
              obtain ⟨hds, hdp, hlp, hup⟩ := checkB_true hck
              have hcoll : Coll (textsB l ++ ptB l.length i s p) := by
                rcases Hx.out hlp hup trivial with h | h
                · exact h
                · exact absurd h Hsx.out
              have Hcoll := Lib.hid hcoll
              have Hds := Lib.hid hds
              have Hdp := Lib.hid hdp
              have Hlp := Lib.hid hlp
              have Hpl := Lib.hid (pathB_length l.length l i (Nat.le_refl _))
              have hneq : (((pathB l i).length : Int) != (p.length : Int)) = false := by rw [Hpl.out, Hlp.out]; simp
              have q1 := textsB_le l
              have q2 := ptB_len l.length l.length i s p (Nat.le_refl _)
              have q3 := depth_le l.length l.length i (Nat.le_refl _)
              have q4 : (ptB l.length i s p).length ≤ l.length := by omega
              have hqn : (textsB l ++ ptB l.length i s p).length ≤ 1000 := by rw [List.length_append]; omega
              have hss : s.size ≤ 1000 := by omega
              have Hsh := Lib.hid ((textsB_short l.length l (Nat.le_refl _) (small_dig Hd.out)).append (ptB_short l.length l.length i s p (Nat.le_refl _) hss (small_dig Hdp.out)))
              clear hck hds hdp hlp hup hcoll q2 q3
              go_wp2_with fail
              refine (Path_yes _ l i (by unfold pathOk; rw [Hd.out]; simp; omega) (by omega) _ (ht.below hb3) (Hl.out.below hb3)).mono ?_
              rintro e w4 ⟨y, rfl, own, hb4'⟩
              rw [Int.toNat_natCast] at own
              have hb4 := hb3.trans (hb4'.mono hb3.size)
              obtain ⟨ya, yc, rfl, hym⟩ := strSl_form own.sl
              clear own
              go_wp2_with fail
              refine (texts_any l.length _ l _ (Nat.le_refl _) (by omega) (small_dig Hd.out) (Hl.out.below hb4)).mono ?_
              rintro e w5 ⟨u1, rfl, own1, hb5'⟩
              have hb5 := hb4.trans (hb5'.mono hb4.size)
              go_wp2_with fail
              refine (pt_any s hss l.length l.length i _ p _ (Nat.le_refl _) h0 (by omega) hil (small_dig Hdp.out) Hlp.out (Hp.out.below hb5)).mono ?_
              rintro e w6 ⟨u2, rfl, own2, hb6'⟩
              have hb6 := hb5.trans (hb6'.mono hb5.size)
              have own1b := (own1.below hb6').mono hb4.size
              go_wp2_with (at_builtin; refine list_append_str' _ (by rfl) _ _ rfl w.heap.size u1 u2 (textsB l) (ptB l.length i s p) rfl rfl own1b own2.sl (by omega) hb6.size ?_; intro v7 w7 own7 grow7 at7)
              have hb7 := below_grow' own1b hb6 grow7
              go_wp2_with fail
              refine (shown_any _ _ Hcoll.out Hsh.out hqn _ own7.sl).mono ?_
              rintro e w8 ⟨rfl, hb8'⟩
              go_wp2_with fail
              go_ret
              exact ⟨rfl, hb7.trans (hb8'.mono hb7.size)⟩

end Go.Proofs.YtgclcomjojpkgaaDoor.Dig
