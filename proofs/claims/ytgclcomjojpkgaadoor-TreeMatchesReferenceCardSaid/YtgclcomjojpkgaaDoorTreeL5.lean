/- The walk over TreeMatchesReference. -/
import Derived.Test.YtgclcomjojpkgaaDoorTreeL4
namespace Go.Proofs.YtgclcomjojpkgaaDoor.Dig
set_option linter.unusedVariables false
set_option linter.unusedSimpArgs false
open Go.RowKit

/-- what Root answers: a root, or nothing and an error -/
def rootX (l : List ByteArray) : ByteArray := if l.all digB then rootB l else ⟨#[]⟩
def rootE (l : List ByteArray) : Int := if l.all digB then 0 else 1
def pathX (l : List ByteArray) (i : Int) : List ByteArray := if pathOk l i then pathB l i.toNat else []
def pathE (l : List ByteArray) (i : Int) : Int := if pathOk l i then 0 else 1
def linkX (l : List ByteArray) (m : Int) : List ByteArray := if linkOk l m then linkZ l m.toNat else []
def linkE (l : List ByteArray) (m : Int) : Int := if linkOk l m then 0 else 1
theorem rootX_small (l : List ByteArray) : (rootX l).size ≤ 1000 := by
  unfold rootX
  split
  · exact rootB_small _ (small_dig (by assumption))
  · decide

theorem Root_x (v : Value) (l : List ByteArray) (w : World) (ht : Tab w) (hl : StrSl w v l) :
    Calls Tryd.prog 11 #[v] w fun e w' => e = .returned (.tuple #[.string (rootX l), .int .i64 (rootE l)]) ∧ Below w.heap.size w w' := by
  unfold rootX rootE
  cases hd : l.all digB with
  | true => exact Root_yes v l hd w ht hl
  | false => exact (Root_no v l hd w hl).mono fun e w' ⟨he, h⟩ => ⟨he, h ▸ Below.refl _ _⟩
theorem rRoot_x (v : Value) (l : List ByteArray) (hsm : small l) (hmax : l.length ≤ 1000000) (w : World) (hl : StrSl w v l) :
    Calls Tryd.prog 12 #[v] w fun e w' => e = .returned (.tuple #[.string (rootX l), .int .i64 (rootE l)]) ∧ Below w.heap.size w w' := by
  unfold rootX rootE
  cases hd : l.all digB with
  | true => exact rRoot_yes v l hsm hmax hd w hl
  | false => exact (rRoot_no v l hsm hd w hl).mono fun e w' ⟨he, h⟩ => ⟨he, h ▸ Below.refl _ _⟩

/-- a list of the call's own, and an error's number -/
def RetOwnE (W : World) (l : List ByteArray) (k : Int) (e : Ending) (w' : World) : Prop := ∃ u, e = .returned (.tuple #[u, .int .i64 k]) ∧ OwnStr w' W.heap.size u l ∧ Below W.heap.size W w'
theorem Path_x (v : Value) (l : List ByteArray) (i : Int) (hmax : l.length ≤ 1000000) (w : World) (ht : Tab w) (hl : StrSl w v l) :
    Calls Tryd.prog 13 #[v, .int .i64 i] w (RetOwnE w (pathX l i) (pathE l i)) := by
  unfold pathX pathE
  cases hd : pathOk l i with
  | true => exact Path_yes v l i hd hmax w ht hl
  | false => exact (Path_no v l i hd w hl).mono fun e w' ⟨he, h⟩ => ⟨_, he, OwnStr.nil _ _, h ▸ Below.refl _ _⟩
theorem rPath_x (v : Value) (l : List ByteArray) (i : Int) (hsm : small l) (hmax : l.length ≤ 1000000) (w : World) (hl : StrSl w v l) :
    Calls Tryd.prog 14 #[v, .int .i64 i] w (RetOwnE w (pathX l i) (pathE l i)) := by
  unfold pathX pathE
  cases hd : pathOk l i with
  | true => exact rPath_yes v l hsm i hd hmax w hl
  | false => exact (rPath_no v l hsm i hd w hl).mono fun e w' ⟨he, h⟩ => ⟨_, he, OwnStr.nil _ _, h ▸ Below.refl _ _⟩
theorem Link_x (v : Value) (l : List ByteArray) (m : Int) (hmax : l.length ≤ 1000000) (w : World) (ht : Tab w) (hl : StrSl w v l) :
    Calls Tryd.prog 15 #[v, .int .i64 m] w (RetOwnE w (linkX l m) (linkE l m)) := by
  unfold linkX linkE
  cases hd : linkOk l m with
  | true => exact Link_yes v l m hd hmax w ht hl
  | false => exact (Link_no v l m hd w hl).mono fun e w' ⟨he, h⟩ => ⟨_, he, OwnStr.nil _ _, h ▸ Below.refl _ _⟩
theorem rLink_x (v : Value) (l : List ByteArray) (m : Int) (hsm : small l) (hmax : l.length ≤ 1000000) (w : World) (hl : StrSl w v l) :
    Calls Tryd.prog 16 #[v, .int .i64 m] w (RetOwnE w (linkX l m) (linkE l m)) := by
  unfold linkX linkE
  cases hd : linkOk l m with
  | true => exact rLink_yes v l hsm m hd hmax w hl
  | false => exact (rLink_no v l hsm m hd w hl).mono fun e w' ⟨he, h⟩ => ⟨_, he, OwnStr.nil _ _, h ▸ Below.refl _ _⟩

set_option maxRecDepth 100000 in
set_option maxHeartbeats 8000000 in
theorem match2_walk (v : Value) (l : List ByteArray) (i m n : Int) (root old s : ByteArray) (hr63 : root.size ≤ maxLen) (ho63 : old.size ≤ maxLen) (hs63 : s.size ≤ maxLen) (u : Value) (q : List ByteArray) (w : World) (hl : StrSl w v l) (hq : StrSl w u q) (ht : Tab w) :
    Calls Tryd.prog 3 #[v, .int .i64 i, .int .i64 m, .int .i64 n, .string root, .string old, .string s, u] w fun e w' => e = .returned (.bool true) ∧ Below w.heap.size w w' := by
  unfold maxLen at hr63 ho63 hs63
  have Sl := Lib.hid hl
  have Sp := Lib.hid hq
  obtain ⟨la, lc, rfl, hml⟩ := strSl_form hl
  obtain ⟨qa, qc, rfl, hmq⟩ := strSl_form hq
  unfold maxLen at hml hmq
  clear hl hq
  go_enter Tryd.func3, Tryd.ntmps3
  go_wp2_with fail
  refine (head2_any _ ht).mono ?_
  rintro e w1 ⟨rfl, hb1⟩
  have Sl := Lib.hid (Sl.out.below hb1)
  have Sp := Lib.hid (Sp.out.below hb1)
  go_wp2_with fail
  refine (few2_any _ l _ Sl.out).mono ?_
  rintro e w2 ⟨rfl, rfl⟩
  cases hf : few2 l with
  | false =>
    go_wp2_with fail
    go_ret
    exact ⟨rfl, hb1⟩
  | true =>
    have l20 := few2_len hf
    have hsm := few2_small hf
    have Hsm := Lib.hid hsm
    clear hf hsm
    go_wp2_with fail
    refine (few2_any _ q _ Sp.out).mono ?_
    rintro e w2 ⟨rfl, rfl⟩
    cases hf : few2 q with
    | false =>
      go_wp2_with fail
      go_ret
      exact ⟨rfl, hb1⟩
    | true =>
      have q20 := few2_len hf
      have hsq := few2_small hf
      have Hsq := Lib.hid hsq
      clear hf hsq
      by_cases z1 : 100 < root.size
      · go_wp2_with fail
        go_ret
        exact ⟨rfl, hb1⟩
      · by_cases z2 : 100 < old.size
        · go_wp2_with fail
          go_ret
          exact ⟨rfl, hb1⟩
        · by_cases z3 : 100 < s.size
          · go_wp2_with fail
            go_ret
            exact ⟨rfl, hb1⟩
          · have hmax : l.length ≤ 1000000 := by omega
            have hroot : root.size ≤ 1000 := by omega
            have hold : old.size ≤ 1000 := by omega
            have hs : s.size ≤ 1000 := by omega
            have hrx := rootX_small l
            go_wp2_with fail
            refine (Root_x _ l _ (ht.below hb1) Sl.out).mono ?_
            rintro e w2 ⟨rfl, hb2'⟩
            have hb2 := hb1.trans (hb2'.mono hb1.size)
            have Sl := Lib.hid (Sl.out.below hb2')
            have Sp := Lib.hid (Sp.out.below hb2')
            go_wp2_with fail
            refine (rRoot_x _ l Hsm.out hmax _ Sl.out).mono ?_
            rintro e w3 ⟨rfl, hb3'⟩
            have hb3 := hb2.trans (hb3'.mono hb2.size)
            have Sl := Lib.hid (Sl.out.below hb3')
            have Sp := Lib.hid (Sp.out.below hb3')
            go_wp2_with fail
            refine (Path_x _ l i hmax _ (ht.below hb3) Sl.out).mono ?_
            rintro e w4 ⟨ua, rfl, owna, hb4'⟩
            have hb4 := hb3.trans (hb4'.mono hb3.size)
            have Sl := Lib.hid (Sl.out.below hb4')
            have Sp := Lib.hid (Sp.out.below hb4')
            have Sa := Lib.hid owna.sl
            clear owna
            go_wp2_with fail
            refine (rPath_x _ l i Hsm.out hmax _ Sl.out).mono ?_
            rintro e w5 ⟨ub, rfl, ownb, hb5'⟩
            have hb5 := hb4.trans (hb5'.mono hb4.size)
            have Sl := Lib.hid (Sl.out.below hb5')
            have Sp := Lib.hid (Sp.out.below hb5')
            have Sa := Lib.hid (Sa.out.below hb5')
            have Sb := Lib.hid ownb.sl
            clear ownb
            go_wp2_with fail
            refine (Link_x _ l m hmax _ (ht.below hb5) Sl.out).mono ?_
            rintro e w6 ⟨uc, rfl, ownc, hb6'⟩
            have hb6 := hb5.trans (hb6'.mono hb5.size)
            have Sl := Lib.hid (Sl.out.below hb6')
            have Sp := Lib.hid (Sp.out.below hb6')
            have Sa := Lib.hid (Sa.out.below hb6')
            have Sb := Lib.hid (Sb.out.below hb6')
            have Sc := Lib.hid ownc.sl
            clear ownc
            go_wp2_with fail
            refine (rLink_x _ l m Hsm.out hmax _ Sl.out).mono ?_
            rintro e w7 ⟨ud, rfl, ownd, hb7'⟩
            have hb7 := hb6.trans (hb7'.mono hb6.size)
            have Sl := Lib.hid (Sl.out.below hb7')
            have Sp := Lib.hid (Sp.out.below hb7')
            have Sa := Lib.hid (Sa.out.below hb7')
            have Sb := Lib.hid (Sb.out.below hb7')
            have Sc := Lib.hid (Sc.out.below hb7')
            have Sd := Lib.hid ownd.sl
            clear ownd
            go_wp2_with fail
            refine (leaf_any s hs _ (ht.below hb7)).mono ?_
            rintro e w8 ⟨rfl, hb8'⟩
            have hb8 := hb7.trans (hb8'.mono hb7.size)
            have Sl := Lib.hid (Sl.out.below hb8')
            have Sp := Lib.hid (Sp.out.below hb8')
            have Sa := Lib.hid (Sa.out.below hb8')
            have Sb := Lib.hid (Sb.out.below hb8')
            have Sc := Lib.hid (Sc.out.below hb8')
            have Sd := Lib.hid (Sd.out.below hb8')
            go_wp2_with fail
            refine (rleaf_any s hs _).mono ?_
            rintro e w9 ⟨rfl, hb9'⟩
            have hb9 := hb8.trans (hb9'.mono hb8.size)
            have Sl := Lib.hid (Sl.out.below hb9')
            have Sp := Lib.hid (Sp.out.below hb9')
            have Sa := Lib.hid (Sa.out.below hb9')
            have Sb := Lib.hid (Sb.out.below hb9')
            have Sc := Lib.hid (Sc.out.below hb9')
            have Sd := Lib.hid (Sd.out.below hb9')
            go_wp2_with fail
            refine (rsame_any _ _ (pathX l i) (pathX l i) _ Sa.out Sb.out).mono ?_
            rintro e w10 ⟨rfl, hb10'⟩
            have hb10 := hb9.trans (hb10'.mono hb9.size)
            have Sl := Lib.hid (Sl.out.below hb10')
            have Sp := Lib.hid (Sp.out.below hb10')
            have Sa := Lib.hid (Sa.out.below hb10')
            have Sb := Lib.hid (Sb.out.below hb10')
            have Sc := Lib.hid (Sc.out.below hb10')
            have Sd := Lib.hid (Sd.out.below hb10')
            rw [(sameB_iff _ _).2 rfl]
            go_wp2_with fail
            refine (rsame_any _ _ (linkX l m) (linkX l m) _ Sc.out Sd.out).mono ?_
            rintro e w11 ⟨rfl, hb11'⟩
            have hb11 := hb10.trans (hb11'.mono hb10.size)
            have Sl := Lib.hid (Sl.out.below hb11')
            have Sp := Lib.hid (Sp.out.below hb11')
            have Sa := Lib.hid (Sa.out.below hb11')
            have Sb := Lib.hid (Sb.out.below hb11')
            have Sc := Lib.hid (Sc.out.below hb11')
            have Sd := Lib.hid (Sd.out.below hb11')
            rw [(sameB_iff _ _).2 rfl]
            go_wp2_with fail
            refine (Check_any root n i s _ q _ (ht.below hb11) Sp.out).mono ?_
            rintro e w12 ⟨rfl, hb12'⟩
            have hb12 := hb11.trans (hb12'.mono hb11.size)
            have Sl := Lib.hid (Sl.out.below hb12')
            have Sp := Lib.hid (Sp.out.below hb12')
            have Sa := Lib.hid (Sa.out.below hb12')
            have Sb := Lib.hid (Sb.out.below hb12')
            have Sc := Lib.hid (Sc.out.below hb12')
            have Sd := Lib.hid (Sd.out.below hb12')
            go_wp2_with fail
            refine (rCheck_any root n i s _ q Hsq.out hs _ Sp.out).mono ?_
            rintro e w13 ⟨rfl, hb13'⟩
            have hb13 := hb12.trans (hb13'.mono hb12.size)
            have Sl := Lib.hid (Sl.out.below hb13')
            have Sp := Lib.hid (Sp.out.below hb13')
            have Sa := Lib.hid (Sa.out.below hb13')
            have Sb := Lib.hid (Sb.out.below hb13')
            have Sc := Lib.hid (Sc.out.below hb13')
            have Sd := Lib.hid (Sd.out.below hb13')
            go_wp2_with fail
            refine (Check_any (rootX l) l.length i s _ q _ (ht.below hb13) Sp.out).mono ?_
            rintro e w14 ⟨rfl, hb14'⟩
            have hb14 := hb13.trans (hb14'.mono hb13.size)
            have Sl := Lib.hid (Sl.out.below hb14')
            have Sp := Lib.hid (Sp.out.below hb14')
            have Sa := Lib.hid (Sa.out.below hb14')
            have Sb := Lib.hid (Sb.out.below hb14')
            have Sc := Lib.hid (Sc.out.below hb14')
            have Sd := Lib.hid (Sd.out.below hb14')
            go_wp2_with fail
            refine (rCheck_any (rootX l) l.length i s _ q Hsq.out hs _ Sp.out).mono ?_
            rintro e w15 ⟨rfl, hb15'⟩
            have hb15 := hb14.trans (hb15'.mono hb14.size)
            have Sl := Lib.hid (Sl.out.below hb15')
            have Sp := Lib.hid (Sp.out.below hb15')
            have Sa := Lib.hid (Sa.out.below hb15')
            have Sb := Lib.hid (Sb.out.below hb15')
            have Sc := Lib.hid (Sc.out.below hb15')
            have Sd := Lib.hid (Sd.out.below hb15')
            go_wp2_with fail
            refine (Extends_any old m root n _ q _ (ht.below hb15) Sp.out).mono ?_
            rintro e w16 ⟨rfl, hb16'⟩
            have hb16 := hb15.trans (hb16'.mono hb15.size)
            have Sl := Lib.hid (Sl.out.below hb16')
            have Sp := Lib.hid (Sp.out.below hb16')
            have Sa := Lib.hid (Sa.out.below hb16')
            have Sb := Lib.hid (Sb.out.below hb16')
            have Sc := Lib.hid (Sc.out.below hb16')
            have Sd := Lib.hid (Sd.out.below hb16')
            go_wp2_with fail
            refine (rExtends_any old m root n _ q Hsq.out hold hroot _ Sp.out).mono ?_
            rintro e w17 ⟨rfl, hb17'⟩
            have hb17 := hb16.trans (hb17'.mono hb16.size)
            have Sl := Lib.hid (Sl.out.below hb17')
            have Sp := Lib.hid (Sp.out.below hb17')
            have Sa := Lib.hid (Sa.out.below hb17')
            have Sb := Lib.hid (Sb.out.below hb17')
            have Sc := Lib.hid (Sc.out.below hb17')
            have Sd := Lib.hid (Sd.out.below hb17')
            go_wp2_with fail
            refine (Extends_any old m (rootX l) l.length _ q _ (ht.below hb17) Sp.out).mono ?_
            rintro e w18 ⟨rfl, hb18'⟩
            have hb18 := hb17.trans (hb18'.mono hb17.size)
            have Sl := Lib.hid (Sl.out.below hb18')
            have Sp := Lib.hid (Sp.out.below hb18')
            have Sa := Lib.hid (Sa.out.below hb18')
            have Sb := Lib.hid (Sb.out.below hb18')
            have Sc := Lib.hid (Sc.out.below hb18')
            have Sd := Lib.hid (Sd.out.below hb18')
            go_wp2_with fail
            refine (rExtends_any old m (rootX l) l.length _ q Hsq.out hold hrx _ Sp.out).mono ?_
            rintro e w19 ⟨rfl, hb19'⟩
            have hb19 := hb18.trans (hb19'.mono hb18.size)
            have Sl := Lib.hid (Sl.out.below hb19')
            have Sp := Lib.hid (Sp.out.below hb19')
            have Sa := Lib.hid (Sa.out.below hb19')
            have Sb := Lib.hid (Sb.out.below hb19')
            have Sc := Lib.hid (Sc.out.below hb19')
            have Sd := Lib.hid (Sd.out.below hb19')
            go_wp2_with fail
            go_ret
            refine ⟨?_, hb19⟩
            simp

end Go.Proofs.YtgclcomjojpkgaaDoor.Dig
