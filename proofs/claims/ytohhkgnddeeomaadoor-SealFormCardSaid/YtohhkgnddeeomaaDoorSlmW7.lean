/- Walks over layer 3's laws and reference: what is short, what is small, what is the same; Sign's answer in one form. -/
import Derived.Test.YtohhkgnddeeomaaDoorSlmW6
namespace Go.Proofs.YtohhkgnddeeomaaDoor.Dig
set_option linter.unusedVariables false
set_option linter.unusedSimpArgs false
open Go.RowKit

theorem Held.below {W w : World} {B : Nat} {x v y : Value} (h : Held W B x v y) (hb : Below W.heap.size W w) : Held w B x v y := (hb.block _ h.lt).trans h

/-- a Bool that, where true, tells Pr -/
def RetB (Pr : Prop) (e : Ending) : Prop := ∃ t, e = .returned (.bool t) ∧ (t = true → Pr)
/-- what short tells of a list -/
def ShortL (l : List ByteArray) : Prop := ∀ s ∈ l, s.size ≤ 300

set_option maxHeartbeats 1000000 in
theorem short_some (l : List ByteArray) (b off cap : Nat) (w : World) (h0 : 0 < l.length) (hm : l.length ≤ maxLen)
    (hc : ∀ i (h : i < l.length), w.cell? ⟨b, off + i, none⟩ = some (.string l[i])) :
    Calls Tryd.prog 11 #[.slice (some ⟨b, off, none⟩) l.length cap] w fun e w' => RetB (ShortL l) e ∧ w = w' := by
  unfold maxLen at hm
  go_enter Tryd.func11, Tryd.ntmps11
  go_wp2_with fail
  go_loop [3] (fun i => ∃ k : Nat, k ≤ l.length ∧ i = .int .i64 k ∧ Hid (∀ s ∈ l.take k, s.size ≤ 300)) (fun i => l.length - (intOf i).toNat)
  case atStart => exact ⟨0, by omega, rfl, Lib.hid (by simp)⟩
  case round =>
    obtain ⟨k, hk, rfl, Hall⟩ := hrel
    by_cases hlt : k < l.length
    · have hck := hc k hlt
      have Hs : Hid (l[k].size ≤ 300 → ∀ s ∈ l.take (k + 1), s.size ≤ 300) := Lib.hid fun h s hs => by
        rw [List.take_succ_eq_append_getElem hlt] at hs
        rcases List.mem_append.1 hs with hs | hs
        · exact Hall.out s hs
        · rw [List.mem_singleton] at hs; rw [hs]; exact h
      clear hc
      by_cases h300 : l[k].size ≤ 300
      · have g : (l[k].size : Int) ≤ 300 := by omega
        go_wp2_with fail
        go_round
        case rel => exact ⟨k + 1, by omega, by go_num, Lib.hid (Hs.out h300)⟩
        case measure => simp [intOf]; omega
      · have g : (300 : Int) < (l[k].size : Int) := by omega
        go_wp2_with fail
        go_ret
        exact ⟨⟨false, rfl, fun h => by cases h⟩, rfl⟩
    · obtain rfl : k = l.length := by omega
      rw [List.take_length] at Hall
      clear hc
      go_wp2_with fail
      go_ret
      exact ⟨⟨true, rfl, fun _ => Hall.out⟩, rfl⟩

theorem short2 (a b : ByteArray) (w : World) :
    Calls Tryd.prog 11 #[.slice (some ⟨w.heap.size, 0, none⟩) 2 2] (w.alloc (.cells #[.string a, .string b] 9)) fun e w' => RetB (a.size ≤ 300 ∧ b.size ≤ 300) e ∧ Below w.heap.size w w' := by
  refine (short_some [a, b] w.heap.size 0 2 _ (by simp) (by unfold maxLen; simp) ?_).mono ?_
  · intro i hi
    match i, hi with
    | 0, _ => simp
    | 1, _ => simp
  · rintro e w' ⟨⟨t, rfl, ht⟩, rfl⟩
    exact ⟨⟨t, rfl, fun h => ⟨ht h a (by simp), ht h b (by simp)⟩⟩, new_below w _⟩
theorem short3 (a b c : ByteArray) (w : World) :
    Calls Tryd.prog 11 #[.slice (some ⟨w.heap.size, 0, none⟩) 3 3] (w.alloc (.cells #[.string a, .string b, .string c] 9)) fun e w' => RetB (a.size ≤ 300 ∧ b.size ≤ 300 ∧ c.size ≤ 300) e ∧ Below w.heap.size w w' := by
  refine (short_some [a, b, c] w.heap.size 0 3 _ (by simp) (by unfold maxLen; simp) ?_).mono ?_
  · intro i hi
    match i, hi with
    | 0, _ => simp
    | 1, _ => simp
    | 2, _ => simp
  · rintro e w' ⟨⟨t, rfl, ht⟩, rfl⟩
    exact ⟨⟨t, rfl, fun h => ⟨ht h a (by simp), ht h b (by simp), ht h c (by simp)⟩⟩, new_below w _⟩

/-- the same index, the same texts -/
def sameS (i j : Int) (a b p q : List ByteArray) : Bool := decide (i = j) && (sameB a b && sameB p q)

set_option maxRecDepth 100000 in
set_option maxHeartbeats 1000000 in
theorem Same_any (i j : Int) (va vb vp vq : Value) (a b p q : List ByteArray) (w : World) (h1 : StrSl w va a) (h2 : StrSl w vb b) (h3 : StrSl w vp p) (h4 : StrSl w vq q) :
    Calls Tryd.prog 17 #[.agg #[.int .i64 i, va, vp], .agg #[.int .i64 j, vb, vq]] w fun e w' => e = .returned (.bool (sameS i j a b p q)) ∧ Below w.heap.size w w' := by
  have H1 := Lib.hid h1
  have H2 := Lib.hid h2
  have H3 := Lib.hid h3
  have H4 := Lib.hid h4
  obtain ⟨a1, c1, rfl, hm1⟩ := strSl_form h1
  obtain ⟨a2, c2, rfl, hm2⟩ := strSl_form h2
  obtain ⟨a3, c3, rfl, hm3⟩ := strSl_form h3
  obtain ⟨a4, c4, rfl, hm4⟩ := strSl_form h4
  have hb : Below w.heap.size w ((w.alloc (.cells #[.int .i64 i, .slice a1 a.length c1, .slice a3 p.length c3] 24)).alloc (.cells #[.int .i64 j, .slice a2 b.length c2, .slice a4 q.length c4] 24)) := ((Below.refl _ w).alloc (Nat.le_refl _) _).alloc (by simp) _
  clear h1 h2 h3 h4
  by_cases hij : i = j
  · subst hij
    have hd : (i == i) = true := by simp
    have k1 := (Held.new w (.int .i64 i) (.slice a1 a.length c1) (.slice a3 p.length c3)).alloc (.cells #[.int .i64 i, .slice a2 b.length c2, .slice a4 q.length c4] 24)
    have k2 := Held.new (w.alloc (.cells #[.int .i64 i, .slice a1 a.length c1, .slice a3 p.length c3] 24)) (.int .i64 i) (.slice a2 b.length c2) (.slice a4 q.length c4)
    rw [World.size_alloc] at k2
    cases hs : sameB a b with
    | true =>
      have Hs := Lib.hid hs
      have Hd := Lib.hid (show sameS i i a b p q = sameB p q by unfold sameS; rw [hs]; simp)
      clear hs
      go_enter Tryd.func17, Tryd.ntmps17
      go_wp2_with fail
      refine (rsame_any _ _ a b _ (H1.out.below hb) (H2.out.below hb)).mono ?_
      rintro e w1 ⟨rfl, hb1'⟩
      have hb1 := hb.trans (hb1'.mono hb.size)
      have x1 := k1.below hb1'
      have x2 := k2.below hb1'
      have y1 := x1.cell2
      have y2 := x2.cell2
      rw [Hs.out]
      go_wp2_with fail
      refine (rsame_any _ _ p q _ (H3.out.below hb1) (H4.out.below hb1)).mono ?_
      rintro e w2 ⟨rfl, hb2⟩
      go_wp2_with fail
      go_ret
      rw [Hd.out]
      exact ⟨rfl, hb1.trans (hb2.mono hb1.size)⟩
    | false =>
      have Hs := Lib.hid hs
      have Hd := Lib.hid (show sameS i i a b p q = false by unfold sameS; rw [hs]; simp)
      clear hs
      go_enter Tryd.func17, Tryd.ntmps17
      go_wp2_with fail
      refine (rsame_any _ _ a b _ (H1.out.below hb) (H2.out.below hb)).mono ?_
      rintro e w1 ⟨rfl, hb1'⟩
      rw [Hs.out]
      go_wp2_with fail
      go_ret
      rw [Hd.out]
      exact ⟨rfl, hb.trans (hb1'.mono hb.size)⟩
  · have hd : (i == j) = false := by simpa using hij
    have Hd := Lib.hid (show sameS i j a b p q = false by unfold sameS; rw [decide_eq_false hij]; simp)
    clear hij
    go_enter Tryd.func17, Tryd.ntmps17
    go_wp2_with fail
    go_ret
    rw [Hd.out]
    exact ⟨rfl, hb⟩

/-- Sign's answer, in one form -/
theorem Sign_ok (s m : ByteArray) (hs : s.size ≤ 1000) (hm : m.size ≤ 1000) (h i : Nat) (hh : h ≤ 8) (hi : i < 2 ^ h) (w : World) (ht : Tab w) :
    Calls Tryd.prog 15 #[.string s, .int .i64 (h : Int), .int .i64 (i : Int), .string m] w
      fun e w' => ∃ g c pa pc, e = .returned (.tuple #[.agg #[.int .i64 (i : Int), .slice (some ⟨g, 0, none⟩) 18 c, .slice pa h pc], .int .i64 0]) ∧ StrSl w' (.slice (some ⟨g, 0, none⟩) 18 c) (sigB s i m) ∧ StrSl w' (.slice pa h pc) (pathB (leavesB s h) i) ∧ Below w.heap.size w w' ∧ h ≤ pc ∧ pc ≤ maxLen ∧ 18 ≤ c ∧ c ≤ maxLen := by
  refine (Sign_yes s m hs hm h i hh hi w ht).mono ?_
  rintro e w' ⟨us, up, rfl, ou, op, hb⟩
  have h18 := sigB_length s i m
  have hph := path_len s h i hi
  rcases ou.2 with ⟨rfl, hn⟩ | ⟨g, c, cur, rfl, _, _, h1, h2, _, _⟩
  · rw [h18] at hn; cases hn
  · have s1 := ou.sl
    rw [h18] at s1 h1
    rcases op.2 with ⟨rfl, hn⟩ | ⟨g2, c2, cur2, rfl, _, _, h3, h4, _, _⟩
    · rw [hph] at hn
      subst hn
      exact ⟨g, c, none, 0, by rw [h18], s1, op.sl, hb, Nat.le_refl _, by decide, h1, h2⟩
    · have s2 := op.sl
      rw [hph] at s2 h3
      exact ⟨g, c, _, c2, by rw [h18, hph], s1, s2, hb, h3, h4, h1, h2⟩

end Go.Proofs.YtohhkgnddeeomaaDoor.Dig
