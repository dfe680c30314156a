/- Walks over layer 3's laws and reference: what is short, what is small, what is the same; Sign's answer in one form. -/
import Derived.Test.YteapfoadfjjicaaDoorSlmW6
namespace Go.Proofs.YteapfoadfjjicaaDoor.Dig
set_option linter.unusedVariables false
set_option linter.unusedSimpArgs false
open Go.RowKit

theorem Held.below {W w : World} {B : Nat} {x v y : Value} (h : Held W B x v y) (hb : Below W.heap.size W w) : Held w B x v y := (hb.block _ h.lt).trans h

/-- a Bool that, where true, tells Pr -/
def RetB (Pr : Prop) (e : Ending) : Prop := ∃ t, e = .returned (.bool t) ∧ (t = true → Pr)
/-- what short tells of a list -/
def ShortL (l : List ByteArray) : Prop := ∀ s ∈ l, s.size ≤ 300

set_option maxHeartbeats 1000000 in
theorem short_some (l : List ByteArray) (b off cap : Nat) (w : World) (h0 : 0 < l.length) (hm : l.length ≤ maxLen)
    (hc : ∀ i (h : i < l.length), w.cell? ⟨b, off + i, none⟩ = some (.string l[i])) :
    Calls Tryd.prog 25 #[.slice (some ⟨b, off, none⟩) l.length cap] w fun e w' => RetB (ShortL l) e ∧ w = w' := by
  unfold maxLen at hm
  go_enter Tryd.func25, Tryd.ntmps25
  go_wp2_with fail
  go_loop [3] (fun i => ∃ k : Nat, k ≤ l.length ∧ i = .int .i64 k ∧ Hid (∀ s ∈ l.take k, s.size ≤ 300)) (fun i => l.length - (intOf i).toNat)
  case atStart => exact ⟨0, by omega, rfl, Lib.hid (by simp)⟩
  case round =>
    obtain ⟨k, hk, rfl, Hall⟩ := hrel
    by_cases hlt : k < l.length
    · have hck := hc k hlt
      have Hs : Hid (l[k].size ≤ 300 → ∀ s ∈ l.take (k + 1), s.size ≤ 300) := Lib.hid fun h s hs => by
        rw [List.take_succ_eq_append_getElem hlt] at hs
        rcases List.mem_append.1 hs with hs | hs
        · exact Hall.out s hs
        · rw [List.mem_singleton] at hs; rw [hs]; exact h
      clear hc
      by_cases h300 : l[k].size ≤ 300
      · have g : (l[k].size : Int) ≤ 300 := by omega
        go_wp2_with fail
        go_round
        case rel => exact ⟨k + 1, by omega, by go_num, Lib.hid (Hs.out h300)⟩
        case measure => simp [intOf]; omega
      · have g : (300 : Int) < (l[k].size : Int) := by omega
        go_wp2_with fail
        go_ret
        exact ⟨⟨false, rfl, fun h => by cases h⟩, rfl⟩
    · obtain rfl : k = l.length := by omega
      rw [List.take_length] at Hall
      clear hc
      go_wp2_with fail
      go_ret
      exact ⟨⟨true, rfl, fun _ => Hall.out⟩, rfl⟩

theorem short2 (a b : ByteArray) (w : World) :
    Calls Tryd.prog 25 #[.slice (some ⟨w.heap.size, 0, none⟩) 2 2] (w.alloc (.cells #[.string a, .string b] 9)) fun e w' => RetB (a.size ≤ 300 ∧ b.size ≤ 300) e ∧ Below w.heap.size w w' := by
  refine (short_some [a, b] w.heap.size 0 2 _ (by simp) (by unfold maxLen; simp) ?_).mono ?_
  · intro i hi
    match i, hi with
    | 0, _ => simp
    | 1, _ => simp
  · rintro e w' ⟨⟨t, rfl, ht⟩, rfl⟩
    exact ⟨⟨t, rfl, fun h => ⟨ht h a (by simp), ht h b (by simp)⟩⟩, new_below w _⟩
theorem short3 (a b c : ByteArray) (w : World) :
    Calls Tryd.prog 25 #[.slice (some ⟨w.heap.size, 0, none⟩) 3 3] (w.alloc (.cells #[.string a, .string b, .string c] 9)) fun e w' => RetB (a.size ≤ 300 ∧ b.size ≤ 300 ∧ c.size ≤ 300) e ∧ Below w.heap.size w w' := by
  refine (short_some [a, b, c] w.heap.size 0 3 _ (by simp) (by unfold maxLen; simp) ?_).mono ?_
  · intro i hi
    match i, hi with
    | 0, _ => simp
    | 1, _ => simp
    | 2, _ => simp
  · rintro e w' ⟨⟨t, rfl, ht⟩, rfl⟩
    exact ⟨⟨t, rfl, fun h => ⟨ht h a (by simp), ht h b (by simp), ht h c (by simp)⟩⟩, new_below w _⟩

/-- the same index, the same texts -/
def sameS (i j : Int) (a b p q : List ByteArray) : Bool := decide (i = j) && (sameB a b && sameB p q)

set_option maxRecDepth 100000 in
set_option maxHeartbeats 1000000 in
theorem Same_any (i j : Int) (va vb vp vq : Value) (a b p q : List ByteArray) (w : World) (h1 : StrSl w va a) (h2 : StrSl w vb b) (h3 : StrSl w vp p) (h4 : StrSl w vq q) :
    Calls Tryd.prog 31 #[.agg #[.int .i64 i, va, vp], .agg #[.int .i64 j, vb, vq]] w fun e w' => e = .returned (.bool (sameS i j a b p q)) ∧ Below w.heap.size w w' := by
  have H1 := Lib.hid h1
  have H2 := Lib.hid h2
  have H3 := Lib.hid h3
  have H4 := Lib.hid h4
  obtain ⟨a1, c1, rfl, hm1⟩ := strSl_form h1
  obtain ⟨a2, c2, rfl, hm2⟩ := strSl_form h2
  obtain ⟨a3, c3, rfl, hm3⟩ := strSl_form h3
  obtain ⟨a4, c4, rfl, hm4⟩ := strSl_form h4
  have hb : Below w.heap.size w ((w.alloc (.cells #[.int .i64 i, .slice a1 a.length c1, .slice a3 p.length c3] 43)).alloc (.cells #[.int .i64 j, .slice a2 b.length c2, .slice a4 q.length c4] 43)) := ((Below.refl _ w).alloc (Nat.le_refl _) _).alloc (by simp) _
  clear h1 h2 h3 h4
  by_cases hij : i = j
  · subst hij
    have hd : (i == i) = true := by simp
    have k1 := (Held.new w (.int .i64 i) (.slice a1 a.length c1) (.slice a3 p.length c3)).alloc (.cells #[.int .i64 i, .slice a2 b.length c2, .slice a4 q.length c4] 43)
    have k2 := Held.new (w.alloc (.cells #[.int .i64 i, .slice a1 a.length c1, .slice a3 p.length c3] 43)) (.int .i64 i) (.slice a2 b.length c2) (.slice a4 q.length c4)
    rw [World.size_alloc] at k2
    cases hs : sameB a b with
    | true =>
      have Hs := Lib.hid hs
      have Hd := Lib.hid (show sameS i i a b p q = sameB p q by unfold sameS; rw [hs]; simp)
      clear hs
      go_enter Tryd.func31, Tryd.ntmps31
      go_wp2_with fail
      refine (rsame_any _ _ a b _ (H1.out.below hb) (H2.out.below hb)).mono ?_
      rintro e w1 ⟨rfl, hb1'⟩
      have hb1 := hb.trans (hb1'.mono hb.size)
      have x1 := k1.below hb1'
      have x2 := k2.below hb1'
      have y1 := x1.cell2
      have y2 := x2.cell2
      rw [Hs.out]
      go_wp2_with fail
      refine (rsame_any _ _ p q _ (H3.out.below hb1) (H4.out.below hb1)).mono ?_
      rintro e w2 ⟨rfl, hb2⟩
      go_wp2_with fail
      go_ret
      rw [Hd.out]
      exact ⟨rfl, hb1.trans (hb2.mono hb1.size)⟩
    | false =>
      have Hs := Lib.hid hs
      have Hd := Lib.hid (show sameS i i a b p q = false by unfold sameS; rw [hs]; simp)
      clear hs
      go_enter Tryd.func31, Tryd.ntmps31
      go_wp2_with fail
      refine (rsame_any _ _ a b _ (H1.out.below hb) (H2.out.below hb)).mono ?_
      rintro e w1 ⟨rfl, hb1'⟩
      rw [Hs.out]
      go_wp2_with fail
      go_ret
      rw [Hd.out]
      exact ⟨rfl, hb.trans (hb1'.mono hb.size)⟩
  · have hd : (i == j) = false := by simpa using hij
    have Hd := Lib.hid (show sameS i j a b p q = false by unfold sameS; rw [decide_eq_false hij]; simp)
    clear hij
    go_enter Tryd.func31, Tryd.ntmps31
    go_wp2_with fail
    go_ret
    rw [Hd.out]
    exact ⟨rfl, hb⟩

/-- Sign's answer, in one form -/
theorem Sign_ok (s m : ByteArray) (hs : s.size ≤ 1000) (hm : m.size ≤ 1000) (h i : Nat) (hh : h ≤ 8) (hi : i < 2 ^ h) (w : World) (ht : Tab w) :
    Calls Tryd.prog 29 #[.string s, .int .i64 (h : Int), .int .i64 (i : Int), .string m] w
      fun e w' => ∃ g c pa pc, e = .returned (.tuple #[.agg #[.int .i64 (i : Int), .slice (some ⟨g, 0, none⟩) 18 c, .slice pa h pc], .int .i64 0]) ∧ StrSl w' (.slice (some ⟨g, 0, none⟩) 18 c) (sigB s i m) ∧ StrSl w' (.slice pa h pc) (pathB (leavesB s h) i) ∧ Below w.heap.size w w' ∧ h ≤ pc ∧ pc ≤ maxLen ∧ 18 ≤ c ∧ c ≤ maxLen := by
  refine (Sign_yes s m hs hm h i hh hi w ht).mono ?_
  rintro e w' ⟨us, up, rfl, ou, op, hb⟩
  have h18 := sigB_length s i m
  have hph := path_len s h i hi
  rcases ou.2 with ⟨rfl, hn⟩ | ⟨g, c, cur, rfl, _, _, h1, h2, _, _⟩
  · rw [h18] at hn; cases hn
  · have s1 := ou.sl
    rw [h18] at s1 h1
    rcases op.2 with ⟨rfl, hn⟩ | ⟨g2, c2, cur2, rfl, _, _, h3, h4, _, _⟩
    · rw [hph] at hn
      subst hn
      exact ⟨g, c, none, 0, by rw [h18], s1, op.sl, hb, Nat.le_refl _, by decide, h1, h2⟩
    · have s2 := op.sl
      rw [hph] at s2 h3
      exact ⟨g, c, _, c2, by rw [h18, hph], s1, s2, hb, h3, h4, h1, h2⟩

end Go.Proofs.YteapfoadfjjicaaDoor.Dig

/- Walks over layer 3's reference and laws: Few; the examples. -/
namespace Go.Proofs.YteapfoadfjjicaaDoor.Dig
set_option linter.unusedVariables false
set_option linter.unusedSimpArgs false
open Go.RowKit

theorem StrSl.any {w : World} {v : Value} {l : List ByteArray} (h : StrSl w v l) : ∃ a cap, v = .slice a l.length cap ∧ l.length ≤ maxLen ∧ ∀ k (hk : k < l.length), ∃ b off, a = some ⟨b, off, none⟩ ∧ w.cell? ⟨b, off + k, none⟩ = some (.string l[k]) := by
  rcases h with ⟨rfl, a, cap, rfl⟩ | ⟨b, off, cap, rfl, h0, hb, hm, hc⟩
  · exact ⟨a, cap, rfl, Nat.zero_le _, fun k hk => by simp at hk⟩
  · exact ⟨_, cap, rfl, capLen hm, fun k hk => ⟨b, off, rfl, hc k hk⟩⟩

/-- what Few tells -/
def FewS (sig path : List ByteArray) : Prop := sig.length ≤ 30 ∧ path.length ≤ 30 ∧ (∀ s ∈ sig, s.size ≤ 100) ∧ ∀ s ∈ path, s.size ≤ 100

theorem take_snoc_all {P : ByteArray → Prop} {l : List ByteArray} {k : Nat} (hlt : k < l.length) (h : ∀ s ∈ l.take k, P s) (hk : P l[k]) : ∀ s ∈ l.take (k + 1), P s := by
  intro s hs
  rw [List.take_succ_eq_append_getElem hlt] at hs
  rcases List.mem_append.1 hs with hs | hs
  · exact h s hs
  · rw [List.mem_singleton] at hs; rw [hs]; exact hk

set_option maxRecDepth 100000 in
set_option maxHeartbeats 2000000 in
theorem Few_any (i : Int) (vs vp : Value) (sig path : List ByteArray) (w : World) (h1 : StrSl w vs sig) (h2 : StrSl w vp path) :
    Calls Tryd.prog 26 #[.agg #[.int .i64 i, vs, vp]] w fun e w' => RetB (FewS sig path) e ∧ Below w.heap.size w w' := by
  obtain ⟨a1, c1, rfl, hm1, g1⟩ := h1.any
  obtain ⟨a2, c2, rfl, hm2, g2⟩ := h2.any
  have hb := new_below w (.cells #[.int .i64 i, .slice a1 sig.length c1, .slice a2 path.length c2] 43)
  have hH := Held.new w (.int .i64 i) (.slice a1 sig.length c1) (.slice a2 path.length c2)
  have k1 : ∀ k (hk : k < sig.length), ∃ b off, a1 = some ⟨b, off, none⟩ ∧ (w.alloc (.cells #[.int .i64 i, .slice a1 sig.length c1, .slice a2 path.length c2] 43)).cell? ⟨b, off + k, none⟩ = some (.string sig[k]) := fun k hk => by
    obtain ⟨b, off, h, hc⟩ := g1 k hk
    exact ⟨b, off, h, (hb.cell (p := ⟨b, off + k, none⟩) (World.block_lt_of_cell? _ _ hc)).trans hc⟩
  have k2 : ∀ k (hk : k < path.length), ∃ b off, a2 = some ⟨b, off, none⟩ ∧ (w.alloc (.cells #[.int .i64 i, .slice a1 sig.length c1, .slice a2 path.length c2] 43)).cell? ⟨b, off + k, none⟩ = some (.string path[k]) := fun k hk => by
    obtain ⟨b, off, h, hc⟩ := g2 k hk
    exact ⟨b, off, h, (hb.cell (p := ⟨b, off + k, none⟩) (World.block_lt_of_cell? _ _ hc)).trans hc⟩
  unfold maxLen at hm1 hm2
  clear g1 g2 h1 h2
  go_enter Tryd.func26, Tryd.ntmps26
  go_wp2_with fail
  obtain ⟨W, hW⟩ : ∃ W, w.alloc (.cells #[.int .i64 i, .slice a1 sig.length c1, .slice a2 path.length c2] 43) = W := ⟨_, rfl⟩
  rw [hW] at hb hH k1 k2 ⊢
  clear hW
  have x1 := hH.cell
  have x2 := hH.cell2
  have K1 := Lib.hid k1
  have K2 := Lib.hid k2
  clear k1 k2
  go_loop [3] (fun c => ∃ k : Nat, k ≤ sig.length ∧ k ≤ 30 ∧ c = .int .i64 (k : Int) ∧ Hid (∀ s ∈ sig.take k, s.size ≤ 100)) (fun c => 30 - (intOf c).toNat)
  case atStart => exact ⟨0, by omega, by omega, rfl, Lib.hid (by simp)⟩
  case round =>
    obtain ⟨k, hk, hk30, rfl, Hall⟩ := hrel
    by_cases hlt : k < sig.length
    · by_cases h30 : k < 30
      · obtain ⟨b, off, rfl, hc⟩ := K1.out k hlt
        have Hs := Lib.hid (take_snoc_all (P := fun s => s.size ≤ 100) hlt Hall.out)
        by_cases h100 : sig[k].size ≤ 100
        · have q : (sig[k].size : Int) ≤ 100 := by omega
          go_wp2_with fail
          go_round
          case rel => exact ⟨k + 1, by omega, by omega, by go_num, Lib.hid (Hs.out h100)⟩
          case measure => simp [intOf]; omega
        · have q : (100 : Int) < (sig[k].size : Int) := by omega
          go_wp2_with fail
          go_ret
          exact ⟨⟨false, rfl, fun h => by cases h⟩, hb⟩
      · obtain rfl : k = 30 := by omega
        have q : (30 : Int) < (sig.length : Int) := by omega
        have H30 := Lib.hid hlt
        go_wp2_with fail
        go_loop [4] (fun c => ∃ k : Nat, k ≤ path.length ∧ k ≤ 30 ∧ c = .int .i64 (k : Int)) (fun c => 30 - (intOf c).toNat)
        case atStart => exact ⟨0, by omega, by omega, rfl⟩
        case round =>
          obtain ⟨k, hk, hk30, rfl⟩ := hrel
          by_cases hlt2 : k < path.length
          · by_cases h302 : k < 30
            · obtain ⟨b, off, rfl, hc⟩ := K2.out k hlt2
              by_cases h100 : path[k].size ≤ 100
              · have q : (path[k].size : Int) ≤ 100 := by omega
                go_wp2_with fail
                go_round
                case rel => exact ⟨k + 1, by omega, by omega, by go_num⟩
                case measure => simp [intOf]; omega
              · have q : (100 : Int) < (path[k].size : Int) := by omega
                go_wp2_with fail
                go_ret
                exact ⟨⟨false, rfl, fun h => by cases h⟩, hb⟩
            · obtain rfl : k = 30 := by omega
              go_wp2_with fail
              go_ret
              exact ⟨⟨false, rfl, fun h => by cases h⟩, hb⟩
          · obtain rfl : k = path.length := by omega
            go_wp2_with fail
            go_ret
            exact ⟨⟨false, rfl, fun h => by cases h⟩, hb⟩
    · obtain rfl : k = sig.length := by omega
      rw [List.take_length] at Hall
      have q30 : (sig.length : Int) ≤ 30 := by omega
      go_wp2_with fail
      go_loop [4] (fun c => ∃ k : Nat, k ≤ path.length ∧ k ≤ 30 ∧ c = .int .i64 (k : Int) ∧ Hid (∀ s ∈ path.take k, s.size ≤ 100)) (fun c => 30 - (intOf c).toNat)
      case atStart => exact ⟨0, by omega, by omega, rfl, Lib.hid (by simp)⟩
      case round =>
        obtain ⟨k, hk, hk30', rfl, Hall2⟩ := hrel
        by_cases hlt2 : k < path.length
        · by_cases h302 : k < 30
          · obtain ⟨b, off, rfl, hc⟩ := K2.out k hlt2
            have Hs := Lib.hid (take_snoc_all (P := fun s => s.size ≤ 100) hlt2 Hall2.out)
            by_cases h100 : path[k].size ≤ 100
            · have q : (path[k].size : Int) ≤ 100 := by omega
              go_wp2_with fail
              go_round
              case rel => exact ⟨k + 1, by omega, by omega, by go_num, Lib.hid (Hs.out h100)⟩
              case measure => simp [intOf]; omega
            · have q : (100 : Int) < (path[k].size : Int) := by omega
              go_wp2_with fail
              go_ret
              exact ⟨⟨false, rfl, fun h => by cases h⟩, hb⟩
          · obtain rfl : k = 30 := by omega
            have q : (30 : Int) < (path.length : Int) := by omega
            go_wp2_with fail
            go_ret
            exact ⟨⟨_, rfl, fun h => absurd (of_decide_eq_true h) (by omega)⟩, hb⟩
        · obtain rfl : k = path.length := by omega
          rw [List.take_length] at Hall2
          have q : (path.length : Int) ≤ 30 := by omega
          go_wp2_with fail
          go_ret
          exact ⟨⟨true, rfl, fun _ => ⟨by omega, by omega, Hall.out, Hall2.out⟩⟩, hb⟩

end Go.Proofs.YteapfoadfjjicaaDoor.Dig

/- Walks over layer 3's laws: what checks answer, plainly; the examples. -/
namespace Go.Proofs.YteapfoadfjjicaaDoor.Dig
set_option linter.unusedVariables false
set_option linter.unusedSimpArgs false
open Go.RowKit

/-! ### What checks answer -/

theorem upB_dig (n i : Nat) (d : ByteArray) (p : List ByteArray) (h : digB d = true) : digB (upB n i d p) = true := by
  rw [upB_eq]
  split
  · exact h
  · split
    · exact nodeB_dig _ _
    · exact nodeB_dig _ _

/-- what is accepted -/
theorem ver_iff (pub m : ByteArray) (idx : Int) (sig path : List ByteArray) : verB pub m idx sig path = true ↔
    sig.length = 18 ∧ sig.all digB = true ∧ path.length ≤ 8 ∧ path.all digB = true ∧ (0 ≤ idx ∧ idx < ((2 ^ path.length : Nat) : Int)) ∧ upB (2 ^ path.length) idx.toNat (leafOf (upEnds m sig)) path = pub := by
  have hle : path.length ≤ 8 → 2 ^ path.length ≤ 256 := fun h => pow_le _ h
  unfold verB checkB
  simp only [Bool.and_eq_true, decide_eq_true_eq, Int.toNat_natCast]
  constructor
  · rintro ⟨h1, h2, h3, ⟨h4, h5, _⟩, _, h7, _, h9⟩
    exact ⟨h1, h2, h3, h7, ⟨h4, h5⟩, h9⟩
  · rintro ⟨h1, h2, h3, h4, ⟨h5, h6⟩, h7⟩
    have := hle h3
    exact ⟨h1, h2, h3, ⟨h5, h6, by omega⟩, leafOf_dig _, h4, (depth_pow path.length idx.toNat (by omega)).symm, h7⟩

theorem ver_ok (s m : ByteArray) (h i : Nat) (hh : h ≤ 8) (hi : i < 2 ^ h) : verB (pubB s h) m (i : Int) (sigB s i m) (pathB (leavesB s h) i) = true := by
  rw [ver_iff, path_len s h i hi, Int.toNat_natCast]
  exact ⟨sigB_length s i m, sigB_dig s i m, hh, path_dig s h i, ⟨by omega, by omega⟩, signed_up s h i hi m⟩
theorem ver_len (pub m : ByteArray) (idx : Int) (sig path : List ByteArray) (h : sig.length ≠ 18) : verB pub m idx sig path = false := by
  rw [← Bool.not_eq_true, ver_iff]
  exact fun x => h x.1
theorem ver_idx (pub m : ByteArray) (idx : Int) (sig path : List ByteArray) (h : ¬ (0 ≤ idx ∧ idx < ((2 ^ path.length : Nat) : Int))) : verB pub m idx sig path = false := by
  rw [← Bool.not_eq_true, ver_iff]
  exact fun x => h x.2.2.2.2.1
theorem ver_pub (pub m : ByteArray) (idx : Int) (sig path : List ByteArray) (h : digB pub = false) : verB pub m idx sig path = false := by
  rw [← Bool.not_eq_true, ver_iff]
  rintro ⟨_, _, _, _, _, h7⟩
  rw [← h7, upB_dig _ _ _ _ (leafOf_dig _)] at h
  cases h

theorem StrSl.take1 {w : World} {a : Option Addr} {c : Nat} {l : List ByteArray} (h : StrSl w (.slice a l.length c) l) (k : Nat) (hk : k ≤ l.length) : StrSl w (.slice a k c) (l.take k) := by
  rcases h with ⟨rfl, a', c', he⟩ | ⟨b, off, c', he, h0, hb, hm, hc⟩
  · exact .inl ⟨by simp, a, c, by simp at hk; rw [hk]⟩
  · simp only [Value.slice.injEq, true_and] at he
    obtain ⟨rfl, rfl⟩ := he
    by_cases hz : k = 0
    · subst hz; exact .inl ⟨by simp, _, _, rfl⟩
    · have e : (l.take k).length = k := by rw [List.length_take]; omega
      refine .inr ⟨b, off, c, by rw [e], by omega, hb, ⟨by omega, hm.2⟩, fun i hi => ?_⟩
      rw [List.getElem_take]
      exact hc i (by omega)
theorem StrSl.drop1 {w : World} {b off n c : Nat} {l : List ByteArray} (h : StrSl w (.slice (some ⟨b, off, none⟩) n c) l) (hn : l.length = n) (h2 : 1 < n) : StrSl w (.slice (some ⟨b, off + 1, none⟩) (n - 1) (c - 1)) (l.drop 1) := by
  subst hn
  rcases h with ⟨rfl, a', c', he⟩ | ⟨b, off, c', he, h0, hb, hm, hc⟩
  · simp at h2
  · simp only [Value.slice.injEq, Option.some.injEq, Addr.mk.injEq, and_true, true_and] at he
    obtain ⟨⟨rfl, rfl⟩, rfl⟩ := he
    refine .inr ⟨_, _, _, by rw [List.length_drop], by rw [List.length_drop]; omega, hb, ⟨by rw [List.length_drop]; omega, by omega⟩, fun i hi => ?_⟩
    rw [List.getElem_drop, Nat.add_assoc]
    exact hc (1 + i) (by rw [List.length_drop] at hi; omega)

def wSecret : ByteArray := ⟨#[115, 101, 99, 114, 101, 116]⟩
def wMsg : ByteArray := ⟨#[109, 101, 115, 115, 97, 103, 101]⟩

theorem head_facts : ∃ P SG PT, Hid (pubB wSecret 2 = P) ∧ Hid (sigB wSecret 3 wMsg = SG) ∧ Hid (pathB (leavesB wSecret 2) 3 = PT) ∧ SG.length = 18 ∧ PT.length = 2 ∧
    Hid (verB P wMsg 3 SG PT = true) ∧ Hid (verB P wMsg 3 SG (PT.take 1) = false) ∧ Hid (verB P wMsg 3 (SG.drop 1) PT = false) ∧ Hid (verB ⟨#[]⟩ wMsg 3 SG PT = false) := by
  have h1 := sigB_length wSecret 3 wMsg
  have h2 := path_len wSecret 2 3 (by decide)
  have h3 := ver_ok wSecret wMsg 2 3 (by decide) (by decide)
  generalize pubB wSecret 2 = P at *
  generalize sigB wSecret 3 wMsg = SG at *
  generalize pathB (leavesB wSecret 2) 3 = PT at *
  refine ⟨P, SG, PT, rfl, rfl, rfl, h1, h2, h3, ver_idx _ _ _ _ _ ?_, ver_len _ _ _ _ _ ?_, ver_pub _ _ _ _ _ (by decide)⟩
  · rw [List.length_take, h2]
    decide
  · rw [List.length_drop, h1]
    decide

set_option maxRecDepth 100000 in
set_option maxHeartbeats 4000000 in
theorem head_any (w : World) (ht : Tab w) :
    Calls Tryd.prog 24 #[] w fun e w' => e = .returned (.bool true) ∧ Below w.heap.size w w' := by
  obtain ⟨P, SG, PT, hP, hSG, hPT, lSG, lPT, V1, V2, V3, V4⟩ := head_facts
  have C1 := fun w ht => Public_yes wSecret (by decide) 2 (by decide) w ht
  rw [hP.out] at C1
  have C2 := fun w ht => Sign_ok wSecret wMsg (by decide) (by decide) 2 3 (by decide) (by decide) w ht
  rw [hSG.out, hPT.out] at C2
  clear hP hSG hPT
  go_enter Tryd.func24, Tryd.ntmps24
  go_wp2_with fail
  refine (C1 _ ht).mono ?_
  rintro e w1 ⟨rfl, hb1⟩
  go_wp2_with fail
  refine (Public_no wSecret 9 (by decide) _).mono ?_
  rintro e w1' ⟨rfl, rfl⟩
  go_wp2_with fail
  refine (C2 _ (ht.below hb1)).mono ?_
  rintro e w2 ⟨g, c, pa, pc, rfl, ss, sp, hb2', q1, q2, q3, q4⟩
  have hb2 := hb1.trans (hb2'.mono hb1.size)
  go_wp2_with fail
  have hH := Held.new w2 (.int .i64 3) (.slice (some ⟨g, 0, none⟩) 18 c) (.slice pa 2 pc)
  have hb3 := hb2.trans ((new_below w2 (.cells #[.int .i64 3, .slice (some ⟨g, 0, none⟩) 18 c, .slice pa 2 pc] 43)).mono hb2.size)
  have ss3 := ss.below (new_below w2 (.cells #[.int .i64 3, .slice (some ⟨g, 0, none⟩) 18 c, .slice pa 2 pc] 43))
  have sp3 := sp.below (new_below w2 (.cells #[.int .i64 3, .slice (some ⟨g, 0, none⟩) 18 c, .slice pa 2 pc] 43))
  refine (Sign_far wSecret wMsg (by decide) 2 4 (by decide) (by decide) _ (ht.below hb3)).mono ?_
  rintro e w4 ⟨rfl, hb4'⟩
  have hb4 := hb3.trans (hb4'.mono hb3.size)
  have hH4 := hH.below hb4'
  have ss4 := ss3.below hb4'
  have sp4 := sp3.below hb4'
  have x0 := hH4.cell0
  have x1 := hH4.cell
  have x2 := hH4.cell2
  have hlt := hH4.lt
  unfold zeroS
  unfold maxLen at q2 q4
  have hlt1 : w2.heap.size < w4.heap.size + 1 := by omega
  have hlt2 : w2.heap.size < w4.heap.size + 1 + 1 := by omega
  have hlt3 : w2.heap.size < w4.heap.size + 1 + 1 + 1 := by omega
  clear hH ss ss3 sp sp3
  go_wp2_with fail
  have z9 := (Held.new (w4.alloc (.cells #[.int .i64 0, .slice none 0 0, .slice none 0 0] 43)) (.int .i64 3) (.slice (some ⟨g, 0, none⟩) 18 c) (.slice pa 1 pc)).alloc (.cells #[.int .i64 3, .slice (some ⟨g, 1, none⟩) 17 (c - 1), .slice pa 2 pc] 43)
  have z10 := Held.new ((w4.alloc (.cells #[.int .i64 0, .slice none 0 0, .slice none 0 0] 43)).alloc (.cells #[.int .i64 3, .slice (some ⟨g, 0, none⟩) 18 c, .slice pa 1 pc] 43)) (.int .i64 3) (.slice (some ⟨g, 1, none⟩) 17 (c - 1)) (.slice pa 2 pc)
  rw [World.size_alloc] at z9
  rw [World.size_alloc, World.size_alloc] at z10
  have hb5' : Below w4.heap.size w4 (((w4.alloc (.cells #[.int .i64 0, .slice none 0 0, .slice none 0 0] 43)).alloc (.cells #[.int .i64 3, .slice (some ⟨g, 0, none⟩) 18 c, .slice pa 1 pc] 43)).alloc (.cells #[.int .i64 3, .slice (some ⟨g, 1, none⟩) 17 (c - 1), .slice pa 2 pc] 43)) := (((Below.refl _ w4).alloc (Nat.le_refl _) _).alloc (by simp) _).alloc (by simp; omega) _
  obtain ⟨W5, hW5⟩ : ∃ W5, (((w4.alloc (.cells #[.int .i64 0, .slice none 0 0, .slice none 0 0] 43)).alloc (.cells #[.int .i64 3, .slice (some ⟨g, 0, none⟩) 18 c, .slice pa 1 pc] 43)).alloc (.cells #[.int .i64 3, .slice (some ⟨g, 1, none⟩) 17 (c - 1), .slice pa 2 pc] 43)) = W5 := ⟨_, rfl⟩
  rw [hW5] at z9 z10 hb5' ⊢
  clear hW5 x0 x1 x2 hlt hlt1 hlt2 hlt3 C1 C2
  have hb5 := hb4.trans (hb5'.mono hb4.size)
  have z5 := hH4.below hb5'
  have ss5 := ss4.below hb5'
  have sp5 := sp4.below hb5'
  clear hH4 ss4 sp4
  refine (Verify_any P wMsg (by decide) 3 _ _ SG PT _ (ht.below hb5) ss5 sp5).mono ?_
  rintro e w6 ⟨rfl, hb6'⟩
  rw [V1.out]
  have hb6 := hb5.trans (hb6'.mono hb5.size)
  have y9 := z9.below hb6'
  have y10 := z10.below hb6'
  have y5 := z5.below hb6'
  have ss6 := ss5.below hb6'
  have sp6 := sp5.below hb6'
  have c90 := y9.cell0
  have c91 := y9.cell
  have c92 := y9.cell2
  clear z9 z10 z5 ss5 sp5
  go_wp2_with fail
  refine (Verify_any P wMsg (by decide) 3 _ (.slice pa 1 pc) SG (PT.take 1) _ (ht.below hb6) ss6 (StrSl.take1 (l := PT) (by rw [lPT]; exact sp6) 1 (by omega))).mono ?_
  rintro e w7 ⟨rfl, hb7'⟩
  rw [V2.out]
  have hb7 := hb6.trans (hb7'.mono hb6.size)
  have z10 := y10.below hb7'
  have z5 := y5.below hb7'
  have ss7 := ss6.below hb7'
  have sp7 := sp6.below hb7'
  have d0 := z10.cell0
  have d1 := z10.cell
  have d2 := z10.cell2
  clear y9 y10 y5 ss6 sp6 c90 c91 c92
  go_wp2_with fail
  refine (Verify_any P wMsg (by decide) 3 (.slice (some ⟨g, 0 + 1, none⟩) (18 - 1) (c - 1)) _ (SG.drop 1) PT _ (ht.below hb7) (ss7.drop1 lSG (by decide)) sp7).mono ?_
  rintro e w8 ⟨rfl, hb8'⟩
  rw [V3.out]
  have hb8 := hb7.trans (hb8'.mono hb7.size)
  have y5 := z5.below hb8'
  have ss8 := ss7.below hb8'
  have sp8 := sp7.below hb8'
  have e0 := y5.cell0
  have e1 := y5.cell
  have e2 := y5.cell2
  clear z10 z5 ss7 sp7 d0 d1 d2
  go_wp2_with fail
  refine (Verify_any ⟨#[]⟩ wMsg (by decide) 3 _ _ SG PT _ (ht.below hb8) ss8 sp8).mono ?_
  rintro e w9 ⟨rfl, hb9'⟩
  rw [V4.out]
  go_wp2_with fail
  go_ret
  exact ⟨rfl, hb8.trans (hb9'.mono hb8.size)⟩

end Go.Proofs.YteapfoadfjjicaaDoor.Dig
