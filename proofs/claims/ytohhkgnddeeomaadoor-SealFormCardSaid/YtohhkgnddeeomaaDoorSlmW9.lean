/- Walks over layer 3's laws: what checks answer, plainly; the examples. -/
import Derived.Test.YtohhkgnddeeomaaDoorSlmW8
namespace Go.Proofs.YtohhkgnddeeomaaDoor.Dig
set_option linter.unusedVariables false
set_option linter.unusedSimpArgs false
open Go.RowKit

/-! ### What checks answer -/

theorem upB_dig (n i : Nat) (d : ByteArray) (p : List ByteArray) (h : digB d = true) : digB (upB n i d p) = true := by
  rw [upB_eq]
  split
  · exact h
  · split
    · exact nodeB_dig _ _
    · exact nodeB_dig _ _

/-- what is accepted -/
theorem ver_iff (pub m : ByteArray) (idx : Int) (sig path : List ByteArray) : verB pub m idx sig path = true ↔
    sig.length = 18 ∧ sig.all digB = true ∧ path.length ≤ 8 ∧ path.all digB = true ∧ (0 ≤ idx ∧ idx < ((2 ^ path.length : Nat) : Int)) ∧ upB (2 ^ path.length) idx.toNat (leafOf (upEnds m sig)) path = pub := by
  have hle : path.length ≤ 8 → 2 ^ path.length ≤ 256 := fun h => pow_le _ h
  unfold verB checkB
  simp only [Bool.and_eq_true, decide_eq_true_eq, Int.toNat_natCast]
  constructor
  · rintro ⟨h1, h2, h3, ⟨h4, h5, _⟩, _, h7, _, h9⟩
    exact ⟨h1, h2, h3, h7, ⟨h4, h5⟩, h9⟩
  · rintro ⟨h1, h2, h3, h4, ⟨h5, h6⟩, h7⟩
    have := hle h3
    exact ⟨h1, h2, h3, ⟨h5, h6, by omega⟩, leafOf_dig _, h4, (depth_pow path.length idx.toNat (by omega)).symm, h7⟩

theorem ver_ok (s m : ByteArray) (h i : Nat) (hh : h ≤ 8) (hi : i < 2 ^ h) : verB (pubB s h) m (i : Int) (sigB s i m) (pathB (leavesB s h) i) = true := by
  rw [ver_iff, path_len s h i hi, Int.toNat_natCast]
  exact ⟨sigB_length s i m, sigB_dig s i m, hh, path_dig s h i, ⟨by omega, by omega⟩, signed_up s h i hi m⟩
theorem ver_len (pub m : ByteArray) (idx : Int) (sig path : List ByteArray) (h : sig.length ≠ 18) : verB pub m idx sig path = false := by
  rw [← Bool.not_eq_true, ver_iff]
  exact fun x => h x.1
theorem ver_idx (pub m : ByteArray) (idx : Int) (sig path : List ByteArray) (h : ¬ (0 ≤ idx ∧ idx < ((2 ^ path.length : Nat) : Int))) : verB pub m idx sig path = false := by
  rw [← Bool.not_eq_true, ver_iff]
  exact fun x => h x.2.2.2.2.1
theorem ver_pub (pub m : ByteArray) (idx : Int) (sig path : List ByteArray) (h : digB pub = false) : verB pub m idx sig path = false := by
  rw [← Bool.not_eq_true, ver_iff]
  rintro ⟨_, _, _, _, _, h7⟩
  rw [← h7, upB_dig _ _ _ _ (leafOf_dig _)] at h
  cases h

theorem StrSl.take1 {w : World} {a : Option Addr} {c : Nat} {l : List ByteArray} (h : StrSl w (.slice a l.length c) l) (k : Nat) (hk : k ≤ l.length) : StrSl w (.slice a k c) (l.take k) := by
  rcases h with ⟨rfl, a', c', he⟩ | ⟨b, off, c', he, h0, hb, hm, hc⟩
  · exact .inl ⟨by simp, a, c, by simp at hk; rw [hk]⟩
  · simp only [Value.slice.injEq, true_and] at he
    obtain ⟨rfl, rfl⟩ := he
    by_cases hz : k = 0
    · subst hz; exact .inl ⟨by simp, _, _, rfl⟩
    · have e : (l.take k).length = k := by rw [List.length_take]; omega
      refine .inr ⟨b, off, c, by rw [e], by omega, hb, ⟨by omega, hm.2⟩, fun i hi => ?_⟩
      rw [List.getElem_take]
      exact hc i (by omega)
theorem StrSl.drop1 {w : World} {b off n c : Nat} {l : List ByteArray} (h : StrSl w (.slice (some ⟨b, off, none⟩) n c) l) (hn : l.length = n) (h2 : 1 < n) : StrSl w (.slice (some ⟨b, off + 1, none⟩) (n - 1) (c - 1)) (l.drop 1) := by
  subst hn
  rcases h with ⟨rfl, a', c', he⟩ | ⟨b, off, c', he, h0, hb, hm, hc⟩
  · simp at h2
  · simp only [Value.slice.injEq, Option.some.injEq, Addr.mk.injEq, and_true, true_and] at he
    obtain ⟨⟨rfl, rfl⟩, rfl⟩ := he
    refine .inr ⟨_, _, _, by rw [List.length_drop], by rw [List.length_drop]; omega, hb, ⟨by rw [List.length_drop]; omega, by omega⟩, fun i hi => ?_⟩
    rw [List.getElem_drop, Nat.add_assoc]
    exact hc (1 + i) (by rw [List.length_drop] at hi; omega)

def wSecret : ByteArray := ⟨#[115, 101, 99, 114, 101, 116]⟩
def wMsg : ByteArray := ⟨#[109, 101, 115, 115, 97, 103, 101]⟩

theorem head_facts : ∃ P SG PT, Hid (pubB wSecret 2 = P) ∧ Hid (sigB wSecret 3 wMsg = SG) ∧ Hid (pathB (leavesB wSecret 2) 3 = PT) ∧ SG.length = 18 ∧ PT.length = 2 ∧
    Hid (verB P wMsg 3 SG PT = true) ∧ Hid (verB P wMsg 3 SG (PT.take 1) = false) ∧ Hid (verB P wMsg 3 (SG.drop 1) PT = false) ∧ Hid (verB ⟨#[]⟩ wMsg 3 SG PT = false) := by
  have h1 := sigB_length wSecret 3 wMsg
  have h2 := path_len wSecret 2 3 (by decide)
  have h3 := ver_ok wSecret wMsg 2 3 (by decide) (by decide)
  generalize pubB wSecret 2 = P at *
  generalize sigB wSecret 3 wMsg = SG at *
  generalize pathB (leavesB wSecret 2) 3 = PT at *
  refine ⟨P, SG, PT, rfl, rfl, rfl, h1, h2, h3, ver_idx _ _ _ _ _ ?_, ver_len _ _ _ _ _ ?_, ver_pub _ _ _ _ _ (by decide)⟩
  · rw [List.length_take, h2]
    decide
  · rw [List.length_drop, h1]
    decide

set_option maxRecDepth 100000 in
set_option maxHeartbeats 4000000 in
theorem head_any (w : World) (ht : Tab w) :
    Calls Tryd.prog 10 #[] w fun e w' => e = .returned (.bool true) ∧ Below w.heap.size w w' := by
  obtain ⟨P, SG, PT, hP, hSG, hPT, lSG, lPT, V1, V2, V3, V4⟩ := head_facts
  have C1 := fun w ht => Public_yes wSecret (by decide) 2 (by decide) w ht
  rw [hP.out] at C1
  have C2 := fun w ht => Sign_ok wSecret wMsg (by decide) (by decide) 2 3 (by decide) (by decide) w ht
  rw [hSG.out, hPT.out] at C2
  clear hP hSG hPT
  go_enter Tryd.func10, Tryd.ntmps10
  go_wp2_with fail
  refine (C1 _ ht).mono ?_
  rintro e w1 ⟨rfl, hb1⟩
  go_wp2_with fail
  refine (Public_no wSecret 9 (by decide) _).mono ?_
  rintro e w1' ⟨rfl, rfl⟩
  go_wp2_with fail
  refine (C2 _ (ht.below hb1)).mono ?_
  rintro e w2 ⟨g, c, pa, pc, rfl, ss, sp, hb2', q1, q2, q3, q4⟩
  have hb2 := hb1.trans (hb2'.mono hb1.size)
  go_wp2_with fail
  have hH := Held.new w2 (.int .i64 3) (.slice (some ⟨g, 0, none⟩) 18 c) (.slice pa 2 pc)
  have hb3 := hb2.trans ((new_below w2 (.cells #[.int .i64 3, .slice (some ⟨g, 0, none⟩) 18 c, .slice pa 2 pc] 24)).mono hb2.size)
  have ss3 := ss.below (new_below w2 (.cells #[.int .i64 3, .slice (some ⟨g, 0, none⟩) 18 c, .slice pa 2 pc] 24))
  have sp3 := sp.below (new_below w2 (.cells #[.int .i64 3, .slice (some ⟨g, 0, none⟩) 18 c, .slice pa 2 pc] 24))
  refine (Sign_far wSecret wMsg (by decide) 2 4 (by decide) (by decide) _ (ht.below hb3)).mono ?_
  rintro e w4 ⟨rfl, hb4'⟩
  have hb4 := hb3.trans (hb4'.mono hb3.size)
  have hH4 := hH.below hb4'
  have ss4 := ss3.below hb4'
  have sp4 := sp3.below hb4'
  have x0 := hH4.cell0
  have x1 := hH4.cell
  have x2 := hH4.cell2
  have hlt := hH4.lt
  unfold zeroS
  unfold maxLen at q2 q4
  have hlt1 : w2.heap.size < w4.heap.size + 1 := by omega
  have hlt2 : w2.heap.size < w4.heap.size + 1 + 1 := by omega
  have hlt3 : w2.heap.size < w4.heap.size + 1 + 1 + 1 := by omega
  clear hH ss ss3 sp sp3
  go_wp2_with fail
  have z9 := (Held.new (w4.alloc (.cells #[.int .i64 0, .slice none 0 0, .slice none 0 0] 24)) (.int .i64 3) (.slice (some ⟨g, 0, none⟩) 18 c) (.slice pa 1 pc)).alloc (.cells #[.int .i64 3, .slice (some ⟨g, 1, none⟩) 17 (c - 1), .slice pa 2 pc] 24)
  have z10 := Held.new ((w4.alloc (.cells #[.int .i64 0, .slice none 0 0, .slice none 0 0] 24)).alloc (.cells #[.int .i64 3, .slice (some ⟨g, 0, none⟩) 18 c, .slice pa 1 pc] 24)) (.int .i64 3) (.slice (some ⟨g, 1, none⟩) 17 (c - 1)) (.slice pa 2 pc)
  rw [World.size_alloc] at z9
  rw [World.size_alloc, World.size_alloc] at z10
  have hb5' : Below w4.heap.size w4 (((w4.alloc (.cells #[.int .i64 0, .slice none 0 0, .slice none 0 0] 24)).alloc (.cells #[.int .i64 3, .slice (some ⟨g, 0, none⟩) 18 c, .slice pa 1 pc] 24)).alloc (.cells #[.int .i64 3, .slice (some ⟨g, 1, none⟩) 17 (c - 1), .slice pa 2 pc] 24)) := (((Below.refl _ w4).alloc (Nat.le_refl _) _).alloc (by simp) _).alloc (by simp; omega) _
  obtain ⟨W5, hW5⟩ : ∃ W5, (((w4.alloc (.cells #[.int .i64 0, .slice none 0 0, .slice none 0 0] 24)).alloc (.cells #[.int .i64 3, .slice (some ⟨g, 0, none⟩) 18 c, .slice pa 1 pc] 24)).alloc (.cells #[.int .i64 3, .slice (some ⟨g, 1, none⟩) 17 (c - 1), .slice pa 2 pc] 24)) = W5 := ⟨_, rfl⟩
  rw [hW5] at z9 z10 hb5' ⊢
  clear hW5 x0 x1 x2 hlt hlt1 hlt2 hlt3 C1 C2
  have hb5 := hb4.trans (hb5'.mono hb4.size)
  have z5 := hH4.below hb5'
  have ss5 := ss4.below hb5'
  have sp5 := sp4.below hb5'
  clear hH4 ss4 sp4
  refine (Verify_any P wMsg (by decide) 3 _ _ SG PT _ (ht.below hb5) ss5 sp5).mono ?_
  rintro e w6 ⟨rfl, hb6'⟩
  rw [V1.out]
  have hb6 := hb5.trans (hb6'.mono hb5.size)
  have y9 := z9.below hb6'
  have y10 := z10.below hb6'
  have y5 := z5.below hb6'
  have ss6 := ss5.below hb6'
  have sp6 := sp5.below hb6'
  have c90 := y9.cell0
  have c91 := y9.cell
  have c92 := y9.cell2
  clear z9 z10 z5 ss5 sp5
  go_wp2_with fail
  refine (Verify_any P wMsg (by decide) 3 _ (.slice pa 1 pc) SG (PT.take 1) _ (ht.below hb6) ss6 (StrSl.take1 (l := PT) (by rw [lPT]; exact sp6) 1 (by omega))).mono ?_
  rintro e w7 ⟨rfl, hb7'⟩
  rw [V2.out]
  have hb7 := hb6.trans (hb7'.mono hb6.size)
  have z10 := y10.below hb7'
  have z5 := y5.below hb7'
  have ss7 := ss6.below hb7'
  have sp7 := sp6.below hb7'
  have d0 := z10.cell0
  have d1 := z10.cell
  have d2 := z10.cell2
  clear y9 y10 y5 ss6 sp6 c90 c91 c92
  go_wp2_with fail
  refine (Verify_any P wMsg (by decide) 3 (.slice (some ⟨g, 0 + 1, none⟩) (18 - 1) (c - 1)) _ (SG.drop 1) PT _ (ht.below hb7) (ss7.drop1 lSG (by decide)) sp7).mono ?_
  rintro e w8 ⟨rfl, hb8'⟩
  rw [V3.out]
  have hb8 := hb7.trans (hb8'.mono hb7.size)
  have y5 := z5.below hb8'
  have ss8 := ss7.below hb8'
  have sp8 := sp7.below hb8'
  have e0 := y5.cell0
  have e1 := y5.cell
  have e2 := y5.cell2
  clear z10 z5 ss7 sp7 d0 d1 d2
  go_wp2_with fail
  refine (Verify_any ⟨#[]⟩ wMsg (by decide) 3 _ _ SG PT _ (ht.below hb8) ss8 sp8).mono ?_
  rintro e w9 ⟨rfl, hb9'⟩
  rw [V4.out]
  go_wp2_with fail
  go_ret
  exact ⟨rfl, hb8.trans (hb9'.mono hb8.size)⟩

end Go.Proofs.YtohhkgnddeeomaaDoor.Dig
