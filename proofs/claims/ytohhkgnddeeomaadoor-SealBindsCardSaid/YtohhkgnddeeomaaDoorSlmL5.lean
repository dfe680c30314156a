/- Walks over layer 3's laws: SealSecrets. -/
import Derived.Test.YtohhkgnddeeomaaDoorSlmL2
import Derived.Test.YtohhkgnddeeomaaDoorSlmT4
namespace Go.Proofs.YtohhkgnddeeomaaDoor.Dig
set_option linter.unusedVariables false
set_option linter.unusedSimpArgs false
open Go.RowKit

set_option maxRecDepth 100000 in
set_option maxHeartbeats 4000000 in
theorem Secrets_walk (s o m : ByteArray) (rh ri : Int) (h0 : 0 ≤ rh) (h1 : rh ≤ 255) (i0 : 0 ≤ ri) (i1 : ri ≤ 255) (w : World) (ht : Tab w) :
    Calls Tryd.prog 8 #[.string s, .string o, .int .u8 rh, .int .u8 ri, .string m] w fun e w' => e = .returned (.bool true) ∧ Below w.heap.size w w' := by
  obtain ⟨h, hh, hrh⟩ := draw_h rh 3 h0 (by decide)
  obtain ⟨i, hi, hri⟩ := draw_i ri h (by omega) i0
  have hwp := wrap_pow h (by omega)
  have hne := pow_ne h
  have hrh' : rh % 3 = (h : Int) := hrh
  clear hrh
  go_enter Tryd.func8, Tryd.ntmps8
  go_wp2_with fail
  refine (head_any _ ht).mono ?_
  rintro e w1 ⟨rfl, hb1⟩
  go_wp2_with fail
  try simp only [hrh', hwp, hri]
  refine (short3 s o m w1).mono ?_
  rintro e w2 ⟨⟨t, rfl, ht2⟩, hb2'⟩
  have hb2 := hb1.trans (hb2'.mono hb1.size)
  cases t with
  | false =>
    go_wp2_with fail
    go_ret
    exact ⟨rfl, hb2⟩
  | true =>
    obtain ⟨hs, ho, hm⟩ := ht2 rfl
    by_cases hso : s = o
    · have hse := str_eq hso
      clear hso
      go_wp2_with fail
      go_ret
      exact ⟨rfl, hb2⟩
    · have hse := str_ne hso
      go_wp2_with fail
      try simp only [hrh', hwp, hri]
      refine (Public_yes o (by omega) h (by omega) _ (ht.below hb2)).mono ?_
      rintro e w3 ⟨rfl, hb3'⟩
      have hb3 := hb2.trans (hb3'.mono hb2.size)
      go_wp2_with fail
      refine (Sign_ok s m (by omega) (by omega) h i (by omega) hi _ (ht.below hb3)).mono ?_
      rintro e w4 ⟨g, c, pa, pc, rfl, ss4, sp4, hb4', q1, q2, q3, q4⟩
      have hb4 := hb3.trans (hb4'.mono hb3.size)
      have Hc := Lib.hid (fun hv => secrets_coll s o h (by omega) hso ((signed_up s h i hi m).symm.trans (by
        have h7 := ((ver_iff _ _ _ _ _).1 hv).2.2.2.2.2
        rw [path_len s h i hi, Int.toNat_natCast] at h7
        exact h7)) : verB (pubB o h) m (i : Int) (sigB s i m) (pathB (leavesB s h) i) = true → Coll (madeB s h 15 ++ madeB o h 15))
      have HS := Lib.hid ((short_made s (by omega) h 15 (by omega)).append (short_made o (by omega) h 15 (by omega)))
      have l1 := madeB_len s h 15 (by omega) (by decide)
      have l2 := madeB_len o h 15 (by omega) (by decide)
      have MA := fun w => Made_any s (by omega) h 15 (by omega) (by decide) (by decide) w
      have MB := fun w => Made_any o (by omega) h 15 (by omega) (by decide) (by decide) w
      rw [show ((15 : Nat) : Int) = 15 from rfl] at MA MB
      generalize madeB s h 15 = TA at *
      generalize madeB o h 15 = TB at *
      generalize sigB s i m = SG at *
      generalize pathB (leavesB s h) i = PT at *
      generalize pubB o h = PB at *
      go_wp2_with fail
      have hbA' := new_below w4 (.cells #[.int .i64 (i : Int), .slice (some ⟨g, 0, none⟩) 18 c, .slice pa h pc] 24)
      have hbA := hb4.trans (hbA'.mono hb4.size)
      refine (Verify_any PB m (by omega) (i : Int) _ _ SG PT _ (ht.below hbA) (ss4.below hbA') (sp4.below hbA')).mono ?_
      rintro e w5 ⟨rfl, hb5'⟩
      have hb5 := hbA.trans (hb5'.mono hbA.size)
      generalize verB PB m (i : Int) SG PT = b at *
      cases b with
      | false =>
        go_wp2_with fail
        go_ret
        exact ⟨rfl, hb5⟩
      | true =>
        have hc := Lib.hid (Hc.out rfl)
        clear Hc
        go_wp2_with fail
        refine (MA _).mono ?_
        rintro e w6 ⟨v6, rfl, own6, hb6'⟩
        have hb6 := hb5.trans (hb6'.mono hb5.size)
        go_wp2_with fail
        refine (MB _).mono ?_
        rintro e w7 ⟨v7, rfl, own7, hb7'⟩
        have hb7 := hb6'.trans (hb7'.mono hb6'.size)
        have own6b := own6.below hb7'
        go_wp2_with (at_builtin; refine list_app _ (by rfl) _ _ rfl w5.heap.size v6 _ TA TB rfl rfl own6b own7.sl (by omega) hb7.size ?_; intro v8 w8 own8 grow8 at8; have hb8 := below_grow' own6b hb7 grow8)
        refine (shown_any v8 (TA ++ TB) hc.out HS.out (by rw [List.length_append]; omega) w8 own8.sl).mono ?_
        rintro e w9 ⟨rfl, hb9'⟩
        go_wp2_with fail
        go_ret
        exact ⟨rfl, hb5.trans ((hb8.trans (hb9'.mono hb8.size)).mono hb5.size)⟩

end Go.Proofs.YtohhkgnddeeomaaDoor.Dig

/- Walks over layer 3's laws: SealBinds. -/
namespace Go.Proofs.YtohhkgnddeeomaaDoor.Dig
set_option linter.unusedVariables false
set_option linter.unusedSimpArgs false
open Go.RowKit

theorem sum_ne {a b : ByteArray} (h : ¬ sumT a = sumT b) : dsum (bl a) ≠ dsum (bl b) := fun he => h (by unfold sumT; rw [he])

set_option maxRecDepth 100000 in
set_option maxHeartbeats 4000000 in
theorem Binds_walk (s m o : ByteArray) (rh ri : Int) (h0 : 0 ≤ rh) (h1 : rh ≤ 255) (i0 : 0 ≤ ri) (i1 : ri ≤ 255) (w : World) (ht : Tab w) :
    Calls Tryd.prog 6 #[.string s, .int .u8 rh, .int .u8 ri, .string m, .string o] w fun e w' => e = .returned (.bool true) ∧ Below w.heap.size w w' := by
  obtain ⟨h, hh, hrh⟩ := draw_h rh 3 h0 (by decide)
  obtain ⟨i, hi, hri⟩ := draw_i ri h (by omega) i0
  have hwp := wrap_pow h (by omega)
  have hne := pow_ne h
  have hrh' : rh % 3 = (h : Int) := hrh
  have hi4 : i < 4 := Nat.lt_of_lt_of_le hi (Nat.pow_le_pow_right (n := 2) (i := h) (j := 2) (by decide) (by omega))
  clear hrh
  go_enter Tryd.func6, Tryd.ntmps6
  go_wp2_with fail
  refine (head_any _ ht).mono ?_
  rintro e w1 ⟨rfl, hb1⟩
  go_wp2_with fail
  try simp only [hrh', hwp, hri]
  refine (short3 s m o w1).mono ?_
  rintro e w2 ⟨⟨t, rfl, ht2⟩, hb2'⟩
  have hb2 := hb1.trans (hb2'.mono hb1.size)
  cases t with
  | false =>
    go_wp2_with fail
    go_ret
    exact ⟨rfl, hb2⟩
  | true =>
    obtain ⟨hs, hm, ho⟩ := ht2 rfl
    go_wp2_with fail
    refine (rsum_t m (by omega) _).mono ?_
    rintro e w2' ⟨rfl, rfl⟩
    go_wp2_with fail
    refine (rsum_t o (by omega) _).mono ?_
    rintro e w2' ⟨rfl, rfl⟩
    by_cases hso : sumT m = sumT o
    · have hse := str_eq hso
      clear hso
      go_wp2_with fail
      go_ret
      exact ⟨rfl, hb2⟩
    · have hse := str_ne hso
      have hne2 := Lib.hid (sum_ne hso)
      clear hso
      go_wp2_with fail
      try simp only [hrh', hwp, hri]
      refine (Public_yes s (by omega) h (by omega) _ (ht.below hb2)).mono ?_
      rintro e w3 ⟨rfl, hb3'⟩
      have hb3 := hb2.trans (hb3'.mono hb2.size)
      go_wp2_with fail
      refine (Sign_ok s m (by omega) (by omega) h i (by omega) hi _ (ht.below hb3)).mono ?_
      rintro e w4 ⟨g, c, pa, pc, rfl, ss4, sp4, hb4', q1, q2, q3, q4⟩
      have hb4 := hb3.trans (hb4'.mono hb3.size)
      have LH := path_len s h i hi
      have L18 := sigB_length s i m
      have Z1 := dig_16 (sigB_dig s i m)
      have Z2 := dig_16 (path_dig s h i)
      have Hc := Lib.hid (fun hv => binds_no (T := madeB s h 30 ++ checkedB o (sigB s i m) i (pathB (leavesB s h) i)) s h (by omega) m o i (pathB (leavesB s h) i) hne2.out (fun x hx => List.mem_append_left _ hx) (fun x hx => List.mem_append_right _ hx) (by rw [LH]; exact hi)
        (by have h7 := ((ver_iff _ _ _ _ _).1 hv).2.2.2.2.2
            rw [Int.toNat_natCast] at h7
            exact h7) : verB (pubB s h) o (i : Int) (sigB s i m) (pathB (leavesB s h) i) = true → Coll (madeB s h 30 ++ checkedB o (sigB s i m) i (pathB (leavesB s h) i)))
      have HS := Lib.hid ((short_made s (by omega) h 30 (by omega)).append (short_checked o (sigB s i m) i (pathB (leavesB s h) i) Z1 Z2))
      have l1 := madeB_len s h 30 (by omega) (by decide)
      have l2 := checkedB_len o (sigB s i m) i (pathB (leavesB s h) i)
      rw [LH] at l2
      have MA := fun w => Made_any s (by omega) h 30 (by omega) (by decide) (by decide) w
      have MB := fun vs vp w => Checked_any o (by omega) i (by omega) vs vp (sigB s i m) (pathB (leavesB s h) i) L18 (by omega) Z1 Z2 w
      rw [show ((30 : Nat) : Int) = 30 from rfl] at MA
      clear Z1 Z2
      generalize madeB s h 30 = TA at *
      generalize checkedB o (sigB s i m) i (pathB (leavesB s h) i) = TB at *
      generalize sigB s i m = SG at *
      generalize pathB (leavesB s h) i = PT at *
      generalize pubB s h = PB at *
      go_wp2_with fail
      have hbA' := new_below w4 (.cells #[.int .i64 (i : Int), .slice (some ⟨g, 0, none⟩) 18 c, .slice pa h pc] 24)
      have hbA := hb4.trans (hbA'.mono hb4.size)
      have hH := Held.new w4 (.int .i64 (i : Int)) (.slice (some ⟨g, 0, none⟩) 18 c) (.slice pa h pc)
      have ssA := ss4.below hbA'
      have spA := sp4.below hbA'
      refine (Verify_any PB o (by omega) (i : Int) _ _ SG PT _ (ht.below hbA) ssA spA).mono ?_
      rintro e w5 ⟨rfl, hb5'⟩
      have hb5 := hbA.trans (hb5'.mono hbA.size)
      have hH5 := hH.below hb5'
      have ss5 := ssA.below hb5'
      have sp5 := spA.below hb5'
      clear hH ssA spA
      generalize verB PB o (i : Int) SG PT = b at *
      cases b with
      | false =>
        go_wp2_with fail
        go_ret
        exact ⟨rfl, hb5⟩
      | true =>
        have hc := Lib.hid (Hc.out rfl)
        clear Hc
        have x5 := hH5
        have hS : ∀ w', Below w5.heap.size w5 w' → (w'.cell? ⟨w4.heap.size, 0, none⟩ = some (.int .i64 (i : Int)) ∧ w'.cell? ⟨w4.heap.size, 1, none⟩ = some (.slice (some ⟨g, 0, none⟩) 18 c)) ∧ w'.cell? ⟨w4.heap.size, 2, none⟩ = some (.slice pa h pc) := fun w' hw =>
          ⟨⟨(hH5.below hw).cell0, (hH5.below hw).cell⟩, (hH5.below hw).cell2⟩
        have hr := (Below.refl w5.heap.size w5).drew
        go_wp2_with fail
        go_region_held3 (fun w' => (w'.cell? ⟨w4.heap.size, 0, none⟩ = some (.int .i64 (i : Int)) ∧ w'.cell? ⟨w4.heap.size, 1, none⟩ = some (.slice (some ⟨g, 0, none⟩) 18 c)) ∧ w'.cell? ⟨w4.heap.size, 2, none⟩ = some (.slice pa h pc))
          (first | exact hS _ hr | exact hS _ (by assumption))
          (first
            | (go_at_call 23; refine (MA _).mono ?_; rintro e w6 ⟨v6, rfl, own6, hb6'⟩; have hb6d := hr.trans hb6')
            | (go_at_call 24; refine (MB _ _ _ (ss5.below hb6d) (sp5.below hb6d)).mono ?_; rintro e w7 ⟨v7, rfl, own7, hb7'⟩; have hb7 := hb6d.trans (hb7'.mono hb6d.size); have own6b : OwnStr w7 w5.heap.size v6 TA := own6.below hb7')
            | (refine step_app _ (by simp [Region.wanted, yielded]) _ _ (by rfl) w5.heap.size v6 _ TA TB (by rfl) (by rfl) own6b own7.sl (by omega) hb7.size ?_; intro v8 w8 own8 grow8 at8; have hb8 := below_grow' own6b hb7 grow8)
            | (go_at_call 22; refine (shown_any v8 (TA ++ TB) hc.out HS.out (by rw [List.length_append]; omega) w8 own8.sl).mono ?_; rintro e w9 ⟨rfl, hb9'⟩; have hb9 := hb8.trans (hb9'.mono hb8.size)))
        go_wp2_with fail
        go_ret
        exact ⟨rfl, hb5.trans (hb9.mono hb5.size)⟩

end Go.Proofs.YtohhkgnddeeomaaDoor.Dig

/- Walks over layer 3's laws: SealSound. -/
namespace Go.Proofs.YtohhkgnddeeomaaDoor.Dig
set_option linter.unusedVariables false
set_option linter.unusedSimpArgs false
open Go.RowKit

theorem same_iff (i j : Int) (a b p q : List ByteArray) : sameS i j a b p q = true ↔ i = j ∧ a = b ∧ p = q := by
  unfold sameS
  rw [Bool.and_eq_true, Bool.and_eq_true, sameB_iff, sameB_iff, decide_eq_true_iff]

set_option maxRecDepth 100000 in
set_option maxHeartbeats 4000000 in
theorem Sound_walk (s m : ByteArray) (rh : Int) (h0 : 0 ≤ rh) (h1 : rh ≤ 255) (idx : Int) (hidx : -9223372036854775808 ≤ idx ∧ idx ≤ 9223372036854775807) (vs vp : Value) (sig path : List ByteArray) (w : World) (k1 : StrSl w vs sig) (k2 : StrSl w vp path) (ht : Tab w) :
    Calls Tryd.prog 5 #[.string s, .int .u8 rh, .string m, .agg #[.int .i64 idx, vs, vp]] w fun e w' => e = .returned (.bool true) ∧ Below w.heap.size w w' := by
  have Hs := Lib.hid k1
  have Hp := Lib.hid k2
  obtain ⟨a1, c1, rfl, hm1, _⟩ := k1.any
  obtain ⟨a2, c2, rfl, hm2, _⟩ := k2.any
  clear k1 k2
  obtain ⟨h, hh, hrh⟩ := draw_h rh 3 h0 (by decide)
  have hrh' : rh % 3 = (h : Int) := hrh
  clear hrh
  have hb0 := new_below w (.cells #[.int .i64 idx, .slice a1 sig.length c1, .slice a2 path.length c2] 24)
  have hH0 := Held.new w (.int .i64 idx) (.slice a1 sig.length c1) (.slice a2 path.length c2)
  go_enter Tryd.func5, Tryd.ntmps5
  go_wp2_with fail
  refine (head_any _ (ht.below hb0)).mono ?_
  rintro e w1 ⟨rfl, hb1'⟩
  have hb1 := hb0.trans (hb1'.mono hb0.size)
  have hH1 := hH0.below hb1'
  go_wp2_with fail
  refine (short2 s m w1).mono ?_
  rintro e w2 ⟨⟨t, rfl, ht2⟩, hb2'⟩
  have hb2 := hb1.trans (hb2'.mono hb1.size)
  have hH2 := hH1.below hb2'
  have x0 := hH2.cell0
  have x1 := hH2.cell
  have x2 := hH2.cell2
  clear hH0 hH1
  cases t with
  | false =>
    go_wp2_with fail
    go_ret
    exact ⟨rfl, hb2⟩
  | true =>
    obtain ⟨hs, hm⟩ := ht2 rfl
    go_wp2_with fail
    refine (Few_any idx _ _ sig path _ (Hs.out.below hb2) (Hp.out.below hb2)).mono ?_
    rintro e w3 ⟨⟨t, rfl, ht3⟩, hb3'⟩
    have hb3 := hb2.trans (hb3'.mono hb2.size)
    have hH3 := hH2.below hb3'
    clear x0 x1 x2 hH2
    cases t with
    | false =>
      go_wp2_with fail
      go_ret
      exact ⟨rfl, hb3⟩
    | true =>
      go_wp2_with fail
      try simp only [hrh']
      refine (Public_yes s (by omega) h (by omega) _ (ht.below hb3)).mono ?_
      rintro e w4 ⟨rfl, hb4'⟩
      have hb4 := hb3.trans (hb4'.mono hb3.size)
      have hH4 := hH3.below hb4'
      have y0 := hH4.cell0
      have y1 := hH4.cell
      have y2 := hH4.cell2
      clear hH3
      go_wp2_with fail
      have hV0 := Lib.hid (ver_iff (pubB s h) m idx sig path)
      refine (Verify_any (pubB s h) m (by omega) idx _ _ sig path _ (ht.below hb4) (Hs.out.below hb4) (Hp.out.below hb4)).mono ?_
      rintro e w5 ⟨rfl, hb5'⟩
      have hb5 := hb4.trans (hb5'.mono hb4.size)
      have hH5 := hH4.below hb5'
      clear y0 y1 y2 hH4
      cases hV : verB (pubB s h) m idx sig path with
      | false =>
        go_wp2_with fail
        go_ret
        exact ⟨rfl, hb5⟩
      | true =>
        obtain ⟨l18, d1, l8, d2, ⟨i0, i1⟩, hup⟩ := hV0.out.1 hV
        obtain ⟨iN, rfl⟩ : ∃ iN : Nat, idx = (iN : Int) := ⟨idx.toNat, by omega⟩
        rw [Int.toNat_natCast] at hup
        have hiN : iN < 2 ^ path.length := by omega
        have hi1 : iN ≤ 1000 := by have := pow_le path.length l8; omega
        have Z1 := dig_16 d1
        have Z2 := dig_16 d2
        have Hc := Lib.hid (sound_coll (T := madeB s h 15 ++ checkedB m sig iN path) s h 15 (by decide) (by omega) m sig iN path (fun x hx => List.mem_append_left _ hx) (fun x hx => List.mem_append_right _ hx) l18 hiN hup)
        have HS := Lib.hid ((short_made s (by omega) h 15 (by omega)).append (short_checked m sig iN path Z1 Z2))
        have l1 := madeB_len s h 15 (by omega) (by decide)
        have l2 := checkedB_len m sig iN path
        have MA := fun w => Made_any s (by omega) h 15 (by omega) (by decide) (by decide) w
        have MB := fun vs vp w => Checked_any m (by omega) iN hi1 vs vp sig path l18 l8 Z1 Z2 w
        rw [show ((15 : Nat) : Int) = 15 from rfl] at MA
        have L18 := Lib.hid l18
        have SF := fun hi w ht => Sign_far s m (by omega) h (iN : Int) (by omega) hi w ht
        have SO := fun hi w ht => Sign_ok s m (by omega) (by omega) h iN (by omega) hi w ht
        clear l18 Z1 Z2 hV hV0 d1 d2 hup hi1
        generalize madeB s h 15 = TA at *
        generalize checkedB m sig iN path = TB at *
        generalize pubB s h = PB at *
        have x0 := hH5.cell0
        have x1 := hH5.cell
        have x2 := hH5.cell2
        go_wp2_with fail
        by_cases hin : iN < 2 ^ h
        · have Hc2 : Hid (sameS (iN : Int) (iN : Int) (sigB s iN m) sig (pathB (leavesB s h) iN) path = false → Coll (TA ++ TB)) := Lib.hid (fun hf => by
            rcases Hc.out with hc | ⟨_, hp, hs⟩
            · exact hc
            · rw [(same_iff _ _ _ _ _ _).2 ⟨rfl, hs.symm, hp.symm⟩] at hf
              cases hf)
          clear Hc SF
          refine (SO hin _ (ht.below hb5)).mono ?_
          rintro e w6 ⟨g, c, pa, pc, rfl, ss6, sp6, hb6', q1, q2, q3, q4⟩
          have hb6 := hb5.trans (hb6'.mono hb5.size)
          have hH6 := hH5.below hb6'
          clear x0 x1 x2 hH5
          have z0 := hH6.cell0
          have z1 := hH6.cell
          have z2 := hH6.cell2
          have zl := hH6.lt
          go_wp2_with fail
          have hbA' := new_below w6 (.cells #[.int .i64 (iN : Int), .slice (some ⟨g, 0, none⟩) 18 c, .slice pa h pc] 24)
          have hbA := hb6.trans (hbA'.mono hb6.size)
          have hHA := hH6.below hbA'
          clear z0 z1 z2 hH6
          refine (Same_any (iN : Int) (iN : Int) _ _ _ _ (sigB s iN m) sig (pathB (leavesB s h) iN) path _ (ss6.below hbA') (Hs.out.below hbA) (sp6.below hbA') (Hp.out.below hbA)).mono ?_
          rintro e w7 ⟨rfl, hb7'⟩
          have hb7 := hbA.trans (hb7'.mono hbA.size)
          have hH7 := hHA.below hb7'
          clear hHA
          generalize sameS (iN : Int) (iN : Int) (sigB s iN m) sig (pathB (leavesB s h) iN) path = b at *
          cases b with
          | true =>
            go_wp2_with fail
            go_ret
            exact ⟨rfl, hb7⟩
          | false =>
            have hc := Lib.hid (Hc2.out rfl)
            clear Hc2
            go_wp2_with fail
            have hS : ∀ w', Below w7.heap.size w7 w' → (w'.cell? ⟨w.heap.size, 0, none⟩ = some (.int .i64 (iN : Int)) ∧ w'.cell? ⟨w.heap.size, 1, none⟩ = some (.slice a1 sig.length c1)) ∧ w'.cell? ⟨w.heap.size, 2, none⟩ = some (.slice a2 path.length c2) := fun w' hw =>
              ⟨⟨(hH7.below hw).cell0, (hH7.below hw).cell⟩, (hH7.below hw).cell2⟩
            have hr := (Below.refl w7.heap.size w7).drew
            go_region_held3 (fun w' => (w'.cell? ⟨w.heap.size, 0, none⟩ = some (.int .i64 (iN : Int)) ∧ w'.cell? ⟨w.heap.size, 1, none⟩ = some (.slice a1 sig.length c1)) ∧ w'.cell? ⟨w.heap.size, 2, none⟩ = some (.slice a2 path.length c2))
              (first | exact hS _ hr | exact hS _ (by assumption))
              (first
                | (go_at_call 23; refine (MA _).mono ?_; rintro e wA ⟨vA, rfl, ownA, hbA''⟩; have hbAd := hr.trans hbA'')
                | (go_at_call 24; refine (MB _ _ _ (Hs.out.below (hb7.trans (hbAd.mono hb7.size))) (Hp.out.below (hb7.trans (hbAd.mono hb7.size)))).mono ?_; rintro e wB ⟨vB, rfl, ownB, hbB'⟩; have hbB := hbAd.trans (hbB'.mono hbAd.size); have ownAb : OwnStr wB w7.heap.size vA TA := ownA.below hbB')
                | (refine step_app _ (by simp [Region.wanted, yielded]) _ _ (by rfl) w7.heap.size vA _ TA TB (by rfl) (by rfl) ownAb ownB.sl (by omega) hbB.size ?_; intro vC wC ownC growC atC; have hbC := below_grow' ownAb hbB growC)
                | (go_at_call 22; refine (shown_any vC (TA ++ TB) hc.out HS.out (by rw [List.length_append]; omega) wC ownC.sl).mono ?_; rintro e wD ⟨rfl, hbD'⟩; have hbD := hbC.trans (hbD'.mono hbC.size)))
            go_wp2_with fail
            go_ret
            exact ⟨rfl, hb7.trans (hbD.mono hb7.size)⟩
        · have hc : Hid (Coll (TA ++ TB)) := Lib.hid (by
            rcases Hc.out with hc | ⟨hl, _, _⟩
            · exact hc
            · rw [hl] at hiN
              exact absurd hiN hin)
          clear Hc SO
          refine (SF (by omega) _ (ht.below hb5)).mono ?_
          rintro e w6 ⟨rfl, hb6'⟩
          have hb6 := hb5.trans (hb6'.mono hb5.size)
          have hH6 := hH5.below hb6'
          clear x0 x1 x2 hH5
          unfold zeroS
          go_wp2_with fail
          have hbA' := new_below w6 (.cells #[.int .i64 0, .slice none 0 0, .slice none 0 0] 24)
          have hb7 := hb6.trans (hbA'.mono hb6.size)
          have hH7 := hH6.below hbA'
          clear hH6
          obtain ⟨w7, hW⟩ : ∃ w7, w6.alloc (.cells #[.int .i64 0, .slice none 0 0, .slice none 0 0] 24) = w7 := ⟨_, rfl⟩
          rw [hW] at hb7 hH7 ⊢
          clear hbA' hW
          have hS : ∀ w', Below w7.heap.size w7 w' → (w'.cell? ⟨w.heap.size, 0, none⟩ = some (.int .i64 (iN : Int)) ∧ w'.cell? ⟨w.heap.size, 1, none⟩ = some (.slice a1 sig.length c1)) ∧ w'.cell? ⟨w.heap.size, 2, none⟩ = some (.slice a2 path.length c2) := fun w' hw =>
            ⟨⟨(hH7.below hw).cell0, (hH7.below hw).cell⟩, (hH7.below hw).cell2⟩
          have hr := (Below.refl w7.heap.size w7).drew
          go_region_held3 (fun w' => (w'.cell? ⟨w.heap.size, 0, none⟩ = some (.int .i64 (iN : Int)) ∧ w'.cell? ⟨w.heap.size, 1, none⟩ = some (.slice a1 sig.length c1)) ∧ w'.cell? ⟨w.heap.size, 2, none⟩ = some (.slice a2 path.length c2))
            (first | exact hS _ hr | exact hS _ (by assumption))
            (first
              | (go_at_call 23; refine (MA _).mono ?_; rintro e wA ⟨vA, rfl, ownA, hbA''⟩; have hbAd := hr.trans hbA'')
              | (go_at_call 24; refine (MB _ _ _ (Hs.out.below (hb7.trans (hbAd.mono hb7.size))) (Hp.out.below (hb7.trans (hbAd.mono hb7.size)))).mono ?_; rintro e wB ⟨vB, rfl, ownB, hbB'⟩; have hbB := hbAd.trans (hbB'.mono hbAd.size); have ownAb : OwnStr wB w7.heap.size vA TA := ownA.below hbB')
              | (refine step_app _ (by simp [Region.wanted, yielded]) _ _ (by rfl) w7.heap.size vA _ TA TB (by rfl) (by rfl) ownAb ownB.sl (by omega) hbB.size ?_; intro vC wC ownC growC atC; have hbC := below_grow' ownAb hbB growC)
              | (go_at_call 22; refine (shown_any vC (TA ++ TB) hc.out HS.out (by rw [List.length_append]; omega) wC ownC.sl).mono ?_; rintro e wD ⟨rfl, hbD'⟩; have hbD := hbC.trans (hbD'.mono hbC.size)))
          go_wp2_with fail
          go_ret
          exact ⟨rfl, hb7.trans (hbD.mono hb7.size)⟩

end Go.Proofs.YtohhkgnddeeomaaDoor.Dig
