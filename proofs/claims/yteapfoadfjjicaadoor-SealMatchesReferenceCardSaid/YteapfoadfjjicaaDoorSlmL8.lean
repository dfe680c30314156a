/- Walks over layer 3's laws: SealMatchesReference. -/
import Derived.Test.YteapfoadfjjicaaDoorSlmR3
namespace Go.Proofs.YteapfoadfjjicaaDoor.Dig
set_option linter.unusedVariables false
set_option linter.unusedSimpArgs false
open Go.RowKit

/-- both answers of Public -/
theorem pub_both (s : ByteArray) (hs : s.size ≤ 1000) (h : Int) (hh : ¬ (3 < h ∧ h ≤ 8)) : ∃ (P : ByteArray) (E : Int),
    (∀ w, Tab w → Calls Tryd.prog 27 #[.string s, .int .i64 h] w fun e w' => e = .returned (.tuple #[.string P, .int .i64 E]) ∧ Below w.heap.size w w') ∧
    ∀ w, Calls Tryd.prog 28 #[.string s, .int .i64 h] w fun e w' => e = .returned (.tuple #[.string P, .int .i64 E]) ∧ Below w.heap.size w w' := by
  cases hk : okH h with
  | false =>
    refine ⟨⟨#[]⟩, 1, fun w _ => (Public_no s h hk w).mono ?_, fun w => (rPublic_no s h hk w).mono ?_⟩
    · rintro e w' ⟨rfl, rfl⟩; exact ⟨rfl, Below.refl _ _⟩
    · rintro e w' ⟨rfl, rfl⟩; exact ⟨rfl, Below.refl _ _⟩
  | true =>
    have h1 := of_decide_eq_true hk
    obtain ⟨n, rfl⟩ := Int.eq_ofNat_of_zero_le h1.1
    exact ⟨pubB s n, 0, fun w ht => Public_yes s hs n (by omega) w ht, fun w => rPublic_yes s hs n (by omega) w⟩

/-- both answers of Sign -/
theorem sign_both (s m : ByteArray) (hs : s.size ≤ 1000) (hm : m.size ≤ 1000) (h i : Int) : ∃ (I : Int) (S P : List ByteArray) (E : Int),
    (∀ w, Tab w → Calls Tryd.prog 29 #[.string s, .int .i64 h, .int .i64 i, .string m] w fun e w' => ∃ us up, e = .returned (.tuple #[.agg #[.int .i64 I, us, up], .int .i64 E]) ∧ StrSl w' us S ∧ StrSl w' up P ∧ Below w.heap.size w w') ∧
    ∀ w, Calls Tryd.prog 30 #[.string s, .int .i64 h, .int .i64 i, .string m] w fun e w' => ∃ us up, e = .returned (.tuple #[.agg #[.int .i64 I, us, up], .int .i64 E]) ∧ StrSl w' us S ∧ StrSl w' up P ∧ Below w.heap.size w w' := by
  have hz : ∀ w : World, StrSl w (.slice none 0 0) [] := fun w => .inl ⟨rfl, none, 0, rfl⟩
  cases hk : okH h with
  | false =>
    refine ⟨0, [], [], 1, fun w _ => (Sign_high s m h i hk w).mono ?_, fun w => (rSign_high s m h i hk w).mono ?_⟩
    · rintro e w' ⟨rfl, hb⟩; exact ⟨_, _, rfl, hz _, hz _, hb⟩
    · rintro e w' ⟨rfl, hb⟩; exact ⟨_, _, rfl, hz _, hz _, hb⟩
  | true =>
    have h1 := of_decide_eq_true hk
    obtain ⟨n, rfl⟩ := Int.eq_ofNat_of_zero_le h1.1
    by_cases hi : 0 ≤ i ∧ i < ((2 ^ n : Nat) : Int)
    · obtain ⟨j, rfl⟩ := Int.eq_ofNat_of_zero_le hi.1
      have hj := Int.ofNat_lt.1 hi.2
      refine ⟨j, sigB s j m, pathB (leavesB s n) j, 0, fun w ht => (Sign_yes s m hs hm n j (by omega) hj w ht).mono ?_, fun w => rSign_ok s m hs hm n j (by omega) hj w⟩
      rintro e w' ⟨us, up, rfl, h1, h2, h3⟩
      exact ⟨us, up, rfl, h1.sl, h2.sl, h3⟩
    · refine ⟨0, [], [], 1, fun w ht => (Sign_far s m hs n i (by omega) hi w ht).mono ?_, fun w => (rSign_far s m n i (by omega) hi w).mono ?_⟩
      · rintro e w' ⟨rfl, hb⟩; exact ⟨_, _, rfl, hz _, hz _, hb⟩
      · rintro e w' ⟨rfl, hb⟩; exact ⟨_, _, rfl, hz _, hz _, hb⟩

set_option maxRecDepth 100000 in
set_option maxHeartbeats 4000000 in
theorem Match3_walk (s m pub : ByteArray) (h i : Int) (idx : Int) (vs vp : Value) (sig path : List ByteArray) (w : World) (k1 : StrSl w vs sig) (k2 : StrSl w vp path) (ht : Tab w) :
    Calls Tryd.prog 11 #[.string s, .int .i64 h, .int .i64 i, .string m, .string pub, .agg #[.int .i64 idx, vs, vp]] w fun e w' => e = .returned (.bool true) ∧ Below w.heap.size w w' := by
  have Hs := Lib.hid k1
  have Hp := Lib.hid k2
  obtain ⟨a1, c1, rfl, hm1⟩ := strSl_form k1
  obtain ⟨a2, c2, rfl, hm2⟩ := strSl_form k2
  clear k1 k2
  have hb0 := new_below w (.cells #[.int .i64 idx, .slice a1 sig.length c1, .slice a2 path.length c2] 43)
  have hH0 := Held.new w (.int .i64 idx) (.slice a1 sig.length c1) (.slice a2 path.length c2)
  go_enter Tryd.func11, Tryd.ntmps11
  go_wp2_with fail
  refine (head_any _ (ht.below hb0)).mono ?_
  rintro e w1 ⟨rfl, hb1'⟩
  have hb1 := hb0.trans (hb1'.mono hb0.size)
  have hH1 := hH0.below hb1'
  go_wp2_with fail
  refine (short3 s m pub w1).mono ?_
  rintro e w2 ⟨⟨t, rfl, ht2⟩, hb2'⟩
  have hb2 := hb1.trans (hb2'.mono hb1.size)
  have hH2 := hH1.below hb2'
  have x0 := hH2.cell0
  have x1 := hH2.cell
  have x2 := hH2.cell2
  clear hH0 hH1
  cases t with
  | false =>
    go_wp2_with fail
    go_ret
    exact ⟨rfl, hb2⟩
  | true =>
    obtain ⟨hs, hm, hpub⟩ := ht2 rfl
    clear ht2
    go_wp2_with fail
    refine (Few_any idx _ _ sig path _ (Hs.out.below hb2) (Hp.out.below hb2)).mono ?_
    rintro e w3 ⟨⟨t, rfl, ht3⟩, hb3'⟩
    have hb3 := hb2.trans (hb3'.mono hb2.size)
    have hH3 := hH2.below hb3'
    clear x0 x1 x2 hH2
    cases t with
    | false =>
      go_wp2_with fail
      go_ret
      exact ⟨rfl, hb3⟩
    | true =>
      have HF := Lib.hid (ht3 rfl)
      clear ht3
      by_cases hh : 3 < h ∧ h ≤ 8
      · obtain ⟨h3, h8⟩ := hh
        have e1 : ((3 : Int) < h) = True := eq_true h3
        have e2 : (h ≤ (8 : Int)) = True := eq_true h8
        go_wp2_with fail
        go_ret
        exact ⟨rfl, hb3⟩
      · obtain ⟨P, EP, HPu, HRu⟩ := pub_both s (by omega) h hh
        obtain ⟨I, S, Q, ES, HSi, HRi⟩ := sign_both s m (by omega) (by omega) h i
        have HPu := Lib.hid HPu
        have HRu := Lib.hid HRu
        have HSi := Lib.hid HSi
        have HRi := Lib.hid HRi
        have hmm : m.size ≤ 1000 := by omega
        have qP : (P.toList == P.toList) = true := str_eq rfl
        have qE : (EP == EP) = true := by simp
        have qS : (ES == ES) = true := by simp
        have Hsm := Lib.hid (show sameS I I S S Q Q = true from by
          unfold sameS
          rw [(sameB_iff _ _).2 rfl, (sameB_iff _ _).2 rfl]
          simp)
        by_cases h3 : 3 < h
        · have h8 : ¬ h ≤ 8 := fun h8 => hh ⟨h3, h8⟩
          have e1 : ((3 : Int) < h) = True := eq_true h3
          have e2 : (h ≤ (8 : Int)) = False := eq_false h8
          clear hh
          go_wp2_with fail
          refine (HPu.out _ (ht.below hb3)).mono ?_
          rintro e w4 ⟨rfl, hb4'⟩
          have hb4 := hb3.trans (hb4'.mono hb3.size)
          go_wp2_with fail
          refine (HRu.out _).mono ?_
          rintro e w5 ⟨rfl, hb5'⟩
          have hb5 := hb4.trans (hb5'.mono hb4.size)
          have hH5 := (hH3.below hb4').below hb5'
          clear hb4 hb4' hb5' hH3
          go_wp2_with fail
          refine (HSi.out _ (ht.below hb5)).mono ?_
          rintro e w6 ⟨us, up, rfl, ss6, sp6, hb6'⟩
          have hb6 := hb5.trans (hb6'.mono hb5.size)
          obtain ⟨ua, uc, rfl, hu1⟩ := strSl_form ss6
          obtain ⟨pa, pc, rfl, hu2⟩ := strSl_form sp6
          have hbA' := new_below w6 (.cells #[.int .i64 I, .slice ua S.length uc, .slice pa Q.length pc] 43)
          have hX := Held.new w6 (.int .i64 I) (.slice ua S.length uc) (.slice pa Q.length pc)
          have ssA := ss6.below hbA'
          have spA := sp6.below hbA'
          have hbA := hb6.trans (hbA'.mono hb6.size)
          have hHA := (hH5.below hb6').below hbA'
          clear hH5 hb6' hb5 ss6 sp6
          go_wp2_with fail
          refine (HRi.out _).mono ?_
          rintro e w7 ⟨us2, up2, rfl, st7, sq7, hb7'⟩
          obtain ⟨ub, vc, rfl, hu3⟩ := strSl_form st7
          obtain ⟨pb, qc, rfl, hu4⟩ := strSl_form sq7
          have hb7 := hbA.trans (hb7'.mono hbA.size)
          have hX7 := hX.below hb7'
          have hH7 := hHA.below hb7'
          have ss7 := ssA.below hb7'
          have sp7 := spA.below hb7'
          have hbB' := new_below w7 (.cells #[.int .i64 I, .slice ub S.length vc, .slice pb Q.length qc] 43)
          have hXB := hX7.below hbB'
          have hHB := hH7.below hbB'
          have ssB := ss7.below hbB'
          have spB := sp7.below hbB'
          have stB := st7.below hbB'
          have sqB := sq7.below hbB'
          have hbB := hb7.trans (hbB'.mono hb7.size)
          have l1 := hX7.lt
          have x0 := hX7.cell0
          have x1 := hX7.cell
          have x2 := hX7.cell2
          clear hX hHA ssA spA hb7' hbA' hbA ss7 sp7 st7 sq7 hH7
          go_wp2_with fail
          refine (Same_any I I _ _ _ _ S S Q Q _ ssB stB spB sqB).mono ?_
          rintro e w8 ⟨rfl, hb8'⟩
          rw [Hsm.out]
          have hb8 := hbB.trans (hb8'.mono hbB.size)
          have hH8 := hHB.below hb8'
          clear hX7 hbB' hXB hHB ssB spB stB sqB x0 x1 x2 l1 hb8'
          have hr := (Below.refl w8.heap.size w8).drew
          have MV := Lib.hid (fun w' (h : Below w8.heap.size w8 w') => (Verify_any pub m hmm idx _ _ sig path w' (ht.below (hb8.trans (h.mono hb8.size))) (Hs.out.below (hb8.trans (h.mono hb8.size))) (Hp.out.below (hb8.trans (h.mono hb8.size)))).mono (fun e w'' (q : _ ∧ _) => (show e = .returned (.bool (verB pub m idx sig path)) ∧ Below w8.heap.size w8 w'' from ⟨q.1, h.trans (q.2.mono h.size)⟩)))
          have MR := Lib.hid (fun w' (h : Below w8.heap.size w8 w') => (rVerify_any pub m hmm idx _ _ sig path HF.out w' (Hs.out.below (hb8.trans (h.mono hb8.size))) (Hp.out.below (hb8.trans (h.mono hb8.size)))).mono (fun e w'' (q : _ ∧ _) => (show e = .returned (.bool (verB pub m idx sig path)) ∧ Below w8.heap.size w8 w'' from ⟨q.1, h.trans (q.2.mono h.size)⟩)))
          have MV2 := Lib.hid (fun w' (h : Below w8.heap.size w8 w') => (Verify_any P m hmm idx _ _ sig path w' (ht.below (hb8.trans (h.mono hb8.size))) (Hs.out.below (hb8.trans (h.mono hb8.size))) (Hp.out.below (hb8.trans (h.mono hb8.size)))).mono (fun e w'' (q : _ ∧ _) => (show e = .returned (.bool (verB P m idx sig path)) ∧ Below w8.heap.size w8 w'' from ⟨q.1, h.trans (q.2.mono h.size)⟩)))
          have MR2 := Lib.hid (fun w' (h : Below w8.heap.size w8 w') => (rVerify_any P m hmm idx _ _ sig path HF.out w' (Hs.out.below (hb8.trans (h.mono hb8.size))) (Hp.out.below (hb8.trans (h.mono hb8.size)))).mono (fun e w'' (q : _ ∧ _) => (show e = .returned (.bool (verB P m idx sig path)) ∧ Below w8.heap.size w8 w'' from ⟨q.1, h.trans (q.2.mono h.size)⟩)))
          have hS : ∀ w', Below w8.heap.size w8 w' → (w'.cell? ⟨w.heap.size, 0, none⟩ = some (.int .i64 idx) ∧ w'.cell? ⟨w.heap.size, 1, none⟩ = some (.slice a1 sig.length c1)) ∧ w'.cell? ⟨w.heap.size, 2, none⟩ = some (.slice a2 path.length c2) := fun w' hw =>
            ⟨⟨(hH8.below hw).cell0, (hH8.below hw).cell⟩, (hH8.below hw).cell2⟩
          have q1 : (verB pub m idx sig path == verB pub m idx sig path) = true := by simp
          have q2 : (verB P m idx sig path == verB P m idx sig path) = true := by simp
          generalize verB pub m idx sig path = V1 at *
          generalize verB P m idx sig path = V2 at *
          go_wp2_with fail
          go_region_held3 (fun w' => (w'.cell? ⟨w.heap.size, 0, none⟩ = some (.int .i64 idx) ∧ w'.cell? ⟨w.heap.size, 1, none⟩ = some (.slice a1 sig.length c1)) ∧ w'.cell? ⟨w.heap.size, 2, none⟩ = some (.slice a2 path.length c2))
            (first | exact hS _ hr | exact hS _ (by assumption))
            (first
              | (go_at_call 32; have hz := hbB9; refine (MV2.out _ hbB9).mono ?_; rintro e wC ⟨rfl, hbC9⟩)
              | (go_at_call 33; have hz := hbC9; refine (MR2.out _ hbC9).mono ?_; rintro e wD ⟨rfl, hbD9⟩)
              | (go_at_call 32; refine (MV.out _ hr).mono ?_; rintro e wA ⟨rfl, hbA9⟩)
              | (go_at_call 33; refine (MR.out _ hbA9).mono ?_; rintro e wB ⟨rfl, hbB9⟩))
          go_wp2_with fail
          go_ret
          exact ⟨rfl, hb8.trans (hbD9.mono hb8.size)⟩
        · have e1 : ((3 : Int) < h) = False := eq_false h3
          clear hh
          go_wp2_with fail
          refine (HPu.out _ (ht.below hb3)).mono ?_
          rintro e w4 ⟨rfl, hb4'⟩
          have hb4 := hb3.trans (hb4'.mono hb3.size)
          go_wp2_with fail
          refine (HRu.out _).mono ?_
          rintro e w5 ⟨rfl, hb5'⟩
          have hb5 := hb4.trans (hb5'.mono hb4.size)
          have hH5 := (hH3.below hb4').below hb5'
          clear hb4 hb4' hb5' hH3
          go_wp2_with fail
          refine (HSi.out _ (ht.below hb5)).mono ?_
          rintro e w6 ⟨us, up, rfl, ss6, sp6, hb6'⟩
          have hb6 := hb5.trans (hb6'.mono hb5.size)
          obtain ⟨ua, uc, rfl, hu1⟩ := strSl_form ss6
          obtain ⟨pa, pc, rfl, hu2⟩ := strSl_form sp6
          have hbA' := new_below w6 (.cells #[.int .i64 I, .slice ua S.length uc, .slice pa Q.length pc] 43)
          have hX := Held.new w6 (.int .i64 I) (.slice ua S.length uc) (.slice pa Q.length pc)
          have ssA := ss6.below hbA'
          have spA := sp6.below hbA'
          have hbA := hb6.trans (hbA'.mono hb6.size)
          have hHA := (hH5.below hb6').below hbA'
          clear hH5 hb6' hb5 ss6 sp6
          go_wp2_with fail
          refine (HRi.out _).mono ?_
          rintro e w7 ⟨us2, up2, rfl, st7, sq7, hb7'⟩
          obtain ⟨ub, vc, rfl, hu3⟩ := strSl_form st7
          obtain ⟨pb, qc, rfl, hu4⟩ := strSl_form sq7
          have hb7 := hbA.trans (hb7'.mono hbA.size)
          have hX7 := hX.below hb7'
          have hH7 := hHA.below hb7'
          have ss7 := ssA.below hb7'
          have sp7 := spA.below hb7'
          have hbB' := new_below w7 (.cells #[.int .i64 I, .slice ub S.length vc, .slice pb Q.length qc] 43)
          have hXB := hX7.below hbB'
          have hHB := hH7.below hbB'
          have ssB := ss7.below hbB'
          have spB := sp7.below hbB'
          have stB := st7.below hbB'
          have sqB := sq7.below hbB'
          have hbB := hb7.trans (hbB'.mono hb7.size)
          have l1 := hX7.lt
          have x0 := hX7.cell0
          have x1 := hX7.cell
          have x2 := hX7.cell2
          clear hX hHA ssA spA hb7' hbA' hbA ss7 sp7 st7 sq7 hH7
          go_wp2_with fail
          refine (Same_any I I _ _ _ _ S S Q Q _ ssB stB spB sqB).mono ?_
          rintro e w8 ⟨rfl, hb8'⟩
          rw [Hsm.out]
          have hb8 := hbB.trans (hb8'.mono hbB.size)
          have hH8 := hHB.below hb8'
          clear hX7 hbB' hXB hHB ssB spB stB sqB x0 x1 x2 l1 hb8'
          have hr := (Below.refl w8.heap.size w8).drew
          have MV := Lib.hid (fun w' (h : Below w8.heap.size w8 w') => (Verify_any pub m hmm idx _ _ sig path w' (ht.below (hb8.trans (h.mono hb8.size))) (Hs.out.below (hb8.trans (h.mono hb8.size))) (Hp.out.below (hb8.trans (h.mono hb8.size)))).mono (fun e w'' (q : _ ∧ _) => (show e = .returned (.bool (verB pub m idx sig path)) ∧ Below w8.heap.size w8 w'' from ⟨q.1, h.trans (q.2.mono h.size)⟩)))
          have MR := Lib.hid (fun w' (h : Below w8.heap.size w8 w') => (rVerify_any pub m hmm idx _ _ sig path HF.out w' (Hs.out.below (hb8.trans (h.mono hb8.size))) (Hp.out.below (hb8.trans (h.mono hb8.size)))).mono (fun e w'' (q : _ ∧ _) => (show e = .returned (.bool (verB pub m idx sig path)) ∧ Below w8.heap.size w8 w'' from ⟨q.1, h.trans (q.2.mono h.size)⟩)))
          have MV2 := Lib.hid (fun w' (h : Below w8.heap.size w8 w') => (Verify_any P m hmm idx _ _ sig path w' (ht.below (hb8.trans (h.mono hb8.size))) (Hs.out.below (hb8.trans (h.mono hb8.size))) (Hp.out.below (hb8.trans (h.mono hb8.size)))).mono (fun e w'' (q : _ ∧ _) => (show e = .returned (.bool (verB P m idx sig path)) ∧ Below w8.heap.size w8 w'' from ⟨q.1, h.trans (q.2.mono h.size)⟩)))
          have MR2 := Lib.hid (fun w' (h : Below w8.heap.size w8 w') => (rVerify_any P m hmm idx _ _ sig path HF.out w' (Hs.out.below (hb8.trans (h.mono hb8.size))) (Hp.out.below (hb8.trans (h.mono hb8.size)))).mono (fun e w'' (q : _ ∧ _) => (show e = .returned (.bool (verB P m idx sig path)) ∧ Below w8.heap.size w8 w'' from ⟨q.1, h.trans (q.2.mono h.size)⟩)))
          have hS : ∀ w', Below w8.heap.size w8 w' → (w'.cell? ⟨w.heap.size, 0, none⟩ = some (.int .i64 idx) ∧ w'.cell? ⟨w.heap.size, 1, none⟩ = some (.slice a1 sig.length c1)) ∧ w'.cell? ⟨w.heap.size, 2, none⟩ = some (.slice a2 path.length c2) := fun w' hw =>
            ⟨⟨(hH8.below hw).cell0, (hH8.below hw).cell⟩, (hH8.below hw).cell2⟩
          have q1 : (verB pub m idx sig path == verB pub m idx sig path) = true := by simp
          have q2 : (verB P m idx sig path == verB P m idx sig path) = true := by simp
          generalize verB pub m idx sig path = V1 at *
          generalize verB P m idx sig path = V2 at *
          go_wp2_with fail
          go_region_held3 (fun w' => (w'.cell? ⟨w.heap.size, 0, none⟩ = some (.int .i64 idx) ∧ w'.cell? ⟨w.heap.size, 1, none⟩ = some (.slice a1 sig.length c1)) ∧ w'.cell? ⟨w.heap.size, 2, none⟩ = some (.slice a2 path.length c2))
            (first | exact hS _ hr | exact hS _ (by assumption))
            (first
              | (go_at_call 32; have hz := hbB9; refine (MV2.out _ hbB9).mono ?_; rintro e wC ⟨rfl, hbC9⟩)
              | (go_at_call 33; have hz := hbC9; refine (MR2.out _ hbC9).mono ?_; rintro e wD ⟨rfl, hbD9⟩)
              | (go_at_call 32; refine (MV.out _ hr).mono ?_; rintro e wA ⟨rfl, hbA9⟩)
              | (go_at_call 33; refine (MR.out _ hbA9).mono ?_; rintro e wB ⟨rfl, hbB9⟩))
          go_wp2_with fail
          go_ret
          exact ⟨rfl, hb8.trans (hbD9.mono hb8.size)⟩

end Go.Proofs.YteapfoadfjjicaaDoor.Dig
