/- Walks over layer 3's laws: SealSecrets. -/
import Derived.Test.YtohhkgnddeeomaaDoorSlmL2
import Derived.Test.YtohhkgnddeeomaaDoorSlmT4
namespace Go.Proofs.YtohhkgnddeeomaaDoor.Dig
set_option linter.unusedVariables false
set_option linter.unusedSimpArgs false
open Go.RowKit

set_option maxRecDepth 100000 in
set_option maxHeartbeats 4000000 in
theorem Secrets_walk (s o m : ByteArray) (rh ri : Int) (h0 : 0 ≤ rh) (h1 : rh ≤ 255) (i0 : 0 ≤ ri) (i1 : ri ≤ 255) (w : World) (ht : Tab w) :
    Calls Tryd.prog 8 #[.string s, .string o, .int .u8 rh, .int .u8 ri, .string m] w fun e w' => e = .returned (.bool true) ∧ Below w.heap.size w w' := by
  obtain ⟨h, hh, hrh⟩ := draw_h rh 3 h0 (by decide)
  obtain ⟨i, hi, hri⟩ := draw_i ri h (by omega) i0
  have hwp := wrap_pow h (by omega)
  have hne := pow_ne h
  have hrh' : rh % 3 = (h : Int) := hrh
  clear hrh
  go_enter Tryd.func8, Tryd.ntmps8
  go_wp2_with fail
  refine (head_any _ ht).mono ?_
  rintro e w1 ⟨rfl, hb1⟩
  go_wp2_with fail
  try simp only [hrh', hwp, hri]
  refine (short3 s o m w1).mono ?_
  rintro e w2 ⟨⟨t, rfl, ht2⟩, hb2'⟩
  have hb2 := hb1.trans (hb2'.mono hb1.size)
  cases t with
  | false =>
    go_wp2_with fail
    go_ret
    exact ⟨rfl, hb2⟩
  | true =>
    obtain ⟨hs, ho, hm⟩ := ht2 rfl
    by_cases hso : s = o
    · have hse := str_eq hso
      clear hso
      go_wp2_with fail
      go_ret
      exact ⟨rfl, hb2⟩
    · have hse := str_ne hso
      go_wp2_with fail
      try simp only [hrh', hwp, hri]
      refine (Public_yes o (by omega) h (by omega) _ (ht.below hb2)).mono ?_
      rintro e w3 ⟨rfl, hb3'⟩
      have hb3 := hb2.trans (hb3'.mono hb2.size)
      go_wp2_with fail
      refine (Sign_ok s m (by omega) (by omega) h i (by omega) hi _ (ht.below hb3)).mono ?_
      rintro e w4 ⟨g, c, pa, pc, rfl, ss4, sp4, hb4', q1, q2, q3, q4⟩
      have hb4 := hb3.trans (hb4'.mono hb3.size)
      have Hc := Lib.hid (fun hv => secrets_coll s o h (by omega) hso ((signed_up s h i hi m).symm.trans (by
        have h7 := ((ver_iff _ _ _ _ _).1 hv).2.2.2.2.2
        rw [path_len s h i hi, Int.toNat_natCast] at h7
        exact h7)) : verB (pubB o h) m (i : Int) (sigB s i m) (pathB (leavesB s h) i) = true → Coll (madeB s h 15 ++ madeB o h 15))
      have HS := Lib.hid ((short_made s (by omega) h 15 (by omega)).append (short_made o (by omega) h 15 (by omega)))
      have l1 := madeB_len s h 15 (by omega) (by decide)
      have l2 := madeB_len o h 15 (by omega) (by decide)
      have MA := fun w => Made_any s (by omega) h 15 (by omega) (by decide) (by decide) w
      have MB := fun w => Made_any o (by omega) h 15 (by omega) (by decide) (by decide) w
      rw [show ((15 : Nat) : Int) = 15 from rfl] at MA MB
      generalize madeB s h 15 = TA at *
      generalize madeB o h 15 = TB at *
      generalize sigB s i m = SG at *
      generalize pathB (leavesB s h) i = PT at *
      generalize pubB o h = PB at *
      go_wp2_with fail
      have hbA' := new_below w4 (.cells #[.int .i64 (i : Int), .slice (some ⟨g, 0, none⟩) 18 c, .slice pa h pc] 24)
      have hbA := hb4.trans (hbA'.mono hb4.size)
      refine (Verify_any PB m (by omega) (i : Int) _ _ SG PT _ (ht.below hbA) (ss4.below hbA') (sp4.below hbA')).mono ?_
      rintro e w5 ⟨rfl, hb5'⟩
      have hb5 := hbA.trans (hb5'.mono hbA.size)
      generalize verB PB m (i : Int) SG PT = b at *
      cases b with
      | false =>
        go_wp2_with fail
        go_ret
        exact ⟨rfl, hb5⟩
      | true =>
        have hc := Lib.hid (Hc.out rfl)
        clear Hc
        go_wp2_with fail
        refine (MA _).mono ?_
        rintro e w6 ⟨v6, rfl, own6, hb6'⟩
        have hb6 := hb5.trans (hb6'.mono hb5.size)
        go_wp2_with fail
        refine (MB _).mono ?_
        rintro e w7 ⟨v7, rfl, own7, hb7'⟩
        have hb7 := hb6'.trans (hb7'.mono hb6'.size)
        have own6b := own6.below hb7'
        go_wp2_with (at_builtin; refine list_app _ (by rfl) _ _ rfl w5.heap.size v6 _ TA TB rfl rfl own6b own7.sl (by omega) hb7.size ?_; intro v8 w8 own8 grow8 at8; have hb8 := below_grow' own6b hb7 grow8)
        refine (shown_any v8 (TA ++ TB) hc.out HS.out (by rw [List.length_append]; omega) w8 own8.sl).mono ?_
        rintro e w9 ⟨rfl, hb9'⟩
        go_wp2_with fail
        go_ret
        exact ⟨rfl, hb5.trans ((hb8.trans (hb9'.mono hb8.size)).mono hb5.size)⟩

end Go.Proofs.YtohhkgnddeeomaaDoor.Dig
