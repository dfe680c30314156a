/- Walks over package fraction: Parse. -/
import Derived.Test.YtflnhjfmlminoaaDoorFrcW13
import Derived.Deep.DeepCutAuto
namespace Go.Proofs.YtflnhjfmlminoaaDoor.Fr
set_option linter.unusedVariables false
set_option linter.unusedSimpArgs false
open Go.RowKit

theorem txE_zero {n d : Int} : txE n d = 0 ↔ valP n d := by
  unfold txE
  split
  · rename_i h; exact ⟨fun _ => h, fun _ => rfl⟩
  · rename_i h; exact ⟨fun k => by omega, fun k => absurd k h⟩
theorem bytes_eq {l : List UInt8} {s : ByteArray} : (ByteArray.mk l.toArray = s) ↔ l = s.data.toList := by
  constructor
  · rintro rfl
    simp
  · intro h
    apply ByteArray.ext
    simp [h]

theorem parse_any (s : ByteArray) (hs : s.size ≤ 1000) (w : World) (hl : Lay w) :
    Calls Tryd.prog 24 #[.string s] w fun e w' => e = .returned (.tuple #[.agg #[.int .i64 (parV s.data.toList).1, .int .i64 (parV s.data.toList).2.1], .int .i64 (parV s.data.toList).2.2]) ∧ Below w.heap.size w w' := by
  generalize hP : parV s.data.toList = P
  have HP := Lib.hid hP
  clear hP
  obtain ⟨F, G, hF, hG, zF, zG, hFG⟩ := cut_lists s
  have HF := Lib.hid hF
  have HG := Lib.hid hG
  clear hF hG
  have t2 := Two.new w 23 (.int .i64 0) (.int .i64 0)
  have hb0 : Below w.heap.size w (w.alloc (.cells #[.int .i64 0, .int .i64 0] 23)) := (Below.refl w.heap.size w).alloc (Nat.le_refl _) _
  have hl0 := hl.below hb0
  rcases hFG with ⟨hi, hF0, hG0⟩ | ⟨i, hi, hF0, hG0⟩
  · have HC := Lib.hid (fun w => cut_no s hi w)
    have HF0 := Lib.hid hF0
    have HG0 := Lib.hid hG0
    clear hi hF0 hG0
    go_enter Tryd.func24, Tryd.ntmps24
    go_upto_region 1 with fail
    generalize w.alloc (.cells #[.int .i64 0, .int .i64 0] 23) = W at *
    go_wp2_with fail
    refine (HC.out _).mono ?_
    rintro e w1 ⟨rfl, hb1⟩
    have HF1 := Lib.hid ((congrArg (fun b : ByteArray => b.data.toList) HF0.out).symm.trans HF.out)
    clear HF
    have HF := HF1
    clear HF1
    go_upto_region 4 with fail
    rw [← HG0.out]
    clear HC HF0 HG0
    go_wp2_with fail
    refine (atoi_any _ (by omega) _ (hl0.below hb1)).mono ?_
    rintro e w2 ⟨n, v, rfl, hv, hb2'⟩
    have hb2 := hb1.trans (hb2'.mono hb1.size)
    rw [HF.out] at hv
    go_wp2_with fail
    refine (atoi_any G (by omega) _ (hl0.below hb2)).mono ?_
    rintro e w3 ⟨d, u, rfl, hu, hb3'⟩
    have hb3 := hb2.trans (hb3'.mono hb2.size)
    rw [HG.out] at hu
    rcases hv with ⟨rfl, hv⟩ | ⟨pv, rfl, hv⟩
    · rcases hu with ⟨rfl, hu⟩ | ⟨pu, rfl, hu⟩
      · have hl3 := hl0.below hb3
        have HV := Lib.hid hv
        have HU := Lib.hid hu
        clear hv hu
        have hlx := hl3.below ((Below.refl w3.heap.size w3).alloc (Nat.le_refl _) (.cells #[.int .i64 n, .int .i64 d] 23))
        have x3 := Two.new w3 23 (.int .i64 n) (.int .i64 d)
        go_wp2_with fail
        refine (text_any n d _ hlx).mono ?_
        rintro e w4 ⟨rfl, hb4⟩
        have hb34 : Below W.heap.size W w4 := (hb3.alloc hb3.size _).trans (hb4.mono (by have := hb3.size; simp; omega))
        have t4 := t2.below hb34 t2.lt
        obtain ⟨c1, c2, c3, c4⟩ := t4.facts
        obtain ⟨d1, d2, d3, d4⟩ := (x3.below hb4 x3.lt).facts
        have hbx := hb0.trans (hb34.mono hb0.size)
        by_cases hval : valP n d
        · by_cases ht : txL n d = s.data.toList
          · have hP := HP.out
            rw [par_yes hval ht] at hP
            subst hP
            have he : txE n d = 0 := txE_zero.2 hval
            have hteq := bytes_eq.2 ht
            rw [he, hteq]
            go_wp2_with fail
            refine bodyPost_ret (v := .tuple #[.agg #[.int .i64 n, .int .i64 d], .int .i64 0]) ?_ rfl ⟨rfl, ?_⟩
            · simp [results, Tryd.results24, go_sem, c1, c2]
            · exact (hbx.setCell (Nat.le_refl _) _).setCell (Nat.le_refl _) _
          · have hP := HP.out
            rw [par_by HV.out HU.out (fun k => ht k.2)] at hP
            subst hP
            have he : txE n d = 0 := txE_zero.2 hval
            have htne : (txL n d == s.toList) = false := by
              rw [beq_eq_false_iff_ne, ByteArray.toList_eq]
              exact ht
            rw [he]
            go_wp2_with fail
            refine bodyPost_ret (v := .tuple #[.agg #[.int .i64 0, .int .i64 0], .int .i64 5]) ?_ rfl ⟨rfl, ?_⟩
            · simp [results, Tryd.results24, go_sem, c1, c2]
            · exact (hbx.setCell (Nat.le_refl _) _).setCell (Nat.le_refl _) _
        · have hP := HP.out
          rw [par_by HV.out HU.out (fun k => hval k.1)] at hP
          subst hP
          have he : txE n d = 1 := by unfold txE; rw [if_neg hval]
          rw [he]
          go_wp2_with fail
          refine bodyPost_ret (v := .tuple #[.agg #[.int .i64 0, .int .i64 0], .int .i64 5]) ?_ rfl ⟨rfl, ?_⟩
          · simp [results, Tryd.results24, go_sem, c1, c2]
          · exact (hbx.setCell (Nat.le_refl _) _).setCell (Nat.le_refl _) _
      · have hP := HP.out
        rw [par_bad (.inr hu)] at hP
        subst hP
        clear hv hu
        obtain ⟨c1, c2, c3, c4⟩ := (t2.below hb3 t2.lt).facts
        have hbx := hb0.trans (hb3.mono hb0.size)
        go_wp2_with fail
        refine bodyPost_ret (v := .tuple #[.agg #[.int .i64 0, .int .i64 0], .int .i64 5]) ?_ rfl ⟨rfl, ?_⟩
        · simp [results, Tryd.results24, go_sem, c1, c2]
        · exact (hbx.setCell (Nat.le_refl _) _).setCell (Nat.le_refl _) _
    · have hP := HP.out
      rw [par_bad (.inl hv)] at hP
      subst hP
      clear hv hu
      obtain ⟨c1, c2, c3, c4⟩ := (t2.below hb3 t2.lt).facts
      have hbx := hb0.trans (hb3.mono hb0.size)
      go_wp2_with fail
      refine bodyPost_ret (v := .tuple #[.agg #[.int .i64 0, .int .i64 0], .int .i64 5]) ?_ rfl ⟨rfl, ?_⟩
      · simp [results, Tryd.results24, go_sem, c1, c2]
      · exact (hbx.setCell (Nat.le_refl _) _).setCell (Nat.le_refl _) _
  · have HC := Lib.hid (fun w => cut_yes s i hi (by omega) w)
    have HF0 := Lib.hid hF0
    have HG0 := Lib.hid hG0
    clear hi hF0 hG0
    go_enter Tryd.func24, Tryd.ntmps24
    go_upto_region 1 with fail
    generalize w.alloc (.cells #[.int .i64 0, .int .i64 0] 23) = W at *
    go_wp2_with fail
    refine (HC.out _).mono ?_
    rintro e w1 ⟨rfl, hb1⟩
    rw [← HF0.out, ← HG0.out]
    clear HC HF0 HG0
    go_upto_region 4 with fail
    go_wp2_with fail
    refine (atoi_any _ (by omega) _ (hl0.below hb1)).mono ?_
    rintro e w2 ⟨n, v, rfl, hv, hb2'⟩
    have hb2 := hb1.trans (hb2'.mono hb1.size)
    rw [HF.out] at hv
    go_wp2_with fail
    refine (atoi_any G (by omega) _ (hl0.below hb2)).mono ?_
    rintro e w3 ⟨d, u, rfl, hu, hb3'⟩
    have hb3 := hb2.trans (hb3'.mono hb2.size)
    rw [HG.out] at hu
    rcases hv with ⟨rfl, hv⟩ | ⟨pv, rfl, hv⟩
    · rcases hu with ⟨rfl, hu⟩ | ⟨pu, rfl, hu⟩
      · have hl3 := hl0.below hb3
        have HV := Lib.hid hv
        have HU := Lib.hid hu
        clear hv hu
        have hlx := hl3.below ((Below.refl w3.heap.size w3).alloc (Nat.le_refl _) (.cells #[.int .i64 n, .int .i64 d] 23))
        have x3 := Two.new w3 23 (.int .i64 n) (.int .i64 d)
        go_wp2_with fail
        refine (text_any n d _ hlx).mono ?_
        rintro e w4 ⟨rfl, hb4⟩
        have hb34 : Below W.heap.size W w4 := (hb3.alloc hb3.size _).trans (hb4.mono (by have := hb3.size; simp; omega))
        have t4 := t2.below hb34 t2.lt
        obtain ⟨c1, c2, c3, c4⟩ := t4.facts
        obtain ⟨d1, d2, d3, d4⟩ := (x3.below hb4 x3.lt).facts
        have hbx := hb0.trans (hb34.mono hb0.size)
        by_cases hval : valP n d
        · by_cases ht : txL n d = s.data.toList
          · have hP := HP.out
            rw [par_yes hval ht] at hP
            subst hP
            have he : txE n d = 0 := txE_zero.2 hval
            have hteq := bytes_eq.2 ht
            rw [he, hteq]
            go_wp2_with fail
            refine bodyPost_ret (v := .tuple #[.agg #[.int .i64 n, .int .i64 d], .int .i64 0]) ?_ rfl ⟨rfl, ?_⟩
            · simp [results, Tryd.results24, go_sem, c1, c2]
            · exact (hbx.setCell (Nat.le_refl _) _).setCell (Nat.le_refl _) _
          · have hP := HP.out
            rw [par_by HV.out HU.out (fun k => ht k.2)] at hP
            subst hP
            have he : txE n d = 0 := txE_zero.2 hval
            have htne : (txL n d == s.toList) = false := by
              rw [beq_eq_false_iff_ne, ByteArray.toList_eq]
              exact ht
            rw [he]
            go_wp2_with fail
            refine bodyPost_ret (v := .tuple #[.agg #[.int .i64 0, .int .i64 0], .int .i64 5]) ?_ rfl ⟨rfl, ?_⟩
            · simp [results, Tryd.results24, go_sem, c1, c2]
            · exact (hbx.setCell (Nat.le_refl _) _).setCell (Nat.le_refl _) _
        · have hP := HP.out
          rw [par_by HV.out HU.out (fun k => hval k.1)] at hP
          subst hP
          have he : txE n d = 1 := by unfold txE; rw [if_neg hval]
          rw [he]
          go_wp2_with fail
          refine bodyPost_ret (v := .tuple #[.agg #[.int .i64 0, .int .i64 0], .int .i64 5]) ?_ rfl ⟨rfl, ?_⟩
          · simp [results, Tryd.results24, go_sem, c1, c2]
          · exact (hbx.setCell (Nat.le_refl _) _).setCell (Nat.le_refl _) _
      · have hP := HP.out
        rw [par_bad (.inr hu)] at hP
        subst hP
        clear hv hu
        obtain ⟨c1, c2, c3, c4⟩ := (t2.below hb3 t2.lt).facts
        have hbx := hb0.trans (hb3.mono hb0.size)
        go_wp2_with fail
        refine bodyPost_ret (v := .tuple #[.agg #[.int .i64 0, .int .i64 0], .int .i64 5]) ?_ rfl ⟨rfl, ?_⟩
        · simp [results, Tryd.results24, go_sem, c1, c2]
        · exact (hbx.setCell (Nat.le_refl _) _).setCell (Nat.le_refl _) _
    · have hP := HP.out
      rw [par_bad (.inl hv)] at hP
      subst hP
      clear hv hu
      obtain ⟨c1, c2, c3, c4⟩ := (t2.below hb3 t2.lt).facts
      have hbx := hb0.trans (hb3.mono hb0.size)
      go_wp2_with fail
      refine bodyPost_ret (v := .tuple #[.agg #[.int .i64 0, .int .i64 0], .int .i64 5]) ?_ rfl ⟨rfl, ?_⟩
      · simp [results, Tryd.results24, go_sem, c1, c2]
      · exact (hbx.setCell (Nat.le_refl _) _).setCell (Nat.le_refl _) _
end Go.Proofs.YtflnhjfmlminoaaDoor.Fr
