/- The walk over DigestLists. -/
import Derived.Test.YtgmncimfpbjmjaaDoorDigLawMatch
import Derived.Test.YtgmncimfpbjmjaaDoorDigJoinInj
import Derived.Deep.QuietTactic
import Derived.BigQuiet
import Derived.Deep.Cut
import Derived.Deep.CutRange
import Derived.Deep.DeepCutAuto
namespace Go.Proofs.YtgmncimfpbjmjaaDoor.Dig
set_option linter.unusedVariables false
set_option linter.unusedSimpArgs false
open Go.RowKit

theorem list_one (s : ByteArray) (hs : s.size ≤ 1000) (w : World) (ht : Tab w) :
    Calls Tryd.prog 14 #[.slice (some ⟨w.heap.size, 0, none⟩) 1 1] (w.alloc (Obj.cells #[Value.string s] 9)) fun e w' => e = .returned (.string ⟨(dsum (joinB [s])).toArray⟩) ∧ Below w.heap.size w w' := by
  have hb : Below w.heap.size w (w.alloc (Obj.cells #[Value.string s] 9)) := (Below.refl _ _).alloc (Nat.le_refl _) _
  have hlim : (joinB [s]).length ≤ 140737488355328 := by
    have h := joinB_len 1000 (by decide) [s] (fun x hx => by simp at hx; subst hx; exact hs)
    simp at h
    omega
  have h := list_any (.slice (some ⟨w.heap.size, 0, none⟩) 1 1) [s] _ (ht.below hb) (.inr ⟨w.heap.size, 0, 1, rfl, by simp, by simp, by simp [maxLen], by
    intro i hi
    match i, hi with
    | 0, _ => simp⟩) hlim
  exact h.mono fun e w' ⟨he, hw⟩ => ⟨he, hb.trans (hw.mono (by simp))⟩

theorem cut_join (A two : ByteArray) (n : Nat) (hA : A.size = n) (hn : n ≤ two.size) :
    (A.extract 0 (min (n : Int) 6).toNat ++ two.extract (min (n : Int) 6).toNat n).size = n ∧
      (bl A).take (min n 6) = (bl (A.extract 0 (min (n : Int) 6).toNat ++ two.extract (min (n : Int) 6).toNat n)).take (min n 6) := by
  have hq : (min (n : Int) 6).toNat = min n 6 := by omega
  rw [hq]
  constructor
  · simp
    omega
  · have e : bl (A.extract 0 (min n 6) ++ two.extract (min n 6) n) = (bl A).take (min n 6) ++ bl (two.extract (min n 6) n) := by
      show (A.extract 0 (min n 6) ++ two.extract (min n 6) n).data.toList = _
      rw [ByteArray.data_append, Array.toList_append, Lib.extract_data A, List.drop_zero, Nat.sub_zero]
    have hl : ((bl A).take (min n 6)).length = min n 6 := by rw [List.length_take, ← Lib.size_eq]; omega
    rw [e, List.take_append_of_le_length (by omega), List.take_take, Nat.min_self]

theorem one_eq (A B : ByteArray) (n : Nat) (hA : A.size = n) (hB : B.size = n) (h9 : n ≤ 9) (hag : (bl A).take (min n 6) = (bl B).take (min n 6)) :
    ((dsum (joinB [A]) == dsum (joinB [B])) == (A.toList == B.toList)) = true := by
  have h : (dsum (joinB [A]) == dsum (joinB [B])) = (A.toList == B.toList) := by
    rw [ByteArray.toList_eq, ByteArray.toList_eq, Bool.eq_iff_iff]
    simp only [beq_iff_eq]
    refine ⟨fun h => one_inj A B n hA hB h9 hag h, fun h => ?_⟩
    rw [joinB_congr [A] [B] (by simpa using h)]
  rw [h]
  simp

set_option maxRecDepth 100000 in
set_option maxHeartbeats 2000000 in
theorem lists_walk (v u : Value) (l m : List ByteArray) (one two : ByteArray) (h1 : one.size ≤ maxLen) (h2 : two.size ≤ maxLen) (w : World) (hl : StrSl w v l) (hm : StrSl w u m) (ht : Tab w) :
    Calls Tryd.prog 9 #[v, u, .string one, .string two] w fun e w' => e = .returned (.bool true) ∧ Below w.heap.size w w' := by
  unfold maxLen at h1 h2
  go_enter Tryd.func9, Tryd.ntmps9
  go_wp2_with fail
  refine (head_any _ ht).mono ?_
  rintro e w1 ⟨rfl, hb1⟩
  go_wp2_with fail
  refine (few_any v l 200 _ (hl.below hb1)).mono ?_
  rintro e w2 ⟨rfl, rfl⟩
  cases hf : fewB l 200 with
  | false =>
    go_wp2_with fail
    go_ret
    exact ⟨rfl, hb1⟩
  | true =>
    go_wp2_with fail
    refine (few_any u m 200 _ (hm.below hb1)).mono ?_
    rintro e w2 ⟨rfl, rfl⟩
    cases hg : fewB m 200 with
    | false =>
      go_wp2_with fail
      go_ret
      exact ⟨rfl, hb1⟩
    | true =>
      obtain ⟨jl, _⟩ := few_len l hf
      obtain ⟨jm, _⟩ := few_len m hg
      have rl := few_room l hf
      have rm := few_room m hg
      have Hf := Lib.hid hf
      have Hg := Lib.hid hg
      clear hf hg
      go_wp2_with fail
      refine (rjoined_any v l _ (hl.below hb1) (by omega) (by omega)).mono ?_
      rintro e w3 ⟨rfl, hb3'⟩
      have hb3 := hb1.trans (hb3'.mono hb1.size)
      clear hb3'
      go_wp2_with fail
      refine (rjoined_any u m _ (hm.below hb3) (by omega) (by omega)).mono ?_
      rintro e w4 ⟨rfl, hb4'⟩
      have hb4 := hb3.trans (hb4'.mono hb3.size)
      clear hb4'
      go_wp2_with fail
      refine (list_any v l _ (ht.below hb4) (hl.below hb4) (by omega)).mono ?_
      rintro e w5 ⟨rfl, hb5'⟩
      have hb5 := hb4.trans (hb5'.mono hb4.size)
      clear hb5'
      go_wp2_with fail
      refine (sum_any ⟨(joinB l).toArray⟩ (by rw [Lib.size_eq]; simp only [List.toList_toArray]; omega) _).mono ?_
      rintro e w6 ⟨rfl, hb6'⟩
      have hb6 := hb5.trans (hb6'.mono hb5.size)
      clear hb6'
      have hjs := joinB_same l m
      go_wp2_with fail
      refine (rsame_any v u l m _ (hl.below hb6) (hm.below hb6)).mono ?_
      rintro e w7 ⟨rfl, hb7'⟩
      have hb7 := hb6.trans (hb7'.mono hb6.size)
      clear hb7' hb1 hb3 hb4 hb5 hb6
      go_upto_region 8 with fail
      go_cut [59] (fun x wx => x = .bool false ∧ Below w.heap.size w wx)
      case first =>
        by_cases c1 : (joinB l).length ≤ 7
        · by_cases c2 : (joinB m).length ≤ 7
          · have hss := short_same l m c1 c2
            go_wp2_with fail
            refine (list_any v l _ (ht.below hb7) (hl.below hb7) (by omega)).mono ?_
            rintro e w8 ⟨rfl, hb8'⟩
            have hb8 := hb7.trans (hb8'.mono hb7.size)
            go_wp2_with fail
            refine (list_any u m _ (ht.below hb8) (hm.below hb8) (by omega)).mono ?_
            rintro e w9 ⟨rfl, hb9'⟩
            have hb9 := hb8.trans (hb9'.mono hb8.size)
            go_wp2_with fail
            refine (rsame_any v u l m _ (hl.below hb9) (hm.below hb9)).mono ?_
            rintro e w10 ⟨rfl, hb10'⟩
            have hb10 := hb9.trans (hb10'.mono hb9.size)
            go_wp2_with fail
            go_meet
            exact ⟨rfl, hb10⟩
          · go_wp2_with fail
            go_meet
            exact ⟨rfl, hb7⟩
        · go_wp2_with fail
          go_meet
          exact ⟨rfl, hb7⟩
      case rest =>
        obtain ⟨rfl, hbc⟩ := hcut
        go_upto_region 10 with fail
        go_cut [12] (fun x wx => ∃ n : Nat, x = .int .i64 n ∧ n ≤ 9 ∧ n ≤ one.size ∧ n ≤ two.size ∧ Below w.heap.size w wx)
        case first =>
          go_wp2_with fail
          all_goals go_meet
          all_goals first | exact ⟨9, rfl, by omega, by omega, by omega, hbc⟩ | exact ⟨one.size, rfl, by omega, by omega, by omega, hbc⟩ | exact ⟨two.size, rfl, by omega, by omega, by omega, hbc⟩
        case rest =>
          obtain ⟨n, rfl, h9, hn1, hn2, hbd⟩ := hcut
          go_upto_region 12 with fail
          have hA : (one.extract 0 n).size = n := by simp; omega
          generalize one.extract 0 n = A at *
          have g0 : (0 : Int) ≤ min (n : Int) 6 := by omega
          have g1 : min (n : Int) 6 ≤ (A.size : Int) := by omega
          have g2 : min (n : Int) 6 ≤ (n : Int) := by omega
          have g3 : (n : Int) ≤ (two.size : Int) := by omega
          have HA := Lib.hid hA
          clear hA
          go_wp2_with fail
          go_quiet (fail)
          obtain ⟨zB, aB⟩ := cut_join A two n HA.out hn2
          generalize A.extract 0 (min (n : Int) 6).toNat ++ two.extract (min (n : Int) 6).toNat n = B at *
          have hbx : Below w.heap.size w (wc.drewN nq) := hbd.trans ⟨rfl, rfl, rfl, Nat.le_refl _, fun _ _ => rfl⟩
          generalize wc.drewN nq = wx at *
          have ZB := Lib.hid zB
          have AB := Lib.hid aB
          clear zB aB
          go_wp2_with fail
          refine (list_one A (by rw [HA.out]; omega) _ (ht.below hbx)).mono ?_
          rintro e w8 ⟨rfl, hb8'⟩
          have hb8 := hbx.trans (hb8'.mono hbx.size)
          clear hb8'
          go_wp2_with fail
          refine (list_one B (by rw [ZB.out]; omega) _ (ht.below hb8)).mono ?_
          rintro e w9 ⟨rfl, hb9'⟩
          have hb9 := hb8.trans (hb9'.mono hb8.size)
          have Heq := Lib.hid (one_eq A B n HA.out ZB.out h9 AB.out)
          go_wp2_with fail
          go_ret
          exact ⟨ret_true Heq.out, hb9⟩

end Go.Proofs.YtgmncimfpbjmjaaDoor.Dig
