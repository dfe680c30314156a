/- Walks over layer 3's laws: SealForm. -/
import Derived.Test.YtohhkgnddeeomaaDoorSlmW9
namespace Go.Proofs.YtohhkgnddeeomaaDoor.Dig
set_option linter.unusedVariables false
set_option linter.unusedSimpArgs false
open Go.RowKit

theorem is_dig (s : ByteArray) (h : digB s = true) (w : World) : Calls Tryd.prog 20 #[.string s] w fun e w' => e = .returned (.bool true) ∧ w = w' := by
  have h1 := is_any s w
  rw [show isDig (bl s) = true from h] at h1
  exact h1

theorem Held.other {W : World} {B : Nat} {x v y : Value} (h : Held W B x v y) (p : Addr) (u : Value) (hne : B ≠ p.block) : Held (W.setCell p u) B x v y := (Below.heap_setCell W p u B hne).trans h

set_option maxRecDepth 100000 in
set_option maxHeartbeats 4000000 in
theorem Form_walk (pub m : ByteArray) (idx : Int) (hidx : -9223372036854775808 ≤ idx ∧ idx ≤ 9223372036854775807) (vs vp : Value) (sig path : List ByteArray) (w : World) (h1 : StrSl w vs sig) (h2 : StrSl w vp path) (ht : Tab w) :
    Calls Tryd.prog 9 #[.string pub, .string m, .agg #[.int .i64 idx, vs, vp]] w fun e w' => e = .returned (.bool true) ∧ Below w.heap.size w w' := by
  have Hs := Lib.hid h1
  have Hp := Lib.hid h2
  obtain ⟨a1, c1, rfl, hm1, g1⟩ := h1.any
  obtain ⟨a2, c2, rfl, hm2, g2⟩ := h2.any
  unfold maxLen at hm1 hm2
  have G1 := Lib.hid g1
  have G2 := Lib.hid g2
  clear g1 g2 h1 h2
  have hb0 := new_below w (.cells #[.int .i64 idx, .slice a1 sig.length c1, .slice a2 path.length c2] 24)
  have hH0 := Held.new w (.int .i64 idx) (.slice a1 sig.length c1) (.slice a2 path.length c2)
  go_enter Tryd.func9, Tryd.ntmps9
  go_wp2_with fail
  refine (head_any _ (ht.below hb0)).mono ?_
  rintro e w1 ⟨rfl, hb1'⟩
  have hb1 := hb0.trans (hb1'.mono hb0.size)
  have hH1 := hH0.below hb1'
  go_wp2_with fail
  refine (short2 pub m w1).mono ?_
  rintro e w2 ⟨⟨t, rfl, ht2⟩, hb2'⟩
  have hb2 := hb1.trans (hb2'.mono hb1.size)
  have hH2 := hH1.below hb2'
  have x0 := hH2.cell0
  have x1 := hH2.cell
  have x2 := hH2.cell2
  clear hH0 hH1
  cases t with
  | false =>
    go_wp2_with fail
    go_ret
    exact ⟨rfl, hb2⟩
  | true =>
    obtain ⟨hpub, hmm⟩ := ht2 rfl
    go_wp2_with fail
    refine (Few_any idx _ _ sig path _ (Hs.out.below hb2) (Hp.out.below hb2)).mono ?_
    rintro e w3 ⟨⟨t, rfl, ht3⟩, hb3'⟩
    have hb3 := hb2.trans (hb3'.mono hb2.size)
    have hH3 := hH2.below hb3'
    have y0 := hH3.cell0
    have y1 := hH3.cell
    have y2 := hH3.cell2
    clear x0 x1 x2 hH2
    cases t with
    | false =>
      go_wp2_with fail
      go_ret
      exact ⟨rfl, hb3⟩
    | true =>
      go_wp2_with fail
      refine (Verify_any pub m (by omega) idx _ _ sig path _ (ht.below hb3) (Hs.out.below hb3) (Hp.out.below hb3)).mono ?_
      rintro e w4 ⟨rfl, hb4'⟩
      have hb4 := hb3.trans (hb4'.mono hb3.size)
      have hH4 := hH3.below hb4'
      have z0 := hH4.cell0
      have z1 := hH4.cell
      have z2 := hH4.cell2
      clear y0 y1 y2 hH3
      cases hV : verB pub m idx sig path with
      | false =>
        go_wp2_with fail
        go_ret
        exact ⟨rfl, hb4⟩
      | true =>
        obtain ⟨l18, dS, l8, dP, ⟨i0, i1⟩, hup⟩ := (ver_iff _ _ _ _ _).1 hV
        obtain ⟨b0, o0, rfl, hcA, hcB⟩ : ∃ b0 o0, a1 = some ⟨b0, o0, none⟩ ∧ sig.length ≤ c1 ∧ c1 ≤ maxLen := by
          rcases Hs.out with ⟨h, _⟩ | ⟨b0, o0, c, h, _, _, hm, _⟩
          · rw [h] at l18; simp at l18
          · simp only [Value.slice.injEq, true_and] at h
            obtain ⟨h3, h4⟩ := h
            subst h4
            exact ⟨b0, o0, h3, hm⟩
        unfold maxLen at hcB
        have dpub : digB pub = true := by rw [← hup]; exact upB_dig _ _ _ _ (leafOf_dig _)
        have hpw := pow_le path.length l8
        have Hpw := Lib.hid (show IntKind.i64.wrap ((2 : Int) ^ path.length) = (2 : Int) ^ path.length from by rw [pow_wrap2 path.length l8]; simp)
        have n18 : ((sig.length : Int) != 18) = false := by simp; omega
        have n8 : (path.length : Int) ≤ 8 := by omega
        have i1' : idx < (2 : Int) ^ path.length := by have e : (2 : Int) ^ path.length = ((2 ^ path.length : Nat) : Int) := by simp
                                                       rw [e]; exact i1
        have epw : (2 : Int) ^ path.length = ((2 ^ path.length : Nat) : Int) := by simp
        have hpn : (2 : Int) ^ path.length ≤ 256 := by rw [epw]; omega
        have hp0 : (0 : Int) ≤ (2 : Int) ^ path.length := by rw [epw]; omega
        have ka : IntKind.i64.wrap (idx + (2 : Int) ^ path.length) = idx + (2 : Int) ^ path.length := IntWalk.i64_in _ (by omega)
        have ks : IntKind.i64.wrap (idx - (2 : Int) ^ path.length) = idx - (2 : Int) ^ path.length := IntWalk.i64_in _ (by omega)
        have V2 := Lib.hid (ver_idx pub m (idx + (2 : Int) ^ path.length) sig path (by rw [← epw]; omega))
        have V3 := Lib.hid (ver_idx pub m (idx - (2 : Int) ^ path.length) sig path (by rw [← epw]; omega))
        clear epw
        have f8 : ((8 : Int) < (path.length : Int)) = False := eq_false (by omega)
        have f0 : (idx < 0) = False := eq_false (by omega)
        have f1 : ((2 : Int) ^ path.length ≤ idx) = False := eq_false (by omega)
        have f2 : (IntKind.i64.wrap ((2 : Int) ^ path.length) ≤ idx) = False := by rw [Hpw.out]; exact f1
        have hr := Below.refl w4.heap.size w4
        have hS0 : ∀ w', Below w4.heap.size w4 w' → (w'.cell? ⟨w.heap.size, 0, none⟩ = some (.int .i64 idx) ∧ w'.cell? ⟨w.heap.size, 1, none⟩ = some (.slice (some ⟨b0, o0, none⟩) sig.length c1) ∧ w'.cell? ⟨w.heap.size, 2, none⟩ = some (.slice a2 path.length c2)) ∧ Below w4.heap.size w4 w' := fun w' hw =>
          ⟨⟨(hH4.below hw).cell0, (hH4.below hw).cell, (hH4.below hw).cell2⟩, hw⟩
        clear hV hup
        go_wp2_with fail
        go_region_held3 (fun w' => (w'.cell? ⟨w.heap.size, 0, none⟩ = some (.int .i64 idx) ∧ w'.cell? ⟨w.heap.size, 1, none⟩ = some (.slice (some ⟨b0, o0, none⟩) sig.length c1) ∧ w'.cell? ⟨w.heap.size, 2, none⟩ = some (.slice a2 path.length c2)) ∧ Below w4.heap.size w4 w')
          (first | exact hS0 _ hr.drew | exact hS0 _ (by assumption))
          (first | (go_at_call 20; refine (is_dig pub dpub _).mono ?_; rintro e w5 ⟨rfl, rfl⟩))
        obtain ⟨w5, h5⟩ : ∃ w5, w4.drew = w5 := ⟨_, rfl⟩
        have hb5' : Below w4.heap.size w4 w5 := by rw [← h5]; exact hr.drew
        rw [h5]
        have hb5 := hb4.trans (hb5'.mono hb4.size)
        have hH5 := hH4.below hb5'
        have v0 := hH5.cell0
        have v1 := hH5.cell
        have v2 := hH5.cell2
        have DS := Lib.hid (List.all_eq_true.1 dS)
        have DP := Lib.hid (List.all_eq_true.1 dP)
        have L18 := Lib.hid l18
        clear h5 z0 z1 z2 hH4 hS0 hr dS dP
        go_wp2_with fail
        go_loop [8] (fun c => ∃ k : Nat, k ≤ 18 ∧ c = .int .i64 (k : Int)) (fun c => 18 - (intOf c).toNat)
        case atStart => exact ⟨0, by omega, rfl⟩
        case round =>
          obtain ⟨k, hk, rfl⟩ := hrel
          by_cases hlt : k < 18
          · have hks : k < sig.length := by rw [L18.out]; exact hlt
            obtain ⟨b, off, he, hc⟩ := G1.out k hks
            simp only [Option.some.injEq, Addr.mk.injEq, and_true] at he
            obtain ⟨rfl, rfl⟩ := he
            have hc5 := (hb5.cell (p := ⟨b0, o0 + k, none⟩) (World.block_lt_of_cell? _ _ hc)).trans hc
            have Hd := Lib.hid (DS.out _ (List.getElem_mem hks))
            have g0 : (0 : Int) ≤ (k : Int) := by omega
            have g1 : (k : Int) < 18 := by omega
            clear hc
            go_wp2_with (go_at_call 20; refine (is_dig _ Hd.out _).mono ?_; rintro e w6 ⟨rfl, rfl⟩)
            go_round
            case rel => exact ⟨k + 1, by omega, by go_num⟩
            case measure => simp [intOf]; omega
          · obtain rfl : k = 18 := by omega
            go_wp2_with fail
            go_loop [9] (fun c => ∃ k : Nat, k ≤ path.length ∧ c = .int .i64 (k : Int)) (fun c => path.length - (intOf c).toNat)
            case atStart => exact ⟨0, by omega, rfl⟩
            case round =>
              obtain ⟨k, hk, rfl⟩ := hrel
              by_cases hlt : k < path.length
              · obtain ⟨b, off, rfl, hc⟩ := G2.out k hlt
                have hc5 := (hb5.cell (p := ⟨b, off + k, none⟩) (World.block_lt_of_cell? _ _ hc)).trans hc
                have Hd := Lib.hid (DP.out _ (List.getElem_mem hlt))
                clear hc
                go_wp2_with (go_at_call 20; refine (is_dig _ Hd.out _).mono ?_; rintro e w6 ⟨rfl, rfl⟩)
                go_round
                case rel => exact ⟨k + 1, by omega, by go_num⟩
                case measure => simp [intOf]; omega
              · obtain rfl : k = path.length := by omega
                have hlt0 := hH5.lt
                have hlt1 : w.heap.size < w5.heap.size + 1 := by omega
                have hlt2 : w.heap.size < w5.heap.size + 1 + 1 := by omega
                have c17 : (17 : Int) ≤ (c1 : Int) := by omega
                have c18 : (18 : Int) ≤ (c1 : Int) := by omega
                go_wp2_with fail
                have h10 := (Held.new w5 (.int .i64 idx) (.slice (some ⟨b0, o0, none⟩) 17 c1) (.slice a2 path.length c2)).alloc (.cells #[.int .i64 idx, .slice (some ⟨b0, o0, none⟩) 18 c1, .slice a2 path.length c2] 24)
                have h11 := Held.new (w5.alloc (.cells #[.int .i64 idx, .slice (some ⟨b0, o0, none⟩) 17 c1, .slice a2 path.length c2] 24)) (.int .i64 idx) (.slice (some ⟨b0, o0, none⟩) 18 c1) (.slice a2 path.length c2)
                rw [World.size_alloc] at h11
                have hb6' : Below w5.heap.size w5 ((w5.alloc (.cells #[.int .i64 idx, .slice (some ⟨b0, o0, none⟩) 17 c1, .slice a2 path.length c2] 24)).alloc (.cells #[.int .i64 idx, .slice (some ⟨b0, o0, none⟩) 18 c1, .slice a2 path.length c2] 24)) := ((Below.refl _ w5).alloc (Nat.le_refl _) _).alloc (by simp) _
                have hs6 := hH5.below hb6'
                rw [l18] at hs6
                obtain ⟨w6, hW6⟩ : ∃ w6, (w5.alloc (.cells #[.int .i64 idx, .slice (some ⟨b0, o0, none⟩) 17 c1, .slice a2 path.length c2] 24)).alloc (.cells #[.int .i64 idx, .slice (some ⟨b0, o0, none⟩) 18 c1, .slice a2 path.length c2] 24) = w6 := ⟨_, rfl⟩
                have hz6 : w6.heap.size = w5.heap.size + 1 + 1 := by rw [← hW6]; simp
                rw [hW6] at h10 h11 hb6' hs6 ⊢
                clear hW6 v0 v1 v2
                have r0 := h11.cell0
                have rf : w6.frozen? ⟨w5.heap.size + 1, 0, none⟩ = false := by simp [World.frozen?, show w6.heap[w5.heap.size + 1]? = _ from h11]
                have hpw2 := Hpw.out
                have hS6 : ∀ w', Below w5.heap.size w5 w' → (w'.cell? ⟨w.heap.size, 0, none⟩ = some (.int .i64 idx) ∧ w'.cell? ⟨w.heap.size, 2, none⟩ = some (.slice a2 path.length c2)) ∧ Below w5.heap.size w5 w' := fun w' hw => ⟨⟨(hH5.below hw).cell0, (hH5.below hw).cell2⟩, hw⟩
                go_region_held3 (fun w' => (w'.cell? ⟨w.heap.size, 0, none⟩ = some (.int .i64 idx) ∧ w'.cell? ⟨w.heap.size, 2, none⟩ = some (.slice a2 path.length c2)) ∧ Below w5.heap.size w5 w')
                  (first | exact hS6 _ hb6'.drew | exact hS6 _ (hb6'.drew.setCell (p := ⟨w5.heap.size + 1, 0, none⟩) (by show w5.heap.size ≤ w5.heap.size + 1; omega) _))
                  (fail)
                obtain ⟨w7, hW7⟩ : ∃ w7, (w6.setCell ⟨w5.heap.size + 1, 0, none⟩ (.int .i64 (idx + (2 : Int) ^ path.length))).drew = w7 := ⟨_, rfl⟩
                have k11 : Held w7 (w5.heap.size + 1) (.int .i64 (idx + (2 : Int) ^ path.length)) (.slice (some ⟨b0, o0, none⟩) 18 c1) (.slice a2 path.length c2) := by rw [← hW7]; exact h11.setA _
                have k10 : Held w7 w5.heap.size (.int .i64 idx) (.slice (some ⟨b0, o0, none⟩) 17 c1) (.slice a2 path.length c2) := by rw [← hW7]; exact h10.other ⟨w5.heap.size + 1, 0, none⟩ _ (by show w5.heap.size ≠ w5.heap.size + 1; omega)
                have ks7 : Held w7 w.heap.size (.int .i64 idx) (.slice (some ⟨b0, o0, none⟩) 18 c1) (.slice a2 path.length c2) := by rw [← hW7]; exact hs6.other ⟨w5.heap.size + 1, 0, none⟩ _ (by show w.heap.size ≠ w5.heap.size + 1; omega)
                have hb7' : Below w5.heap.size w5 w7 := by rw [← hW7]; exact (hb6'.setCell (p := ⟨w5.heap.size + 1, 0, none⟩) (by show w5.heap.size ≤ w5.heap.size + 1; omega) _).drew
                have hz7 : w7.heap.size = w5.heap.size + 1 + 1 := by rw [← hW7, ← hz6]; simp
                rw [hW7]
                clear hW7 h10 h11 hs6 r0 rf
                have v0 := ks7.cell0
                have v1 := ks7.cell
                have v2 := ks7.cell2
                have hlt7 := ks7.lt
                go_wp2_with fail
                have j12 := Held.new w7 (.int .i64 idx) (.slice (some ⟨b0, o0, none⟩) 18 c1) (.slice a2 path.length c2)
                have j11 := k11.alloc (.cells #[.int .i64 idx, .slice (some ⟨b0, o0, none⟩) 18 c1, .slice a2 path.length c2] 24)
                have j10 := k10.alloc (.cells #[.int .i64 idx, .slice (some ⟨b0, o0, none⟩) 18 c1, .slice a2 path.length c2] 24)
                have js := ks7.alloc (.cells #[.int .i64 idx, .slice (some ⟨b0, o0, none⟩) 18 c1, .slice a2 path.length c2] 24)
                have hb8' : Below w5.heap.size w5 (w7.alloc (.cells #[.int .i64 idx, .slice (some ⟨b0, o0, none⟩) 18 c1, .slice a2 path.length c2] 24)) := hb7'.alloc hb7'.size _
                obtain ⟨w8, hW8⟩ : ∃ w8, w7.alloc (.cells #[.int .i64 idx, .slice (some ⟨b0, o0, none⟩) 18 c1, .slice a2 path.length c2] 24) = w8 := ⟨_, rfl⟩
                have hz8 : w8.heap.size = w5.heap.size + 1 + 1 + 1 := by rw [← hW8, World.size_alloc, hz7]
                rw [hW8] at j12 j11 j10 js hb8' ⊢
                rw [hz7] at j12
                clear hW8 k11 k10 ks7 v0 v1 v2
                have r0 := j12.cell0
                have rf : w8.frozen? ⟨w5.heap.size + 1 + 1, 0, none⟩ = false := by simp [World.frozen?, show w8.heap[w5.heap.size + 1 + 1]? = _ from j12]
                go_region_held3 (fun w' => (w'.cell? ⟨w.heap.size, 0, none⟩ = some (.int .i64 idx) ∧ w'.cell? ⟨w.heap.size, 2, none⟩ = some (.slice a2 path.length c2)) ∧ Below w5.heap.size w5 w')
                  (first | exact hS6 _ hb8'.drew | exact hS6 _ (hb8'.drew.setCell (p := ⟨w5.heap.size + 1 + 1, 0, none⟩) (by show w5.heap.size ≤ w5.heap.size + 1 + 1; omega) _))
                  (fail)
                obtain ⟨w9, hW9⟩ : ∃ w9, (w8.setCell ⟨w5.heap.size + 1 + 1, 0, none⟩ (.int .i64 (idx - (2 : Int) ^ path.length))).drew = w9 := ⟨_, rfl⟩
                have k12 : Held w9 (w5.heap.size + 1 + 1) (.int .i64 (idx - (2 : Int) ^ path.length)) (.slice (some ⟨b0, o0, none⟩) 18 c1) (.slice a2 path.length c2) := by rw [← hW9]; exact j12.setA _
                have k11 : Held w9 (w5.heap.size + 1) (.int .i64 (idx + (2 : Int) ^ path.length)) (.slice (some ⟨b0, o0, none⟩) 18 c1) (.slice a2 path.length c2) := by rw [← hW9]; exact j11.other ⟨w5.heap.size + 1 + 1, 0, none⟩ _ (by show w5.heap.size + 1 ≠ w5.heap.size + 1 + 1; omega)
                have k10 : Held w9 w5.heap.size (.int .i64 idx) (.slice (some ⟨b0, o0, none⟩) 17 c1) (.slice a2 path.length c2) := by rw [← hW9]; exact j10.other ⟨w5.heap.size + 1 + 1, 0, none⟩ _ (by show w5.heap.size ≠ w5.heap.size + 1 + 1; omega)
                have hb9' : Below w5.heap.size w5 w9 := by rw [← hW9]; exact (hb8'.setCell (p := ⟨w5.heap.size + 1 + 1, 0, none⟩) (by show w5.heap.size ≤ w5.heap.size + 1 + 1; omega) _).drew
                rw [hW9]
                clear hW9 j12 j11 j10 js r0 rf
                have hb9 := hb5.trans (hb9'.mono hb5.size)
                have v0 := k10.cell0
                have v1 := k10.cell
                have v2 := k10.cell2
                go_wp2_with fail
                have Hs18 : StrSl w (.slice (some ⟨b0, o0, none⟩) 18 c1) sig := by have h := Hs.out; rw [l18] at h; exact h
                have V1 := Lib.hid (ver_len pub m idx (sig.take 17) path (by rw [List.length_take, l18]; decide))
                refine (Verify_any pub m (by omega) idx (.slice (some ⟨b0, o0, none⟩) 17 c1) _ (sig.take 17) path _ (ht.below hb9) ((Hs.out.below hb9).take1 17 (by omega)) (Hp.out.below hb9)).mono ?_
                rintro e w10 ⟨rfl, hb10'⟩
                rw [V1.out]
                have hb10 := hb9.trans (hb10'.mono hb9.size)
                have j11 := k11.below hb10'
                have j12 := k12.below hb10'
                have u0 := j11.cell0
                have u1 := j11.cell
                have u2 := j11.cell2
                clear k10 k11 k12 v0 v1 v2
                go_wp2_with fail
                refine (Verify_any pub m (by omega) (idx + (2 : Int) ^ path.length) _ _ sig path _ (ht.below hb10) (Hs18.below hb10) (Hp.out.below hb10)).mono ?_
                rintro e w11 ⟨rfl, hb11'⟩
                rw [V2.out]
                have hb11 := hb10.trans (hb11'.mono hb10.size)
                have k12 := j12.below hb11'
                have v0 := k12.cell0
                have v1 := k12.cell
                have v2 := k12.cell2
                clear j11 j12 u0 u1 u2
                go_wp2_with fail
                refine (Verify_any pub m (by omega) (idx - (2 : Int) ^ path.length) _ _ sig path _ (ht.below hb11) (Hs18.below hb11) (Hp.out.below hb11)).mono ?_
                rintro e w12 ⟨rfl, hb12'⟩
                rw [V3.out]
                go_wp2_with fail
                go_ret
                exact ⟨rfl, hb11.trans (hb12'.mono hb11.size)⟩

end Go.Proofs.YtohhkgnddeeomaaDoor.Dig

/- Walks over layer 3's laws: SealVerifies. -/
namespace Go.Proofs.YtohhkgnddeeomaaDoor.Dig
set_option linter.unusedVariables false
set_option linter.unusedSimpArgs false
open Go.RowKit

theorem index_of' (n : Int) (len : Nat) (h : 0 < len) (hn : 0 ≤ n) : ∃ i : Nat, i < len ∧ n % (len : Int) = (i : Int) := by
  have h1 := Int.emod_nonneg n (b := (len : Int)) (by omega)
  have h2 := Int.emod_lt_of_pos n (b := (len : Int)) (by omega)
  exact ⟨(n % (len : Int)).toNat, by omega, by omega⟩
/-- the height and the index that the laws draw -/
theorem draw_h (rh : Int) (n : Nat) (h0 : 0 ≤ rh) (hn : 0 < n) : ∃ h : Nat, h < n ∧ rh % (n : Int) = (h : Int) := index_of' rh n hn h0
theorem draw_i (ri : Int) (h : Nat) (hh : h ≤ 8) (i0 : 0 ≤ ri) : ∃ i : Nat, i < 2 ^ h ∧ ri % (2 : Int) ^ h = (i : Int) := by
  obtain ⟨i, h1, h2⟩ := index_of' ri (2 ^ h) (Nat.pow_pos (by decide)) i0
  refine ⟨i, h1, ?_⟩
  rw [← h2]
  simp
theorem wrap_pow (h : Nat) (hh : h ≤ 8) : wrap64 ((2 : Int) ^ h) = (2 : Int) ^ h := by rw [pow_wrap h hh]; simp

theorem pow_ne (h : Nat) : ((2 : Int) ^ h = 0) = False := by
  have e : (2 : Int) ^ h = ((2 ^ h : Nat) : Int) := by simp
  have hp := Nat.pow_pos (n := h) (show 0 < 2 by decide)
  refine eq_false ?_
  rw [e]
  omega

set_option maxRecDepth 100000 in
set_option maxHeartbeats 4000000 in
theorem Verifies_walk (s m : ByteArray) (rh ri : Int) (h0 : 0 ≤ rh) (h1 : rh ≤ 255) (i0 : 0 ≤ ri) (i1 : ri ≤ 255) (w : World) (ht : Tab w) :
    Calls Tryd.prog 4 #[.string s, .int .u8 rh, .int .u8 ri, .string m] w fun e w' => e = .returned (.bool true) ∧ Below w.heap.size w w' := by
  obtain ⟨h, hh, hrh⟩ := draw_h rh 4 h0 (by decide)
  obtain ⟨i, hi, hri⟩ := draw_i ri h (by omega) i0
  have hwp := wrap_pow h (by omega)
  have hne := pow_ne h
  have hrh' : rh % 4 = (h : Int) := hrh
  clear hrh
  go_enter Tryd.func4, Tryd.ntmps4
  go_wp2_with fail
  refine (head_any _ ht).mono ?_
  rintro e w1 ⟨rfl, hb1⟩
  go_wp2_with fail
  refine (short2 s m w1).mono ?_
  rintro e w2 ⟨⟨t, rfl, ht2⟩, hb2'⟩
  have hb2 := hb1.trans (hb2'.mono hb1.size)
  cases t with
  | false =>
    go_wp2_with fail
    go_ret
    exact ⟨rfl, hb2⟩
  | true =>
    obtain ⟨hs, hm⟩ := ht2 rfl
    go_wp2_with fail
    simp only [hrh', hwp, hri]
    refine (Public_yes s (by omega) h (by omega) _ (ht.below hb2)).mono ?_
    rintro e w3 ⟨rfl, hb3'⟩
    have hb3 := hb2.trans (hb3'.mono hb2.size)
    go_wp2_with fail
    refine (Sign_ok s m (by omega) (by omega) h i (by omega) hi _ (ht.below hb3)).mono ?_
    rintro e w4 ⟨g, c, pa, pc, rfl, ss4, sp4, hb4', q1, q2, q3, q4⟩
    have hb4 := hb3.trans (hb4'.mono hb3.size)
    go_wp2_with fail
    have hbA' := new_below w4 (.cells #[.int .i64 (i : Int), .slice (some ⟨g, 0, none⟩) 18 c, .slice pa h pc] 24)
    have hH := Held.new w4 (.int .i64 (i : Int)) (.slice (some ⟨g, 0, none⟩) 18 c) (.slice pa h pc)
    have ssA := ss4.below hbA'
    have spA := sp4.below hbA'
    have hbA := hb4.trans (hbA'.mono hb4.size)
    refine (Sign_ok s m (by omega) (by omega) h i (by omega) hi _ (ht.below hbA)).mono ?_
    rintro e w5 ⟨g2, c2, pa2, pc2, rfl, st5, sq5, hb5', q5, q6, q7, q8⟩
    have hb5 := hbA.trans (hb5'.mono hbA.size)
    have hH5 := hH.below hb5'
    have ss5 := ssA.below hb5'
    have sp5 := spA.below hb5'
    clear hH ssA spA ss4 sp4
    go_wp2_with fail
    have hbB' := new_below w5 (.cells #[.int .i64 (i : Int), .slice (some ⟨g2, 0, none⟩) 18 c2, .slice pa2 h pc2] 24)
    have hG := Held.new w5 (.int .i64 (i : Int)) (.slice (some ⟨g2, 0, none⟩) 18 c2) (.slice pa2 h pc2)
    have hHB := hH5.below hbB'
    have ssB := ss5.below hbB'
    have spB := sp5.below hbB'
    have stB := st5.below hbB'
    have sqB := sq5.below hbB'
    have hbB := hb5.trans (hbB'.mono hb5.size)
    clear hH5 ss5 sp5 st5 sq5
    have S3 := fun w ht => Sign_ok s m (by omega) (by omega) (h + 1) i (by omega) (by rw [Nat.pow_succ]; omega) w ht
    rw [show ((h + 1 : Nat) : Int) = (h : Int) + 1 by omega] at S3
    refine (S3 _ (ht.below hbB)).mono ?_
    rintro e w6 ⟨g3, c3, pa3, pc3, rfl, su6, sv6, hb6', q9, q10, q11, q12⟩
    have hb6 := hbB.trans (hb6'.mono hbB.size)
    have hH6 := hHB.below hb6'
    have hG6 := hG.below hb6'
    have ss6 := ssB.below hb6'
    have sp6 := spB.below hb6'
    have st6 := stB.below hb6'
    have sq6 := sqB.below hb6'
    clear hHB hG ssB spB stB sqB S3
    have hbC' := new_below w6 (.cells #[.int .i64 (i : Int), .slice (some ⟨g3, 0, none⟩) 18 c3, .slice pa3 (h + 1) pc3] 24)
    have hM := Held.new w6 (.int .i64 (i : Int)) (.slice (some ⟨g3, 0, none⟩) 18 c3) (.slice pa3 (h + 1) pc3)
    have hHC := hH6.below hbC'
    have hGC := hG6.below hbC'
    have ssC := ss6.below hbC'
    have spC := sp6.below hbC'
    have stC := st6.below hbC'
    have sqC := sq6.below hbC'
    have suC := su6.below hbC'
    have hbC := hb6.trans (hbC'.mono hb6.size)
    have l1 := hH6.lt
    have l2 := hG6.lt
    have x0 := hH6.cell0
    have x1 := hH6.cell
    have x2 := hH6.cell2
    have y0 := hG6.cell0
    have y1 := hG6.cell
    have y2 := hG6.cell2
    clear ss6 sp6 st6 sq6 su6 sv6
    go_wp2_with fail
    obtain ⟨WC, hWC⟩ : ∃ WC, w6.alloc (.cells #[.int .i64 (i : Int), .slice (some ⟨g3, 0, none⟩) 18 c3, .slice pa3 (h + 1) pc3] 24) = WC := ⟨_, rfl⟩
    rw [hWC] at hM hHC hGC ssC spC stC sqC suC hbC ⊢
    clear hWC hbC' hH6 hG6 x0 x1 x2 y0 y1 y2
    have Hsm := Lib.hid (show sameS (i : Int) (i : Int) (sigB s i m) (sigB s i m) (pathB (leavesB s h) i) (pathB (leavesB s h) i) = true from by
      unfold sameS
      rw [(sameB_iff _ _).2 rfl, (sameB_iff _ _).2 rfl]
      simp)
    have Hsb := Lib.hid (show sameB (sigB s i m) (sigB s i m) = true from (sameB_iff _ _).2 rfl)
    have Hvo := Lib.hid (ver_ok s m h i (by omega) hi)
    have Hpd := Lib.hid (pubB_dig s h)
    have DS := Lib.hid (List.all_eq_true.1 (sigB_dig s i m))
    have DP := Lib.hid (List.all_eq_true.1 (path_dig s h i))
    have L18 := Lib.hid (sigB_length s i m)
    have LH := Lib.hid (path_len s h i hi)
    generalize sigB s i m = SG at *
    generalize pathB (leavesB s h) i = PT at *
    generalize pubB s h = PB at *
    refine (Same_any (i : Int) (i : Int) _ _ _ _ SG SG PT PT _ ssC stC spC sqC).mono ?_
    rintro e w7 ⟨rfl, hb7'⟩
    rw [Hsm.out]
    have hb7 := hbC.trans (hb7'.mono hbC.size)
    have k1 := hHC.below hb7'
    have k3 := hM.below hb7'
    have ss7 := ssC.below hb7'
    have sp7 := spC.below hb7'
    have su7 := suC.below hb7'
    have x0 := k1.cell0
    have x1 := k1.cell
    have x2 := k1.cell2
    have z1 := k3.cell
    have SS := Lib.hid ss7
    have SP := Lib.hid sp7
    have SU := Lib.hid su7
    clear hHC hGC hM ssC spC stC sqC suC ss7 sp7 su7
    go_wp2_with fail
    go_loop [20] (fun c => ∃ k : Nat, k ≤ 18 ∧ c = .int .i64 (k : Int)) (fun c => 18 - (intOf c).toNat)
    case atStart => exact ⟨0, by omega, rfl⟩
    case round =>
      obtain ⟨k, hk, rfl⟩ := hrel
      by_cases hlt : k < 18
      · have hks : k < SG.length := by rw [L18.out]; exact hlt
        have hc5 : w7.cell? ⟨g, 0 + k, none⟩ = some (.string SG[k]) := StrSl.get (c := c) (by rw [L18.out]; exact SS.out) k hks
        rw [Nat.zero_add] at hc5
        have Hd := Lib.hid (DS.out _ (List.getElem_mem hks))
        have g0 : (0 : Int) ≤ (k : Int) := by omega
        have g1 : (k : Int) < 18 := by omega
        go_wp2_with (go_at_call 20; refine (is_dig _ Hd.out _).mono ?_; rintro e w8 ⟨rfl, rfl⟩)
        go_round
        case rel => exact ⟨k + 1, by omega, by go_num⟩
        case measure => simp [intOf]; omega
      · obtain rfl : k = 18 := by omega
        go_wp2_with fail
        go_loop [21] (fun c => ∃ k : Nat, k ≤ h ∧ c = .int .i64 (k : Int)) (fun c => h - (intOf c).toNat)
        case atStart => exact ⟨0, by omega, rfl⟩
        case round =>
          obtain ⟨k, hk, rfl⟩ := hrel
          by_cases hlt : k < h
          · have hks : k < PT.length := by rw [LH.out]; exact hlt
            obtain ⟨b, off, rfl, hc5⟩ : ∃ b off, pa = some ⟨b, off, none⟩ ∧ w7.cell? ⟨b, off + k, none⟩ = some (.string PT[k]) := by
              obtain ⟨a, cc, he, _, hg⟩ := SP.out.any
              obtain ⟨b, off, h1, h2⟩ := hg k hks
              simp only [Value.slice.injEq] at he
              exact ⟨b, off, he.1.trans h1, h2⟩
            have Hd := Lib.hid (DP.out _ (List.getElem_mem hks))
            have g0 : (0 : Int) ≤ (k : Int) := by omega
            have g1 : (k : Int) < (h : Int) := by omega
            go_wp2_with (go_at_call 20; refine (is_dig _ Hd.out _).mono ?_; rintro e w8 ⟨rfl, rfl⟩)
            go_round
            case rel => exact ⟨k + 1, by omega, by go_num⟩
            case measure => simp [intOf]; omega
          · obtain rfl : k = h := by omega
            go_wp2_with fail
            refine (is_dig _ Hpd.out _).mono ?_
            rintro e w8 ⟨rfl, rfl⟩
            go_wp2_with fail
            refine (rsame_any _ _ SG SG _ SU.out SS.out).mono ?_
            rintro e w8 ⟨rfl, hb8'⟩
            rw [Hsb.out]
            have hb8 := hb7.trans (hb8'.mono hb7.size)
            have k8 := k1.below hb8'
            have u0 := k8.cell0
            have u1 := k8.cell
            have u2 := k8.cell2
            clear x0 x1 x2 z1
            go_wp2_with fail
            refine (Verify_any PB m (by omega) (i : Int) _ _ SG PT _ (ht.below hb8) (SS.out.below hb8') (SP.out.below hb8')).mono ?_
            rintro e w9 ⟨rfl, hb9'⟩
            rw [Hvo.out]
            go_wp2_with fail
            go_ret
            exact ⟨rfl, hb8.trans (hb9'.mono hb8.size)⟩

end Go.Proofs.YtohhkgnddeeomaaDoor.Dig
