/- Walks over layer 3's reference: Verify. -/
import Derived.Test.YteapfoadfjjicaaDoorSlmR2
import Derived.BigQuiet
namespace Go.Proofs.YteapfoadfjjicaaDoor.Dig
set_option linter.unusedVariables false
set_option linter.unusedSimpArgs false
open Go.RowKit

set_option maxRecDepth 100000 in
set_option maxHeartbeats 2000000 in
theorem rVerify_short (pub m : ByteArray) (idx : Int) (vs vp : Value) (sig path : List ByteArray) (hbad : ¬ (sig.length = 18 ∧ path.length ≤ 8 ∧ 0 ≤ idx)) (w : World) (hs : StrSl w vs sig) (hp : StrSl w vp path) :
    Calls Tryd.prog 33 #[.string pub, .string m, .agg #[.int .i64 idx, vs, vp]] w fun e w' => e = .returned (.bool false) ∧ Below w.heap.size w w' := by
  obtain ⟨a, c, rfl, hm1⟩ := strSl_form hs
  obtain ⟨a', c', rfl, hm2⟩ := strSl_form hp
  have hb := new_below w (.cells #[.int .i64 idx, .slice a sig.length c, .slice a' path.length c'] 43)
  have hH := Held.new w (.int .i64 idx) (.slice a sig.length c) (.slice a' path.length c')
  have hr := Below.refl (w.alloc (.cells #[.int .i64 idx, .slice a sig.length c, .slice a' path.length c'] 43)).heap.size (w.alloc (.cells #[.int .i64 idx, .slice a sig.length c, .slice a' path.length c'] 43))
  have hbd := hb.drew
  clear hs hp
  by_cases h18 : sig.length = 18
  · have n18 : ((sig.length : Int) != 18) = false := by simp; omega
    by_cases h8 : path.length ≤ 8
    · have g8 : (path.length : Int) ≤ 8 := by omega
      have f8 : ((8 : Int) < (path.length : Int)) = False := eq_false (by omega)
      have hi : idx < 0 := by omega
      have fi : (idx < 0) = True := eq_true hi
      clear hbad h18 h8 hi
      go_enter Tryd.func33, Tryd.ntmps33
      go_wp2_with fail
      obtain ⟨W0, hW0⟩ : ∃ W0, w.alloc (.cells #[.int .i64 idx, .slice a sig.length c, .slice a' path.length c'] 43) = W0 := ⟨_, rfl⟩
      rw [hW0] at hH hb hbd hr ⊢
      clear hW0
      have x0 := hH.cell0
      have x1 := hH.cell
      have x2 := hH.cell2
      go_quiet (fail)
      go_wp2_with fail
      go_ret
      exact ⟨rfl, hb.trans ⟨rfl, rfl, rfl, Nat.le_refl _, fun _ _ => rfl⟩⟩
    · have g8 : (8 : Int) < (path.length : Int) := by omega
      have f8 : ((8 : Int) < (path.length : Int)) = True := eq_true g8
      clear hbad h18 h8
      go_enter Tryd.func33, Tryd.ntmps33
      go_wp2_with fail
      obtain ⟨W0, hW0⟩ : ∃ W0, w.alloc (.cells #[.int .i64 idx, .slice a sig.length c, .slice a' path.length c'] 43) = W0 := ⟨_, rfl⟩
      rw [hW0] at hH hb hbd hr ⊢
      clear hW0
      have x0 := hH.cell0
      have x1 := hH.cell
      have x2 := hH.cell2
      go_quiet (fail)
      go_wp2_with fail
      go_ret
      exact ⟨rfl, hb.trans ⟨rfl, rfl, rfl, Nat.le_refl _, fun _ _ => rfl⟩⟩
  · have n18 : ((sig.length : Int) != 18) = true := by simp; omega
    clear hbad h18
    go_enter Tryd.func33, Tryd.ntmps33
    go_wp2_with fail
    obtain ⟨W0, hW0⟩ : ∃ W0, w.alloc (.cells #[.int .i64 idx, .slice a sig.length c, .slice a' path.length c'] 43) = W0 := ⟨_, rfl⟩
    rw [hW0] at hH hb hbd hr ⊢
    clear hW0
    have x0 := hH.cell0
    have x1 := hH.cell
    have x2 := hH.cell2
    go_quiet (fail)
    go_wp2_with fail
    go_ret
    exact ⟨rfl, hb.trans ⟨rfl, rfl, rfl, Nat.le_refl _, fun _ _ => rfl⟩⟩

set_option maxRecDepth 100000 in
set_option maxHeartbeats 2000000 in
theorem rVerify_high (pub m : ByteArray) (idx : Int) (vs vp : Value) (sig path : List ByteArray) (h18 : sig.length = 18) (h8 : path.length ≤ 8) (h0 : 0 ≤ idx) (hi : ((2 ^ path.length : Nat) : Int) ≤ idx) (w : World) (hs : StrSl w vs sig) (hp : StrSl w vp path) :
    Calls Tryd.prog 33 #[.string pub, .string m, .agg #[.int .i64 idx, vs, vp]] w fun e w' => e = .returned (.bool false) ∧ Below w.heap.size w w' := by
  obtain ⟨a, c, rfl, hm1⟩ := strSl_form hs
  obtain ⟨a', c', rfl, hm2⟩ := strSl_form hp
  have hb := new_below w (.cells #[.int .i64 idx, .slice a sig.length c, .slice a' path.length c'] 43)
  have hH := Held.new w (.int .i64 idx) (.slice a sig.length c) (.slice a' path.length c')
  have hbd := hb.drew
  have HP := Lib.hid (fun w => Power_any path.length h8 w)
  clear hs hp
  have n18 : ((sig.length : Int) != 18) = false := by simp; omega
  have g8 : (path.length : Int) ≤ 8 := by omega
  have f8 : ((8 : Int) < (path.length : Int)) = False := eq_false (by omega)
  have fi : (idx < 0) = False := eq_false (by omega)
  generalize 2 ^ path.length = n at *
  have fg : ((n : Int) ≤ idx) = True := eq_true hi
  clear h18 h8 h0
  go_enter Tryd.func33, Tryd.ntmps33
  go_wp2_with fail
  obtain ⟨W0, hW0⟩ : ∃ W0, w.alloc (.cells #[.int .i64 idx, .slice a sig.length c, .slice a' path.length c'] 43) = W0 := ⟨_, rfl⟩
  rw [hW0] at hH hb hbd ⊢
  clear hW0
  go_region_held3 (fun w' => (w'.cell? ⟨w.heap.size, 0, none⟩ = some (.int .i64 idx) ∧ w'.cell? ⟨w.heap.size, 1, none⟩ = some (.slice a sig.length c)) ∧ w'.cell? ⟨w.heap.size, 2, none⟩ = some (.slice a' path.length c'))
    (exact ⟨⟨hH.cell0, hH.cell⟩, hH.cell2⟩)
    ((go_at_call 52; refine (HP.out _).mono ?_; rintro e w1 ⟨rfl, rfl⟩))
  go_wp2_with fail
  go_ret
  exact ⟨rfl, hbd⟩

set_option maxRecDepth 100000 in
set_option maxHeartbeats 4000000 in
theorem rVerify_near (pub m : ByteArray) (hmm : m.size ≤ 1000) (idx : Int) (vs vp : Value) (sig path : List ByteArray) (hf : FewS sig path) (h18 : sig.length = 18) (h8 : path.length ≤ 8) (h0 : 0 ≤ idx) (hi : idx < ((2 ^ path.length : Nat) : Int)) (w : World) (hs : StrSl w vs sig) (hp : StrSl w vp path) :
    Calls Tryd.prog 33 #[.string pub, .string m, .agg #[.int .i64 idx, vs, vp]] w fun e w' => e = .returned (.bool (sig.all digB && (path.all digB && checkB pub ((2 ^ path.length : Nat) : Int) idx (leafOf (upEnds m sig)) path))) ∧ Below w.heap.size w w' := by
  obtain ⟨b0, o0, c, rfl⟩ : ∃ b0 o0 c, vs = .slice (some ⟨b0, o0, none⟩) 18 c := by
    rcases hs with ⟨h, _⟩ | ⟨b0, o0, c, h, _⟩
    · rw [h] at h18; simp at h18
    · rw [h18] at h; exact ⟨b0, o0, c, h⟩
  have SS := Lib.hid hs
  have SP := Lib.hid hp
  have HF := Lib.hid hf
  obtain ⟨a', c', rfl, hm2, G2⟩ := hp.any
  have G2 := Lib.hid G2
  have hb0 := new_below w (.cells #[.int .i64 idx, .slice (some ⟨b0, o0, none⟩) 18 c, .slice a' path.length c'] 43)
  have hH := Held.new w (.int .i64 idx) (.slice (some ⟨b0, o0, none⟩) 18 c) (.slice a' path.length c')
  have HP := Lib.hid (fun w => Power_any path.length h8 w)
  have g8 : (path.length : Int) ≤ 8 := by omega
  have f8 : ((8 : Int) < (path.length : Int)) = False := eq_false (by omega)
  have fi : (idx < 0) = False := eq_false (by omega)
  obtain ⟨ANS, hAns⟩ : ∃ A, (sig.all digB && (path.all digB && checkB pub ((2 ^ path.length : Nat) : Int) idx (leafOf (upEnds m sig)) path)) = A := ⟨_, rfl⟩
  rw [hAns]
  have HV := Lib.hid hAns
  clear hAns hs hp hf h0 h8
  generalize 2 ^ path.length = n at *
  have fg : ((n : Int) ≤ idx) = False := eq_false (by omega)
  go_enter Tryd.func33, Tryd.ntmps33
  go_wp2_with fail
  obtain ⟨W0, hW0⟩ : ∃ W0, w.alloc (.cells #[.int .i64 idx, .slice (some ⟨b0, o0, none⟩) 18 c, .slice a' path.length c'] 43) = W0 := ⟨_, rfl⟩
  rw [hW0] at hH hb0 ⊢
  clear hW0
  go_region_held3 (fun w' => (w'.cell? ⟨w.heap.size, 0, none⟩ = some (.int .i64 idx) ∧ w'.cell? ⟨w.heap.size, 1, none⟩ = some (.slice (some ⟨b0, o0, none⟩) 18 c)) ∧ w'.cell? ⟨w.heap.size, 2, none⟩ = some (.slice a' path.length c'))
    (exact ⟨⟨hH.cell0, hH.cell⟩, hH.cell2⟩)
    ((go_at_call 52; refine (HP.out _).mono ?_; rintro e w1 ⟨rfl, rfl⟩))
  have hb0d := hb0.drew
  have hHd : Held W0.drew w.heap.size (.int .i64 idx) (.slice (some ⟨b0, o0, none⟩) 18 c) (.slice a' path.length c') := hH
  obtain ⟨W1, hW1⟩ : ∃ W1, W0.drew = W1 := ⟨_, rfl⟩
  rw [hW1] at hb0d hHd ⊢
  clear hW1 hb0 hH
  go_wp2_with fail
  refine (Digits_any m hmm _).mono ?_
  rintro e w1 ⟨v, rfl, ⟨gd, cd, rfl, hdig⟩, hb1'⟩
  have hb1 := hb0d.trans (hb1'.mono hb0d.size)
  have hH1 := hHd.below hb1'
  have Hdg := Lib.hid hdig
  have hs1 := hb1.size
  clear hdig hHd hb1' hb0d
  go_wp2_with fail
  go_loopw [8, 9] (fun ve cc wr => ∃ k : Nat, k ≤ 18 ∧ cc = .int .i64 (k : Int) ∧ OwnStr wr w1.heap.size ve (endsC m sig k) ∧ Hid ((sig.take k).all digB = true) ∧ Below w1.heap.size w1 wr) (fun _ cc _ => 18 - (intOf cc).toNat)
  case atStart => exact ⟨0, by omega, rfl, OwnStr.nil _ _, Lib.hid rfl, Below.refl _ _⟩
  case round =>
    obtain ⟨k, hk, rfl, oe, Hall, hb⟩ := hrel
    by_cases hlt : k < 18
    · have hks : k < sig.length := by omega
      have hS : ∀ w', Below w1.heap.size w1 w' → (w'.cell? ⟨w.heap.size, 1, none⟩ = some (.slice (some ⟨b0, o0, none⟩) 18 c) ∧ w'.cell? ⟨b0, o0 + k, none⟩ = some (.string sig[k])) ∧ w'.cell? ⟨gd, k, none⟩ = some (.int .i64 ((digAt m k : Nat) : Int)) := fun w' hw =>
        ⟨⟨(hH1.below hw).cell, StrSl.get (c := c) (by rw [h18]; exact SS.out.below (hb1.trans (hw.mono hb1.size))) k hks⟩, (hw.cell (p := ⟨gd, k, none⟩) (World.block_lt_of_cell? _ _ (Hdg.out k hlt))).trans (Hdg.out k hlt)⟩
      have hd15 := digAt_le m k
      have HE := Lib.hid (endsC_succ m sig k)
      rw [getD_lt _ _ _ hks] at HE
      have zs := HF.out.2.2.1 _ (List.getElem_mem hks)
      have Htk := Lib.hid (show (sig.take (k + 1)).all digB = ((sig.take k).all digB && digB sig[k]) from by rw [List.take_succ_eq_append_getElem hks, List.all_append]; simp)
      have Hfail := Lib.hid (fun (h : digB sig[k] = false) => show sig.all digB = false from by
        rw [List.all_eq_false]; exact ⟨_, List.getElem_mem hks, by rw [h]; decide⟩)
      generalize digAt m k = d at *
      obtain ⟨e, hde⟩ : ∃ e : Nat, 15 - d = e := ⟨_, rfl⟩
      have gw : IntKind.i64.wrap (15 - (d : Int)) = (e : Int) := by rw [IntWalk.i64_in _ (by omega)]; omega
      have ge : (15 : Int) - (d : Int) = (e : Int) := by omega
      have gwe : IntKind.i64.wrap (e : Int) = (e : Int) := IntWalk.i64_in _ (by omega)
      rw [hde] at HE
      have g1 : (k : Int) < (sig.length : Int) := by omega
      have g2 : (k : Int) < 18 := by omega
      have g0 : (0 : Int) ≤ (k : Int) := by omega
      have he15 : e ≤ 15 := by omega
      have hx := hS _ hb
      have x1 := hx.1.1
      have x2 := hx.1.2
      have x3 := hx.2
      have HC : Hid (∀ w : World, Calls Tryd.prog 54 #[.string sig[k], .int .i64 (e : Int)] w fun e2 w' => e2 = .returned (.string (chainB sig[k] e)) ∧ w = w') := Lib.hid (fun w => rchain_k sig[k] (by omega) e (by omega) w)
      clear hde hx
      cases hdg : digB sig[k] with
      | false =>
        have Hd := Lib.hid (show isDig (bl sig[k]) = false from hdg)
        have Hv := Lib.hid (Hfail.out hdg)
        clear hdg
        have hAns := HV.out
        rw [Hv.out, Bool.false_and] at hAns
        subst hAns
        go_wp2_with (go_at_call 62; refine (ris_any sig[k] (by omega) _).mono ?_; rintro e2 w2 ⟨rfl, rfl⟩; rw [Hd.out])
        go_ret
        exact ⟨rfl, hb1.trans (hb.mono hs1)⟩
      | true =>
        have Hd := Lib.hid (show isDig (bl sig[k]) = true from hdg)
        have Ht2 := Lib.hid (show (sig.take (k + 1)).all digB = true from by rw [Htk.out, Hall.out, hdg]; rfl)
        clear hdg
        have hr := (Below.refl wr.heap.size wr).drew
        have hrb : Below w1.heap.size w1 wr.drew := hb.drew
        have hrb2 := hrb.alloc hrb.size (.cells #[.string (chainB sig[k] e)] 9)
        have oed : OwnStr wr.drew w1.heap.size u8 (endsC m sig k) := World.ownsRow.drew oe
        go_wp2_with (go_at_call 62; refine (ris_any sig[k] (by omega) _).mono ?_; rintro e2 w2 ⟨rfl, rfl⟩; rw [Hd.out])
        go_region_held3 (fun w' => (w'.cell? ⟨w.heap.size, 1, none⟩ = some (.slice (some ⟨b0, o0, none⟩) 18 c) ∧ w'.cell? ⟨b0, o0 + k, none⟩ = some (.string sig[k])) ∧ w'.cell? ⟨gd, k, none⟩ = some (.int .i64 (d : Int)))
          (first | exact hS _ hrb | exact hS _ hrb2 | exact hS _ (by assumption))
          (first
            | (go_at_call 54; refine (HC.out _).mono ?_; rintro e2 w2 ⟨rfl, rfl⟩)
            | (refine step_app _ (by simp [Region.wanted, yielded]) _ _ (by rfl) w1.heap.size u8 _ (endsC m sig k) [chainB sig[k] e] (by simp [Act.eval, Act.put]) (by simp [Act.eval, Act.put]) (oed.ofAlloc _) (sl1' _ wr.drew) (by rw [endsC_len, List.length_singleton]; omega) (by have := hrb.size; simp at this ⊢; omega) ?_; intro v5 w5 own5 grow5 at5; have hb5 := below_grow' (oed.ofAlloc _) hrb2 grow5))
        go_wp2_with fail
        go_roundw
        case rel => exact ⟨k + 1, by omega, by go_num, by rw [HE.out]; exact own5, Ht2, hb5⟩
        case measure => simp [intOf]; omega
    · have hk18 : k = 18 := by omega
      rw [hk18] at Hall oe
      have gk : ¬ ((k : Int) < 18) := by omega
      rw [show sig.take 18 = sig from by rw [← h18, List.take_length]] at Hall
      have hAns := HV.out
      rw [Hall.out, Bool.true_and] at hAns
      have HV2 := Lib.hid hAns
      have Hend := Lib.hid (show endsC m sig 18 = upEnds m sig from rfl)
      have Hlf := Lib.hid (show leafB (lsum (upEnds m sig)) = leafOf (upEnds m sig) from rfl)
      have hel := endsC_len m sig 18
      rw [Hend.out] at oe hel
      have HL := Lib.hid (fun w hl => rlist_all u8 (upEnds m sig) (fun x hx => by
        obtain ⟨j, hj, rfl⟩ := List.mem_map.1 (show x ∈ endsC m sig 18 from hx)
        refine chainB_size _ _ 1000 (by decide) ?_
        have hj' := List.mem_range.1 hj
        rw [getD_lt _ _ _ (by omega)]
        have := HF.out.2.2.1 _ (List.getElem_mem (show j < sig.length by omega))
        omega) (by rw [hel]; decide) w hl)
      have oeS := Lib.hid oe.sl
      clear hAns hlt hk oe hk18
      have hx := (hH1.below hb).cell2
      go_wp2_with fail
      go_loop [10] (fun cc => ∃ k : Nat, k ≤ path.length ∧ cc = .int .i64 (k : Int) ∧ Hid ((path.take k).all digB = true)) (fun cc => path.length - (intOf cc).toNat)
      case atStart => exact ⟨0, by omega, rfl, Lib.hid rfl⟩
      case round =>
        obtain ⟨k, hk, rfl, Hall2⟩ := hrel
        by_cases hlt : k < path.length
        · obtain ⟨pb, po, rfl, hpc⟩ := G2.out k hlt
          have hpc' : wr.cell? ⟨pb, po + k, none⟩ = some (.string path[k]) := ((hb1.trans (hb.mono hb1.size)).cell (p := ⟨pb, po + k, none⟩) (World.block_lt_of_cell? _ _ hpc)).trans hpc
          have zp := HF.out.2.2.2 _ (List.getElem_mem hlt)
          have g1 : (k : Int) < (path.length : Int) := by omega
          have g0 : (0 : Int) ≤ (k : Int) := by omega
          have Htk := Lib.hid (show (path.take (k + 1)).all digB = ((path.take k).all digB && digB path[k]) from by rw [List.take_succ_eq_append_getElem hlt, List.all_append]; simp)
          cases hdg : digB path[k] with
          | false =>
            have Hd := Lib.hid (show isDig (bl path[k]) = false from hdg)
            have hv : path.all digB = false := by rw [List.all_eq_false]; exact ⟨_, List.getElem_mem hlt, by rw [hdg]; decide⟩
            clear hdg
            have hAns := HV2.out
            rw [hv, Bool.false_and] at hAns
            subst hAns
            go_wp2_with (go_at_call 62; refine (ris_any path[k] (by omega) _).mono ?_; rintro e2 w2 ⟨rfl, rfl⟩; rw [Hd.out])
            go_ret
            exact ⟨rfl, hb1.trans (hb.mono hs1)⟩
          | true =>
            have Hd := Lib.hid (show isDig (bl path[k]) = true from hdg)
            have Ht2 := Lib.hid (show (path.take (k + 1)).all digB = true from by rw [Htk.out, Hall2.out, hdg]; rfl)
            clear hdg
            go_wp2_with (go_at_call 62; refine (ris_any path[k] (by omega) _).mono ?_; rintro e2 w2 ⟨rfl, rfl⟩; rw [Hd.out])
            go_round
            case rel => exact ⟨k + 1, by omega, by go_num, Ht2⟩
            case measure => simp [intOf]; omega
        · obtain rfl : k = path.length := by omega
          rw [List.take_length] at Hall2
          have hAns := HV2.out
          rw [Hall2.out, Bool.true_and] at hAns
          subst hAns
          have hb' := hb1.trans (hb.mono hb1.size)
          have hS : ∀ w', Below wr.heap.size wr w' → w'.cell? ⟨w.heap.size, 0, none⟩ = some (.int .i64 idx) ∧ w'.cell? ⟨w.heap.size, 2, none⟩ = some (.slice a' path.length c') := fun w' hw =>
            ⟨((hH1.below hb).below hw).cell0, ((hH1.below hb).below hw).cell2⟩
          have hr := (Below.refl wr.heap.size wr).drew
          have g1 : ¬ (path.length : Int) < (path.length : Int) := by omega
          have hz1 : (lsum (upEnds m sig)).size ≤ 1000 := by rw [lsum_size]; decide
          have HK := Lib.hid (fun w hl => rCheck_any pub (n : Int) idx (leafOf (upEnds m sig)) (.slice a' path.length c') path (fun x hx => by have := HF.out.2.2.2 x hx; omega) (by unfold leafOf leafB; rw [lsum_size]; decide) w hl)
          go_wp2_with fail
          go_region_held3 (fun w' => w'.cell? ⟨w.heap.size, 0, none⟩ = some (.int .i64 idx) ∧ w'.cell? ⟨w.heap.size, 2, none⟩ = some (.slice a' path.length c'))
            (first | exact hS _ hr | exact hS _ (by assumption))
            (first
              | (go_at_call 52; refine (HP.out _).mono ?_; rintro e w2 ⟨rfl, rfl⟩)
              | (go_at_call 65; refine (HL.out _ (oeS.out.below hr)).mono ?_; rintro e w3 ⟨rfl, hb3'⟩; have hb3 := hr.trans hb3')
              | (go_at_call 64; refine (rleaf_any (lsum (upEnds m sig)) hz1 _).mono ?_; rintro e w4 ⟨rfl, hb4'⟩; rw [Hlf.out]; have hb4 := hb3.trans (hb4'.mono hb3.size))
              | (go_at_call 63; refine (HK.out _ (SP.out.below (hb'.trans (hb4.mono hb'.size)))).mono ?_; rintro e w5 ⟨rfl, hb5'⟩; have hb5 := hb4.trans (hb5'.mono hb4.size)))
          go_wp2_with fail
          go_ret
          exact ⟨rfl, hb'.trans (hb5.mono hb'.size)⟩

theorem rVerify_any (pub m : ByteArray) (hmm : m.size ≤ 1000) (idx : Int) (vs vp : Value) (sig path : List ByteArray) (hf : FewS sig path) (w : World) (hs : StrSl w vs sig) (hp : StrSl w vp path) :
    Calls Tryd.prog 33 #[.string pub, .string m, .agg #[.int .i64 idx, vs, vp]] w fun e w' => e = .returned (.bool (verB pub m idx sig path)) ∧ Below w.heap.size w w' := by
  by_cases hbad : sig.length = 18 ∧ path.length ≤ 8 ∧ 0 ≤ idx
  · obtain ⟨h18, h8, h0⟩ := hbad
    by_cases hi : idx < ((2 ^ path.length : Nat) : Int)
    · rw [show verB pub m idx sig path = (sig.all digB && (path.all digB && checkB pub ((2 ^ path.length : Nat) : Int) idx (leafOf (upEnds m sig)) path)) from by
        unfold verB
        rw [decide_eq_true h18, decide_eq_true h8, Bool.true_and, Bool.true_and]
        cases hd : path.all digB with
        | true => rw [Bool.true_and]
        | false =>
          have hc : checkB pub ((2 ^ path.length : Nat) : Int) idx (leafOf (upEnds m sig)) path = false := by
            unfold checkB
            rw [hd, Bool.false_and, Bool.and_false, Bool.and_false]
          rw [hc]
          cases sig.all digB <;> rfl]
      exact rVerify_near pub m hmm idx vs vp sig path hf h18 h8 h0 hi w hs hp
    · rw [ver_idx pub m idx sig path (fun x => hi x.2)]
      exact rVerify_high pub m idx vs vp sig path h18 h8 h0 (Int.not_lt.1 hi) w hs hp
  · rw [show verB pub m idx sig path = false from by
      rw [← Bool.not_eq_true, ver_iff]
      exact fun x => hbad ⟨x.1, x.2.2.1, x.2.2.2.2.1.1⟩]
    exact rVerify_short pub m idx vs vp sig path hbad w hs hp

end Go.Proofs.YteapfoadfjjicaaDoor.Dig
