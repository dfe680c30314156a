/- Walks over package date: Union, of proper periods. -/
import Derived.Test.YtdbffhcckmmgfaaDoorDatW7
import Derived.Test.YtdbffhcckmmgfaaDoorRegLast
namespace Go.Proofs.YtdbffhcckmmgfaaDoor.Dt
set_option linter.unusedVariables false
set_option linter.unusedSimpArgs false
open Go.RowKit

theorem PerSl.oneAt {w : World} {B : Nat} (h : B = w.heap.size) (f u : Int) : PerSl (w.alloc (.cells #[.int .i64 f, .int .i64 u] 35)) (.slice (some ⟨B, 0, none⟩) 1 1) [(f, u)] := by
  subst h
  exact PerSl.one w (f, u)
theorem OwnPer.less {w : World} {B : Nat} {v : Value} {l : List Per} (h : OwnPer w B v l) {w' : World} {n : Nat} (hb : Below n w w') (hn : w.heap.size ≤ n) : OwnPer w' B v l := h.below (hb.mono hn)
theorem below_drewN (B : Nat) (w : World) (n : Nat) : Below B w (w.drewN n) := ⟨rfl, rfl, rfl, Nat.le_refl _, fun _ _ => rfl⟩
theorem below_two (w : World) (X Y : Obj) (n : Nat) : Below w.heap.size w (((w.alloc X).drewN n).alloc Y) :=
  (((Below.refl _ _).alloc (Nat.le_refl _) _).trans (below_drewN _ _ _)).alloc (by simp) _
theorem set2_at {B b : Nat} {w wx : World} (h : Below B w wx) (hb : B ≤ b) (o : Nat) (x y : Value) : Below B w ((wx.setCell ⟨b, o, none⟩ x).setCell ⟨b, o + 1, none⟩ y) :=
  (h.setCell (p := ⟨b, o, none⟩) hb _).setCell (p := ⟨b, o + 1, none⟩) hb _
theorem take_fold {L : List Per} {k : Nat} (h : k < L.length) : foldU (L.take (k + 1)) = addU (foldU (L.take k)) L[k] := by
  rw [List.take_succ_eq_append_getElem h, foldU_snoc]

set_option maxRecDepth 100000 in
set_option maxHeartbeats 8000000 in
theorem union_ok (w : World) (v : Value) (l : List Per) (h : PerSl w v l) (hlen : l.length ≤ 1000) (hp : ∀ p ∈ l, propP p) :
    Calls Tryd.prog 27 #[v] w (RetU l w) := by
  obtain ⟨a0, cap0, rfl⟩ := h.form
  have H := Lib.hid h
  have HP := Lib.hid hp
  clear hp h
  go_enter Tryd.func27, Tryd.ntmps27
  go_wp2_with fail
  go_loopw [16] (fun i wr => ∃ k : Nat, i = .int .i64 (k : Int) ∧ k ≤ l.length ∧ Below w.heap.size w wr) (fun i _ => l.length - (intOf i).toNat)
  case atStart => exact ⟨0, rfl, Nat.zero_le _, Below.refl _ _⟩
  case round =>
    obtain ⟨k, rfl, hk, hbel⟩ := hrel
    by_cases hlt : k < l.length
    · obtain ⟨b, off, cap, hv, hb, hm, hc⟩ := H.out.at (by omega)
      simp only [Value.slice.injEq, true_and] at hv
      obtain ⟨rfl, rfl⟩ := hv
      obtain ⟨c1, c2⟩ := hc wr hbel k hlt
      have hq := HP.out l[k] (List.getElem_mem hlt)
      have HCALL := Lib.hid (fun w => proper_yes l[k].1 l[k].2 hq w)
      clear hc hq
      generalize l[k].1 = f at *
      generalize l[k].2 = u at *
      go_wp2_with fail
      refine (HCALL.out _).mono ?_
      rintro r w1 ⟨rfl, hb1⟩
      have hb2 := (hbel.alloc hbel.size (.cells #[.int .i64 f, .int .i64 u] 35)).trans (hb1.mono (by have := hbel.size; simp; omega))
      clear c1 c2
      go_wp2_with fail
      go_roundw
      case rel => exact ⟨k + 1, by go_num, by omega, hb2⟩
      case measure => simp [intOf]; omega
    · obtain rfl : k = l.length := by omega
      clear hlt
      have HW := Lib.hid (H.out.below hbel)
      go_wp2_with fail
      refine (clone_any wr _ l HW.out (by omega)).mono ?_
      rintro r w1 ⟨u1, rfl, hown1, hb1⟩
      obtain ⟨a1, cap1, rfl⟩ := hown1.form
      have HO1 := Lib.hid hown1
      clear hown1
      go_wp2_with fail
      refine (sort_any w1 wr.heap.size _ l HO1.out (by omega) hb1.size).mono ?_
      rintro r w2 ⟨rfl, ⟨L, hL, hs2⟩, hb2⟩
      have hLl : L.length = l.length := hL.1.length_eq
      have hbw2 : Below w.heap.size w w2 := hbel.trans ((hb1.trans hb2).mono hbel.size)
      have HL := Lib.hid hL
      have HS2 := Lib.hid hs2
      have HLl := Lib.hid hLl
      have HPL := Lib.hid (show ∀ p ∈ L, propP p from fun p hpm => HP.out p (hL.1.mem_iff.1 hpm))
      clear hL hs2 hLl HO1 HW H HP hb1 hb2 hbel
      go_wp2_with fail
      go_loopw [7, 30] (fun v i wx => ∃ k : Nat, i = .int .i64 (k : Int) ∧ k ≤ l.length ∧ OwnPer wx w2.heap.size v (foldU (L.take k)) ∧ Below w2.heap.size w2 wx) (fun _ i _ => l.length - (intOf i).toNat)
      case atStart => exact ⟨0, rfl, Nat.zero_le _, OwnPer.nil _ _, Below.refl _ _⟩
      case round =>
        obtain ⟨k, rfl, hk, hown, hbel⟩ := hrel
        by_cases hlt : k < l.length
        · have hltL : k < L.length := by rw [HLl.out]; exact hlt
          have hat := HS2.out.at (by omega)
          obtain ⟨b, off, cap, hv, hb, hm, hc⟩ := hat
          rw [HLl.out] at hv
          simp only [Value.slice.injEq, true_and] at hv
          obtain ⟨rfl, rfl⟩ := hv
          obtain ⟨c1, c2⟩ := hc wr hbel k hltL
          have HT := Lib.hid (take_fold hltL)
          have hpp := HPL.out L[k] (List.getElem_mem hltL)
          clear hc
          generalize L[k] = p at *
          clear hltL
          obtain ⟨f, u⟩ := p
          simp only at c1 c2
          have hlenU : (foldU (L.take k)).length ≤ 1000 := by
            have h1 := foldU_len (L.take k).length (L.take k) rfl
            rw [List.length_take] at h1
            omega
          generalize foldU (L.take k) = U at *
          rcases list_last U with rfl | ⟨V, x, rfl⟩
          · obtain ⟨a2, cap2, rfl⟩ := hown.form
            have HOW := Lib.hid hown
            have HT2 := Lib.hid (HT.out.trans (addU_nil (f, u)))
            clear hown HT hlenU
            have t1 := Two.new wr 35 (.int .i64 f) (.int .i64 u)
            have hb1 : Below w2.heap.size w2 (wr.alloc (.cells #[.int .i64 f, .int .i64 u] 35)) := hbel.alloc hbel.size _
            go_wp2_with fail
            go_quiet (fail)
            go_wp2_with (at_builtin; refine list_append_per _ rfl _ _ rfl w2.heap.size _ _ [] [(f, u)] rfl rfl (HOW.out.below (below_two wr _ _ nq)) (PerSl.oneAt (by simp) f u) (by simp) (by have := hbel.size; simp; omega) ?_; intro v' w' hown hgr)
            have hb2 := (hbel.trans ((below_two wr (.cells #[.int .i64 f, .int .i64 u] 35) (.cells #[.int .i64 f, .int .i64 u] 35) nq).mono hbel.size)).grown hgr (by have := hbel.size; simp; omega) (fun k hk => HOW.out.lt k hk)
            have HOW2 := Lib.hid hown
            clear hown hgr
            go_wp2_with fail
            go_roundw
            case rel => exact ⟨k + 1, by go_num, by omega, by rw [HT2.out]; exact HOW2.out, hb2⟩
            case measure => simp [intOf]; omega
          · obtain ⟨xf, xu⟩ := x
            obtain ⟨g, cap2, rfl, hg, hglt, hgc, hcm, hcx, hf1, hf2⟩ := hown.cells
            have hV : V.length + 1 ≤ 1000 := by have := hlenU; simp at this; omega
            have HOW := Lib.hid hown
            clear hown hlenU
            have hone : OwnPer (wr.alloc (.cells #[.int .i64 f, .int .i64 u] 35)) w2.heap.size (.slice (some ⟨g, 0, none⟩) (V.length + 1) cap2) (V ++ [(xf, xu)]) := HOW.out.below ((Below.refl _ _).alloc (Nat.le_refl _) _)
            have t1 := Two.new wr 35 (.int .i64 f) (.int .i64 u)
            have hb1 : Below w2.heap.size w2 (wr.alloc (.cells #[.int .i64 f, .int .i64 u] 35)) := hbel.alloc hbel.size _
            have hwg : g ≠ wr.heap.size := by omega
            have hltI : ¬ ((V.length : Int) < 0) := by omega
            have hltB : decide ((V.length : Int) < 0) = false := by simp
            have E1 := Lib.hid (fun w => end_any xf xu w)
            have hbq : wr.heap.size ≤ (wr.alloc (.cells #[.int .i64 f, .int .i64 u] 35)).heap.size := by simp
            have k0 : (0 : Int) ≤ (V.length : Int) := by omega
            have k1 : (V.length : Int) < (V.length : Int) + 1 := by omega
            have k2 : (V.length : Int) < ((V.length + 1 : Nat) : Int) := by omega
            go_upto_region 15 with fail
            generalize hWW : wr.alloc (.cells #[.int .i64 f, .int .i64 u] 35) = W at *
            clear hWW
            have HON := Lib.hid hone
            have hcells : ∀ w' : World, Below W.heap.size W w' → w'.cell? ⟨g, V.length * 2, none⟩ = some (.int .i64 xf) ∧ w'.cell? ⟨g, V.length * 2 + 1, none⟩ = some (.int .i64 xu) ∧ w'.cell? ⟨wr.heap.size, 0, none⟩ = some (.int .i64 f) ∧ w'.cell? ⟨wr.heap.size, 1, none⟩ = some (.int .i64 u) ∧ w'.frozen? ⟨g, V.length * 2, none⟩ = false ∧ w'.frozen? ⟨g, V.length * 2 + 1, none⟩ = false := fun w' hb => by
              obtain ⟨g2, cap3, e, -, -, -, -, hx, hfz1, hfz2⟩ := (HON.out.below hb).cells
              simp only [Value.slice.injEq, Option.some.injEq, Addr.mk.injEq, true_and, and_true] at e
              obtain ⟨rfl, rfl⟩ := e
              obtain ⟨a, b, -, -⟩ := (t1.below hb t1.lt).facts
              exact ⟨hx.1, hx.2, a, b, hfz1, hfz2⟩
            have hr := Below.refl W.heap.size W
            clear hone c1 c2 hcx hf1 hf2
            go_wp2_with fail
            go_region_held3 (fun w' => w'.cell? ⟨g, V.length * 2, none⟩ = some (.int .i64 xf) ∧ w'.cell? ⟨g, V.length * 2 + 1, none⟩ = some (.int .i64 xu) ∧ w'.cell? ⟨wr.heap.size, 0, none⟩ = some (.int .i64 f) ∧ w'.cell? ⟨wr.heap.size, 1, none⟩ = some (.int .i64 u) ∧ w'.frozen? ⟨g, V.length * 2, none⟩ = false ∧ w'.frozen? ⟨g, V.length * 2 + 1, none⟩ = false)
              (first | exact hcells _ hr.drew | exact hcells _ (by assumption))
              (first
                | (go_at_call 47; refine (E1.out _).mono ?_; rintro r x1 ⟨rfl, hx1'⟩; have hx1 : Below W.heap.size W x1 := hr.drew.trans hx1'))
            all_goals
              have hb3 := hb1.trans (hx1.mono hb1.size)
              have HO1 := Lib.hid (HON.out.below hx1)
              have q1 := t1.below hx1 t1.lt
              obtain ⟨e1, e2, e3, e4⟩ := q1.facts
              by_cases hn : endP (xf, xu) < f
              · have HT2 := Lib.hid (HT.out.trans (addU_new (V := V) (x := (xf, xu)) (p := (f, u)) hn))
                go_wp2_with (at_builtin; refine list_append_per _ rfl _ _ rfl w2.heap.size _ _ (V ++ [(xf, xu)]) [(f, u)] rfl rfl (HO1.out.below ((Below.refl _ _).alloc (Nat.le_refl _) _)) (PerSl.oneAt (by simp) f u) (by simp; omega) (by have := hb3.size; simp; omega) ?_; intro v' w' hown hgr)
                have hb4 := (hb3.alloc hb3.size (.cells #[.int .i64 f, .int .i64 u] 35)).grown hgr (by have := hb3.size; simp; omega) (fun k hk => HO1.out.lt k hk)
                have HOW2 := Lib.hid hown
                clear hown hgr
                go_wp2_with fail
                go_roundw
                case rel => exact ⟨k + 1, by go_num, by omega, by rw [HT2.out]; exact HOW2.out, hb4⟩
                case measure => simp [intOf]; omega
              · have hnB : decide (endP (xf, xu) < f) = false := by simpa using hn
                have HT2 := Lib.hid (HT.out.trans (addU_join (V := V) (x := (xf, xu)) (p := (f, u)) (Int.not_lt.1 hn)))
                have E2 := Lib.hid (fun w => end_any f u w)
                have hcells1 : ∀ w' : World, Below x1.heap.size x1 w' → w'.cell? ⟨g, V.length * 2, none⟩ = some (.int .i64 xf) ∧ w'.cell? ⟨g, V.length * 2 + 1, none⟩ = some (.int .i64 xu) ∧ w'.cell? ⟨wr.heap.size, 0, none⟩ = some (.int .i64 f) ∧ w'.cell? ⟨wr.heap.size, 1, none⟩ = some (.int .i64 u) ∧ w'.frozen? ⟨g, V.length * 2, none⟩ = false ∧ w'.frozen? ⟨g, V.length * 2 + 1, none⟩ = false := fun w' hb => hcells w' (hx1.trans (hb.mono hx1.size))
                have hr1 := Below.refl x1.heap.size x1
                clear e1 e2 e3 e4
                go_wp2_with fail
                have hS0 := hcells1 x1.drew hr1.drew
                refine Rl.start_of 17 (fun w' => w'.cell? ⟨g, V.length * 2, none⟩ = some (.int .i64 xf) ∧ w'.cell? ⟨g, V.length * 2 + 1, none⟩ = some (.int .i64 xu) ∧ w'.cell? ⟨wr.heap.size, 0, none⟩ = some (.int .i64 f) ∧ w'.cell? ⟨wr.heap.size, 1, none⟩ = some (.int .i64 u) ∧ w'.frozen? ⟨g, V.length * 2, none⟩ = false ∧ w'.frozen? ⟨g, V.length * 2 + 1, none⟩ = false) (by kernel_rfl) ?_
                refine Rl.take_of (i := 0) (v := (.slice (some ⟨g, 0, none⟩) (V.length + 1) cap2)) rfl (by decide) (by kernel_rfl) (by kernel_rfl) (by kernel_rfl) (by kernel_rfl) (by kernel_rfl) (fun _ _ _ h => h) (Or.inl ⟨by rfl, ?_⟩) hS0 ?_
                · intro w' hS; have hS' := hS; (try dsimp only at hS'); obtain ⟨s1, s2, s3, s4, s5, s6⟩ := hS'; go_simp
                simp only [Act.put, List.setIfInBounds_toArray, List.set_cons_zero, List.set_cons_succ]
                refine Rl.take_of (i := 1) (v := (.int .i64 (V.length : Int))) rfl (by decide) (by kernel_rfl) (by kernel_rfl) (by kernel_rfl) (by kernel_rfl) (by kernel_rfl) (fun _ _ _ h => h) (Or.inl ⟨by rfl, ?_⟩) hS0 ?_
                · intro w' hS; have hS' := hS; (try dsimp only at hS'); obtain ⟨s1, s2, s3, s4, s5, s6⟩ := hS'; go_simp
                simp only [Act.put, List.setIfInBounds_toArray, List.set_cons_zero, List.set_cons_succ]
                refine Rl.take_of (i := 2) (v := (.slice (some ⟨g, 0, none⟩) (V.length + 1) cap2)) rfl (by decide) (by kernel_rfl) (by kernel_rfl) (by kernel_rfl) (by kernel_rfl) (by kernel_rfl) (fun _ _ _ h => h) (Or.inl ⟨by rfl, ?_⟩) hS0 ?_
                · intro w' hS; have hS' := hS; (try dsimp only at hS'); obtain ⟨s1, s2, s3, s4, s5, s6⟩ := hS'; go_simp
                simp only [Act.put, List.setIfInBounds_toArray, List.set_cons_zero, List.set_cons_succ]
                refine Rl.take_of (i := 3) (v := (.int .i64 (V.length : Int))) rfl (by decide) (by kernel_rfl) (by kernel_rfl) (by kernel_rfl) (by kernel_rfl) (by kernel_rfl) (fun _ _ _ h => h) (Or.inl ⟨by rfl, ?_⟩) hS0 ?_
                · intro w' hS; have hS' := hS; (try dsimp only at hS'); obtain ⟨s1, s2, s3, s4, s5, s6⟩ := hS'; go_simp
                simp only [Act.put, List.setIfInBounds_toArray, List.set_cons_zero, List.set_cons_succ]
                refine Rl.take_of (i := 4) (v := (.pointer (some ⟨g, V.length * 2, none⟩))) rfl (by decide) (by kernel_rfl) (by kernel_rfl) (by kernel_rfl) (by kernel_rfl) (by kernel_rfl) (fun _ _ _ h => h) (Or.inl ⟨by rfl, ?_⟩) hS0 ?_
                · intro w' hS; have hS' := hS; (try dsimp only at hS'); obtain ⟨s1, s2, s3, s4, s5, s6⟩ := hS'; go_simp
                simp only [Act.put, List.setIfInBounds_toArray, List.set_cons_zero, List.set_cons_succ]
                refine Rl.take_of (i := 5) (v := (.pointer (some ⟨g, V.length * 2, none⟩))) rfl (by decide) (by kernel_rfl) (by kernel_rfl) (by kernel_rfl) (by kernel_rfl) (by kernel_rfl) (fun _ _ _ h => h) (Or.inl ⟨by rfl, ?_⟩) hS0 ?_
                · intro w' hS; have hS' := hS; (try dsimp only at hS'); obtain ⟨s1, s2, s3, s4, s5, s6⟩ := hS'; go_simp
                simp only [Act.put, List.setIfInBounds_toArray, List.set_cons_zero, List.set_cons_succ]
                refine Rl.take_of (i := 6) (v := (.int .i64 xf)) rfl (by decide) (by kernel_rfl) (by kernel_rfl) (by kernel_rfl) (by kernel_rfl) (by kernel_rfl) (fun _ _ _ h => h) (Or.inl ⟨by rfl, ?_⟩) hS0 ?_
                · intro w' hS; have hS' := hS; (try dsimp only at hS'); obtain ⟨s1, s2, s3, s4, s5, s6⟩ := hS'; go_simp
                simp only [Act.put, List.setIfInBounds_toArray, List.set_cons_zero, List.set_cons_succ]
                refine Rl.take_of (i := 7) (v := (.slice (some ⟨g, 0, none⟩) (V.length + 1) cap2)) rfl (by decide) (by kernel_rfl) (by kernel_rfl) (by kernel_rfl) (by kernel_rfl) (by kernel_rfl) (fun _ _ _ h => h) (Or.inl ⟨by rfl, ?_⟩) hS0 ?_
                · intro w' hS; have hS' := hS; (try dsimp only at hS'); obtain ⟨s1, s2, s3, s4, s5, s6⟩ := hS'; go_simp
                simp only [Act.put, List.setIfInBounds_toArray, List.set_cons_zero, List.set_cons_succ]
                refine Rl.take_of (i := 8) (v := (.int .i64 (V.length : Int))) rfl (by decide) (by kernel_rfl) (by kernel_rfl) (by kernel_rfl) (by kernel_rfl) (by kernel_rfl) (fun _ _ _ h => h) (Or.inl ⟨by rfl, ?_⟩) hS0 ?_
                · intro w' hS; have hS' := hS; (try dsimp only at hS'); obtain ⟨s1, s2, s3, s4, s5, s6⟩ := hS'; go_simp
                simp only [Act.put, List.setIfInBounds_toArray, List.set_cons_zero, List.set_cons_succ]
                refine Rl.take_of (i := 9) (v := (.pointer (some ⟨g, V.length * 2, none⟩))) rfl (by decide) (by kernel_rfl) (by kernel_rfl) (by kernel_rfl) (by kernel_rfl) (by kernel_rfl) (fun _ _ _ h => h) (Or.inl ⟨by rfl, ?_⟩) hS0 ?_
                · intro w' hS; have hS' := hS; (try dsimp only at hS'); obtain ⟨s1, s2, s3, s4, s5, s6⟩ := hS'; go_simp
                simp only [Act.put, List.setIfInBounds_toArray, List.set_cons_zero, List.set_cons_succ]
                refine Rl.take_of (i := 10) (v := (.agg #[.int .i64 xf, .int .i64 xu])) rfl (by decide) (by kernel_rfl) (by kernel_rfl) (by kernel_rfl) (by kernel_rfl) (by kernel_rfl) (fun _ _ _ h => h) (Or.inl ⟨by rfl, ?_⟩) hS0 ?_
                · intro w' hS; have hS' := hS; (try dsimp only at hS'); obtain ⟨s1, s2, s3, s4, s5, s6⟩ := hS'; go_simp
                simp only [Act.put, List.setIfInBounds_toArray, List.set_cons_zero, List.set_cons_succ]
                refine Rl.take_of (i := 12) (v := (.agg #[.int .i64 f, .int .i64 u])) rfl (by decide) (by kernel_rfl) (by kernel_rfl) (by kernel_rfl) (by kernel_rfl) (by kernel_rfl) (fun _ _ _ h => h) (Or.inl ⟨by rfl, ?_⟩) hS0 ?_
                · intro w' hS; have hS' := hS; (try dsimp only at hS'); obtain ⟨s1, s2, s3, s4, s5, s6⟩ := hS'; go_simp
                simp only [Act.put, List.setIfInBounds_toArray, List.set_cons_zero, List.set_cons_succ]
                refine Rl.one_of (i := 11) rfl (by kernel_rfl) (fun K hK => ?_)
                rw [if_pos (by rfl)]
                go_simp
                go_at_call 47
                refine (E1.out _).mono ?_
                rintro r y1 ⟨rfl, hy1'⟩
                have hy1 : Below x1.heap.size x1 y1 := hr1.drew.trans hy1'
                refine hK.out _ _ (fun _ => hcells1 _ hy1) ?_
                clear hK K
                try simp only [Act.put, List.setIfInBounds_toArray, List.set_cons_zero, List.set_cons_succ]
                refine Rl.one_of (i := 13) rfl (by kernel_rfl) (fun K hK => ?_)
                rw [if_pos (by rfl)]
                go_simp
                go_at_call 47
                refine (E2.out _).mono ?_
                rintro r y2 ⟨rfl, hy2'⟩
                have hy2 : Below x1.heap.size x1 y2 := hy1.trans (hy2'.mono hy1.size)
                refine hK.out _ _ (fun _ => hcells1 _ hy2) ?_
                clear hK K
                try simp only [Act.put, List.setIfInBounds_toArray, List.set_cons_zero, List.set_cons_succ]
                refine Rl.one_of (i := 14) rfl (by kernel_rfl) (fun K hK => ?_)
                rw [if_pos (by rfl)]
                go_simp
                refine hK.out _ _ (fun _ => hcells1 _ hy2) ?_
                clear hK K
                try simp only [Act.put, List.setIfInBounds_toArray, List.set_cons_zero, List.set_cons_succ]
                refine Rl.one_of (i := 15) rfl (by kernel_rfl) (fun K hK => ?_)
                rw [if_pos (by rfl)]
                go_simp
                go_at_call 48
                refine (between_any _ _ _).mono ?_
                rintro r y3 ⟨rfl, hy3'⟩
                have hy3 : Below x1.heap.size x1 y3 := hy2.trans (hy3'.mono hy2.size)
                refine hK.out _ _ (fun _ => hcells1 _ hy3) ?_
                clear hK K
                try simp only [Act.put, List.setIfInBounds_toArray, List.set_cons_zero, List.set_cons_succ]
                refine Rl.one_of (i := 16) rfl (by kernel_rfl) (fun K hK => ?_)
                rw [if_pos (by rfl)]
                go_simp
                refine hK.out _ _ (fun _ => hcells1 _ hy3) ?_
                clear hK K
                try simp only [Act.put, List.setIfInBounds_toArray, List.set_cons_zero, List.set_cons_succ]
                obtain ⟨o1, o2, o3, o4, o5, o6⟩ := hcells1 _ hy3
                refine Rl.one_of (i := 17) rfl (by kernel_rfl) (fun K hK => ?_)
                rw [if_pos (by rfl)]
                go_simp
                refine hK.out _ _ (fun h => Bool.noConfusion (show true = false from h)) ?_
                clear hK K
                try simp only [Act.put, List.setIfInBounds_toArray, List.set_cons_zero, List.set_cons_succ]
                refine Rl.done_of (by kernel_rfl) ?_ _
                have hO3 := (HO1.out.below hy3).setLast (btw xf (max (endP (xf, xu)) (endP (f, u))))
                have hb5 := set2_at (hb3.trans (hy3.mono hb3.size)) hg (V.length * 2) (.int .i64 (btw xf (max (endP (xf, xu)) (endP (f, u)))).1) (.int .i64 (btw xf (max (endP (xf, xu)) (endP (f, u)))).2)
                have HO3 := Lib.hid hO3
                clear hO3
                go_wp2_with fail
                go_roundw
                case rel => exact ⟨k + 1, by go_num, by omega, by rw [HT2.out]; exact HO3.out, hb5⟩
                case measure => simp [intOf]; omega
        · obtain rfl : k = l.length := by omega
          have hfull : L.take l.length = L := List.take_of_length_le (by rw [HLl.out]; exact Nat.le_refl _)
          rw [hfull] at hown
          have hF := foldU_ok L.length L rfl HPL.out HL.out.2
          have hlenF := foldU_len L.length L rfl
          rw [HLl.out] at hlenF
          have hIs : IsU (foldU L) (cov l) := ⟨hF.1.1, fun x => (hF.1.2 x).trans (cov_mem (fun p => HL.out.1.mem_iff) x)⟩
          have HI := Lib.hid hIs
          have HF := Lib.hid hlenF
          have HS := Lib.hid hown.sl
          have hbz := hbw2.trans (hbel.mono hbw2.size)
          clear hfull hF hlenF hIs hown hlt
          go_wp2_with fail
          go_ret2
          exact ⟨_, _, rfl, HI.out, HF.out, HS.out, hbz⟩
end Go.Proofs.YtdbffhcckmmgfaaDoor.Dt
