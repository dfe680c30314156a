/- The walk of DateUnion, of proper periods. -/
import Derived.Test.YtdbffhcckmmgfaaDoorDatL7
import Derived.Test.YtdbffhcckmmgfaaDoorDatR5
namespace Go.Proofs.YtdbffhcckmmgfaaDoor.Dt
set_option linter.unusedVariables false
set_option linter.unusedSimpArgs false
open Go.RowKit

theorem any_take (l : List Per) (x : Int) (k : Nat) (h : k < l.length) : ((l.take (k + 1)).any fun p => decide (inP p x)) = (((l.take k).any fun p => decide (inP p x)) || decide (inP l[k] x)) := by
  rw [List.take_succ_eq_append_getElem h, List.any_append]
  simp
theorem count_take (l : List Per) (x : Int) (k : Nat) (h : k < l.length) : ((l.take (k + 1)).countP fun p => decide (inP p x)) = ((l.take k).countP fun p => decide (inP p x)) + if decide (inP l[k] x) = true then 1 else 0 := by
  rw [List.take_succ_eq_append_getElem h, List.countP_append]
  simp [List.countP_cons]
theorem canon_next {u : List Per} (h : canon u) (k : Nat) (h1 : k + 1 < u.length) : u[k].2 ≠ -1 ∧ u[k].2 < u[k + 1].1 := by
  have hp := List.pairwise_iff_getElem.1 h.2 k (k + 1) (by omega) h1 (by omega)
  have hq := h.1 _ (List.getElem_mem h1)
  have hq2 := hq.1
  unfold endP at hp
  split at hp
  · omega
  · rename_i hne
    exact ⟨hne, hp⟩

section
variable {P : Program} {md : Region.Mode} {ops : Array Oper} {Q : Exit → Act → World → Prop} {S : World → Prop}
/-- taken first, its place written out -/
theorem take_d {i : Nat} {oi : Oper} {v : Value} {fuel : Nat} {listed : Array Bool} {a : Act} {w : World} (d : Option Tmp) (hi : ops[i]? = some oi) (hd : oi.dst = d)
    (hs : Region.noSelect ops = true) (hf : Region.free md ops listed i = true) (hr : (Region.ready md ops listed).contains i = true)
    (hQ : ∀ c a w, Q (.panic c) (a.put d v) w → Q (.panic c) a w) (hy : YieldsIf P ops S oi v a) (hS : S w)
    (h : wpAnyH P md ops Q S fuel (listed.setIfInBounds i true) (a.put d v) w) : wpAnyH P md ops Q S (fuel + 1) listed a w := by
  subst hd
  exact wpAnyH_take hi hs hf hr hQ hy hS h
end

theorem PerSl.twoAt {w : World} {B : Nat} (h : B = w.heap.size) (f t g u : Int) : PerSl (w.alloc (.cells #[.int .i64 f, .int .i64 t, .int .i64 g, .int .i64 u] 35)) (.slice (some ⟨B, 0, none⟩) 2 2) [(f, t), (g, u)] := by
  subst h
  have hg : (w.alloc (.cells #[.int .i64 f, .int .i64 t, .int .i64 g, .int .i64 u] 35)).heap[w.heap.size]? = some (.cells #[.int .i64 f, .int .i64 t, .int .i64 g, .int .i64 u] 35 (0, 0)) := by
    show (w.heap.push _)[w.heap.size]? = _
    rw [Array.getElem?_push, if_pos rfl]
  refine .inr ⟨w.heap.size, 0, 2, rfl, by simp, by simp, ⟨by simp, by unfold maxLen; omega⟩, fun i hi => ?_⟩
  have hi2 : i < 2 := by simpa using hi
  unfold Cells2
  rw [cell_of_row _ _ _ _ _ _ hg, cell_of_row _ _ _ _ _ _ hg]
  rcases (by omega : i = 0 ∨ i = 1) with rfl | rfl <;> exact ⟨rfl, rfl⟩

theorem rsame_self (w : World) (v u : Value) (A : List Per) (hA : PerSl w v A) (hB : PerSl w u A) (hl : A.length ≤ 100000) :
    Calls Tryd.prog 33 #[v, u] w fun e w' => e = .returned (.bool true) ∧ Below w.heap.size w w' := by
  refine (rsame_any w v u A A hA hB hl hl).mono ?_
  rintro r w' ⟨rfl, h⟩
  exact ⟨by simp, h⟩

set_option maxRecDepth 100000 in
set_option maxHeartbeats 8000000 in
theorem lawUnion_ok (v : Value) (l : List Per) (x : Int) (w : World) (hsl : PerSl w v l) (hlen : l.length ≤ 30) (hp : ∀ p ∈ l, propP p) (hl : Lay w) :
    Calls Tryd.prog 11 #[v, .int .i64 x] w fun e w' => e = .returned (.bool true) ∧ Below w.heap.size w w' := by
  obtain ⟨a0, cap0, rfl⟩ := hsl.form
  have HSL := Lib.hid hsl
  have HP := Lib.hid hp
  have HU := Lib.hid (fun w h => union_ok w (.slice a0 l.length cap0) l h (by omega) hp)
  clear hsl hp
  go_enter Tryd.func11, Tryd.ntmps11
  go_wp2_with fail
  refine (head_any _ hl).mono ?_
  rintro r v1 ⟨rfl, hb1⟩
  go_wp2_with fail
  refine (HU.out _ (HSL.out.below hb1)).mono ?_
  rintro r v2 ⟨u, U, rfl, hIs, hlU, hsU, hx2⟩
  obtain ⟨a1, cap1, rfl⟩ := hsU.form
  have hb2 := hb1.trans (hx2.mono hb1.size)
  have HIS := Lib.hid hIs
  have HSU := Lib.hid hsU
  have hU30 : U.length ≤ 30 := by omega
  clear hIs hsU hlU hx2 HU
  go_wp2_with fail
  go_loopw [8, 9] (fun y i wr => ∃ k : Nat, i = .int .i64 (k : Int) ∧ y = .bool ((l.take k).any fun p => decide (inP p x)) ∧ k ≤ l.length ∧ Below v2.heap.size v2 wr) (fun _ i _ => l.length - (intOf i).toNat)
  case atStart => exact ⟨0, rfl, rfl, Nat.zero_le _, Below.refl _ _⟩
  case round =>
    obtain ⟨k, rfl, rfl, hk, hbel⟩ := hrel
    have hbw := hb2.trans (hbel.mono hb2.size)
    by_cases hlt : k < l.length
    · obtain ⟨b, off, cap, hv, hb, hm, hc⟩ := HSL.out.at (by omega)
      simp only [Value.slice.injEq, true_and] at hv
      obtain ⟨rfl, rfl⟩ := hv
      obtain ⟨c1, c2⟩ := hc wr hbw k hlt
      have hq := HP.out l[k] (List.getElem_mem hlt)
      have HQ := Lib.hid (fun w => proper_yes l[k].1 l[k].2 hq w)
      have HC := Lib.hid (fun w => covers_any l[k].1 l[k].2 x w)
      have HT := Lib.hid (any_take l x k hlt)
      have HAT := Lib.hid (show ∀ w', Below w.heap.size w w' → w'.cell? ⟨b, off + k * 2, none⟩ = some (.int .i64 l[k].1) ∧ w'.cell? ⟨b, off + k * 2 + 1, none⟩ = some (.int .i64 l[k].2) from fun w' hb => hc w' hb k hlt)
      change Hid (∀ w, Calls Tryd.prog 31 #[.agg #[.int .i64 l[k].1, .int .i64 l[k].2], .int .i64 x] w fun r w' => r = .returned (.bool (decide (inP l[k] x))) ∧ Below w.heap.size w w') at HC
      clear hc hq
      generalize decide (inP l[k] x) = D at *
      generalize l[k].1 = f at *
      generalize l[k].2 = t at *
      generalize hcc : ((l.take k).any fun p => decide (inP p x)) = c at *
      clear hcc
      go_wp2_with fail
      refine (HQ.out _).mono ?_
      rintro r v3 ⟨rfl, hx3⟩
      have hb3 := hbel.trans (hx3.mono hbel.size)
      clear c1 c2
      obtain ⟨c1, c2⟩ := HAT.out v3 (hb2.trans (hb3.mono hb2.size))
      cases c with
      | true =>
        have HT2 := Lib.hid (HT.out.trans (Bool.true_or D))
        clear HT
        go_wp2_with fail
        go_roundw
        case rel => exact ⟨k + 1, by go_num, by rw [HT2.out], by omega, hb3⟩
        case measure => simp [intOf]; omega
      | false =>
        have HT2 := Lib.hid (HT.out.trans (Bool.false_or D))
        clear HT
        go_wp2_with fail
        refine (HC.out _).mono ?_
        rintro r v4 ⟨rfl, hx4⟩
        have hb4 := hb3.trans (hx4.mono hb3.size)
        clear c1 c2
        go_wp2_with fail
        go_roundw
        case rel => exact ⟨k + 1, by go_num, by rw [HT2.out], by omega, hb4⟩
        case measure => simp [intOf]; omega
    · obtain rfl : k = l.length := by omega
      rw [List.take_length]
      have HANY := Lib.hid (any_eq (HIS.out.2 x))
      have HCNT := Lib.hid (canon_count U HIS.out.1 x)
      generalize (l.any fun p => decide (inP p x)) = A at *
      generalize (U.any fun p => decide (inP p x)) = A2 at *
      have hAA : A2 = A := HANY.out
      subst hAA
      clear hlt HANY
      go_wp2_with fail
      go_loopw [10, 11] (fun n i wr => ∃ k m : Nat, i = .int .i64 (k : Int) ∧ n = .int .i64 (m : Int) ∧ m = ((U.take k).countP fun p => decide (inP p x)) ∧ k ≤ U.length ∧ Below v2.heap.size v2 wr) (fun _ i _ => U.length - (intOf i).toNat)
      case atStart => exact ⟨0, 0, rfl, rfl, rfl, Nat.zero_le _, hbel⟩
      case round =>
        clear hbel hbw
        obtain ⟨k, m, rfl, rfl, hm, hk, hbel⟩ := hrel
        have HM := Lib.hid hm
        clear hm
        have hm30 : m ≤ 30 := by
          rw [HM.out]
          have := List.countP_le_length (p := fun p => decide (inP p x)) (l := U.take k)
          rw [List.length_take] at this
          omega
        by_cases hlt : k < U.length
        · obtain ⟨b, off, cap, hv, hb, hm, hc⟩ := HSU.out.at (by omega)
          simp only [Value.slice.injEq, true_and] at hv
          obtain ⟨rfl, rfl⟩ := hv
          obtain ⟨c1, c2⟩ := hc wr hbel k hlt
          have hq := HIS.out.1.1 U[k] (List.getElem_mem hlt)
          have HQ := Lib.hid (fun w => proper_yes U[k].1 U[k].2 hq w)
          have HC := Lib.hid (fun w => covers_any U[k].1 U[k].2 x w)
          have HT := Lib.hid (count_take U x k hlt)
          have HAT := Lib.hid (show ∀ w', Below v2.heap.size v2 w' → w'.cell? ⟨b, off + k * 2, none⟩ = some (.int .i64 U[k].1) ∧ w'.cell? ⟨b, off + k * 2 + 1, none⟩ = some (.int .i64 U[k].2) from fun w' hb => hc w' hb k hlt)
          change Hid (∀ w, Calls Tryd.prog 31 #[.agg #[.int .i64 U[k].1, .int .i64 U[k].2], .int .i64 x] w fun r w' => r = .returned (.bool (decide (inP U[k] x))) ∧ Below w.heap.size w w') at HC
          have k0 : (0 : Int) ≤ (k : Int) := by omega
          have k1 : (k : Int) < (U.length : Int) := by omega
          by_cases hz : k = 0
          · subst hz
            rw [Nat.zero_mul, Nat.add_zero] at c1 c2
            have HAT0 := Lib.hid (show ∀ w', Below v2.heap.size v2 w' → w'.cell? ⟨b, off, none⟩ = some (.int .i64 U[0].1) ∧ w'.cell? ⟨b, off + 1, none⟩ = some (.int .i64 U[0].2) from fun w' hb => by have := hc w' hb 0 hlt; rwa [Nat.zero_mul, Nat.add_zero] at this)
            have z0 : (0 : Int) < (U.length : Int) := by omega
            clear hc hq HAT
            generalize decide (inP U[0] x) = D at *
            generalize U[0].1 = f at *
            generalize U[0].2 = t at *
            go_wp2_with fail
            have hS0 := HAT0.out wr.drew (hbel.trans ((Below.refl _ _).drew.mono hbel.size))
            refine wp_region_held_drew (S := (fun w' => w'.cell? ⟨b, off, none⟩ = some (.int .i64 f) ∧ w'.cell? ⟨b, off + 1, none⟩ = some (.int .i64 t))) (by kernel_rfl) hS0 (fun _ => ?_)
            refine take_d (i := 0) (v := (.slice (some ⟨b, off, none⟩) U.length cap1)) (some 67) rfl rfl (by kernel_rfl) (by kernel_rfl) (by kernel_rfl) (fun _ _ _ h => h) (Or.inl ⟨by kernel_rfl, ?_⟩) hS0 ?_
            · intro w' hS; have hS' := hS; (try dsimp only at hS'); obtain ⟨s1, s2⟩ := hS'; go_simp
            simp only [Act.put, List.setIfInBounds_toArray, List.set_cons_zero, List.set_cons_succ]
            refine take_d (i := 1) (v := (.int .i64 0)) (some 68) rfl rfl (by kernel_rfl) (by kernel_rfl) (by kernel_rfl) (fun _ _ _ h => h) (Or.inl ⟨by kernel_rfl, ?_⟩) hS0 ?_
            · intro w' hS; have hS' := hS; (try dsimp only at hS'); obtain ⟨s1, s2⟩ := hS'; go_simp
            simp only [Act.put, List.setIfInBounds_toArray, List.set_cons_zero, List.set_cons_succ]
            refine take_d (i := 2) (v := (.pointer (some ⟨b, off, none⟩))) (some 69) rfl rfl (by kernel_rfl) (by kernel_rfl) (by kernel_rfl) (fun _ _ _ h => h) (Or.inl ⟨by kernel_rfl, ?_⟩) hS0 ?_
            · intro w' hS; have hS' := hS; (try dsimp only at hS'); obtain ⟨s1, s2⟩ := hS'; go_simp
            simp only [Act.put, List.setIfInBounds_toArray, List.set_cons_zero, List.set_cons_succ]
            refine take_d (i := 3) (v := (.agg #[.int .i64 f, .int .i64 t])) (some 70) rfl rfl (by kernel_rfl) (by kernel_rfl) (by kernel_rfl) (fun _ _ _ h => h) (Or.inl ⟨by kernel_rfl, ?_⟩) hS0 ?_
            · intro w' hS; have hS' := hS; (try dsimp only at hS'); obtain ⟨s1, s2⟩ := hS'; go_simp
            simp only [Act.put, List.setIfInBounds_toArray, List.set_cons_zero, List.set_cons_succ]
            refine wpAnyH_ready (rs := [4]) (by kernel_rfl) (by simp) ?_
            refine AllReadyH.cons rfl (fun K hK => ?_) AllReadyH.nil
            rw [if_pos (by rfl)]
            go_simp
            go_at_call 29
            refine (HQ.out _).mono ?_
            rintro r x1 ⟨rfl, hx1⟩
            have hxx : Below wr.heap.size wr x1 := (Below.refl wr.heap.size wr).drew.trans hx1
            have hS1 := HAT0.out x1 (hbel.trans (hxx.mono hbel.size))
            refine hK.out _ _ hS1 (fun _ => ?_)
            clear hK K
            try simp only [Act.put, List.setIfInBounds_toArray, List.set_cons_zero, List.set_cons_succ]
            refine take_d (i := 5) (v := (.bool false)) (some 72) rfl rfl (by kernel_rfl) (by kernel_rfl) (by kernel_rfl) (fun _ _ _ h => h) (Or.inl ⟨by kernel_rfl, ?_⟩) hS1 ?_
            · intro w' hS; have hS' := hS; (try dsimp only at hS'); obtain ⟨s1, s2⟩ := hS'; go_simp
            simp only [Act.put, List.setIfInBounds_toArray, List.set_cons_zero, List.set_cons_succ]
            refine take_d (i := 6) (v := (.bool false)) (some 73) rfl rfl (by kernel_rfl) (by kernel_rfl) (by kernel_rfl) (fun _ _ _ h => h) (Or.inl ⟨by kernel_rfl, ?_⟩) hS1 ?_
            · intro w' hS; have hS' := hS; (try dsimp only at hS'); obtain ⟨s1, s2⟩ := hS'; go_simp
            simp only [Act.put, List.setIfInBounds_toArray, List.set_cons_zero, List.set_cons_succ]
            refine take_d (i := 7) (v := (.int .i64 0)) (some 74) rfl rfl (by kernel_rfl) (by kernel_rfl) (by kernel_rfl) (fun _ _ _ h => h) (Or.inl ⟨by kernel_rfl, ?_⟩) hS1 ?_
            · intro w' hS; have hS' := hS; (try dsimp only at hS'); obtain ⟨s1, s2⟩ := hS'; go_simp
            simp only [Act.put, List.setIfInBounds_toArray, List.set_cons_zero, List.set_cons_succ]
            refine take_d (i := 8) (v := (.bool false)) (some 75) rfl rfl (by kernel_rfl) (by kernel_rfl) (by kernel_rfl) (fun _ _ _ h => h) (Or.inl ⟨by kernel_rfl, ?_⟩) hS1 ?_
            · intro w' hS; have hS' := hS; (try dsimp only at hS'); obtain ⟨s1, s2⟩ := hS'; go_simp
            simp only [Act.put, List.setIfInBounds_toArray, List.set_cons_zero, List.set_cons_succ]
            refine take_d (i := 9) (v := (.bool false)) (some 76) rfl rfl (by kernel_rfl) (by kernel_rfl) (by kernel_rfl) (fun _ _ _ h => h) (Or.inl ⟨by kernel_rfl, ?_⟩) hS1 ?_
            · intro w' hS; have hS' := hS; (try dsimp only at hS'); obtain ⟨s1, s2⟩ := hS'; go_simp
            simp only [Act.put, List.setIfInBounds_toArray, List.set_cons_zero, List.set_cons_succ]
            refine take_d (i := 10) (v := undef) (some 77) rfl rfl (by kernel_rfl) (by kernel_rfl) (by kernel_rfl) (fun _ _ _ h => h) (Or.inr ⟨by kernel_rfl, rfl⟩) hS1 ?_
            simp only [Act.put, List.setIfInBounds_toArray, List.set_cons_zero, List.set_cons_succ]
            refine take_d (i := 11) (v := undef) (some 78) rfl rfl (by kernel_rfl) (by kernel_rfl) (by kernel_rfl) (fun _ _ _ h => h) (Or.inr ⟨by kernel_rfl, rfl⟩) hS1 ?_
            simp only [Act.put, List.setIfInBounds_toArray, List.set_cons_zero, List.set_cons_succ]
            refine take_d (i := 12) (v := undef) (some 79) rfl rfl (by kernel_rfl) (by kernel_rfl) (by kernel_rfl) (fun _ _ _ h => h) (Or.inr ⟨by kernel_rfl, rfl⟩) hS1 ?_
            simp only [Act.put, List.setIfInBounds_toArray, List.set_cons_zero, List.set_cons_succ]
            refine take_d (i := 13) (v := undef) (some 80) rfl rfl (by kernel_rfl) (by kernel_rfl) (by kernel_rfl) (fun _ _ _ h => h) (Or.inr ⟨by kernel_rfl, rfl⟩) hS1 ?_
            simp only [Act.put, List.setIfInBounds_toArray, List.set_cons_zero, List.set_cons_succ]
            refine take_d (i := 14) (v := undef) (some 81) rfl rfl (by kernel_rfl) (by kernel_rfl) (by kernel_rfl) (fun _ _ _ h => h) (Or.inr ⟨by kernel_rfl, rfl⟩) hS1 ?_
            simp only [Act.put, List.setIfInBounds_toArray, List.set_cons_zero, List.set_cons_succ]
            refine take_d (i := 15) (v := undef) (some 82) rfl rfl (by kernel_rfl) (by kernel_rfl) (by kernel_rfl) (fun _ _ _ h => h) (Or.inr ⟨by kernel_rfl, rfl⟩) hS1 ?_
            simp only [Act.put, List.setIfInBounds_toArray, List.set_cons_zero, List.set_cons_succ]
            refine take_d (i := 16) (v := undef) (some 83) rfl rfl (by kernel_rfl) (by kernel_rfl) (by kernel_rfl) (fun _ _ _ h => h) (Or.inr ⟨by kernel_rfl, rfl⟩) hS1 ?_
            simp only [Act.put, List.setIfInBounds_toArray, List.set_cons_zero, List.set_cons_succ]
            refine take_d (i := 17) (v := undef) (some 84) rfl rfl (by kernel_rfl) (by kernel_rfl) (by kernel_rfl) (fun _ _ _ h => h) (Or.inr ⟨by kernel_rfl, rfl⟩) hS1 ?_
            simp only [Act.put, List.setIfInBounds_toArray, List.set_cons_zero, List.set_cons_succ]
            refine take_d (i := 18) (v := undef) (some 85) rfl rfl (by kernel_rfl) (by kernel_rfl) (by kernel_rfl) (fun _ _ _ h => h) (Or.inr ⟨by kernel_rfl, rfl⟩) hS1 ?_
            simp only [Act.put, List.setIfInBounds_toArray, List.set_cons_zero, List.set_cons_succ]
            refine take_d (i := 19) (v := undef) (some 86) rfl rfl (by kernel_rfl) (by kernel_rfl) (by kernel_rfl) (fun _ _ _ h => h) (Or.inr ⟨by kernel_rfl, rfl⟩) hS1 ?_
            simp only [Act.put, List.setIfInBounds_toArray, List.set_cons_zero, List.set_cons_succ]
            refine take_d (i := 20) (v := undef) (some 87) rfl rfl (by kernel_rfl) (by kernel_rfl) (by kernel_rfl) (fun _ _ _ h => h) (Or.inr ⟨by kernel_rfl, rfl⟩) hS1 ?_
            simp only [Act.put, List.setIfInBounds_toArray, List.set_cons_zero, List.set_cons_succ]
            refine take_d (i := 21) (v := undef) (some 88) rfl rfl (by kernel_rfl) (by kernel_rfl) (by kernel_rfl) (fun _ _ _ h => h) (Or.inr ⟨by kernel_rfl, rfl⟩) hS1 ?_
            simp only [Act.put, List.setIfInBounds_toArray, List.set_cons_zero, List.set_cons_succ]
            refine take_d (i := 22) (v := undef) (some 89) rfl rfl (by kernel_rfl) (by kernel_rfl) (by kernel_rfl) (fun _ _ _ h => h) (Or.inr ⟨by kernel_rfl, rfl⟩) hS1 ?_
            simp only [Act.put, List.setIfInBounds_toArray, List.set_cons_zero, List.set_cons_succ]
            refine take_d (i := 23) (v := undef) (some 90) rfl rfl (by kernel_rfl) (by kernel_rfl) (by kernel_rfl) (fun _ _ _ h => h) (Or.inr ⟨by kernel_rfl, rfl⟩) hS1 ?_
            simp only [Act.put, List.setIfInBounds_toArray, List.set_cons_zero, List.set_cons_succ]
            refine take_d (i := 24) (v := undef) (some 91) rfl rfl (by kernel_rfl) (by kernel_rfl) (by kernel_rfl) (fun _ _ _ h => h) (Or.inr ⟨by kernel_rfl, rfl⟩) hS1 ?_
            simp only [Act.put, List.setIfInBounds_toArray, List.set_cons_zero, List.set_cons_succ]
            refine take_d (i := 25) (v := undef) (some 92) rfl rfl (by kernel_rfl) (by kernel_rfl) (by kernel_rfl) (fun _ _ _ h => h) (Or.inr ⟨by kernel_rfl, rfl⟩) hS1 ?_
            simp only [Act.put, List.setIfInBounds_toArray, List.set_cons_zero, List.set_cons_succ]
            refine take_d (i := 26) (v := undef) (some 93) rfl rfl (by kernel_rfl) (by kernel_rfl) (by kernel_rfl) (fun _ _ _ h => h) (Or.inr ⟨by kernel_rfl, rfl⟩) hS1 ?_
            simp only [Act.put, List.setIfInBounds_toArray, List.set_cons_zero, List.set_cons_succ]
            refine take_d (i := 27) (v := undef) (some 94) rfl rfl (by kernel_rfl) (by kernel_rfl) (by kernel_rfl) (fun _ _ _ h => h) (Or.inr ⟨by kernel_rfl, rfl⟩) hS1 ?_
            simp only [Act.put, List.setIfInBounds_toArray, List.set_cons_zero, List.set_cons_succ]
            refine take_d (i := 28) (v := undef) (some 95) rfl rfl (by kernel_rfl) (by kernel_rfl) (by kernel_rfl) (fun _ _ _ h => h) (Or.inr ⟨by kernel_rfl, rfl⟩) hS1 ?_
            simp only [Act.put, List.setIfInBounds_toArray, List.set_cons_zero, List.set_cons_succ]
            refine take_d (i := 29) (v := undef) (some 96) rfl rfl (by kernel_rfl) (by kernel_rfl) (by kernel_rfl) (fun _ _ _ h => h) (Or.inr ⟨by kernel_rfl, rfl⟩) hS1 ?_
            simp only [Act.put, List.setIfInBounds_toArray, List.set_cons_zero, List.set_cons_succ]
            refine take_d (i := 30) (v := undef) (some 97) rfl rfl (by kernel_rfl) (by kernel_rfl) (by kernel_rfl) (fun _ _ _ h => h) (Or.inr ⟨by kernel_rfl, rfl⟩) hS1 ?_
            simp only [Act.put, List.setIfInBounds_toArray, List.set_cons_zero, List.set_cons_succ]
            refine take_d (i := 31) (v := (.bool false)) (some 98) rfl rfl (by kernel_rfl) (by kernel_rfl) (by kernel_rfl) (fun _ _ _ h => h) (Or.inl ⟨by kernel_rfl, ?_⟩) hS1 ?_
            · intro w' hS; have hS' := hS; (try dsimp only at hS'); obtain ⟨s1, s2⟩ := hS'; go_simp
            simp only [Act.put, List.setIfInBounds_toArray, List.set_cons_zero, List.set_cons_succ]
            refine take_d (i := 32) (v := (.bool false)) (some 99) rfl rfl (by kernel_rfl) (by kernel_rfl) (by kernel_rfl) (fun _ _ _ h => h) (Or.inl ⟨by kernel_rfl, ?_⟩) hS1 ?_
            · intro w' hS; have hS' := hS; (try dsimp only at hS'); obtain ⟨s1, s2⟩ := hS'; go_simp
            simp only [Act.put, List.setIfInBounds_toArray, List.set_cons_zero, List.set_cons_succ]
            refine wpAnyH_done (by kernel_rfl) ?_ _
            all_goals
              have hb3 : Below v2.heap.size v2 x1 := hbel.trans (hxx.mono hbel.size)
              clear c1 c2
              obtain ⟨c1, c2⟩ := HAT0.out x1 hb3
              go_wp2_with fail
              refine (HC.out _).mono ?_
              rintro r v4 ⟨rfl, hx4⟩
              have hb4 := hb3.trans (hx4.mono hb3.size)
              clear c1 c2
              cases D with
              | true =>
                go_wp2_with fail
                go_roundw
                case rel => exact ⟨0 + 1, m + 1, by go_num, by go_num, by rw [HT.out, ← HM.out]; rfl, by omega, hb4⟩
                case measure => simp [intOf]; omega
              | false =>
                go_wp2_with fail
                go_roundw
                case rel => exact ⟨0 + 1, m, by go_num, rfl, by rw [HT.out, ← HM.out]; rfl, by omega, hb4⟩
                case measure => simp [intOf]; omega
          · obtain ⟨j, hkj⟩ : ∃ j, k = j + 1 := ⟨k - 1, by omega⟩
            have hj : j < U.length := by omega
            have hn12 : U[j].2 ≠ -1 ∧ U[j].2 < U[k].1 := by
              subst hkj
              exact canon_next HIS.out.1 j hlt
            obtain ⟨n1, n2⟩ := hn12
            have HAJ := Lib.hid (show ∀ w', Below v2.heap.size v2 w' → w'.cell? ⟨b, off + j * 2 + 1, none⟩ = some (.int .i64 U[j].2) from fun w' hb => (hc w' hb j hj).2)
            clear hc hq hz
            generalize decide (inP U[k] x) = D at *
            generalize U[k].1 = f at *
            generalize U[k].2 = t at *
            generalize U[j].2 = z at *
            have nb1 : (z == -1) = false := by simpa using n1
            have nb2 : decide (f ≤ z) = false := by simp; omega
            have hr := Below.refl wr.heap.size wr
            have s1 : IntKind.i64.wrap ((k : Int) - 1) = (k : Int) - 1 := IntWalk.i64_in _ (by omega)
            have s2 : (0 : Int) ≤ (k : Int) - 1 := by omega
            have s3 : (1 : Int) ≤ (k : Int) := by omega
            have s4 : ((k : Int) - 1).toNat = j := by omega
            have s5 : (k : Int) - 1 < (U.length : Int) := by omega
            have s6 : k - 1 = j := by omega
            have s7 : decide ((0 : Int) < (k : Int)) = true := by simp; omega
            have s8 : 0 < k := by omega
            have HKJ := Lib.hid hkj
            clear hkj
            have hS : ∀ w', Below wr.heap.size wr w' → w'.cell? ⟨b, off + k * 2, none⟩ = some (.int .i64 f) ∧ w'.cell? ⟨b, off + k * 2 + 1, none⟩ = some (.int .i64 t) ∧ w'.cell? ⟨b, off + j * 2 + 1, none⟩ = some (.int .i64 z) := fun w' hb => by
              have hb' := hbel.trans (hb.mono hbel.size)
              obtain ⟨a1, a2⟩ := HAT.out w' hb'
              exact ⟨a1, a2, HAJ.out w' hb'⟩
            go_wp2_with fail
            go_region_held3 (fun w' => w'.cell? ⟨b, off + k * 2, none⟩ = some (.int .i64 f) ∧ w'.cell? ⟨b, off + k * 2 + 1, none⟩ = some (.int .i64 t) ∧ w'.cell? ⟨b, off + j * 2 + 1, none⟩ = some (.int .i64 z))
              (first | exact hS _ hr.drew | exact hS _ (by assumption))
              (first
                | (go_at_call 29; refine (HQ.out _).mono ?_; rintro r x1 ⟨rfl, hx1'⟩; have hx1 : Below wr.heap.size wr x1 := hr.drew.trans hx1'))
            all_goals
              have hb3 : Below v2.heap.size v2 x1 := hbel.trans (hx1.mono hbel.size)
              clear c1 c2
              obtain ⟨c1, c2⟩ := HAT.out x1 hb3
              go_wp2_with fail
              refine (HC.out _).mono ?_
              rintro r v4 ⟨rfl, hx4⟩
              have hb4 := hb3.trans (hx4.mono hb3.size)
              clear c1 c2
              cases D with
              | true =>
                go_wp2_with fail
                go_roundw
                case rel => exact ⟨k + 1, m + 1, by go_num, by go_num, by rw [HT.out, ← HM.out]; rfl, by omega, hb4⟩
                case measure => simp [intOf]; omega
              | false =>
                go_wp2_with fail
                go_roundw
                case rel => exact ⟨k + 1, m, by go_num, rfl, by rw [HT.out, ← HM.out]; rfl, by omega, hb4⟩
                case measure => simp [intOf]; omega
        · obtain rfl : k = U.length := by omega
          rw [List.take_length] at HM
          have hbm : ((m : Int) = 1) = (A2 = true) := by
            rw [HM.out, HCNT.out]
            cases A2 <;> simp
          clear hlt hm30
          go_wp2_with fail
          have hs0 : Below v2.heap.size v2 v2 := Below.refl _ _
          have hlw : IntKind.i64.wrap ((l.length : Int) - 1) = (l.length : Int) - 1 := IntWalk.i64_in _ (by omega)
          go_loopw [12, 13] (fun bk i wr => ∃ q : Nat, i = .int .i64 ((q : Int) - 1) ∧ q ≤ l.length ∧ OwnPer wr v2.heap.size bk (backL l q) ∧ Below v2.heap.size v2 wr) (fun _ i _ => (intOf i + 1).toNat)
          case atStart => exact ⟨l.length, by go_num, Nat.le_refl _, by rw [backL_all]; exact OwnPer.nil _ _, hbel⟩
          case round =>
            clear hbel
            obtain ⟨q, rfl, hq, hown, hbel⟩ := hrel
            by_cases hlt : 0 < q
            · obtain ⟨j, rfl⟩ : ∃ j, q = j + 1 := ⟨q - 1, by omega⟩
              have hj : j < l.length := by omega
              have hij : ((j + 1 : Nat) : Int) - 1 = (j : Int) := by omega
              rw [hij]
              obtain ⟨b, off, cap, hv, hb, hm, hc⟩ := HSL.out.at (by omega)
              simp only [Value.slice.injEq, true_and] at hv
              obtain ⟨rfl, rfl⟩ := hv
              have hbw := hb2.trans (hbel.mono hb2.size)
              obtain ⟨c1, c2⟩ := hc wr hbw j hj
              have HAT := Lib.hid (show ∀ w', Below w.heap.size w w' → w'.cell? ⟨b, off + j * 2, none⟩ = some (.int .i64 l[j].1) ∧ w'.cell? ⟨b, off + j * 2 + 1, none⟩ = some (.int .i64 l[j].2) from fun w' hb => hc w' hb j hj)
              have HB := Lib.hid (show backL l j = backL l (j + 1) ++ [(l[j].1, l[j].2), (l[j].1, l[j].2)] from backL_step l j hj)
              have hRl : (backL l (j + 1)).length ≤ 60 := by have := backL_len l (j + 1) hq; omega
              have HOWN := Lib.hid hown
              clear hc hown
              generalize backL l (j + 1) = R at *
              generalize l[j].1 = f at *
              generalize l[j].2 = t at *
              go_wp2_with fail
              have hr := Below.refl wr.heap.size wr
              have hbq := hbel.size
              go_region_held3 (fun w' => w'.cell? ⟨b, off + j * 2, none⟩ = some (.int .i64 f) ∧ w'.cell? ⟨b, off + j * 2 + 1, none⟩ = some (.int .i64 t))
                (first | exact HAT.out _ (hbw.trans (hr.drew.mono hbw.size)) | exact HAT.out _ (hbw.trans ((hr.drew.alloc (by simp) _).mono hbw.size)) | exact HAT.out _ (hb2.trans (hx1.mono hb2.size)))
                (first
                  | (refine step_append_per _ rfl _ _ rfl v2.heap.size _ _ R [(f, t), (f, t)] rfl rfl (HOWN.out.below (hr.drew.alloc (by simp) _)) (PerSl.twoAt (by simp) f t f t) (by simp; omega) (by simp; omega) ?_
                     intro v' x1 hown1 hgr
                     have hx1 : Below v2.heap.size v2 x1 := (hbel.trans ((hr.drew.alloc (by simp) _).mono hbel.size)).grown hgr (by simp; omega) (fun k hk => HOWN.out.lt k hk)
                     have HO1 := Lib.hid hown1
                     clear hown1 hgr))
              all_goals
                go_wp2_with fail
                go_roundw
                case rel => exact ⟨j, by go_num, by omega, by rw [HB.out]; exact HO1.out, hx1⟩
                case measure => (try simp [intOf]); (try omega)
            · obtain rfl : q = 0 := by omega
              obtain ⟨a2, cap2, rfl⟩ := hown.form
              have hbl : (backL l 0).length ≤ 60 := by have := backL_len l 0 (Nat.zero_le _); omega
              have HUB := Lib.hid (union_ok wr _ _ hown.sl (by omega) (fun p hpm => HP.out p ((backL_mem l p).1 hpm)))
              have HUU := Lib.hid (fun w h => union_ok w (.slice a1 U.length cap1) U h (by omega) HIS.out.1.1)
              generalize hBL : (backL l 0).length = n at *
              clear hlt hown
              go_wp2_with fail
              refine HUB.out.mono ?_
              rintro r y1 ⟨v, V, rfl, hV, hVl, hVs, hy1⟩
              obtain rfl : U = V := HIS.out.unique hV (cov_mem (fun p => (backL_mem l p).symm))
              obtain ⟨a3, cap3, rfl⟩ := hVs.form
              have hb3 := hbel.trans (hy1.mono hbel.size)
              have HVS := Lib.hid hVs
              clear hV hVl hVs HUB
              go_wp2_with fail
              refine (HUU.out _ (HSU.out.below hb3)).mono ?_
              rintro r y2 ⟨v, V, rfl, hV, hVl, hVs, hy2⟩
              obtain rfl : U = V := (IsU.self HIS.out.1).unique hV (fun _ => Iff.rfl)
              obtain ⟨a4, cap4, rfl⟩ := hVs.form
              have hb4 := hb3.trans (hy2.mono hb3.size)
              have HS1 := Lib.hid (HSU.out.below hb4)
              have HS2 := Lib.hid (HVS.out.below hy2)
              have HS3 := Lib.hid hVs
              clear hV hVl hVs HUU
              have hm2 : m = if A2 = true then 1 else 0 := HM.out.trans HCNT.out
              cases A2 with
              | true =>
                obtain rfl : m = 1 := hm2
                go_wp2_with fail
                refine (rsame_self _ _ _ U HS1.out HS2.out (by omega)).mono ?_
                rintro r y3 ⟨rfl, hy3⟩
                have hb5 := hb4.trans (hy3.mono hb4.size)
                go_wp2_with fail
                refine (rsame_self _ _ _ U (HS1.out.below hy3) (HS3.out.below hy3) (by omega)).mono ?_
                rintro r y4 ⟨rfl, hy4⟩
                have hb6 := hb2.trans ((hb5.trans (hy4.mono hb5.size)).mono hb2.size)
                go_wp2_with fail
                go_ret
                exact ⟨rfl, hb6⟩
              | false =>
                obtain rfl : m = 0 := hm2
                go_wp2_with fail
                refine (rsame_self _ _ _ U HS1.out HS2.out (by omega)).mono ?_
                rintro r y3 ⟨rfl, hy3⟩
                have hb5 := hb4.trans (hy3.mono hb4.size)
                go_wp2_with fail
                refine (rsame_self _ _ _ U (HS1.out.below hy3) (HS3.out.below hy3) (by omega)).mono ?_
                rintro r y4 ⟨rfl, hy4⟩
                have hb6 := hb2.trans ((hb5.trans (hy4.mono hb5.size)).mono hb2.size)
                go_wp2_with fail
                go_ret
                exact ⟨rfl, hb6⟩
theorem lawUnion (v : Value) (l : List Per) (x : Int) (w : World) (hsl : PerSl w v l) (hl : Lay w) :
    Calls Tryd.prog 11 #[v, .int .i64 x] w fun e w' => e = .returned (.bool true) ∧ Below w.heap.size w w' := by
  by_cases hlen : l.length ≤ 30
  · by_cases hp : ∀ p ∈ l, propP p
    · exact lawUnion_ok v l x w hsl hlen hp hl
    · exact lawUnion_bad v l x w hsl hlen hp hl
  · exact lawUnion_long v l x w hsl (by omega) hl
end Go.Proofs.YtdbffhcckmmgfaaDoor.Dt
