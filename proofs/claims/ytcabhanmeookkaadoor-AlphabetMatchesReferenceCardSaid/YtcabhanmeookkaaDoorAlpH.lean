/- Walk over the law's head of layer 10: the chapter's examples. -/
import Derived.Test.YtcabhanmeookkaaDoorAlpW10
namespace Go.Proofs.YtcabhanmeookkaaDoor.Al
set_option linter.unusedVariables false
set_option linter.unusedSimpArgs false
open Go.RowKit

theorem he0 : validA (bl smN) (bls smL) smS = true := by decide +kernel
theorem he1 : readA true (bls smL) (bl ⟨#[97, 98, 97, 65, 99]⟩) = ([1, 0, 3, 2], 0, 0) := by decide +kernel
theorem he2 : readA true (bls smL) (bl ⟨#[98]⟩) = ([], 3, 0) := by decide +kernel
theorem he3 : readA true (bls smL) (bl ⟨#[97, 99, 98]⟩) = ([], 3, 2) := by decide +kernel
theorem he4 : foldA true (bls smL) smS (bl ⟨#[65, 99, 65, 98]⟩) = ([], 1) := by decide +kernel
theorem he5 : foldA true (bls smL) smS (bl ⟨#[65, 67, 97, 98]⟩) = ([97, 99, 97, 98], 0) := by decide +kernel
theorem he6 : joinA true (bls smL) [1, 0, 3, 2] = ([97, 98, 97, 65, 99], 0) := by decide +kernel
theorem he7 : validA (bl smN) (bls (smL ++ [⟨#[98, 99]⟩])) (smS ++ [5]) = false := by decide +kernel
theorem infoS : (Tryd.prog.info? 9).map (fun i => (i.zero, i.size, i.bytes)) = some (some (.string ⟨#[]⟩), 1, 16) := by kernel_rfl

theorem row_strSl {W : World} {B k : Nat} {v : Value} {xs : List Value} {l : List ByteArray} (h : W.ownsRow B 9 1 v k xs) (hx : xs = l.map Value.string) : StrSl W v l := by
  subst hx
  have hl := h.1
  rw [List.length_map, Nat.mul_one] at hl
  subst hl
  rcases h.2 with ⟨rfl, h0⟩ | ⟨g, cap, cur, hv, hB, hg, hc, hm, hs, hx⟩
  · exact .inl ⟨List.length_eq_zero_iff.1 h0, none, 0, rfl⟩
  · by_cases h0 : l.length = 0
    · exact .inl ⟨List.length_eq_zero_iff.1 h0, _, cap, by rw [hv, h0]⟩
    · refine .inr ⟨g, 0, cap, hv, by omega, (Array.getElem?_eq_some_iff.1 hg).1, ⟨hc, hm⟩, fun i hi => ?_⟩
      have h1 : (cur.toList.take (l.length * 1))[i]? = (l.map Value.string)[i]? := by rw [hx]
      rw [List.getElem?_take, if_pos (by omega), List.getElem?_map, List.getElem?_eq_getElem hi, Array.getElem?_toList] at h1
      rw [Nat.zero_add, cell_of_row _ _ _ _ _ _ hg, h1]
      rfl
theorem row_intSl2 {W : World} {B k : Nat} {v : Value} {xs : List Value} {l : List Int} (h : W.ownsRow B 3 1 v k xs) (hx : xs = l.map (Value.int .i64)) : IntSl W v l := by
  subst hx
  have hl := h.1
  rw [List.length_map, Nat.mul_one] at hl
  subst hl
  rcases h.2 with ⟨rfl, h0⟩ | ⟨g, cap, cur, hv, hB, hg, hc, hm, hs, hx⟩
  · exact .inl ⟨List.length_eq_zero_iff.1 h0, none, 0, rfl⟩
  · by_cases h0 : l.length = 0
    · exact .inl ⟨List.length_eq_zero_iff.1 h0, _, cap, by rw [hv, h0]⟩
    · refine .inr ⟨g, 0, cap, hv, by omega, (Array.getElem?_eq_some_iff.1 hg).1, ⟨hc, hm⟩, fun i hi => ?_⟩
      have h1 : (cur.toList.take (l.length * 1))[i]? = (l.map (Value.int .i64))[i]? := by rw [hx]
      rw [List.getElem?_take, if_pos (by omega), List.getElem?_map, List.getElem?_eq_getElem hi, Array.getElem?_toList] at h1
      rw [Nat.zero_add, cell_of_row _ _ _ _ _ _ hg, h1]
      rfl

theorem grownBy_set (W : World) (b i : Nat) (v : Value) : W.grownBy (W.setCell ⟨b, i, none⟩ v) (some b) :=
  ⟨rfl, rfl, rfl, (KeepsWalks.setCell W _ v).size, fun k _ hk => Below.heap_setCell _ _ _ k (fun e => hk (by rw [e]))⟩
theorem strSl_news {W : World} {b n c : Nat} {l : List ByteArray} (h : StrSl W (.slice (some ⟨b, 0, none⟩) n c) l) : ∀ j u, (l.map Value.string)[j]? = some u → W.cell? ((⟨b, 0, none⟩ : Addr).add j) = some u := by
  intro j u hu
  have hadd : (⟨b, 0, none⟩ : Addr).add j = ⟨b, j, none⟩ := by unfold Addr.add; split <;> simp_all
  rw [List.getElem?_map] at hu
  cases hj : l[j]? with
  | none => rw [hj] at hu; cases hu
  | some s =>
    rw [hj] at hu
    simp only [Option.map_some, Option.some.injEq] at hu
    subst hu
    obtain ⟨hlt, he⟩ := List.getElem?_eq_some_iff.1 hj
    obtain ⟨b', off, cap, hv, _, _, hc⟩ := h.open (by omega)
    simp only [Value.slice.injEq, Option.some.injEq, Addr.mk.injEq, and_true] at hv
    obtain ⟨⟨rfl, rfl⟩, _, _⟩ := hv
    rw [hadd]
    have := hc j hlt
    rw [Nat.zero_add, he] at this
    exact this
theorem intSl_news {W : World} {b n c : Nat} {l : List Int} (h : IntSl W (.slice (some ⟨b, 0, none⟩) n c) l) : ∀ j u, (l.map (Value.int .i64))[j]? = some u → W.cell? ((⟨b, 0, none⟩ : Addr).add j) = some u := by
  intro j u hu
  have hadd : (⟨b, 0, none⟩ : Addr).add j = ⟨b, j, none⟩ := by unfold Addr.add; split <;> simp_all
  rw [List.getElem?_map] at hu
  cases hj : l[j]? with
  | none => rw [hj] at hu; cases hu
  | some s =>
    rw [hj] at hu
    simp only [Option.map_some, Option.some.injEq] at hu
    subst hu
    obtain ⟨hlt, he⟩ := List.getElem?_eq_some_iff.1 hj
    obtain ⟨b', off, cap, hv, _, _, hc⟩ := h.open (by omega)
    simp only [Value.slice.injEq, Option.some.injEq, Addr.mk.injEq, and_true] at hv
    obtain ⟨⟨rfl, rfl⟩, _, _⟩ := hv
    rw [hadd]
    have := hc j hlt
    rw [Nat.zero_add, he] at this
    exact this

set_option maxRecDepth 100000 in
set_option maxHeartbeats 4000000 in
theorem head_any (w : World) : Calls Tryd.prog 11 #[] w fun e w' => e = .returned (.bool true) ∧ Below w.heap.size w w' := by
  obtain ⟨i0, hi, hz0, hz1, hz2⟩ := info_parts infoS
  obtain ⟨n0, hj, hy0, hy1, hy2⟩ := info_parts infoI
  go_enter Tryd.func11, Tryd.ntmps11
  go_wp2_with fail
  refine (sample_any w).mono ?_
  rintro e w1 ⟨b1, b2, rfl, hsl, hss, hb1⟩
  have hA1 : Alp smN (.slice (some ⟨b1, 0, none⟩) 5 5) (.slice (some ⟨b2, 0, none⟩) 5 5) smL smS w1 := ⟨by decide, by decide, by decide, hsl, hss⟩
  have k1 := Blk.new w1 25 #[.string smN, .slice (some ⟨b1, 0, none⟩) 5 5, .slice (some ⟨b2, 0, none⟩) 5 5]
  have hz := hb1.size
  have hbA := hb1.alloc hz (.cells #[.string smN, .slice (some ⟨b1, 0, none⟩) 5 5, .slice (some ⟨b2, 0, none⟩) 5 5] 25)
  have hA2 := hA1.below ((Below.refl w1.heap.size w1).alloc (Nat.le_refl _) (.cells #[.string smN, .slice (some ⟨b1, 0, none⟩) 5 5, .slice (some ⟨b2, 0, none⟩) 5 5] 25))
  clear hsl hss hA1
  have hr1 := fun w' (h : Alp smN (.slice (some ⟨b1, 0, none⟩) 5 5) (.slice (some ⟨b2, 0, none⟩) 5 5) smL smS w') => Read_any smN _ _ smL smS ⟨#[97, 98, 97, 65, 99]⟩ (by decide) w' h
  have hr2 := fun w' (h : Alp smN (.slice (some ⟨b1, 0, none⟩) 5 5) (.slice (some ⟨b2, 0, none⟩) 5 5) smL smS w') => Read_any smN _ _ smL smS ⟨#[98]⟩ (by decide) w' h
  have hr3 := fun w' (h : Alp smN (.slice (some ⟨b1, 0, none⟩) 5 5) (.slice (some ⟨b2, 0, none⟩) 5 5) smL smS w') => Read_any smN _ _ smL smS ⟨#[97, 99, 98]⟩ (by decide) w' h
  have hr4 := fun w' (h : Alp smN (.slice (some ⟨b1, 0, none⟩) 5 5) (.slice (some ⟨b2, 0, none⟩) 5 5) smL smS w') => Fold_any smN _ _ smL smS ⟨#[65, 99, 65, 98]⟩ (by decide) w' h
  have hr5 := fun w' (h : Alp smN (.slice (some ⟨b1, 0, none⟩) 5 5) (.slice (some ⟨b2, 0, none⟩) 5 5) smL smS w') => Fold_any smN _ _ smL smS ⟨#[65, 67, 97, 98]⟩ (by decide) w' h
  have hr6 := fun w' vx (h : Alp smN (.slice (some ⟨b1, 0, none⟩) 5 5) (.slice (some ⟨b2, 0, none⟩) 5 5) smL smS w') hX => Join_any smN _ _ vx smL smS [1, 0, 3, 2] w' h hX (by decide)
  have hr7 := fun w' (h : Alp smN (.slice (some ⟨b1, 0, none⟩) 5 5) (.slice (some ⟨b2, 0, none⟩) 5 5) smL smS w') => Valid_any smN _ _ smL smS w' h
  rw [he0] at hr1 hr2 hr3 hr4 hr5 hr6 hr7
  rw [he1] at hr1
  rw [he2] at hr2
  rw [he3] at hr3
  rw [he4] at hr4
  rw [he5] at hr5
  rw [he6] at hr6
  have H1 := Lib.hid hr1
  have H2 := Lib.hid hr2
  have H3 := Lib.hid hr3
  have H4 := Lib.hid hr4
  have H5 := Lib.hid hr5
  have H6 := Lib.hid hr6
  have H7 := Lib.hid hr7
  clear hr1 hr2 hr3 hr4 hr5 hr6 hr7
  go_wp2_with fail
  obtain ⟨w2, hw2⟩ : ∃ w2, w1.alloc (.cells #[.string smN, .slice (some ⟨b1, 0, none⟩) 5 5, .slice (some ⟨b2, 0, none⟩) 5 5] 25) = w2 := ⟨_, rfl⟩
  rw [hw2] at k1 hbA hA2 ⊢
  clear hw2 hb1
  have hlA := k1.lt
  have x2_0 : w2.cell? ⟨w1.heap.size, 0, none⟩ = some (.string smN) := k1.cell 0
  have x2_1 : w2.cell? ⟨w1.heap.size, 1, none⟩ = some (.slice (some ⟨b1, 0, none⟩) 5 5) := k1.cell 1
  have x2_2 : w2.cell? ⟨w1.heap.size, 2, none⟩ = some (.slice (some ⟨b2, 0, none⟩) 5 5) := k1.cell 2
  refine (H1.out _ hA2).mono ?_
  rintro e w3 ⟨v3, rfl, own3, hq3⟩
  clear x2_0 x2_1 x2_2
  have k3 := k1.below hq3 k1.lt
  have hA3 := hA2.below hq3
  have hb3 := hbA.trans (hq3.mono hbA.size)
  have x3_0 : w3.cell? ⟨w1.heap.size, 0, none⟩ = some (.string smN) := k3.cell 0
  have x3_1 : w3.cell? ⟨w1.heap.size, 1, none⟩ = some (.slice (some ⟨b1, 0, none⟩) 5 5) := k3.cell 1
  have x3_2 : w3.cell? ⟨w1.heap.size, 2, none⟩ = some (.slice (some ⟨b2, 0, none⟩) 5 5) := k3.cell 2
  have s3 := row_intSl own3
  clear own3
  go_wp2_with fail
  refine (H2.out _ hA3).mono ?_
  rintro e w4 ⟨v4, rfl, -, hq4⟩
  clear x3_0 x3_1 x3_2
  have k4 := k3.below hq4 k3.lt
  have hA4 := hA3.below hq4
  have hb4 := hb3.trans (hq4.mono hb3.size)
  have x4_0 : w4.cell? ⟨w1.heap.size, 0, none⟩ = some (.string smN) := k4.cell 0
  have x4_1 : w4.cell? ⟨w1.heap.size, 1, none⟩ = some (.slice (some ⟨b1, 0, none⟩) 5 5) := k4.cell 1
  have x4_2 : w4.cell? ⟨w1.heap.size, 2, none⟩ = some (.slice (some ⟨b2, 0, none⟩) 5 5) := k4.cell 2
  go_wp2_with fail
  refine (H3.out _ hA4).mono ?_
  rintro e w5 ⟨v5, rfl, -, hq5⟩
  clear x4_0 x4_1 x4_2
  have k5 := k4.below hq5 k4.lt
  have hA5 := hA4.below hq5
  have hb5 := hb4.trans (hq5.mono hb4.size)
  have x5_0 : w5.cell? ⟨w1.heap.size, 0, none⟩ = some (.string smN) := k5.cell 0
  have x5_1 : w5.cell? ⟨w1.heap.size, 1, none⟩ = some (.slice (some ⟨b1, 0, none⟩) 5 5) := k5.cell 1
  have x5_2 : w5.cell? ⟨w1.heap.size, 2, none⟩ = some (.slice (some ⟨b2, 0, none⟩) 5 5) := k5.cell 2
  go_wp2_with fail
  refine (H4.out _ hA5).mono ?_
  rintro e w6 ⟨rfl, hq6⟩
  clear x5_0 x5_1 x5_2
  have k6 := k5.below hq6 k5.lt
  have hA6 := hA5.below hq6
  have hb6 := hb5.trans (hq6.mono hb5.size)
  have x6_0 : w6.cell? ⟨w1.heap.size, 0, none⟩ = some (.string smN) := k6.cell 0
  have x6_1 : w6.cell? ⟨w1.heap.size, 1, none⟩ = some (.slice (some ⟨b1, 0, none⟩) 5 5) := k6.cell 1
  have x6_2 : w6.cell? ⟨w1.heap.size, 2, none⟩ = some (.slice (some ⟨b2, 0, none⟩) 5 5) := k6.cell 2
  go_wp2_with fail
  refine (H5.out _ hA6).mono ?_
  rintro e w7 ⟨rfl, hq7⟩
  clear x6_0 x6_1 x6_2
  have k7 := k6.below hq7 k6.lt
  have hA7 := hA6.below hq7
  have hb7 := hb6.trans (hq7.mono hb6.size)
  have x7_0 : w7.cell? ⟨w1.heap.size, 0, none⟩ = some (.string smN) := k7.cell 0
  have x7_1 : w7.cell? ⟨w1.heap.size, 1, none⟩ = some (.slice (some ⟨b1, 0, none⟩) 5 5) := k7.cell 1
  have x7_2 : w7.cell? ⟨w1.heap.size, 2, none⟩ = some (.slice (some ⟨b2, 0, none⟩) 5 5) := k7.cell 2
  go_wp2_with fail
  have hq0 := (Below.refl w7.heap.size w7).alloc (Nat.le_refl _) (.cells #[.int .i64 1, .int .i64 0, .int .i64 3, .int .i64 2] 3)
  refine (H6.out _ _ (hA7.below hq0) (blk_intSl (l := [1, 0, 3, 2]) (Blk.new w7 _ _) (by decide) (by decide))).mono ?_
  rintro e w8 ⟨rfl, hq8⟩
  clear x7_0 x7_1 x7_2
  have hq8 := hq0.trans (hq8.mono hq0.size)
  have k8 := k7.below hq8 k7.lt
  have hA8 := hA7.below hq8
  have hb8 := hb7.trans (hq8.mono hb7.size)
  have s8 := s3.below ((((hq4.trans (hq5.mono hq4.size)).trans (hq6.mono (Nat.le_trans hq4.size hq5.size))).trans (hq7.mono (Nat.le_trans (Nat.le_trans hq4.size hq5.size) hq6.size))).trans (hq8.mono (Nat.le_trans (Nat.le_trans (Nat.le_trans hq4.size hq5.size) hq6.size) hq7.size)))
  have x8_0 : w8.cell? ⟨w1.heap.size, 0, none⟩ = some (.string smN) := k8.cell 0
  have x8_1 : w8.cell? ⟨w1.heap.size, 1, none⟩ = some (.slice (some ⟨b1, 0, none⟩) 5 5) := k8.cell 1
  have x8_2 : w8.cell? ⟨w1.heap.size, 2, none⟩ = some (.slice (some ⟨b2, 0, none⟩) 5 5) := k8.cell 2
  clear hq0 hq3 hq4 hq5 hq6 hq7 hq8 hA2 hA3 hA4 hA5 hA6 hA7 hb3 hb4 hb5 hb6 hb7 k3 k4 k5 k6 k7 s3 H1 H2 H3 H4 H5 H6
  go_upto_region 9 with fail
  have hq9 := (Below.refl w8.heap.size w8).alloc (Nat.le_refl _) (.cells #[.string smN, .slice (some ⟨b1, 0, none⟩) 5 5, .slice (some ⟨b2, 0, none⟩) 5 5] 25)
  have m9 := Blk.new w8 25 #[.string smN, .slice (some ⟨b1, 0, none⟩) 5 5, .slice (some ⟨b2, 0, none⟩) 5 5]
  have hlM := m9.lt
  obtain ⟨w9, hw9⟩ : ∃ w9, w8.alloc (.cells #[.string smN, .slice (some ⟨b1, 0, none⟩) 5 5, .slice (some ⟨b2, 0, none⟩) 5 5] 25) = w9 := ⟨_, rfl⟩
  rw [hw9] at hq9 m9 hlM ⊢
  clear hw9 x8_0 x8_1 x8_2
  have k9 := k8.below hq9 k8.lt
  have hk9 := k9.lt
  have hm9 := hlM
  have hA9 := hA8.below hq9
  have hb9 := hb8.trans (hq9.mono hb8.size)
  have s9 := s8.below hq9
  have hzb := hb9.size
  have x9_1 : w9.cell? ⟨w1.heap.size, 1, none⟩ = some (.slice (some ⟨b1, 0, none⟩) 5 5) := k9.cell 1
  have hn9 := strSl_news (hA9.sl.below ((Below.refl w9.heap.size w9).alloc (Nat.le_refl _) (.cells #[] 9)))
  have hk8 := k8.lt
  clear k8
  go_wp2_with (at_builtin; refine wpList_append_own _ rfl _ _ 22 rfl w9.heap.size 9 i0 (.string ⟨#[]⟩) 1 16 Tryd.underlying22 hi hz0 hz1 hz2 rfl (by decide) _ 0 [] rfl (World.ownsRow_made w9 #[] 0 (Nat.le_refl _) ?c1 rfl) ⟨b1, 0, none⟩ 5 5 (smL.map Value.string) rfl rfl hn9 ?c2 ?c3 ?c4 ?c5 ?_)
  case c1 => unfold maxLen; omega
  case c2 => decide
  case c3 => unfold maxLen; omega
  case c4 => omega
  case c5 => first | (simp; done) | (simp; omega)
  intro v10 w10 own10 grow10 _
  have hq10 : Below w9.heap.size w9 w10 := ((Below.refl w9.heap.size w9).alloc (Nat.le_refl _) _).grown grow10 (by simp) (fun j e => by simp [Value.ownBlock] at e; omega)
  have k10 := k9.below hq10 hk9
  have m10 := m9.below hq10 hm9
  have hz10 := hq10.size
  go_wp2_with (at_builtin; refine wpList_append_own _ rfl _ _ 22 rfl w9.heap.size 9 i0 (.string ⟨#[]⟩) 1 16 Tryd.underlying22 hi hz0 hz1 hz2 rfl (by decide) _ _ _ rfl (own10.alloc _) ⟨w10.heap.size, 0, none⟩ 1 1 [.string ⟨#[98, 99]⟩] rfl rfl (cell_one_new _ _ _) ?c2 ?c3 ?c4 ?c5 ?_)
  case c2 => intro u hu; simp at hu; subst hu; rfl
  case c3 => unfold maxLen; omega
  case c4 => omega
  case c5 => first | (simp; done) | (simp; omega)
  intro v11 w11 own11 grow11 _
  obtain ⟨g11, c11, rfl⟩ := ownsRow_succ own11
  have hq11 : Below w9.heap.size w10 w11 := ((Below.refl w9.heap.size w10).alloc (by omega) _).grown grow11 (by simp; omega) (fun j e => (own10.lt j e).1)
  have k11 := k10.below hq11 hk9
  have m11 := m10.below hq11 hm9
  have hz11 := hq11.size
  have y11_1 : w11.cell? ⟨w8.heap.size, 1, none⟩ = some (.slice (some ⟨b1, 0, none⟩) 5 5) := m11.cell 1
  have f11_1 := m11.frozen 1
  have hA11 := hA9.below (hq10.trans hq11)
  have x11_2 : w11.cell? ⟨w1.heap.size, 2, none⟩ = some (.slice (some ⟨b2, 0, none⟩) 5 5) := k11.cell 2
  go_upto_region 10 with fail
  have m12 := m11.set 1 (.slice (some ⟨g11, 0, none⟩) 6 c11)
  have k12 := k11.other (C := w8.heap.size) 1 (.slice (some ⟨g11, 0, none⟩) 6 c11) (by omega)
  have own12 := own11.kept (grownBy_set w11 w8.heap.size 1 (.slice (some ⟨g11, 0, none⟩) 6 c11)) (.inr (fun e => by have := (own11.lt _ e).1; omega))
  have hz12 := (grownBy_set w11 w8.heap.size 1 (.slice (some ⟨g11, 0, none⟩) 6 c11)).size
  have hB12 : Below w8.heap.size w8 (w11.setCell ⟨w8.heap.size, 1, none⟩ (.slice (some ⟨g11, 0, none⟩) 6 c11)) := set_below ((hq9.trans (hq10.mono hq9.size)).trans (hq11.mono hq9.size)) (Nat.le_refl _) _
  obtain ⟨w12, hw12⟩ : ∃ w12, w11.setCell ⟨w8.heap.size, 1, none⟩ (.slice (some ⟨g11, 0, none⟩) 6 c11) = w12 := ⟨_, rfl⟩
  rw [hw12] at m12 k12 own12 hz12 hB12 ⊢
  clear hw12 y11_1 f11_1 x11_2 k9 k10 k11 m9 m10 m11 own10 own11 grow10 grow11 hn9 x9_1 hA9 hA11 s9
  have x12_2 : w12.cell? ⟨w1.heap.size, 2, none⟩ = some (.slice (some ⟨b2, 0, none⟩) 5 5) := k12.cell 2
  have hh : w9.heap.size ≤ w12.heap.size := by omega
  have hlk : w1.heap.size < w12.heap.size := by omega
  have hn12 := intSl_news ((hA8.ss.below hB12).below ((Below.refl w12.heap.size w12).alloc (Nat.le_refl _) (.cells #[] 3)))
  go_wp2_with (at_builtin; refine wpList_append_own _ rfl _ _ 23 rfl w12.heap.size 3 n0 (.int .i64 0) 1 8 Tryd.underlying23 hj hy0 hy1 hy2 rfl (by decide) _ 0 [] rfl (World.ownsRow_made w12 #[] 0 (Nat.le_refl _) ?c1 rfl) ⟨b2, 0, none⟩ 5 5 (smS.map (Value.int .i64)) rfl rfl hn12 ?c2 ?c3 ?c4 ?c5 ?_)
  case c1 => unfold maxLen; omega
  case c2 => decide
  case c3 => unfold maxLen; omega
  case c4 => omega
  case c5 => first | (simp; done) | (simp; omega)
  intro v13 w13 own13 grow13 _
  have hq13 : Below w12.heap.size w12 w13 := ((Below.refl w12.heap.size w12).alloc (Nat.le_refl _) _).grown grow13 (by simp) (fun j e => by simp [Value.ownBlock] at e; omega)
  have k13 := k12.below hq13 k12.lt
  have m13 := m12.below hq13 m12.lt
  have hz13 := hq13.size
  go_wp2_with (at_builtin; refine wpList_append_own _ rfl _ _ 23 rfl w12.heap.size 3 n0 (.int .i64 0) 1 8 Tryd.underlying23 hj hy0 hy1 hy2 rfl (by decide) _ _ _ rfl (own13.alloc _) ⟨w13.heap.size, 0, none⟩ 1 1 [.int .i64 5] rfl rfl (cell_one_new _ _ _) ?c2 ?c3 ?c4 ?c5 ?_)
  case c2 => intro u hu; simp at hu; subst hu; rfl
  case c3 => unfold maxLen; omega
  case c4 => omega
  case c5 => first | (simp; done) | (simp; omega)
  intro v14 w14 own14 grow14 _
  obtain ⟨g14, c14, rfl⟩ := ownsRow_succ own14
  have hq14 : Below w12.heap.size w13 w14 := ((Below.refl w12.heap.size w13).alloc (by omega) _).grown grow14 (by simp; omega) (fun j e => (own13.lt j e).1)
  have k14 := k13.below hq14 k12.lt
  have m14 := m13.below hq14 m12.lt
  have hz14 := hq14.size
  have y14_2 : w14.cell? ⟨w8.heap.size, 2, none⟩ = some (.slice (some ⟨b2, 0, none⟩) 5 5) := m14.cell 2
  have f14_2 := m14.frozen 2
  go_upto_region 11 with fail
  have m15 := m14.set 2 (.slice (some ⟨g14, 0, none⟩) 6 c14)
  have k15 := k14.other (C := w8.heap.size) 2 (.slice (some ⟨g14, 0, none⟩) 6 c14) (by omega)
  have hB14 := hq13.trans hq14
  have own14s := own12.kept (grownBelow hB14 none) (.inr (by simp [Value.ownBlock]))
  have own15s := own14s.kept (grownBy_set w14 w8.heap.size 2 (.slice (some ⟨g14, 0, none⟩) 6 c14)) (.inr (fun e => by have := (own14s.lt _ e).1; omega))
  have own15 := own14.kept (grownBy_set w14 w8.heap.size 2 (.slice (some ⟨g14, 0, none⟩) 6 c14)) (.inr (fun e => by have := (own14.lt _ e).1; omega))
  have hB15 : Below w8.heap.size w8 (w14.setCell ⟨w8.heap.size, 2, none⟩ (.slice (some ⟨g14, 0, none⟩) 6 c14)) := set_below (hB12.trans (hB14.mono hB12.size)) (Nat.le_refl _) _
  have hz15 := (grownBy_set w14 w8.heap.size 2 (.slice (some ⟨g14, 0, none⟩) 6 c14)).size
  obtain ⟨w15, hw15⟩ : ∃ w15, w14.setCell ⟨w8.heap.size, 2, none⟩ (.slice (some ⟨g14, 0, none⟩) 6 c14) = w15 := ⟨_, rfl⟩
  rw [hw15] at m15 k15 own15s own15 hB15 hz15 ⊢
  have hE : Alp smN (.slice (some ⟨g11, 0, none⟩) 6 c11) (.slice (some ⟨g14, 0, none⟩) 6 c14) (smL ++ [⟨#[98, 99]⟩]) (smS ++ [5]) w15 := ⟨by decide, by decide, by decide, row_strSl own15s rfl, row_intSl2 own15 rfl⟩
  have hA15 := hA8.below hB15
  have s15 := s8.below hB15
  have hb15 := hb8.trans (hB15.mono hb8.size)
  have H8 := Lib.hid (fun w' (h : Alp smN (.slice (some ⟨g11, 0, none⟩) 6 c11) (.slice (some ⟨g14, 0, none⟩) 6 c14) (smL ++ [⟨#[98, 99]⟩]) (smS ++ [5]) w') => Valid_any smN _ _ _ _ w' h)
  clear hw15 m12 m13 m14 k12 k13 k14 own12 own13 own14 own14s own15 own15s grow13 grow14 hn12 hq9 hq10 hq11 hB12 hB14 hq13 hq14 x12_2 y14_2 f14_2 hA8 s8 hb8
  have hlit := (Below.refl w15.heap.size w15).alloc (Nat.le_refl _) (.cells #[.int .i64 1, .int .i64 0, .int .i64 3, .int .i64 2] 3)
  go_wp2_with fail
  refine (Ints_any _ _ _ [1, 0, 3, 2] _ (s15.below hlit) (blk_intSl (l := [1, 0, 3, 2]) (Blk.new w15 _ _) (by decide) (by decide)) (by decide)).mono ?_
  rintro e w16 ⟨rfl, hb16⟩
  have hd : decide (([1, 0, 3, 2] : List Nat).map (fun (i : Nat) => (i : Int)) = [1, 0, 3, 2]) = true := by decide
  rw [hd]
  have hq16 := hlit.trans (hb16.mono hlit.size)
  have k16 := k15.below hq16 k15.lt
  have m16 := m15.below hq16 m15.lt
  have x16_0 : w16.cell? ⟨w1.heap.size, 0, none⟩ = some (.string smN) := k16.cell 0
  have x16_1 : w16.cell? ⟨w1.heap.size, 1, none⟩ = some (.slice (some ⟨b1, 0, none⟩) 5 5) := k16.cell 1
  have x16_2 : w16.cell? ⟨w1.heap.size, 2, none⟩ = some (.slice (some ⟨b2, 0, none⟩) 5 5) := k16.cell 2
  clear hd
  go_wp2_with fail
  refine (H7.out _ (hA15.below hq16)).mono ?_
  rintro e w17 ⟨rfl, hq17⟩
  have hq18 := hq16.trans (hq17.mono hq16.size)
  have m17 := m16.below hq17 m16.lt
  have y17_0 : w17.cell? ⟨w8.heap.size, 0, none⟩ = some (.string smN) := m17.cell 0
  have y17_1 : w17.cell? ⟨w8.heap.size, 1, none⟩ = some (.slice (some ⟨g11, 0, none⟩) 6 c11) := m17.cell 1
  have y17_2 : w17.cell? ⟨w8.heap.size, 2, none⟩ = some (.slice (some ⟨g14, 0, none⟩) 6 c14) := m17.cell 2
  go_wp2_with fail
  refine (H8.out _ (hE.below hq18)).mono ?_
  rintro e w18 ⟨rfl, hq19⟩
  rw [he7]
  go_wp2_with fail
  go_ret
  exact ⟨rfl, hb15.trans ((hq18.trans (hq19.mono hq18.size)).mono hb15.size)⟩
end Go.Proofs.YtcabhanmeookkaaDoor.Al
