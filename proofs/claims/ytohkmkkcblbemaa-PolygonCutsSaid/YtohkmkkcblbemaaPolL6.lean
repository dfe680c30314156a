/- The walk of PolygonCuts. -/
import Derived.Test.YtohkmkkcblbemaaPolFew
import Derived.Test.YtohkmkkcblbemaaPolCut
import Derived.Deep.DeepCutAuto
import Derived.BigQuiet
namespace Go.Proofs.Ytohkmkkcblbemaa.Ge
set_option linter.unusedVariables false
set_option linter.unusedSimpArgs false
open Go.RowKit
open Go.Proofs.Ytohkmkkcblbemaa.Fr (Two)

theorem ptNone (w : World) (B : Nat) (hB : B ≤ w.heap.size) : OwnPt (w.alloc (.cells #[] 23)) B (.slice (some ⟨w.heap.size, 0, none⟩) 0 0) [] :=
  World.ownsRow_lit w #[] 0 hB (Nat.zero_le _) rfl
theorem part_take {w : World} {b off cap k : Nat} {l : List Pt} (hb : b < w.heap.size) (hm : l.length ≤ cap ∧ cap ≤ maxLen) (h : ∀ i (h : i < l.length), Cells2 w b (off + i * 2) l[i]) (hk : k < l.length) : PtSl w (.slice (some ⟨b, off, none⟩) (k + 1) cap) (l.take (k + 1)) := by
  have hl : (l.take (k + 1)).length = k + 1 := by rw [List.length_take]; omega
  refine .inr ⟨b, off, cap, by rw [hl], by omega, hb, ⟨by omega, hm.2⟩, fun i hi => ?_⟩
  rw [List.getElem_take]
  exact h i (by omega)
theorem part_drop {w : World} {b off cap k : Nat} {l : List Pt} (hb : b < w.heap.size) (hm : l.length ≤ cap ∧ cap ≤ maxLen) (h : ∀ i (h : i < l.length), Cells2 w b (off + i * 2) l[i]) (hk : k < l.length) : PtSl w (.slice (some ⟨b, off + k * 2, none⟩) (l.length - k) (cap - k)) (l.drop k) := by
  have hl : (l.drop k).length = l.length - k := List.length_drop
  refine .inr ⟨b, off + k * 2, cap - k, by rw [hl], by omega, hb, ⟨by omega, by omega⟩, fun i hi => ?_⟩
  rw [List.getElem_drop, show off + k * 2 + i * 2 = off + (k + i) * 2 by omega]
  exact h (k + i) (by omega)
theorem part_mid {w : World} {b off cap i k : Nat} {l : List Pt} (hb : b < w.heap.size) (hm : l.length ≤ cap ∧ cap ≤ maxLen) (h : ∀ i (h : i < l.length), Cells2 w b (off + i * 2) l[i]) (hi : i ≤ k) (hk : k < l.length) : PtSl w (.slice (some ⟨b, off + i * 2, none⟩) (k + 1 - i) (cap - i)) (bL l i k) := by
  have hl := bL_len (i := i) hk
  refine .inr ⟨b, off + i * 2, cap - i, by rw [hl], by omega, hb, ⟨by omega, by omega⟩, fun j hj => ?_⟩
  have e : (bL l i k)[j] = l[i + j] := by simp [bL]
  rw [e, show off + i * 2 + j * 2 = off + (i + j) * 2 by omega]
  exact h (i + j) (by omega)
theorem within_valid {a b : List Pt} (h : withinB a b = true) : validB a = true := by
  unfold withinB at h
  simp only [Bool.and_eq_true] at h
  exact h.1

set_option maxRecDepth 100000 in
set_option maxHeartbeats 8000000 in
theorem lawCuts (va : Value) (ra : List Pt) (n1 n2 px py : Int) (ha0 : 0 ≤ n1) (ha1 : n1 ≤ 255) (hb0 : 0 ≤ n2) (hb1' : n2 ≤ 255) (w : World) (ha : PtSl w va ra) :
    Calls Try.prog 11 #[va, .int .u8 n1, .int .u8 n2, .agg #[.int .i64 px, .int .i64 py]] w fun e w' => e = .returned (.bool true) ∧ Below w.heap.size w w' := by
  have tp := Two.new w 23 (.int .i64 px) (.int .i64 py)
  have hB := (Below.refl w.heap.size w).alloc (Nat.le_refl _) (.cells #[.int .i64 px, .int .i64 py] 23)
  have Ha := ha.below hB
  obtain ⟨a1, a2, rfl⟩ := ha.form
  have HA := Lib.hid Ha
  clear Ha
  go_enter Try.func11, Try.ntmps11
  go_wp2_with fail
  generalize w.alloc (.cells #[.int .i64 px, .int .i64 py] 23) = W0 at *
  refine (head8_any _).mono ?_
  rintro e w1 ⟨rfl, hb1⟩
  have hB1 := hB.trans (hb1.mono hB.size)
  have HA1 := Lib.hid (HA.out.below hb1)
  have tp1 := tp.below hb1 tp.lt
  clear HA tp hB hb1
  go_wp2_with fail
  refine (few_two _ _ ra [] _ HA1.out (.inl ⟨rfl, none, 0, rfl⟩)).mono ?_
  rintro e w2 ⟨rfl, rfl⟩
  rw [show decide (([] : List Pt).length ≤ 50) = true from rfl, Bool.and_true]
  by_cases hfew : ¬ ra.length ≤ 50
  · rw [decide_eq_false hfew]
    go_wp2_with fail
    go_ret
    exact ⟨rfl, hB1⟩
  have hfew := Classical.not_not.1 hfew
  rw [decide_eq_true hfew]
  clear hfew
  have HV := Lib.hid (Valid_any _ ra w2 HA1.out)
  cases hva : validB ra with
  | false =>
    rw [hva] at HV
    clear hva
    go_wp2_with fail
    refine HV.out.mono ?_
    rintro e w3 ⟨rfl, hb3⟩
    have hB3 := hB1.trans (hb3.mono hB1.size)
    go_wp2_with fail
    go_ret
    exact ⟨rfl, hB3⟩
  | true =>
  rw [hva] at HV
  have Hva := Lib.hid hva
  have la := valid_len hva
  clear hva
  rcases ha with ⟨rfl, -⟩ | ⟨b, off, cap, hv, -, hbl, hm, hcells⟩
  · exact absurd la.1 (by decide)
  obtain ⟨rfl, -, rfl⟩ : a1 = some ⟨b, off, none⟩ ∧ True ∧ a2 = cap := by
    injection hv with h1 h2 h3
    exact ⟨h1, trivial, h3⟩
  clear hv
  obtain ⟨x, hx, hi⟩ := idx8 n1 ra.length (by omega) ha0
  obtain ⟨y, hy, hj⟩ := idx8 n2 ra.length (by omega) hb0
  have hlz : ((ra.length : Int) == 0) = false := by rw [beq_eq_false_iff_ne]; omega
  have hlz2 : ¬ (ra.length : Int) = 0 := by omega
  have hl0 : ra ≠ [] := by intro e; rw [e] at la; exact absurd la.1 (by decide)
  go_wp2_with fail
  refine HV.out.mono ?_
  rintro e w3 ⟨rfl, hb3⟩
  have hB3 := hB1.trans (hb3.mono hB1.size)
  have HA3 := Lib.hid (HA1.out.below hb3)
  have tp3 := tp1.below hb3 tp1.lt
  clear HV HA1 tp1 hB1 hb3
  go_upto_region 4 with fail
  go_quiet (fail)
  have hdr : Below w3.heap.size w3 (w3.drewN nq) := (Below.refl _ _).trans ⟨rfl, rfl, rfl, Nat.le_refl _, fun _ _ => rfl⟩
  obtain ⟨W, hW⟩ : ∃ z, w3.drewN nq = z := ⟨_, rfl⟩
  go_upto_region 5 with fail
  rw [hW] at hdr ⊢
  rw [hi, hj]
  have hB4 := hB3.trans (hdr.mono hB3.size)
  have HA4 := Lib.hid (HA3.out.below hdr)
  have tp4 := tp3.below hdr tp3.lt
  clear hW hB3 HA3 tp3 hdr hi hj
  by_cases hxy : y < x
  · have d1 : decide ((y : Int) < (x : Int)) = true := decide_eq_true (by omega)
    have hik : y ≤ x := by omega
    have hk : x < ra.length := hx
    have HM := Lib.hid (fun (w' : World) (h : Below w.heap.size w w') => (part_mid hbl hm hcells hik hk).below h)
    have HT := Lib.hid (fun (w' : World) (h : Below w.heap.size w w') => (part_take hbl hm hcells (show y < ra.length by omega)).below h)
    have HD := Lib.hid (fun (w' : World) (h : Below w.heap.size w w') => (part_drop hbl hm hcells hk).below h)
    have lb := @bL_len ra y x hk
    have lc := cL_len hik hk
    obtain ⟨m1, m2⟩ := hm
    unfold maxLen at m2
    clear hcells hx hy
    have k1 : IntKind.i64.wrap ((x : Int) + 1) = (x : Int) + 1 := by rw [IntKind.wrap_i64]; omega
    have k2 : IntKind.i64.wrap ((y : Int) + 1) = (y : Int) + 1 := by rw [IntKind.wrap_i64]; omega
    have s0 := hB4.size
    have hIK : (y : Int) ≤ (x : Int) + 1 := by omega
    have hKC : (x : Int) + 1 ≤ (a2 : Int) := by omega
    have o0 := ptNone W W.heap.size (Nat.le_refl _)
    have hbe := hB4.alloc hB4.size (.cells #[] 23)
    go_upto_region 8 with (at_builtin; refine list_append_pt _ rfl _ _ rfl W.heap.size _ _ [] (bL ra y x) rfl rfl o0 (by have h := HM.out _ hbe; exact h) (by rw [List.length_nil, lb]; omega) (by simp only [World.size_alloc]; omega) ?_; intro v1 w5 own1 grow1 at1; have hb5 : Below W.heap.size W w5 := ((Below.refl W.heap.size W).alloc (Nat.le_refl _) _).grown grow1 (by simp only [World.size_alloc]; omega) (fun q hq => by cases hq; exact Nat.le_refl _); have HO1 := Lib.hid own1; clear own1 grow1 at1)
    have hB5 := hB4.trans (hb5.mono hB4.size)
    have HA5 := Lib.hid (HA4.out.below hb5)
    have HB5 := Lib.hid HO1.out.sl
    have tp5 := tp4.below hb5 tp4.lt
    clear HA4 tp4 HM o0 hbe HO1 hb5
    have j1 : x ≤ ra.length := by omega
    have j2 : ¬ a2 = x := by omega
    have j3 : x ≤ a2 := by omega
    have j4 : y + 1 ≤ a2 := by omega
    have j5 : ((y : Int) + 1).toNat = y + 1 := by omega
    have j6 : (0 : Int) ≤ (y : Int) + 1 := by omega
    have j7 : (y : Int) + 1 ≤ (a2 : Int) := by omega
    refine wp_region_held_drew (S := fun _ => True) (by kernel_rfl) trivial (fun _ => ?_)
    refine Ri.take_d (i := 1) (v := .slice (some ⟨b, off, none⟩) ra.length a2) (some 52) rfl rfl (by kernel_rfl) (by kernel_rfl) (by kernel_rfl) (fun _ _ _ h => h) (Or.inl ⟨by kernel_rfl, ?_⟩) trivial ?_
    · intro w' hSw; go_simp
    simp only [Act.put, List.setIfInBounds_toArray, List.set_cons_zero, List.set_cons_succ]
    refine Ri.take_d (i := 2) (v := .int .i64 (x : Int)) (some 53) rfl rfl (by kernel_rfl) (by kernel_rfl) (by kernel_rfl) (fun _ _ _ h => h) (Or.inl ⟨by kernel_rfl, ?_⟩) trivial ?_
    · intro w' hSw; go_simp
    simp only [Act.put, List.setIfInBounds_toArray, List.set_cons_zero, List.set_cons_succ]
    refine Ri.take_d (i := 3) (v := .slice (some ⟨b, off + x * 2, none⟩) (ra.length - x) (a2 - x)) (some 54) rfl rfl (by kernel_rfl) (by kernel_rfl) (by kernel_rfl) (fun _ _ _ h => h) (Or.inl ⟨by kernel_rfl, ?_⟩) trivial ?_
    · intro w' hSw; go_simp
    simp only [Act.put, List.setIfInBounds_toArray, List.set_cons_zero, List.set_cons_succ]
    refine Ri.take_d (i := 5) (v := .slice (some ⟨b, off, none⟩) ra.length a2) (some 56) rfl rfl (by kernel_rfl) (by kernel_rfl) (by kernel_rfl) (fun _ _ _ h => h) (Or.inl ⟨by kernel_rfl, ?_⟩) trivial ?_
    · intro w' hSw; go_simp
    simp only [Act.put, List.setIfInBounds_toArray, List.set_cons_zero, List.set_cons_succ]
    refine Ri.take_d (i := 6) (v := .int .i64 (y : Int)) (some 57) rfl rfl (by kernel_rfl) (by kernel_rfl) (by kernel_rfl) (fun _ _ _ h => h) (Or.inl ⟨by kernel_rfl, ?_⟩) trivial ?_
    · intro w' hSw; go_simp
    simp only [Act.put, List.setIfInBounds_toArray, List.set_cons_zero, List.set_cons_succ]
    refine Ri.take_d (i := 7) (v := .int .i64 ((y : Int) + 1)) (some 58) rfl rfl (by kernel_rfl) (by kernel_rfl) (by kernel_rfl) (fun _ _ _ h => h) (Or.inl ⟨by kernel_rfl, ?_⟩) trivial ?_
    · intro w' hSw; go_simp
    simp only [Act.put, List.setIfInBounds_toArray, List.set_cons_zero, List.set_cons_succ]
    refine Ri.take_d (i := 8) (v := .slice (some ⟨b, off, none⟩) (y + 1) a2) (some 59) rfl rfl (by kernel_rfl) (by kernel_rfl) (by kernel_rfl) (fun _ _ _ h => h) (Or.inl ⟨by kernel_rfl, ?_⟩) trivial ?_
    · intro w' hSw; go_simp
    simp only [Act.put, List.setIfInBounds_toArray, List.set_cons_zero, List.set_cons_succ]
    refine wpAnyH_ready (rs := [0]) (by kernel_rfl) (by simp) ?_
    refine AllReadyH.cons rfl (fun K hK => ?_) AllReadyH.nil
    go_simp
    refine hK.out _ _ trivial (fun _ => ?_)
    clear hK K
    try simp only [Act.put, List.setIfInBounds_toArray, List.set_cons_zero, List.set_cons_succ]
    refine wpAnyH_ready (rs := [4]) (by kernel_rfl) (by simp) ?_
    refine AllReadyH.cons rfl (fun K hK => ?_) AllReadyH.nil
    have g1 := ((Below.refl w5.heap.size w5).alloc (Nat.le_refl _) (.cells #[] 23)).drew
    have o1 := ptNone w5 w5.heap.size (Nat.le_refl _)
    refine step_append_pt _ rfl _ _ rfl w5.heap.size _ _ [] (ra.drop x) rfl rfl (o1.below (Below.refl _ _).drew) (HD.out _ (hB5.trans (g1.mono hB5.size))) (by rw [List.length_nil, List.length_drop]; omega) (by have := g1.size; omega) ?_
    intro v2 w6 own2 grow2 at2
    rw [List.nil_append] at own2
    have g2 : Below w5.heap.size w5 w6 := g1.grown grow2 g1.size (fun q hq => by cases hq; exact Nat.le_refl _)
    clear g1 o1 grow2 at2
    obtain ⟨c1, c2, e2⟩ := own2.form
    subst e2
    rw [List.length_drop] at own2
    go_simp
    refine hK.out _ _ trivial (fun _ => ?_)
    clear hK K
    try simp only [Act.put, List.setIfInBounds_toArray, List.set_cons_zero, List.set_cons_succ]
    refine wpAnyH_ready (rs := [9]) (by kernel_rfl) (by simp) ?_
    refine AllReadyH.cons rfl (fun K hK => ?_) AllReadyH.nil
    have hown := own2.lt
    refine step_append_pt _ rfl _ _ rfl w5.heap.size _ _ (ra.drop x) (ra.take (y + 1)) rfl rfl own2 (HT.out _ (hB5.trans (g2.mono hB5.size))) (by rw [List.length_take, List.length_drop]; omega) g2.size ?_
    intro v3 w7 own3 grow3 at3
    have g3 : Below w5.heap.size w5 w7 := g2.grown grow3 g2.size hown
    have HC7 := Lib.hid (show PtSl w7 v3 (cL ra y x) from own3.sl)
    clear hown grow3 at3 own2 g2 own3
    go_simp
    refine hK.out _ _ trivial (fun _ => ?_)
    clear hK K
    try simp only [Act.put, List.setIfInBounds_toArray, List.set_cons_zero, List.set_cons_succ]
    refine wpAnyH_ready (rs := [10]) (by kernel_rfl) (by simp) ?_
    refine AllReadyH.cons rfl (fun K hK => ?_) AllReadyH.nil
    go_simp
    refine hK.out _ _ trivial (fun _ => ?_)
    clear hK K
    try simp only [Act.put, List.setIfInBounds_toArray, List.set_cons_zero, List.set_cons_succ]
    refine wpAnyH_done (by kernel_rfl) ?_ _
    have hB7 := hB5.trans (g3.mono hB5.size)
    have HA7 := Lib.hid (HA5.out.below g3)
    have HB7 := Lib.hid (HB5.out.below g3)
    have tp7 := tp5.below g3 tp5.lt
    clear HA5 HB5 tp5 g3 hB5 hB4 HT HD
    have tb2 : twiceV ra ≤ 2147352578 := by
      obtain ⟨⟨p1, p2, p3⟩, p4, p5, p6⟩ := box_bd Hva.out
      have p7 := (box_twice Hva.out).2
      have p8 := Int.mul_le_mul (show 2 * ((highP ra).1 - (lowP ra).1) ≤ 65534 by omega) (show (highP ra).2 - (lowP ra).2 ≤ 32767 by omega) (by omega) (by decide)
      omega
    have HWB := Lib.hid (Within_any _ _ (bL ra y x) ra w7 HB7.out HA7.out)
    cases hwb : withinB (bL ra y x) ra with
    | false =>
      rw [hwb] at HWB
      clear hwb
      go_wp2_with fail
      refine HWB.out.mono ?_
      rintro e w8 ⟨rfl, hb8⟩
      go_wp2_with fail
      go_ret
      exact ⟨rfl, hB7.trans (hb8.mono hB7.size)⟩
    | true =>
    rw [hwb] at HWB
    have Vb := within_valid hwb
    clear hwb
    go_wp2_with fail
    refine HWB.out.mono ?_
    rintro e w8 ⟨rfl, hb8⟩
    have HWC := Lib.hid (Within_any _ _ (cL ra y x) ra w8 (HC7.out.below hb8) (HA7.out.below hb8))
    have hB8 := hB7.trans (hb8.mono hB7.size)
    cases hwc : withinB (cL ra y x) ra with
    | false =>
      rw [hwc] at HWC
      clear hwc
      go_wp2_with fail
      refine HWC.out.mono ?_
      rintro e w9 ⟨rfl, hb9⟩
      go_wp2_with fail
      go_ret
      exact ⟨rfl, hB8.trans (hb9.mono hB8.size)⟩
    | true =>
    rw [hwc] at HWC
    have Vc := within_valid hwc
    clear hwc
    obtain ⟨q1, q2, q3, q4⟩ := cut_law hik hk Hva.out Vb Vc px py
    go_wp2_with fail
    refine HWC.out.mono ?_
    rintro e w9 ⟨rfl, hb9⟩
    have hx9 := hb8.trans (hb9.mono hb8.size)
    have hB9 := hB7.trans (hx9.mono hB7.size)
    have tp9 := tp7.below hx9 tp7.lt
    have HFb := Lib.hid (fun (w' : World) (h : Below w7.heap.size w7 w') => Where_any _ (bL ra y x) px py w' (HB7.out.below h))
    have HFc := Lib.hid (fun (w' : World) (h : Below w7.heap.size w7 w') => Where_any _ (cL ra y x) px py w' (HC7.out.below h))
    have HFa := Lib.hid (fun (w' : World) (h : Below w7.heap.size w7 w') => Where_any _ ra px py w' (HA7.out.below h))
    have HAp := Lib.hid (fun (w' : World) (h : Below w7.heap.size w7 w') => Apart_any _ _ (bL ra y x) (cL ra y x) w' (HB7.out.below h) (HC7.out.below h))
    have HTb := Lib.hid (fun (w' : World) (h : Below w7.heap.size w7 w') => Twice_any _ (bL ra y x) w' (HB7.out.below h))
    have HTc := Lib.hid (fun (w' : World) (h : Below w7.heap.size w7 w') => Twice_any _ (cL ra y x) w' (HC7.out.below h))
    have HTa := Lib.hid (fun (w' : World) (h : Below w7.heap.size w7 w') => Twice_any _ ra w' (HA7.out.below h))
    have t1b := (box_twice Vb).1
    have t1c := (box_twice Vc).1
    rw [q3] at HAp
    clear HWB HWC hb8 hb9 HA7 HB7 HC7 hB7 hB8 tp7 q3 Vb Vc Hva lb lc
    generalize whereV (bL ra y x) px py = vb at *
    generalize whereV (cL ra y x) px py = vc at *
    generalize whereV ra px py = wa at *
    generalize twiceV (bL ra y x) = tb at *
    generalize twiceV (cL ra y x) = tc at *
    generalize twiceV ra = ta at *
    have r1 : IntKind.i64.wrap (tb + tc) = tb + tc := by rw [IntKind.wrap_i64]; omega
    have r2 : (tb + tc == ta) = true := by rw [q4]; simp
    have r3 : wrap64 (tb + tc) = tb + tc := IntWalk.wrap64_in _ (by omega)
    have Q1 := Lib.hid q1
    have Q2 := Lib.hid q2
    clear q1 q2 q4 t1b t1c tb2
    obtain ⟨f1, f2, f3, f4⟩ := tp9.facts
    go_upto_region 11 with fail
    go_cut [93] (fun v wx => v = .bool false ∧ Below w9.heap.size w9 wx)
    case first => as_aux_lemma =>
      by_cases cb : vb = 1
      · have hwa := Q1.out cb
        subst cb hwa
        go_wp2_with fail
        refine (HFb.out _ hx9).mono ?_
        rintro e y1 ⟨rfl, z1⟩
        clear f1 f2 f3 f4
        obtain ⟨f1, f2, f3, f4⟩ := (tp9.below z1 tp9.lt).facts
        go_wp2_with fail
        refine (HFa.out _ (hx9.trans (z1.mono hx9.size))).mono ?_
        rintro e y2 ⟨rfl, z2'⟩
        have z2 := z1.trans (z2'.mono z1.size)
        clear f1 f2 f3 f4
        obtain ⟨f1, f2, f3, f4⟩ := (tp9.below z2 tp9.lt).facts
        by_cases cc : vc = 1
        · subst cc
          go_wp2_with fail
          refine (HFc.out _ (hx9.trans (z2.mono hx9.size))).mono ?_
          rintro e y3 ⟨rfl, z3'⟩
          have z3 := z2.trans (z3'.mono z2.size)
          clear f1 f2 f3 f4
          obtain ⟨f1, f2, f3, f4⟩ := (tp9.below z3 tp9.lt).facts
          go_wp2_with fail
          refine (HFa.out _ (hx9.trans (z3.mono hx9.size))).mono ?_
          rintro e y4 ⟨rfl, z4'⟩
          go_wp2_with fail
          go_meet
          exact ⟨rfl, z3.trans (z4'.mono z3.size)⟩
        · have dc : (vc == 1) = false := by simpa using cc
          go_wp2_with fail
          refine (HFc.out _ (hx9.trans (z2.mono hx9.size))).mono ?_
          rintro e y3 ⟨rfl, z3'⟩
          go_wp2_with fail
          go_meet
          exact ⟨rfl, z2.trans (z3'.mono z2.size)⟩
      · have db : (vb == 1) = false := by simpa using cb
        go_wp2_with fail
        refine (HFb.out _ hx9).mono ?_
        rintro e y1 ⟨rfl, z1⟩
        clear f1 f2 f3 f4
        obtain ⟨f1, f2, f3, f4⟩ := (tp9.below z1 tp9.lt).facts
        by_cases cc : vc = 1
        · have hwa := Q2.out cc
          subst cc hwa
          go_wp2_with fail
          refine (HFc.out _ (hx9.trans (z1.mono hx9.size))).mono ?_
          rintro e y3 ⟨rfl, z3'⟩
          have z3 := z1.trans (z3'.mono z1.size)
          clear f1 f2 f3 f4
          obtain ⟨f1, f2, f3, f4⟩ := (tp9.below z3 tp9.lt).facts
          go_wp2_with fail
          refine (HFa.out _ (hx9.trans (z3.mono hx9.size))).mono ?_
          rintro e y4 ⟨rfl, z4'⟩
          go_wp2_with fail
          go_meet
          exact ⟨rfl, z3.trans (z4'.mono z3.size)⟩
        · have dc : (vc == 1) = false := by simpa using cc
          go_wp2_with fail
          refine (HFc.out _ (hx9.trans (z1.mono hx9.size))).mono ?_
          rintro e y3 ⟨rfl, z3'⟩
          go_wp2_with fail
          go_meet
          exact ⟨rfl, z1.trans (z3'.mono z1.size)⟩
    case rest =>
    obtain ⟨rfl, hbc⟩ := hcut
    obtain ⟨w10, rfl⟩ : ∃ z : World, z = wc := ⟨_, rfl⟩
    have hx10 := hx9.trans (hbc.mono hx9.size)
    have hB10 := hB9.trans (hbc.mono hB9.size)
    clear f1 f2 f3 f4 tp9 hx9 hB9 hbc
    go_wp2_with fail
    refine (HAp.out _ hx10).mono ?_
    rintro e w11 ⟨rfl, z1⟩
    have hx11 := hx10.trans (z1.mono hx10.size)
    have hB11 := hB10.trans (z1.mono hB10.size)
    go_wp2_with fail
    refine (HTb.out _ hx11).mono ?_
    rintro e w12 ⟨rfl, z2⟩
    have hx12 := hx11.trans (z2.mono hx11.size)
    have hB12 := hB11.trans (z2.mono hB11.size)
    go_wp2_with fail
    refine (HTc.out _ hx12).mono ?_
    rintro e w13 ⟨rfl, z3⟩
    have hx13 := hx12.trans (z3.mono hx12.size)
    have hB13 := hB12.trans (z3.mono hB12.size)
    go_wp2_with fail
    refine (HTa.out _ hx13).mono ?_
    rintro e w14 ⟨rfl, z4⟩
    go_wp2_with fail
    go_ret
    exact ⟨rfl, hB13.trans (z4.mono hB13.size)⟩
  · have d1 : decide ((y : Int) < (x : Int)) = false := decide_eq_false (by omega)
    have hik : x ≤ y := by omega
    have hk : y < ra.length := hy
    have HM := Lib.hid (fun (w' : World) (h : Below w.heap.size w w') => (part_mid hbl hm hcells hik hk).below h)
    have HT := Lib.hid (fun (w' : World) (h : Below w.heap.size w w') => (part_take hbl hm hcells (show x < ra.length by omega)).below h)
    have HD := Lib.hid (fun (w' : World) (h : Below w.heap.size w w') => (part_drop hbl hm hcells hk).below h)
    have lb := @bL_len ra x y hk
    have lc := cL_len hik hk
    obtain ⟨m1, m2⟩ := hm
    unfold maxLen at m2
    clear hcells hx hy
    have k1 : IntKind.i64.wrap ((y : Int) + 1) = (y : Int) + 1 := by rw [IntKind.wrap_i64]; omega
    have k2 : IntKind.i64.wrap ((x : Int) + 1) = (x : Int) + 1 := by rw [IntKind.wrap_i64]; omega
    have s0 := hB4.size
    have hIK : (x : Int) ≤ (y : Int) + 1 := by omega
    have hKC : (y : Int) + 1 ≤ (a2 : Int) := by omega
    have o0 := ptNone W W.heap.size (Nat.le_refl _)
    have hbe := hB4.alloc hB4.size (.cells #[] 23)
    go_upto_region 8 with (at_builtin; refine list_append_pt _ rfl _ _ rfl W.heap.size _ _ [] (bL ra x y) rfl rfl o0 (by have h := HM.out _ hbe; exact h) (by rw [List.length_nil, lb]; omega) (by simp only [World.size_alloc]; omega) ?_; intro v1 w5 own1 grow1 at1; have hb5 : Below W.heap.size W w5 := ((Below.refl W.heap.size W).alloc (Nat.le_refl _) _).grown grow1 (by simp only [World.size_alloc]; omega) (fun q hq => by cases hq; exact Nat.le_refl _); have HO1 := Lib.hid own1; clear own1 grow1 at1)
    have hB5 := hB4.trans (hb5.mono hB4.size)
    have HA5 := Lib.hid (HA4.out.below hb5)
    have HB5 := Lib.hid HO1.out.sl
    have tp5 := tp4.below hb5 tp4.lt
    clear HA4 tp4 HM o0 hbe HO1 hb5
    have j1 : y ≤ ra.length := by omega
    have j2 : ¬ a2 = y := by omega
    have j3 : y ≤ a2 := by omega
    have j4 : x + 1 ≤ a2 := by omega
    have j5 : ((x : Int) + 1).toNat = x + 1 := by omega
    have j6 : (0 : Int) ≤ (x : Int) + 1 := by omega
    have j7 : (x : Int) + 1 ≤ (a2 : Int) := by omega
    refine wp_region_held_drew (S := fun _ => True) (by kernel_rfl) trivial (fun _ => ?_)
    refine Ri.take_d (i := 1) (v := .slice (some ⟨b, off, none⟩) ra.length a2) (some 52) rfl rfl (by kernel_rfl) (by kernel_rfl) (by kernel_rfl) (fun _ _ _ h => h) (Or.inl ⟨by kernel_rfl, ?_⟩) trivial ?_
    · intro w' hSw; go_simp
    simp only [Act.put, List.setIfInBounds_toArray, List.set_cons_zero, List.set_cons_succ]
    refine Ri.take_d (i := 2) (v := .int .i64 (y : Int)) (some 53) rfl rfl (by kernel_rfl) (by kernel_rfl) (by kernel_rfl) (fun _ _ _ h => h) (Or.inl ⟨by kernel_rfl, ?_⟩) trivial ?_
    · intro w' hSw; go_simp
    simp only [Act.put, List.setIfInBounds_toArray, List.set_cons_zero, List.set_cons_succ]
    refine Ri.take_d (i := 3) (v := .slice (some ⟨b, off + y * 2, none⟩) (ra.length - y) (a2 - y)) (some 54) rfl rfl (by kernel_rfl) (by kernel_rfl) (by kernel_rfl) (fun _ _ _ h => h) (Or.inl ⟨by kernel_rfl, ?_⟩) trivial ?_
    · intro w' hSw; go_simp
    simp only [Act.put, List.setIfInBounds_toArray, List.set_cons_zero, List.set_cons_succ]
    refine Ri.take_d (i := 5) (v := .slice (some ⟨b, off, none⟩) ra.length a2) (some 56) rfl rfl (by kernel_rfl) (by kernel_rfl) (by kernel_rfl) (fun _ _ _ h => h) (Or.inl ⟨by kernel_rfl, ?_⟩) trivial ?_
    · intro w' hSw; go_simp
    simp only [Act.put, List.setIfInBounds_toArray, List.set_cons_zero, List.set_cons_succ]
    refine Ri.take_d (i := 6) (v := .int .i64 (x : Int)) (some 57) rfl rfl (by kernel_rfl) (by kernel_rfl) (by kernel_rfl) (fun _ _ _ h => h) (Or.inl ⟨by kernel_rfl, ?_⟩) trivial ?_
    · intro w' hSw; go_simp
    simp only [Act.put, List.setIfInBounds_toArray, List.set_cons_zero, List.set_cons_succ]
    refine Ri.take_d (i := 7) (v := .int .i64 ((x : Int) + 1)) (some 58) rfl rfl (by kernel_rfl) (by kernel_rfl) (by kernel_rfl) (fun _ _ _ h => h) (Or.inl ⟨by kernel_rfl, ?_⟩) trivial ?_
    · intro w' hSw; go_simp
    simp only [Act.put, List.setIfInBounds_toArray, List.set_cons_zero, List.set_cons_succ]
    refine Ri.take_d (i := 8) (v := .slice (some ⟨b, off, none⟩) (x + 1) a2) (some 59) rfl rfl (by kernel_rfl) (by kernel_rfl) (by kernel_rfl) (fun _ _ _ h => h) (Or.inl ⟨by kernel_rfl, ?_⟩) trivial ?_
    · intro w' hSw; go_simp
    simp only [Act.put, List.setIfInBounds_toArray, List.set_cons_zero, List.set_cons_succ]
    refine wpAnyH_ready (rs := [0]) (by kernel_rfl) (by simp) ?_
    refine AllReadyH.cons rfl (fun K hK => ?_) AllReadyH.nil
    go_simp
    refine hK.out _ _ trivial (fun _ => ?_)
    clear hK K
    try simp only [Act.put, List.setIfInBounds_toArray, List.set_cons_zero, List.set_cons_succ]
    refine wpAnyH_ready (rs := [4]) (by kernel_rfl) (by simp) ?_
    refine AllReadyH.cons rfl (fun K hK => ?_) AllReadyH.nil
    have g1 := ((Below.refl w5.heap.size w5).alloc (Nat.le_refl _) (.cells #[] 23)).drew
    have o1 := ptNone w5 w5.heap.size (Nat.le_refl _)
    refine step_append_pt _ rfl _ _ rfl w5.heap.size _ _ [] (ra.drop y) rfl rfl (o1.below (Below.refl _ _).drew) (HD.out _ (hB5.trans (g1.mono hB5.size))) (by rw [List.length_nil, List.length_drop]; omega) (by have := g1.size; omega) ?_
    intro v2 w6 own2 grow2 at2
    rw [List.nil_append] at own2
    have g2 : Below w5.heap.size w5 w6 := g1.grown grow2 g1.size (fun q hq => by cases hq; exact Nat.le_refl _)
    clear g1 o1 grow2 at2
    obtain ⟨c1, c2, e2⟩ := own2.form
    subst e2
    rw [List.length_drop] at own2
    go_simp
    refine hK.out _ _ trivial (fun _ => ?_)
    clear hK K
    try simp only [Act.put, List.setIfInBounds_toArray, List.set_cons_zero, List.set_cons_succ]
    refine wpAnyH_ready (rs := [9]) (by kernel_rfl) (by simp) ?_
    refine AllReadyH.cons rfl (fun K hK => ?_) AllReadyH.nil
    have hown := own2.lt
    refine step_append_pt _ rfl _ _ rfl w5.heap.size _ _ (ra.drop y) (ra.take (x + 1)) rfl rfl own2 (HT.out _ (hB5.trans (g2.mono hB5.size))) (by rw [List.length_take, List.length_drop]; omega) g2.size ?_
    intro v3 w7 own3 grow3 at3
    have g3 : Below w5.heap.size w5 w7 := g2.grown grow3 g2.size hown
    have HC7 := Lib.hid (show PtSl w7 v3 (cL ra x y) from own3.sl)
    clear hown grow3 at3 own2 g2 own3
    go_simp
    refine hK.out _ _ trivial (fun _ => ?_)
    clear hK K
    try simp only [Act.put, List.setIfInBounds_toArray, List.set_cons_zero, List.set_cons_succ]
    refine wpAnyH_ready (rs := [10]) (by kernel_rfl) (by simp) ?_
    refine AllReadyH.cons rfl (fun K hK => ?_) AllReadyH.nil
    go_simp
    refine hK.out _ _ trivial (fun _ => ?_)
    clear hK K
    try simp only [Act.put, List.setIfInBounds_toArray, List.set_cons_zero, List.set_cons_succ]
    refine wpAnyH_done (by kernel_rfl) ?_ _
    have hB7 := hB5.trans (g3.mono hB5.size)
    have HA7 := Lib.hid (HA5.out.below g3)
    have HB7 := Lib.hid (HB5.out.below g3)
    have tp7 := tp5.below g3 tp5.lt
    clear HA5 HB5 tp5 g3 hB5 hB4 HT HD
    have tb2 : twiceV ra ≤ 2147352578 := by
      obtain ⟨⟨p1, p2, p3⟩, p4, p5, p6⟩ := box_bd Hva.out
      have p7 := (box_twice Hva.out).2
      have p8 := Int.mul_le_mul (show 2 * ((highP ra).1 - (lowP ra).1) ≤ 65534 by omega) (show (highP ra).2 - (lowP ra).2 ≤ 32767 by omega) (by omega) (by decide)
      omega
    have HWB := Lib.hid (Within_any _ _ (bL ra x y) ra w7 HB7.out HA7.out)
    cases hwb : withinB (bL ra x y) ra with
    | false =>
      rw [hwb] at HWB
      clear hwb
      go_wp2_with fail
      refine HWB.out.mono ?_
      rintro e w8 ⟨rfl, hb8⟩
      go_wp2_with fail
      go_ret
      exact ⟨rfl, hB7.trans (hb8.mono hB7.size)⟩
    | true =>
    rw [hwb] at HWB
    have Vb := within_valid hwb
    clear hwb
    go_wp2_with fail
    refine HWB.out.mono ?_
    rintro e w8 ⟨rfl, hb8⟩
    have HWC := Lib.hid (Within_any _ _ (cL ra x y) ra w8 (HC7.out.below hb8) (HA7.out.below hb8))
    have hB8 := hB7.trans (hb8.mono hB7.size)
    cases hwc : withinB (cL ra x y) ra with
    | false =>
      rw [hwc] at HWC
      clear hwc
      go_wp2_with fail
      refine HWC.out.mono ?_
      rintro e w9 ⟨rfl, hb9⟩
      go_wp2_with fail
      go_ret
      exact ⟨rfl, hB8.trans (hb9.mono hB8.size)⟩
    | true =>
    rw [hwc] at HWC
    have Vc := within_valid hwc
    clear hwc
    obtain ⟨q1, q2, q3, q4⟩ := cut_law hik hk Hva.out Vb Vc px py
    go_wp2_with fail
    refine HWC.out.mono ?_
    rintro e w9 ⟨rfl, hb9⟩
    have hx9 := hb8.trans (hb9.mono hb8.size)
    have hB9 := hB7.trans (hx9.mono hB7.size)
    have tp9 := tp7.below hx9 tp7.lt
    have HFb := Lib.hid (fun (w' : World) (h : Below w7.heap.size w7 w') => Where_any _ (bL ra x y) px py w' (HB7.out.below h))
    have HFc := Lib.hid (fun (w' : World) (h : Below w7.heap.size w7 w') => Where_any _ (cL ra x y) px py w' (HC7.out.below h))
    have HFa := Lib.hid (fun (w' : World) (h : Below w7.heap.size w7 w') => Where_any _ ra px py w' (HA7.out.below h))
    have HAp := Lib.hid (fun (w' : World) (h : Below w7.heap.size w7 w') => Apart_any _ _ (bL ra x y) (cL ra x y) w' (HB7.out.below h) (HC7.out.below h))
    have HTb := Lib.hid (fun (w' : World) (h : Below w7.heap.size w7 w') => Twice_any _ (bL ra x y) w' (HB7.out.below h))
    have HTc := Lib.hid (fun (w' : World) (h : Below w7.heap.size w7 w') => Twice_any _ (cL ra x y) w' (HC7.out.below h))
    have HTa := Lib.hid (fun (w' : World) (h : Below w7.heap.size w7 w') => Twice_any _ ra w' (HA7.out.below h))
    have t1b := (box_twice Vb).1
    have t1c := (box_twice Vc).1
    rw [q3] at HAp
    clear HWB HWC hb8 hb9 HA7 HB7 HC7 hB7 hB8 tp7 q3 Vb Vc Hva lb lc
    generalize whereV (bL ra x y) px py = vb at *
    generalize whereV (cL ra x y) px py = vc at *
    generalize whereV ra px py = wa at *
    generalize twiceV (bL ra x y) = tb at *
    generalize twiceV (cL ra x y) = tc at *
    generalize twiceV ra = ta at *
    have r1 : IntKind.i64.wrap (tb + tc) = tb + tc := by rw [IntKind.wrap_i64]; omega
    have r2 : (tb + tc == ta) = true := by rw [q4]; simp
    have r3 : wrap64 (tb + tc) = tb + tc := IntWalk.wrap64_in _ (by omega)
    have Q1 := Lib.hid q1
    have Q2 := Lib.hid q2
    clear q1 q2 q4 t1b t1c tb2
    obtain ⟨f1, f2, f3, f4⟩ := tp9.facts
    go_upto_region 11 with fail
    go_cut [93] (fun v wx => v = .bool false ∧ Below w9.heap.size w9 wx)
    case first => as_aux_lemma =>
      by_cases cb : vb = 1
      · have hwa := Q1.out cb
        subst cb hwa
        go_wp2_with fail
        refine (HFb.out _ hx9).mono ?_
        rintro e y1 ⟨rfl, z1⟩
        clear f1 f2 f3 f4
        obtain ⟨f1, f2, f3, f4⟩ := (tp9.below z1 tp9.lt).facts
        go_wp2_with fail
        refine (HFa.out _ (hx9.trans (z1.mono hx9.size))).mono ?_
        rintro e y2 ⟨rfl, z2'⟩
        have z2 := z1.trans (z2'.mono z1.size)
        clear f1 f2 f3 f4
        obtain ⟨f1, f2, f3, f4⟩ := (tp9.below z2 tp9.lt).facts
        by_cases cc : vc = 1
        · subst cc
          go_wp2_with fail
          refine (HFc.out _ (hx9.trans (z2.mono hx9.size))).mono ?_
          rintro e y3 ⟨rfl, z3'⟩
          have z3 := z2.trans (z3'.mono z2.size)
          clear f1 f2 f3 f4
          obtain ⟨f1, f2, f3, f4⟩ := (tp9.below z3 tp9.lt).facts
          go_wp2_with fail
          refine (HFa.out _ (hx9.trans (z3.mono hx9.size))).mono ?_
          rintro e y4 ⟨rfl, z4'⟩
          go_wp2_with fail
          go_meet
          exact ⟨rfl, z3.trans (z4'.mono z3.size)⟩
        · have dc : (vc == 1) = false := by simpa using cc
          go_wp2_with fail
          refine (HFc.out _ (hx9.trans (z2.mono hx9.size))).mono ?_
          rintro e y3 ⟨rfl, z3'⟩
          go_wp2_with fail
          go_meet
          exact ⟨rfl, z2.trans (z3'.mono z2.size)⟩
      · have db : (vb == 1) = false := by simpa using cb
        go_wp2_with fail
        refine (HFb.out _ hx9).mono ?_
        rintro e y1 ⟨rfl, z1⟩
        clear f1 f2 f3 f4
        obtain ⟨f1, f2, f3, f4⟩ := (tp9.below z1 tp9.lt).facts
        by_cases cc : vc = 1
        · have hwa := Q2.out cc
          subst cc hwa
          go_wp2_with fail
          refine (HFc.out _ (hx9.trans (z1.mono hx9.size))).mono ?_
          rintro e y3 ⟨rfl, z3'⟩
          have z3 := z1.trans (z3'.mono z1.size)
          clear f1 f2 f3 f4
          obtain ⟨f1, f2, f3, f4⟩ := (tp9.below z3 tp9.lt).facts
          go_wp2_with fail
          refine (HFa.out _ (hx9.trans (z3.mono hx9.size))).mono ?_
          rintro e y4 ⟨rfl, z4'⟩
          go_wp2_with fail
          go_meet
          exact ⟨rfl, z3.trans (z4'.mono z3.size)⟩
        · have dc : (vc == 1) = false := by simpa using cc
          go_wp2_with fail
          refine (HFc.out _ (hx9.trans (z1.mono hx9.size))).mono ?_
          rintro e y3 ⟨rfl, z3'⟩
          go_wp2_with fail
          go_meet
          exact ⟨rfl, z1.trans (z3'.mono z1.size)⟩
    case rest =>
    obtain ⟨rfl, hbc⟩ := hcut
    obtain ⟨w10, rfl⟩ : ∃ z : World, z = wc := ⟨_, rfl⟩
    have hx10 := hx9.trans (hbc.mono hx9.size)
    have hB10 := hB9.trans (hbc.mono hB9.size)
    clear f1 f2 f3 f4 tp9 hx9 hB9 hbc
    go_wp2_with fail
    refine (HAp.out _ hx10).mono ?_
    rintro e w11 ⟨rfl, z1⟩
    have hx11 := hx10.trans (z1.mono hx10.size)
    have hB11 := hB10.trans (z1.mono hB10.size)
    go_wp2_with fail
    refine (HTb.out _ hx11).mono ?_
    rintro e w12 ⟨rfl, z2⟩
    have hx12 := hx11.trans (z2.mono hx11.size)
    have hB12 := hB11.trans (z2.mono hB11.size)
    go_wp2_with fail
    refine (HTc.out _ hx12).mono ?_
    rintro e w13 ⟨rfl, z3⟩
    have hx13 := hx12.trans (z3.mono hx12.size)
    have hB13 := hB12.trans (z3.mono hB12.size)
    go_wp2_with fail
    refine (HTa.out _ hx13).mono ?_
    rintro e w14 ⟨rfl, z4⟩
    go_wp2_with fail
    go_ret
    exact ⟨rfl, hB13.trans (z4.mono hB13.size)⟩
end Go.Proofs.Ytohkmkkcblbemaa.Ge
