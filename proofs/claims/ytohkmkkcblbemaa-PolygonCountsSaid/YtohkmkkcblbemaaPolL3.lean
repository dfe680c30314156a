/- The walk of PolygonBoxes. -/
import Derived.Test.YtohkmkkcblbemaaPolFew
import Derived.Test.YtohkmkkcblbemaaPolJor
import Derived.Deep.DeepCutAuto
namespace Go.Proofs.Ytohkmkkcblbemaa.Ge
set_option linter.unusedVariables false
set_option linter.unusedSimpArgs false
open Go.RowKit
open Go.Proofs.Ytohkmkkcblbemaa.Fr (Two)

theorem idx8 (n : Int) (len : Nat) (h : 0 < len) (hn : 0 ≤ n) : ∃ i : Nat, i < len ∧ n % (len : Int) = (i : Int) := by
  have h1 := Int.emod_nonneg n (show (len : Int) ≠ 0 by omega)
  have h2 := Int.emod_lt_of_pos n (show (0 : Int) < (len : Int) by omega)
  exact ⟨(n % (len : Int)).toNat, by omega, by omega⟩
/-- what PolygonBoxes asks of a ring -/
structure BoxLaw (l : List Pt) (x y : Int) (k : Nat) : Prop where
  out : (x < (lowP l).1 ∨ (highP l).1 < x ∨ y < (lowP l).2 ∨ (highP l).2 < y) → whereV l x y = -1
  corner : whereV l (nth l k).1 (nth l k).2 = 0
  side : betB x y (nth l k).1 (nth l k).2 (nth l (k + 1)).1 (nth l (k + 1)).2 = true → whereV l x y = 0
  one : 1 ≤ twiceV l
  most : twiceV l ≤ 2 * ((highP l).1 - (lowP l).1) * ((highP l).2 - (lowP l).2)
theorem box_law {l : List Pt} (h : validB l = true) (x y : Int) (k : Nat) : BoxLaw l x y k :=
  ⟨box_out h, where_corner h k, where_between h k, (box_twice h).1, (box_twice h).2⟩
theorem box_bd {l : List Pt} (h : validB l = true) : (0 ≤ (lowP l).1 ∧ (lowP l).1 ≤ (highP l).1 ∧ (highP l).1 ≤ 32767) ∧ 0 ≤ (lowP l).2 ∧ (lowP l).2 ≤ (highP l).2 ∧ (highP l).2 ≤ 32767 := by
  obtain ⟨w1, w2⟩ := box_wide h
  have hl : 0 < l.length := by have := (valid_len h).1; omega
  have hd : l ≠ [] := List.length_pos_iff.1 hl
  have on0 := fun p (hp : p ∈ l) => valid_on h p hp
  have mem : ∀ (f : Pt → Int) (P : Int → Prop), (∀ p ∈ l, P (f p)) → P (minI (l.map f) (f (nth l 0))) ∧ P (maxI (l.map f) (f (nth l 0))) := fun f P hP => by
    constructor
    · rcases min_mem (f (nth l 0)) (l.map f) with k | k
      · rw [k]; exact hP _ (nth_mem hd 0)
      · obtain ⟨p, hp, e⟩ := List.mem_map.1 k
        rw [← e]; exact hP p hp
    · rcases max_mem (f (nth l 0)) (l.map f) with k | k
      · rw [k]; exact hP _ (nth_mem hd 0)
      · obtain ⟨p, hp, e⟩ := List.mem_map.1 k
        rw [← e]; exact hP p hp
  have m1 := mem (·.1) (fun x => 0 ≤ x ∧ x ≤ 32767) (fun p hp => (on0 p hp).1)
  have m2 := mem (·.2) (fun x => 0 ≤ x ∧ x ≤ 32767) (fun p hp => (on0 p hp).2)
  refine ⟨⟨?_, Int.le_of_lt w1, ?_⟩, ?_, Int.le_of_lt w2, ?_⟩
  · unfold lowP; rw [if_pos h]; exact m1.1.1
  · unfold highP; rw [if_pos h]; exact m1.2.2
  · unfold lowP; rw [if_pos h]; exact m2.1.1
  · unfold highP; rw [if_pos h]; exact m2.2.2
theorem two_cells {W : World} {B : Nat} {x y : Int} (h : Two W B 23 (.int .i64 x) (.int .i64 y)) {W' : World} (hb : Below W.heap.size W W') : W'.cell? ⟨B, 0, none⟩ = some (.int .i64 x) ∧ W'.cell? ⟨B, 1, none⟩ = some (.int .i64 y) := by
  have := (h.below hb h.lt).facts
  exact ⟨this.1, this.2.1⟩

set_option maxRecDepth 100000 in
set_option maxHeartbeats 8000000 in
theorem lawBoxes (va : Value) (ra : List Pt) (px py n : Int) (hn0 : 0 ≤ n) (hn1 : n ≤ 255) (w : World) (ha : PtSl w va ra) :
    Calls Try.prog 6 #[va, .agg #[.int .i64 px, .int .i64 py], .int .u8 n] w fun e w' => e = .returned (.bool true) ∧ Below w.heap.size w w' := by
  have tp := Two.new w 23 (.int .i64 px) (.int .i64 py)
  have hB := (Below.refl w.heap.size w).alloc (Nat.le_refl _) (.cells #[.int .i64 px, .int .i64 py] 23)
  have Ha := ha.below hB
  obtain ⟨a1, a2, rfl⟩ := ha.form
  have HA := Lib.hid Ha
  clear Ha
  go_enter Try.func6, Try.ntmps6
  go_wp2_with fail
  generalize w.alloc (.cells #[.int .i64 px, .int .i64 py] 23) = W0 at *
  refine (head8_any _).mono ?_
  rintro e w1 ⟨rfl, hb1⟩
  have hB1 := hB.trans (hb1.mono hB.size)
  have HA1 := Lib.hid (HA.out.below hb1)
  have tp1 := tp.below hb1 tp.lt
  clear HA tp hB hb1
  go_wp2_with fail
  refine (few_two _ _ ra [] _ HA1.out (.inl ⟨rfl, none, 0, rfl⟩)).mono ?_
  rintro e w2 ⟨rfl, rfl⟩
  rw [show decide (([] : List Pt).length ≤ 50) = true from rfl, Bool.and_true]
  by_cases hfew : ¬ ra.length ≤ 50
  · rw [decide_eq_false hfew]
    go_wp2_with fail
    go_ret
    exact ⟨rfl, hB1⟩
  have hfew := Classical.not_not.1 hfew
  rw [decide_eq_true hfew]
  clear hfew
  have HV := Lib.hid (Valid_any _ ra w2 HA1.out)
  cases hva : validB ra with
  | false =>
    rw [hva] at HV
    clear hva
    go_wp2_with fail
    refine HV.out.mono ?_
    rintro e w3 ⟨rfl, hb3⟩
    have hB3 := hB1.trans (hb3.mono hB1.size)
    go_wp2_with fail
    go_ret
    exact ⟨rfl, hB3⟩
  | true =>
  rw [hva] at HV
  have Hva := Lib.hid hva
  have la := valid_len hva
  have hbd := box_bd hva
  have hee : errB ra = 0 := by unfold errB; rw [if_pos hva]
  have HBX := Lib.hid (fun (w' : World) (h : Below w2.heap.size w2 w') => Box_any _ ra w' (HA1.out.below h))
  rw [hee] at HBX
  clear hva hee
  -- the cells of the ring
  rcases ha with ⟨rfl, -⟩ | ⟨b, off, cap, hv, -, hbl, -, hcells⟩
  · exact absurd la.1 (by decide)
  obtain ⟨rfl, -, rfl⟩ : a1 = some ⟨b, off, none⟩ ∧ True ∧ a2 = cap := by
    injection hv with h1 h2 h3
    exact ⟨h1, trivial, h3⟩
  clear hv
  obtain ⟨k, hk, hi⟩ := idx8 n ra.length (by omega) hn0
  obtain ⟨m, hm, hj⟩ := idx8 ((k : Int) + 1) ra.length (by omega) (by omega)
  go_wp2_with fail
  refine HV.out.mono ?_
  rintro e w3 ⟨rfl, hb3⟩
  have hlz : ((ra.length : Int) == 0) = false := by rw [beq_eq_false_iff_ne]; omega
  have hkn : nth ra k = ra[k] := nth_lt hk
  have hmn : nth ra (k + 1) = ra[m] := by
    rw [← nth_lt hm]
    have h9 : (((k + 1) % ra.length : Nat) : Int) = (m : Int) := by rw [Int.natCast_emod, Int.natCast_add]; exact hj
    exact nth_congr (by rw [Nat.mod_eq_of_lt hm]; omega)
  have HL := box_law Hva.out px py k
  obtain ⟨hout, hcor, hside, hone, hmost⟩ := HL
  rw [hkn] at hcor
  rw [hkn, hmn] at hside
  have HW1 := Lib.hid (fun (w' : World) (h : Below w2.heap.size w2 w') => Where_any _ ra ra[k].1 ra[k].2 w' (HA1.out.below h))
  rw [hcor] at HW1
  have HW2 := Lib.hid (fun (w' : World) (h : Below w2.heap.size w2 w') => Where_any _ ra px py w' (HA1.out.below h))
  have HBT := Lib.hid (fun (w' : World) => Between_any px py ra[k].1 ra[k].2 ra[m].1 ra[m].2 w')
  have HT := Lib.hid (fun (w' : World) (h : Below w2.heap.size w2 w') => Twice_any _ ra w' (HA1.out.below h))
  have ck : w.cell? ⟨b, off + k * 2, none⟩ = some (.int .i64 ra[k].1) ∧ w.cell? ⟨b, off + k * 2 + 1, none⟩ = some (.int .i64 ra[k].2) := hcells k hk
  have cm : w.cell? ⟨b, off + m * 2, none⟩ = some (.int .i64 ra[m].1) ∧ w.cell? ⟨b, off + m * 2 + 1, none⟩ = some (.int .i64 ra[m].2) := hcells m hm
  clear hcells hcor hkn hmn
  generalize (lowP ra).1 = lx at *
  generalize (lowP ra).2 = ly at *
  generalize (highP ra).1 = ux at *
  generalize (highP ra).2 = uy at *
  generalize whereV ra px py = wv at *
  generalize betB px py ra[k].1 ra[k].2 ra[m].1 ra[m].2 = bb at *
  generalize twiceV ra = tw at *
  generalize ra[k].1 = kx at *
  generalize ra[k].2 = ky at *
  generalize ra[m].1 = mx at *
  generalize ra[m].2 = my at *
  have HO := Lib.hid hout
  have HS := Lib.hid hside
  have HM := Lib.hid hmost
  clear hout hside hmost
  go_wp2_with fail
  refine (HBX.out _ hb3).mono ?_
  rintro e w4 ⟨rfl, hb4⟩
  have hx4 := hb3.trans (hb4.mono hb3.size)
  have hB4 := hB1.trans (hx4.mono hB1.size)
  have tp4 := tp1.below hx4 tp1.lt
  have tp6 := (tp4.alloc (.cells #[.int .i64 lx, .int .i64 ly] 23)).alloc (.cells #[.int .i64 ux, .int .i64 uy] 23)
  have tl6 := (Two.new w4 23 (.int .i64 lx) (.int .i64 ly)).alloc (.cells #[.int .i64 ux, .int .i64 uy] 23)
  have th6 := Two.at (w := w4.alloc (.cells #[.int .i64 lx, .int .i64 ly] 23)) (B := w4.heap.size + 1) (by simp) 23 (.int .i64 ux) (.int .i64 uy)
  have hx6 := (hx4.alloc hx4.size (.cells #[.int .i64 lx, .int .i64 ly] 23)).alloc (Nat.le_trans hx4.size (by simp)) (.cells #[.int .i64 ux, .int .i64 uy] 23)
  have hB6 := hB1.trans (hx6.mono hB1.size)
  clear hb3 hb4 hx4 hB4 tp4 HBX
  go_upto_region 7 with fail
  obtain ⟨W, hW⟩ : ∃ x, (w4.alloc (.cells #[.int .i64 lx, .int .i64 ly] 23)).alloc (.cells #[.int .i64 ux, .int .i64 uy] 23) = x := ⟨_, rfl⟩
  rw [hW] at tp6 tl6 th6 hx6 hB6 ⊢
  clear hW
  generalize w4.heap.size = BL at *
  obtain ⟨f1, f2, -, -⟩ := tp6.facts
  obtain ⟨f3, f4, -, -⟩ := tl6.facts
  obtain ⟨f5, f6, -, -⟩ := th6.facts
  go_cut [68] (fun v wx => v = .bool false ∧ Below W.heap.size W wx)
  case first => as_aux_lemma =>
    by_cases c0 : px < lx
    · have d0 : decide (px < lx) = true := decide_eq_true c0
      have hw : wv = -1 := HO.out (by omega)
      rw [hw] at HW2
      clear hw HO
      go_wp2_with fail
      refine (HW2.out _ hx6).mono ?_
      rintro e wy ⟨rfl, hby⟩
      go_wp2_with fail
      go_meet
      exact ⟨rfl, hby⟩
    have d0 : decide (px < lx) = false := decide_eq_false c0
    by_cases c1 : ux < px
    · have d1 : decide (ux < px) = true := decide_eq_true c1
      have hw : wv = -1 := HO.out (by omega)
      rw [hw] at HW2
      clear hw HO
      go_wp2_with fail
      refine (HW2.out _ hx6).mono ?_
      rintro e wy ⟨rfl, hby⟩
      go_wp2_with fail
      go_meet
      exact ⟨rfl, hby⟩
    have d1 : decide (ux < px) = false := decide_eq_false c1
    by_cases c2 : py < ly
    · have d2 : decide (py < ly) = true := decide_eq_true c2
      have hw : wv = -1 := HO.out (by omega)
      rw [hw] at HW2
      clear hw HO
      go_wp2_with fail
      refine (HW2.out _ hx6).mono ?_
      rintro e wy ⟨rfl, hby⟩
      go_wp2_with fail
      go_meet
      exact ⟨rfl, hby⟩
    have d2 : decide (py < ly) = false := decide_eq_false c2
    by_cases c3 : uy < py
    · have d3 : decide (uy < py) = true := decide_eq_true c3
      have hw : wv = -1 := HO.out (by omega)
      rw [hw] at HW2
      clear hw HO
      go_wp2_with fail
      refine (HW2.out _ hx6).mono ?_
      rintro e wy ⟨rfl, hby⟩
      go_wp2_with fail
      go_meet
      exact ⟨rfl, hby⟩
    have d3 : decide (uy < py) = false := decide_eq_false c3
    go_wp2_with fail
    go_meet
    exact ⟨rfl, Below.refl _ _⟩
  case rest =>
  clear f1 f2 f3 f4 f5 f6 HO
  obtain ⟨rfl, hbc⟩ := hcut
  obtain ⟨w7, rfl⟩ : ∃ x : World, x = wc := ⟨_, rfl⟩
  have tp7 := tp6.below hbc tp6.lt
  have tl7 := tl6.below hbc tl6.lt
  have th7 := th6.below hbc th6.lt
  have hx7 := hx6.trans (hbc.mono hx6.size)
  have hB7 := hB6.trans (hbc.mono hB6.size)
  clear tp6 tl6 th6 hx6 hB6 hbc
  have k1 : IntKind.i64.wrap ((k : Int) + 1) = (k : Int) + 1 := by rw [IntKind.wrap_i64]; omega
  have cm7 : w7.cell? ⟨b, off + m * 2, none⟩ = some (.int .i64 mx) ∧ w7.cell? ⟨b, off + m * 2 + 1, none⟩ = some (.int .i64 my) := ⟨(hB7.cell (p := ⟨b, off + m * 2, none⟩) hbl).trans cm.1, (hB7.cell (p := ⟨b, off + m * 2 + 1, none⟩) hbl).trans cm.2⟩
  obtain ⟨g1, g2⟩ := cm7
  have kk : (0 : Int) ≤ (k : Int) := by omega
  have kl : (k : Int) < (ra.length : Int) := by omega
  have mk : (0 : Int) ≤ (m : Int) := by omega
  have ml : (m : Int) < (ra.length : Int) := by omega
  go_upto_region 10 with fail
  rw [hi]
  go_upto_region 11 with fail
  have tq8 := Two.new w7 23 (.int .i64 mx) (.int .i64 my)
  have tp8 := tp7.alloc (.cells #[.int .i64 mx, .int .i64 my] 23)
  have tl8 := tl7.alloc (.cells #[.int .i64 mx, .int .i64 my] 23)
  have th8 := th7.alloc (.cells #[.int .i64 mx, .int .i64 my] 23)
  have hx8 := hx7.alloc hx7.size (.cells #[.int .i64 mx, .int .i64 my] 23)
  have hB8 := hB7.alloc hB7.size (.cells #[.int .i64 mx, .int .i64 my] 23)
  clear g1 g2 tp7 tl7 th7 hx7 hB7
  obtain ⟨w8, hw8⟩ : ∃ x, w7.alloc (.cells #[.int .i64 mx, .int .i64 my] 23) = x := ⟨_, rfl⟩
  rw [hw8] at tq8 tp8 tl8 th8 hx8 hB8 ⊢
  clear hw8
  generalize w7.heap.size = BQ at *
  have hS : ∀ w' : World, Below w8.heap.size w8 w' → ((w'.cell? ⟨w.heap.size, 0, none⟩ = some (.int .i64 px) ∧ w'.cell? ⟨w.heap.size, 1, none⟩ = some (.int .i64 py)) ∧ (w'.cell? ⟨BQ, 0, none⟩ = some (.int .i64 mx) ∧ w'.cell? ⟨BQ, 1, none⟩ = some (.int .i64 my)) ∧ w'.cell? ⟨b, off + k * 2, none⟩ = some (.int .i64 kx) ∧ w'.cell? ⟨b, off + k * 2 + 1, none⟩ = some (.int .i64 ky)) := fun w' hb => ⟨two_cells tp8 hb, two_cells tq8 hb, (((hB8.trans (hb.mono hB8.size)).cell (p := ⟨b, off + k * 2, none⟩) hbl).trans ck.1), (((hB8.trans (hb.mono hB8.size)).cell (p := ⟨b, off + k * 2 + 1, none⟩) hbl).trans ck.2)⟩
  have hr := Below.refl w8.heap.size w8
  go_cut [103] (fun v wx => v = .bool false ∧ Below w8.heap.size w8 wx)
  case first => as_aux_lemma =>
    cases bb with
    | true =>
      rw [HS.out rfl] at HW2
      go_region_held3 (fun w' => ((w'.cell? ⟨w.heap.size, 0, none⟩ = some (.int .i64 px) ∧ w'.cell? ⟨w.heap.size, 1, none⟩ = some (.int .i64 py)) ∧ (w'.cell? ⟨BQ, 0, none⟩ = some (.int .i64 mx) ∧ w'.cell? ⟨BQ, 1, none⟩ = some (.int .i64 my)) ∧ w'.cell? ⟨b, off + k * 2, none⟩ = some (.int .i64 kx) ∧ w'.cell? ⟨b, off + k * 2 + 1, none⟩ = some (.int .i64 ky)))
        (first | (with_reducible exact hS _ hr.drew) | (with_reducible refine hS _ ?_; with_reducible assumption))
        (first
          | (go_at_call 27; have hz := y2; refine (HW2.out _ (hx8.trans (y2.mono hx8.size))).mono ?_; rintro r v3 ⟨rfl, z3⟩; have y3 : Below w8.heap.size w8 v3 := y2.trans (z3.mono y2.size); clear z3)
          | (go_at_call 34; have hz := y1; refine (HBT.out _).mono ?_; rintro r v2 ⟨rfl, z2⟩; have y2 : Below w8.heap.size w8 v2 := y1.trans (z2.mono y1.size); clear z2)
          | (go_at_call 27; refine (HW1.out _ (hx8.trans ((hr.drew).mono hx8.size))).mono ?_; rintro r v1 ⟨rfl, z1⟩; have y1 : Below w8.heap.size w8 v1 := hr.drew.trans z1; clear z1))
      go_wp2_with fail
      go_meet
      exact ⟨rfl, y3⟩
    | false =>
      have hS0 := hS _ hr.drew
      refine wp_region_held_drew (S := fun w' => ((w'.cell? ⟨w.heap.size, 0, none⟩ = some (.int .i64 px) ∧ w'.cell? ⟨w.heap.size, 1, none⟩ = some (.int .i64 py)) ∧ (w'.cell? ⟨BQ, 0, none⟩ = some (.int .i64 mx) ∧ w'.cell? ⟨BQ, 1, none⟩ = some (.int .i64 my)) ∧ w'.cell? ⟨b, off + k * 2, none⟩ = some (.int .i64 kx) ∧ w'.cell? ⟨b, off + k * 2 + 1, none⟩ = some (.int .i64 ky))) (by kernel_rfl) hS0 (fun _ => ?_)
      refine Ri.take_d (i := 0) (v := .slice (some ⟨b, off, none⟩) ra.length a2) (some 82) rfl rfl (by kernel_rfl) (by kernel_rfl) (by kernel_rfl) (fun _ _ _ h => h) (Or.inl ⟨by kernel_rfl, ?_⟩) hS0 ?_
      · intro w' hSw; obtain ⟨⟨s1, s2⟩, ⟨s3, s4⟩, s5, s6⟩ := hSw; go_simp
      simp only [Act.put, List.setIfInBounds_toArray, List.set_cons_zero, List.set_cons_succ]
      refine Ri.take_d (i := 1) (v := .slice (some ⟨b, off, none⟩) ra.length a2) (some 83) rfl rfl (by kernel_rfl) (by kernel_rfl) (by kernel_rfl) (fun _ _ _ h => h) (Or.inl ⟨by kernel_rfl, ?_⟩) hS0 ?_
      · intro w' hSw; obtain ⟨⟨s1, s2⟩, ⟨s3, s4⟩, s5, s6⟩ := hSw; go_simp
      simp only [Act.put, List.setIfInBounds_toArray, List.set_cons_zero, List.set_cons_succ]
      refine Ri.take_d (i := 2) (v := .int .i64 (k : Int)) (some 84) rfl rfl (by kernel_rfl) (by kernel_rfl) (by kernel_rfl) (fun _ _ _ h => h) (Or.inl ⟨by kernel_rfl, ?_⟩) hS0 ?_
      · intro w' hSw; obtain ⟨⟨s1, s2⟩, ⟨s3, s4⟩, s5, s6⟩ := hSw; go_simp
      simp only [Act.put, List.setIfInBounds_toArray, List.set_cons_zero, List.set_cons_succ]
      refine Ri.take_d (i := 3) (v := .pointer (some ⟨b, off + k * 2, none⟩)) (some 85) rfl rfl (by kernel_rfl) (by kernel_rfl) (by kernel_rfl) (fun _ _ _ h => h) (Or.inl ⟨by kernel_rfl, ?_⟩) hS0 ?_
      · intro w' hSw; obtain ⟨⟨s1, s2⟩, ⟨s3, s4⟩, s5, s6⟩ := hSw; go_simp
      simp only [Act.put, List.setIfInBounds_toArray, List.set_cons_zero, List.set_cons_succ]
      refine Ri.take_d (i := 4) (v := .agg #[.int .i64 kx, .int .i64 ky]) (some 86) rfl rfl (by kernel_rfl) (by kernel_rfl) (by kernel_rfl) (fun _ _ _ h => h) (Or.inl ⟨by kernel_rfl, ?_⟩) hS0 ?_
      · intro w' hSw; obtain ⟨⟨s1, s2⟩, ⟨s3, s4⟩, s5, s6⟩ := hSw; go_simp
      simp only [Act.put, List.setIfInBounds_toArray, List.set_cons_zero, List.set_cons_succ]
      refine wpAnyH_ready (rs := [5]) (by kernel_rfl) (by simp) ?_
      refine AllReadyH.cons rfl (fun K hK => ?_) AllReadyH.nil
      rw [if_pos (by rfl)]
      go_simp
      go_at_call 27
      refine (HW1.out _ (hx8.trans (hr.drew.mono hx8.size))).mono ?_
      rintro r v1 ⟨rfl, z1⟩
      have y1 : Below w8.heap.size w8 v1 := hr.drew.trans z1
      have hS1 := hS _ y1
      refine hK.out _ _ hS1 (fun _ => ?_)
      clear hK K
      try simp only [Act.put, List.setIfInBounds_toArray, List.set_cons_zero, List.set_cons_succ]
      refine Ri.take_d (i := 6) (v := .bool false) (some 88) rfl rfl (by kernel_rfl) (by kernel_rfl) (by kernel_rfl) (fun _ _ _ h => h) (Or.inl ⟨by kernel_rfl, ?_⟩) hS1 ?_
      · intro w' hSw; obtain ⟨⟨s1, s2⟩, ⟨s3, s4⟩, s5, s6⟩ := hSw; go_simp
      simp only [Act.put, List.setIfInBounds_toArray, List.set_cons_zero, List.set_cons_succ]
      refine Ri.take_d (i := 7) (v := .bool false) (some 89) rfl rfl (by kernel_rfl) (by kernel_rfl) (by kernel_rfl) (fun _ _ _ h => h) (Or.inl ⟨by kernel_rfl, ?_⟩) hS1 ?_
      · intro w' hSw; obtain ⟨⟨s1, s2⟩, ⟨s3, s4⟩, s5, s6⟩ := hSw; go_simp
      simp only [Act.put, List.setIfInBounds_toArray, List.set_cons_zero, List.set_cons_succ]
      refine Ri.take_d (i := 8) (v := .agg #[.int .i64 px, .int .i64 py]) (some 90) rfl rfl (by kernel_rfl) (by kernel_rfl) (by kernel_rfl) (fun _ _ _ h => h) (Or.inl ⟨by kernel_rfl, ?_⟩) hS1 ?_
      · intro w' hSw; obtain ⟨⟨s1, s2⟩, ⟨s3, s4⟩, s5, s6⟩ := hSw; go_simp
      simp only [Act.put, List.setIfInBounds_toArray, List.set_cons_zero, List.set_cons_succ]
      refine Ri.take_d (i := 9) (v := .slice (some ⟨b, off, none⟩) ra.length a2) (some 91) rfl rfl (by kernel_rfl) (by kernel_rfl) (by kernel_rfl) (fun _ _ _ h => h) (Or.inl ⟨by kernel_rfl, ?_⟩) hS1 ?_
      · intro w' hSw; obtain ⟨⟨s1, s2⟩, ⟨s3, s4⟩, s5, s6⟩ := hSw; go_simp
      simp only [Act.put, List.setIfInBounds_toArray, List.set_cons_zero, List.set_cons_succ]
      refine Ri.take_d (i := 10) (v := .int .i64 (k : Int)) (some 92) rfl rfl (by kernel_rfl) (by kernel_rfl) (by kernel_rfl) (fun _ _ _ h => h) (Or.inl ⟨by kernel_rfl, ?_⟩) hS1 ?_
      · intro w' hSw; obtain ⟨⟨s1, s2⟩, ⟨s3, s4⟩, s5, s6⟩ := hSw; go_simp
      simp only [Act.put, List.setIfInBounds_toArray, List.set_cons_zero, List.set_cons_succ]
      refine Ri.take_d (i := 11) (v := .pointer (some ⟨b, off + k * 2, none⟩)) (some 93) rfl rfl (by kernel_rfl) (by kernel_rfl) (by kernel_rfl) (fun _ _ _ h => h) (Or.inl ⟨by kernel_rfl, ?_⟩) hS1 ?_
      · intro w' hSw; obtain ⟨⟨s1, s2⟩, ⟨s3, s4⟩, s5, s6⟩ := hSw; go_simp
      simp only [Act.put, List.setIfInBounds_toArray, List.set_cons_zero, List.set_cons_succ]
      refine Ri.take_d (i := 12) (v := .agg #[.int .i64 kx, .int .i64 ky]) (some 94) rfl rfl (by kernel_rfl) (by kernel_rfl) (by kernel_rfl) (fun _ _ _ h => h) (Or.inl ⟨by kernel_rfl, ?_⟩) hS1 ?_
      · intro w' hSw; obtain ⟨⟨s1, s2⟩, ⟨s3, s4⟩, s5, s6⟩ := hSw; go_simp
      simp only [Act.put, List.setIfInBounds_toArray, List.set_cons_zero, List.set_cons_succ]
      refine Ri.take_d (i := 13) (v := .agg #[.int .i64 mx, .int .i64 my]) (some 95) rfl rfl (by kernel_rfl) (by kernel_rfl) (by kernel_rfl) (fun _ _ _ h => h) (Or.inl ⟨by kernel_rfl, ?_⟩) hS1 ?_
      · intro w' hSw; obtain ⟨⟨s1, s2⟩, ⟨s3, s4⟩, s5, s6⟩ := hSw; go_simp
      simp only [Act.put, List.setIfInBounds_toArray, List.set_cons_zero, List.set_cons_succ]
      refine wpAnyH_ready (rs := [14]) (by kernel_rfl) (by simp) ?_
      refine AllReadyH.cons rfl (fun K hK => ?_) AllReadyH.nil
      rw [if_pos (by rfl)]
      go_simp
      go_at_call 34
      refine (HBT.out _).mono ?_
      rintro r v2 ⟨rfl, z2⟩
      have y2 : Below w8.heap.size w8 v2 := y1.trans (z2.mono y1.size)
      have hS2 := hS _ y2
      refine hK.out _ _ hS2 (fun _ => ?_)
      clear hK K
      try simp only [Act.put, List.setIfInBounds_toArray, List.set_cons_zero, List.set_cons_succ]
      refine Ri.take_d (i := 15) (v := .bool false) (some 97) rfl rfl (by kernel_rfl) (by kernel_rfl) (by kernel_rfl) (fun _ _ _ h => h) (Or.inl ⟨by kernel_rfl, ?_⟩) hS2 ?_
      · intro w' hSw; obtain ⟨⟨s1, s2⟩, ⟨s3, s4⟩, s5, s6⟩ := hSw; go_simp
      simp only [Act.put, List.setIfInBounds_toArray, List.set_cons_zero, List.set_cons_succ]
      refine Ri.take_d (i := 16) (v := undef) (some 98) rfl rfl (by kernel_rfl) (by kernel_rfl) (by kernel_rfl) (fun _ _ _ h => h) (Or.inr ⟨by kernel_rfl, rfl⟩) hS2 ?_
      simp only [Act.put, List.setIfInBounds_toArray, List.set_cons_zero, List.set_cons_succ]
      refine Ri.take_d (i := 17) (v := undef) (some 99) rfl rfl (by kernel_rfl) (by kernel_rfl) (by kernel_rfl) (fun _ _ _ h => h) (Or.inr ⟨by kernel_rfl, rfl⟩) hS2 ?_
      simp only [Act.put, List.setIfInBounds_toArray, List.set_cons_zero, List.set_cons_succ]
      refine Ri.take_d (i := 18) (v := undef) (some 100) rfl rfl (by kernel_rfl) (by kernel_rfl) (by kernel_rfl) (fun _ _ _ h => h) (Or.inr ⟨by kernel_rfl, rfl⟩) hS2 ?_
      simp only [Act.put, List.setIfInBounds_toArray, List.set_cons_zero, List.set_cons_succ]
      refine Ri.take_d (i := 19) (v := undef) (some 101) rfl rfl (by kernel_rfl) (by kernel_rfl) (by kernel_rfl) (fun _ _ _ h => h) (Or.inr ⟨by kernel_rfl, rfl⟩) hS2 ?_
      simp only [Act.put, List.setIfInBounds_toArray, List.set_cons_zero, List.set_cons_succ]
      refine Ri.take_d (i := 20) (v := .bool false) (some 102) rfl rfl (by kernel_rfl) (by kernel_rfl) (by kernel_rfl) (fun _ _ _ h => h) (Or.inl ⟨by kernel_rfl, ?_⟩) hS2 ?_
      · intro w' hSw; obtain ⟨⟨s1, s2⟩, ⟨s3, s4⟩, s5, s6⟩ := hSw; go_simp
      simp only [Act.put, List.setIfInBounds_toArray, List.set_cons_zero, List.set_cons_succ]
      refine Ri.take_d (i := 21) (v := .bool false) (some 103) rfl rfl (by kernel_rfl) (by kernel_rfl) (by kernel_rfl) (fun _ _ _ h => h) (Or.inl ⟨by kernel_rfl, ?_⟩) hS2 ?_
      · intro w' hSw; obtain ⟨⟨s1, s2⟩, ⟨s3, s4⟩, s5, s6⟩ := hSw; go_simp
      simp only [Act.put, List.setIfInBounds_toArray, List.set_cons_zero, List.set_cons_succ]
      refine wpAnyH_done (by kernel_rfl) ?_ _
      go_wp2_with fail
      go_meet
      exact ⟨rfl, y2⟩
  case rest =>
  obtain ⟨rfl, hbc⟩ := hcut
  obtain ⟨w9, rfl⟩ : ∃ x : World, x = wc := ⟨_, rfl⟩
  have tl9 := tl8.below hbc tl8.lt
  have th9 := th8.below hbc th8.lt
  have hx9 := hx8.trans (hbc.mono hx8.size)
  have hB9 := hB8.trans (hbc.mono hB8.size)
  clear tl8 th8 tp8 tq8 hx8 hB8 hbc hS hr
  go_wp2_with fail
  refine (HT.out _ hx9).mono ?_
  rintro e w10 ⟨rfl, hb10⟩
  have tl10 := tl9.below hb10 tl9.lt
  have th10 := th9.below hb10 th9.lt
  have hB10 := hB9.trans (hb10.mono hB9.size)
  clear tl9 th9 hx9 hB9 hb10
  obtain ⟨f1, f2, -, -⟩ := tl10.facts
  obtain ⟨f3, f4, -, -⟩ := th10.facts
  obtain ⟨⟨b1, b2, b3⟩, b4, b5, b6⟩ := hbd
  have q1 : IntKind.i64.wrap (ux - lx) = ux - lx := by rw [IntKind.wrap_i64]; omega
  have q2 : IntKind.i64.wrap (uy - ly) = uy - ly := by rw [IntKind.wrap_i64]; omega
  have q3 : IntKind.i64.wrap (2 * (ux - lx)) = 2 * (ux - lx) := by rw [IntKind.wrap_i64]; omega
  have q4 : IntKind.i64.wrap (2 * (ux - lx) * (uy - ly)) = 2 * (ux - lx) * (uy - ly) := by
    have m1 := Int.mul_nonneg (show 0 ≤ 2 * (ux - lx) by omega) (show 0 ≤ uy - ly by omega)
    have m2 := Int.mul_le_mul (show 2 * (ux - lx) ≤ 65534 by omega) (show uy - ly ≤ 32767 by omega) (by omega) (by decide)
    rw [IntKind.wrap_i64]
    omega
  have q5 : decide ((1 : Int) ≤ tw) = true := decide_eq_true hone
  have q6 : decide (tw ≤ 2 * (ux - lx) * (uy - ly)) = true := decide_eq_true HM.out
  clear hone HM
  go_wp2_with fail
  go_ret
  exact ⟨rfl, hB10⟩
end Go.Proofs.Ytohkmkkcblbemaa.Ge
