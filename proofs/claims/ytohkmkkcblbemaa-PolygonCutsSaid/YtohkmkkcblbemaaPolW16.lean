/- Walks over package polygon: Box. -/
import Derived.Test.YtohkmkkcblbemaaPolW15
import Derived.Test.YtohkmkkcblbemaaRegInv
import Derived.Deep.DeepCutAuto
namespace Go.Proofs.Ytohkmkkcblbemaa.Ge
set_option linter.unusedVariables false
set_option linter.unusedSimpArgs false
open Go.RowKit
open Go.Proofs.Ytohkmkkcblbemaa.Fr (Two)

theorem pt_keep2 {w : World} {B C : Nat} {t : TypeId} {x y : Value} (h : Two w B t x y) (a b : Value) (hne : B ≠ C) : Two ((w.setCell ⟨C, 0, none⟩ a).setCell ⟨C, 1, none⟩ b) B t x y := by
  unfold Two at h ⊢
  rw [heap_setCell_other _ _ _ _ hne, heap_setCell_other _ _ _ _ hne]
  exact h
def errB (r : List Pt) : Int := if validB r = true then 0 else 1
def mnT (f : Pt → Int) (r : List Pt) (d : Int) (k : Nat) : Int := minI ((r.take k).map f) d
def mxT (f : Pt → Int) (r : List Pt) (d : Int) (k : Nat) : Int := maxI ((r.take k).map f) d
theorem mnT_succ (f : Pt → Int) (r : List Pt) (d : Int) (k : Nat) (h : k < r.length) : mnT f r d (k + 1) = min (mnT f r d k) (f r[k]) := by
  unfold mnT minI
  rw [List.take_succ_eq_append_getElem h, List.map_append, List.foldl_append]
  rfl
theorem mxT_succ (f : Pt → Int) (r : List Pt) (d : Int) (k : Nat) (h : k < r.length) : mxT f r d (k + 1) = max (mxT f r d k) (f r[k]) := by
  unfold mxT maxI
  rw [List.take_succ_eq_append_getElem h, List.map_append, List.foldl_append]
  rfl
theorem mnT_all (f : Pt → Int) (r : List Pt) (d : Int) : mnT f r d r.length = minI (r.map f) d := by unfold mnT; rw [List.take_length]
theorem mxT_all (f : Pt → Int) (r : List Pt) (d : Int) : mxT f r d r.length = maxI (r.map f) d := by unfold mxT; rw [List.take_length]

set_option maxRecDepth 100000 in
set_option maxHeartbeats 4000000 in
theorem Box_no (v : Value) (r : List Pt) (w : World) (hv : PtSl w v r) (h : validB r = false) :
    Calls Try.prog 21 #[v] w fun e w' => e = .returned (.tuple #[.agg #[.int .i64 0, .int .i64 0], .agg #[.int .i64 0, .int .i64 0], .int .i64 1]) ∧ Below w.heap.size w w' := by
  have HV := Lib.hid (fun (w1 : World) (h : Below w.heap.size w w1) => Valid_any v r w1 (hv.below h))
  rw [h] at HV
  obtain ⟨a, cap, rfl⟩ := hv.form
  have t0 := (Two.new w 23 (.int .i64 0) (.int .i64 0)).alloc (.cells #[.int .i64 0, .int .i64 0] 23)
  have t1 := Two.at (w := w.alloc (.cells #[.int .i64 0, .int .i64 0] 23)) (B := w.heap.size + 1) (by simp) 23 (.int .i64 0) (.int .i64 0)
  have hb0 := ((Below.refl w.heap.size w).alloc (Nat.le_refl _) (.cells #[.int .i64 0, .int .i64 0] 23)).alloc (by simp) (.cells #[.int .i64 0, .int .i64 0] 23)
  clear hv h
  go_enter Try.func21, Try.ntmps21
  go_wp2_with fail
  refine (HV.out _ hb0).mono ?_
  rintro e w1 ⟨rfl, hb1⟩
  have s0 := t0.below hb1 t0.lt
  have s1 := t1.below hb1 t1.lt
  obtain ⟨c1, c2, c3, c4⟩ := s0.facts
  obtain ⟨d1, d2, d3, d4⟩ := s1.facts
  have u0 := pt_keep2 (C := w.heap.size + 1) (two_set2 s0 (.int .i64 0) (.int .i64 0)) (.int .i64 0) (.int .i64 0) (by omega)
  have u1 := two_set2 (pt_keep2 (C := w.heap.size) s1 (.int .i64 0) (.int .i64 0) (by omega)) (.int .i64 0) (.int .i64 0)
  have hb3 := set2_below (set2_below (hb0.trans (hb1.mono hb0.size)) (Nat.le_refl _) (.int .i64 0) (.int .i64 0)) (Nat.le_succ _) (.int .i64 0) (.int .i64 0)
  go_wp2_with fail
  obtain ⟨p1, p2, -, -⟩ := u0.facts
  obtain ⟨q1, q2, -, -⟩ := u1.facts
  refine bodyPost_ret (v := .tuple #[.agg #[.int .i64 0, .int .i64 0], .agg #[.int .i64 0, .int .i64 0], .int .i64 1]) ?_ rfl ⟨rfl, hb3⟩
  simp [results, Try.results21, go_sem, p1, p2, q1, q2]
set_option maxRecDepth 100000 in
set_option maxHeartbeats 8000000 in
theorem Box_yes (v : Value) (r : List Pt) (w : World) (hv : PtSl w v r) (h : validB r = true) (x0 y0 : Int) (e0 : nth r 0 = (x0, y0)) :
    Calls Try.prog 21 #[v] w fun e w' => e = .returned (.tuple #[.agg #[.int .i64 (mnT (·.1) r x0 r.length), .int .i64 (mnT (·.2) r y0 r.length)], .agg #[.int .i64 (mxT (·.1) r x0 r.length), .int .i64 (mxT (·.2) r y0 r.length)], .int .i64 0]) ∧ Below w.heap.size w w' := by
  have HV := Lib.hid (fun (w1 : World) (h : Below w.heap.size w w1) => Valid_any v r w1 (hv.below h))
  rw [h] at HV
  have hl := valid_len h
  obtain ⟨b, off, cap, rfl, hbw, hcells⟩ := hv.ring (by omega)
  have HC := Lib.hid (fun (w' : World) (hw : Below w.heap.size w w') i (hi : i < r.length) => (hcells i hi).below hw hbw)
  have t0 := (Two.new w 23 (.int .i64 0) (.int .i64 0)).alloc (.cells #[.int .i64 0, .int .i64 0] 23)
  have t1 := Two.at (w := w.alloc (.cells #[.int .i64 0, .int .i64 0] 23)) (B := w.heap.size + 1) (by simp) 23 (.int .i64 0) (.int .i64 0)
  have hb0 := ((Below.refl w.heap.size w).alloc (Nat.le_refl _) (.cells #[.int .i64 0, .int .i64 0] 23)).alloc (by simp) (.cells #[.int .i64 0, .int .i64 0] 23)
  obtain ⟨l1, l2⟩ := hl
  rw [nth_lt (show 0 < r.length by omega)] at e0
  clear hv h hcells
  go_enter Try.func21, Try.ntmps21
  go_wp2_with fail
  refine (HV.out _ hb0).mono ?_
  rintro e w1 ⟨rfl, hb1⟩
  have s0 := t0.below hb1 t0.lt
  have s1 := t1.below hb1 t1.lt
  clear t0 t1
  have hb2 := hb0.trans (hb1.mono hb0.size)
  have hz := hb2.size
  have hw2 := s1.lt
  obtain ⟨c1, c2⟩ := HC.out w1 hb2 0 (by omega)
  rw [Nat.zero_mul, Nat.add_zero] at c1 c2
  have g1 : (0 : Int) < (r.length : Int) := by omega
  rw [e0] at c1 c2
  dsimp only at c1 c2
  clear e0 hb0 hb1
  have hrn : ¬ r = [] := fun e => by rw [e] at l1; simp at l1
  go_upto_region 3 with fail
  have hS : ∀ w' : World, Below w1.heap.size w1 w' → (w'.cell? ⟨b, off, none⟩ = some (.int .i64 x0) ∧ w'.cell? ⟨b, off + 1, none⟩ = some (.int .i64 y0)) := fun w' hb => ⟨(hb.cell (p := ⟨b, off, none⟩) (show b < w1.heap.size by omega)).trans c1, (hb.cell (p := ⟨b, off + 1, none⟩) (show b < w1.heap.size by omega)).trans c2⟩
  have hr := Below.refl w1.heap.size w1
  go_cut [5, 6] (fun p q wx => ∃ Bp Bq : Nat, p = .pointer (some ⟨Bp, 0, none⟩) ∧ q = .pointer (some ⟨Bq, 0, none⟩) ∧ (w1.heap.size ≤ Bp ∧ w1.heap.size ≤ Bq ∧ Bp ≠ Bq) ∧ Two wx Bp 23 (.int .i64 x0) (.int .i64 y0) ∧ Two wx Bq 23 (.int .i64 x0) (.int .i64 y0) ∧ Below w1.heap.size w1 wx)
  case first =>
    have hbz := fun (o1 o2 : Obj) => ((hr.alloc (Nat.le_refl _) o1).alloc (by simp) o2).drew
    have vA : Two ((w1.alloc (.cells #[.int .i64 x0, .int .i64 y0] 23)).alloc (.cells #[.int .i64 x0, .int .i64 y0] 23)).drew w1.heap.size 23 (.int .i64 x0) (.int .i64 y0) := (Two.new w1 23 (.int .i64 x0) (.int .i64 y0)).alloc (.cells #[.int .i64 x0, .int .i64 y0] 23)
    have vB : Two ((w1.alloc (.cells #[.int .i64 x0, .int .i64 y0] 23)).alloc (.cells #[.int .i64 x0, .int .i64 y0] 23)).drew (w1.heap.size + 1) 23 (.int .i64 x0) (.int .i64 y0) := Two.at (w := w1.alloc (.cells #[.int .i64 x0, .int .i64 y0] 23)) (B := w1.heap.size + 1) (by simp) 23 (.int .i64 x0) (.int .i64 y0)
    have hS0 := hS _ hr.drew
    refine wp_region_held_drew (S := fun w' => w'.cell? ⟨b, off, none⟩ = some (.int .i64 x0) ∧ w'.cell? ⟨b, off + 1, none⟩ = some (.int .i64 y0)) (by kernel_rfl) hS0 (fun _ => ?_)
    refine Ri.take_d (i := 0) (v := .slice (some ⟨b, off, none⟩) r.length cap) (some 14) rfl rfl (by kernel_rfl) (by kernel_rfl) (by kernel_rfl) (fun _ _ _ h => h) (Or.inl ⟨by kernel_rfl, ?_⟩) hS0 ?_
    · intro w' hSw; obtain ⟨z0, z1⟩ := hSw; go_simp; (try exact fun h => absurd h hrn)
    simp only [Act.put, List.setIfInBounds_toArray, List.set_cons_zero, List.set_cons_succ]
    refine Ri.take_d (i := 1) (v := .pointer (some ⟨b, off, none⟩)) (some 15) rfl rfl (by kernel_rfl) (by kernel_rfl) (by kernel_rfl) (fun _ _ _ h => h) (Or.inl ⟨by kernel_rfl, ?_⟩) hS0 ?_
    · intro w' hSw; obtain ⟨z0, z1⟩ := hSw; go_simp; (try exact fun h => absurd h hrn)
    simp only [Act.put, List.setIfInBounds_toArray, List.set_cons_zero, List.set_cons_succ]
    refine Ri.take_d (i := 2) (v := .agg #[.int .i64 x0, .int .i64 y0]) (some 16) rfl rfl (by kernel_rfl) (by kernel_rfl) (by kernel_rfl) (fun _ _ _ h => h) (Or.inl ⟨by kernel_rfl, ?_⟩) hS0 ?_
    · intro w' hSw; obtain ⟨z0, z1⟩ := hSw; go_simp; (try exact fun h => absurd h hrn)
    simp only [Act.put, List.setIfInBounds_toArray, List.set_cons_zero, List.set_cons_succ]
    refine Ri.take_d (i := 3) (v := .slice (some ⟨b, off, none⟩) r.length cap) (some 17) rfl rfl (by kernel_rfl) (by kernel_rfl) (by kernel_rfl) (fun _ _ _ h => h) (Or.inl ⟨by kernel_rfl, ?_⟩) hS0 ?_
    · intro w' hSw; obtain ⟨z0, z1⟩ := hSw; go_simp; (try exact fun h => absurd h hrn)
    simp only [Act.put, List.setIfInBounds_toArray, List.set_cons_zero, List.set_cons_succ]
    refine Ri.take_d (i := 4) (v := .pointer (some ⟨b, off, none⟩)) (some 18) rfl rfl (by kernel_rfl) (by kernel_rfl) (by kernel_rfl) (fun _ _ _ h => h) (Or.inl ⟨by kernel_rfl, ?_⟩) hS0 ?_
    · intro w' hSw; obtain ⟨z0, z1⟩ := hSw; go_simp; (try exact fun h => absurd h hrn)
    simp only [Act.put, List.setIfInBounds_toArray, List.set_cons_zero, List.set_cons_succ]
    refine Ri.take_d (i := 5) (v := .agg #[.int .i64 x0, .int .i64 y0]) (some 19) rfl rfl (by kernel_rfl) (by kernel_rfl) (by kernel_rfl) (fun _ _ _ h => h) (Or.inl ⟨by kernel_rfl, ?_⟩) hS0 ?_
    · intro w' hSw; obtain ⟨z0, z1⟩ := hSw; go_simp; (try exact fun h => absurd h hrn)
    simp only [Act.put, List.setIfInBounds_toArray, List.set_cons_zero, List.set_cons_succ]
    refine wpAnyH_ready (rs := [6, 7]) (by kernel_rfl) (by simp) ?_
    refine AllReadyH.cons rfl (fun K hK => ?c1) (AllReadyH.cons rfl (fun K hK => ?c2) AllReadyH.nil)
    case' c1 =>
      go_simp
      refine hK.out _ _ (hS _ ((hr.alloc (Nat.le_refl _) _).drew)) (fun _ => ?_)
      clear hK K
      try simp only [Act.put, List.setIfInBounds_toArray, List.set_cons_zero, List.set_cons_succ]
      refine wpAnyH_ready (rs := [7]) (by kernel_rfl) (by simp) ?_
      refine AllReadyH.cons rfl (fun K hK => ?_) AllReadyH.nil
      go_simp
      refine hK.out _ _ (hS _ (hbz _ _)) (fun _ => ?_)
      clear hK K
      try simp only [Act.put, List.setIfInBounds_toArray, List.set_cons_zero, List.set_cons_succ]
      refine wpAnyH_ready (rs := [8]) (by kernel_rfl) (by simp) ?_
      refine AllReadyH.cons rfl (fun K hK => ?_) AllReadyH.nil
      go_simp
      refine hK.out _ _ (hS _ (hbz _ _)) (fun _ => ?_)
      clear hK K
      try simp only [Act.put, List.setIfInBounds_toArray, List.set_cons_zero, List.set_cons_succ]
      refine wpAnyH_ready (rs := [9]) (by kernel_rfl) (by simp) ?_
      refine AllReadyH.cons rfl (fun K hK => ?_) AllReadyH.nil
      go_simp
      refine hK.out _ _ (hS _ (hbz _ _)) (fun _ => ?_)
      clear hK K
      try simp only [Act.put, List.setIfInBounds_toArray, List.set_cons_zero, List.set_cons_succ]
      refine wpAnyH_done (by kernel_rfl) ?_ _
      go_wp2_with fail
      go_meet
      exact ⟨w1.heap.size, w1.heap.size + 1, rfl, rfl, ⟨by omega, by omega, by omega⟩, vA, vB, hbz _ _⟩
    case' c2 =>
      go_simp
      refine hK.out _ _ (hS _ ((hr.alloc (Nat.le_refl _) _).drew)) (fun _ => ?_)
      clear hK K
      try simp only [Act.put, List.setIfInBounds_toArray, List.set_cons_zero, List.set_cons_succ]
      refine wpAnyH_ready (rs := [6]) (by kernel_rfl) (by simp) ?_
      refine AllReadyH.cons rfl (fun K hK => ?_) AllReadyH.nil
      go_simp
      refine hK.out _ _ (hS _ (hbz _ _)) (fun _ => ?_)
      clear hK K
      try simp only [Act.put, List.setIfInBounds_toArray, List.set_cons_zero, List.set_cons_succ]
      refine wpAnyH_ready (rs := [8]) (by kernel_rfl) (by simp) ?_
      refine AllReadyH.cons rfl (fun K hK => ?_) AllReadyH.nil
      go_simp
      refine hK.out _ _ (hS _ (hbz _ _)) (fun _ => ?_)
      clear hK K
      try simp only [Act.put, List.setIfInBounds_toArray, List.set_cons_zero, List.set_cons_succ]
      refine wpAnyH_ready (rs := [9]) (by kernel_rfl) (by simp) ?_
      refine AllReadyH.cons rfl (fun K hK => ?_) AllReadyH.nil
      go_simp
      refine hK.out _ _ (hS _ (hbz _ _)) (fun _ => ?_)
      clear hK K
      try simp only [Act.put, List.setIfInBounds_toArray, List.set_cons_zero, List.set_cons_succ]
      refine wpAnyH_done (by kernel_rfl) ?_ _
      go_wp2_with fail
      go_meet
      exact ⟨w1.heap.size + 1, w1.heap.size, rfl, rfl, ⟨by omega, by omega, by omega⟩, vB, vA, hbz _ _⟩
  case rest =>
    obtain ⟨Bp, Bq, rfl, rfl, ⟨n1, n2, n3⟩, tp, tq, hbx⟩ := hcut
    clear hS hr c1 c2
    go_upto_region 5 with fail
    go_loopw [22] (fun i wr => ∃ k : Nat, i = .int .i64 (k : Int) ∧ k ≤ r.length ∧ Two wr Bp 23 (.int .i64 (mnT (·.1) r x0 k)) (.int .i64 (mnT (·.2) r y0 k)) ∧ Two wr Bq 23 (.int .i64 (mxT (·.1) r x0 k)) (.int .i64 (mxT (·.2) r y0 k)) ∧ Below w1.heap.size w1 wr) (fun i _ => r.length - (intOf i).toNat)
    case atStart => exact ⟨0, rfl, Nat.zero_le _, tp, tq, hbx⟩
    case round =>
      obtain ⟨k, rfl, hk, hp, hq, hbel⟩ := hrel
      by_cases hlt : k < r.length
      · have hzr := hbel.size
        obtain ⟨c1, c2⟩ := HC.out wr (hb2.trans (hbel.mono hz)) k hlt
        have i1 := mnT_succ (·.1) r x0 k hlt
        have i2 := mnT_succ (·.2) r y0 k hlt
        have i3 := mxT_succ (·.1) r x0 k hlt
        have i4 := mxT_succ (·.2) r y0 k hlt
        generalize r[k] = P at *
        obtain ⟨px, py⟩ := P
        dsimp only at c1 c2 i1 i2 i3 i4
        have HI := Lib.hid (And.intro i1 (And.intro i2 (And.intro i3 i4)))
        clear i1 i2 i3 i4
        obtain ⟨lx, hlx⟩ : ∃ q, mnT (·.1) r x0 k = q := ⟨_, rfl⟩
        obtain ⟨ly, hly⟩ : ∃ q, mnT (·.2) r y0 k = q := ⟨_, rfl⟩
        obtain ⟨ux, hux⟩ : ∃ q, mxT (·.1) r x0 k = q := ⟨_, rfl⟩
        obtain ⟨uy, huy⟩ : ∃ q, mxT (·.2) r y0 k = q := ⟨_, rfl⟩
        rw [hlx, hly] at hp
        rw [hux, huy] at hq
        rw [hlx, hly, hux, huy] at HI
        clear hlx hly hux huy
        have hp1 := hp.alloc (.cells #[.int .i64 px, .int .i64 py] 23)
        have hq1 := hq.alloc (.cells #[.int .i64 px, .int .i64 py] 23)
        have tE := Two.new wr 23 (.int .i64 px) (.int .i64 py)
        have hbA := hbel.alloc hzr (.cells #[.int .i64 px, .int .i64 py] 23)
        have hpl := hp.lt
        have hql := hq.lt
        go_upto_region 7 with fail
        generalize hA : wr.alloc (.cells #[.int .i64 px, .int .i64 py] 23) = A at *
        clear c1 c2 hA
        obtain ⟨f1, f2, f3, f4⟩ := hp1.facts
        obtain ⟨g1, g2, -, -⟩ := tE.facts
        go_upto_region 8 with fail
        have hp2 := two_set2 hp1 (.int .i64 (min lx px)) (.int .i64 (min ly py))
        have hq2 := pt_keep2 (C := Bp) hq1 (.int .i64 (min lx px)) (.int .i64 (min ly py)) (fun e => n3 e.symm)
        have tE2 := pt_keep2 (C := Bp) tE (.int .i64 (min lx px)) (.int .i64 (min ly py)) (by omega)
        have hbB := set2_below hbA n1 (.int .i64 (min lx px)) (.int .i64 (min ly py))
        clear f1 f2 f3 f4 g1 g2 hp1 hq1 tE hbA
        generalize (A.setCell ⟨Bp, 0, none⟩ (.int .i64 (min lx px))).setCell ⟨Bp, 1, none⟩ (.int .i64 (min ly py)) = A2 at *
        obtain ⟨f1, f2, f3, f4⟩ := hq2.facts
        obtain ⟨g1, g2, -, -⟩ := tE2.facts
        have hq3 := two_set2 hq2 (.int .i64 (max ux px)) (.int .i64 (max uy py))
        have hp3 := pt_keep2 (C := Bq) hp2 (.int .i64 (max ux px)) (.int .i64 (max uy py)) n3
        have hbC := set2_below hbB n2 (.int .i64 (max ux px)) (.int .i64 (max uy py))
        go_wp2_with fail
        go_roundw
        case rel => exact ⟨k + 1, by go_num, by omega, by rw [HI.out.1, HI.out.2.1]; exact hp3, by rw [HI.out.2.2.1, HI.out.2.2.2]; exact hq3, hbC⟩
        case measure => simp [intOf]; omega
      · obtain rfl : k = r.length := by omega
        have v0 := s0.below hbel s0.lt
        have v1 := s1.below hbel s1.lt
        have hbw := hb2.trans (hbel.mono hz)
        obtain ⟨lx, hlx⟩ : ∃ q, mnT (·.1) r x0 r.length = q := ⟨_, rfl⟩
        obtain ⟨ly, hly⟩ : ∃ q, mnT (·.2) r y0 r.length = q := ⟨_, rfl⟩
        obtain ⟨ux, hux⟩ : ∃ q, mxT (·.1) r x0 r.length = q := ⟨_, rfl⟩
        obtain ⟨uy, huy⟩ : ∃ q, mxT (·.2) r y0 r.length = q := ⟨_, rfl⟩
        have hpd : Two wr Bp 23 (.int .i64 lx) (.int .i64 ly) := by rw [← hlx, ← hly]; exact hp
        have hqd : Two wr Bq 23 (.int .i64 ux) (.int .i64 uy) := by rw [← hux, ← huy]; exact hq
        clear hp hq
        have HF := Lib.hid (And.intro hlx (And.intro hly (And.intro hux huy)))
        clear hlx hly hux huy
        have v0d : Two wr w.heap.size 23 (.int .i64 0) (.int .i64 0) := v0
        have v1d : Two wr (w.heap.size + 1) 23 (.int .i64 0) (.int .i64 0) := v1
        have e0 := two_set2 v0d (.int .i64 lx) (.int .i64 ly)
        have e1 := pt_keep2 (C := w.heap.size) v1d (.int .i64 lx) (.int .i64 ly) (by omega)
        have ep := pt_keep2 (C := w.heap.size) hpd (.int .i64 lx) (.int .i64 ly) (by omega)
        have eq := pt_keep2 (C := w.heap.size) hqd (.int .i64 lx) (.int .i64 ly) (by omega)
        have g0 := pt_keep2 (C := w.heap.size + 1) e0 (.int .i64 ux) (.int .i64 uy) (by omega)
        have g1' := two_set2 e1 (.int .i64 ux) (.int .i64 uy)
        have gp := pt_keep2 (C := w.heap.size + 1) ep (.int .i64 ux) (.int .i64 uy) (by omega)
        have gq := pt_keep2 (C := w.heap.size + 1) eq (.int .i64 ux) (.int .i64 uy) (by omega)
        have hb3 := (set2_below (set2_below hbw (Nat.le_refl _) (.int .i64 lx) (.int .i64 ly)) (Nat.le_succ _) (.int .i64 ux) (.int .i64 uy)).drew
        go_upto_region 10 with fail
        have hS0 : ∀ {W : World}, Two W Bp 23 (.int .i64 lx) (.int .i64 ly) → Two W Bq 23 (.int .i64 ux) (.int .i64 uy) → ((W.cell? ⟨Bp, 0, none⟩ = some (.int .i64 lx) ∧ W.cell? ⟨Bp, 1, none⟩ = some (.int .i64 ly)) ∧ W.cell? ⟨Bq, 0, none⟩ = some (.int .i64 ux) ∧ W.cell? ⟨Bq, 1, none⟩ = some (.int .i64 uy)) := fun h k => ⟨⟨h.facts.1, h.facts.2.1⟩, k.facts.1, k.facts.2.1⟩
        refine wp_region_held_drew (S := fun w' => (w'.cell? ⟨Bp, 0, none⟩ = some (.int .i64 lx) ∧ w'.cell? ⟨Bp, 1, none⟩ = some (.int .i64 ly)) ∧ w'.cell? ⟨Bq, 0, none⟩ = some (.int .i64 ux) ∧ w'.cell? ⟨Bq, 1, none⟩ = some (.int .i64 uy)) (by kernel_rfl) (hS0 hpd hqd) (fun _ => ?_)
        refine Ri.take_d (i := 0) (v := .agg #[.int .i64 lx, .int .i64 ly]) (some 49) rfl rfl (by kernel_rfl) (by kernel_rfl) (by kernel_rfl) (fun _ _ _ h => h) (Or.inl ⟨by kernel_rfl, ?_⟩) (hS0 hpd hqd) ?_
        · intro w' hSw; obtain ⟨⟨z0, z1⟩, z2, z3⟩ := hSw; go_simp
        simp only [Act.put, List.setIfInBounds_toArray, List.set_cons_zero, List.set_cons_succ]
        refine Ri.take_d (i := 1) (v := .agg #[.int .i64 ux, .int .i64 uy]) (some 50) rfl rfl (by kernel_rfl) (by kernel_rfl) (by kernel_rfl) (fun _ _ _ h => h) (Or.inl ⟨by kernel_rfl, ?_⟩) (hS0 hpd hqd) ?_
        · intro w' hSw; obtain ⟨⟨z0, z1⟩, z2, z3⟩ := hSw; go_simp
        simp only [Act.put, List.setIfInBounds_toArray, List.set_cons_zero, List.set_cons_succ]
        obtain ⟨k1, k2, k3, k4⟩ := v0d.facts
        refine wpAnyH_ready (rs := [2]) (by kernel_rfl) (by simp) ?_
        refine AllReadyH.cons rfl (fun K hK => ?_) AllReadyH.nil
        go_simp
        refine hK.out _ _ (hS0 ep eq) (fun _ => ?_)
        clear hK K k1 k2 k3 k4
        try simp only [Act.put, List.setIfInBounds_toArray, List.set_cons_zero, List.set_cons_succ]
        obtain ⟨k1, k2, k3, k4⟩ := e1.facts
        refine wpAnyH_ready (rs := [3]) (by kernel_rfl) (by simp) ?_
        refine AllReadyH.cons rfl (fun K hK => ?_) AllReadyH.nil
        go_simp
        refine hK.out _ _ (hS0 gp gq) (fun _ => ?_)
        clear hK K k1 k2 k3 k4
        try simp only [Act.put, List.setIfInBounds_toArray, List.set_cons_zero, List.set_cons_succ]
        refine wpAnyH_ready (rs := [4]) (by kernel_rfl) (by simp) ?_
        refine AllReadyH.cons rfl (fun K hK => ?_) AllReadyH.nil
        go_simp
        refine hK.out _ _ (hS0 gp gq) (fun _ => ?_)
        clear hK K
        try simp only [Act.put, List.setIfInBounds_toArray, List.set_cons_zero, List.set_cons_succ]
        refine wpAnyH_done (by kernel_rfl) ?_ _
        obtain ⟨p1, p2, -, -⟩ := g0.facts
        obtain ⟨q1, q2, -, -⟩ := g1'.facts
        go_wp2_with fail
        refine bodyPost_ret (v := .tuple #[.agg #[.int .i64 lx, .int .i64 ly], .agg #[.int .i64 ux, .int .i64 uy], .int .i64 0]) ?_ rfl ⟨by rw [HF.out.1, HF.out.2.1, HF.out.2.2.1, HF.out.2.2.2], hb3⟩
        simp [results, Try.results21, go_sem, p1, p2, q1, q2]
theorem Box_any (v : Value) (r : List Pt) (w : World) (hv : PtSl w v r) :
    Calls Try.prog 21 #[v] w fun e w' => e = .returned (.tuple #[.agg #[.int .i64 (lowP r).1, .int .i64 (lowP r).2], .agg #[.int .i64 (highP r).1, .int .i64 (highP r).2], .int .i64 (errB r)]) ∧ Below w.heap.size w w' := by
  unfold lowP highP errB
  cases hb : validB r with
  | false => simpa using Box_no v r w hv hb
  | true =>
    have h := Box_yes v r w hv hb (nth r 0).1 (nth r 0).2 rfl
    rw [mnT_all, mnT_all, mxT_all, mxT_all] at h
    simpa using h
end Go.Proofs.Ytohkmkkcblbemaa.Ge
