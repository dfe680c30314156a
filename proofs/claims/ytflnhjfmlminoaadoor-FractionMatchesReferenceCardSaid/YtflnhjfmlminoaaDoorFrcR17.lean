/- Walks over layer 5's reference: Compare. Written by wip/tools/frcmp.py. -/
import Derived.Test.YtflnhjfmlminoaaDoorFrcR16
namespace Go.Proofs.YtflnhjfmlminoaaDoor.Fr
set_option linter.unusedVariables false
set_option linter.unusedSimpArgs false
open Go.RowKit

set_option maxRecDepth 100000 in
set_option maxHeartbeats 4000000 in
theorem rcompare_ok (n d m e : Int) (hf : valP n d) (hg : valP m e) (w : World) :
    Calls Tryd.prog 19 #[.agg #[.int .i64 n, .int .i64 d], .agg #[.int .i64 m, .int .i64 e]] w fun r w' => r = .returned (.tuple #[.int .i64 (cmpV n d m e), .int .i64 (cmpE n d m e)]) ∧ Below w.heap.size w w' := by
  have V1 := Lib.hid (fun w => rvalid_any n d w)
  have V2 := Lib.hid (fun w => rvalid_any m e w)
  rw [valB_iff.2 hf] at V1
  rw [valB_iff.2 hg] at V2
  have hE : cmpE n d m e = 0 := by unfold cmpE; rw [if_pos ⟨hf, hg⟩]
  rw [hE, cmp_sgn hf hg]
  clear hE
  obtain ⟨f1, f2, f3, f4, -⟩ := hf
  obtain ⟨g1, g2, g3, g4, -⟩ := hg
  have small : ∀ z : Int, -4611686018427387904 ≤ z → z ≤ 4611686018427387904 → z.natAbs < 2 ^ 63 := fun z a b => by omega
  have l1 := small n f1 f2
  have l2 := small m g1 g2
  have l3 := small d (by omega) f4
  have l4 := small e (by omega) g4
  have lp : ∀ a b : Nat, a < 2 ^ 63 → b < 2 ^ 63 → (bin (a * b)).length ≤ 100000 := fun a b ha hb => by
    have h : a * b < 2 ^ 126 := by
      have h1 : a * b ≤ a * 2 ^ 63 := Nat.mul_le_mul_left a (Nat.le_of_lt hb)
      have h2 : a * 2 ^ 63 < 2 ^ 63 * 2 ^ 63 := (Nat.mul_lt_mul_right (by decide)).2 ha
      have h3 : (2 : Nat) ^ 63 * 2 ^ 63 = 2 ^ 126 := by decide
      omega
    exact Nat.le_trans (bin_length_le h) (by omega)
  have ls : ∀ a : Nat, a < 2 ^ 63 → (bin a).length ≤ 1000 := fun a ha => Nat.le_trans (bin_length_le (k := 63) ha) (by omega)
  have D1 := Lib.hid (fun w => digits_any n (by omega) (by omega) w)
  have D2 := Lib.hid (fun w => digits_any m (by omega) (by omega) w)
  have D3 := Lib.hid (fun w => digits_any d (by omega) (by omega) w)
  have D4 := Lib.hid (fun w => digits_any e (by omega) (by omega) w)
  have T1 := Lib.hid (fun v u w hv hu => times_any v u n.natAbs e.natAbs (ls _ l1) (ls _ l4) w hv hu)
  have T2 := Lib.hid (fun v u w hv hu => times_any v u m.natAbs d.natAbs (ls _ l2) (ls _ l3) w hv hu)
  have L1 := Lib.hid (fun v u w hv hu => less_any v u (n.natAbs * e.natAbs) (m.natAbs * d.natAbs) (lp _ _ l1 l4) (lp _ _ l2 l3) w hv hu)
  have L2 := Lib.hid (fun v u w hv hu => less_any v u (m.natAbs * d.natAbs) (n.natAbs * e.natAbs) (lp _ _ l2 l3) (lp _ _ l1 l4) w hv hu)
  clear f1 f2 f3 f4 g1 g2 g3 g4 small l1 l2 l3 l4 lp ls
  obtain ⟨b1, k1⟩ : ∃ b, decide (n < 0) = b := ⟨_, rfl⟩
  obtain ⟨b2, k2⟩ : ∃ b, decide (m < 0) = b := ⟨_, rfl⟩
  rw [k1, k2]
  unfold ordS
  generalize n.natAbs * e.natAbs = P at *
  generalize m.natAbs * d.natAbs = Q at *
  generalize decide (P < Q) = PQ at *
  generalize decide (Q < P) = QP at *
  have p0 : Two ((w.alloc (.cells #[.int .i64 n, .int .i64 d] 23)).alloc (.cells #[.int .i64 m, .int .i64 e] 23)) w.heap.size 23 (.int .i64 n) (.int .i64 d) := (Two.new _ _ _ _).alloc _
  have q0 : Two ((w.alloc (.cells #[.int .i64 n, .int .i64 d] 23)).alloc (.cells #[.int .i64 m, .int .i64 e] 23)) (w.heap.size + 1) 23 (.int .i64 m) (.int .i64 e) := Two.at (by simp) _ _ _
  have hB : Below w.heap.size w ((w.alloc (.cells #[.int .i64 n, .int .i64 d] 23)).alloc (.cells #[.int .i64 m, .int .i64 e] 23)) := ((Below.refl _ _).alloc (Nat.le_refl _) _).alloc (by simp) _
  cases b1 <;> cases b2
  · simp only [bne_self_eq_false, if_true, if_false, Bool.false_eq_true]
    go_enter Tryd.func19, Tryd.ntmps19
    go_wp2_with fail
    refine (V1.out _).mono ?_
    rintro r y1 ⟨rfl, hx⟩
    have p1 := p0.below hx p0.lt
    have q1 := q0.below hx q0.lt
    have hb1 := hB.trans (hx.mono hB.size)
    clear p0 q0 hB hx
    obtain ⟨a1, a2, -, -⟩ := p1.facts
    obtain ⟨a3, a4, -, -⟩ := q1.facts
    go_wp2_with fail
    refine (V2.out _).mono ?_
    rintro r y2 ⟨rfl, hx⟩
    have p2 := p1.below hx p1.lt
    have q2 := q1.below hx q1.lt
    have hb2 := hb1.trans (hx.mono hb1.size)
    clear a1 a2 a3 a4 p1 q1 hb1 hx
    have hcells : ∀ w' : World, Below y2.heap.size y2 w' → (fun w' => w'.cell? ⟨w.heap.size, 0, none⟩ = some (.int .i64 n) ∧ w'.cell? ⟨w.heap.size, 1, none⟩ = some (.int .i64 d) ∧ w'.cell? ⟨w.heap.size + 1, 0, none⟩ = some (.int .i64 m) ∧ w'.cell? ⟨w.heap.size + 1, 1, none⟩ = some (.int .i64 e)) w' := fun w' hb => by
      obtain ⟨a1, a2, -, -⟩ := (p2.below hb p2.lt).facts
      obtain ⟨a3, a4, -, -⟩ := (q2.below hb q2.lt).facts
      exact ⟨a1, a2, a3, a4⟩
    have hqy2 := Below.refl y2.heap.size y2
    have hry2 := Below.refl y2.heap.size y2
    obtain ⟨a1, a2, a3, a4⟩ := hcells y2 hqy2
    go_wp2_with fail
    go_region_held3 (fun w' => w'.cell? ⟨w.heap.size, 0, none⟩ = some (.int .i64 n) ∧ w'.cell? ⟨w.heap.size, 1, none⟩ = some (.int .i64 d) ∧ w'.cell? ⟨w.heap.size + 1, 0, none⟩ = some (.int .i64 m) ∧ w'.cell? ⟨w.heap.size + 1, 1, none⟩ = some (.int .i64 e))
        (first | exact hcells _ (hqy2.trans hry2.drew) | exact hcells _ (hqy2.trans (by assumption)))
        (first
          | (go_at_call 36; have hz := hs2; refine (T1.out _ _ _ (his1.below hs2') his2).mono ?_; rintro r s3 ⟨us3, rfl, his3, hs3', _⟩; have hs3 : Below y2.heap.size y2 s3 := hs2.trans (hs3'.mono hs2.size))
          | (go_at_call 32; have hz := hs1; refine (D4.out _).mono ?_; rintro r s2 ⟨us2, rfl, his2, hs2', _⟩; have hs2 : Below y2.heap.size y2 s2 := hs1.trans (hs2'.mono hs1.size))
          | (go_at_call 32; refine (D1.out _).mono ?_; rintro r s1 ⟨us1, rfl, his1, hs1', _⟩; have hs1 : Below y2.heap.size y2 s1 := hry2.drew.trans hs1'))
    all_goals
      have hqs3 : Below y2.heap.size y2 s3 := hs3
      have hrs3 := Below.refl s3.heap.size s3
      obtain ⟨c1, c2, c3, c4⟩ := hcells s3 hqs3
      go_wp2_with fail
      go_region_held3 (fun w' => w'.cell? ⟨w.heap.size, 0, none⟩ = some (.int .i64 n) ∧ w'.cell? ⟨w.heap.size, 1, none⟩ = some (.int .i64 d) ∧ w'.cell? ⟨w.heap.size + 1, 0, none⟩ = some (.int .i64 m) ∧ w'.cell? ⟨w.heap.size + 1, 1, none⟩ = some (.int .i64 e))
        (first | exact hcells _ (hqs3.trans (hrs3.drew.mono hqs3.size)) | exact hcells _ (hqs3.trans (Below.mono (by assumption) hqs3.size)))
        (first
          | (go_at_call 36; have hz := ht2; refine (T2.out _ _ _ (hit1.below ht2') hit2).mono ?_; rintro r t3 ⟨ut3, rfl, hit3, ht3', _⟩; have ht3 : Below s3.heap.size s3 t3 := ht2.trans (ht3'.mono ht2.size))
          | (go_at_call 32; have hz := ht1; refine (D3.out _).mono ?_; rintro r t2 ⟨ut2, rfl, hit2, ht2', _⟩; have ht2 : Below s3.heap.size s3 t2 := ht1.trans (ht2'.mono ht1.size))
          | (go_at_call 32; refine (D2.out _).mono ?_; rintro r t1 ⟨ut1, rfl, hit1, ht1', _⟩; have ht1 : Below s3.heap.size s3 t1 := hrs3.drew.trans ht1'))
      all_goals
        have hA := Lib.hid (his3.below ht3)
        have hC := Lib.hid hit3
        have hqt3 := hqs3.trans (ht3.mono hqs3.size)
        obtain ⟨e1, e2, e3, e4⟩ := hcells t3 hqt3
        go_wp2_with fail
        refine (L1.out _ _ _ hA.out hC.out).mono ?_
        rintro r z1 ⟨rfl, hz1⟩
        have hb4 := hqt3.trans (hz1.mono hqt3.size)
        cases PQ with
        | true =>
          go_wp2_with fail
          go_ret2
          exact ⟨rfl, hb2.trans (hb4.mono hb2.size)⟩
        | false =>
          go_wp2_with fail
          refine (L2.out _ _ _ (hC.out.below hz1) (hA.out.below hz1)).mono ?_
          rintro r z2 ⟨rfl, hz2⟩
          have hb5 := hb2.trans ((hb4.trans (hz2.mono hb4.size)).mono hb2.size)
          cases QP with
          | true =>
            go_wp2_with fail
            go_ret2
            exact ⟨rfl, hb5⟩
          | false =>
            go_wp2_with fail
            go_ret2
            exact ⟨rfl, hb5⟩
  · simp only [Bool.true_bne, Bool.false_bne, Bool.not_true, Bool.not_false, if_true, if_false, Bool.false_eq_true]
    go_enter Tryd.func19, Tryd.ntmps19
    go_wp2_with fail
    refine (V1.out _).mono ?_
    rintro r y1 ⟨rfl, hx⟩
    have p1 := p0.below hx p0.lt
    have q1 := q0.below hx q0.lt
    have hb1 := hB.trans (hx.mono hB.size)
    clear p0 q0 hB hx
    obtain ⟨a1, a2, -, -⟩ := p1.facts
    obtain ⟨a3, a4, -, -⟩ := q1.facts
    go_wp2_with fail
    refine (V2.out _).mono ?_
    rintro r y2 ⟨rfl, hx⟩
    have p2 := p1.below hx p1.lt
    have q2 := q1.below hx q1.lt
    have hb2 := hb1.trans (hx.mono hb1.size)
    clear a1 a2 a3 a4 p1 q1 hb1 hx
    have hcells : ∀ w' : World, Below y2.heap.size y2 w' → (fun w' => w'.cell? ⟨w.heap.size, 0, none⟩ = some (.int .i64 n) ∧ w'.cell? ⟨w.heap.size, 1, none⟩ = some (.int .i64 d) ∧ w'.cell? ⟨w.heap.size + 1, 0, none⟩ = some (.int .i64 m) ∧ w'.cell? ⟨w.heap.size + 1, 1, none⟩ = some (.int .i64 e)) w' := fun w' hb => by
      obtain ⟨a1, a2, -, -⟩ := (p2.below hb p2.lt).facts
      obtain ⟨a3, a4, -, -⟩ := (q2.below hb q2.lt).facts
      exact ⟨a1, a2, a3, a4⟩
    have hqy2 := Below.refl y2.heap.size y2
    have hry2 := Below.refl y2.heap.size y2
    obtain ⟨a1, a2, a3, a4⟩ := hcells y2 hqy2
    go_wp2_with fail
    go_ret2
    exact ⟨rfl, hb2⟩
  · simp only [Bool.true_bne, Bool.false_bne, Bool.not_true, Bool.not_false, if_true, if_false, Bool.false_eq_true]
    go_enter Tryd.func19, Tryd.ntmps19
    go_wp2_with fail
    refine (V1.out _).mono ?_
    rintro r y1 ⟨rfl, hx⟩
    have p1 := p0.below hx p0.lt
    have q1 := q0.below hx q0.lt
    have hb1 := hB.trans (hx.mono hB.size)
    clear p0 q0 hB hx
    obtain ⟨a1, a2, -, -⟩ := p1.facts
    obtain ⟨a3, a4, -, -⟩ := q1.facts
    go_wp2_with fail
    refine (V2.out _).mono ?_
    rintro r y2 ⟨rfl, hx⟩
    have p2 := p1.below hx p1.lt
    have q2 := q1.below hx q1.lt
    have hb2 := hb1.trans (hx.mono hb1.size)
    clear a1 a2 a3 a4 p1 q1 hb1 hx
    have hcells : ∀ w' : World, Below y2.heap.size y2 w' → (fun w' => w'.cell? ⟨w.heap.size, 0, none⟩ = some (.int .i64 n) ∧ w'.cell? ⟨w.heap.size, 1, none⟩ = some (.int .i64 d) ∧ w'.cell? ⟨w.heap.size + 1, 0, none⟩ = some (.int .i64 m) ∧ w'.cell? ⟨w.heap.size + 1, 1, none⟩ = some (.int .i64 e)) w' := fun w' hb => by
      obtain ⟨a1, a2, -, -⟩ := (p2.below hb p2.lt).facts
      obtain ⟨a3, a4, -, -⟩ := (q2.below hb q2.lt).facts
      exact ⟨a1, a2, a3, a4⟩
    have hqy2 := Below.refl y2.heap.size y2
    have hry2 := Below.refl y2.heap.size y2
    obtain ⟨a1, a2, a3, a4⟩ := hcells y2 hqy2
    go_wp2_with fail
    go_ret2
    exact ⟨rfl, hb2⟩
  · simp only [bne_self_eq_false, if_true, if_false, Bool.false_eq_true]
    go_enter Tryd.func19, Tryd.ntmps19
    go_wp2_with fail
    refine (V1.out _).mono ?_
    rintro r y1 ⟨rfl, hx⟩
    have p1 := p0.below hx p0.lt
    have q1 := q0.below hx q0.lt
    have hb1 := hB.trans (hx.mono hB.size)
    clear p0 q0 hB hx
    obtain ⟨a1, a2, -, -⟩ := p1.facts
    obtain ⟨a3, a4, -, -⟩ := q1.facts
    go_wp2_with fail
    refine (V2.out _).mono ?_
    rintro r y2 ⟨rfl, hx⟩
    have p2 := p1.below hx p1.lt
    have q2 := q1.below hx q1.lt
    have hb2 := hb1.trans (hx.mono hb1.size)
    clear a1 a2 a3 a4 p1 q1 hb1 hx
    have hcells : ∀ w' : World, Below y2.heap.size y2 w' → (fun w' => w'.cell? ⟨w.heap.size, 0, none⟩ = some (.int .i64 n) ∧ w'.cell? ⟨w.heap.size, 1, none⟩ = some (.int .i64 d) ∧ w'.cell? ⟨w.heap.size + 1, 0, none⟩ = some (.int .i64 m) ∧ w'.cell? ⟨w.heap.size + 1, 1, none⟩ = some (.int .i64 e)) w' := fun w' hb => by
      obtain ⟨a1, a2, -, -⟩ := (p2.below hb p2.lt).facts
      obtain ⟨a3, a4, -, -⟩ := (q2.below hb q2.lt).facts
      exact ⟨a1, a2, a3, a4⟩
    have hqy2 := Below.refl y2.heap.size y2
    have hry2 := Below.refl y2.heap.size y2
    obtain ⟨a1, a2, a3, a4⟩ := hcells y2 hqy2
    go_wp2_with fail
    go_region_held3 (fun w' => w'.cell? ⟨w.heap.size, 0, none⟩ = some (.int .i64 n) ∧ w'.cell? ⟨w.heap.size, 1, none⟩ = some (.int .i64 d) ∧ w'.cell? ⟨w.heap.size + 1, 0, none⟩ = some (.int .i64 m) ∧ w'.cell? ⟨w.heap.size + 1, 1, none⟩ = some (.int .i64 e))
        (first | exact hcells _ (hqy2.trans hry2.drew) | exact hcells _ (hqy2.trans (by assumption)))
        (first
          | (go_at_call 36; have hz := hs2; refine (T1.out _ _ _ (his1.below hs2') his2).mono ?_; rintro r s3 ⟨us3, rfl, his3, hs3', _⟩; have hs3 : Below y2.heap.size y2 s3 := hs2.trans (hs3'.mono hs2.size))
          | (go_at_call 32; have hz := hs1; refine (D4.out _).mono ?_; rintro r s2 ⟨us2, rfl, his2, hs2', _⟩; have hs2 : Below y2.heap.size y2 s2 := hs1.trans (hs2'.mono hs1.size))
          | (go_at_call 32; refine (D1.out _).mono ?_; rintro r s1 ⟨us1, rfl, his1, hs1', _⟩; have hs1 : Below y2.heap.size y2 s1 := hry2.drew.trans hs1'))
    all_goals
      have hqs3 : Below y2.heap.size y2 s3 := hs3
      have hrs3 := Below.refl s3.heap.size s3
      obtain ⟨c1, c2, c3, c4⟩ := hcells s3 hqs3
      go_wp2_with fail
      go_region_held3 (fun w' => w'.cell? ⟨w.heap.size, 0, none⟩ = some (.int .i64 n) ∧ w'.cell? ⟨w.heap.size, 1, none⟩ = some (.int .i64 d) ∧ w'.cell? ⟨w.heap.size + 1, 0, none⟩ = some (.int .i64 m) ∧ w'.cell? ⟨w.heap.size + 1, 1, none⟩ = some (.int .i64 e))
        (first | exact hcells _ (hqs3.trans (hrs3.drew.mono hqs3.size)) | exact hcells _ (hqs3.trans (Below.mono (by assumption) hqs3.size)))
        (first
          | (go_at_call 36; have hz := ht2; refine (T2.out _ _ _ (hit1.below ht2') hit2).mono ?_; rintro r t3 ⟨ut3, rfl, hit3, ht3', _⟩; have ht3 : Below s3.heap.size s3 t3 := ht2.trans (ht3'.mono ht2.size))
          | (go_at_call 32; have hz := ht1; refine (D3.out _).mono ?_; rintro r t2 ⟨ut2, rfl, hit2, ht2', _⟩; have ht2 : Below s3.heap.size s3 t2 := ht1.trans (ht2'.mono ht1.size))
          | (go_at_call 32; refine (D2.out _).mono ?_; rintro r t1 ⟨ut1, rfl, hit1, ht1', _⟩; have ht1 : Below s3.heap.size s3 t1 := hrs3.drew.trans ht1'))
      all_goals
        have hA := Lib.hid (his3.below ht3)
        have hC := Lib.hid hit3
        have hqt3 := hqs3.trans (ht3.mono hqs3.size)
        obtain ⟨e1, e2, e3, e4⟩ := hcells t3 hqt3
        go_wp2_with fail
        refine (L2.out _ _ _ hC.out hA.out).mono ?_
        rintro r z1 ⟨rfl, hz1⟩
        have hb4 := hqt3.trans (hz1.mono hqt3.size)
        cases QP with
        | true =>
          go_wp2_with fail
          go_ret2
          exact ⟨rfl, hb2.trans (hb4.mono hb2.size)⟩
        | false =>
          go_wp2_with fail
          refine (L1.out _ _ _ (hA.out.below hz1) (hC.out.below hz1)).mono ?_
          rintro r z2 ⟨rfl, hz2⟩
          have hb5 := hb2.trans ((hb4.trans (hz2.mono hb4.size)).mono hb2.size)
          cases PQ with
          | true =>
            go_wp2_with fail
            go_ret2
            exact ⟨rfl, hb5⟩
          | false =>
            go_wp2_with fail
            go_ret2
            exact ⟨rfl, hb5⟩

set_option maxRecDepth 100000 in
theorem rcompare_no1 (n d m e : Int) (hf : ¬ valP n d) (hg : True) (w : World) :
    Calls Tryd.prog 19 #[.agg #[.int .i64 n, .int .i64 d], .agg #[.int .i64 m, .int .i64 e]] w fun r w' => r = .returned (.tuple #[.int .i64 0, .int .i64 1]) ∧ Below w.heap.size w w' := by
  have V1 := Lib.hid (fun w => rvalid_any n d w)
  have V2 := Lib.hid (fun w => rvalid_any m e w)
  rw [valB_false hf] at V1
  clear V2
  clear hf hg
  have q0 : Two ((w.alloc (.cells #[.int .i64 n, .int .i64 d] 23)).alloc (.cells #[.int .i64 m, .int .i64 e] 23)) (w.heap.size + 1) 23 (.int .i64 m) (.int .i64 e) := Two.at (by simp) _ _ _
  have hB : Below w.heap.size w ((w.alloc (.cells #[.int .i64 n, .int .i64 d] 23)).alloc (.cells #[.int .i64 m, .int .i64 e] 23)) := ((Below.refl _ _).alloc (Nat.le_refl _) _).alloc (by simp) _
  go_enter Tryd.func19, Tryd.ntmps19
  go_wp2_with fail
  refine (V1.out _).mono ?_
  rintro r y1 ⟨rfl, hx⟩
  have hb1 := hB.trans (hx.mono hB.size)
  obtain ⟨a3, a4, -, -⟩ := (q0.below hx q0.lt).facts
  have hb2 := hb1
  go_wp2_with fail
  go_ret2
  exact ⟨rfl, hb2⟩

set_option maxRecDepth 100000 in
theorem rcompare_no2 (n d m e : Int) (hf : valP n d) (hg : ¬ valP m e) (w : World) :
    Calls Tryd.prog 19 #[.agg #[.int .i64 n, .int .i64 d], .agg #[.int .i64 m, .int .i64 e]] w fun r w' => r = .returned (.tuple #[.int .i64 0, .int .i64 1]) ∧ Below w.heap.size w w' := by
  have V1 := Lib.hid (fun w => rvalid_any n d w)
  have V2 := Lib.hid (fun w => rvalid_any m e w)
  rw [valB_iff.2 hf] at V1
  rw [valB_false hg] at V2
  clear hf hg
  have q0 : Two ((w.alloc (.cells #[.int .i64 n, .int .i64 d] 23)).alloc (.cells #[.int .i64 m, .int .i64 e] 23)) (w.heap.size + 1) 23 (.int .i64 m) (.int .i64 e) := Two.at (by simp) _ _ _
  have hB : Below w.heap.size w ((w.alloc (.cells #[.int .i64 n, .int .i64 d] 23)).alloc (.cells #[.int .i64 m, .int .i64 e] 23)) := ((Below.refl _ _).alloc (Nat.le_refl _) _).alloc (by simp) _
  go_enter Tryd.func19, Tryd.ntmps19
  go_wp2_with fail
  refine (V1.out _).mono ?_
  rintro r y1 ⟨rfl, hx⟩
  have hb1 := hB.trans (hx.mono hB.size)
  obtain ⟨a3, a4, -, -⟩ := (q0.below hx q0.lt).facts
  go_wp2_with fail
  refine (V2.out _).mono ?_
  rintro r y2 ⟨rfl, hx2⟩
  have hb2 := hb1.trans (hx2.mono hb1.size)
  go_wp2_with fail
  go_ret2
  exact ⟨rfl, hb2⟩
theorem rcompare_any (n d m e : Int) (w : World) :
    Calls Tryd.prog 19 #[.agg #[.int .i64 n, .int .i64 d], .agg #[.int .i64 m, .int .i64 e]] w fun r w' => r = .returned (.tuple #[.int .i64 (cmpV n d m e), .int .i64 (cmpE n d m e)]) ∧ Below w.heap.size w w' := by
  by_cases hf : valP n d
  · by_cases hg : valP m e
    · exact rcompare_ok n d m e hf hg w
    · unfold cmpV cmpE
      rw [if_neg (fun k => hg k.2), if_neg (fun k => hg k.2)]
      exact rcompare_no2 n d m e hf hg w
  · unfold cmpV cmpE
    rw [if_neg (fun k => hf k.1), if_neg (fun k => hf k.1)]
    exact rcompare_no1 n d m e hf trivial w
end Go.Proofs.YtflnhjfmlminoaaDoor.Fr
