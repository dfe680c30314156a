/- Walks over layer 5's reference: Add. Written by wip/tools/fradd.py. -/
import Derived.Test.YtflnhjfmlminoaaDoorFrcR17
namespace Go.Proofs.YtflnhjfmlminoaaDoor.Fr
set_option linter.unusedVariables false
set_option linter.unusedSimpArgs false
open Go.RowKit

set_option maxRecDepth 100000 in
set_option maxHeartbeats 8000000 in
theorem radd_same (n d m e : Int) (b1 b2 : Bool) (hf : valP n d) (hg : valP m e) (k1 : decide (n < 0) = b1) (k2 : decide (m < 0) = b2) (hbb : b1 = b2) (w : World) :
    Calls Tryd.prog 13 #[.agg #[.int .i64 n, .int .i64 d], .agg #[.int .i64 m, .int .i64 e]] w fun r w' => r = .returned (.tuple #[.agg #[.int .i64 (addN n d m e), .int .i64 (addD n d m e)], .int .i64 (addE n d m e)]) ∧ Below w.heap.size w w' := by
  have V1 := Lib.hid (fun w => rvalid_any n d w)
  have V2 := Lib.hid (fun w => rvalid_any m e w)
  rw [valB_iff.2 hf] at V1
  rw [valB_iff.2 hg] at V2
  have hd0 : 0 < d.natAbs * e.natAbs := Nat.mul_pos (by have := hf.2.2.1; omega) (by have := hg.2.2.1; omega)
  have hq := add_sgn hf hg
  rw [k1, k2] at hq
  rw [show sgn b1 (n.natAbs * e.natAbs) + sgn b2 (m.natAbs * d.natAbs) = sgn b1 (n.natAbs * e.natAbs + m.natAbs * d.natAbs) by rw [← hbb]; exact sgn_same b1 _ _] at hq
  obtain ⟨r1, r2, r3⟩ := low_rat b1 (n.natAbs * e.natAbs + m.natAbs * d.natAbs) (d.natAbs * e.natAbs) hd0 (addQ n d m e) hq
  unfold addN addD addE
  rw [if_pos ⟨hf, hg⟩, if_pos ⟨hf, hg⟩, if_pos ⟨hf, hg⟩, ← r1, ← r2, ← r3]
  obtain ⟨f1, f2, f3, f4, -⟩ := hf
  obtain ⟨g1, g2, g3, g4, -⟩ := hg
  have small : ∀ z : Int, -4611686018427387904 ≤ z → z ≤ 4611686018427387904 → z.natAbs < 2 ^ 63 := fun z a b => by omega
  have l1 := small n f1 f2
  have l2 := small m g1 g2
  have l3 := small d (by omega) f4
  have l4 := small e (by omega) g4
  have lm : ∀ a b : Nat, a < 2 ^ 63 → b < 2 ^ 63 → a * b < 2 ^ 126 := fun a b ha hb => by
    have h1 : a * b ≤ a * 2 ^ 63 := Nat.mul_le_mul_left a (Nat.le_of_lt hb)
    have h2 : a * 2 ^ 63 < 2 ^ 63 * 2 ^ 63 := (Nat.mul_lt_mul_right (by decide)).2 ha
    have h3 : (2 : Nat) ^ 63 * 2 ^ 63 = 2 ^ 126 := by decide
    omega
  have lP := lm n.natAbs e.natAbs l1 l4
  have lQ := lm m.natAbs d.natAbs l2 l3
  have lb : ∀ a : Nat, a < 2 ^ 127 → (bin a).length ≤ 400 := fun a h => Nat.le_trans (bin_length_le h) (by omega)
  have h127 : (2 : Nat) ^ 126 + 2 ^ 126 = 2 ^ 127 := by decide
  have ls : ∀ a : Nat, a < 2 ^ 63 → (bin a).length ≤ 1000 := fun a ha => Nat.le_trans (bin_length_le (k := 63) ha) (by omega)
  have D1 := Lib.hid (fun w => digits_any n (by omega) (by omega) w)
  have D2 := Lib.hid (fun w => digits_any m (by omega) (by omega) w)
  have D3 := Lib.hid (fun w => digits_any d (by omega) (by omega) w)
  have D4 := Lib.hid (fun w => digits_any e (by omega) (by omega) w)
  have T1 := Lib.hid (fun v u w hv hu => times_any v u n.natAbs e.natAbs (ls _ l1) (ls _ l4) w hv hu)
  have T2 := Lib.hid (fun v u w hv hu => times_any v u m.natAbs d.natAbs (ls _ l2) (ls _ l3) w hv hu)
  have T3 := Lib.hid (fun v u w hv hu => times_any v u d.natAbs e.natAbs (ls _ l3) (ls _ l4) w hv hu)
  have lDD := lb (d.natAbs * e.natAbs) (by have := lm d.natAbs e.natAbs l3 l4; omega)
  clear l1 l2 l3 l4 lm ls small r1 r2 r3 hq
  generalize n.natAbs * e.natAbs = P at *
  generalize m.natAbs * d.natAbs = Q at *
  generalize d.natAbs * e.natAbs = DD at *
  have hPb := lb P (by omega)
  have hQb := lb Q (by omega)
  have hpb := lb (P + Q) (by omega)
  have OPC := Lib.hid (fun v u w hv hu => rplus_any v u P Q (by omega) (by omega) w hv hu)
  have L1 := Lib.hid (fun v u w hv hu => less_any v u P Q (by omega) (by omega) w hv hu)
  obtain ⟨N, hN⟩ : ∃ N, lowN b1 (P + Q) DD = N := ⟨_, rfl⟩
  obtain ⟨D, hD⟩ : ∃ D, lowD (P + Q) DD = D := ⟨_, rfl⟩
  obtain ⟨E, hE⟩ : ∃ E, lowE (P + Q) DD = E := ⟨_, rfl⟩
  rw [hN, hD, hE]
  have LO := Lib.hid (fun v u w hv hu => lowest_any b1 v u (P + Q) DD hd0 hpb lDD w hv hu)
  rw [hN, hD, hE] at LO
  skip
  clear hN hD hE f1 f2 f3 f4 g1 g2 g3 g4 lP lQ lb h127 hPb hQb hpb lDD hd0
  have p0 : Two (((w.alloc (.cells #[.int .i64 n, .int .i64 d] 23)).alloc (.cells #[.int .i64 m, .int .i64 e] 23)).alloc (.cells #[.int .i64 0, .int .i64 0] 23)) w.heap.size 23 (.int .i64 n) (.int .i64 d) := ((Two.new _ _ _ _).alloc _).alloc _
  have q0 : Two (((w.alloc (.cells #[.int .i64 n, .int .i64 d] 23)).alloc (.cells #[.int .i64 m, .int .i64 e] 23)).alloc (.cells #[.int .i64 0, .int .i64 0] 23)) (w.heap.size + 1) 23 (.int .i64 m) (.int .i64 e) := (Two.at (by simp) _ _ _).alloc _
  have r0 : Two (((w.alloc (.cells #[.int .i64 n, .int .i64 d] 23)).alloc (.cells #[.int .i64 m, .int .i64 e] 23)).alloc (.cells #[.int .i64 0, .int .i64 0] 23)) (w.heap.size + 1 + 1) 23 (.int .i64 0) (.int .i64 0) := Two.at (by simp) _ _ _
  have hB : Below w.heap.size w (((w.alloc (.cells #[.int .i64 n, .int .i64 d] 23)).alloc (.cells #[.int .i64 m, .int .i64 e] 23)).alloc (.cells #[.int .i64 0, .int .i64 0] 23)) := (((Below.refl _ _).alloc (Nat.le_refl _) _).alloc (by simp) _).alloc (by simp; omega) _
  subst hbb
  cases b1
  all_goals
    go_enter Tryd.func13, Tryd.ntmps13
    go_wp2_with fail
    refine (V1.out _).mono ?_
    rintro r y1 ⟨rfl, hx⟩
    have p1 := p0.below hx p0.lt
    have q1 := q0.below hx q0.lt
    have r1 := r0.below hx r0.lt
    have hb1 := hB.trans (hx.mono hB.size)
    clear p0 q0 r0 hB hx
    obtain ⟨a1, a2, -, -⟩ := p1.facts
    obtain ⟨a3, a4, -, -⟩ := q1.facts
    go_wp2_with fail
    refine (V2.out _).mono ?_
    rintro r y2 ⟨rfl, hx⟩
    have p2 := p1.below hx p1.lt
    have q2 := q1.below hx q1.lt
    have r2 := r1.below hx r1.lt
    have hb2 := hb1.trans (hx.mono hb1.size)
    clear a1 a2 a3 a4 p1 q1 r1 hb1 hx
    have hcells : ∀ w' : World, Below y2.heap.size y2 w' → (fun w' => w'.cell? ⟨w.heap.size, 0, none⟩ = some (.int .i64 n) ∧ w'.cell? ⟨w.heap.size, 1, none⟩ = some (.int .i64 d) ∧ w'.cell? ⟨w.heap.size + 1, 0, none⟩ = some (.int .i64 m) ∧ w'.cell? ⟨w.heap.size + 1, 1, none⟩ = some (.int .i64 e)) w' := fun w' hb => by
      obtain ⟨a1, a2, -, -⟩ := (p2.below hb p2.lt).facts
      obtain ⟨a3, a4, -, -⟩ := (q2.below hb q2.lt).facts
      exact ⟨a1, a2, a3, a4⟩
    have hqy2 := Below.refl y2.heap.size y2
    have hry2 := Below.refl y2.heap.size y2
    go_wp2_with fail
    go_region_held3 (fun w' => w'.cell? ⟨w.heap.size, 0, none⟩ = some (.int .i64 n) ∧ w'.cell? ⟨w.heap.size, 1, none⟩ = some (.int .i64 d) ∧ w'.cell? ⟨w.heap.size + 1, 0, none⟩ = some (.int .i64 m) ∧ w'.cell? ⟨w.heap.size + 1, 1, none⟩ = some (.int .i64 e))
      (first | exact hcells _ (hqy2.trans (hry2.drew)) | exact hcells _ (hqy2.trans (by assumption)))
      (first
        | (go_at_call 36; have hz := hs2; refine (T1.out _ _ _ (his1.below hs2') his2).mono ?_; rintro r s3 ⟨us3, rfl, his3, hs3', _⟩; have hs3 : Below y2.heap.size y2 s3 := hs2.trans (hs3'.mono hs2.size))
        | (go_at_call 32; have hz := hs1; refine (D4.out _).mono ?_; rintro r s2 ⟨us2, rfl, his2, hs2', _⟩; have hs2 : Below y2.heap.size y2 s2 := hs1.trans (hs2'.mono hs1.size))
        | (go_at_call 32; refine (D1.out _).mono ?_; rintro r s1 ⟨us1, rfl, his1, hs1', _⟩; have hs1 : Below y2.heap.size y2 s1 := hry2.drew.trans hs1'))
    all_goals
      have hqs3 : Below y2.heap.size y2 s3 := hs3
      have hrs3 := Below.refl s3.heap.size s3
      go_wp2_with fail
      go_region_held3 (fun w' => w'.cell? ⟨w.heap.size, 0, none⟩ = some (.int .i64 n) ∧ w'.cell? ⟨w.heap.size, 1, none⟩ = some (.int .i64 d) ∧ w'.cell? ⟨w.heap.size + 1, 0, none⟩ = some (.int .i64 m) ∧ w'.cell? ⟨w.heap.size + 1, 1, none⟩ = some (.int .i64 e))
        (first | exact hcells _ (hqs3.trans (hrs3.drew.mono hqs3.size)) | exact hcells _ (hqs3.trans (Below.mono (by assumption) hqs3.size)))
        (first
          | (go_at_call 36; have hz := ht2; refine (T2.out _ _ _ (hit1.below ht2') hit2).mono ?_; rintro r t3 ⟨ut3, rfl, hit3, ht3', _⟩; have ht3 : Below s3.heap.size s3 t3 := ht2.trans (ht3'.mono ht2.size))
          | (go_at_call 32; have hz := ht1; refine (D3.out _).mono ?_; rintro r t2 ⟨ut2, rfl, hit2, ht2', _⟩; have ht2 : Below s3.heap.size s3 t2 := ht1.trans (ht2'.mono ht1.size))
          | (go_at_call 32; refine (D2.out _).mono ?_; rintro r t1 ⟨ut1, rfl, hit1, ht1', _⟩; have ht1 : Below s3.heap.size s3 t1 := hrs3.drew.trans ht1'))
      all_goals
        have hqt3 := hqs3.trans (ht3.mono hqs3.size)
        have hrt3 := Below.refl t3.heap.size t3
        go_wp2_with fail
        go_region_held3 (fun w' => w'.cell? ⟨w.heap.size, 0, none⟩ = some (.int .i64 n) ∧ w'.cell? ⟨w.heap.size, 1, none⟩ = some (.int .i64 d) ∧ w'.cell? ⟨w.heap.size + 1, 0, none⟩ = some (.int .i64 m) ∧ w'.cell? ⟨w.heap.size + 1, 1, none⟩ = some (.int .i64 e))
          (first | exact hcells _ (hqt3.trans (hrt3.drew.mono hqt3.size)) | exact hcells _ (hqt3.trans (Below.mono (by assumption) hqt3.size)))
          (first
            | (go_at_call 36; have hz := hv2; refine (T3.out _ _ _ (hiv1.below hv2') hiv2).mono ?_; rintro r v3 ⟨uv3, rfl, hiv3, hv3', _⟩; have hv3 : Below t3.heap.size t3 v3 := hv2.trans (hv3'.mono hv2.size))
            | (go_at_call 32; have hz := hv1; refine (D4.out _).mono ?_; rintro r v2 ⟨uv2, rfl, hiv2, hv2', _⟩; have hv2 : Below t3.heap.size t3 v2 := hv1.trans (hv2'.mono hv1.size))
            | (go_at_call 32; refine (D3.out _).mono ?_; rintro r v1 ⟨uv1, rfl, hiv1, hv1', _⟩; have hv1 : Below t3.heap.size t3 v1 := hrt3.drew.trans hv1'))
        all_goals
          have hqv3 := hqt3.trans (hv3.mono hqt3.size)
          have hA := Lib.hid ((his3.below ht3).below hv3)
          have hC := Lib.hid (hit3.below hv3)
          have hDD := Lib.hid hiv3
          obtain ⟨c1, c2, c3, c4⟩ := hcells v3 hqv3
          have hrv3 := Below.refl v3.heap.size v3
          go_wp2_with fail
          go_region_held3 (fun w' => w'.cell? ⟨w.heap.size, 0, none⟩ = some (.int .i64 n) ∧ w'.cell? ⟨w.heap.size, 1, none⟩ = some (.int .i64 d) ∧ w'.cell? ⟨w.heap.size + 1, 0, none⟩ = some (.int .i64 m) ∧ w'.cell? ⟨w.heap.size + 1, 1, none⟩ = some (.int .i64 e))
            (first | exact hcells _ (hqv3.trans (hrv3.drew.mono hqv3.size)) | exact hcells _ (hqv3.trans (Below.mono (by assumption) hqv3.size)) | exact far4 (hcells _ (hqv3.trans (hx2.mono hqv3.size))) _ _)
            (first
              | (go_at_call 31; have hz := hx1; refine (LO.out _ _ _ hix1 ((hDD.out.below hrv3.drew).below hx1')).mono ?_; rintro r x2 ⟨rfl, hx2'⟩; have hx2 : Below v3.heap.size v3 x2 := hx1.trans (hx2'.mono hx1.size); have t7 := r2.below (hqv3.trans (hx2.mono hqv3.size)) r2.lt; obtain ⟨m1, m2, m3, m4⟩ := t7.facts)
              | (go_at_call 37; refine (OPC.out _ _ _ (hA.out.below hrv3.drew) (hC.out.below hrv3.drew)).mono ?_; rintro r x1 ⟨ux1, rfl, hix1, hx1', _⟩; have hx1 : Below v3.heap.size v3 x1 := hrv3.drew.trans hx1'))
          all_goals
            have hb7 := hb2.trans ((hqv3.trans (hx2.mono hqv3.size)).mono hb2.size)
            go_wp2_with fail
            refine bodyPost_ret (v := .tuple #[.agg #[.int .i64 N, .int .i64 D], .int .i64 E]) ?_ rfl ⟨rfl, ?_⟩
            · simp [results, Tryd.results13, go_sem, m1, m2, m3, m4]
            · exact (hb7.setCell (p := ⟨w.heap.size + 1 + 1, 0, none⟩) (by show w.heap.size ≤ w.heap.size + 1 + 1; omega) _).setCell (p := ⟨w.heap.size + 1 + 1, 1, none⟩) (by show w.heap.size ≤ w.heap.size + 1 + 1; omega) _

set_option maxRecDepth 100000 in
set_option maxHeartbeats 8000000 in
theorem radd_less (n d m e : Int) (b1 b2 : Bool) (hf : valP n d) (hg : valP m e) (k1 : decide (n < 0) = b1) (k2 : decide (m < 0) = b2) (hbb : b1 ≠ b2) (hPQ : n.natAbs * e.natAbs < m.natAbs * d.natAbs) (w : World) :
    Calls Tryd.prog 13 #[.agg #[.int .i64 n, .int .i64 d], .agg #[.int .i64 m, .int .i64 e]] w fun r w' => r = .returned (.tuple #[.agg #[.int .i64 (addN n d m e), .int .i64 (addD n d m e)], .int .i64 (addE n d m e)]) ∧ Below w.heap.size w w' := by
  have V1 := Lib.hid (fun w => rvalid_any n d w)
  have V2 := Lib.hid (fun w => rvalid_any m e w)
  rw [valB_iff.2 hf] at V1
  rw [valB_iff.2 hg] at V2
  have hd0 : 0 < d.natAbs * e.natAbs := Nat.mul_pos (by have := hf.2.2.1; omega) (by have := hg.2.2.1; omega)
  have hq := add_sgn hf hg
  rw [k1, k2] at hq
  rw [sgn_less b1 b2 _ _ hbb hPQ] at hq
  obtain ⟨r1, r2, r3⟩ := low_rat b2 (m.natAbs * d.natAbs - n.natAbs * e.natAbs) (d.natAbs * e.natAbs) hd0 (addQ n d m e) hq
  unfold addN addD addE
  rw [if_pos ⟨hf, hg⟩, if_pos ⟨hf, hg⟩, if_pos ⟨hf, hg⟩, ← r1, ← r2, ← r3]
  obtain ⟨f1, f2, f3, f4, -⟩ := hf
  obtain ⟨g1, g2, g3, g4, -⟩ := hg
  have small : ∀ z : Int, -4611686018427387904 ≤ z → z ≤ 4611686018427387904 → z.natAbs < 2 ^ 63 := fun z a b => by omega
  have l1 := small n f1 f2
  have l2 := small m g1 g2
  have l3 := small d (by omega) f4
  have l4 := small e (by omega) g4
  have lm : ∀ a b : Nat, a < 2 ^ 63 → b < 2 ^ 63 → a * b < 2 ^ 126 := fun a b ha hb => by
    have h1 : a * b ≤ a * 2 ^ 63 := Nat.mul_le_mul_left a (Nat.le_of_lt hb)
    have h2 : a * 2 ^ 63 < 2 ^ 63 * 2 ^ 63 := (Nat.mul_lt_mul_right (by decide)).2 ha
    have h3 : (2 : Nat) ^ 63 * 2 ^ 63 = 2 ^ 126 := by decide
    omega
  have lP := lm n.natAbs e.natAbs l1 l4
  have lQ := lm m.natAbs d.natAbs l2 l3
  have lb : ∀ a : Nat, a < 2 ^ 127 → (bin a).length ≤ 400 := fun a h => Nat.le_trans (bin_length_le h) (by omega)
  have h127 : (2 : Nat) ^ 126 + 2 ^ 126 = 2 ^ 127 := by decide
  have ls : ∀ a : Nat, a < 2 ^ 63 → (bin a).length ≤ 1000 := fun a ha => Nat.le_trans (bin_length_le (k := 63) ha) (by omega)
  have D1 := Lib.hid (fun w => digits_any n (by omega) (by omega) w)
  have D2 := Lib.hid (fun w => digits_any m (by omega) (by omega) w)
  have D3 := Lib.hid (fun w => digits_any d (by omega) (by omega) w)
  have D4 := Lib.hid (fun w => digits_any e (by omega) (by omega) w)
  have T1 := Lib.hid (fun v u w hv hu => times_any v u n.natAbs e.natAbs (ls _ l1) (ls _ l4) w hv hu)
  have T2 := Lib.hid (fun v u w hv hu => times_any v u m.natAbs d.natAbs (ls _ l2) (ls _ l3) w hv hu)
  have T3 := Lib.hid (fun v u w hv hu => times_any v u d.natAbs e.natAbs (ls _ l3) (ls _ l4) w hv hu)
  have lDD := lb (d.natAbs * e.natAbs) (by have := lm d.natAbs e.natAbs l3 l4; omega)
  clear l1 l2 l3 l4 lm ls small r1 r2 r3 hq
  generalize n.natAbs * e.natAbs = P at *
  generalize m.natAbs * d.natAbs = Q at *
  generalize d.natAbs * e.natAbs = DD at *
  have hPb := lb P (by omega)
  have hQb := lb Q (by omega)
  have hpb := lb (Q - P) (by omega)
  have OPC := Lib.hid (fun v u w hv hu => rminus_any v u Q P (by omega) (by omega) w hv hu)
  have L1 := Lib.hid (fun v u w hv hu => less_any v u P Q (by omega) (by omega) w hv hu)
  obtain ⟨N, hN⟩ : ∃ N, lowN b2 (Q - P) DD = N := ⟨_, rfl⟩
  obtain ⟨D, hD⟩ : ∃ D, lowD (Q - P) DD = D := ⟨_, rfl⟩
  obtain ⟨E, hE⟩ : ∃ E, lowE (Q - P) DD = E := ⟨_, rfl⟩
  rw [hN, hD, hE]
  have LO := Lib.hid (fun v u w hv hu => lowest_any b2 v u (Q - P) DD hd0 hpb lDD w hv hu)
  rw [hN, hD, hE] at LO
  rw [decide_eq_true hPQ] at L1
  clear hN hD hE f1 f2 f3 f4 g1 g2 g3 g4 lP lQ lb h127 hPb hQb hpb lDD hd0
  have p0 : Two (((w.alloc (.cells #[.int .i64 n, .int .i64 d] 23)).alloc (.cells #[.int .i64 m, .int .i64 e] 23)).alloc (.cells #[.int .i64 0, .int .i64 0] 23)) w.heap.size 23 (.int .i64 n) (.int .i64 d) := ((Two.new _ _ _ _).alloc _).alloc _
  have q0 : Two (((w.alloc (.cells #[.int .i64 n, .int .i64 d] 23)).alloc (.cells #[.int .i64 m, .int .i64 e] 23)).alloc (.cells #[.int .i64 0, .int .i64 0] 23)) (w.heap.size + 1) 23 (.int .i64 m) (.int .i64 e) := (Two.at (by simp) _ _ _).alloc _
  have r0 : Two (((w.alloc (.cells #[.int .i64 n, .int .i64 d] 23)).alloc (.cells #[.int .i64 m, .int .i64 e] 23)).alloc (.cells #[.int .i64 0, .int .i64 0] 23)) (w.heap.size + 1 + 1) 23 (.int .i64 0) (.int .i64 0) := Two.at (by simp) _ _ _
  have hB : Below w.heap.size w (((w.alloc (.cells #[.int .i64 n, .int .i64 d] 23)).alloc (.cells #[.int .i64 m, .int .i64 e] 23)).alloc (.cells #[.int .i64 0, .int .i64 0] 23)) := (((Below.refl _ _).alloc (Nat.le_refl _) _).alloc (by simp) _).alloc (by simp; omega) _
  cases b1 <;> cases b2 <;> first | exact absurd rfl hbb | skip
  all_goals
    go_enter Tryd.func13, Tryd.ntmps13
    go_wp2_with fail
    refine (V1.out _).mono ?_
    rintro r y1 ⟨rfl, hx⟩
    have p1 := p0.below hx p0.lt
    have q1 := q0.below hx q0.lt
    have r1 := r0.below hx r0.lt
    have hb1 := hB.trans (hx.mono hB.size)
    clear p0 q0 r0 hB hx
    obtain ⟨a1, a2, -, -⟩ := p1.facts
    obtain ⟨a3, a4, -, -⟩ := q1.facts
    go_wp2_with fail
    refine (V2.out _).mono ?_
    rintro r y2 ⟨rfl, hx⟩
    have p2 := p1.below hx p1.lt
    have q2 := q1.below hx q1.lt
    have r2 := r1.below hx r1.lt
    have hb2 := hb1.trans (hx.mono hb1.size)
    clear a1 a2 a3 a4 p1 q1 r1 hb1 hx
    have hcells : ∀ w' : World, Below y2.heap.size y2 w' → (fun w' => w'.cell? ⟨w.heap.size, 0, none⟩ = some (.int .i64 n) ∧ w'.cell? ⟨w.heap.size, 1, none⟩ = some (.int .i64 d) ∧ w'.cell? ⟨w.heap.size + 1, 0, none⟩ = some (.int .i64 m) ∧ w'.cell? ⟨w.heap.size + 1, 1, none⟩ = some (.int .i64 e)) w' := fun w' hb => by
      obtain ⟨a1, a2, -, -⟩ := (p2.below hb p2.lt).facts
      obtain ⟨a3, a4, -, -⟩ := (q2.below hb q2.lt).facts
      exact ⟨a1, a2, a3, a4⟩
    have hqy2 := Below.refl y2.heap.size y2
    have hry2 := Below.refl y2.heap.size y2
    go_wp2_with fail
    go_region_held3 (fun w' => w'.cell? ⟨w.heap.size, 0, none⟩ = some (.int .i64 n) ∧ w'.cell? ⟨w.heap.size, 1, none⟩ = some (.int .i64 d) ∧ w'.cell? ⟨w.heap.size + 1, 0, none⟩ = some (.int .i64 m) ∧ w'.cell? ⟨w.heap.size + 1, 1, none⟩ = some (.int .i64 e))
      (first | exact hcells _ (hqy2.trans (hry2.drew)) | exact hcells _ (hqy2.trans (by assumption)))
      (first
        | (go_at_call 36; have hz := hs2; refine (T1.out _ _ _ (his1.below hs2') his2).mono ?_; rintro r s3 ⟨us3, rfl, his3, hs3', _⟩; have hs3 : Below y2.heap.size y2 s3 := hs2.trans (hs3'.mono hs2.size))
        | (go_at_call 32; have hz := hs1; refine (D4.out _).mono ?_; rintro r s2 ⟨us2, rfl, his2, hs2', _⟩; have hs2 : Below y2.heap.size y2 s2 := hs1.trans (hs2'.mono hs1.size))
        | (go_at_call 32; refine (D1.out _).mono ?_; rintro r s1 ⟨us1, rfl, his1, hs1', _⟩; have hs1 : Below y2.heap.size y2 s1 := hry2.drew.trans hs1'))
    all_goals
      have hqs3 : Below y2.heap.size y2 s3 := hs3
      have hrs3 := Below.refl s3.heap.size s3
      go_wp2_with fail
      go_region_held3 (fun w' => w'.cell? ⟨w.heap.size, 0, none⟩ = some (.int .i64 n) ∧ w'.cell? ⟨w.heap.size, 1, none⟩ = some (.int .i64 d) ∧ w'.cell? ⟨w.heap.size + 1, 0, none⟩ = some (.int .i64 m) ∧ w'.cell? ⟨w.heap.size + 1, 1, none⟩ = some (.int .i64 e))
        (first | exact hcells _ (hqs3.trans (hrs3.drew.mono hqs3.size)) | exact hcells _ (hqs3.trans (Below.mono (by assumption) hqs3.size)))
        (first
          | (go_at_call 36; have hz := ht2; refine (T2.out _ _ _ (hit1.below ht2') hit2).mono ?_; rintro r t3 ⟨ut3, rfl, hit3, ht3', _⟩; have ht3 : Below s3.heap.size s3 t3 := ht2.trans (ht3'.mono ht2.size))
          | (go_at_call 32; have hz := ht1; refine (D3.out _).mono ?_; rintro r t2 ⟨ut2, rfl, hit2, ht2', _⟩; have ht2 : Below s3.heap.size s3 t2 := ht1.trans (ht2'.mono ht1.size))
          | (go_at_call 32; refine (D2.out _).mono ?_; rintro r t1 ⟨ut1, rfl, hit1, ht1', _⟩; have ht1 : Below s3.heap.size s3 t1 := hrs3.drew.trans ht1'))
      all_goals
        have hqt3 := hqs3.trans (ht3.mono hqs3.size)
        have hrt3 := Below.refl t3.heap.size t3
        go_wp2_with fail
        go_region_held3 (fun w' => w'.cell? ⟨w.heap.size, 0, none⟩ = some (.int .i64 n) ∧ w'.cell? ⟨w.heap.size, 1, none⟩ = some (.int .i64 d) ∧ w'.cell? ⟨w.heap.size + 1, 0, none⟩ = some (.int .i64 m) ∧ w'.cell? ⟨w.heap.size + 1, 1, none⟩ = some (.int .i64 e))
          (first | exact hcells _ (hqt3.trans (hrt3.drew.mono hqt3.size)) | exact hcells _ (hqt3.trans (Below.mono (by assumption) hqt3.size)))
          (first
            | (go_at_call 36; have hz := hv2; refine (T3.out _ _ _ (hiv1.below hv2') hiv2).mono ?_; rintro r v3 ⟨uv3, rfl, hiv3, hv3', _⟩; have hv3 : Below t3.heap.size t3 v3 := hv2.trans (hv3'.mono hv2.size))
            | (go_at_call 32; have hz := hv1; refine (D4.out _).mono ?_; rintro r v2 ⟨uv2, rfl, hiv2, hv2', _⟩; have hv2 : Below t3.heap.size t3 v2 := hv1.trans (hv2'.mono hv1.size))
            | (go_at_call 32; refine (D3.out _).mono ?_; rintro r v1 ⟨uv1, rfl, hiv1, hv1', _⟩; have hv1 : Below t3.heap.size t3 v1 := hrt3.drew.trans hv1'))
        all_goals
          have hqv3 := hqt3.trans (hv3.mono hqt3.size)
          have hA := Lib.hid ((his3.below ht3).below hv3)
          have hC := Lib.hid (hit3.below hv3)
          have hDD := Lib.hid hiv3
          obtain ⟨c1, c2, c3, c4⟩ := hcells v3 hqv3
          go_wp2_with fail
          refine (L1.out _ _ _ hA.out hC.out).mono ?_
          rintro r z3 ⟨rfl, hz3⟩
          have hqz3 := hqv3.trans (hz3.mono hqv3.size)
          have hrz3 := Below.refl z3.heap.size z3
          have hA2 := Lib.hid (hA.out.below hz3)
          have hC2 := Lib.hid (hC.out.below hz3)
          have hDD0 := hDD
          have hDD := Lib.hid (hDD0.out.below hz3)
          clear c1 c2 c3 c4 hDD0
          go_wp2_with fail
          go_region_held3 (fun w' => w'.cell? ⟨w.heap.size, 0, none⟩ = some (.int .i64 n) ∧ w'.cell? ⟨w.heap.size, 1, none⟩ = some (.int .i64 d) ∧ w'.cell? ⟨w.heap.size + 1, 0, none⟩ = some (.int .i64 m) ∧ w'.cell? ⟨w.heap.size + 1, 1, none⟩ = some (.int .i64 e))
            (first | exact hcells _ (hqz3.trans (hrz3.drew.mono hqz3.size)) | exact hcells _ (hqz3.trans (Below.mono (by assumption) hqz3.size)) | exact far4 (hcells _ (hqz3.trans (hx2.mono hqz3.size))) _ _)
            (first
              | (go_at_call 31; have hz := hx1; refine (LO.out _ _ _ hix1 ((hDD.out.below hrz3.drew).below hx1')).mono ?_; rintro r x2 ⟨rfl, hx2'⟩; have hx2 : Below z3.heap.size z3 x2 := hx1.trans (hx2'.mono hx1.size); have t7 := r2.below (hqz3.trans (hx2.mono hqz3.size)) r2.lt; obtain ⟨m1, m2, m3, m4⟩ := t7.facts)
              | (go_at_call 39; refine (OPC.out _ _ _ (hC2.out.below hrz3.drew) (hA2.out.below hrz3.drew)).mono ?_; rintro r x1 ⟨ux1, rfl, hix1, hx1', _⟩; have hx1 : Below z3.heap.size z3 x1 := hrz3.drew.trans hx1'))
          all_goals
            have hb7 := hb2.trans ((hqz3.trans (hx2.mono hqz3.size)).mono hb2.size)
            go_wp2_with fail
            refine bodyPost_ret (v := .tuple #[.agg #[.int .i64 N, .int .i64 D], .int .i64 E]) ?_ rfl ⟨rfl, ?_⟩
            · simp [results, Tryd.results13, go_sem, m1, m2, m3, m4]
            · exact (hb7.setCell (p := ⟨w.heap.size + 1 + 1, 0, none⟩) (by show w.heap.size ≤ w.heap.size + 1 + 1; omega) _).setCell (p := ⟨w.heap.size + 1 + 1, 1, none⟩) (by show w.heap.size ≤ w.heap.size + 1 + 1; omega) _

set_option maxRecDepth 100000 in
set_option maxHeartbeats 8000000 in
theorem radd_more (n d m e : Int) (b1 b2 : Bool) (hf : valP n d) (hg : valP m e) (k1 : decide (n < 0) = b1) (k2 : decide (m < 0) = b2) (hbb : b1 ≠ b2) (hPQ : ¬ n.natAbs * e.natAbs < m.natAbs * d.natAbs) (w : World) :
    Calls Tryd.prog 13 #[.agg #[.int .i64 n, .int .i64 d], .agg #[.int .i64 m, .int .i64 e]] w fun r w' => r = .returned (.tuple #[.agg #[.int .i64 (addN n d m e), .int .i64 (addD n d m e)], .int .i64 (addE n d m e)]) ∧ Below w.heap.size w w' := by
  have V1 := Lib.hid (fun w => rvalid_any n d w)
  have V2 := Lib.hid (fun w => rvalid_any m e w)
  rw [valB_iff.2 hf] at V1
  rw [valB_iff.2 hg] at V2
  have hd0 : 0 < d.natAbs * e.natAbs := Nat.mul_pos (by have := hf.2.2.1; omega) (by have := hg.2.2.1; omega)
  have hq := add_sgn hf hg
  rw [k1, k2] at hq
  rw [sgn_more b1 b2 _ _ hbb hPQ] at hq
  obtain ⟨r1, r2, r3⟩ := low_rat b1 (n.natAbs * e.natAbs - m.natAbs * d.natAbs) (d.natAbs * e.natAbs) hd0 (addQ n d m e) hq
  unfold addN addD addE
  rw [if_pos ⟨hf, hg⟩, if_pos ⟨hf, hg⟩, if_pos ⟨hf, hg⟩, ← r1, ← r2, ← r3]
  obtain ⟨f1, f2, f3, f4, -⟩ := hf
  obtain ⟨g1, g2, g3, g4, -⟩ := hg
  have small : ∀ z : Int, -4611686018427387904 ≤ z → z ≤ 4611686018427387904 → z.natAbs < 2 ^ 63 := fun z a b => by omega
  have l1 := small n f1 f2
  have l2 := small m g1 g2
  have l3 := small d (by omega) f4
  have l4 := small e (by omega) g4
  have lm : ∀ a b : Nat, a < 2 ^ 63 → b < 2 ^ 63 → a * b < 2 ^ 126 := fun a b ha hb => by
    have h1 : a * b ≤ a * 2 ^ 63 := Nat.mul_le_mul_left a (Nat.le_of_lt hb)
    have h2 : a * 2 ^ 63 < 2 ^ 63 * 2 ^ 63 := (Nat.mul_lt_mul_right (by decide)).2 ha
    have h3 : (2 : Nat) ^ 63 * 2 ^ 63 = 2 ^ 126 := by decide
    omega
  have lP := lm n.natAbs e.natAbs l1 l4
  have lQ := lm m.natAbs d.natAbs l2 l3
  have lb : ∀ a : Nat, a < 2 ^ 127 → (bin a).length ≤ 400 := fun a h => Nat.le_trans (bin_length_le h) (by omega)
  have h127 : (2 : Nat) ^ 126 + 2 ^ 126 = 2 ^ 127 := by decide
  have ls : ∀ a : Nat, a < 2 ^ 63 → (bin a).length ≤ 1000 := fun a ha => Nat.le_trans (bin_length_le (k := 63) ha) (by omega)
  have D1 := Lib.hid (fun w => digits_any n (by omega) (by omega) w)
  have D2 := Lib.hid (fun w => digits_any m (by omega) (by omega) w)
  have D3 := Lib.hid (fun w => digits_any d (by omega) (by omega) w)
  have D4 := Lib.hid (fun w => digits_any e (by omega) (by omega) w)
  have T1 := Lib.hid (fun v u w hv hu => times_any v u n.natAbs e.natAbs (ls _ l1) (ls _ l4) w hv hu)
  have T2 := Lib.hid (fun v u w hv hu => times_any v u m.natAbs d.natAbs (ls _ l2) (ls _ l3) w hv hu)
  have T3 := Lib.hid (fun v u w hv hu => times_any v u d.natAbs e.natAbs (ls _ l3) (ls _ l4) w hv hu)
  have lDD := lb (d.natAbs * e.natAbs) (by have := lm d.natAbs e.natAbs l3 l4; omega)
  clear l1 l2 l3 l4 lm ls small r1 r2 r3 hq
  generalize n.natAbs * e.natAbs = P at *
  generalize m.natAbs * d.natAbs = Q at *
  generalize d.natAbs * e.natAbs = DD at *
  have hPb := lb P (by omega)
  have hQb := lb Q (by omega)
  have hpb := lb (P - Q) (by omega)
  have OPC := Lib.hid (fun v u w hv hu => rminus_any v u P Q (by omega) (by omega) w hv hu)
  have L1 := Lib.hid (fun v u w hv hu => less_any v u P Q (by omega) (by omega) w hv hu)
  obtain ⟨N, hN⟩ : ∃ N, lowN b1 (P - Q) DD = N := ⟨_, rfl⟩
  obtain ⟨D, hD⟩ : ∃ D, lowD (P - Q) DD = D := ⟨_, rfl⟩
  obtain ⟨E, hE⟩ : ∃ E, lowE (P - Q) DD = E := ⟨_, rfl⟩
  rw [hN, hD, hE]
  have LO := Lib.hid (fun v u w hv hu => lowest_any b1 v u (P - Q) DD hd0 hpb lDD w hv hu)
  rw [hN, hD, hE] at LO
  rw [decide_eq_false hPQ] at L1
  clear hN hD hE f1 f2 f3 f4 g1 g2 g3 g4 lP lQ lb h127 hPb hQb hpb lDD hd0
  have p0 : Two (((w.alloc (.cells #[.int .i64 n, .int .i64 d] 23)).alloc (.cells #[.int .i64 m, .int .i64 e] 23)).alloc (.cells #[.int .i64 0, .int .i64 0] 23)) w.heap.size 23 (.int .i64 n) (.int .i64 d) := ((Two.new _ _ _ _).alloc _).alloc _
  have q0 : Two (((w.alloc (.cells #[.int .i64 n, .int .i64 d] 23)).alloc (.cells #[.int .i64 m, .int .i64 e] 23)).alloc (.cells #[.int .i64 0, .int .i64 0] 23)) (w.heap.size + 1) 23 (.int .i64 m) (.int .i64 e) := (Two.at (by simp) _ _ _).alloc _
  have r0 : Two (((w.alloc (.cells #[.int .i64 n, .int .i64 d] 23)).alloc (.cells #[.int .i64 m, .int .i64 e] 23)).alloc (.cells #[.int .i64 0, .int .i64 0] 23)) (w.heap.size + 1 + 1) 23 (.int .i64 0) (.int .i64 0) := Two.at (by simp) _ _ _
  have hB : Below w.heap.size w (((w.alloc (.cells #[.int .i64 n, .int .i64 d] 23)).alloc (.cells #[.int .i64 m, .int .i64 e] 23)).alloc (.cells #[.int .i64 0, .int .i64 0] 23)) := (((Below.refl _ _).alloc (Nat.le_refl _) _).alloc (by simp) _).alloc (by simp; omega) _
  cases b1 <;> cases b2 <;> first | exact absurd rfl hbb | skip
  all_goals
    go_enter Tryd.func13, Tryd.ntmps13
    go_wp2_with fail
    refine (V1.out _).mono ?_
    rintro r y1 ⟨rfl, hx⟩
    have p1 := p0.below hx p0.lt
    have q1 := q0.below hx q0.lt
    have r1 := r0.below hx r0.lt
    have hb1 := hB.trans (hx.mono hB.size)
    clear p0 q0 r0 hB hx
    obtain ⟨a1, a2, -, -⟩ := p1.facts
    obtain ⟨a3, a4, -, -⟩ := q1.facts
    go_wp2_with fail
    refine (V2.out _).mono ?_
    rintro r y2 ⟨rfl, hx⟩
    have p2 := p1.below hx p1.lt
    have q2 := q1.below hx q1.lt
    have r2 := r1.below hx r1.lt
    have hb2 := hb1.trans (hx.mono hb1.size)
    clear a1 a2 a3 a4 p1 q1 r1 hb1 hx
    have hcells : ∀ w' : World, Below y2.heap.size y2 w' → (fun w' => w'.cell? ⟨w.heap.size, 0, none⟩ = some (.int .i64 n) ∧ w'.cell? ⟨w.heap.size, 1, none⟩ = some (.int .i64 d) ∧ w'.cell? ⟨w.heap.size + 1, 0, none⟩ = some (.int .i64 m) ∧ w'.cell? ⟨w.heap.size + 1, 1, none⟩ = some (.int .i64 e)) w' := fun w' hb => by
      obtain ⟨a1, a2, -, -⟩ := (p2.below hb p2.lt).facts
      obtain ⟨a3, a4, -, -⟩ := (q2.below hb q2.lt).facts
      exact ⟨a1, a2, a3, a4⟩
    have hqy2 := Below.refl y2.heap.size y2
    have hry2 := Below.refl y2.heap.size y2
    go_wp2_with fail
    go_region_held3 (fun w' => w'.cell? ⟨w.heap.size, 0, none⟩ = some (.int .i64 n) ∧ w'.cell? ⟨w.heap.size, 1, none⟩ = some (.int .i64 d) ∧ w'.cell? ⟨w.heap.size + 1, 0, none⟩ = some (.int .i64 m) ∧ w'.cell? ⟨w.heap.size + 1, 1, none⟩ = some (.int .i64 e))
      (first | exact hcells _ (hqy2.trans (hry2.drew)) | exact hcells _ (hqy2.trans (by assumption)))
      (first
        | (go_at_call 36; have hz := hs2; refine (T1.out _ _ _ (his1.below hs2') his2).mono ?_; rintro r s3 ⟨us3, rfl, his3, hs3', _⟩; have hs3 : Below y2.heap.size y2 s3 := hs2.trans (hs3'.mono hs2.size))
        | (go_at_call 32; have hz := hs1; refine (D4.out _).mono ?_; rintro r s2 ⟨us2, rfl, his2, hs2', _⟩; have hs2 : Below y2.heap.size y2 s2 := hs1.trans (hs2'.mono hs1.size))
        | (go_at_call 32; refine (D1.out _).mono ?_; rintro r s1 ⟨us1, rfl, his1, hs1', _⟩; have hs1 : Below y2.heap.size y2 s1 := hry2.drew.trans hs1'))
    all_goals
      have hqs3 : Below y2.heap.size y2 s3 := hs3
      have hrs3 := Below.refl s3.heap.size s3
      go_wp2_with fail
      go_region_held3 (fun w' => w'.cell? ⟨w.heap.size, 0, none⟩ = some (.int .i64 n) ∧ w'.cell? ⟨w.heap.size, 1, none⟩ = some (.int .i64 d) ∧ w'.cell? ⟨w.heap.size + 1, 0, none⟩ = some (.int .i64 m) ∧ w'.cell? ⟨w.heap.size + 1, 1, none⟩ = some (.int .i64 e))
        (first | exact hcells _ (hqs3.trans (hrs3.drew.mono hqs3.size)) | exact hcells _ (hqs3.trans (Below.mono (by assumption) hqs3.size)))
        (first
          | (go_at_call 36; have hz := ht2; refine (T2.out _ _ _ (hit1.below ht2') hit2).mono ?_; rintro r t3 ⟨ut3, rfl, hit3, ht3', _⟩; have ht3 : Below s3.heap.size s3 t3 := ht2.trans (ht3'.mono ht2.size))
          | (go_at_call 32; have hz := ht1; refine (D3.out _).mono ?_; rintro r t2 ⟨ut2, rfl, hit2, ht2', _⟩; have ht2 : Below s3.heap.size s3 t2 := ht1.trans (ht2'.mono ht1.size))
          | (go_at_call 32; refine (D2.out _).mono ?_; rintro r t1 ⟨ut1, rfl, hit1, ht1', _⟩; have ht1 : Below s3.heap.size s3 t1 := hrs3.drew.trans ht1'))
      all_goals
        have hqt3 := hqs3.trans (ht3.mono hqs3.size)
        have hrt3 := Below.refl t3.heap.size t3
        go_wp2_with fail
        go_region_held3 (fun w' => w'.cell? ⟨w.heap.size, 0, none⟩ = some (.int .i64 n) ∧ w'.cell? ⟨w.heap.size, 1, none⟩ = some (.int .i64 d) ∧ w'.cell? ⟨w.heap.size + 1, 0, none⟩ = some (.int .i64 m) ∧ w'.cell? ⟨w.heap.size + 1, 1, none⟩ = some (.int .i64 e))
          (first | exact hcells _ (hqt3.trans (hrt3.drew.mono hqt3.size)) | exact hcells _ (hqt3.trans (Below.mono (by assumption) hqt3.size)))
          (first
            | (go_at_call 36; have hz := hv2; refine (T3.out _ _ _ (hiv1.below hv2') hiv2).mono ?_; rintro r v3 ⟨uv3, rfl, hiv3, hv3', _⟩; have hv3 : Below t3.heap.size t3 v3 := hv2.trans (hv3'.mono hv2.size))
            | (go_at_call 32; have hz := hv1; refine (D4.out _).mono ?_; rintro r v2 ⟨uv2, rfl, hiv2, hv2', _⟩; have hv2 : Below t3.heap.size t3 v2 := hv1.trans (hv2'.mono hv1.size))
            | (go_at_call 32; refine (D3.out _).mono ?_; rintro r v1 ⟨uv1, rfl, hiv1, hv1', _⟩; have hv1 : Below t3.heap.size t3 v1 := hrt3.drew.trans hv1'))
        all_goals
          have hqv3 := hqt3.trans (hv3.mono hqt3.size)
          have hA := Lib.hid ((his3.below ht3).below hv3)
          have hC := Lib.hid (hit3.below hv3)
          have hDD := Lib.hid hiv3
          obtain ⟨c1, c2, c3, c4⟩ := hcells v3 hqv3
          go_wp2_with fail
          refine (L1.out _ _ _ hA.out hC.out).mono ?_
          rintro r z3 ⟨rfl, hz3⟩
          have hqz3 := hqv3.trans (hz3.mono hqv3.size)
          have hrz3 := Below.refl z3.heap.size z3
          have hA2 := Lib.hid (hA.out.below hz3)
          have hC2 := Lib.hid (hC.out.below hz3)
          have hDD0 := hDD
          have hDD := Lib.hid (hDD0.out.below hz3)
          clear c1 c2 c3 c4 hDD0
          go_wp2_with fail
          go_region_held3 (fun w' => w'.cell? ⟨w.heap.size, 0, none⟩ = some (.int .i64 n) ∧ w'.cell? ⟨w.heap.size, 1, none⟩ = some (.int .i64 d) ∧ w'.cell? ⟨w.heap.size + 1, 0, none⟩ = some (.int .i64 m) ∧ w'.cell? ⟨w.heap.size + 1, 1, none⟩ = some (.int .i64 e))
            (first | exact hcells _ (hqz3.trans (hrz3.drew.mono hqz3.size)) | exact hcells _ (hqz3.trans (Below.mono (by assumption) hqz3.size)) | exact far4 (hcells _ (hqz3.trans (hx2.mono hqz3.size))) _ _)
            (first
              | (go_at_call 31; have hz := hx1; refine (LO.out _ _ _ hix1 ((hDD.out.below hrz3.drew).below hx1')).mono ?_; rintro r x2 ⟨rfl, hx2'⟩; have hx2 : Below z3.heap.size z3 x2 := hx1.trans (hx2'.mono hx1.size); have t7 := r2.below (hqz3.trans (hx2.mono hqz3.size)) r2.lt; obtain ⟨m1, m2, m3, m4⟩ := t7.facts)
              | (go_at_call 39; refine (OPC.out _ _ _ (hA2.out.below hrz3.drew) (hC2.out.below hrz3.drew)).mono ?_; rintro r x1 ⟨ux1, rfl, hix1, hx1', _⟩; have hx1 : Below z3.heap.size z3 x1 := hrz3.drew.trans hx1'))
          all_goals
            have hb7 := hb2.trans ((hqz3.trans (hx2.mono hqz3.size)).mono hb2.size)
            go_wp2_with fail
            refine bodyPost_ret (v := .tuple #[.agg #[.int .i64 N, .int .i64 D], .int .i64 E]) ?_ rfl ⟨rfl, ?_⟩
            · simp [results, Tryd.results13, go_sem, m1, m2, m3, m4]
            · exact (hb7.setCell (p := ⟨w.heap.size + 1 + 1, 0, none⟩) (by show w.heap.size ≤ w.heap.size + 1 + 1; omega) _).setCell (p := ⟨w.heap.size + 1 + 1, 1, none⟩) (by show w.heap.size ≤ w.heap.size + 1 + 1; omega) _
end Go.Proofs.YtflnhjfmlminoaaDoor.Fr
