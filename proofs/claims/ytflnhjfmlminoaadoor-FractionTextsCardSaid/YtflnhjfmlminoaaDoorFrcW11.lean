/- Walks over package fraction: Add. -/
import Derived.Test.YtflnhjfmlminoaaDoorFrcW10
namespace Go.Proofs.YtflnhjfmlminoaaDoor.Fr
set_option linter.unusedVariables false
set_option linter.unusedSimpArgs false
open Go.RowKit

theorem hi_term (a b : Int) (ha : -4611686018427387904 ≤ a) (ha2 : a ≤ 4611686018427387904) (hb : -4611686018427387904 ≤ b) (hb2 : b ≤ 4611686018427387904) :
    -1152921504606846976 ≤ hiW (a * b) ∧ hiW (a * b) ≤ 1152921504606846976 := by
  have h1 : (a * b).natAbs ≤ 4611686018427387904 * 4611686018427387904 := by
    rw [Int.natAbs_mul]
    exact Nat.mul_le_mul (by omega) (by omega)
  unfold hiW
  omega
/-- what the region of Add leaves: a number of 128 bits in a block of its own -/
def WideAt (W : World) (P : Int) (v : Value) (wx : World) : Prop :=
  ∃ B : Nat, v = .pointer (some ⟨B, 0, none⟩) ∧ (wx.cell? ⟨B, 0, none⟩ = some (.int .i64 (hiW P)) ∧ wx.cell? ⟨B, 1, none⟩ = some (.int .u64 (loW P))) ∧ B < wx.heap.size ∧ Below W.heap.size W wx
theorem ediv_term (a b : Int) (h0 : 1 ≤ b) (h1 : 1 ≤ a) (h2 : a ≤ 4611686018427387904) : 0 ≤ a / b ∧ a / b ≤ 4611686018427387904 :=
  ⟨Int.ediv_nonneg (by omega) (by omega), Int.le_trans (Int.ediv_le_self b (by omega)) h2⟩

set_option maxRecDepth 100000 in
set_option maxHeartbeats 4000000 in
theorem add_val (n d m e : Int) (h : valP n d) (k : valP m e) (w : World) :
    Calls Tryd.prog 12 #[.agg #[.int .i64 n, .int .i64 d], .agg #[.int .i64 m, .int .i64 e]] w fun r w' => r = .returned (.tuple #[.agg #[.int .i64 (rN (addQ n d m e)), .int .i64 (rD (addQ n d m e))], .int .i64 (rE (addQ n d m e))]) ∧ Below w.heap.size w w' := by
  obtain ⟨q1, q2⟩ := add_int h k
  have hV := fun w => valid_yes n d h w
  have hV2 := fun w => valid_yes m e k w
  obtain ⟨n1, n2, d1, d2, -⟩ := h
  obtain ⟨m1, m2, e1, e2, -⟩ := k
  obtain ⟨p1, p2, p3, p4⟩ := gcd_den d e e1 e2
  obtain ⟨v1, v2, v3, v4⟩ := red_small e _ p1 p2 p4 (by omega) (by omega)
  obtain ⟨y1, y2, y3, y4⟩ := red_small d _ p1 p2 p3 (by omega) (by omega)
  have be := ediv_term e ((Nat.gcd d.natAbs e.natAbs : Nat) : Int) (by omega) e1 e2
  have bd := ediv_term d ((Nat.gcd d.natAbs e.natAbs : Nat) : Int) (by omega) d1 d2
  have hG1 := fun w => divisor_any d e (by omega) (by omega) (by omega) (by omega) w
  have hS : sumS n d m e = n * (e / ((Nat.gcd d.natAbs e.natAbs : Nat) : Int)) + m * (d / ((Nat.gcd d.natAbs e.natAbs : Nat) : Int)) := rfl
  have hrest := gcd_rest (sumS n d m e) (Nat.gcd d.natAbs e.natAbs) p1
  have hc : Nat.gcd d.natAbs e.natAbs ∣ e.natAbs := Nat.gcd_dvd_right ..
  generalize Nat.gcd d.natAbs e.natAbs = c at *
  have hlp : 0 < Nat.gcd (sumS n d m e).natAbs c := Nat.gcd_pos_of_pos_right _ p1
  have hlc : Nat.gcd (sumS n d m e).natAbs c ≤ c := Nat.gcd_le_right _ p1
  have hle : ((Nat.gcd (sumS n d m e).natAbs c : Nat) : Int) ∣ e := Int.ofNat_dvd_left.2 (Nat.dvd_trans (Nat.gcd_dvd_right ..) hc)
  obtain ⟨l1, l2, l3, l4⟩ := red_small e _ hlp (by omega) hle (by omega) (by omega)
  have bl := ediv_term e ((Nat.gcd (sumS n d m e).natAbs c : Nat) : Int) (by omega) e1 e2
  have hr0 := Int.emod_nonneg (sumS n d m e) (show (c : Int) ≠ 0 by omega)
  have hr1 := Int.emod_lt_of_pos (sumS n d m e) (show (0 : Int) < (c : Int) by omega)
  have hG2 := fun w => divisor_any (sumS n d m e % (c : Int)) (c : Int) (by omega) (by omega) (by omega) (by omega) w
  have ecc : (c : Int).natAbs = c := Int.natAbs_natCast c
  rw [ecc, hrest] at hG2
  generalize sumS n d m e = S at *
  generalize Nat.gcd S.natAbs c = l at *
  generalize e / (c : Int) = E at *
  generalize d / (c : Int) = D at *
  generalize e / (l : Int) = L at *
  have hP := hi_term n E (by omega) (by omega) (by omega) (by omega)
  have hQ0 := hi_term m D (by omega) (by omega) (by omega) (by omega)
  have hSh : -4611686018427387904 ≤ hiW S ∧ hiW S ≤ 4611686018427387903 := by
    obtain ⟨a, b⟩ := wide_add (n * E) (m * D)
    rw [hS, a]
    have := lo_bd (n * E)
    have := lo_bd (m * D)
    omega
  have hQ := fun w => result_q (addQ n d m e) (S / (l : Int)) (D * L) q1 q2 w
  generalize addQ n d m e = q at *
  have HQ := Lib.hid hQ
  have HG1 := Lib.hid hG1
  have HG2 := Lib.hid hG2
  have HV := Lib.hid hV
  have HV2 := Lib.hid hV2
  have HS := Lib.hid hS
  clear q1 q2 hQ hG1 hG2 hV hV2 hS hrest hc hle ecc
  have t1 := ((Two.new w 23 (.int .i64 n) (.int .i64 d)).alloc (.cells #[.int .i64 m, .int .i64 e] 23)).alloc (.cells #[.int .i64 0, .int .i64 0] 23)
  have s1 := (Two.at (w := w.alloc (.cells #[.int .i64 n, .int .i64 d] 23)) (B := w.heap.size + 1) (by simp) 23 (.int .i64 m) (.int .i64 e)).alloc (.cells #[.int .i64 0, .int .i64 0] 23)
  have r1 := Two.at (w := (w.alloc (.cells #[.int .i64 n, .int .i64 d] 23)).alloc (.cells #[.int .i64 m, .int .i64 e] 23)) (B := w.heap.size + 1 + 1) (by simp) 23 (.int .i64 0) (.int .i64 0)
  have hB0 : Below w.heap.size w (((w.alloc (.cells #[.int .i64 n, .int .i64 d] 23)).alloc (.cells #[.int .i64 m, .int .i64 e] 23)).alloc (.cells #[.int .i64 0, .int .i64 0] 23)) := (((Below.refl w.heap.size w).alloc (Nat.le_refl _) _).alloc (by simp) _).alloc (by simp; omega) _
  go_enter Tryd.func12, Tryd.ntmps12
  go_wp2_with fail
  refine (HV.out _).mono ?_
  rintro r w1 ⟨rfl, hb1⟩
  obtain ⟨c1, c2, c3, c4⟩ := (s1.below hb1 s1.lt).facts
  go_wp2_with fail
  refine (HV2.out _).mono ?_
  rintro r w2 ⟨rfl, hb2'⟩
  have hb2 := hb1.trans (hb2'.mono hb1.size)
  clear c1 c2 c3 c4
  obtain ⟨c1, c2, c3, c4⟩ := (s1.below hb2 s1.lt).facts
  obtain ⟨f1, f2, f3, f4⟩ := (t1.below hb2 t1.lt).facts
  go_wp2_with fail
  refine (HG1.out _).mono ?_
  rintro r w3 ⟨rfl, hb3'⟩
  have hb3 := hb2.trans (hb3'.mono hb2.size)
  clear c1 c2 c3 c4 f1 f2 f3 f4
  have t3 := t1.below hb3 t1.lt
  have s3 := s1.below hb3 s1.lt
  have r3 := r1.below hb3 r1.lt
  have hB3 := hB0.trans (hb3.mono hB0.size)
  clear t1 s1 r1 hb1 hb2 hb2' hb3 hb3' hB0
  go_upto_region 4 with fail
  have hSx : ∀ w' : World, Below w3.heap.size w3 w' → ((w'.cell? ⟨w.heap.size, 0, none⟩ = some (.int .i64 n) ∧ w'.cell? ⟨w.heap.size, 1, none⟩ = some (.int .i64 d)) ∧ w'.cell? ⟨w.heap.size + 1, 0, none⟩ = some (.int .i64 m) ∧ w'.cell? ⟨w.heap.size + 1, 1, none⟩ = some (.int .i64 e)) ∧ Below w3.heap.size w3 w' := fun w' hb =>
    ⟨⟨⟨(t3.below hb t3.lt).facts.1, (t3.below hb t3.lt).facts.2.1⟩, (s3.below hb s3.lt).facts.1, (s3.below hb s3.lt).facts.2.1⟩, hb⟩
  have hr := Below.refl w3.heap.size w3
  have hc0 : ((c : Int) == 0) = false := by simp; omega
  have hc1 : (c == 0) = false := by simp; omega
  have hc2 : ¬ c = 0 := by omega
  go_cut [7] (fun v wx => WideAt w3 S v wx)
  case first =>
    go_region_held3 (fun w' => ((w'.cell? ⟨w.heap.size, 0, none⟩ = some (.int .i64 n) ∧ w'.cell? ⟨w.heap.size, 1, none⟩ = some (.int .i64 d)) ∧ w'.cell? ⟨w.heap.size + 1, 0, none⟩ = some (.int .i64 m) ∧ w'.cell? ⟨w.heap.size + 1, 1, none⟩ = some (.int .i64 e)) ∧ Below w3.heap.size w3 w')
      (first | exact hSx _ hr.drew | exact hSx _ (by assumption) | (refine hSx _ ?_; (repeat (first | assumption | (refine Below.drew ?_) | (refine Below.setCell ?_ ?_ _) | (refine Below.alloc ?_ ?_ _))); all_goals (first | omega | (simp; omega) | simp)))
      (first
        | (go_at_call 30; have hz := hb4; refine (product_any m D (by omega) (by omega) (by omega) (by omega) _).mono ?_; rintro r w5 ⟨rfl, hb5'⟩;
            have hb45 : Below w4.heap.size w4 w5 := (by first | exact hb5' | exact ((Below.refl w4.heap.size w4).alloc (Nat.le_refl _) _).trans (hb5'.mono (by simp)));
            have hb5 : Below w3.heap.size w3 w5 := hb4.trans (hb45.mono hb4.size); have z5 := hb45.size;
            (try (refine cutI (p7.below hb45 p7.lt) (fun q7 => ?_)));
            (try (refine cutI (two_b3 hb5') (fun q7 => ?_))))
        | (go_at_call 30; refine (product_any n E (by omega) (by omega) (by omega) (by omega) _).mono ?_; rintro r w4 ⟨rfl, hb4'⟩;
            have hb4 : Below w3.heap.size w3 w4 := (by first | exact hr.drew.trans hb4' | exact (hr.alloc hr.size _).drew.trans (hb4'.mono (by simp)));
            have z4 := hb4.size;
            (try (refine cutI (two_b1 hb4') (fun p7 => ?_))))
        | (go_at_call 34; refine (plus_any (n * E) (m * D) (by omega) (by omega) _).mono ?_; rintro r w6 ⟨rfl, hb6'⟩;
            have hb56 : Below w5.heap.size w5 w6 := (by first | exact hb6' | exact ((Below.refl w5.heap.size w5).alloc (Nat.le_refl _) _).trans (hb6'.mono (by simp)));
            have hb6 : Below w3.heap.size w3 w6 := hb5.trans (hb56.mono hb5.size); have z6 := hb56.size; rw [← HS.out];
            (try (refine cutI (q7.below hb56 q7.lt) (fun x7 => ?_); obtain ⟨f1, f2, f3, f4⟩ := x7.facts; have lx := x7.lt));
            (try (refine cutI (two_b3 hb6') (fun x7 => ?_); obtain ⟨f1, f2, f3, f4⟩ := x7.facts; have lx := x7.lt))))
    all_goals
      go_wp2_with fail
      go_meet
      refine ⟨_, rfl, ⟨?_, ?_⟩, ?_, ?_⟩
      · go_simp
      · go_simp
      · first | omega | (simp; omega) | simp
      · (repeat (first | assumption | (refine Below.drew ?_) | (refine Below.setCell ?_ ?_ _) | (refine Below.alloc ?_ ?_ _))); all_goals (first | omega | (simp; omega) | simp)
  case rest =>
    obtain ⟨B, rfl, ⟨p1, p2⟩, hlt, hbc⟩ := hcut
    clear hSx hr
    go_wp2_with fail
    refine (wdivide_any S c (by omega) (by omega) (by omega) (by omega) _).mono ?_
    rintro r w4 ⟨rfl, hb4⟩
    have k1 := (hb4.cell (p := ⟨B, 0, none⟩) hlt).trans p1
    have k2 := (hb4.cell (p := ⟨B, 1, none⟩) hlt).trans p2
    clear p1 p2
    have hlt4 := Nat.lt_of_lt_of_le hlt hb4.size
    have hbc4 := hbc.trans (hb4.mono hbc.size)
    go_wp2_with fail
    refine (HG2.out _).mono ?_
    rintro r w5 ⟨rfl, hb5⟩
    have k3 : w5.cell? ⟨B, 0, none⟩ = some (.int .i64 (hiW S)) := by rw [hb5.cell (p := ⟨B, 0, none⟩) (by simp; omega), World.cell?_alloc_past _ _ _ hlt4, k1]
    have k4 : w5.cell? ⟨B, 1, none⟩ = some (.int .u64 (loW S)) := by rw [hb5.cell (p := ⟨B, 1, none⟩) (by simp; omega), World.cell?_alloc_past _ _ _ hlt4, k2]
    clear k1 k2
    have hbc5 := (hbc4.alloc hbc4.size (.cells #[.int .i64 (hiW (S / (c : Int))), .int .u64 (loW (S / (c : Int)))] 45)).trans (hb5.mono (by have := hbc4.size; simp; omega))
    have hlt5 : B < w5.heap.size := by have := hb5.size; simp at this; omega
    go_wp2_with fail
    refine (wdivide_any S l (by omega) (by omega) (by omega) (by omega) _).mono ?_
    rintro r w6 ⟨rfl, hb6⟩
    have hbc6 := hbc5.trans (hb6.mono hbc5.size)
    clear k3 k4
    have hl0 : ((l : Int) == 0) = false := by simp; omega
    have hl1 : (l == 0) = false := by simp; omega
    have hl2 : ¬ l = 0 := by omega
    have t6 := (t3.below hbc6 t3.lt).alloc (.cells #[.int .i64 (hiW (S / (l : Int))), .int .u64 (loW (S / (l : Int)))] 45)
    have s6 := (s3.below hbc6 s3.lt).alloc (.cells #[.int .i64 (hiW (S / (l : Int))), .int .u64 (loW (S / (l : Int)))] 45)
    have r6 := (r3.below hbc6 r3.lt).alloc (.cells #[.int .i64 (hiW (S / (l : Int))), .int .u64 (loW (S / (l : Int)))] 45)
    have x6 := Two.new w6 45 (.int .i64 (hiW (S / (l : Int)))) (.int .u64 (loW (S / (l : Int))))
    have hB6 := (hB3.trans (hbc6.mono hB3.size)).alloc (hB3.trans (hbc6.mono hB3.size)).size (.cells #[.int .i64 (hiW (S / (l : Int))), .int .u64 (loW (S / (l : Int)))] 45)
    go_upto_region 8 with fail
    generalize w6.alloc (.cells #[.int .i64 (hiW (S / (l : Int))), .int .u64 (loW (S / (l : Int)))] 45) = W at t6 s6 r6 x6 hB6 ⊢
    have hSy : ∀ w' : World, Below W.heap.size W w' → ((w'.cell? ⟨w6.heap.size, 0, none⟩ = some (.int .i64 (hiW (S / (l : Int)))) ∧ w'.cell? ⟨w6.heap.size, 1, none⟩ = some (.int .u64 (loW (S / (l : Int))))) ∧ w'.cell? ⟨w.heap.size, 1, none⟩ = some (.int .i64 d) ∧ w'.cell? ⟨w.heap.size + 1, 1, none⟩ = some (.int .i64 e)) := fun w' hb =>
      ⟨⟨(x6.below hb x6.lt).facts.1, (x6.below hb x6.lt).facts.2.1⟩, (t6.below hb t6.lt).facts.2.1, (s6.below hb s6.lt).facts.2.1⟩
    have hge : w.heap.size + 1 + 1 < w6.heap.size := (r3.below hbc6 r3.lt).lt
    have hSz : ∀ (w' : World) (o : Nat) (v : Value), ((w'.cell? ⟨w6.heap.size, 0, none⟩ = some (.int .i64 (hiW (S / (l : Int)))) ∧ w'.cell? ⟨w6.heap.size, 1, none⟩ = some (.int .u64 (loW (S / (l : Int))))) ∧ w'.cell? ⟨w.heap.size, 1, none⟩ = some (.int .i64 d) ∧ w'.cell? ⟨w.heap.size + 1, 1, none⟩ = some (.int .i64 e)) → (((w'.setCell ⟨w.heap.size + 1 + 1, o, none⟩ v).cell? ⟨w6.heap.size, 0, none⟩ = some (.int .i64 (hiW (S / (l : Int)))) ∧ (w'.setCell ⟨w.heap.size + 1 + 1, o, none⟩ v).cell? ⟨w6.heap.size, 1, none⟩ = some (.int .u64 (loW (S / (l : Int))))) ∧ (w'.setCell ⟨w.heap.size + 1 + 1, o, none⟩ v).cell? ⟨w.heap.size, 1, none⟩ = some (.int .i64 d) ∧ (w'.setCell ⟨w.heap.size + 1 + 1, o, none⟩ v).cell? ⟨w.heap.size + 1, 1, none⟩ = some (.int .i64 e)) := fun w' o v h =>
      ⟨⟨(World.cell?_of_block (w := w') (Below.heap_setCell _ _ _ _ (by show w6.heap.size ≠ w.heap.size + 1 + 1; omega))).trans h.1.1, (World.cell?_of_block (w := w') (Below.heap_setCell _ _ _ _ (by show w6.heap.size ≠ w.heap.size + 1 + 1; omega))).trans h.1.2⟩,
        (World.cell?_of_block (w := w') (Below.heap_setCell _ _ _ _ (by show w.heap.size ≠ w.heap.size + 1 + 1; omega))).trans h.2.1, (World.cell?_of_block (w := w') (Below.heap_setCell _ _ _ _ (by show w.heap.size + 1 ≠ w.heap.size + 1 + 1; omega))).trans h.2.2⟩
    have hr := Below.refl W.heap.size W
    go_region_held3 (fun w' => ((w'.cell? ⟨w6.heap.size, 0, none⟩ = some (.int .i64 (hiW (S / (l : Int)))) ∧ w'.cell? ⟨w6.heap.size, 1, none⟩ = some (.int .u64 (loW (S / (l : Int))))) ∧ w'.cell? ⟨w.heap.size, 1, none⟩ = some (.int .i64 d) ∧ w'.cell? ⟨w.heap.size + 1, 1, none⟩ = some (.int .i64 e)))
      (first | exact hSy _ hr.drew | exact hSy _ (by assumption) | exact hSz _ _ _ (hSz _ _ _ (hSy _ (by assumption))))
      (first
        | (go_at_call 30; refine (product_any D L (by omega) (by omega) (by omega) (by omega) _).mono ?_; rintro r w7 ⟨rfl, hb7'⟩; have hb7 : Below W.heap.size W w7 := hr.drew.trans hb7')
        | (go_at_call 29; refine (HQ.out _).mono ?_; rintro r w8 ⟨rfl, hb8'⟩; have hb8 : Below W.heap.size W w8 := hb7.trans (hb8'.mono hb7.size); obtain ⟨f1, f2, f3, f4⟩ := (r6.below hb8 r6.lt).facts))
    go_wp2_with fail
    refine bodyPost_ret (v := .tuple #[.agg #[.int .i64 (rN q), .int .i64 (rD q)], .int .i64 (rE q)]) ?_ rfl ⟨rfl, ?_⟩
    · simp [results, Tryd.results12, go_sem, f1, f2]
    · exact ((hB6.trans (hb8.mono hB6.size)).setCell (by show w.heap.size ≤ w.heap.size + 1 + 1; omega) _).setCell (by show w.heap.size ≤ w.heap.size + 1 + 1; omega) _

theorem add_any (n d m e : Int) (w : World) :
    Calls Tryd.prog 12 #[.agg #[.int .i64 n, .int .i64 d], .agg #[.int .i64 m, .int .i64 e]] w fun r w' => r = .returned (.tuple #[.agg #[.int .i64 (addN n d m e), .int .i64 (addD n d m e)], .int .i64 (addE n d m e)]) ∧ Below w.heap.size w w' := by
  unfold addN addD addE
  by_cases hk : valP n d ∧ valP m e
  · rw [if_pos hk, if_pos hk, if_pos hk]
    exact add_val n d m e hk.1 hk.2 w
  · rw [if_neg hk, if_neg hk, if_neg hk]
    have r1 := Two.at (w := (w.alloc (.cells #[.int .i64 n, .int .i64 d] 23)).alloc (.cells #[.int .i64 m, .int .i64 e] 23)) (B := w.heap.size + 1 + 1) (by simp) 23 (.int .i64 0) (.int .i64 0)
    by_cases h : valP n d
    · have k : ¬ valP m e := fun k => hk ⟨h, k⟩
      have s1 := (Two.at (w := w.alloc (.cells #[.int .i64 n, .int .i64 d] 23)) (B := w.heap.size + 1) (by simp) 23 (.int .i64 m) (.int .i64 e)).alloc (.cells #[.int .i64 0, .int .i64 0] 23)
      go_enter Tryd.func12, Tryd.ntmps12
      go_wp2_with fail
      refine (valid_yes n d h _).mono ?_
      rintro r w1 ⟨rfl, hb1⟩
      obtain ⟨c1, c2, c3, c4⟩ := (s1.below hb1 s1.lt).facts
      go_wp2_with fail
      refine (valid_no m e k _).mono ?_
      rintro r w2 ⟨rfl, hb2'⟩
      have hb2 := hb1.trans (hb2'.mono hb1.size)
      clear c1 c2 c3 c4
      obtain ⟨c1, c2, c3, c4⟩ := (r1.below hb2 r1.lt).facts
      go_wp2_with fail
      refine bodyPost_ret (v := .tuple #[.agg #[.int .i64 0, .int .i64 0], .int .i64 1]) ?_ rfl ⟨rfl, ?_⟩
      · simp [results, Tryd.results12, go_sem, c1, c2]
      · exact ((((((Below.refl w.heap.size w).alloc (Nat.le_refl _) _).alloc (by simp) _).alloc (by simp; omega) _).trans (hb2.mono (by simp; omega))).setCell (by show w.heap.size ≤ w.heap.size + 1 + 1; omega) _).setCell (by show w.heap.size ≤ w.heap.size + 1 + 1; omega) _
    · go_enter Tryd.func12, Tryd.ntmps12
      go_wp2_with fail
      refine (valid_no n d h _).mono ?_
      rintro r w1 ⟨rfl, hb2⟩
      obtain ⟨c1, c2, c3, c4⟩ := (r1.below hb2 r1.lt).facts
      go_wp2_with fail
      refine bodyPost_ret (v := .tuple #[.agg #[.int .i64 0, .int .i64 0], .int .i64 1]) ?_ rfl ⟨rfl, ?_⟩
      · simp [results, Tryd.results12, go_sem, c1, c2]
      · exact ((((((Below.refl w.heap.size w).alloc (Nat.le_refl _) _).alloc (by simp) _).alloc (by simp; omega) _).trans (hb2.mono (by simp; omega))).setCell (by show w.heap.size ≤ w.heap.size + 1 + 1; omega) _).setCell (by show w.heap.size ≤ w.heap.size + 1 + 1; omega) _
end Go.Proofs.YtflnhjfmlminoaaDoor.Fr
