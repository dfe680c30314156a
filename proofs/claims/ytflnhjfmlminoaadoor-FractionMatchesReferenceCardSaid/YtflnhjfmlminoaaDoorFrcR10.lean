/- Walks over layer 5's reference: lowest. Written by wip/tools/frlowest.py. -/
import Derived.Test.YtflnhjfmlminoaaDoorFrcR9
import Derived.Test.YtflnhjfmlminoaaDoorFrcW4
namespace Go.Proofs.YtflnhjfmlminoaaDoor.Fr
set_option linter.unusedVariables false
set_option linter.unusedSimpArgs false
open Go.RowKit

/-- what lowest returns -/
def lowOk (p d : Nat) : Prop := p / Nat.gcd p d ≤ 4611686018427387904 ∧ d / Nat.gcd p d ≤ 4611686018427387904
instance (p d : Nat) : Decidable (lowOk p d) := by unfold lowOk; infer_instance
def lowN (neg : Bool) (p d : Nat) : Int := if lowOk p d then (if neg then -((p / Nat.gcd p d : Nat) : Int) else ((p / Nat.gcd p d : Nat) : Int)) else 0
def lowD (p d : Nat) : Int := if lowOk p d then ((d / Nat.gcd p d : Nat) : Int) else 0
def lowE (p d : Nat) : Int := if lowOk p d then 0 else 9

set_option maxRecDepth 100000 in
set_option maxHeartbeats 4000000 in
theorem lowest_any (neg : Bool) (v u : Value) (p d : Nat) (hd : 0 < d) (hpl : (bin p).length ≤ 400) (hdl : (bin d).length ≤ 400) (w : World) (hv : IntSl w v (bin p)) (hu : IntSl w u (bin d)) :
    Calls Tryd.prog 31 #[.bool neg, v, u] w fun e w' => e = .returned (.tuple #[.agg #[.int .i64 (lowN neg p d), .int .i64 (lowD p d)], .int .i64 (lowE p d)]) ∧ Below w.heap.size w w' := by
  obtain ⟨g, hg⟩ : ∃ g, Nat.gcd p d = g := ⟨_, rfl⟩
  have hg0 : 0 < g := by rw [← hg]; exact Nat.gcd_pos_of_pos_right _ hd
  have hgl : (bin g).length ≤ 400 := Nat.le_trans (bin_len_le (by rw [← hg]; exact Nat.le_of_dvd hd (Nat.gcd_dvd_right _ _))) hdl
  obtain ⟨P, hP⟩ : ∃ P, p / g = P := ⟨_, rfl⟩
  obtain ⟨Q, hQ⟩ : ∃ Q, d / g = Q := ⟨_, rfl⟩
  have hPl : (bin P).length ≤ 400 := Nat.le_trans (bin_len_le (by rw [← hP]; exact Nat.div_le_self _ _)) hpl
  have hQl : (bin Q).length ≤ 400 := Nat.le_trans (bin_len_le (by rw [← hQ]; exact Nat.div_le_self _ _)) hdl
  have Hok := Lib.hid (show lowOk p d ↔ P ≤ 4611686018427387904 ∧ Q ≤ 4611686018427387904 by unfold lowOk; rw [hg, hP, hQ])
  have HN := Lib.hid (show lowN neg p d = if lowOk p d then (if neg then -(P : Int) else (P : Int)) else 0 by unfold lowN; rw [hg, hP])
  have HD := Lib.hid (show lowD p d = if lowOk p d then (Q : Int) else 0 by unfold lowD; rw [hg, hQ])
  have HE := Lib.hid (show lowE p d = if lowOk p d then 0 else 9 from rfl)
  obtain ⟨N, hN⟩ : ∃ N, lowN neg p d = N := ⟨_, rfl⟩
  obtain ⟨D, hD⟩ : ∃ D, lowD p d = D := ⟨_, rfl⟩
  obtain ⟨E, hE⟩ : ∃ E, lowE p d = E := ⟨_, rfl⟩
  rw [hN, hD, hE]
  rw [hN] at HN
  rw [hD] at HD
  rw [hE] at HE
  have Hg := Lib.hid hg
  have HP := Lib.hid hP
  have HQ := Lib.hid hQ
  have Hv := Lib.hid hv
  have Hu := Lib.hid hu
  have Hl := Lib.hid (And.intro hpl (And.intro hdl (And.intro hgl (And.intro hPl hQl))))
  obtain ⟨okP, hokP⟩ : ∃ b, decide (P ≤ 4611686018427387904) = b := ⟨_, rfl⟩
  obtain ⟨okQ, hokQ⟩ : ∃ b, decide (Q ≤ 4611686018427387904) = b := ⟨_, rfl⟩
  have HoP := Lib.hid hokP
  have HoQ := Lib.hid hokQ
  obtain ⟨x, hx⟩ : ∃ x, vaN P = x := ⟨_, rfl⟩
  obtain ⟨y, hy⟩ : ∃ y, vaN Q = y := ⟨_, rfl⟩
  have Hx := Lib.hid hx
  have Hy := Lib.hid hy
  have hxb : (x : Int) ≤ 4611686018427387904 := by rw [← hx]; unfold vaN; split <;> omega
  have hyb : (y : Int) ≤ 4611686018427387904 := by rw [← hy]; unfold vaN; split <;> omega
  have Hres := Lib.hid (show (okP = true → okQ = true → (neg = true → N = -(x : Int)) ∧ (neg = false → N = (x : Int)) ∧ D = (y : Int) ∧ E = 0) ∧ ((okP = false ∨ okQ = false) → N = 0 ∧ D = 0 ∧ E = 9) by
    constructor
    · intro h1 h2
      rw [h1] at hokP
      rw [h2] at hokQ
      have a1 := of_decide_eq_true hokP
      have a2 := of_decide_eq_true hokQ
      have a3 : lowOk p d := Hok.out.2 ⟨a1, a2⟩
      rw [HN.out, HD.out, HE.out, if_pos a3, if_pos a3, if_pos a3, ← hx, ← hy]
      unfold vaN
      rw [if_pos a1, if_pos a2]
      refine ⟨fun h => by rw [h]; rfl, fun h => by rw [h]; rfl, rfl, rfl⟩
    · intro h
      have a3 : ¬ lowOk p d := fun hl => by
        have := Hok.out.1 hl
        rcases h with h | h
        · rw [h] at hokP; exact absurd this.1 (of_decide_eq_false hokP)
        · rw [h] at hokQ; exact absurd this.2 (of_decide_eq_false hokQ)
      rw [HN.out, HD.out, HE.out, if_neg a3, if_neg a3, if_neg a3]
      exact ⟨rfl, rfl, rfl⟩)
  have B0 := Lib.hid ((Below.refl w.heap.size w).alloc (Nat.le_refl _) (.cells #[.int .i64 0, .int .i64 0] 23))
  have T0 := Lib.hid (Two.new w 23 (.int .i64 0) (.int .i64 0))
  clear hg hP hQ hv hu hpl hdl hgl hPl hQl hN hD hE hokP hokQ hx hy HN HD HE Hok
  cases okP <;> cases okQ <;> cases neg
  · go_enter Tryd.func31, Tryd.ntmps31
    go_wp2_with (first
      | (go_at_call 51; have hz := hb4; refine (value_any _ Q (by have := Hl.out; omega) _ hi4).mono ?_; rintro e w5 ⟨rfl, hb5⟩; rw [Hy.out, HoQ.out]; have bX := hb1.trans ((hb2.trans ((hb3.trans ((hb4.trans (hb5.mono hb4.size)).mono hb3.size)).mono hb2.size)).mono hb1.size); have Bl := B0.out.trans (bX.mono B0.out.size); have t5 := T0.out.below bX (by simp); obtain ⟨k1, k2, k3, k4⟩ := t5.facts)
      | (go_at_call 52; have hz := hb3; refine (over_any _ _ d g hg0 (by have := Hl.out; omega) (by have := Hl.out; omega) _ ((((Hu.out.below B0.out).below hb1).below hb2).below hb3) ((hi1.below hb2).below hb3)).mono ?_; rintro e w4 ⟨u4, rfl, hi4, hb4, _⟩; rw [HQ.out] at hi4)
      | (go_at_call 51; have hz := hb2; refine (value_any _ P (by have := Hl.out; omega) _ hi2).mono ?_; rintro e w3 ⟨rfl, hb3⟩; rw [Hx.out, HoP.out])
      | (go_at_call 52; have hz := hb1; refine (over_any _ _ p g hg0 (by have := Hl.out; omega) (by have := Hl.out; omega) _ ((Hv.out.below B0.out).below hb1) hi1).mono ?_; rintro e w2 ⟨u2, rfl, hi2, hb2, _⟩; rw [HP.out] at hi2)
      | (go_at_call 41; refine (rdivisor_any _ _ p d (by have := Hl.out; omega) (by have := Hl.out; omega) _ (Hv.out.below B0.out) (Hu.out.below B0.out)).mono ?_; rintro e w1 ⟨u1, rfl, hi1, hb1⟩; rw [Hg.out] at hi1))
    obtain ⟨r1, r3, r4⟩ := Hres.out.2 (by simp)
    rw [r1, r3, r4]
    refine bodyPost_ret (v := .tuple #[.agg #[.int .i64 0, .int .i64 0], .int .i64 9]) ?_ rfl ⟨rfl, ?_⟩
    · simp [results, Tryd.results31, go_sem, k1, k2, k3, k4]
    · exact (Bl.setCell (p := ⟨w.heap.size, 0, none⟩) (Nat.le_refl _) _).setCell (p := ⟨w.heap.size, 1, none⟩) (Nat.le_refl _) _
  · go_enter Tryd.func31, Tryd.ntmps31
    go_wp2_with (first
      | (go_at_call 51; have hz := hb4; refine (value_any _ Q (by have := Hl.out; omega) _ hi4).mono ?_; rintro e w5 ⟨rfl, hb5⟩; rw [Hy.out, HoQ.out]; have bX := hb1.trans ((hb2.trans ((hb3.trans ((hb4.trans (hb5.mono hb4.size)).mono hb3.size)).mono hb2.size)).mono hb1.size); have Bl := B0.out.trans (bX.mono B0.out.size); have t5 := T0.out.below bX (by simp); obtain ⟨k1, k2, k3, k4⟩ := t5.facts)
      | (go_at_call 52; have hz := hb3; refine (over_any _ _ d g hg0 (by have := Hl.out; omega) (by have := Hl.out; omega) _ ((((Hu.out.below B0.out).below hb1).below hb2).below hb3) ((hi1.below hb2).below hb3)).mono ?_; rintro e w4 ⟨u4, rfl, hi4, hb4, _⟩; rw [HQ.out] at hi4)
      | (go_at_call 51; have hz := hb2; refine (value_any _ P (by have := Hl.out; omega) _ hi2).mono ?_; rintro e w3 ⟨rfl, hb3⟩; rw [Hx.out, HoP.out])
      | (go_at_call 52; have hz := hb1; refine (over_any _ _ p g hg0 (by have := Hl.out; omega) (by have := Hl.out; omega) _ ((Hv.out.below B0.out).below hb1) hi1).mono ?_; rintro e w2 ⟨u2, rfl, hi2, hb2, _⟩; rw [HP.out] at hi2)
      | (go_at_call 41; refine (rdivisor_any _ _ p d (by have := Hl.out; omega) (by have := Hl.out; omega) _ (Hv.out.below B0.out) (Hu.out.below B0.out)).mono ?_; rintro e w1 ⟨u1, rfl, hi1, hb1⟩; rw [Hg.out] at hi1))
    obtain ⟨r1, r3, r4⟩ := Hres.out.2 (by simp)
    rw [r1, r3, r4]
    refine bodyPost_ret (v := .tuple #[.agg #[.int .i64 0, .int .i64 0], .int .i64 9]) ?_ rfl ⟨rfl, ?_⟩
    · simp [results, Tryd.results31, go_sem, k1, k2, k3, k4]
    · exact (Bl.setCell (p := ⟨w.heap.size, 0, none⟩) (Nat.le_refl _) _).setCell (p := ⟨w.heap.size, 1, none⟩) (Nat.le_refl _) _
  · go_enter Tryd.func31, Tryd.ntmps31
    go_wp2_with (first
      | (go_at_call 51; have hz := hb4; refine (value_any _ Q (by have := Hl.out; omega) _ hi4).mono ?_; rintro e w5 ⟨rfl, hb5⟩; rw [Hy.out, HoQ.out]; have bX := hb1.trans ((hb2.trans ((hb3.trans ((hb4.trans (hb5.mono hb4.size)).mono hb3.size)).mono hb2.size)).mono hb1.size); have Bl := B0.out.trans (bX.mono B0.out.size); have t5 := T0.out.below bX (by simp); obtain ⟨k1, k2, k3, k4⟩ := t5.facts)
      | (go_at_call 52; have hz := hb3; refine (over_any _ _ d g hg0 (by have := Hl.out; omega) (by have := Hl.out; omega) _ ((((Hu.out.below B0.out).below hb1).below hb2).below hb3) ((hi1.below hb2).below hb3)).mono ?_; rintro e w4 ⟨u4, rfl, hi4, hb4, _⟩; rw [HQ.out] at hi4)
      | (go_at_call 51; have hz := hb2; refine (value_any _ P (by have := Hl.out; omega) _ hi2).mono ?_; rintro e w3 ⟨rfl, hb3⟩; rw [Hx.out, HoP.out])
      | (go_at_call 52; have hz := hb1; refine (over_any _ _ p g hg0 (by have := Hl.out; omega) (by have := Hl.out; omega) _ ((Hv.out.below B0.out).below hb1) hi1).mono ?_; rintro e w2 ⟨u2, rfl, hi2, hb2, _⟩; rw [HP.out] at hi2)
      | (go_at_call 41; refine (rdivisor_any _ _ p d (by have := Hl.out; omega) (by have := Hl.out; omega) _ (Hv.out.below B0.out) (Hu.out.below B0.out)).mono ?_; rintro e w1 ⟨u1, rfl, hi1, hb1⟩; rw [Hg.out] at hi1))
    obtain ⟨r1, r3, r4⟩ := Hres.out.2 (by simp)
    rw [r1, r3, r4]
    refine bodyPost_ret (v := .tuple #[.agg #[.int .i64 0, .int .i64 0], .int .i64 9]) ?_ rfl ⟨rfl, ?_⟩
    · simp [results, Tryd.results31, go_sem, k1, k2, k3, k4]
    · exact (Bl.setCell (p := ⟨w.heap.size, 0, none⟩) (Nat.le_refl _) _).setCell (p := ⟨w.heap.size, 1, none⟩) (Nat.le_refl _) _
  · go_enter Tryd.func31, Tryd.ntmps31
    go_wp2_with (first
      | (go_at_call 51; have hz := hb4; refine (value_any _ Q (by have := Hl.out; omega) _ hi4).mono ?_; rintro e w5 ⟨rfl, hb5⟩; rw [Hy.out, HoQ.out]; have bX := hb1.trans ((hb2.trans ((hb3.trans ((hb4.trans (hb5.mono hb4.size)).mono hb3.size)).mono hb2.size)).mono hb1.size); have Bl := B0.out.trans (bX.mono B0.out.size); have t5 := T0.out.below bX (by simp); obtain ⟨k1, k2, k3, k4⟩ := t5.facts)
      | (go_at_call 52; have hz := hb3; refine (over_any _ _ d g hg0 (by have := Hl.out; omega) (by have := Hl.out; omega) _ ((((Hu.out.below B0.out).below hb1).below hb2).below hb3) ((hi1.below hb2).below hb3)).mono ?_; rintro e w4 ⟨u4, rfl, hi4, hb4, _⟩; rw [HQ.out] at hi4)
      | (go_at_call 51; have hz := hb2; refine (value_any _ P (by have := Hl.out; omega) _ hi2).mono ?_; rintro e w3 ⟨rfl, hb3⟩; rw [Hx.out, HoP.out])
      | (go_at_call 52; have hz := hb1; refine (over_any _ _ p g hg0 (by have := Hl.out; omega) (by have := Hl.out; omega) _ ((Hv.out.below B0.out).below hb1) hi1).mono ?_; rintro e w2 ⟨u2, rfl, hi2, hb2, _⟩; rw [HP.out] at hi2)
      | (go_at_call 41; refine (rdivisor_any _ _ p d (by have := Hl.out; omega) (by have := Hl.out; omega) _ (Hv.out.below B0.out) (Hu.out.below B0.out)).mono ?_; rintro e w1 ⟨u1, rfl, hi1, hb1⟩; rw [Hg.out] at hi1))
    obtain ⟨r1, r3, r4⟩ := Hres.out.2 (by simp)
    rw [r1, r3, r4]
    refine bodyPost_ret (v := .tuple #[.agg #[.int .i64 0, .int .i64 0], .int .i64 9]) ?_ rfl ⟨rfl, ?_⟩
    · simp [results, Tryd.results31, go_sem, k1, k2, k3, k4]
    · exact (Bl.setCell (p := ⟨w.heap.size, 0, none⟩) (Nat.le_refl _) _).setCell (p := ⟨w.heap.size, 1, none⟩) (Nat.le_refl _) _
  · go_enter Tryd.func31, Tryd.ntmps31
    go_wp2_with (first
      | (go_at_call 51; have hz := hb4; refine (value_any _ Q (by have := Hl.out; omega) _ hi4).mono ?_; rintro e w5 ⟨rfl, hb5⟩; rw [Hy.out, HoQ.out]; have bX := hb1.trans ((hb2.trans ((hb3.trans ((hb4.trans (hb5.mono hb4.size)).mono hb3.size)).mono hb2.size)).mono hb1.size); have Bl := B0.out.trans (bX.mono B0.out.size); have t5 := T0.out.below bX (by simp); obtain ⟨k1, k2, k3, k4⟩ := t5.facts)
      | (go_at_call 52; have hz := hb3; refine (over_any _ _ d g hg0 (by have := Hl.out; omega) (by have := Hl.out; omega) _ ((((Hu.out.below B0.out).below hb1).below hb2).below hb3) ((hi1.below hb2).below hb3)).mono ?_; rintro e w4 ⟨u4, rfl, hi4, hb4, _⟩; rw [HQ.out] at hi4)
      | (go_at_call 51; have hz := hb2; refine (value_any _ P (by have := Hl.out; omega) _ hi2).mono ?_; rintro e w3 ⟨rfl, hb3⟩; rw [Hx.out, HoP.out])
      | (go_at_call 52; have hz := hb1; refine (over_any _ _ p g hg0 (by have := Hl.out; omega) (by have := Hl.out; omega) _ ((Hv.out.below B0.out).below hb1) hi1).mono ?_; rintro e w2 ⟨u2, rfl, hi2, hb2, _⟩; rw [HP.out] at hi2)
      | (go_at_call 41; refine (rdivisor_any _ _ p d (by have := Hl.out; omega) (by have := Hl.out; omega) _ (Hv.out.below B0.out) (Hu.out.below B0.out)).mono ?_; rintro e w1 ⟨u1, rfl, hi1, hb1⟩; rw [Hg.out] at hi1))
    obtain ⟨r1, r3, r4⟩ := Hres.out.2 (by simp)
    rw [r1, r3, r4]
    refine bodyPost_ret (v := .tuple #[.agg #[.int .i64 0, .int .i64 0], .int .i64 9]) ?_ rfl ⟨rfl, ?_⟩
    · simp [results, Tryd.results31, go_sem, k1, k2, k3, k4]
    · exact (Bl.setCell (p := ⟨w.heap.size, 0, none⟩) (Nat.le_refl _) _).setCell (p := ⟨w.heap.size, 1, none⟩) (Nat.le_refl _) _
  · go_enter Tryd.func31, Tryd.ntmps31
    go_wp2_with (first
      | (go_at_call 51; have hz := hb4; refine (value_any _ Q (by have := Hl.out; omega) _ hi4).mono ?_; rintro e w5 ⟨rfl, hb5⟩; rw [Hy.out, HoQ.out]; have bX := hb1.trans ((hb2.trans ((hb3.trans ((hb4.trans (hb5.mono hb4.size)).mono hb3.size)).mono hb2.size)).mono hb1.size); have Bl := B0.out.trans (bX.mono B0.out.size); have t5 := T0.out.below bX (by simp); obtain ⟨k1, k2, k3, k4⟩ := t5.facts)
      | (go_at_call 52; have hz := hb3; refine (over_any _ _ d g hg0 (by have := Hl.out; omega) (by have := Hl.out; omega) _ ((((Hu.out.below B0.out).below hb1).below hb2).below hb3) ((hi1.below hb2).below hb3)).mono ?_; rintro e w4 ⟨u4, rfl, hi4, hb4, _⟩; rw [HQ.out] at hi4)
      | (go_at_call 51; have hz := hb2; refine (value_any _ P (by have := Hl.out; omega) _ hi2).mono ?_; rintro e w3 ⟨rfl, hb3⟩; rw [Hx.out, HoP.out])
      | (go_at_call 52; have hz := hb1; refine (over_any _ _ p g hg0 (by have := Hl.out; omega) (by have := Hl.out; omega) _ ((Hv.out.below B0.out).below hb1) hi1).mono ?_; rintro e w2 ⟨u2, rfl, hi2, hb2, _⟩; rw [HP.out] at hi2)
      | (go_at_call 41; refine (rdivisor_any _ _ p d (by have := Hl.out; omega) (by have := Hl.out; omega) _ (Hv.out.below B0.out) (Hu.out.below B0.out)).mono ?_; rintro e w1 ⟨u1, rfl, hi1, hb1⟩; rw [Hg.out] at hi1))
    obtain ⟨r1, r3, r4⟩ := Hres.out.2 (by simp)
    rw [r1, r3, r4]
    refine bodyPost_ret (v := .tuple #[.agg #[.int .i64 0, .int .i64 0], .int .i64 9]) ?_ rfl ⟨rfl, ?_⟩
    · simp [results, Tryd.results31, go_sem, k1, k2, k3, k4]
    · exact (Bl.setCell (p := ⟨w.heap.size, 0, none⟩) (Nat.le_refl _) _).setCell (p := ⟨w.heap.size, 1, none⟩) (Nat.le_refl _) _
  · go_enter Tryd.func31, Tryd.ntmps31
    go_wp2_with (first
      | (go_at_call 51; have hz := hb4; refine (value_any _ Q (by have := Hl.out; omega) _ hi4).mono ?_; rintro e w5 ⟨rfl, hb5⟩; rw [Hy.out, HoQ.out]; have bX := hb1.trans ((hb2.trans ((hb3.trans ((hb4.trans (hb5.mono hb4.size)).mono hb3.size)).mono hb2.size)).mono hb1.size); have Bl := B0.out.trans (bX.mono B0.out.size); have t5 := T0.out.below bX (by simp); obtain ⟨k1, k2, k3, k4⟩ := t5.facts)
      | (go_at_call 52; have hz := hb3; refine (over_any _ _ d g hg0 (by have := Hl.out; omega) (by have := Hl.out; omega) _ ((((Hu.out.below B0.out).below hb1).below hb2).below hb3) ((hi1.below hb2).below hb3)).mono ?_; rintro e w4 ⟨u4, rfl, hi4, hb4, _⟩; rw [HQ.out] at hi4)
      | (go_at_call 51; have hz := hb2; refine (value_any _ P (by have := Hl.out; omega) _ hi2).mono ?_; rintro e w3 ⟨rfl, hb3⟩; rw [Hx.out, HoP.out])
      | (go_at_call 52; have hz := hb1; refine (over_any _ _ p g hg0 (by have := Hl.out; omega) (by have := Hl.out; omega) _ ((Hv.out.below B0.out).below hb1) hi1).mono ?_; rintro e w2 ⟨u2, rfl, hi2, hb2, _⟩; rw [HP.out] at hi2)
      | (go_at_call 41; refine (rdivisor_any _ _ p d (by have := Hl.out; omega) (by have := Hl.out; omega) _ (Hv.out.below B0.out) (Hu.out.below B0.out)).mono ?_; rintro e w1 ⟨u1, rfl, hi1, hb1⟩; rw [Hg.out] at hi1))
    obtain ⟨r1, r2, r3, r4⟩ := Hres.out.1 (by simp) (by simp)
    rw [r2 (by simp), r3, r4]
    refine bodyPost_ret (v := .tuple #[.agg #[.int .i64 ((x : Int)), .int .i64 (y : Int)], .int .i64 0]) ?_ rfl ⟨rfl, ?_⟩
    · simp [results, Tryd.results31, go_sem, k1, k2, k3, k4]
    · exact (Bl.setCell (p := ⟨w.heap.size, 0, none⟩) (Nat.le_refl _) _).setCell (p := ⟨w.heap.size, 1, none⟩) (Nat.le_refl _) _
  · go_enter Tryd.func31, Tryd.ntmps31
    go_wp2_with (first
      | (go_at_call 51; have hz := hb4; refine (value_any _ Q (by have := Hl.out; omega) _ hi4).mono ?_; rintro e w5 ⟨rfl, hb5⟩; rw [Hy.out, HoQ.out]; have bX := hb1.trans ((hb2.trans ((hb3.trans ((hb4.trans (hb5.mono hb4.size)).mono hb3.size)).mono hb2.size)).mono hb1.size); have Bl := B0.out.trans (bX.mono B0.out.size); have t5 := T0.out.below bX (by simp); obtain ⟨k1, k2, k3, k4⟩ := t5.facts)
      | (go_at_call 52; have hz := hb3; refine (over_any _ _ d g hg0 (by have := Hl.out; omega) (by have := Hl.out; omega) _ ((((Hu.out.below B0.out).below hb1).below hb2).below hb3) ((hi1.below hb2).below hb3)).mono ?_; rintro e w4 ⟨u4, rfl, hi4, hb4, _⟩; rw [HQ.out] at hi4)
      | (go_at_call 51; have hz := hb2; refine (value_any _ P (by have := Hl.out; omega) _ hi2).mono ?_; rintro e w3 ⟨rfl, hb3⟩; rw [Hx.out, HoP.out])
      | (go_at_call 52; have hz := hb1; refine (over_any _ _ p g hg0 (by have := Hl.out; omega) (by have := Hl.out; omega) _ ((Hv.out.below B0.out).below hb1) hi1).mono ?_; rintro e w2 ⟨u2, rfl, hi2, hb2, _⟩; rw [HP.out] at hi2)
      | (go_at_call 41; refine (rdivisor_any _ _ p d (by have := Hl.out; omega) (by have := Hl.out; omega) _ (Hv.out.below B0.out) (Hu.out.below B0.out)).mono ?_; rintro e w1 ⟨u1, rfl, hi1, hb1⟩; rw [Hg.out] at hi1))
    obtain ⟨r1, r2, r3, r4⟩ := Hres.out.1 (by simp) (by simp)
    rw [r1 (by simp), r3, r4]
    refine bodyPost_ret (v := .tuple #[.agg #[.int .i64 (-(x : Int)), .int .i64 (y : Int)], .int .i64 0]) ?_ rfl ⟨rfl, ?_⟩
    · simp [results, Tryd.results31, go_sem, k1, k2, k3, k4]
    · exact (Bl.setCell (p := ⟨w.heap.size, 0, none⟩) (Nat.le_refl _) _).setCell (p := ⟨w.heap.size, 1, none⟩) (Nat.le_refl _) _
end Go.Proofs.YtflnhjfmlminoaaDoor.Fr
