/- Walks over the law's helpers of layer 10 (begins, few, sample) and over gazetteerref10 (Ints, Few, begins). -/
import Derived.Test.YtcabhanmeookkaaDoorAlpW9
namespace Go.Proofs.YtcabhanmeookkaaDoor.Al
set_option linter.unusedVariables false
set_option linter.unusedSimpArgs false
open Go.RowKit

set_option maxHeartbeats 1000000 in
theorem lbegins_any (s p : ByteArray) (hs : s.size ≤ 1000000) (hp : p.size ≤ 1000000) (w : World) :
    Calls Tryd.prog 22 #[.string s, .string p] w fun e w' => e = .returned (.bool ((bl p).isPrefixOf (bl s))) ∧ w = w' := by
  have H := Lib.hid (show (bl p).isPrefixOf (bl s) = (decide (p.size ≤ s.size) && ((s.extract 0 p.size).toList == p.toList)) from (Lib.hasPrefix_raw s p).symm)
  generalize (bl p).isPrefixOf (bl s) = R at *
  by_cases h : p.size ≤ s.size
  · have h1 : (p.size : Int) ≤ (s.size : Int) := by omega
    have H2 := Lib.hid (show R = ((s.extract 0 p.size).toList == p.toList) by rw [H.out, decide_eq_true h, Bool.true_and])
    cases hq : ((s.extract 0 p.size).toList == p.toList) with
    | true =>
      rw [hq] at H2
      obtain rfl := H2.out
      go_enter Tryd.func22, Tryd.ntmps22
      go_wp2_with fail
      go_ret
      exact ⟨rfl, rfl⟩
    | false =>
      rw [hq] at H2
      obtain rfl := H2.out
      go_enter Tryd.func22, Tryd.ntmps22
      go_wp2_with fail
      go_ret
      exact ⟨rfl, rfl⟩
  · have h1 : ¬ (p.size : Int) ≤ (s.size : Int) := by omega
    have H2 := Lib.hid (show R = false by rw [H.out, decide_eq_false h, Bool.false_and])
    obtain rfl := H2.out
    go_enter Tryd.func22, Tryd.ntmps22
    go_wp2_with fail
    go_ret
    exact ⟨rfl, rfl⟩

set_option maxHeartbeats 1000000 in
theorem rbegins_any (s p : ByteArray) (hs : s.size ≤ 1000000) (hp : p.size ≤ 1000000) (w : World) :
    Calls Tryd.prog 31 #[.string s, .string p] w fun e w' => e = .returned (.bool ((bl p).isPrefixOf (bl s))) ∧ w = w' := by
  have H := Lib.hid (show (bl p).isPrefixOf (bl s) = (decide (p.size ≤ s.size) && ((s.extract 0 p.size).toList == p.toList)) from (Lib.hasPrefix_raw s p).symm)
  generalize (bl p).isPrefixOf (bl s) = R at *
  by_cases h : p.size ≤ s.size
  · have h1 : (p.size : Int) ≤ (s.size : Int) := by omega
    have H2 := Lib.hid (show R = ((s.extract 0 p.size).toList == p.toList) by rw [H.out, decide_eq_true h, Bool.true_and])
    cases hq : ((s.extract 0 p.size).toList == p.toList) with
    | true =>
      rw [hq] at H2
      obtain rfl := H2.out
      go_enter Tryd.func31, Tryd.ntmps31
      go_wp2_with fail
      go_ret
      exact ⟨rfl, rfl⟩
    | false =>
      rw [hq] at H2
      obtain rfl := H2.out
      go_enter Tryd.func31, Tryd.ntmps31
      go_wp2_with fail
      go_ret
      exact ⟨rfl, rfl⟩
  · have h1 : ¬ (p.size : Int) ≤ (s.size : Int) := by omega
    have H2 := Lib.hid (show R = false by rw [H.out, decide_eq_false h, Bool.false_and])
    obtain rfl := H2.out
    go_enter Tryd.func31, Tryd.ntmps31
    go_wp2_with fail
    go_ret
    exact ⟨rfl, rfl⟩

set_option maxHeartbeats 2000000 in
theorem Ints_any (vx vy : Value) (x y : List Int) (w : World) (hX : IntSl w vx x) (hY : IntSl w vy y) (hxl : x.length ≤ 1000000) :
    Calls Tryd.prog 21 #[vx, vy] w fun e w' => e = .returned (.bool (decide (x = y))) ∧ Below w.heap.size w w' := by
  obtain ⟨R, hR⟩ : ∃ R, decide (x = y) = R := ⟨_, rfl⟩
  have HR := Lib.hid hR
  rw [hR]
  clear hR
  by_cases hl : x.length = y.length
  · by_cases h0 : x.length = 0
    · obtain rfl := List.length_eq_zero_iff.1 h0
      obtain rfl := List.length_eq_zero_iff.1 hl.symm
      obtain rfl : R = true := HR.out.symm.trans rfl
      obtain ⟨a, c, rfl⟩ := hX.form
      obtain ⟨a2, c2, rfl⟩ := hY.form
      go_enter Tryd.func21, Tryd.ntmps21
      go_wp2_with fail
      refine wp_loop_rounds 1 ?_
      rw [rounds_succ]
      go_wp2_with fail
      go_ret
      exact ⟨rfl, Below.refl _ _⟩
    · obtain ⟨b, off, cap, rfl, hb, hm, hcell⟩ := hX.open h0
      obtain ⟨b2, off2, cap2, rfl, hb2, hm2, hcell2⟩ := hY.open (by omega)
      unfold maxLen at hm hm2
      have hne : ((x.length : Int) != (y.length : Int)) = false := by simp [hl]
      have Hl := Lib.hid hl
      have Hc := Lib.hid hcell
      have Hc2 := Lib.hid hcell2
      have hyl : y.length ≤ 1000000 := by omega
      clear hl hcell hcell2
      go_enter Tryd.func21, Tryd.ntmps21
      go_wp2_with fail
      go_loopw [5] (fun i wr => ∃ k : Nat, k ≤ x.length ∧ i = .int .i64 k ∧ Hid (x.take k = y.take k) ∧ Below w.heap.size w wr) (fun i _ => x.length - (intOf i).toNat)
      case atStart => exact ⟨0, by omega, rfl, Lib.hid (by simp), Below.refl _ _⟩
      case round =>
        obtain ⟨k, hk, rfl, He, hbw⟩ := hrel
        by_cases hlt : k < x.length
        · have hlt2 : k < y.length := by have := Hl.out; omega
          have c1 : wr.cell? ⟨b, off + k, none⟩ = some (.int .i64 x[k]) := (hbw.cell (p := ⟨b, off + k, none⟩) hb).trans (Hc.out k hlt)
          have c2 : wr.cell? ⟨b2, off2 + k, none⟩ = some (.int .i64 y[k]) := (hbw.cell (p := ⟨b2, off2 + k, none⟩) hb2).trans (Hc2.out k hlt2)
          have j1 : (k : Int) < (x.length : Int) := by omega
          have j2 : (k : Int) < (y.length : Int) := by omega
          by_cases hq : x[k] = y[k]
          · have hqb : (x[k] != y[k]) = false := by simp [hq]
            have He2 := Lib.hid (show x.take (k + 1) = y.take (k + 1) by rw [List.take_succ_eq_append_getElem hlt, List.take_succ_eq_append_getElem hlt2, He.out, hq])
            clear hq
            go_wp2_with fail
            go_quiet (fail)
            go_wp2_with fail
            go_roundw
            case rel => exact ⟨k + 1, by omega, by go_num, He2, hbw.trans (below_drewN wr nq w.heap.size)⟩
            case measure => simp [intOf]; omega
          · have hqb : (x[k] != y[k]) = true := by simp [hq]
            have Hne := Lib.hid (show decide (x = y) = false by rw [decide_eq_false_iff_not]; rintro rfl; exact hq rfl)
            obtain rfl : R = false := HR.out.symm.trans Hne.out
            clear hq
            go_wp2_with fail
            go_quiet (fail)
            go_wp2_with fail
            go_ret
            exact ⟨rfl, hbw.trans (below_drewN wr nq w.heap.size)⟩
        · obtain rfl : k = x.length := by omega
          have Heq := Lib.hid (show decide (x = y) = true by
            rw [decide_eq_true_eq]
            have h1 := He.out
            rwa [List.take_length, Hl.out, List.take_length] at h1)
          obtain rfl : R = true := HR.out.symm.trans Heq.out
          go_wp2_with fail
          go_ret
          exact ⟨rfl, hbw⟩
  · have hne : ((x.length : Int) != (y.length : Int)) = true := by rw [bne_iff_ne]; omega
    have Hne := Lib.hid (show decide (x = y) = false by rw [decide_eq_false_iff_not]; rintro rfl; exact hl rfl)
    obtain rfl : R = false := HR.out.symm.trans Hne.out
    obtain ⟨a, c, rfl⟩ := hX.form
    obtain ⟨a2, c2, rfl⟩ := hY.form
    go_enter Tryd.func21, Tryd.ntmps21
    go_wp2_with fail
    go_ret
    exact ⟨rfl, Below.refl _ _⟩

/-- the sizes of an alphabet are small -/
def fewA (nm : ByteArray) (L : List ByteArray) (S : List Int) : Bool := (L.take 70).all (fun s => decide (s.size ≤ 20)) && (decide (L.length ≤ 70) && (decide (S.length ≤ 70) && decide (nm.size ≤ 100)))
theorem strSl_len {w : World} {v : Value} {l : List ByteArray} (h : StrSl w v l) : l.length ≤ 9223372036854775807 := by
  rcases h with ⟨rfl, _⟩ | ⟨b, off, cap, hv, h0, hlt, hm, hc⟩
  · simp
  · unfold maxLen at hm; omega
theorem intSl_len {w : World} {v : Value} {l : List Int} (h : IntSl w v l) : l.length ≤ 9223372036854775807 := by
  rcases h with ⟨rfl, _⟩ | ⟨b, off, cap, hv, h0, hlt, hm, hc⟩
  · simp
  · unfold maxLen at hm; omega

set_option maxHeartbeats 2000000 in
theorem Few_any (nm : ByteArray) (vl vs : Value) (L : List ByteArray) (S : List Int) (hnm : nm.size ≤ 9223372036854775807) (w : World) (hL : StrSl w vl L) (hS : IntSl w vs S) :
    Calls Tryd.prog 25 #[.agg #[.string nm, vl, vs]] w fun e w' => e = .returned (.bool (fewA nm L S)) ∧ Below w.heap.size w w' := by
  have HR := Lib.hid (show fewA nm L S = ((L.take 70).all (fun s => decide (s.size ≤ 20)) && (decide (L.length ≤ 70) && (decide (S.length ≤ 70) && decide (nm.size ≤ 100)))) from rfl)
  generalize fewA nm L S = R at *
  have hLl := strSl_len hL
  have hSl := intSl_len hS
  have HL := Lib.hid hL
  obtain ⟨al, cl, rfl⟩ := hL.form
  obtain ⟨asv, cs, rfl⟩ := hS.form
  clear hL hS
  have hb0 : Below w.heap.size w (w.alloc (.cells #[.string nm, .slice al L.length cl, .slice asv S.length cs] 25)) := (Below.refl _ _).alloc (Nat.le_refl _) _
  go_enter Tryd.func25, Tryd.ntmps25
  go_wp2_with fail
  go_loop [3] (fun i => ∃ k : Nat, k ≤ L.length ∧ k ≤ 70 ∧ i = .int .i64 k ∧ Hid (∀ j (h : j < L.length), j < k → L[j].size ≤ 20)) (fun i => L.length - (intOf i).toNat)
  case atStart => exact ⟨0, by omega, by omega, rfl, Lib.hid (fun j _ h => by omega)⟩
  case round =>
    obtain ⟨k, hk, hk70, rfl, Hall⟩ := hrel
    by_cases hlt : k < L.length ∧ k < 70
    · obtain ⟨hlt, hlt70⟩ := hlt
      obtain ⟨b, off, cap, hsl, hb, hm, hcell⟩ := HL.out.open (by omega)
      obtain ⟨rfl, rfl⟩ : al = some ⟨b, off, none⟩ ∧ cl = cap := by simpa using hsl
      have hck := hcell k hlt
      have Hc := Lib.hid hcell
      have q1 : (k : Int) < (L.length : Int) := by omega
      have q2 : (k : Int) < 70 := by omega
      clear hcell hsl
      by_cases h20 : (20 : Int) < (L[k].size : Int)
      · have hR : R = false := by
          rw [HR.out]
          have : (L.take 70).all (fun s => decide (s.size ≤ 20)) = false := by
            rw [List.all_eq_false]
            refine ⟨L[k], ?_, by simp; omega⟩
            exact List.mem_iff_getElem.2 ⟨k, by rw [List.length_take]; omega, by rw [List.getElem_take]⟩
          rw [this]; rfl
        subst hR
        go_wp2_with fail
        go_ret
        exact ⟨rfl, hb0⟩
      · have Hx := Lib.hid (show L[k].size ≤ 20 by omega)
        go_wp2_with fail
        go_round
        case rel =>
          refine ⟨k + 1, by omega, by omega, by go_num, Lib.hid fun j h hj => ?_⟩
          rcases Nat.lt_succ_iff_lt_or_eq.1 hj with h2 | rfl
          · exact Hall.out j h h2
          · exact Hx.out
        case measure => simp [intOf]; omega
    · have hall : (L.take 70).all (fun s => decide (s.size ≤ 20)) = true := by
        rw [List.all_eq_true]
        intro s hs
        obtain ⟨j, hj, rfl⟩ := List.mem_iff_getElem.1 hs
        rw [List.length_take] at hj
        rw [List.getElem_take]
        simp only [decide_eq_true_eq]
        exact Hall.out j (by omega) (by omega)
      have HR2 := Lib.hid (show R = (decide (L.length ≤ 70) && (decide (S.length ≤ 70) && decide (nm.size ≤ 100))) by rw [HR.out, hall]; rfl)
      clear hall
      by_cases h1 : k < L.length
      · have h2 : ¬ (k : Int) < 70 := by omega
        have h3 : (k : Int) < (L.length : Int) := by omega
        have h4 : ¬ (L.length : Int) ≤ 70 := by omega
        have hR : R = false := by rw [HR2.out, decide_eq_false (show ¬ L.length ≤ 70 by omega)]; rfl
        subst hR
        go_wp2_with fail
        go_ret
        exact ⟨rfl, hb0⟩
      · have h3 : ¬ (k : Int) < (L.length : Int) := by omega
        have h4 : (L.length : Int) ≤ 70 := by omega
        by_cases h5 : (S.length : Int) ≤ 70
        · by_cases h6 : (nm.size : Int) ≤ 100
          · have hR : R = true := by rw [HR2.out, decide_eq_true (show L.length ≤ 70 by omega), decide_eq_true (show S.length ≤ 70 by omega), decide_eq_true (show nm.size ≤ 100 by omega)]; rfl
            subst hR
            go_wp2_with fail
            go_ret
            exact ⟨rfl, hb0⟩
          · have hR : R = false := by rw [HR2.out, decide_eq_false (show ¬ nm.size ≤ 100 by omega)]; simp
            subst hR
            go_wp2_with fail
            go_ret
            exact ⟨rfl, hb0⟩
        · have hR : R = false := by rw [HR2.out, decide_eq_false (show ¬ S.length ≤ 70 by omega)]; simp
          subst hR
          go_wp2_with fail
          go_ret
          exact ⟨rfl, hb0⟩

theorem few_any (nm : ByteArray) (vl vs : Value) (L : List ByteArray) (S : List Int) (t : ByteArray) (hnm : nm.size ≤ 9223372036854775807) (ht : t.size ≤ 9223372036854775807) (w : World) (hL : StrSl w vl L) (hS : IntSl w vs S) :
    Calls Tryd.prog 12 #[.agg #[.string nm, vl, vs], .string t] w fun e w' => e = .returned (.bool (fewA nm L S && decide (t.size ≤ 300))) ∧ Below w.heap.size w w' := by
  have hb0 : Below w.heap.size w (w.alloc (.cells #[.string nm, vl, vs] 25)) := (Below.refl _ _).alloc (Nat.le_refl _) _
  have hf := Few_any nm vl vs L S hnm _ (hL.below hb0) (hS.below hb0)
  generalize fewA nm L S = V at *
  cases V with
  | true =>
    by_cases h : (t.size : Int) ≤ 300
    · go_enter Tryd.func12, Tryd.ntmps12
      go_wp2_with fail
      refine hf.mono ?_
      rintro e w1 ⟨rfl, hb1⟩
      go_wp2_with fail
      go_ret
      exact ⟨by simp; omega, hb0.trans (hb1.mono hb0.size)⟩
    · go_enter Tryd.func12, Tryd.ntmps12
      go_wp2_with fail
      refine hf.mono ?_
      rintro e w1 ⟨rfl, hb1⟩
      go_wp2_with fail
      go_ret
      exact ⟨by simp; omega, hb0.trans (hb1.mono hb0.size)⟩
  | false =>
    go_enter Tryd.func12, Tryd.ntmps12
    go_wp2_with fail
    refine hf.mono ?_
    rintro e w1 ⟨rfl, hb1⟩
    go_wp2_with fail
    go_ret
    exact ⟨rfl, hb0.trans (hb1.mono hb0.size)⟩
theorem few_alp {nm : ByteArray} {vl vs : Value} {L : List ByteArray} {S : List Int} {w : World} (h : fewA nm L S = true) (hL : StrSl w vl L) (hS : IntSl w vs S) : Alp nm vl vs L S w ∧ L.length ≤ 70 ∧ S.length ≤ 70 ∧ (∀ l ∈ L, l.size ≤ 20) ∧ nm.size ≤ 100 := by
  unfold fewA at h
  simp only [Bool.and_eq_true, decide_eq_true_eq, List.all_eq_true] at h
  obtain ⟨h1, h2, h3, h4⟩ := h
  rw [List.take_of_length_le h2] at h1
  exact ⟨⟨by omega, by omega, fun l hl => by have := h1 l hl; omega, hL, hS⟩, h2, h3, h1, h4⟩

theorem blk_strSl {W : World} {B : Nat} {l : List ByteArray} (h : Blk W B 9 (l.map Value.string).toArray) (h0 : 0 < l.length) (hm : l.length ≤ 1000) : StrSl W (.slice (some ⟨B, 0, none⟩) l.length l.length) l :=
  .inr ⟨B, 0, l.length, rfl, h0, h.lt, ⟨Nat.le_refl _, by unfold maxLen; omega⟩, fun i hi => by rw [Nat.zero_add, h.cell]; simp [hi]⟩
theorem blk_intSl {W : World} {B : Nat} {l : List Int} (h : Blk W B 3 (l.map (Value.int .i64)).toArray) (h0 : 0 < l.length) (hm : l.length ≤ 1000) : IntSl W (.slice (some ⟨B, 0, none⟩) l.length l.length) l :=
  .inr ⟨B, 0, l.length, rfl, h0, h.lt, ⟨Nat.le_refl _, by unfold maxLen; omega⟩, fun i hi => by rw [Nat.zero_add, h.cell]; simp [hi]⟩

/-! ### The chapter's alphabet -/

def smN : ByteArray := ⟨#[108, 97, 116, 105, 110]⟩
def smL : List ByteArray := [⟨#[97]⟩, ⟨#[97, 98]⟩, ⟨#[99]⟩, ⟨#[65]⟩, ⟨#[67]⟩]
def smS : List Int := [0, 1, 2, 0, 2]

set_option maxHeartbeats 1000000 in
theorem sample_any (w : World) : Calls Tryd.prog 24 #[] w fun e w' => ∃ b1 b2, e = .returned (.agg #[.string smN, .slice (some ⟨b1, 0, none⟩) 5 5, .slice (some ⟨b2, 0, none⟩) 5 5]) ∧ StrSl w' (.slice (some ⟨b1, 0, none⟩) 5 5) smL ∧ IntSl w' (.slice (some ⟨b2, 0, none⟩) 5 5) smS ∧ Below w.heap.size w w' := by
  go_enter Tryd.func24, Tryd.ntmps24
  go_wp2_with fail
  refine bodyPost_ret (v := .agg #[.string smN, .slice (some ⟨w.heap.size + 1, 0, none⟩) 5 5, .slice (some ⟨w.heap.size + 1 + 1, 0, none⟩) 5 5]) ?_ rfl ⟨_, _, rfl, ?_, ?_, ?_⟩
  · simp [results, Tryd.results24, go_sem, smN]
  · exact blk_strSl (l := smL) ((Blk.at (by simp) _ _).alloc _) (by decide) (by decide)
  · exact blk_intSl (l := smS) (Blk.at (by simp) _ _) (by decide) (by decide)
  · exact (((Below.refl _ _).alloc (Nat.le_refl _) _).alloc (by simp) _).alloc (by simp; omega) _
end Go.Proofs.YtcabhanmeookkaaDoor.Al
