/- Walks over layer 3's reference: Sign. -/
import Derived.Test.YteapfoadfjjicaaDoorSlmR1
import Derived.Deep.RegionLaw
namespace Go.Proofs.YteapfoadfjjicaaDoor.Dig
set_option linter.unusedVariables false
set_option linter.unusedSimpArgs false
open Go.RowKit

theorem heldFz {W : World} {B : Nat} {x v y : Value} (h : Held W B x v y) (k : Nat) : W.frozen? ⟨B, k, none⟩ = false := by simp [World.frozen?, show W.heap[B]? = _ from h]
theorem grown_cell {w w' : World} {row : Option Nat} (hg : w.grownBy w' row) {b o : Nat} (hlt : b < w.heap.size) (hne : some b ≠ row) : w'.cell? ⟨b, o, none⟩ = w.cell? ⟨b, o, none⟩ := World.cell?_of_block (w := w) (a := ⟨b, o, none⟩) (hg.block b hlt hne)
theorem grown_set1 (W : World) (B o : Nat) (v : Value) : W.grownBy (W.setCell ⟨B, o, none⟩ v) (some B) :=
  ⟨rfl, rfl, rfl, by simp [World.setCell], fun k _ hk => Below.heap_setCell _ _ _ k (fun e => hk (by rw [e]))⟩
theorem grown_more {a w w' : World} {B : Nat} {row : Option Nat} (h : a.grownBy w (some B)) (hg : w.grownBy w' row) (hr : ∀ k, row = some k → k = B ∨ a.heap.size ≤ k) : a.grownBy w' (some B) :=
  ⟨hg.os.trans h.os, hg.tape.trans h.tape, hg.output.trans h.output, Nat.le_trans h.size hg.size, fun k hk hne => (hg.block k (Nat.lt_of_lt_of_le hk h.size) (fun e => by
    rcases hr k e.symm with h1 | h1
    · exact hne (by rw [h1])
    · omega)).trans (h.block k hk hne)⟩

def sigK (s : ByteArray) (i : Nat) (m : ByteArray) (k : Nat) : List ByteArray := (List.range k).map fun k => chainB (startB s i k) (digAt m k)
theorem sigK_all (s : ByteArray) (i : Nat) (m : ByteArray) : sigK s i m 18 = sigB s i m := rfl
theorem sigK_succ (s : ByteArray) (i : Nat) (m : ByteArray) (k : Nat) : sigK s i m (k + 1) = sigK s i m k ++ [chainB (startB s i k) (digAt m k)] := snoc_map_range _ _
theorem sigK_len (s : ByteArray) (i : Nat) (m : ByteArray) (k : Nat) : (sigK s i m k).length = k := by simp [sigK]

set_option maxRecDepth 100000 in
set_option maxHeartbeats 1000000 in
theorem rSign_high (s m : ByteArray) (h i : Int) (hh : okH h = false) (w : World) :
    Calls Tryd.prog 30 #[.string s, .int .i64 h, .int .i64 i, .string m] w fun e w' => e = .returned (.tuple #[zeroS, .int .i64 1]) ∧ Below w.heap.size w w' := by
  unfold okH at hh
  simp only [decide_eq_false_iff_not] at hh
  by_cases h0 : h < 0
  · clear hh
    go_enter Tryd.func30, Tryd.ntmps30
    go_wp2_with fail
    refine bodyPost_ret (v := .tuple #[zeroS, .int .i64 1]) ?_ rfl ⟨rfl, new_below w _⟩
    simp [results, Tryd.f30, go_sem, zeroS]
  · have h8 : 8 < h := by omega
    clear hh
    go_enter Tryd.func30, Tryd.ntmps30
    go_wp2_with fail
    refine bodyPost_ret (v := .tuple #[zeroS, .int .i64 1]) ?_ rfl ⟨rfl, new_below w _⟩
    simp [results, Tryd.f30, go_sem, zeroS]

set_option maxRecDepth 100000 in
set_option maxHeartbeats 1000000 in
theorem rSign_far (s m : ByteArray) (h : Nat) (i : Int) (hh : h ≤ 8) (hi : ¬ (0 ≤ i ∧ i < ((2 ^ h : Nat) : Int))) (w : World) :
    Calls Tryd.prog 30 #[.string s, .int .i64 (h : Int), .int .i64 i, .string m] w fun e w' => e = .returned (.tuple #[zeroS, .int .i64 1]) ∧ Below w.heap.size w w' := by
  have h1 : ¬ (h : Int) < 0 := by omega
  have h2 : ¬ (8 : Int) < (h : Int) := by omega
  have HP := Lib.hid (fun w => Power_any h hh w)
  generalize 2 ^ h = n at *
  by_cases i0 : i < 0
  · clear hi
    go_enter Tryd.func30, Tryd.ntmps30
    go_wp2_with fail
    refine bodyPost_ret (v := .tuple #[zeroS, .int .i64 1]) ?_ rfl ⟨rfl, new_below w _⟩
    simp [results, Tryd.f30, go_sem, zeroS]
  · have i1 : (n : Int) ≤ i := by omega
    clear hi
    go_enter Tryd.func30, Tryd.ntmps30
    go_wp2_with fail
    refine (HP.out _).mono ?_
    rintro e w0 ⟨rfl, rfl⟩
    go_wp2_with fail
    refine bodyPost_ret (v := .tuple #[zeroS, .int .i64 1]) ?_ rfl ⟨rfl, new_below w _⟩
    simp [results, Tryd.f30, go_sem, zeroS]

set_option maxRecDepth 100000 in
set_option maxHeartbeats 4000000 in
theorem rSign_ok (s m : ByteArray) (hs : s.size ≤ 1000) (hm : m.size ≤ 1000) (h i : Nat) (hh : h ≤ 8) (hi : i < 2 ^ h) (w : World) :
    Calls Tryd.prog 30 #[.string s, .int .i64 (h : Int), .int .i64 (i : Int), .string m] w
      fun e w' => ∃ us up, e = .returned (.tuple #[.agg #[.int .i64 (i : Int), us, up], .int .i64 0]) ∧ StrSl w' us (sigB s i m) ∧ StrSl w' up (pathB (leavesB s h) i) ∧ Below w.heap.size w w' := by
  have h1 : ¬ (h : Int) < 0 := by omega
  have h2 : ¬ (8 : Int) < (h : Int) := by omega
  have i0 : ¬ (i : Int) < 0 := by omega
  have hi1000 : i ≤ 1000 := by have := pow_le h hh; omega
  have HP := Lib.hid (fun w => Power_any h hh w)
  have HL := Lib.hid (fun w => rleaves_any s hs h hh w)
  have HPa := Lib.hid (fun v w hl => rPath_yes v (leavesB s h) (leavesB_small s h) (i : Int) (by
    unfold pathOk
    rw [leavesB_dig, leavesB_length, Bool.true_and]
    exact decide_eq_true (by omega)) (by rw [leavesB_length]; have := pow_le h hh; omega) w hl)
  have i1 : ¬ (((2 ^ h : Nat) : Int) ≤ (i : Int)) := by omega
  generalize leavesB s h = LV at *
  generalize 2 ^ h = n at *
  have hR0 := (Held.new w (.int .i64 0) (.slice none 0 0) (.slice none 0 0)).alloc (.cells #[.int .i64 (i : Int), .slice none 0 0, .slice none 0 0] 43)
  have hB0 := Held.new (w.alloc (.cells #[.int .i64 0, .slice none 0 0, .slice none 0 0] 43)) (.int .i64 (i : Int)) (.slice none 0 0) (.slice none 0 0)
  rw [World.size_alloc] at hB0
  have hb0 : Below w.heap.size w ((w.alloc (.cells #[.int .i64 0, .slice none 0 0, .slice none 0 0] 43)).alloc (.cells #[.int .i64 (i : Int), .slice none 0 0, .slice none 0 0] 43)) := (new_below w _).alloc (by simp) _
  go_enter Tryd.func30, Tryd.ntmps30
  go_wp2_with fail
  refine (HP.out _).mono ?_
  rintro e w0 ⟨rfl, rfl⟩
  go_wp2_with fail
  obtain ⟨W0, hW0⟩ : ∃ W0, (w.alloc (.cells #[.int .i64 0, .slice none 0 0, .slice none 0 0] 43)).alloc (.cells #[.int .i64 (i : Int), .slice none 0 0, .slice none 0 0] 43) = W0 := ⟨_, rfl⟩
  rw [hW0] at hR0 hB0 hb0 ⊢
  clear hW0 HP
  refine (Digits_any m hm _).mono ?_
  rintro e w1 ⟨v, rfl, ⟨gd, cd, rfl, hdig⟩, hb1⟩
  have hR1 := hR0.below hb1
  have hB1 := hB0.below hb1
  have hb01 := hb0.trans (hb1.mono hb0.size)
  have hgl : gd < w1.heap.size := World.block_lt_of_cell? _ _ (hdig 0 (by decide))
  have hgne : gd ≠ w.heap.size + 1 := by
    intro e
    have c1 := hdig 1 (by decide)
    have c2 := hB1.cell
    rw [e, c2] at c1
    cases c1
  have Hdg := Lib.hid hdig
  have HR1 := Lib.hid hR1
  have HB1 := Lib.hid hB1
  clear hdig hR0 hB0 hb0 hb1 hR1 hB1
  go_wp2_with fail
  go_loopw [12] (fun c wr => ∃ (k : Nat) (v : Value), k ≤ 18 ∧ c = .int .i64 (k : Int) ∧ Held wr (w.heap.size + 1) (.int .i64 (i : Int)) v (.slice none 0 0) ∧ OwnStr wr w1.heap.size v (sigK s i m k) ∧ w1.grownBy wr (some (w.heap.size + 1))) (fun c _ => 18 - (intOf c).toNat)
  case atStart => exact ⟨0, _, by omega, rfl, HB1.out, OwnStr.nil _ _, grown_of_below (Below.refl _ _) _⟩
  case round =>
    obtain ⟨k, v, hk, rfl, hB, own, hg⟩ := hrel
    have hBlt := hB.lt
    by_cases hlt : k < 18
    · have Hn := Lib.hid (sigK_succ s i m k)
      have hlen := sigK_len s i m k
      have hd15 := digAt_le m k
      have hsz := startB_size s i k
      have HC : Hid (∀ (d : Nat), d ≤ 15 → ∀ w : World, Calls Tryd.prog 54 #[.string (startB s i k), .int .i64 (d : Int)] w fun e w' => e = .returned (.string (chainB (startB s i k) d)) ∧ w = w') := Lib.hid (fun d hd w => rchain_k (startB s i k) (startB_size s i k) d (by omega) w)
      have HS : Hid (∀ w : World, Calls Tryd.prog 55 #[.string s, .int .i64 (i : Int), .int .i64 (k : Int)] w fun e w' => e = .returned (.string (startB s i k)) ∧ Below w.heap.size w w') := Lib.hid (fun w => rstart_any s hs i k hi1000 (by omega) w)
      have hdk := Hdg.out k hlt
      generalize sigK s i m k = SK at *
      generalize digAt m k = d at *
      generalize startB s i k = Y at *
      have hdr : wr.cell? ⟨gd, k, none⟩ = some (.int .i64 (d : Int)) := (grown_cell hg hgl (by simp; omega)).trans hdk
      have hglr : gd < wr.heap.size := Nat.lt_of_lt_of_le hgl hg.size
      have hS : ∀ w', Below wr.heap.size wr w' → w'.cell? ⟨gd, k, none⟩ = some (.int .i64 (d : Int)) := fun w' hw => (hw.cell (p := ⟨gd, k, none⟩) hglr).trans hdr
      have hr : Below wr.heap.size wr wr.drew := (Below.refl _ _).drew
      have y0 := hB.cell
      have y1 : wr.drew.cell? ⟨w.heap.size + 1, 1, none⟩ = some v := hB.cell
      have g2 : (k : Int) < 18 := by omega
      have g0 : (0 : Int) ≤ (k : Int) := by omega
      have hvge : ∀ q, v.ownBlock = some q → w1.heap.size ≤ q := fun q hq => (World.ownsRow.lt own q hq).1
      have nd : some gd ≠ v.ownBlock := fun e => by have := hvge gd e.symm; omega
      have nB := hB.not_row own
      go_wp2_with fail
      have d1 : wr.drew.cell? ⟨gd, k, none⟩ = some (.int .i64 (d : Int)) := hdr
      go_region_law
        (first
          | (go_simp; go_at_call 55; refine (HS.out _).mono ?_; rintro e w2 ⟨rfl, hb2'⟩; have hb2 : Below wr.heap.size wr w2 := hr.trans hb2'; have y2 := (hB.below hb2).cell; have d2 := hS _ hb2)
          | (go_simp; go_at_call 54; refine (HC.out d hd15 _).mono ?_; rintro e w3 ⟨rfl, rfl⟩; have y3 := ((hB.below hb2).alloc (.cells #[.string (chainB Y d)] 9)).cell)
          | (refine step_app _ (by simp [Region.wanted, yielded]) _ _ (by rfl) w1.heap.size v _ SK [chainB Y d] (by simp [Act.eval, Act.put]) (by simp [Act.eval, Act.put]) ((own.below hb2).ofAlloc _) (sl1' _ w2) (by rw [hlen, List.length_singleton]; omega) (by have h1 := hb2.size; have h2 := hg.size; simp; omega) ?_; intro v4 w4 own4 grow4 at4; have own5 := own4; unfold OwnStr at own5; rw [List.length_append, List.length_singleton, hlen] at own5; obtain ⟨g', cap', rfl⟩ := ownsRow_succ own5; clear own5; have hB4 := ((hB.below hb2).alloc (.cells #[.string (chainB Y d)] 9)).kept grow4 nB; have y4 := hB4.cell; have f4 := hB4.frozen))
      all_goals go_wp2_with fail
      all_goals
        go_roundw
        case rel =>
          refine ⟨k + 1, _, by omega, by go_num, hB4.set _, ?_, ?_⟩
          · rw [Hn.out]
            exact World.ownsRow.kept own4 (grown_set1 w4 (w.heap.size + 1) 1 _) (.inr (hB4.not_row own4).symm)
          · refine grown_more (grown_more (grown_more hg (grown_of_below (hb2.alloc hb2.size _) none) (fun _ e => by cases e)) grow4 (fun q hq => .inr (hvge q hq))) (grown_set1 w4 (w.heap.size + 1) 1 _) (fun q hq => by cases hq; exact .inl rfl)
        case measure => simp [intOf]; omega
    · obtain rfl : k = 18 := by omega
      rw [sigK_all] at own
      obtain ⟨SG, hSG⟩ : ∃ SG, sigB s i m = SG := ⟨_, rfl⟩
      rw [hSG] at own
      have HSG := Lib.hid hSG
      clear hSG
      obtain ⟨a, c, rfl, hm1⟩ := strSl_form own.sl
      have hR : Held wr w.heap.size (.int .i64 0) (.slice none 0 0) (.slice none 0 0) := HR1.out.kept hg (by simp)
      have hbr : Below w.heap.size w wr := hb01.grown hg hb01.size (fun q e => by cases e; omega)
      go_wp2_with fail
      refine (HL.out _).mono ?_
      rintro e w2 ⟨vl, rfl, ownl, hb2⟩
      go_wp2_with fail
      refine (HPa.out _ _ ownl.sl).mono ?_
      rintro e w3 ⟨up, rfl, ownp, hb3⟩
      rw [Int.toNat_natCast] at ownp
      obtain ⟨a2, c2, rfl, hm2⟩ := strSl_form ownp.sl
      have hb23 := hb2.trans (hb3.mono hb2.size)
      have hB3 := hB.below hb23
      have hR3 := hR.below hb23
      have own3 := own.below hb23
      have hbr3 := hbr.trans (hb23.mono hbr.size)
      have k2 := hB3.cell2
      have kf := heldFz hB3 2
      have hB4 := hB3.setC (.slice a2 (pathB LV i).length c2)
      have g4 := grown_set1 w3 (w.heap.size + 1) 2 (.slice a2 (pathB LV i).length c2)
      have hR4 := hR3.kept g4 (by simp)
      have own4 : OwnStr _ _ _ _ := World.ownsRow.kept own3 g4 (.inr (hB3.not_row own3).symm)
      have ownp4 : OwnStr _ _ _ _ := World.ownsRow.kept ownp g4 (.inr (hB3.not_row ownp).symm)
      have hbr4 := hbr3.grown g4 hbr3.size (fun q e => by cases e; omega)
      have z0 := hB4.cell0
      have z1 := hB4.cell
      have z2 := hB4.cell2
      have q0 := hR4.cell0
      have q1 := hR4.cell
      have q2 := hR4.cell2
      have e0 := heldFz hR4 0
      have e1 := heldFz hR4 1
      have e2 := heldFz hR4 2
      have hR5 := hR4.set3 (.int .i64 (i : Int)) (.slice a SG.length c) (.slice a2 (pathB LV i).length c2)
      have g5 := grown_set3 (w3.setCell ⟨w.heap.size + 1, 2, none⟩ (.slice a2 (pathB LV i).length c2)) w.heap.size (.int .i64 (i : Int)) (.slice a SG.length c) (.slice a2 (pathB LV i).length c2)
      have own5 : OwnStr _ _ _ _ := World.ownsRow.kept own4 g5 (.inr (hR4.not_row own4).symm)
      have ownp5 : OwnStr _ _ _ _ := World.ownsRow.kept ownp4 g5 (.inr (hR4.not_row ownp4).symm)
      have hbr5 := hbr4.grown g5 hbr4.size (fun q e => by cases e; exact Nat.le_refl _)
      have x0 := hR5.cell0
      have x1 := hR5.cell
      have x2 := hR5.cell2
      have S5 := Lib.hid own5.sl
      have P5 := Lib.hid ownp5.sl
      clear own own3 own4 own5 ownp ownp4 ownp5 hR hR3 hR4 hR5 hB hB3 hB4 g4 g5 hbr hbr3 hbr4 hb2 hb3 hb23 HR1 HB1 Hdg HL HPa ownl
      go_wp2_with fail
      refine bodyPost_ret (v := .tuple #[.agg #[.int .i64 (i : Int), .slice a SG.length c, .slice a2 (pathB LV i).length c2], .int .i64 0]) ?_ rfl ⟨_, _, rfl, by rw [HSG.out]; exact S5.out, P5.out, hbr5⟩
      simp [results, Tryd.f30, go_sem, x0, x1, x2]

end Go.Proofs.YteapfoadfjjicaaDoor.Dig
