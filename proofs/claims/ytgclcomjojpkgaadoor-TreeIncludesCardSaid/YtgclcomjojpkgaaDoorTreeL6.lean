/- The walk over TreeIncludes. -/
import Derived.Test.YtgclcomjojpkgaaDoorTreeL4
import Derived.BigQuiet
import Derived.Deep.QuietTactic
namespace Go.Proofs.YtgclcomjojpkgaaDoor.Dig
set_option linter.unusedVariables false
set_option linter.unusedSimpArgs false
open Go.RowKit
attribute [local go_sem ↓] Go.wp_at_zero Go.wp_at_succ

/-- append at a guarded step of a region that draws its order -/
theorem step_append_str' (w : World) {ops : Array Oper} {o : Oper} {a : Act} {K : Act → World → Prop} {Q : Exit → Act → World → Prop} {E : Prop} (hw : Region.wanted o (yielded ops a.tmps) = true) (s x : Operand)
    (ho : o.op = .call { callee := .builtin .append, args := #[s, x], argTypes := #[22, 22] })
    (B : Nat) (v u : Value) (p q : List ByteArray) (hs : a.eval s = v) (hx : a.eval x = u) (own : OwnStr w B v p) (hq : StrSl w u q) (hlen : p.length + q.length ≤ 1000000) (hB : B ≤ w.heap.size)
    (h : ∀ v' w', OwnStr w' B v' (p ++ q) → w.grownBy w' v.ownBlock → (v'.ownBlock = v.ownBlock ∨ v'.ownBlock = some w.heap.size) → K (a.put o.dst v') w') :
    if Region.wanted o (yielded ops a.tmps) = true then Oper.wp Tryd.prog o a w K Q else E := by
  rw [if_pos hw]
  exact wp_append_str w s x ho B v u p q hs hx own hq hlen hB h

theorem OwnStr.lit0 (w : World) (B : Nat) (hB : B ≤ w.heap.size) : OwnStr (w.alloc (.cells #[] 9)) B (.slice (some ⟨w.heap.size, 0, none⟩) 0 0) [] :=
  World.ownsRow_lit w #[] 0 hB (by decide) (by rfl)

theorem inc_ok (l : List ByteArray) (i : Nat) (hd : l.all digB = true) (hmax : l.length ≤ 1000000) (hi : i < l.length) : checkB (rootB l) (l.length : Int) (i : Int) l[i] (pathB l i) = true := by
  unfold checkB
  rw [Int.toNat_natCast, Int.toNat_natCast, up_path l.length l i (Nat.le_refl _) hi, pathB_length l.length l i (Nat.le_refl _), pathB_dig l.length l i (Nat.le_refl _) hd]
  have h : digB l[i] = true := by
    rw [List.all_eq_true] at hd
    exact hd _ (List.getElem_mem hi)
  rw [h]
  simp
  omega
theorem inc_len (r d : ByteArray) (n i : Nat) (p : List ByteArray) (h : p.length ≠ depth n i) : checkB r (n : Int) (i : Int) d p = false := by
  unfold checkB
  rw [Int.toNat_natCast, Int.toNat_natCast, decide_eq_false h]
  simp
theorem inc_bits (l : List ByteArray) (i : Nat) (h20 : l.length ≤ 20) (hi : i < l.length) : (pathB l i).length ≤ bits2 l.length ∧ ((pathB l i).length = 0 ↔ l.length = 1) := by
  rw [pathB_length l.length l i (Nat.le_refl _)]
  exact depth_bits ⟨l.length, by omega⟩ ⟨i, by omega⟩ hi

set_option maxRecDepth 100000 in
set_option maxHeartbeats 4000000 in
theorem includes_walk (v : Value) (l : List ByteArray) (n : Int) (hn0 : 0 ≤ n) (hn1 : n ≤ 255) (w : World) (hl : StrSl w v l) (ht : Tab w) :
    Calls Tryd.prog 4 #[v, .int .u8 n] w fun e w' => e = .returned (.bool true) ∧ Below w.heap.size w w' := by
  rcases hl with ⟨rfl, a, cap, rfl⟩ | ⟨b, off, cap, rfl, h0, hbb, hm, hc⟩
  · have Hl := Lib.hid (show StrSl w (.slice a 0 cap) [] from .inl ⟨rfl, a, cap, rfl⟩)
    go_enter Tryd.func4, Tryd.ntmps4
    go_wp2_with fail
    refine (head2_any _ ht).mono ?_
    rintro e w1 ⟨rfl, hb1⟩
    go_wp2_with fail
    refine (good_any _ [] _ (Hl.out.below hb1)).mono ?_
    rintro e w2 ⟨rfl, rfl⟩
    rw [show goodB [] = true from rfl]
    go_wp2_with fail
    go_ret
    exact ⟨rfl, hb1⟩
  · have Hl := Lib.hid (show StrSl w (.slice (some ⟨b, off, none⟩) l.length cap) l from .inr ⟨b, off, cap, rfl, h0, hbb, hm, hc⟩)
    have Hc := Lib.hid hc
    unfold maxLen at hm
    have hlz : ((l.length : Int) == 0) = false := by rw [beq_eq_false_iff_ne]; omega
    clear hc
    go_enter Tryd.func4, Tryd.ntmps4
    go_wp2_with fail
    refine (head2_any _ ht).mono ?_
    rintro e w1 ⟨rfl, hb1⟩
    have ht1 := ht.below hb1
    go_wp2_with fail
    refine (good_any _ l _ (Hl.out.below hb1)).mono ?_
    rintro e w2 ⟨rfl, rfl⟩
    cases hg : goodB l with
    | false =>
      go_wp2_with fail
      go_ret
      exact ⟨rfl, hb1⟩
    | true =>
      have l20 := goodB_len hg
      have Hd := Lib.hid (goodB_all hg)
      clear hg
      obtain ⟨i, hil, hi⟩ := index_of n l.length h0 hn0
      have Hi := Lib.hid hi
      clear hi
      go_upto_region 5 with fail
      rw [Hi.out]
      go_wp2_with fail
      refine (rooted_yes _ l Hd.out _ ht1 (Hl.out.below hb1)).mono ?_
      rintro e w2 ⟨rfl, hb2'⟩
      have hb2 := hb1.trans (hb2'.mono hb1.size)
      go_wp2_with fail
      refine (Path_yes _ l i (by unfold pathOk; rw [Hd.out]; simp; omega) (by omega) _ (ht.below hb2) (Hl.out.below hb2)).mono ?_
      rintro e w3 ⟨y, rfl, own, hb3'⟩
      rw [Int.toNat_natCast] at own
      have hb3 := hb2.trans (hb3'.mono hb2.size)
      have hc3 : w3.cell? ⟨b, off + i, none⟩ = some (.string l[i]) := (hb3.cell (p := ⟨b, off + i, none⟩) hbb).trans (Hc.out i hil)
      obtain ⟨pa, pc, rfl, hpc, hpm, hpcut⟩ := strSl_cut own.sl
      have Hps := Lib.hid own.sl
      have Hpcut := Lib.hid hpcut
      have Hok := Lib.hid (inc_ok l i Hd.out (by omega) hil)
      obtain ⟨hbit, hone⟩ := inc_bits l i l20 hil
      have Hone := Lib.hid hone
      have Hpl := Lib.hid (pathB_length l.length l i (Nat.le_refl _))
      have Hxc := Lib.hid (Hc.out i hil)
      generalize hlx : l[i] = x at *
      generalize hpx : pathB l i = P at *
      clear hlx hpx own hpcut hone
      have i0 : (0 : Int) ≤ (i : Int) := by omega
      have i1 : (i : Int) < (l.length : Int) := by omega
      unfold maxLen at hpm
      go_wp2_with fail
      refine (Check_any (rootB l) l.length i x _ P _ (ht.below hb3) Hps.out).mono ?_
      rintro e w4 ⟨rfl, hb4'⟩
      have hb4 := hb3.trans (hb4'.mono hb3.size)
      have Hps4 := Lib.hid (Hps.out.below hb4')
      have Hpc4 := Lib.hid (fun m hm => (Hpcut.out m hm).below hb4')
      rw [Hok.out]
      clear hc3
      go_wp2_with fail
      go_loop [10, 11] (fun d x => ∃ y c : Nat, x = .int .i64 (y : Int) ∧ d = .int .i64 (c : Int) ∧ y ≤ 20 ∧ c ≤ 5 ∧ Hid (c + bits2 y = bits2 l.length)) (fun _ x => (intOf x).toNat)
      case atStart => exact ⟨l.length, 0, rfl, rfl, l20, by omega, Lib.hid (by omega)⟩
      case round =>
        have hb5 := bits2_20 ⟨l.length, by omega⟩
        simp only at hb5
        obtain ⟨y, c, rfl, rfl, hy, hc, Hcc⟩ := hrel
        by_cases hy0 : 0 < y
        · have Hh := Lib.hid (bits2_half y hy0)
          have hc4 : c + 1 ≤ 5 := by
            have h1 := Hcc.out
            have h2 := Hh.out
            omega
          go_wp2_with fail
          go_round
          case rel => exact ⟨y / 2, c + 1, by simp, by go_num, by omega, hc4, Lib.hid (by have h1 := Hcc.out; have h2 := Hh.out; omega)⟩
          case measure => simp [intOf]; omega
        · obtain rfl : y = 0 := by omega
          have hcb : c = bits2 l.length := by
            have h1 := Hcc.out
            have h2 : bits2 0 = 0 := rfl
            omega
          have hle : P.length ≤ c := by omega
          have hgt : decide ((c : Int) < (P.length : Int)) = false := by simp; omega
          have hgt2 : decide (c < P.length) = false := by simp; omega
          clear hcb Hcc
          have hc4 : w4.cell? ⟨b, off + i, none⟩ = some (.string x) := (hb4.cell (p := ⟨b, off + i, none⟩) hbb).trans Hxc.out
          go_wp2_with fail
          have Hno1 := Lib.hid (inc_len (rootB l) x l.length i (([] ++ P) ++ [rootB []]) (by rw [List.length_append, List.nil_append, Hpl.out]; simp))
          have ht4 := ht.below hb4
          have hbb4 : b < w4.heap.size := Nat.lt_of_lt_of_le hbb hb4.size
          have Hc4 := Lib.hid hc4
          have hr4 := Below.refl w4.heap.size w4
          go_region_held3 (fun w' => w'.cell? ⟨b, off + i, none⟩ = some (.string x) ∧ Below w4.heap.size w4 w')
            (first | exact ⟨(Below.cell (p := ⟨b, off + i, none⟩) hr4.drew hbb4).trans Hc4.out, hr4.drew⟩ | exact ⟨(Below.cell (p := ⟨b, off + i, none⟩) (hr4.alloc hr4.size _).drew hbb4).trans Hc4.out, (hr4.alloc hr4.size _).drew⟩ | exact ⟨(Below.cell (p := ⟨b, off + i, none⟩) (hb7.alloc hb7.size _) hbb4).trans Hc4.out, hb7.alloc hb7.size _⟩ | exact ⟨(Below.cell (p := ⟨b, off + i, none⟩) (by assumption) hbb4).trans Hc4.out, by assumption⟩)
            (first
              | (go_at_call 25; refine (rooted_yes (.slice none 0 0) [] rfl _ (ht4.below hb6) (.inl ⟨rfl, none, 0, rfl⟩)).mono ?_; rintro e w7 ⟨rfl, hb7'⟩; have hb7 := hb6.trans (hb7'.mono hb6.size); have own7 := own6.below hb7')
              | (go_at_call 20; refine (Check_any (rootB l) l.length i x v8 (([] ++ P) ++ [rootB []]) _ (ht4.below hb8) own8.sl).mono ?_; rintro e w9 ⟨rfl, hb9'⟩; have hb9 := hb8.trans (hb9'.mono hb8.size); rw [Hno1.out])
              | ((refine step_append_str' _ (by rfl) _ _ (by rfl) w4.heap.size (.slice (some ⟨w4.heap.size, 0, none⟩) 0 0) (.slice pa P.length pc) [] P (by rfl) (by rfl) (World.ownsRow.drew (OwnStr.lit0 w4 _ hr4.size)) (Hps4.out.below (new_below w4 _).drew) (by simp; omega) (by simp) ?_; intro v6 w6 own6 grow6 at6; have hb6 := below_grow' (World.ownsRow.drew (OwnStr.lit0 w4 _ hr4.size)) (hr4.alloc hr4.size _).drew grow6))
              | ((refine step_append_str' _ (by rfl) _ _ (by rfl) w4.heap.size v6 (.slice (some ⟨w7.heap.size, 0, none⟩) 1 1) ([] ++ P) [rootB []] (by rfl) (by rfl) (own7.ofAlloc _) (sl1' _ w7) (by simp; omega) (by have := hb7.size; simp; omega) ?_; intro v8 w8 own8 grow8 at8; have hb8 := below_grow' (own7.ofAlloc _) (hb7.alloc hb7.size _) grow8)))
          have hb10 := hb4.trans (hb9.mono hb4.size)
          have hc9 : w9.cell? ⟨b, off + i, none⟩ = some (.string x) := (hb9.cell (p := ⟨b, off + i, none⟩) hbb4).trans Hc4.out
          by_cases hL : l.length = 1
          · have hP : P.length = 0 := Hone.out.2 hL
            have f1 : ((P.length : Int) == 0) = true := by rw [beq_iff_eq]; omega
            have f2 : ((l.length : Int) == 1) = true := by rw [beq_iff_eq]; omega
            clear hL hP hgt hgt2 hc9 hc4
            go_wp2_with fail
            go_quiet (fail)
            go_wp2_with fail
            go_ret
            exact ⟨rfl, hb10.trans ⟨rfl, rfl, rfl, Nat.le_refl _, fun _ _ => rfl⟩⟩
          · have hP : ¬ P.length = 0 := fun h => hL (Hone.out.1 h)
            have f2 : ((l.length : Int) == 1) = false := by rw [beq_eq_false_iff_ne]; omega
            have ht9 := ht4.below hb9
            have S9 := Lib.hid ((Hpc4.out (P.length - 1) (by omega)).below hb9)
            have Hno2 := Lib.hid (inc_len (rootB l) x l.length i (P.take (P.length - 1)) (by rw [List.length_take, ← Hpl.out]; omega))
            have hbb9 : b < w9.heap.size := Nat.lt_of_lt_of_le hbb4 hb9.size
            have Hc9 := Lib.hid hc9
            have hr9 := Below.refl w9.heap.size w9
            generalize hN : P.length = N at *
            obtain ⟨k, rfl⟩ : ∃ k, N = k + 1 := ⟨N - 1, by omega⟩
            rw [Nat.add_sub_cancel] at S9 Hno2
            have f1 : (((k + 1 : Nat) : Int) == 0) = false := by rw [beq_eq_false_iff_ne]; omega
            have f3 : ((k : Int) + 1 == 0) = false := by rw [beq_eq_false_iff_ne]; omega
            have k0 : (0 : Int) ≤ (k : Int) := by omega
            have k1 : (k : Int) ≤ (pc : Int) := by omega
            have k2 : IntKind.i64.wrap ((k : Int) + 1 - 1) = (k : Int) := by rw [Int.add_sub_cancel]; exact IntWalk.i64_in _ (by omega)
            have k3 : IntKind.i64.wrap (k : Int) = (k : Int) := IntWalk.i64_in _ (by omega)
            clear hL hP hgt hgt2 hc4 hN
            go_wp2_with fail
            go_region_held3 (fun w' => w'.cell? ⟨b, off + i, none⟩ = some (.string x) ∧ Below w9.heap.size w9 w')
              (first | exact ⟨(Below.cell (p := ⟨b, off + i, none⟩) hr9.drew hbb9).trans Hc9.out, hr9.drew⟩ | exact ⟨(Below.cell (p := ⟨b, off + i, none⟩) (by assumption) hbb9).trans Hc9.out, by assumption⟩)
              (first
                | (go_at_call 20; refine (Check_any (rootB l) l.length i x (.slice pa k pc) (P.take k) _ (ht9.below hr9.drew) (S9.out.below hr9.drew)).mono ?_; rintro e w11 ⟨rfl, hb11'⟩; have hb11 : Below w9.heap.size w9 w11 := hr9.drew.trans hb11'; rw [Hno2.out]))
            go_wp2_with fail
            go_ret
            exact ⟨rfl, hb10.trans (hb11.mono hb10.size)⟩

end Go.Proofs.YtgclcomjojpkgaaDoor.Dig
