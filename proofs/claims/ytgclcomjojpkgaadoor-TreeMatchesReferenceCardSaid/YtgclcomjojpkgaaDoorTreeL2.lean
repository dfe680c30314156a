/- The walk over TreeGrows. -/
import Derived.Test.YtgclcomjojpkgaaDoorTreeL1
namespace Go.Proofs.YtgclcomjojpkgaaDoor.Dig
set_option linter.unusedVariables false
set_option linter.unusedSimpArgs false
open Go.RowKit

theorem strSl_cut {w : World} {v : Value} {l : List ByteArray} (h : StrSl w v l) : ∃ a cap, v = .slice a l.length cap ∧ l.length ≤ cap ∧ l.length ≤ maxLen ∧ ∀ m, m ≤ l.length → StrSl w (.slice a m cap) (l.take m) := by
  have h' := h
  rcases h with ⟨rfl, a, cap, rfl⟩ | ⟨b, off, cap, rfl, h0, hb, hm, hc⟩
  · refine ⟨a, cap, rfl, by simp, by decide, fun m hm => ?_⟩
    simp at hm
    subst hm
    exact .inl ⟨rfl, a, cap, rfl⟩
  · exact ⟨_, cap, rfl, hm.1, capLen hm, fun m hm' => h'.take m hm'⟩

theorem bits2_20 : ∀ n : Fin 21, bits2 n.val ≤ 5 := by decide +kernel

theorem linkZ_len (l : List ByteArray) (m : Nat) : (linkZ l m).length = if m = 0 then 0 else span l.length m true := by
  unfold linkZ
  split
  · rfl
  · exact linkB_length l.length l m true (Nat.le_refl _)
theorem grows_len (l : List ByteArray) (m : Nat) (h20 : l.length ≤ 20) (hm : m ≤ l.length) : (linkZ l m).length ≤ bits2 l.length + 1 ∧ ((linkZ l m).length = 0 ↔ (m = 0 ∨ m = l.length)) := by
  rw [linkZ_len]
  by_cases h0 : m = 0
  · rw [if_pos h0]
    exact ⟨by omega, by simp [h0]⟩
  · rw [if_neg h0]
    have := span_bits ⟨l.length, by omega⟩ ⟨m, by omega⟩ (by show 0 < m; omega) hm
    simp only at this
    refine ⟨this.1, ?_⟩
    rw [this.2]
    omega
theorem grows_ok (l : List ByteArray) (m : Nat) (hd : l.all digB = true) (hmax : l.length ≤ 1000000) (hm : m ≤ l.length) : extB (rootB (l.take m)) (m : Int) (rootB l) (l.length : Int) (linkZ l m) = true := by
  unfold extB extN
  rw [Int.toNat_natCast, Int.toNat_natCast, rootB_dig _ (all_take _ hd), rootB_dig _ hd]
  by_cases h0 : m = 0
  · subst h0
    simp only [linkZ, extZ, if_true, List.take_zero, rootB_nil]
    by_cases hl : l.length = 0
    · rw [List.eq_nil_of_length_eq_zero hl, rootB_nil]
      simp
    · simp
      omega
  · have e1 : linkZ l m = linkB l m true := by unfold linkZ; rw [if_neg h0]
    have e2 := bo_link l.length l m true (rootB (l.take m)) (Nat.le_refl _) (by omega) hm (fun _ => rfl)
    have e3 := linkB_length l.length l m true (Nat.le_refl _)
    have e4 := linkB_dig l.length l m true (Nat.le_refl _) hd
    rw [if_neg h0, e1, e4]
    unfold extP
    rw [e2, e3]
    simp
    omega

theorem grows_key (l : List ByteArray) (m : Nat) (h20 : l.length ≤ 20) (hm : m ≤ l.length) :
    ∃ b1 b2 : Bool, ((m : Int) == 0) = b1 ∧ ((m : Int) == (l.length : Int)) = b2 ∧ (((linkZ l m).length : Int) == 0) = (b1 || b2) := by
  obtain ⟨_, h⟩ := grows_len l m h20 hm
  refine ⟨_, _, rfl, rfl, ?_⟩
  rw [Bool.eq_iff_iff]
  simp only [beq_iff_eq, Bool.or_eq_true]
  omega

set_option maxRecDepth 100000 in
set_option maxHeartbeats 4000000 in
theorem grows_walk (v : Value) (l : List ByteArray) (n : Int) (hn0 : 0 ≤ n) (hn1 : n ≤ 255) (w : World) (hl : StrSl w v l) (ht : Tab w) :
    Calls Tryd.prog 7 #[v, .int .u8 n] w fun e w' => e = .returned (.bool true) ∧ Below w.heap.size w w' := by
  have Hl := Lib.hid hl
  obtain ⟨ad, cap, rfl, hcap, hml, hcut⟩ := strSl_cut hl
  have Hcut := Lib.hid hcut
  unfold maxLen at hml
  clear hl hcut
  go_enter Tryd.func7, Tryd.ntmps7
  go_wp2_with fail
  refine (head2_any _ ht).mono ?_
  rintro e w1 ⟨rfl, hb1⟩
  have ht1 := ht.below hb1
  go_wp2_with fail
  refine (good_any _ l _ (Hl.out.below hb1)).mono ?_
  rintro e w2 ⟨rfl, rfl⟩
  cases hg : goodB l with
  | false =>
    go_wp2_with fail
    go_ret
    exact ⟨rfl, hb1⟩
  | true =>
    have l20 := goodB_len hg
    have Hd := Lib.hid (goodB_all hg)
    clear hg
    obtain ⟨m, hm⟩ : ∃ m : Nat, n % ((l.length : Int) + 1) = (m : Int) := ⟨(n % ((l.length : Int) + 1)).toNat, by have := Int.emod_nonneg n (show (l.length : Int) + 1 ≠ 0 by omega); omega⟩
    have hml2 : m ≤ l.length := by
      have := Int.emod_lt_of_pos n (show 0 < (l.length : Int) + 1 by omega)
      omega
    have Hm := Lib.hid hm
    clear hm
    go_wp2_with fail
    rw [Hm.out]
    refine (Link_yes _ l m (by unfold linkOk; rw [Hd.out]; simp; omega) (by omega) _ ht1 (Hl.out.below hb1)).mono ?_
    rintro e w2 ⟨x, rfl, own, hb2'⟩
    rw [Int.toNat_natCast] at own
    have hb2 := hb1.trans (hb2'.mono hb1.size)
    have ht2 := ht1.below hb2'
    have hsx := own.sl
    obtain ⟨xa, xc, rfl, hxm⟩ := strSl_form hsx
    have hlx := (grows_len l m l20 hml2).1
    have Hkey := Lib.hid (grows_key l m l20 hml2)
    have hb5 := bits2_20 ⟨l.length, by omega⟩
    simp only at hb5
    clear own
    go_wp2_with fail
    go_loop [9, 10] (fun d x => ∃ y c : Nat, x = .int .i64 (y : Int) ∧ d = .int .i64 (c : Int) ∧ y ≤ 20 ∧ c ≤ 5 ∧ Hid (c + bits2 y = bits2 l.length)) (fun _ x => (intOf x).toNat)
    case atStart => exact ⟨l.length, 0, rfl, rfl, l20, by omega, Lib.hid (by omega)⟩
    case round =>
      obtain ⟨y, c, rfl, rfl, hy, hc, Hc⟩ := hrel
      by_cases hy0 : 0 < y
      · have Hh := Lib.hid (bits2_half y hy0)
        have hc4 : c + 1 ≤ 5 := by
          have h1 := Hc.out
          have h2 := Hh.out
          omega
        go_wp2_with fail
        go_round
        case rel => exact ⟨y / 2, c + 1, by simp, by go_num, by omega, hc4, Lib.hid (by have h1 := Hc.out; have h2 := Hh.out; omega)⟩
        case measure => simp [intOf]; omega
      · obtain rfl : y = 0 := by omega
        have hcb : c = bits2 l.length := by
          have h1 := Hc.out
          have h2 : bits2 0 = 0 := rfl
          omega
        rw [← hcb] at hlx hb5
        have Hcb := Lib.hid hcb
        clear hcb
        obtain ⟨b1, b2, k1, k2, k3⟩ := Hkey.out
        have Hext := Lib.hid (grows_ok l m Hd.out (by omega) hml2)
        have hmc : (m : Int) ≤ (cap : Int) := by omega
        have hm0 : (0 : Int) ≤ (m : Int) := by omega
        have Hl2 := Lib.hid (Hl.out.below hb2)
        have Hc2 := Lib.hid ((Hcut.out m hml2).below hb2)
        have Hsx := Lib.hid hsx
        clear hsx
        generalize hxl : linkZ l m = X at *
        clear hxl
        have last : ∀ (b1 b2 : Bool), ((m : Int) == 0) = b1 → ((m : Int) == (l.length : Int)) = b2 → ((X.length : Int) == 0) = (b1 || b2) → True := fun _ _ _ _ _ => trivial
        clear last
        cases b1 <;> cases b2
        all_goals simp only [Bool.or_true, Bool.or_false, Bool.true_or, Bool.false_or] at k3
        all_goals go_wp2_with fail
        all_goals refine (rooted_yes _ (l.take m) (all_take _ Hd.out) _ ht2 Hc2.out).mono ?_
        all_goals rintro e w3 ⟨rfl, hb3'⟩
        all_goals have hb3 := hb2.trans (hb3'.mono hb2.size)
        all_goals go_wp2_with fail
        all_goals refine (rooted_yes _ l Hd.out _ (ht2.below hb3') (Hl2.out.below hb3')).mono ?_
        all_goals rintro e w4 ⟨rfl, hb4'⟩
        all_goals have hb4 := hb3.trans (hb4'.mono hb3.size)
        all_goals go_wp2_with fail
        all_goals refine (Extends_any _ _ _ _ _ X _ ((ht2.below hb3').below hb4') ((Hsx.out.below hb3').below hb4')).mono ?_
        all_goals rintro e w5 ⟨rfl, hb5'⟩
        all_goals have hb6 := hb4.trans (hb5'.mono hb4.size)
        all_goals rw [Hext.out]
        all_goals go_wp2_with fail
        all_goals go_ret
        all_goals exact ⟨rfl, hb6⟩

end Go.Proofs.YtgclcomjojpkgaaDoor.Dig
