/- Walks over package tree: Extends. -/
import Derived.Test.YtgclcomjojpkgaaDoorTreeW9
namespace Go.Proofs.YtgclcomjojpkgaaDoor.Dig
set_option linter.unusedVariables false
set_option linter.unusedSimpArgs false
open Go.RowKit

/-- what Extends answers for m = 0, and for a greater one -/
def extZ (old root : ByteArray) (n : Nat) (p : List ByteArray) : Bool := decide (p.length = 0) && (decide (old = emptyB) && (decide (0 < n) || decide (root = old)))
def extP (old : ByteArray) (m : Nat) (root : ByteArray) (n : Nat) (p : List ByteArray) : Bool := decide (p.length = span n m true) && (decide ((boB n m true old p).1 = old) && decide ((boB n m true old p).2 = root))
def extN (old : ByteArray) (m : Nat) (root : ByteArray) (n : Nat) (p : List ByteArray) : Bool := digB old && (digB root && (p.all digB && (if m = 0 then extZ old root n p else extP old m root n p)))
def extB (old : ByteArray) (m : Int) (root : ByteArray) (n : Int) (p : List ByteArray) : Bool := decide (0 ≤ m ∧ m ≤ n ∧ n ≤ 1000000) && extN old m.toNat root n.toNat p

set_option maxRecDepth 100000 in
set_option maxHeartbeats 1000000 in
theorem Extends_far (old : ByteArray) (m : Int) (root : ByteArray) (n : Int) (v : Value) (p : List ByteArray) (w : World) (hr : ¬ (0 ≤ m ∧ m ≤ n ∧ n ≤ 1000000)) (hl : StrSl w v p) :
    Calls Tryd.prog 22 #[.string old, .int .i64 m, .string root, .int .i64 n, v] w fun e w' => e = .returned (.bool false) ∧ Below w.heap.size w w' := by
  obtain ⟨a, cap, rfl, hm⟩ := strSl_form hl
  clear hl
  have hb := new_below w (.cells #[.slice a p.length cap, .bool false] 47)
  by_cases h1 : m < 0
  · clear hr
    go_enter Tryd.func22, Tryd.ntmps22
    go_wp2_with fail
    go_ret
    exact ⟨rfl, hb⟩
  · by_cases h2 : n < m
    · clear hr
      go_enter Tryd.func22, Tryd.ntmps22
      go_wp2_with fail
      go_ret
      exact ⟨rfl, hb⟩
    · have h3 : 1000000 < n := by omega
      clear hr
      go_enter Tryd.func22, Tryd.ntmps22
      go_wp2_with fail
      go_ret
      exact ⟨rfl, hb⟩

set_option maxRecDepth 100000 in
set_option maxHeartbeats 1000000 in
/-- one of the strings is no digest -/
theorem Extends_bad (old : ByteArray) (m : Nat) (root : ByteArray) (n : Nat) (v : Value) (p : List ByteArray) (w : World) (hi : m ≤ n) (hn : n ≤ 1000000) (hl : StrSl w v p)
    (hbad : (digB old && (digB root && p.all digB)) = false) :
    Calls Tryd.prog 22 #[.string old, .int .i64 (m : Int), .string root, .int .i64 (n : Int), v] w fun e w' => e = .returned (.bool false) ∧ Below w.heap.size w w' := by
  have Hl := Lib.hid hl
  obtain ⟨a, cap, rfl, hm⟩ := strSl_form hl
  have hb := new_below w (.cells #[.slice a p.length cap, .bool false] 47)
  clear hl
  cases hd : digB old with
  | false =>
    have Hd := Lib.hid (show isDig (bl old) = false from hd)
    clear hd hbad
    go_enter Tryd.func22, Tryd.ntmps22
    go_wp2_with fail
    refine (is_any old _).mono ?_
    rintro e w1 ⟨rfl, rfl⟩
    rw [Hd.out]
    go_wp2_with fail
    go_ret
    exact ⟨rfl, hb⟩
  | true =>
    have Hd := Lib.hid (show isDig (bl old) = true from hd)
    rw [hd, Bool.true_and] at hbad
    clear hd
    cases hd2 : digB root with
    | false =>
      have Hd2 := Lib.hid (show isDig (bl root) = false from hd2)
      clear hd2 hbad
      go_enter Tryd.func22, Tryd.ntmps22
      go_wp2_with fail
      refine (is_any old _).mono ?_
      rintro e w1 ⟨rfl, rfl⟩
      rw [Hd.out]
      go_wp2_with fail
      refine (is_any root _).mono ?_
      rintro e w1 ⟨rfl, rfl⟩
      rw [Hd2.out]
      go_wp2_with fail
      go_ret
      exact ⟨rfl, hb⟩
    | true =>
      have Hd2 := Lib.hid (show isDig (bl root) = true from hd2)
      rw [hd2, Bool.true_and] at hbad
      have Ha := Lib.hid hbad
      clear hd2 hbad
      go_enter Tryd.func22, Tryd.ntmps22
      go_wp2_with fail
      refine (is_any old _).mono ?_
      rintro e w1 ⟨rfl, rfl⟩
      rw [Hd.out]
      go_wp2_with fail
      refine (is_any root _).mono ?_
      rintro e w1 ⟨rfl, rfl⟩
      rw [Hd2.out]
      go_wp2_with fail
      refine (valid_any _ p _ (Hl.out.below hb)).mono ?_
      rintro e w1 ⟨rfl, rfl⟩
      rw [Ha.out]
      go_wp2_with fail
      go_ret
      exact ⟨rfl, hb⟩

set_option maxRecDepth 100000 in
set_option maxHeartbeats 1000000 in
theorem Extends_zero (old root : ByteArray) (n : Nat) (v : Value) (p : List ByteArray) (w : World) (hn : n ≤ 1000000) (ht : Tab w) (hl : StrSl w v p) (h1 : digB old = true) (h2 : digB root = true) (h3 : p.all digB = true) :
    Calls Tryd.prog 22 #[.string old, .int .i64 0, .string root, .int .i64 (n : Int), v] w fun e w' => e = .returned (.bool (extZ old root n p)) ∧ Below w.heap.size w w' := by
  have Hl := Lib.hid hl
  obtain ⟨a, cap, rfl, hm⟩ := strSl_form hl
  have hb := new_below w (.cells #[.slice a p.length cap, .bool false] 47)
  have Hd := Lib.hid (show isDig (bl old) = true from h1)
  have Hd2 := Lib.hid (show isDig (bl root) = true from h2)
  have Ha := Lib.hid h3
  clear hl h1 h2 h3
  by_cases hp : p.length = 0
  · have hlz : ((p.length : Int) == 0) = true := by rw [beq_iff_eq]; omega
    by_cases ho : old = emptyB
    · have hs := str_eq ho
      by_cases hz : 0 < n
      · have Hf := Lib.hid (show extZ old root n p = true by unfold extZ; rw [decide_eq_true hp, decide_eq_true ho, decide_eq_true hz]; rfl)
        rw [Hf.out]
        clear hp ho
        go_enter Tryd.func22, Tryd.ntmps22
        go_wp2_with fail
        refine (is_any old _).mono ?_
        rintro e w1 ⟨rfl, rfl⟩
        rw [Hd.out]
        go_wp2_with fail
        refine (is_any root _).mono ?_
        rintro e w1 ⟨rfl, rfl⟩
        rw [Hd2.out]
        go_wp2_with fail
        refine (valid_any _ p _ (Hl.out.below hb)).mono ?_
        rintro e w1 ⟨rfl, rfl⟩
        rw [Ha.out]
        go_wp2_with fail
        refine (empty_any _ (ht.below hb)).mono ?_
        rintro e w2 ⟨rfl, hb2⟩
        go_wp2_with fail
        go_ret
        exact ⟨rfl, hb.trans (hb2.mono hb.size)⟩
      · obtain rfl : n = 0 := by omega
        by_cases hq : root = old
        · have Hf := Lib.hid (show extZ old root 0 p = true by unfold extZ; rw [decide_eq_true hp, decide_eq_true ho, decide_eq_true hq]; rfl)
          have hs2 := str_eq hq
          rw [Hf.out]
          clear hp ho hz hq
          go_enter Tryd.func22, Tryd.ntmps22
          go_wp2_with fail
          refine (is_any old _).mono ?_
          rintro e w1 ⟨rfl, rfl⟩
          rw [Hd.out]
          go_wp2_with fail
          refine (is_any root _).mono ?_
          rintro e w1 ⟨rfl, rfl⟩
          rw [Hd2.out]
          go_wp2_with fail
          refine (valid_any _ p _ (Hl.out.below hb)).mono ?_
          rintro e w1 ⟨rfl, rfl⟩
          rw [Ha.out]
          go_wp2_with fail
          refine (empty_any _ (ht.below hb)).mono ?_
          rintro e w2 ⟨rfl, hb2⟩
          go_wp2_with fail
          go_ret
          exact ⟨rfl, hb.trans (hb2.mono hb.size)⟩
        · have Hf := Lib.hid (show extZ old root 0 p = false by unfold extZ; rw [decide_eq_false hq]; simp)
          have hs2 := str_ne hq
          rw [Hf.out]
          clear hp ho hz hq
          go_enter Tryd.func22, Tryd.ntmps22
          go_wp2_with fail
          refine (is_any old _).mono ?_
          rintro e w1 ⟨rfl, rfl⟩
          rw [Hd.out]
          go_wp2_with fail
          refine (is_any root _).mono ?_
          rintro e w1 ⟨rfl, rfl⟩
          rw [Hd2.out]
          go_wp2_with fail
          refine (valid_any _ p _ (Hl.out.below hb)).mono ?_
          rintro e w1 ⟨rfl, rfl⟩
          rw [Ha.out]
          go_wp2_with fail
          refine (empty_any _ (ht.below hb)).mono ?_
          rintro e w2 ⟨rfl, hb2⟩
          go_wp2_with fail
          go_ret
          exact ⟨rfl, hb.trans (hb2.mono hb.size)⟩
    · have hs := str_ne ho
      have Hf := Lib.hid (show extZ old root n p = false by unfold extZ; rw [decide_eq_false ho]; simp)
      rw [Hf.out]
      clear hp ho
      go_enter Tryd.func22, Tryd.ntmps22
      go_wp2_with fail
      refine (is_any old _).mono ?_
      rintro e w1 ⟨rfl, rfl⟩
      rw [Hd.out]
      go_wp2_with fail
      refine (is_any root _).mono ?_
      rintro e w1 ⟨rfl, rfl⟩
      rw [Hd2.out]
      go_wp2_with fail
      refine (valid_any _ p _ (Hl.out.below hb)).mono ?_
      rintro e w1 ⟨rfl, rfl⟩
      rw [Ha.out]
      go_wp2_with fail
      refine (empty_any _ (ht.below hb)).mono ?_
      rintro e w2 ⟨rfl, hb2⟩
      go_wp2_with fail
      go_ret
      exact ⟨rfl, hb.trans (hb2.mono hb.size)⟩
  · have hlz : ((p.length : Int) == 0) = false := by rw [beq_eq_false_iff_ne]; omega
    have Hf := Lib.hid (show extZ old root n p = false by unfold extZ; rw [decide_eq_false hp]; rfl)
    rw [Hf.out]
    clear hp
    go_enter Tryd.func22, Tryd.ntmps22
    go_wp2_with fail
    refine (is_any old _).mono ?_
    rintro e w1 ⟨rfl, rfl⟩
    rw [Hd.out]
    go_wp2_with fail
    refine (is_any root _).mono ?_
    rintro e w1 ⟨rfl, rfl⟩
    rw [Hd2.out]
    go_wp2_with fail
    refine (valid_any _ p _ (Hl.out.below hb)).mono ?_
    rintro e w1 ⟨rfl, rfl⟩
    rw [Ha.out]
    go_wp2_with fail
    go_ret
    exact ⟨rfl, hb⟩

set_option maxRecDepth 100000 in
set_option maxHeartbeats 1000000 in
theorem Extends_pos (old : ByteArray) (m : Nat) (root : ByteArray) (n : Nat) (v : Value) (p : List ByteArray) (w : World) (hm0 : 1 ≤ m) (hmn : m ≤ n) (hn : n ≤ 1000000) (ht : Tab w) (hl : StrSl w v p) (h1 : digB old = true) (h2 : digB root = true) (h3 : p.all digB = true) :
    Calls Tryd.prog 22 #[.string old, .int .i64 (m : Int), .string root, .int .i64 (n : Int), v] w fun e w' => e = .returned (.bool (extP old m root n p)) ∧ Below w.heap.size w w' := by
  have Hl := Lib.hid hl
  obtain ⟨a, cap, rfl, hm⟩ := strSl_form hl
  have hb := new_below w (.cells #[.slice a p.length cap, .bool false] 47)
  have Hd := Lib.hid (show isDig (bl old) = true from h1)
  have Hd2 := Lib.hid (show isDig (bl root) = true from h2)
  have hds : old.size ≤ 1000 := by rw [digB_size h1]; decide
  have Ha := Lib.hid h3
  have hmz : ((m : Int) == 0) = false := by rw [beq_eq_false_iff_ne]; omega
  have Hrs := Lib.hid (rs_check n m true old old root p)
  have Hrest := Lib.hid (restNew w _ p Hl.out)
  have Hx := Lib.hid (show extP old m root n p = _ from rfl)
  clear hl h1 h2 h3
  go_enter Tryd.func22, Tryd.ntmps22
  go_wp2_with fail
  refine (is_any old _).mono ?_
  rintro e w1 ⟨rfl, rfl⟩
  rw [Hd.out]
  go_wp2_with fail
  refine (is_any root _).mono ?_
  rintro e w1 ⟨rfl, rfl⟩
  rw [Hd2.out]
  go_wp2_with fail
  refine (valid_any _ p _ (Hl.out.below hb)).mono ?_
  rintro e w1 ⟨rfl, rfl⟩
  rw [Ha.out]
  go_wp2_with fail
  refine (rs_on w ht w.heap.size n n m old true (p, false) _ (Nat.le_refl _) hm0 hmn hn hds (small_dig Ha.out) Hrest.out hb).mono ?_
  rintro e w1 ⟨rfl, hr1, hb1⟩
  generalize rsB n m true old (p, false) = x at *
  by_cases hq : x.1 = old
  · have hs := str_eq hq
    by_cases hq2 : x.2.1 = root
    · have hs2 := str_eq hq2
      have Hf := Lib.hid (show extP old m root n p = exactB x.2.2 by unfold extP; rw [← Hrs.out, decide_eq_true hq, decide_eq_true hq2]; simp)
      clear hq hq2
      go_wp2_with fail
      refine (exact_any w _ _ _ hr1).mono ?_
      rintro e w2 ⟨rfl, rfl⟩
      go_wp2_with fail
      go_ret
      rw [Hf.out]
      exact ⟨rfl, hb1⟩
    · have hs2 := str_ne hq2
      have Hf := Lib.hid (show extP old m root n p = false by unfold extP; rw [← Hrs.out, decide_eq_false hq2]; simp)
      clear hq hq2
      go_wp2_with fail
      go_ret
      rw [Hf.out]
      exact ⟨rfl, hb1⟩
  · have hs := str_ne hq
    have Hf := Lib.hid (show extP old m root n p = false by unfold extP; rw [← Hrs.out, decide_eq_false hq]; simp)
    clear hq
    go_wp2_with fail
    go_ret
    rw [Hf.out]
    exact ⟨rfl, hb1⟩

theorem Extends_any (old : ByteArray) (m : Int) (root : ByteArray) (n : Int) (v : Value) (p : List ByteArray) (w : World) (ht : Tab w) (hl : StrSl w v p) :
    Calls Tryd.prog 22 #[.string old, .int .i64 m, .string root, .int .i64 n, v] w fun e w' => e = .returned (.bool (extB old m root n p)) ∧ Below w.heap.size w w' := by
  unfold extB
  by_cases h : 0 ≤ m ∧ m ≤ n ∧ n ≤ 1000000
  · obtain ⟨m', rfl⟩ := Int.eq_ofNat_of_zero_le h.1
    obtain ⟨n', rfl⟩ := Int.eq_ofNat_of_zero_le (show 0 ≤ n by omega)
    rw [decide_eq_true h, Bool.true_and, Int.toNat_natCast, Int.toNat_natCast]
    unfold extN
    cases h1 : digB old with
    | false => exact Extends_bad old m' root n' v p w (by omega) (by omega) hl (by rw [h1]; rfl)
    | true =>
      cases h2 : digB root with
      | false => exact Extends_bad old m' root n' v p w (by omega) (by omega) hl (by rw [h1, h2]; rfl)
      | true =>
        cases h3 : p.all digB with
        | false => exact Extends_bad old m' root n' v p w (by omega) (by omega) hl (by rw [h1, h2, h3]; rfl)
        | true =>
          by_cases hm : m' = 0
          · subst hm
            exact Extends_zero old root n' v p w (by omega) ht hl h1 h2 h3
          · rw [if_neg hm]
            exact Extends_pos old m' root n' v p w (by omega) (by omega) (by omega) ht hl h1 h2 h3
  · rw [decide_eq_false h, Bool.false_and]
    exact Extends_far old m root n v p w h hl

end Go.Proofs.YtgclcomjojpkgaaDoor.Dig
