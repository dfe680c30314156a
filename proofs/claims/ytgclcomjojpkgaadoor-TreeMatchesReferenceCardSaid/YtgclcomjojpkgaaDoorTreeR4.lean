/- Walks over package gazetteerref02: Extends. -/
import Derived.Test.YtgclcomjojpkgaaDoorTreeR3
namespace Go.Proofs.YtgclcomjojpkgaaDoor.Dig
set_option linter.unusedVariables false
set_option linter.unusedSimpArgs false
open Go.RowKit

set_option maxRecDepth 100000 in
set_option maxHeartbeats 1000000 in
theorem rExtends_far (old : ByteArray) (m : Int) (root : ByteArray) (n : Int) (v : Value) (p : List ByteArray) (w : World) (hr : ¬ (0 ≤ m ∧ m ≤ n ∧ n ≤ 1000000)) (hl : StrSl w v p) :
    Calls Tryd.prog 23 #[.string old, .int .i64 m, .string root, .int .i64 n, v] w fun e w' => e = .returned (.bool false) ∧ Below w.heap.size w w' := by
  obtain ⟨a, cap, rfl, hm⟩ := strSl_form hl
  clear hl
  have hb := Below.refl w.heap.size w
  by_cases h1 : m < 0
  · clear hr
    go_enter Tryd.func23, Tryd.ntmps23
    go_wp2_with fail
    go_ret
    exact ⟨rfl, hb⟩
  · by_cases h2 : n < m
    · clear hr
      go_enter Tryd.func23, Tryd.ntmps23
      go_wp2_with fail
      go_ret
      exact ⟨rfl, hb⟩
    · have h3 : 1000000 < n := by omega
      clear hr
      go_enter Tryd.func23, Tryd.ntmps23
      go_wp2_with fail
      go_ret
      exact ⟨rfl, hb⟩

set_option maxRecDepth 100000 in
set_option maxHeartbeats 1000000 in
theorem rExtends_bad (old : ByteArray) (m : Nat) (root : ByteArray) (n : Nat) (v : Value) (p : List ByteArray) (hsm : small p) (ho : old.size ≤ 1000) (hr : root.size ≤ 1000) (w : World) (hi : m ≤ n) (hn : n ≤ 1000000) (hl : StrSl w v p) (hbad : (digB old && (digB root && p.all digB)) = false) :
    Calls Tryd.prog 23 #[.string old, .int .i64 (m : Int), .string root, .int .i64 (n : Int), v] w fun e w' => e = .returned (.bool false) ∧ Below w.heap.size w w' := by
  have Hl := Lib.hid hl
  obtain ⟨a, cap, rfl, hm⟩ := strSl_form hl
  have hb := new_below w (.cells #[.string old, .string root] 9)
  clear hl
  cases hd : (digB old && digB root) with
  | false =>
    have Hd := Lib.hid (show [old, root].all digB = false by simpa using hd)
    clear hd hbad
    go_enter Tryd.func23, Tryd.ntmps23
    go_wp2_with fail
    refine (rdigests_any _ [old, root] (mem2 ho hr) _ (sl2 old root w)).mono ?_
    rintro e w1 ⟨rfl, rfl⟩
    rw [Hd.out]
    go_wp2_with fail
    go_ret
    exact ⟨rfl, hb⟩
  | true =>
    have Ha := Lib.hid (show p.all digB = false by rw [← Bool.and_assoc, hd, Bool.true_and] at hbad; exact hbad)
    have Hd := Lib.hid (show [old, root].all digB = true by simpa using hd)
    clear hd hbad
    go_enter Tryd.func23, Tryd.ntmps23
    go_wp2_with fail
    refine (rdigests_any _ [old, root] (mem2 ho hr) _ (sl2 old root w)).mono ?_
    rintro e w1 ⟨rfl, rfl⟩
    rw [Hd.out]
    go_wp2_with fail
    refine (rdigests_any _ p hsm _ (Hl.out.below hb)).mono ?_
    rintro e w1 ⟨rfl, rfl⟩
    rw [Ha.out]
    go_wp2_with fail
    go_ret
    exact ⟨rfl, hb⟩

set_option maxRecDepth 100000 in
set_option maxHeartbeats 1000000 in
theorem rExtends_zero (old root : ByteArray) (n : Nat) (v : Value) (p : List ByteArray) (hsm : small p) (ho : old.size ≤ 1000) (hr : root.size ≤ 1000) (w : World) (hn : n ≤ 1000000) (hl : StrSl w v p) (h1 : digB old = true) (h2 : digB root = true) (h3 : p.all digB = true) :
    Calls Tryd.prog 23 #[.string old, .int .i64 0, .string root, .int .i64 (n : Int), v] w fun e w' => e = .returned (.bool (extZ old root n p)) ∧ Below w.heap.size w w' := by
  have Hl := Lib.hid hl
  obtain ⟨a, cap, rfl, hm⟩ := strSl_form hl
  have hb := new_below w (.cells #[.string old, .string root] 9)
  have Hd := Lib.hid (show [old, root].all digB = true by simp [h1, h2])
  have Ha := Lib.hid h3
  clear hl h1 h2 h3
  by_cases hp : p.length = 0
  · have hlz : ((p.length : Int) == 0) = true := by rw [beq_iff_eq]; omega
    by_cases hoe : old = emptyB
    · have hs := str_eq hoe
      by_cases hz : 0 < n
      · have Hf := Lib.hid (show extZ old root n p = true by unfold extZ; rw [decide_eq_true hp, decide_eq_true hoe, decide_eq_true hz]; rfl)
        rw [Hf.out]
        clear hp hoe
        go_enter Tryd.func23, Tryd.ntmps23
        go_wp2_with fail
        refine (rdigests_any _ [old, root] (mem2 ho hr) _ (sl2 old root w)).mono ?_
        rintro e w1 ⟨rfl, rfl⟩
        rw [Hd.out]
        go_wp2_with fail
        refine (rdigests_any _ p hsm _ (Hl.out.below hb)).mono ?_
        rintro e w1 ⟨rfl, rfl⟩
        rw [Ha.out]
        go_wp2_with fail
        refine (rempty_any _).mono ?_
        rintro e w2 ⟨rfl, hb2⟩
        go_wp2_with fail
        go_ret
        exact ⟨rfl, hb.trans (hb2.mono hb.size)⟩
      · obtain rfl : n = 0 := by omega
        by_cases hq : root = old
        · have Hf := Lib.hid (show extZ old root 0 p = true by unfold extZ; rw [decide_eq_true hp, decide_eq_true hoe, decide_eq_true hq]; rfl)
          have hs2 := str_eq hq
          rw [Hf.out]
          clear hp hoe hz hq
          go_enter Tryd.func23, Tryd.ntmps23
          go_wp2_with fail
          refine (rdigests_any _ [old, root] (mem2 ho hr) _ (sl2 old root w)).mono ?_
          rintro e w1 ⟨rfl, rfl⟩
          rw [Hd.out]
          go_wp2_with fail
          refine (rdigests_any _ p hsm _ (Hl.out.below hb)).mono ?_
          rintro e w1 ⟨rfl, rfl⟩
          rw [Ha.out]
          go_wp2_with fail
          refine (rempty_any _).mono ?_
          rintro e w2 ⟨rfl, hb2⟩
          go_wp2_with fail
          go_ret
          exact ⟨rfl, hb.trans (hb2.mono hb.size)⟩
        · have Hf := Lib.hid (show extZ old root 0 p = false by unfold extZ; rw [decide_eq_false hq]; simp)
          have hs2 := str_ne hq
          rw [Hf.out]
          clear hp hoe hz hq
          go_enter Tryd.func23, Tryd.ntmps23
          go_wp2_with fail
          refine (rdigests_any _ [old, root] (mem2 ho hr) _ (sl2 old root w)).mono ?_
          rintro e w1 ⟨rfl, rfl⟩
          rw [Hd.out]
          go_wp2_with fail
          refine (rdigests_any _ p hsm _ (Hl.out.below hb)).mono ?_
          rintro e w1 ⟨rfl, rfl⟩
          rw [Ha.out]
          go_wp2_with fail
          refine (rempty_any _).mono ?_
          rintro e w2 ⟨rfl, hb2⟩
          go_wp2_with fail
          go_ret
          exact ⟨rfl, hb.trans (hb2.mono hb.size)⟩
    · have hs := str_ne hoe
      have Hf := Lib.hid (show extZ old root n p = false by unfold extZ; rw [decide_eq_false hoe]; simp)
      rw [Hf.out]
      clear hp hoe
      go_enter Tryd.func23, Tryd.ntmps23
      go_wp2_with fail
      refine (rdigests_any _ [old, root] (mem2 ho hr) _ (sl2 old root w)).mono ?_
      rintro e w1 ⟨rfl, rfl⟩
      rw [Hd.out]
      go_wp2_with fail
      refine (rdigests_any _ p hsm _ (Hl.out.below hb)).mono ?_
      rintro e w1 ⟨rfl, rfl⟩
      rw [Ha.out]
      go_wp2_with fail
      refine (rempty_any _).mono ?_
      rintro e w2 ⟨rfl, hb2⟩
      go_wp2_with fail
      go_ret
      exact ⟨rfl, hb.trans (hb2.mono hb.size)⟩
  · have hlz : ((p.length : Int) == 0) = false := by rw [beq_eq_false_iff_ne]; omega
    have Hf := Lib.hid (show extZ old root n p = false by unfold extZ; rw [decide_eq_false hp]; rfl)
    rw [Hf.out]
    clear hp
    go_enter Tryd.func23, Tryd.ntmps23
    go_wp2_with fail
    refine (rdigests_any _ [old, root] (mem2 ho hr) _ (sl2 old root w)).mono ?_
    rintro e w1 ⟨rfl, rfl⟩
    rw [Hd.out]
    go_wp2_with fail
    refine (rdigests_any _ p hsm _ (Hl.out.below hb)).mono ?_
    rintro e w1 ⟨rfl, rfl⟩
    rw [Ha.out]
    go_wp2_with fail
    go_ret
    exact ⟨rfl, hb⟩

set_option maxRecDepth 100000 in
set_option maxHeartbeats 1000000 in
theorem rExtends_all (old root : ByteArray) (n : Nat) (v : Value) (p : List ByteArray) (hsm : small p) (ho : old.size ≤ 1000) (hr : root.size ≤ 1000) (w : World) (h0 : 1 ≤ n) (hn : n ≤ 1000000) (hl : StrSl w v p) (h1 : digB old = true) (h2 : digB root = true) (h3 : p.all digB = true) :
    Calls Tryd.prog 23 #[.string old, .int .i64 (n : Int), .string root, .int .i64 (n : Int), v] w fun e w' => e = .returned (.bool (extP old n root n p)) ∧ Below w.heap.size w w' := by
  have He := Lib.hid (show extP old n root n p = (decide (p.length = 0) && decide (old = root)) by
    unfold extP
    have h0 : n = n ∨ n ≤ 1 := .inl rfl
    rw [span_eq, if_pos h0, boB_eq, if_pos h0]
    simp)
  rw [He.out]
  have hmz : ((n : Int) == 0) = false := by rw [beq_eq_false_iff_ne]; omega
  have Hl := Lib.hid hl
  obtain ⟨a, cap, rfl, hm⟩ := strSl_form hl
  have hb := new_below w (.cells #[.string old, .string root] 9)
  have Hd := Lib.hid (show [old, root].all digB = true by simp [h1, h2])
  have Ha := Lib.hid h3
  clear hl h1 h2 h3
  by_cases hp : p.length = 0
  · have hlz : ((p.length : Int) == 0) = true := by rw [beq_iff_eq]; omega
    rw [decide_eq_true hp, Bool.true_and]
    by_cases hq : old = root
    · have hs := str_eq hq
      rw [decide_eq_true hq]
      clear hp hq
      go_enter Tryd.func23, Tryd.ntmps23
      go_wp2_with fail
      refine (rdigests_any _ [old, root] (mem2 ho hr) _ (sl2 old root w)).mono ?_
      rintro e w1 ⟨rfl, rfl⟩
      rw [Hd.out]
      go_wp2_with fail
      refine (rdigests_any _ p hsm _ (Hl.out.below hb)).mono ?_
      rintro e w1 ⟨rfl, rfl⟩
      rw [Ha.out]
      go_wp2_with fail
      go_ret
      exact ⟨rfl, hb⟩
    · have hs := str_ne hq
      rw [decide_eq_false hq]
      clear hp hq
      go_enter Tryd.func23, Tryd.ntmps23
      go_wp2_with fail
      refine (rdigests_any _ [old, root] (mem2 ho hr) _ (sl2 old root w)).mono ?_
      rintro e w1 ⟨rfl, rfl⟩
      rw [Hd.out]
      go_wp2_with fail
      refine (rdigests_any _ p hsm _ (Hl.out.below hb)).mono ?_
      rintro e w1 ⟨rfl, rfl⟩
      rw [Ha.out]
      go_wp2_with fail
      go_ret
      exact ⟨rfl, hb⟩
  · have hlz : ((p.length : Int) == 0) = false := by rw [beq_eq_false_iff_ne]; omega
    rw [decide_eq_false hp, Bool.false_and]
    clear hp
    go_enter Tryd.func23, Tryd.ntmps23
    go_wp2_with fail
    refine (rdigests_any _ [old, root] (mem2 ho hr) _ (sl2 old root w)).mono ?_
    rintro e w1 ⟨rfl, rfl⟩
    rw [Hd.out]
    go_wp2_with fail
    refine (rdigests_any _ p hsm _ (Hl.out.below hb)).mono ?_
    rintro e w1 ⟨rfl, rfl⟩
    rw [Ha.out]
    go_wp2_with fail
    go_ret
    exact ⟨rfl, hb⟩

set_option maxRecDepth 100000 in
set_option maxHeartbeats 1000000 in
theorem rExtends_pos (old : ByteArray) (m : Nat) (root : ByteArray) (n : Nat) (v : Value) (p : List ByteArray) (hsm : small p) (ho : old.size ≤ 1000) (hr : root.size ≤ 1000) (w : World) (hm0 : 1 ≤ m) (hne : m < n) (hn : n ≤ 1000000) (hl : StrSl w v p) (h1 : digB old = true) (h2 : digB root = true) (h3 : p.all digB = true) :
    Calls Tryd.prog 23 #[.string old, .int .i64 (m : Int), .string root, .int .i64 (n : Int), v] w fun e w' => e = .returned (.bool (extP old m root n p)) ∧ Below w.heap.size w w' := by
  have hmz : ((m : Int) == 0) = false := by rw [beq_eq_false_iff_ne]; omega
  have hmn' : ((m : Int) == (n : Int)) = false := by rw [beq_eq_false_iff_ne]; omega
  have hmn : m ≤ n := by omega
  have Hl := Lib.hid hl
  obtain ⟨a, cap, rfl, hm⟩ := strSl_form hl
  have hb := new_below w (.cells #[.string old, .string root] 9)
  have Hd := Lib.hid (show [old, root].all digB = true by simp [h1, h2])
  have Ha := Lib.hid h3
  clear hl h1 h2 h3
  unfold extP
  by_cases hq : p.length = span n m true
  · have hlz : ((p.length : Int) != ((span n m true : Nat) : Int)) = false := by rw [hq]; simp
    have Hq := Lib.hid hq
    rw [decide_eq_true hq, Bool.true_and]
    clear hq
    by_cases hx : (boB n m true old p).1 = old
    · have hs := str_eq hx
      rw [decide_eq_true hx, Bool.true_and]
      by_cases hy : (boB n m true old p).2 = root
      · have hs2 := str_eq hy
        rw [decide_eq_true hy]
        clear hx hy
        go_enter Tryd.func23, Tryd.ntmps23
        go_wp2_with fail
        refine (rdigests_any _ [old, root] (mem2 ho hr) _ (sl2 old root w)).mono ?_
        rintro e w1 ⟨rfl, rfl⟩
        rw [Hd.out]
        go_wp2_with fail
        refine (rdigests_any _ p hsm _ (Hl.out.below hb)).mono ?_
        rintro e w1 ⟨rfl, rfl⟩
        rw [Ha.out]
        go_wp2_with fail
        refine (rlong_any n n m true _ (Nat.le_refl _) hm0 hmn hn).mono ?_
        rintro e w1 ⟨rfl, rfl⟩
        go_wp2_with fail
        refine (rboth_on w old ho n n m true _ p _ (Nat.le_refl _) hm0 hmn hn hsm Hq.out Hl.out hb).mono ?_
        rintro e w1 ⟨rfl, hb1⟩
        generalize boB n m true old p = x at *
        go_wp2_with fail
        go_ret
        exact ⟨rfl, hb1⟩
      · have hs2 := str_ne hy
        rw [decide_eq_false hy]
        clear hx hy
        go_enter Tryd.func23, Tryd.ntmps23
        go_wp2_with fail
        refine (rdigests_any _ [old, root] (mem2 ho hr) _ (sl2 old root w)).mono ?_
        rintro e w1 ⟨rfl, rfl⟩
        rw [Hd.out]
        go_wp2_with fail
        refine (rdigests_any _ p hsm _ (Hl.out.below hb)).mono ?_
        rintro e w1 ⟨rfl, rfl⟩
        rw [Ha.out]
        go_wp2_with fail
        refine (rlong_any n n m true _ (Nat.le_refl _) hm0 hmn hn).mono ?_
        rintro e w1 ⟨rfl, rfl⟩
        go_wp2_with fail
        refine (rboth_on w old ho n n m true _ p _ (Nat.le_refl _) hm0 hmn hn hsm Hq.out Hl.out hb).mono ?_
        rintro e w1 ⟨rfl, hb1⟩
        generalize boB n m true old p = x at *
        go_wp2_with fail
        go_ret
        exact ⟨rfl, hb1⟩
    · have hs := str_ne hx
      rw [decide_eq_false hx, Bool.false_and]
      clear hx
      go_enter Tryd.func23, Tryd.ntmps23
      go_wp2_with fail
      refine (rdigests_any _ [old, root] (mem2 ho hr) _ (sl2 old root w)).mono ?_
      rintro e w1 ⟨rfl, rfl⟩
      rw [Hd.out]
      go_wp2_with fail
      refine (rdigests_any _ p hsm _ (Hl.out.below hb)).mono ?_
      rintro e w1 ⟨rfl, rfl⟩
      rw [Ha.out]
      go_wp2_with fail
      refine (rlong_any n n m true _ (Nat.le_refl _) hm0 hmn hn).mono ?_
      rintro e w1 ⟨rfl, rfl⟩
      go_wp2_with fail
      refine (rboth_on w old ho n n m true _ p _ (Nat.le_refl _) hm0 hmn hn hsm Hq.out Hl.out hb).mono ?_
      rintro e w1 ⟨rfl, hb1⟩
      generalize boB n m true old p = x at *
      go_wp2_with fail
      go_ret
      exact ⟨rfl, hb1⟩
  · have hlz : ((p.length : Int) != ((span n m true : Nat) : Int)) = true := by rw [bne_iff_ne]; omega
    rw [decide_eq_false hq, Bool.false_and]
    clear hq
    go_enter Tryd.func23, Tryd.ntmps23
    go_wp2_with fail
    refine (rdigests_any _ [old, root] (mem2 ho hr) _ (sl2 old root w)).mono ?_
    rintro e w1 ⟨rfl, rfl⟩
    rw [Hd.out]
    go_wp2_with fail
    refine (rdigests_any _ p hsm _ (Hl.out.below hb)).mono ?_
    rintro e w1 ⟨rfl, rfl⟩
    rw [Ha.out]
    go_wp2_with fail
    refine (rlong_any n n m true _ (Nat.le_refl _) hm0 hmn hn).mono ?_
    rintro e w1 ⟨rfl, rfl⟩
    go_wp2_with fail
    go_ret
    exact ⟨rfl, hb⟩

theorem rExtends_any (old : ByteArray) (m : Int) (root : ByteArray) (n : Int) (v : Value) (p : List ByteArray) (hsm : small p) (ho : old.size ≤ 1000) (hr : root.size ≤ 1000) (w : World) (hl : StrSl w v p) :
    Calls Tryd.prog 23 #[.string old, .int .i64 m, .string root, .int .i64 n, v] w fun e w' => e = .returned (.bool (extB old m root n p)) ∧ Below w.heap.size w w' := by
  unfold extB
  by_cases h : 0 ≤ m ∧ m ≤ n ∧ n ≤ 1000000
  · obtain ⟨m', rfl⟩ := Int.eq_ofNat_of_zero_le h.1
    obtain ⟨n', rfl⟩ := Int.eq_ofNat_of_zero_le (show 0 ≤ n by omega)
    rw [decide_eq_true h, Bool.true_and, Int.toNat_natCast, Int.toNat_natCast]
    unfold extN
    cases h1 : digB old with
    | false => exact rExtends_bad old m' root n' v p hsm ho hr w (by omega) (by omega) hl (by rw [h1]; rfl)
    | true =>
      cases h2 : digB root with
      | false => exact rExtends_bad old m' root n' v p hsm ho hr w (by omega) (by omega) hl (by rw [h1, h2]; rfl)
      | true =>
        cases h3 : p.all digB with
        | false => exact rExtends_bad old m' root n' v p hsm ho hr w (by omega) (by omega) hl (by rw [h1, h2, h3]; rfl)
        | true =>
          by_cases hm : m' = 0
          · subst hm
            exact rExtends_zero old root n' v p hsm ho hr w (by omega) hl h1 h2 h3
          · rw [if_neg hm]
            by_cases hmn : m' = n'
            · subst hmn
              exact rExtends_all old root m' v p hsm ho hr w (by omega) (by omega) hl h1 h2 h3
            · exact rExtends_pos old m' root n' v p hsm ho hr w (by omega) (by omega) (by omega) hl h1 h2 h3
  · rw [decide_eq_false h, Bool.false_and]
    exact rExtends_far old m root n v p w h hl

end Go.Proofs.YtgclcomjojpkgaaDoor.Dig
