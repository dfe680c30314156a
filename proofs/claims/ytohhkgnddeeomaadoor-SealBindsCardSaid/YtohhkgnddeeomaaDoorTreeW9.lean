/- Walks over package tree: Root, Path, Link, Check, Extends. -/
import Derived.Test.YtohhkgnddeeomaaDoorTreeW8
namespace Go.Proofs.YtohhkgnddeeomaaDoor.Dig
set_option linter.unusedVariables false
set_option linter.unusedSimpArgs false
open Go.RowKit

theorem str_eq {a b : ByteArray} (h : a = b) : (a.toList == b.toList) = true := by rw [h]; simp
theorem str_ne {a b : ByteArray} (h : ¬ a = b) : (a.toList == b.toList) = false := by
  rw [beq_eq_false_iff_ne]
  intro h2
  rw [ByteArray.toList_eq, ByteArray.toList_eq] at h2
  exact h (bl_inj h2)

set_option maxHeartbeats 1000000 in
theorem Root_yes (v : Value) (l : List ByteArray) (hd : l.all digB = true) (w : World) (ht : Tab w) (hl : StrSl w v l) :
    Calls Tryd.prog 27 #[v] w fun e w' => e = .returned (.tuple #[.string (rootB l), .int .i64 0]) ∧ Below w.heap.size w w' := by
  have Hd := Lib.hid hd
  clear hd
  go_enter Tryd.func27, Tryd.ntmps27
  go_wp2_with fail
  refine (valid_any v l _ hl).mono ?_
  rintro e w1 ⟨rfl, rfl⟩
  rw [Hd.out]
  go_wp2_with fail
  refine (root_any v l (small_dig Hd.out) _ ht hl).mono ?_
  rintro e w1 ⟨rfl, hb⟩
  go_wp2_with fail
  go_ret2
  exact ⟨rfl, hb⟩

set_option maxHeartbeats 1000000 in
theorem Root_no (v : Value) (l : List ByteArray) (hd : l.all digB = false) (w : World) (hl : StrSl w v l) :
    Calls Tryd.prog 27 #[v] w fun e w' => e = .returned (.tuple #[.string ByteArray.empty, .int .i64 1]) ∧ w = w' := by
  have Hd := Lib.hid hd
  clear hd
  go_enter Tryd.func27, Tryd.ntmps27
  go_wp2_with fail
  refine (valid_any v l _ hl).mono ?_
  rintro e w1 ⟨rfl, rfl⟩
  rw [Hd.out]
  go_wp2_with fail
  go_ret2
  exact ⟨rfl, rfl⟩

def pathOk (l : List ByteArray) (i : Int) : Bool := l.all digB && decide (0 ≤ i ∧ i < l.length)
/-- a list of the call's own, and no error -/
def RetOwn0 (W : World) (l : List ByteArray) (e : Ending) (w' : World) : Prop := ∃ u, e = .returned (.tuple #[u, .int .i64 0]) ∧ OwnStr w' W.heap.size u l ∧ Below W.heap.size W w'

set_option maxHeartbeats 1000000 in
theorem Path_yes (v : Value) (l : List ByteArray) (i : Int) (hok : pathOk l i = true) (hmax : l.length ≤ 1000000) (w : World) (ht : Tab w) (hl : StrSl w v l) :
    Calls Tryd.prog 31 #[v, .int .i64 i] w (RetOwn0 w (pathB l i.toNat)) := by
  unfold pathOk at hok
  rw [Bool.and_eq_true, decide_eq_true_iff] at hok
  obtain ⟨hd, hi0, hi1⟩ := hok
  have Hd := Lib.hid hd
  have Hl := Lib.hid hl
  obtain ⟨a, cap, rfl, hm⟩ := strSl_form hl
  clear hd hl
  go_enter Tryd.func31, Tryd.ntmps31
  go_wp2_with fail
  refine (valid_any _ l _ Hl.out).mono ?_
  rintro e w1 ⟨rfl, rfl⟩
  rw [Hd.out]
  go_wp2_with fail
  refine (path_on w ht l.length _ l i (Nat.le_refl _) hmax (small_dig Hd.out) Hl.out hi0 hi1 w (Below.refl _ _)).mono ?_
  rintro e w1 ⟨u, rfl, ho, hb⟩
  go_wp2_with fail
  go_ret2
  exact ⟨u, rfl, ho, hb⟩

set_option maxHeartbeats 1000000 in
theorem Path_no (v : Value) (l : List ByteArray) (i : Int) (hok : pathOk l i = false) (w : World) (hl : StrSl w v l) :
    Calls Tryd.prog 31 #[v, .int .i64 i] w fun e w' => e = .returned (.tuple #[.slice none 0 0, .int .i64 1]) ∧ w = w' := by
  unfold pathOk at hok
  have Hl := Lib.hid hl
  obtain ⟨a, cap, rfl, hm⟩ := strSl_form hl
  clear hl
  cases hd : l.all digB with
  | false =>
    have Hd := Lib.hid hd
    clear hd hok
    go_enter Tryd.func31, Tryd.ntmps31
    go_wp2_with fail
    refine (valid_any _ l _ Hl.out).mono ?_
    rintro e w1 ⟨rfl, rfl⟩
    rw [Hd.out]
    go_wp2_with fail
    go_ret2
    exact ⟨rfl, rfl⟩
  | true =>
    rw [hd, Bool.true_and, decide_eq_false_iff_not] at hok
    have Hd := Lib.hid hd
    clear hd
    by_cases h1 : i < 0
    · clear hok
      go_enter Tryd.func31, Tryd.ntmps31
      go_wp2_with fail
      refine (valid_any _ l _ Hl.out).mono ?_
      rintro e w1 ⟨rfl, rfl⟩
      rw [Hd.out]
      go_wp2_with fail
      go_ret2
      exact ⟨rfl, rfl⟩
    · have h2 : (l.length : Int) ≤ i := by omega
      clear hok
      go_enter Tryd.func31, Tryd.ntmps31
      go_wp2_with fail
      refine (valid_any _ l _ Hl.out).mono ?_
      rintro e w1 ⟨rfl, rfl⟩
      rw [Hd.out]
      go_wp2_with fail
      go_ret2
      exact ⟨rfl, rfl⟩

def linkOk (l : List ByteArray) (m : Int) : Bool := l.all digB && decide (0 ≤ m ∧ m ≤ l.length)
/-- the link of m, none for m = 0 -/
def linkZ (l : List ByteArray) (m : Nat) : List ByteArray := if m = 0 then [] else linkB l m true

/-! ### Check -/

/-- what Check answers -/
def checkB (root : ByteArray) (n i : Int) (leaf : ByteArray) (p : List ByteArray) : Bool :=
  decide (0 ≤ i ∧ i < n ∧ n ≤ 1000000) && (digB leaf && (p.all digB && (decide (p.length = depth n.toNat i.toNat) && decide (upB n.toNat i.toNat leaf p = root))))

theorem restNew (w : World) (v : Value) (l : List ByteArray) (hl : StrSl w v l) : RestAt (w.alloc (.cells #[v, .bool false] 77)) w w.heap.size (l, false) :=
  ⟨Nat.le_refl _, v, heap_alloc_new w _, hl⟩

set_option maxRecDepth 100000 in
set_option maxHeartbeats 1000000 in
theorem Check_far (root : ByteArray) (n i : Int) (leaf : ByteArray) (v : Value) (p : List ByteArray) (w : World) (hr : ¬ (0 ≤ i ∧ i < n ∧ n ≤ 1000000)) (hl : StrSl w v p) :
    Calls Tryd.prog 41 #[.string root, .int .i64 n, .int .i64 i, .string leaf, v] w fun e w' => e = .returned (.bool false) ∧ Below w.heap.size w w' := by
  obtain ⟨a, cap, rfl, hm⟩ := strSl_form hl
  clear hl
  have hb := new_below w (.cells #[.slice a p.length cap, .bool false] 77)
  by_cases h1 : i < 0
  · clear hr
    go_enter Tryd.func41, Tryd.ntmps41
    go_wp2_with fail
    go_ret
    exact ⟨rfl, hb⟩
  · by_cases h2 : n ≤ i
    · clear hr
      go_enter Tryd.func41, Tryd.ntmps41
      go_wp2_with fail
      go_ret
      exact ⟨rfl, hb⟩
    · have h3 : 1000000 < n := by omega
      clear hr
      go_enter Tryd.func41, Tryd.ntmps41
      go_wp2_with fail
      go_ret
      exact ⟨rfl, hb⟩

set_option maxRecDepth 100000 in
set_option maxHeartbeats 1000000 in
theorem Check_near (root : ByteArray) (n i : Nat) (leaf : ByteArray) (v : Value) (p : List ByteArray) (w : World) (hi : i < n) (hn : n ≤ 1000000) (ht : Tab w) (hl : StrSl w v p) :
    Calls Tryd.prog 41 #[.string root, .int .i64 (n : Int), .int .i64 (i : Int), .string leaf, v] w
      fun e w' => e = .returned (.bool (digB leaf && (p.all digB && (decide (p.length = depth n i) && decide (upB n i leaf p = root))))) ∧ Below w.heap.size w w' := by
  have Hl := Lib.hid hl
  obtain ⟨a, cap, rfl, hm⟩ := strSl_form hl
  have hb := new_below w (.cells #[.slice a p.length cap, .bool false] 77)
  clear hl
  cases hd : digB leaf with
  | false =>
    have Hd := Lib.hid (show isDig (bl leaf) = false from hd)
    clear hd
    go_enter Tryd.func41, Tryd.ntmps41
    go_wp2_with fail
    refine (is_any leaf _).mono ?_
    rintro e w1 ⟨rfl, rfl⟩
    rw [Hd.out]
    go_wp2_with fail
    go_ret
    exact ⟨rfl, hb⟩
  | true =>
    have Hd := Lib.hid (show isDig (bl leaf) = true from hd)
    have hds : leaf.size ≤ 1000 := by rw [digB_size hd]; decide
    clear hd
    cases ha : p.all digB with
    | false =>
      have Ha := Lib.hid ha
      clear ha
      go_enter Tryd.func41, Tryd.ntmps41
      go_wp2_with fail
      refine (is_any leaf _).mono ?_
      rintro e w1 ⟨rfl, rfl⟩
      rw [Hd.out]
      go_wp2_with fail
      refine (valid_any _ p _ (Hl.out.below hb)).mono ?_
      rintro e w1 ⟨rfl, rfl⟩
      rw [Ha.out]
      go_wp2_with fail
      go_ret
      exact ⟨rfl, hb⟩
    | true =>
      have Ha := Lib.hid ha
      clear ha
      have Hrd := Lib.hid (rd_check n i leaf root p)
      have Hrest := Lib.hid (restNew w _ p Hl.out)
      go_enter Tryd.func41, Tryd.ntmps41
      go_wp2_with fail
      refine (is_any leaf _).mono ?_
      rintro e w1 ⟨rfl, rfl⟩
      rw [Hd.out]
      go_wp2_with fail
      refine (valid_any _ p _ (Hl.out.below hb)).mono ?_
      rintro e w1 ⟨rfl, rfl⟩
      rw [Ha.out]
      go_wp2_with fail
      refine (rd_on w ht w.heap.size n n i leaf (p, false) _ (Nat.le_refl _) (by omega) hn hi hds (small_dig Ha.out) Hrest.out hb).mono ?_
      rintro e w1 ⟨rfl, hr1, hb1⟩
      generalize rdB n i leaf (p, false) = x at *
      by_cases hq : x.1 = root
      · have hs := str_eq hq
        have Hf := Lib.hid (show (decide (p.length = depth n i) && decide (upB n i leaf p = root)) = exactB x.2 by rw [← Hrd.out, decide_eq_true hq, Bool.true_and])
        clear hq
        go_wp2_with fail
        refine (exact_any w _ _ _ hr1).mono ?_
        rintro e w2 ⟨rfl, rfl⟩
        go_wp2_with fail
        go_ret
        rw [Hf.out]
        exact ⟨rfl, hb1⟩
      · have hs := str_ne hq
        have Hf := Lib.hid (show (decide (p.length = depth n i) && decide (upB n i leaf p = root)) = false by rw [← Hrd.out, decide_eq_false hq, Bool.false_and])
        clear hq
        go_wp2_with fail
        go_ret
        rw [Hf.out]
        exact ⟨rfl, hb1⟩

theorem Check_any (root : ByteArray) (n i : Int) (leaf : ByteArray) (v : Value) (p : List ByteArray) (w : World) (ht : Tab w) (hl : StrSl w v p) :
    Calls Tryd.prog 41 #[.string root, .int .i64 n, .int .i64 i, .string leaf, v] w fun e w' => e = .returned (.bool (checkB root n i leaf p)) ∧ Below w.heap.size w w' := by
  unfold checkB
  by_cases h : 0 ≤ i ∧ i < n ∧ n ≤ 1000000
  · obtain ⟨i', rfl⟩ := Int.eq_ofNat_of_zero_le h.1
    obtain ⟨n', rfl⟩ := Int.eq_ofNat_of_zero_le (show 0 ≤ n by omega)
    rw [decide_eq_true h, Bool.true_and, Int.toNat_natCast, Int.toNat_natCast]
    exact Check_near root n' i' leaf v p w (by omega) (by omega) ht hl
  · rw [decide_eq_false h, Bool.false_and]
    exact Check_far root n i leaf v p w h hl

end Go.Proofs.YtohhkgnddeeomaaDoor.Dig
