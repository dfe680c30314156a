/- Walks over package tree: the roots that a proof leads to. -/
import Derived.Test.YteapfoadfjjicaaDoorTreeW7
namespace Go.Proofs.YteapfoadfjjicaaDoor.Dig
set_option linter.unusedVariables false
set_option linter.unusedSimpArgs false
open Go.RowKit

theorem tk_small {s : Rest} (h : small s.1) : (tk s).1.size ≤ 1000 ∧ small (tk s).2.1 := by
  match s, h with
  | ([], _), _ => exact ⟨show ByteArray.empty.size ≤ 1000 by decide, fun _ hs => by simp [tk] at hs⟩
  | (x :: r, b), h => exact ⟨h x (by simp), fun y hy => h y (List.mem_cons_of_mem _ hy)⟩

theorem rd_small (N : Nat) : ∀ (n i : Nat) (d : ByteArray) (s : Rest), n ≤ N → d.size ≤ 1000 → small s.1 → (rdB n i d s).1.size ≤ 1000 ∧ small (rdB n i d s).2.1 := by
  induction N with
  | zero =>
    intro n i d s hn hd hs
    rw [rdB_eq, if_pos (by omega)]
    exact ⟨hd, hs⟩
  | succ N ih =>
    intro n i d s hn hd hs
    rw [rdB_eq]
    by_cases h1 : n ≤ 1
    · rw [if_pos h1]
      exact ⟨hd, hs⟩
    · have k1 := half_lt n (by omega)
      have k2 := half_pos n
      rw [if_neg h1]
      by_cases h2 : i < half n
      · rw [if_pos h2]
        obtain ⟨h3, h4⟩ := ih (half n) i d s (by omega) hd hs
        exact ⟨by rw [nodeB_size]; decide, (tk_small h4).2⟩
      · rw [if_neg h2]
        obtain ⟨h3, h4⟩ := ih (n - half n) (i - half n) d s (by omega) hd hs
        exact ⟨by rw [nodeB_size]; decide, (tk_small h4).2⟩

theorem rs_small (N : Nat) : ∀ (n m : Nat) (b : Bool) (o : ByteArray) (s : Rest), n ≤ N → o.size ≤ 1000 → small s.1 → (rsB n m b o s).1.size ≤ 1000 ∧ (rsB n m b o s).2.1.size ≤ 1000 ∧ small (rsB n m b o s).2.2.1 := by
  have base : ∀ (b : Bool) (o : ByteArray) (s : Rest), o.size ≤ 1000 → small s.1 → ((if b then (o, o, s) else ((tk s).1, (tk s).1, (tk s).2)) : Two).1.size ≤ 1000 ∧ ((if b then (o, o, s) else ((tk s).1, (tk s).1, (tk s).2)) : Two).2.1.size ≤ 1000 ∧ small ((if b then (o, o, s) else ((tk s).1, (tk s).1, (tk s).2)) : Two).2.2.1 := by
    intro b o s ho hs
    cases b with
    | true => exact ⟨ho, ho, hs⟩
    | false => exact ⟨(tk_small hs).1, (tk_small hs).1, (tk_small hs).2⟩
  induction N with
  | zero =>
    intro n m b o s hn ho hs
    have h0 : m = n ∨ n ≤ 1 := .inr (by omega)
    rw [rsB_eq, if_pos h0]
    exact base b o s ho hs
  | succ N ih =>
    intro n m b o s hn ho hs
    rw [rsB_eq]
    by_cases h1 : m = n ∨ n ≤ 1
    · rw [if_pos h1]
      exact base b o s ho hs
    · have k1 := half_lt n (by omega)
      have k2 := half_pos n
      rw [if_neg h1]
      by_cases h2 : m ≤ half n
      · rw [if_pos h2]
        obtain ⟨h3, h4, h5⟩ := ih (half n) m b o s (by omega) ho hs
        exact ⟨h3, by rw [nodeB_size]; decide, (tk_small h5).2⟩
      · rw [if_neg h2]
        obtain ⟨h3, h4, h5⟩ := ih (n - half n) (m - half n) false o s (by omega) ho hs
        exact ⟨by rw [nodeB_size]; decide, by rw [nodeB_size]; decide, (tk_small h5).2⟩

set_option maxRecDepth 100000 in
set_option maxHeartbeats 1000000 in
theorem rd_on (W : World) (ht : Tab W) (p : Nat) (N : Nat) : ∀ (n i : Nat) (d : ByteArray) (s : Rest) (w : World), n ≤ N → 1 ≤ n → n ≤ 1000000 → i < n → d.size ≤ 1000 → small s.1 → RestAt w W p s → Below W.heap.size W w →
    Calls Tryd.prog 95 #[.pointer (some ⟨p, 0, none⟩), .int .i64 (n : Int), .int .i64 (i : Int), .string d] w
      fun e w' => e = .returned (.string (rdB n i d s).1) ∧ RestAt w' W p (rdB n i d s).2 ∧ Below W.heap.size W w' := by
  induction N with
  | zero => intro n i d s w hN h1; omega
  | succ N ih =>
    intro n i d s w hN h1 hmax hi hd hs hr hb
    by_cases hone : n = 1
    · subst hone
      have He := Lib.hid (show rdB 1 i d s = (d, s) by rw [rdB_eq, if_pos (by omega)])
      rw [He.out]
      have Hr := Lib.hid hr
      clear hr ih
      go_enter Tryd.func95, Tryd.ntmps95
      go_wp2_with fail
      go_ret
      exact ⟨rfl, Hr.out, hb⟩
    · have hne : ((n : Int) == 1) = false := by rw [beq_eq_false_iff_ne]; omega
      have hh1 := half_lt n (by omega)
      have hh2 := half_pos n
      have He := Lib.hid (rdB_eq n i d s)
      obtain ⟨k, Hk⟩ : ∃ k : Nat, Hid (half n = k) := ⟨_, Lib.hid rfl⟩
      rw [Hk.out, if_neg (by omega)] at He
      rw [Hk.out] at hh1 hh2
      have Hr := Lib.hid hr
      clear hr
      by_cases hik : i < k
      · rw [if_pos hik] at He
        rw [He.out]
        have Ih := Lib.hid (fun w1 r1 b1 => ih k i d s w1 (by omega) (by omega) (by omega) hik hd hs r1 b1)
        obtain ⟨z1, z2⟩ := rd_small k k i d s (Nat.le_refl _) hd hs
        obtain ⟨z3, z4⟩ := tk_small z2
        have Z := Lib.hid z2
        clear z2 z4 ih
        go_enter Tryd.func95, Tryd.ntmps95
        go_wp2_with fail
        refine (split_any _ (by omega) (by omega) _).mono ?_
        rintro e w1 ⟨rfl, rfl⟩
        rw [Int.toNat_natCast, Hk.out]
        go_wp2_with fail
        refine (Ih.out _ Hr.out hb).mono ?_
        rintro e w1 ⟨rfl, hr1, hb1⟩
        go_wp2_with fail
        refine (take_on W p _ _ hr1 hb1).mono ?_
        rintro e w2 ⟨rfl, hr2, hb2⟩
        go_wp2_with fail
        refine (node_any _ _ z1 z3 _ (ht.below hb2)).mono ?_
        rintro e w3 ⟨rfl, hb3⟩
        go_wp2_with fail
        go_ret
        exact ⟨rfl, hr2.below hb3, hb2.trans (hb3.mono hb2.size)⟩
      · rw [if_neg hik] at He
        rw [He.out]
        have Ih := Lib.hid (fun w1 r1 b1 => ih (n - k) (i - k) d s w1 (by omega) (by omega) (by omega) (by omega) hd hs r1 b1)
        obtain ⟨z1, z2⟩ := rd_small (n - k) (n - k) (i - k) d s (Nat.le_refl _) hd hs
        obtain ⟨z3, z4⟩ := tk_small z2
        have Z := Lib.hid z2
        clear z2 z4 ih
        have c1 : (n : Int) - (k : Int) = ((n - k : Nat) : Int) := by omega
        have c2 : (i : Int) - (k : Int) = ((i - k : Nat) : Int) := by omega
        have C1 := Lib.hid c1
        have C2 := Lib.hid c2
        clear c1 c2
        go_enter Tryd.func95, Tryd.ntmps95
        go_wp2_with fail
        refine (split_any _ (by omega) (by omega) _).mono ?_
        rintro e w1 ⟨rfl, rfl⟩
        rw [Int.toNat_natCast, Hk.out]
        go_wp2_with fail
        rw [C1.out, C2.out]
        refine (Ih.out _ Hr.out hb).mono ?_
        rintro e w1 ⟨rfl, hr1, hb1⟩
        go_wp2_with fail
        refine (take_on W p _ _ hr1 hb1).mono ?_
        rintro e w2 ⟨rfl, hr2, hb2⟩
        go_wp2_with fail
        refine (node_any _ _ z3 z1 _ (ht.below hb2)).mono ?_
        rintro e w3 ⟨rfl, hb3⟩
        go_wp2_with fail
        go_ret
        exact ⟨rfl, hr2.below hb3, hb2.trans (hb3.mono hb2.size)⟩

end Go.Proofs.YteapfoadfjjicaaDoor.Dig

/- Walks over package tree: Root, Path, Link, Check, Extends. -/
namespace Go.Proofs.YteapfoadfjjicaaDoor.Dig
set_option linter.unusedVariables false
set_option linter.unusedSimpArgs false
open Go.RowKit

theorem str_eq {a b : ByteArray} (h : a = b) : (a.toList == b.toList) = true := by rw [h]; simp
theorem str_ne {a b : ByteArray} (h : ¬ a = b) : (a.toList == b.toList) = false := by
  rw [beq_eq_false_iff_ne]
  intro h2
  rw [ByteArray.toList_eq, ByteArray.toList_eq] at h2
  exact h (bl_inj h2)

set_option maxHeartbeats 1000000 in
theorem Root_yes (v : Value) (l : List ByteArray) (hd : l.all digB = true) (w : World) (ht : Tab w) (hl : StrSl w v l) :
    Calls Tryd.prog 45 #[v] w fun e w' => e = .returned (.tuple #[.string (rootB l), .int .i64 0]) ∧ Below w.heap.size w w' := by
  have Hd := Lib.hid hd
  clear hd
  go_enter Tryd.func45, Tryd.ntmps45
  go_wp2_with fail
  refine (valid_any v l _ hl).mono ?_
  rintro e w1 ⟨rfl, rfl⟩
  rw [Hd.out]
  go_wp2_with fail
  refine (root_any v l (small_dig Hd.out) _ ht hl).mono ?_
  rintro e w1 ⟨rfl, hb⟩
  go_wp2_with fail
  go_ret2
  exact ⟨rfl, hb⟩

set_option maxHeartbeats 1000000 in
theorem Root_no (v : Value) (l : List ByteArray) (hd : l.all digB = false) (w : World) (hl : StrSl w v l) :
    Calls Tryd.prog 45 #[v] w fun e w' => e = .returned (.tuple #[.string ByteArray.empty, .int .i64 1]) ∧ w = w' := by
  have Hd := Lib.hid hd
  clear hd
  go_enter Tryd.func45, Tryd.ntmps45
  go_wp2_with fail
  refine (valid_any v l _ hl).mono ?_
  rintro e w1 ⟨rfl, rfl⟩
  rw [Hd.out]
  go_wp2_with fail
  go_ret2
  exact ⟨rfl, rfl⟩

def pathOk (l : List ByteArray) (i : Int) : Bool := l.all digB && decide (0 ≤ i ∧ i < l.length)
/-- a list of the call's own, and no error -/
def RetOwn0 (W : World) (l : List ByteArray) (e : Ending) (w' : World) : Prop := ∃ u, e = .returned (.tuple #[u, .int .i64 0]) ∧ OwnStr w' W.heap.size u l ∧ Below W.heap.size W w'

set_option maxHeartbeats 1000000 in
theorem Path_yes (v : Value) (l : List ByteArray) (i : Int) (hok : pathOk l i = true) (hmax : l.length ≤ 1000000) (w : World) (ht : Tab w) (hl : StrSl w v l) :
    Calls Tryd.prog 49 #[v, .int .i64 i] w (RetOwn0 w (pathB l i.toNat)) := by
  unfold pathOk at hok
  rw [Bool.and_eq_true, decide_eq_true_iff] at hok
  obtain ⟨hd, hi0, hi1⟩ := hok
  have Hd := Lib.hid hd
  have Hl := Lib.hid hl
  obtain ⟨a, cap, rfl, hm⟩ := strSl_form hl
  clear hd hl
  go_enter Tryd.func49, Tryd.ntmps49
  go_wp2_with fail
  refine (valid_any _ l _ Hl.out).mono ?_
  rintro e w1 ⟨rfl, rfl⟩
  rw [Hd.out]
  go_wp2_with fail
  refine (path_on w ht l.length _ l i (Nat.le_refl _) hmax (small_dig Hd.out) Hl.out hi0 hi1 w (Below.refl _ _)).mono ?_
  rintro e w1 ⟨u, rfl, ho, hb⟩
  go_wp2_with fail
  go_ret2
  exact ⟨u, rfl, ho, hb⟩

set_option maxHeartbeats 1000000 in
theorem Path_no (v : Value) (l : List ByteArray) (i : Int) (hok : pathOk l i = false) (w : World) (hl : StrSl w v l) :
    Calls Tryd.prog 49 #[v, .int .i64 i] w fun e w' => e = .returned (.tuple #[.slice none 0 0, .int .i64 1]) ∧ w = w' := by
  unfold pathOk at hok
  have Hl := Lib.hid hl
  obtain ⟨a, cap, rfl, hm⟩ := strSl_form hl
  clear hl
  cases hd : l.all digB with
  | false =>
    have Hd := Lib.hid hd
    clear hd hok
    go_enter Tryd.func49, Tryd.ntmps49
    go_wp2_with fail
    refine (valid_any _ l _ Hl.out).mono ?_
    rintro e w1 ⟨rfl, rfl⟩
    rw [Hd.out]
    go_wp2_with fail
    go_ret2
    exact ⟨rfl, rfl⟩
  | true =>
    rw [hd, Bool.true_and, decide_eq_false_iff_not] at hok
    have Hd := Lib.hid hd
    clear hd
    by_cases h1 : i < 0
    · clear hok
      go_enter Tryd.func49, Tryd.ntmps49
      go_wp2_with fail
      refine (valid_any _ l _ Hl.out).mono ?_
      rintro e w1 ⟨rfl, rfl⟩
      rw [Hd.out]
      go_wp2_with fail
      go_ret2
      exact ⟨rfl, rfl⟩
    · have h2 : (l.length : Int) ≤ i := by omega
      clear hok
      go_enter Tryd.func49, Tryd.ntmps49
      go_wp2_with fail
      refine (valid_any _ l _ Hl.out).mono ?_
      rintro e w1 ⟨rfl, rfl⟩
      rw [Hd.out]
      go_wp2_with fail
      go_ret2
      exact ⟨rfl, rfl⟩

def linkOk (l : List ByteArray) (m : Int) : Bool := l.all digB && decide (0 ≤ m ∧ m ≤ l.length)
/-- the link of m, none for m = 0 -/
def linkZ (l : List ByteArray) (m : Nat) : List ByteArray := if m = 0 then [] else linkB l m true

/-! ### Check -/

/-- what Check answers -/
def checkB (root : ByteArray) (n i : Int) (leaf : ByteArray) (p : List ByteArray) : Bool :=
  decide (0 ≤ i ∧ i < n ∧ n ≤ 1000000) && (digB leaf && (p.all digB && (decide (p.length = depth n.toNat i.toNat) && decide (upB n.toNat i.toNat leaf p = root))))

theorem restNew (w : World) (v : Value) (l : List ByteArray) (hl : StrSl w v l) : RestAt (w.alloc (.cells #[v, .bool false] 102)) w w.heap.size (l, false) :=
  ⟨Nat.le_refl _, v, heap_alloc_new w _, hl⟩

set_option maxRecDepth 100000 in
set_option maxHeartbeats 1000000 in
theorem Check_far (root : ByteArray) (n i : Int) (leaf : ByteArray) (v : Value) (p : List ByteArray) (w : World) (hr : ¬ (0 ≤ i ∧ i < n ∧ n ≤ 1000000)) (hl : StrSl w v p) :
    Calls Tryd.prog 60 #[.string root, .int .i64 n, .int .i64 i, .string leaf, v] w fun e w' => e = .returned (.bool false) ∧ Below w.heap.size w w' := by
  obtain ⟨a, cap, rfl, hm⟩ := strSl_form hl
  clear hl
  have hb := new_below w (.cells #[.slice a p.length cap, .bool false] 102)
  by_cases h1 : i < 0
  · clear hr
    go_enter Tryd.func60, Tryd.ntmps60
    go_wp2_with fail
    go_ret
    exact ⟨rfl, hb⟩
  · by_cases h2 : n ≤ i
    · clear hr
      go_enter Tryd.func60, Tryd.ntmps60
      go_wp2_with fail
      go_ret
      exact ⟨rfl, hb⟩
    · have h3 : 1000000 < n := by omega
      clear hr
      go_enter Tryd.func60, Tryd.ntmps60
      go_wp2_with fail
      go_ret
      exact ⟨rfl, hb⟩

set_option maxRecDepth 100000 in
set_option maxHeartbeats 1000000 in
theorem Check_near (root : ByteArray) (n i : Nat) (leaf : ByteArray) (v : Value) (p : List ByteArray) (w : World) (hi : i < n) (hn : n ≤ 1000000) (ht : Tab w) (hl : StrSl w v p) :
    Calls Tryd.prog 60 #[.string root, .int .i64 (n : Int), .int .i64 (i : Int), .string leaf, v] w
      fun e w' => e = .returned (.bool (digB leaf && (p.all digB && (decide (p.length = depth n i) && decide (upB n i leaf p = root))))) ∧ Below w.heap.size w w' := by
  have Hl := Lib.hid hl
  obtain ⟨a, cap, rfl, hm⟩ := strSl_form hl
  have hb := new_below w (.cells #[.slice a p.length cap, .bool false] 102)
  clear hl
  cases hd : digB leaf with
  | false =>
    have Hd := Lib.hid (show isDig (bl leaf) = false from hd)
    clear hd
    go_enter Tryd.func60, Tryd.ntmps60
    go_wp2_with fail
    refine (is_any leaf _).mono ?_
    rintro e w1 ⟨rfl, rfl⟩
    rw [Hd.out]
    go_wp2_with fail
    go_ret
    exact ⟨rfl, hb⟩
  | true =>
    have Hd := Lib.hid (show isDig (bl leaf) = true from hd)
    have hds : leaf.size ≤ 1000 := by rw [digB_size hd]; decide
    clear hd
    cases ha : p.all digB with
    | false =>
      have Ha := Lib.hid ha
      clear ha
      go_enter Tryd.func60, Tryd.ntmps60
      go_wp2_with fail
      refine (is_any leaf _).mono ?_
      rintro e w1 ⟨rfl, rfl⟩
      rw [Hd.out]
      go_wp2_with fail
      refine (valid_any _ p _ (Hl.out.below hb)).mono ?_
      rintro e w1 ⟨rfl, rfl⟩
      rw [Ha.out]
      go_wp2_with fail
      go_ret
      exact ⟨rfl, hb⟩
    | true =>
      have Ha := Lib.hid ha
      clear ha
      have Hrd := Lib.hid (rd_check n i leaf root p)
      have Hrest := Lib.hid (restNew w _ p Hl.out)
      go_enter Tryd.func60, Tryd.ntmps60
      go_wp2_with fail
      refine (is_any leaf _).mono ?_
      rintro e w1 ⟨rfl, rfl⟩
      rw [Hd.out]
      go_wp2_with fail
      refine (valid_any _ p _ (Hl.out.below hb)).mono ?_
      rintro e w1 ⟨rfl, rfl⟩
      rw [Ha.out]
      go_wp2_with fail
      refine (rd_on w ht w.heap.size n n i leaf (p, false) _ (Nat.le_refl _) (by omega) hn hi hds (small_dig Ha.out) Hrest.out hb).mono ?_
      rintro e w1 ⟨rfl, hr1, hb1⟩
      generalize rdB n i leaf (p, false) = x at *
      by_cases hq : x.1 = root
      · have hs := str_eq hq
        have Hf := Lib.hid (show (decide (p.length = depth n i) && decide (upB n i leaf p = root)) = exactB x.2 by rw [← Hrd.out, decide_eq_true hq, Bool.true_and])
        clear hq
        go_wp2_with fail
        refine (exact_any w _ _ _ hr1).mono ?_
        rintro e w2 ⟨rfl, rfl⟩
        go_wp2_with fail
        go_ret
        rw [Hf.out]
        exact ⟨rfl, hb1⟩
      · have hs := str_ne hq
        have Hf := Lib.hid (show (decide (p.length = depth n i) && decide (upB n i leaf p = root)) = false by rw [← Hrd.out, decide_eq_false hq, Bool.false_and])
        clear hq
        go_wp2_with fail
        go_ret
        rw [Hf.out]
        exact ⟨rfl, hb1⟩

theorem Check_any (root : ByteArray) (n i : Int) (leaf : ByteArray) (v : Value) (p : List ByteArray) (w : World) (ht : Tab w) (hl : StrSl w v p) :
    Calls Tryd.prog 60 #[.string root, .int .i64 n, .int .i64 i, .string leaf, v] w fun e w' => e = .returned (.bool (checkB root n i leaf p)) ∧ Below w.heap.size w w' := by
  unfold checkB
  by_cases h : 0 ≤ i ∧ i < n ∧ n ≤ 1000000
  · obtain ⟨i', rfl⟩ := Int.eq_ofNat_of_zero_le h.1
    obtain ⟨n', rfl⟩ := Int.eq_ofNat_of_zero_le (show 0 ≤ n by omega)
    rw [decide_eq_true h, Bool.true_and, Int.toNat_natCast, Int.toNat_natCast]
    exact Check_near root n' i' leaf v p w (by omega) (by omega) ht hl
  · rw [decide_eq_false h, Bool.false_and]
    exact Check_far root n i leaf v p w h hl

end Go.Proofs.YteapfoadfjjicaaDoor.Dig

/- Walks over package tree: Extends. -/
namespace Go.Proofs.YteapfoadfjjicaaDoor.Dig
set_option linter.unusedVariables false
set_option linter.unusedSimpArgs false
open Go.RowKit

/-- what Extends answers for m = 0, and for a greater one -/
def extZ (old root : ByteArray) (n : Nat) (p : List ByteArray) : Bool := decide (p.length = 0) && (decide (old = emptyB) && (decide (0 < n) || decide (root = old)))
def extP (old : ByteArray) (m : Nat) (root : ByteArray) (n : Nat) (p : List ByteArray) : Bool := decide (p.length = span n m true) && (decide ((boB n m true old p).1 = old) && decide ((boB n m true old p).2 = root))
def extN (old : ByteArray) (m : Nat) (root : ByteArray) (n : Nat) (p : List ByteArray) : Bool := digB old && (digB root && (p.all digB && (if m = 0 then extZ old root n p else extP old m root n p)))
def extB (old : ByteArray) (m : Int) (root : ByteArray) (n : Int) (p : List ByteArray) : Bool := decide (0 ≤ m ∧ m ≤ n ∧ n ≤ 1000000) && extN old m.toNat root n.toNat p

end Go.Proofs.YteapfoadfjjicaaDoor.Dig
