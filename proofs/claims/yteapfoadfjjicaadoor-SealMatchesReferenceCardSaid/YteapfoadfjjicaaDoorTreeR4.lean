/- Walks over package gazetteerref02: lengths of proofs, and the roots that they lead to. -/
import Derived.Test.YteapfoadfjjicaaDoorTreeW10
namespace Go.Proofs.YteapfoadfjjicaaDoor.Dig
set_option linter.unusedVariables false
set_option linter.unusedSimpArgs false
open Go.RowKit

set_option maxHeartbeats 1000000 in
theorem rlength_any (N : Nat) : ∀ (n i : Nat) (w : World), n ≤ N → 1 ≤ n → n ≤ 1000000 → i < n →
    Calls Tryd.prog 98 #[.int .i64 (n : Int), .int .i64 (i : Int)] w fun e w' => e = .returned (.int .i64 ((depth n i : Nat) : Int)) ∧ w = w' := by
  induction N with
  | zero => intro n i w hN h1; omega
  | succ N ih =>
    intro n i w hN h1 hmax hi
    by_cases hone : n = 1
    · subst hone
      have He := Lib.hid (show depth 1 i = 0 by rw [depth_eq, if_pos (by omega)])
      rw [He.out]
      clear ih
      go_enter Tryd.func98, Tryd.ntmps98
      go_wp2_with fail
      go_ret
      exact ⟨rfl, rfl⟩
    · have hne : ((n : Int) == 1) = false := by rw [beq_eq_false_iff_ne]; omega
      have hh1 := half_lt n (by omega)
      have hh2 := half_pos n
      have He := Lib.hid (depth_eq n i)
      obtain ⟨k, Hk⟩ : ∃ k : Nat, Hid (half n = k) := ⟨_, Lib.hid rfl⟩
      rw [Hk.out, if_neg (by omega)] at He
      rw [Hk.out] at hh1 hh2
      by_cases hik : i < k
      · rw [if_pos hik] at He
        rw [He.out]
        have Ih := Lib.hid (ih k i w (by omega) (by omega) (by omega) hik)
        have hd := depth_le k k i (Nat.le_refl _)
        clear ih
        go_enter Tryd.func98, Tryd.ntmps98
        go_wp2_with fail
        refine (half_any _ (by omega) (by omega) _).mono ?_
        rintro e w1 ⟨rfl, rfl⟩
        rw [Int.toNat_natCast, Hk.out]
        go_wp2_with fail
        refine Ih.out.mono ?_
        rintro e w1 ⟨rfl, rfl⟩
        go_wp2_with fail
        go_ret
        exact ⟨by go_num, rfl⟩
      · rw [if_neg hik] at He
        rw [He.out]
        have Ih := Lib.hid (ih (n - k) (i - k) w (by omega) (by omega) (by omega) (by omega))
        have hd := depth_le (n - k) (n - k) (i - k) (Nat.le_refl _)
        clear ih
        have C1 := Lib.hid (show (n : Int) - (k : Int) = ((n - k : Nat) : Int) by omega)
        have C2 := Lib.hid (show (i : Int) - (k : Int) = ((i - k : Nat) : Int) by omega)
        go_enter Tryd.func98, Tryd.ntmps98
        go_wp2_with fail
        refine (half_any _ (by omega) (by omega) _).mono ?_
        rintro e w1 ⟨rfl, rfl⟩
        rw [Int.toNat_natCast, Hk.out]
        go_wp2_with fail
        rw [C1.out, C2.out]
        refine Ih.out.mono ?_
        rintro e w1 ⟨rfl, rfl⟩
        go_wp2_with fail
        go_ret
        exact ⟨by go_num, rfl⟩

/-! ### up, both -/

theorem upB_small (N : Nat) (n i : Nat) (d : ByteArray) (p : List ByteArray) (hd : d.size ≤ 1000) : (upB n i d p).size ≤ 1000 := by
  rw [upB_eq]
  split
  · exact hd
  · split
    · rw [nodeB_size]; decide
    · rw [nodeB_size]; decide
theorem lastB_small (p : List ByteArray) (h : small p) : (lastB p).size ≤ 1000 := by
  by_cases h0 : p.length = 0
  · rw [List.eq_nil_of_length_eq_zero h0]; decide
  · have e := snoc_of p (by omega)
    exact h _ (by rw [e]; simp [lastB])
theorem small.dropLast {p : List ByteArray} (h : small p) : small p.dropLast := by
  rw [List.dropLast_eq_take]
  exact h.take _
theorem lastB_get (p : List ByteArray) (h : p.length - 1 < p.length) : lastB p = p[p.length - 1] := by
  unfold lastB
  rw [List.getLastD_eq_getLast?, List.getLast?_eq_getElem?, List.getElem?_eq_getElem h]
  rfl
theorem dropLast_len (p : List ByteArray) : p.dropLast.length = p.length - 1 := List.length_dropLast
theorem StrSl.dropLast {w : World} {b off cap : Nat} {p : List ByteArray} (h : StrSl w (.slice (some ⟨b, off, none⟩) p.length cap) p) : StrSl w (.slice (some ⟨b, off, none⟩) (p.length - 1) cap) p.dropLast := by
  rw [List.dropLast_eq_take]
  exact h.take (p.length - 1) (by omega)

set_option maxRecDepth 100000 in
set_option maxHeartbeats 1000000 in
theorem rup_on (W : World) (N : Nat) : ∀ (n i : Nat) (d : ByteArray) (v : Value) (p : List ByteArray) (w : World), n ≤ N → 1 ≤ n → n ≤ 1000000 → i < n → d.size ≤ 1000 → small p → p.length = depth n i → StrSl W v p → Below W.heap.size W w →
    Calls Tryd.prog 99 #[.int .i64 (n : Int), .int .i64 (i : Int), .string d, v] w fun e w' => e = .returned (.string (upB n i d p)) ∧ Below W.heap.size W w' := by
  induction N with
  | zero => intro n i d v p w hN h1; omega
  | succ N ih =>
    intro n i d v p w hN h1 hmax hi hd hs hlen hl hb
    by_cases hone : n = 1
    · subst hone
      have He := Lib.hid (show upB 1 i d p = d by rw [upB_eq, if_pos (by omega)])
      rw [He.out]
      obtain ⟨a, cap, rfl, hm⟩ := strSl_form hl
      clear ih hl hlen
      go_enter Tryd.func99, Tryd.ntmps99
      go_wp2_with fail
      go_ret
      exact ⟨rfl, hb⟩
    · have hne : ((n : Int) == 1) = false := by rw [beq_eq_false_iff_ne]; omega
      have hh1 := half_lt n (by omega)
      have hh2 := half_pos n
      have He := Lib.hid (upB_eq n i d p)
      rw [depth_eq] at hlen
      obtain ⟨k, Hk⟩ : ∃ k : Nat, Hid (half n = k) := ⟨_, Lib.hid rfl⟩
      rw [Hk.out, if_neg (by omega)] at He
      rw [Hk.out, if_neg (by omega)] at hlen
      rw [Hk.out] at hh1 hh2
      have hpos : 0 < p.length := by
        split at hlen <;> omega
      rcases hl with ⟨rfl, a, cap, rfl⟩ | ⟨b, off, cap, rfl, h0, hbb, hm, hc⟩
      · simp at hpos
      · have hsl : StrSl W (.slice (some ⟨b, off, none⟩) p.length cap) p := .inr ⟨b, off, cap, rfl, h0, hbb, hm, hc⟩
        have hlast := (hb.cell (p := ⟨b, off + (p.length - 1), none⟩) hbb).trans (hc (p.length - 1) (by omega))
        rw [← lastB_get p (by omega)] at hlast
        have hls := lastB_small p hs
        unfold maxLen at hm
        have g1 : (p.length : Int) - 1 < (p.length : Int) := by omega
        have g0 : (0 : Int) ≤ (p.length : Int) - 1 := by omega
        have g2 : (p.length : Int) - 1 ≤ (cap : Int) := by omega
        by_cases hik : i < k
        · rw [if_pos hik] at He hlen
          rw [He.out]
          have Ih := Lib.hid (fun w1 b1 => ih k i d _ p.dropLast w1 (by omega) (by omega) (by omega) hik hd hs.dropLast (by rw [dropLast_len]; omega) hsl.dropLast b1)
          have z1 := upB_small k k i d p.dropLast hd
          have Hlen := Lib.hid hlen
          clear ih hc hsl hlen
          go_enter Tryd.func99, Tryd.ntmps99
          go_wp2_with fail
          refine (half_any _ (by omega) (by omega) _).mono ?_
          rintro e w1 ⟨rfl, rfl⟩
          rw [Int.toNat_natCast, Hk.out]
          go_wp2_with fail
          refine (Ih.out _ hb).mono ?_
          rintro e w1 ⟨rfl, hb1⟩
          go_wp2_with fail
          refine (rnode_on W _ _ z1 hls _ hb1).mono ?_
          rintro e w2 ⟨rfl, hb2⟩
          go_wp2_with fail
          go_ret
          exact ⟨rfl, hb2⟩
        · rw [if_neg hik] at He hlen
          rw [He.out]
          have Ih := Lib.hid (fun w1 b1 => ih (n - k) (i - k) d _ p.dropLast w1 (by omega) (by omega) (by omega) (by omega) hd hs.dropLast (by rw [dropLast_len]; omega) hsl.dropLast b1)
          have z1 := upB_small (n - k) (n - k) (i - k) d p.dropLast hd
          have Hlen := Lib.hid hlen
          have C1 := Lib.hid (show (n : Int) - (k : Int) = ((n - k : Nat) : Int) by omega)
          have C2 := Lib.hid (show (i : Int) - (k : Int) = ((i - k : Nat) : Int) by omega)
          clear ih hc hsl hlen
          go_enter Tryd.func99, Tryd.ntmps99
          go_wp2_with fail
          refine (half_any _ (by omega) (by omega) _).mono ?_
          rintro e w1 ⟨rfl, rfl⟩
          rw [Int.toNat_natCast, Hk.out]
          go_wp2_with fail
          rw [C1.out, C2.out]
          refine (Ih.out _ hb).mono ?_
          rintro e w1 ⟨rfl, hb1⟩
          go_wp2_with fail
          refine (rnode_on W _ _ hls z1 _ hb1).mono ?_
          rintro e w2 ⟨rfl, hb2⟩
          go_wp2_with fail
          go_ret
          exact ⟨rfl, hb2⟩

theorem boB_small (o : ByteArray) : ∀ (N : Nat) (n m : Nat) (f : Bool) (p : List ByteArray), n ≤ N → o.size ≤ 1000 → small p → (boB n m f o p).1.size ≤ 1000 ∧ (boB n m f o p).2.size ≤ 1000 := by
  have base : ∀ (f : Bool) (p : List ByteArray), o.size ≤ 1000 → small p → ((if f then (o, o) else (p.headD ByteArray.empty, p.headD ByteArray.empty)) : ByteArray × ByteArray).1.size ≤ 1000 ∧ ((if f then (o, o) else (p.headD ByteArray.empty, p.headD ByteArray.empty)) : ByteArray × ByteArray).2.size ≤ 1000 := by
    intro f p ho hs
    have hh : (p.headD ByteArray.empty).size ≤ 1000 := by
      match p, hs with
      | [], _ => decide
      | x :: r, hs => exact hs x (by simp)
    cases f with
    | true => exact ⟨ho, ho⟩
    | false => exact ⟨hh, hh⟩
  intro N
  induction N with
  | zero =>
    intro n m f p hn ho hs
    have h0 : m = n ∨ n ≤ 1 := .inr (by omega)
    rw [boB_eq, if_pos h0]
    exact base f p ho hs
  | succ N ih =>
    intro n m f p hn ho hs
    rw [boB_eq]
    by_cases h1 : m = n ∨ n ≤ 1
    · rw [if_pos h1]; exact base f p ho hs
    · have k1 := half_lt n (by omega)
      have k2 := half_pos n
      rw [if_neg h1]
      by_cases h2 : m ≤ half n
      · rw [if_pos h2]
        exact ⟨(ih (half n) m f p.dropLast (by omega) ho hs.dropLast).1, by rw [nodeB_size]; decide⟩
      · rw [if_neg h2]
        exact ⟨by rw [nodeB_size]; decide, by rw [nodeB_size]; decide⟩

theorem below_drewN' {B : Nat} {a w : World} (h : Below B a w) (n : Nat) : Below B a (w.drewN n) := ⟨h.os, h.tape, h.output, h.size, h.block⟩

end Go.Proofs.YteapfoadfjjicaaDoor.Dig

/- Walks over package gazetteerref02: Root, Path, Link. -/
namespace Go.Proofs.YteapfoadfjjicaaDoor.Dig
set_option linter.unusedVariables false
set_option linter.unusedSimpArgs false
open Go.RowKit

set_option maxHeartbeats 1000000 in
theorem rRoot_yes (v : Value) (l : List ByteArray) (hsm : small l) (hmax : l.length ≤ 1000000) (hd : l.all digB = true) (w : World) (hl : StrSl w v l) :
    Calls Tryd.prog 47 #[v] w fun e w' => e = .returned (.tuple #[.string (rootB l), .int .i64 0]) ∧ Below w.heap.size w w' := by
  have Hd := Lib.hid hd
  clear hd
  go_enter Tryd.func47, Tryd.ntmps47
  go_wp2_with fail
  refine (rdigests_any v l hsm _ hl).mono ?_
  rintro e w1 ⟨rfl, rfl⟩
  rw [Hd.out]
  go_wp2_with fail
  refine (rroot_any v l (by omega) hsm _ hl).mono ?_
  rintro e w1 ⟨rfl, hb⟩
  go_wp2_with fail
  go_ret2
  exact ⟨rfl, hb⟩

set_option maxHeartbeats 1000000 in
theorem rRoot_no (v : Value) (l : List ByteArray) (hsm : small l) (hd : l.all digB = false) (w : World) (hl : StrSl w v l) :
    Calls Tryd.prog 47 #[v] w fun e w' => e = .returned (.tuple #[.string ByteArray.empty, .int .i64 1]) ∧ w = w' := by
  have Hd := Lib.hid hd
  clear hd
  go_enter Tryd.func47, Tryd.ntmps47
  go_wp2_with fail
  refine (rdigests_any v l hsm _ hl).mono ?_
  rintro e w1 ⟨rfl, rfl⟩
  rw [Hd.out]
  go_wp2_with fail
  go_ret2
  exact ⟨rfl, rfl⟩

set_option maxHeartbeats 1000000 in
theorem rPath_yes (v : Value) (l : List ByteArray) (hsm : small l) (i : Int) (hok : pathOk l i = true) (hmax : l.length ≤ 1000000) (w : World) (hl : StrSl w v l) :
    Calls Tryd.prog 56 #[v, .int .i64 i] w (RetOwn0 w (pathB l i.toNat)) := by
  unfold pathOk at hok
  rw [Bool.and_eq_true, decide_eq_true_iff] at hok
  obtain ⟨hd, hi0, hi1⟩ := hok
  have Hd := Lib.hid hd
  have Hl := Lib.hid hl
  obtain ⟨a, cap, rfl, hm⟩ := strSl_form hl
  clear hd hl
  go_enter Tryd.func56, Tryd.ntmps56
  go_wp2_with fail
  refine (rdigests_any _ l hsm _ Hl.out).mono ?_
  rintro e w1 ⟨rfl, rfl⟩
  rw [Hd.out]
  go_wp2_with fail
  refine (rpath_on w l.length _ l i (Nat.le_refl _) hmax hsm Hl.out hi0 hi1 w (Below.refl _ _)).mono ?_
  rintro e w1 ⟨u, rfl, ho, hb⟩
  go_wp2_with fail
  go_ret2
  exact ⟨u, rfl, ho, hb⟩

set_option maxHeartbeats 1000000 in
theorem rPath_no (v : Value) (l : List ByteArray) (hsm : small l) (i : Int) (hok : pathOk l i = false) (w : World) (hl : StrSl w v l) :
    Calls Tryd.prog 56 #[v, .int .i64 i] w fun e w' => e = .returned (.tuple #[.slice none 0 0, .int .i64 1]) ∧ w = w' := by
  unfold pathOk at hok
  have Hl := Lib.hid hl
  obtain ⟨a, cap, rfl, hm⟩ := strSl_form hl
  clear hl
  cases hd : l.all digB with
  | false =>
    have Hd := Lib.hid hd
    clear hd hok
    go_enter Tryd.func56, Tryd.ntmps56
    go_wp2_with fail
    refine (rdigests_any _ l hsm _ Hl.out).mono ?_
    rintro e w1 ⟨rfl, rfl⟩
    rw [Hd.out]
    go_wp2_with fail
    go_ret2
    exact ⟨rfl, rfl⟩
  | true =>
    rw [hd, Bool.true_and, decide_eq_false_iff_not] at hok
    have Hd := Lib.hid hd
    clear hd
    by_cases h1 : i < 0
    · clear hok
      go_enter Tryd.func56, Tryd.ntmps56
      go_wp2_with fail
      refine (rdigests_any _ l hsm _ Hl.out).mono ?_
      rintro e w1 ⟨rfl, rfl⟩
      rw [Hd.out]
      go_wp2_with fail
      go_ret2
      exact ⟨rfl, rfl⟩
    · have h2 : (l.length : Int) ≤ i := by omega
      clear hok
      go_enter Tryd.func56, Tryd.ntmps56
      go_wp2_with fail
      refine (rdigests_any _ l hsm _ Hl.out).mono ?_
      rintro e w1 ⟨rfl, rfl⟩
      rw [Hd.out]
      go_wp2_with fail
      go_ret2
      exact ⟨rfl, rfl⟩

end Go.Proofs.YteapfoadfjjicaaDoor.Dig

/- Walks over package gazetteerref02: Check, Extends. -/
namespace Go.Proofs.YteapfoadfjjicaaDoor.Dig
set_option linter.unusedVariables false
set_option linter.unusedSimpArgs false
open Go.RowKit

set_option maxRecDepth 100000 in
set_option maxHeartbeats 1000000 in
theorem rCheck_far (root : ByteArray) (n i : Int) (leaf : ByteArray) (v : Value) (p : List ByteArray) (w : World) (hr : ¬ (0 ≤ i ∧ i < n ∧ n ≤ 1000000)) (hl : StrSl w v p) :
    Calls Tryd.prog 63 #[.string root, .int .i64 n, .int .i64 i, .string leaf, v] w fun e w' => e = .returned (.bool false) ∧ Below w.heap.size w w' := by
  obtain ⟨a, cap, rfl, hm⟩ := strSl_form hl
  clear hl
  have hb := Below.refl w.heap.size w
  by_cases h3 : 1000000 < n
  · clear hr
    go_enter Tryd.func63, Tryd.ntmps63
    go_wp2_with fail
    go_ret
    exact ⟨rfl, hb⟩
  · by_cases h1 : i < 0
    · clear hr
      go_enter Tryd.func63, Tryd.ntmps63
      go_wp2_with fail
      go_ret
      exact ⟨rfl, hb⟩
    · have h2 : n ≤ i := by omega
      clear hr
      go_enter Tryd.func63, Tryd.ntmps63
      go_wp2_with fail
      go_ret
      exact ⟨rfl, hb⟩

set_option maxRecDepth 100000 in
set_option maxHeartbeats 1000000 in
theorem rCheck_near (root : ByteArray) (n i : Nat) (leaf : ByteArray) (v : Value) (p : List ByteArray) (hsm : small p) (hls : leaf.size ≤ 1000) (w : World) (hi : i < n) (hn : n ≤ 1000000) (hl : StrSl w v p) :
    Calls Tryd.prog 63 #[.string root, .int .i64 (n : Int), .int .i64 (i : Int), .string leaf, v] w
      fun e w' => e = .returned (.bool (digB leaf && (p.all digB && (decide (p.length = depth n i) && decide (upB n i leaf p = root))))) ∧ Below w.heap.size w w' := by
  have Hl := Lib.hid hl
  obtain ⟨a, cap, rfl, hm⟩ := strSl_form hl
  have hb := Below.refl w.heap.size w
  clear hl
  by_cases hq : p.length = depth n i
  · have hlz : ((p.length : Int) != ((depth n i : Nat) : Int)) = false := by rw [hq]; simp
    have Hq := Lib.hid hq
    cases ha : p.all digB with
    | false =>
      have Ha := Lib.hid ha
      clear ha hq
      rw [Bool.false_and, Bool.and_false]
      go_enter Tryd.func63, Tryd.ntmps63
      go_wp2_with fail
      refine (rlength_any n n i _ (Nat.le_refl _) (by omega) hn hi).mono ?_
      rintro e w1 ⟨rfl, rfl⟩
      go_wp2_with fail
      refine (rdigests_any _ p hsm _ Hl.out).mono ?_
      rintro e w1 ⟨rfl, rfl⟩
      rw [Ha.out]
      go_wp2_with fail
      go_ret
      exact ⟨rfl, hb⟩
    | true =>
      have Ha := Lib.hid ha
      clear ha
      cases hd : digB leaf with
      | false =>
        have Hd := Lib.hid (show isDig (bl leaf) = false from hd)
        clear hd hq
        rw [Bool.false_and]
        go_enter Tryd.func63, Tryd.ntmps63
        go_wp2_with fail
        refine (rlength_any n n i _ (Nat.le_refl _) (by omega) hn hi).mono ?_
        rintro e w1 ⟨rfl, rfl⟩
        go_wp2_with fail
        refine (rdigests_any _ p hsm _ Hl.out).mono ?_
        rintro e w1 ⟨rfl, rfl⟩
        rw [Ha.out]
        go_wp2_with fail
        refine (ris_any leaf (by omega) _).mono ?_
        rintro e w1 ⟨rfl, rfl⟩
        rw [Hd.out]
        go_wp2_with fail
        go_ret
        exact ⟨rfl, hb⟩
      | true =>
        have Hd := Lib.hid (show isDig (bl leaf) = true from hd)
        have hds : leaf.size ≤ 1000 := by rw [digB_size hd]; decide
        rw [decide_eq_true hq, Bool.true_and, Bool.true_and, Bool.true_and]
        clear hd hq
        by_cases hu : upB n i leaf p = root
        · have hs := str_eq hu
          rw [decide_eq_true hu]
          clear hu
          go_enter Tryd.func63, Tryd.ntmps63
          go_wp2_with fail
          refine (rlength_any n n i _ (Nat.le_refl _) (by omega) hn hi).mono ?_
          rintro e w1 ⟨rfl, rfl⟩
          go_wp2_with fail
          refine (rdigests_any _ p hsm _ Hl.out).mono ?_
          rintro e w1 ⟨rfl, rfl⟩
          rw [Ha.out]
          go_wp2_with fail
          refine (ris_any leaf (by omega) _).mono ?_
          rintro e w1 ⟨rfl, rfl⟩
          rw [Hd.out]
          go_wp2_with fail
          refine (rup_on w n n i leaf _ p _ (Nat.le_refl _) (by omega) hn hi hds hsm Hq.out Hl.out (Below.refl _ _)).mono ?_
          rintro e w1 ⟨rfl, hb1⟩
          go_wp2_with fail
          go_ret
          exact ⟨rfl, hb1⟩
        · have hs := str_ne hu
          rw [decide_eq_false hu]
          clear hu
          go_enter Tryd.func63, Tryd.ntmps63
          go_wp2_with fail
          refine (rlength_any n n i _ (Nat.le_refl _) (by omega) hn hi).mono ?_
          rintro e w1 ⟨rfl, rfl⟩
          go_wp2_with fail
          refine (rdigests_any _ p hsm _ Hl.out).mono ?_
          rintro e w1 ⟨rfl, rfl⟩
          rw [Ha.out]
          go_wp2_with fail
          refine (ris_any leaf (by omega) _).mono ?_
          rintro e w1 ⟨rfl, rfl⟩
          rw [Hd.out]
          go_wp2_with fail
          refine (rup_on w n n i leaf _ p _ (Nat.le_refl _) (by omega) hn hi hds hsm Hq.out Hl.out (Below.refl _ _)).mono ?_
          rintro e w1 ⟨rfl, hb1⟩
          go_wp2_with fail
          go_ret
          exact ⟨rfl, hb1⟩
  · have hlz : ((p.length : Int) != ((depth n i : Nat) : Int)) = true := by rw [bne_iff_ne]; omega
    have Hz := Lib.hid (show (digB leaf && (p.all digB && (decide (p.length = depth n i) && decide (upB n i leaf p = root)))) = false by rw [decide_eq_false hq]; simp)
    rw [Hz.out]
    clear hq
    go_enter Tryd.func63, Tryd.ntmps63
    go_wp2_with fail
    refine (rlength_any n n i _ (Nat.le_refl _) (by omega) hn hi).mono ?_
    rintro e w1 ⟨rfl, rfl⟩
    go_wp2_with fail
    go_ret
    exact ⟨rfl, hb⟩

theorem rCheck_any (root : ByteArray) (n i : Int) (leaf : ByteArray) (v : Value) (p : List ByteArray) (hsm : small p) (hls : leaf.size ≤ 1000) (w : World) (hl : StrSl w v p) :
    Calls Tryd.prog 63 #[.string root, .int .i64 n, .int .i64 i, .string leaf, v] w fun e w' => e = .returned (.bool (checkB root n i leaf p)) ∧ Below w.heap.size w w' := by
  unfold checkB
  by_cases h : 0 ≤ i ∧ i < n ∧ n ≤ 1000000
  · obtain ⟨i', rfl⟩ := Int.eq_ofNat_of_zero_le h.1
    obtain ⟨n', rfl⟩ := Int.eq_ofNat_of_zero_le (show 0 ≤ n by omega)
    rw [decide_eq_true h, Bool.true_and, Int.toNat_natCast, Int.toNat_natCast]
    exact rCheck_near root n' i' leaf v p hsm hls w (by omega) (by omega) hl
  · rw [decide_eq_false h, Bool.false_and]
    exact rCheck_far root n i leaf v p w h hl

end Go.Proofs.YteapfoadfjjicaaDoor.Dig

/- Walks over package gazetteerref02: Extends. -/
namespace Go.Proofs.YteapfoadfjjicaaDoor.Dig
set_option linter.unusedVariables false
set_option linter.unusedSimpArgs false
open Go.RowKit

end Go.Proofs.YteapfoadfjjicaaDoor.Dig
