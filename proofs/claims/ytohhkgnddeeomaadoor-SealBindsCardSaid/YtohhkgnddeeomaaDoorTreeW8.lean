/- Walks over package tree: the roots that a proof leads to. -/
import Derived.Test.YtohhkgnddeeomaaDoorTreeW7
namespace Go.Proofs.YtohhkgnddeeomaaDoor.Dig
set_option linter.unusedVariables false
set_option linter.unusedSimpArgs false
open Go.RowKit

theorem tk_small {s : Rest} (h : small s.1) : (tk s).1.size ≤ 1000 ∧ small (tk s).2.1 := by
  match s, h with
  | ([], _), _ => exact ⟨show ByteArray.empty.size ≤ 1000 by decide, fun _ hs => by simp [tk] at hs⟩
  | (x :: r, b), h => exact ⟨h x (by simp), fun y hy => h y (List.mem_cons_of_mem _ hy)⟩

theorem rd_small (N : Nat) : ∀ (n i : Nat) (d : ByteArray) (s : Rest), n ≤ N → d.size ≤ 1000 → small s.1 → (rdB n i d s).1.size ≤ 1000 ∧ small (rdB n i d s).2.1 := by
  induction N with
  | zero =>
    intro n i d s hn hd hs
    rw [rdB_eq, if_pos (by omega)]
    exact ⟨hd, hs⟩
  | succ N ih =>
    intro n i d s hn hd hs
    rw [rdB_eq]
    by_cases h1 : n ≤ 1
    · rw [if_pos h1]
      exact ⟨hd, hs⟩
    · have k1 := half_lt n (by omega)
      have k2 := half_pos n
      rw [if_neg h1]
      by_cases h2 : i < half n
      · rw [if_pos h2]
        obtain ⟨h3, h4⟩ := ih (half n) i d s (by omega) hd hs
        exact ⟨by rw [nodeB_size]; decide, (tk_small h4).2⟩
      · rw [if_neg h2]
        obtain ⟨h3, h4⟩ := ih (n - half n) (i - half n) d s (by omega) hd hs
        exact ⟨by rw [nodeB_size]; decide, (tk_small h4).2⟩

theorem rs_small (N : Nat) : ∀ (n m : Nat) (b : Bool) (o : ByteArray) (s : Rest), n ≤ N → o.size ≤ 1000 → small s.1 → (rsB n m b o s).1.size ≤ 1000 ∧ (rsB n m b o s).2.1.size ≤ 1000 ∧ small (rsB n m b o s).2.2.1 := by
  have base : ∀ (b : Bool) (o : ByteArray) (s : Rest), o.size ≤ 1000 → small s.1 → ((if b then (o, o, s) else ((tk s).1, (tk s).1, (tk s).2)) : Two).1.size ≤ 1000 ∧ ((if b then (o, o, s) else ((tk s).1, (tk s).1, (tk s).2)) : Two).2.1.size ≤ 1000 ∧ small ((if b then (o, o, s) else ((tk s).1, (tk s).1, (tk s).2)) : Two).2.2.1 := by
    intro b o s ho hs
    cases b with
    | true => exact ⟨ho, ho, hs⟩
    | false => exact ⟨(tk_small hs).1, (tk_small hs).1, (tk_small hs).2⟩
  induction N with
  | zero =>
    intro n m b o s hn ho hs
    have h0 : m = n ∨ n ≤ 1 := .inr (by omega)
    rw [rsB_eq, if_pos h0]
    exact base b o s ho hs
  | succ N ih =>
    intro n m b o s hn ho hs
    rw [rsB_eq]
    by_cases h1 : m = n ∨ n ≤ 1
    · rw [if_pos h1]
      exact base b o s ho hs
    · have k1 := half_lt n (by omega)
      have k2 := half_pos n
      rw [if_neg h1]
      by_cases h2 : m ≤ half n
      · rw [if_pos h2]
        obtain ⟨h3, h4, h5⟩ := ih (half n) m b o s (by omega) ho hs
        exact ⟨h3, by rw [nodeB_size]; decide, (tk_small h5).2⟩
      · rw [if_neg h2]
        obtain ⟨h3, h4, h5⟩ := ih (n - half n) (m - half n) false o s (by omega) ho hs
        exact ⟨by rw [nodeB_size]; decide, by rw [nodeB_size]; decide, (tk_small h5).2⟩

set_option maxRecDepth 100000 in
set_option maxHeartbeats 1000000 in
theorem rd_on (W : World) (ht : Tab W) (p : Nat) (N : Nat) : ∀ (n i : Nat) (d : ByteArray) (s : Rest) (w : World), n ≤ N → 1 ≤ n → n ≤ 1000000 → i < n → d.size ≤ 1000 → small s.1 → RestAt w W p s → Below W.heap.size W w →
    Calls Tryd.prog 66 #[.pointer (some ⟨p, 0, none⟩), .int .i64 (n : Int), .int .i64 (i : Int), .string d] w
      fun e w' => e = .returned (.string (rdB n i d s).1) ∧ RestAt w' W p (rdB n i d s).2 ∧ Below W.heap.size W w' := by
  induction N with
  | zero => intro n i d s w hN h1; omega
  | succ N ih =>
    intro n i d s w hN h1 hmax hi hd hs hr hb
    by_cases hone : n = 1
    · subst hone
      have He := Lib.hid (show rdB 1 i d s = (d, s) by rw [rdB_eq, if_pos (by omega)])
      rw [He.out]
      have Hr := Lib.hid hr
      clear hr ih
      go_enter Tryd.func66, Tryd.ntmps66
      go_wp2_with fail
      go_ret
      exact ⟨rfl, Hr.out, hb⟩
    · have hne : ((n : Int) == 1) = false := by rw [beq_eq_false_iff_ne]; omega
      have hh1 := half_lt n (by omega)
      have hh2 := half_pos n
      have He := Lib.hid (rdB_eq n i d s)
      obtain ⟨k, Hk⟩ : ∃ k : Nat, Hid (half n = k) := ⟨_, Lib.hid rfl⟩
      rw [Hk.out, if_neg (by omega)] at He
      rw [Hk.out] at hh1 hh2
      have Hr := Lib.hid hr
      clear hr
      by_cases hik : i < k
      · rw [if_pos hik] at He
        rw [He.out]
        have Ih := Lib.hid (fun w1 r1 b1 => ih k i d s w1 (by omega) (by omega) (by omega) hik hd hs r1 b1)
        obtain ⟨z1, z2⟩ := rd_small k k i d s (Nat.le_refl _) hd hs
        obtain ⟨z3, z4⟩ := tk_small z2
        have Z := Lib.hid z2
        clear z2 z4 ih
        go_enter Tryd.func66, Tryd.ntmps66
        go_wp2_with fail
        refine (split_any _ (by omega) (by omega) _).mono ?_
        rintro e w1 ⟨rfl, rfl⟩
        rw [Int.toNat_natCast, Hk.out]
        go_wp2_with fail
        refine (Ih.out _ Hr.out hb).mono ?_
        rintro e w1 ⟨rfl, hr1, hb1⟩
        go_wp2_with fail
        refine (take_on W p _ _ hr1 hb1).mono ?_
        rintro e w2 ⟨rfl, hr2, hb2⟩
        go_wp2_with fail
        refine (node_any _ _ z1 z3 _ (ht.below hb2)).mono ?_
        rintro e w3 ⟨rfl, hb3⟩
        go_wp2_with fail
        go_ret
        exact ⟨rfl, hr2.below hb3, hb2.trans (hb3.mono hb2.size)⟩
      · rw [if_neg hik] at He
        rw [He.out]
        have Ih := Lib.hid (fun w1 r1 b1 => ih (n - k) (i - k) d s w1 (by omega) (by omega) (by omega) (by omega) hd hs r1 b1)
        obtain ⟨z1, z2⟩ := rd_small (n - k) (n - k) (i - k) d s (Nat.le_refl _) hd hs
        obtain ⟨z3, z4⟩ := tk_small z2
        have Z := Lib.hid z2
        clear z2 z4 ih
        have c1 : (n : Int) - (k : Int) = ((n - k : Nat) : Int) := by omega
        have c2 : (i : Int) - (k : Int) = ((i - k : Nat) : Int) := by omega
        have C1 := Lib.hid c1
        have C2 := Lib.hid c2
        clear c1 c2
        go_enter Tryd.func66, Tryd.ntmps66
        go_wp2_with fail
        refine (split_any _ (by omega) (by omega) _).mono ?_
        rintro e w1 ⟨rfl, rfl⟩
        rw [Int.toNat_natCast, Hk.out]
        go_wp2_with fail
        rw [C1.out, C2.out]
        refine (Ih.out _ Hr.out hb).mono ?_
        rintro e w1 ⟨rfl, hr1, hb1⟩
        go_wp2_with fail
        refine (take_on W p _ _ hr1 hb1).mono ?_
        rintro e w2 ⟨rfl, hr2, hb2⟩
        go_wp2_with fail
        refine (node_any _ _ z3 z1 _ (ht.below hb2)).mono ?_
        rintro e w3 ⟨rfl, hb3⟩
        go_wp2_with fail
        go_ret
        exact ⟨rfl, hr2.below hb3, hb2.trans (hb3.mono hb2.size)⟩

end Go.Proofs.YtohhkgnddeeomaaDoor.Dig
