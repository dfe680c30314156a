/- Walks over package lexer: gaps are passed over, tokens are taken. -/
import Derived.Test.YtcabhanmeookkaaDoorLexW1
namespace Go.Proofs.YtcabhanmeookkaaDoor.Lx
set_option linter.unusedVariables false
set_option linter.unusedSimpArgs false
open Go.RowKit

set_option maxHeartbeats 1000000 in
theorem until_any (B p : Nat) (s : ByteArray) (hs : s.size ≤ 100000) (i : Nat) (hi : i ≤ 100001) (v : Value) (l : List Nat) (hm : l.length ≤ 1000) (w : World) (hr : Rd w B s p) (hv : ClsSl w v l) :
    Calls Tryd.prog 56 #[.pointer (some ⟨B, 0, none⟩), .int .i64 (i : Int), v] w fun e w' => e = .returned (.int .i64 ((i + tw (fun c => !ofB l c) (rest s i) : Nat) : Int)) ∧ Below w.heap.size w w' := by
  have Hr := Lib.hid hr
  have Hv := Lib.hid hv
  have Htl := Lib.hid (Nat.le_trans (tw_le (fun c => !ofB l c) (rest s i)) (Nat.le_of_eq (rest_length s i)))
  clear hr hv
  go_enter Tryd.func56, Tryd.ntmps56
  go_wp2_with fail
  go_loopw [1] (fun a wr => ∃ k : Nat, k ≤ tw (fun c => !ofB l c) (rest s i) ∧ a = .int .i64 ((i + k : Nat) : Int) ∧ Below w.heap.size w wr) (fun a _ => i + tw (fun c => !ofB l c) (rest s i) + 1 - (intOf a).toNat)
  case atStart => exact ⟨0, by omega, rfl, Below.refl _ _⟩
  case round =>
    obtain ⟨k, hk, rfl, hbel⟩ := hrel
    have hkb : i + k ≤ 1000000 := by have := Htl.out; omega
    have hkb2 : ((i + k : Nat) : Int) ≤ 1000000 := by omega
    have hr := Hr.out.kept hbel
    have h0 := hr.text
    have Hk := Lib.hid hk
    have Hrr := Lib.hid hr
    have HE := Lib.hid (tw_eq_of (fun c => !ofB l c) (rest s i) k hk)
    have HG := Lib.hid (tw_ge_succ (fun c => !ofB l c) (rest s i) k hk)
    have HL := Lib.hid (rest_length s i)
    have HR := Lib.hid (rest_get s i k)
    clear hk hr
    by_cases hlt : i + k < s.size
    · have hl : k < (rest s i).length := by have := HL.out; omega
      have hE := HE.out
      have hG := HG.out hl
      have hR := HR.out hl hlt
      rw [hR] at hG
      have hE2 : ∀ _ : k < (rest s i).length, (!ofB l (rest s i)[k]) = !ofB l s[i + k] := fun h => by rw [hR]
      have HG := Lib.hid hG
      have HE2 := Lib.hid hE2
      have his : isB s (i + k) l = ofB l s[i + k] := by unfold isB; rw [dif_pos hlt]
      have His := Lib.hid his
      clear hE hG hR his hl hE2
      generalize hj : i + k = j at *
      have Hj := Lib.hid hj
      clear hj
      go_wp2_with fail
      refine (is_any B p s j hkb v l hm wr Hrr.out (Hv.out.below hbel)).mono ?_
      rintro e w1 ⟨rfl, hb1⟩
      have hbel1 := hbel.trans (hb1.mono hbel.size)
      cases hx : isB s j l with
      | true =>
        have Hx := Lib.hid hx
        clear hx
        go_wp2_with fail
        go_ret
        rw [HE.out (fun h => by rw [HE2.out h, ← His.out, Hx.out]; rfl), Hj.out]
        exact ⟨rfl, hbel1⟩
      | false =>
        have Hx := Lib.hid hx
        clear hx
        go_wp2_with fail
        have hg1 := HG.out (by rw [← His.out, Hx.out]; rfl)
        go_roundw
        case rel => exact ⟨k + 1, hg1, by rw [← Hj.out]; go_num, hbel1⟩
        case measure =>
          have h2 := Hj.out
          simp [intOf]
          omega
    · have hd : decide (i + k < s.size) = false := by simp; omega
      have hE := HE.out (fun h => by have := HL.out; omega)
      have HE1 := Lib.hid hE
      clear hE hlt
      generalize hj : i + k = j at *
      have Hj := Lib.hid hj
      clear hj
      go_wp2_with fail
      go_ret
      rw [HE1.out, Hj.out]
      exact ⟨rfl, hbel⟩

/-! ### What the classes are -/

theorem of_blank : ofB [1, 2] = isBlank := by
  funext c
  revert c
  refine byte_all ?_
  decide +kernel
theorem of_line : (fun c => !ofB [2] c) = fun c => !decide (c.toNat = 10) := by
  funext c
  revert c
  refine byte_all ?_
  decide +kernel
theorem of_hash : ofB [3] = fun c => decide (c.toNat = 35) := by
  funext c
  revert c
  refine byte_all ?_
  decide +kernel
theorem of_word : ofB [4, 5, 6] = isWord := by
  funext c
  revert c
  refine byte_all ?_
  decide +kernel
theorem of_num : ofB [5] = isNum := by
  funext c
  revert c
  refine byte_all ?_
  decide +kernel
theorem of_let : ∀ c, isNum c = false → ofB [4, 6] c = isWord c := by
  refine byte_all ?_
  decide +kernel
theorem of_in : (fun c => !ofB [7, 2] c) = isIn := by
  funext c
  revert c
  refine byte_all ?_
  decide +kernel
theorem of_quote : ofB [7] = fun c => decide (c = 34) := by
  funext c
  revert c
  refine byte_all ?_
  decide +kernel
theorem of_equals : ofB [10] = fun c => decide (c = 61) := by
  funext c
  revert c
  refine byte_all ?_
  decide +kernel

theorem gp_blank : ∀ l : List UInt8, gp false l = tw isBlank l + gp false (l.drop (tw isBlank l))
  | [] => rfl
  | c :: l => by
    rw [tw_cons]
    cases hb : isBlank c with
    | true =>
      have h := gp_blank l
      simp only [gp, hb, if_true, List.drop_succ_cons]
      omega
    | false => simp
theorem gp_comment : ∀ l : List UInt8, gp true l = tw (fun c => !decide (c.toNat = 10)) l + gp false (l.drop (tw (fun c => !decide (c.toNat = 10)) l))
  | [] => rfl
  | c :: l => by
    rw [tw_cons]
    by_cases hc : c.toNat = 10
    · have hb : isBlank c = true := by unfold isBlank; simp [hc]
      simp [gp, hc, hb]
    · have h := gp_comment l
      simp only [gp, hc, if_false, decide_false, Bool.not_false, if_true, List.drop_succ_cons]
      omega
theorem gp_hash (l : List UInt8) (c : UInt8) (h : l.head? = some c) (hc : c.toNat = 35) : gp false l = tw (fun c => !decide (c.toNat = 10)) l + gp false (l.drop (tw (fun c => !decide (c.toNat = 10)) l)) := by
  cases l with
  | nil => simp at h
  | cons d l =>
    simp only [List.head?_cons, Option.some.injEq] at h
    subst h
    have hb : isBlank d = false := by unfold isBlank; simp [hc]
    have h2 := gp_comment l
    rw [tw_cons]
    simp only [gp, hb, hc, Bool.false_eq_true, if_false, if_true, List.drop_succ_cons, show decide (35 = 10) = false from rfl, Bool.not_false]
    omega
theorem gp_none (l : List UInt8) (h1 : ∀ c, l.head? = some c → isBlank c = false) (h2 : ∀ c, l.head? = some c → c.toNat ≠ 35) : gp false l = 0 := by
  cases l with
  | nil => rfl
  | cons c l =>
    refine gp_head c l ?_
    unfold isGap
    rw [h1 c rfl, Bool.false_or]
    simpa using h2 c rfl

theorem rest_drop (s : ByteArray) (i k : Nat) : (rest s i).drop k = rest s (i + k) := List.drop_drop

/-! ### Only one block is another one -/

theorem only_below {w w' : World} (B : Nat) (h : Below w.heap.size w w') : w.grownBy w' (some B) := ⟨h.os, h.tape, h.output, h.size, fun k hk _ => h.block k hk⟩
theorem only_refl (w : World) (B : Nat) : w.grownBy w (some B) := ⟨rfl, rfl, rfl, Nat.le_refl _, fun _ _ _ => rfl⟩
theorem only_trans {a b c : World} {row : Option Nat} (h : a.grownBy b row) (k : b.grownBy c row) : a.grownBy c row :=
  ⟨k.os.trans h.os, k.tape.trans h.tape, k.output.trans h.output, Nat.le_trans h.size k.size, fun i hi hne => (k.block i (Nat.lt_of_lt_of_le hi h.size) hne).trans (h.block i hi hne)⟩
theorem only_set (w : World) (B o : Nat) (v : Value) : w.grownBy (w.setCell ⟨B, o, none⟩ v) (some B) :=
  ⟨rfl, rfl, rfl, by simp [World.setCell], fun k _ hk => Below.heap_setCell _ _ _ k (fun e => hk (by rw [e]))⟩
theorem only_alloc (w : World) (B : Nat) (o : Obj) : w.grownBy (w.alloc o) (some B) := only_below B ((Below.refl _ _).alloc (Nat.le_refl _) _)

theorem cls_new (w : World) (l : List Nat) : ClsSl (w.alloc (.cells (valA l) 71)) (.slice (some ⟨w.heap.size, 0, none⟩) l.length l.length) l := by
  refine ⟨w.heap.size, 0, l.length, rfl, by simp, fun i hi => ?_⟩
  rw [cell_of_row _ _ _ _ _ _ (heap_alloc_new w _), Nat.zero_add, valA_get _ _ hi]

theorem is_new (B p : Nat) (s : ByteArray) (i : Nat) (hi : i ≤ 1000000) (l : List Nat) (hm : l.length ≤ 1000) (cs : Array Value) (n N : Nat) (hcs : cs = valA l) (hn : n = l.length) (w : World) (hN : N = w.heap.size) (hr : Rd w B s p) :
    Calls Tryd.prog 55 #[.pointer (some ⟨B, 0, none⟩), .int .i64 (i : Int), .slice (some ⟨N, 0, none⟩) n n] (w.alloc (.cells cs 71)) fun e w' => e = .returned (.bool (isB s i l)) ∧ Below w.heap.size w w' := by
  subst hcs hn hN
  have hb : Below w.heap.size w (w.alloc (.cells (valA l) 71)) := (Below.refl _ _).alloc (Nat.le_refl _) _
  exact (is_any B p s i hi _ l hm _ (hr.kept hb) (cls_new w l)).mono fun e w' ⟨he, h⟩ => ⟨he, hb.trans (h.mono hb.size)⟩
theorem after_new (B p : Nat) (s : ByteArray) (hs : s.size ≤ 100000) (i : Nat) (hi : i ≤ 100001) (l : List Nat) (hm : l.length ≤ 1000) (cs : Array Value) (n N : Nat) (hcs : cs = valA l) (hn : n = l.length) (w : World) (hN : N = w.heap.size) (hr : Rd w B s p) :
    Calls Tryd.prog 54 #[.pointer (some ⟨B, 0, none⟩), .int .i64 (i : Int), .slice (some ⟨N, 0, none⟩) n n] (w.alloc (.cells cs 71)) fun e w' => e = .returned (.int .i64 ((i + tw (ofB l) (rest s i) : Nat) : Int)) ∧ Below w.heap.size w w' := by
  subst hcs hn hN
  have hb : Below w.heap.size w (w.alloc (.cells (valA l) 71)) := (Below.refl _ _).alloc (Nat.le_refl _) _
  exact (after_any B p s hs i hi _ l hm _ (hr.kept hb) (cls_new w l)).mono fun e w' ⟨he, h⟩ => ⟨he, hb.trans (h.mono hb.size)⟩
theorem until_new (B p : Nat) (s : ByteArray) (hs : s.size ≤ 100000) (i : Nat) (hi : i ≤ 100001) (l : List Nat) (hm : l.length ≤ 1000) (cs : Array Value) (n N : Nat) (hcs : cs = valA l) (hn : n = l.length) (w : World) (hN : N = w.heap.size) (hr : Rd w B s p) :
    Calls Tryd.prog 56 #[.pointer (some ⟨B, 0, none⟩), .int .i64 (i : Int), .slice (some ⟨N, 0, none⟩) n n] (w.alloc (.cells cs 71)) fun e w' => e = .returned (.int .i64 ((i + tw (fun c => !ofB l c) (rest s i) : Nat) : Int)) ∧ Below w.heap.size w w' := by
  subst hcs hn hN
  have hb : Below w.heap.size w (w.alloc (.cells (valA l) 71)) := (Below.refl _ _).alloc (Nat.le_refl _) _
  exact (until_any B p s hs i hi _ l hm _ (hr.kept hb) (cls_new w l)).mono fun e w' ⟨he, h⟩ => ⟨he, hb.trans (h.mono hb.size)⟩

theorem isB_head (s : ByteArray) (i : Nat) (l : List Nat) : isB s i l = match (rest s i).head? with | some c => ofB l c | none => false := by
  unfold isB rest
  rw [List.head?_drop]
  by_cases h : i < s.size
  · rw [dif_pos h, List.getElem?_eq_getElem (by rw [← Lib.size_eq]; exact h)]
    rfl
  · rw [dif_neg h, List.getElem?_eq_none (by rw [← Lib.size_eq]; omega)]

/-- one step of the gaps: the place behind the blanks, and behind a comment and the blanks after it -/
def sk1 (s : ByteArray) (q : Nat) : Nat := q + tw isBlank (rest s q)
def sk2 (s : ByteArray) (q : Nat) : Nat := sk1 s (q + tw (fun c => !decide (c.toNat = 10)) (rest s q))
theorem sk1_gp (s : ByteArray) (q : Nat) : sk1 s q + gp false (rest s (sk1 s q)) = q + gp false (rest s q) := by
  unfold sk1
  rw [gp_blank (rest s q), rest_drop]
  omega
theorem sk1_le (s : ByteArray) (q : Nat) (h : q ≤ s.size) : q ≤ sk1 s q ∧ sk1 s q ≤ s.size := by
  have h1 := tw_le isBlank (rest s q)
  rw [rest_length] at h1
  unfold sk1
  omega
theorem sk1_head (s : ByteArray) (q : Nat) : ∀ c, (rest s (sk1 s q)).head? = some c → isBlank c = false := by
  intro c h
  refine tw_head isBlank (rest s q) c ?_
  rw [rest_drop]
  exact h
theorem isB_hash {s : ByteArray} {q : Nat} (h : isB s q [3] = true) : ∃ c, (rest s q).head? = some c ∧ c.toNat = 35 := by
  rw [isB_head, of_hash] at h
  cases hh : (rest s q).head? with
  | none => rw [hh] at h; cases h
  | some c => rw [hh] at h; exact ⟨c, rfl, by simpa using h⟩
theorem sk2_gp (s : ByteArray) (q : Nat) (h : isB s q [3] = true) : sk2 s q + gp false (rest s (sk2 s q)) = q + gp false (rest s q) := by
  obtain ⟨c, hc, h35⟩ := isB_hash h
  unfold sk2
  rw [sk1_gp, gp_hash _ c hc h35, rest_drop]
  omega
theorem sk2_le (s : ByteArray) (q : Nat) (hq : q ≤ s.size) (h : isB s q [3] = true) : q < sk2 s q ∧ sk2 s q ≤ s.size := by
  obtain ⟨c, hc, h35⟩ := isB_hash h
  have h1 := tw_le (fun c => !decide (c.toNat = 10)) (rest s q)
  rw [rest_length] at h1
  have h2 : 0 < tw (fun c => !decide (c.toNat = 10)) (rest s q) := by
    cases hr : rest s q with
    | nil => rw [hr] at hc; simp at hc
    | cons d l =>
      rw [hr] at hc
      simp only [List.head?_cons, Option.some.injEq] at hc
      subst hc
      rw [tw_cons]
      simp [h35]
  have h3 := sk1_le s (q + tw (fun c => !decide (c.toNat = 10)) (rest s q)) (by omega)
  unfold sk2
  omega
theorem sk_end (s : ByteArray) (q : Nat) (h1 : ∀ c, (rest s q).head? = some c → isBlank c = false) (h2 : isB s q [3] = false) : gp false (rest s q) = 0 := by
  refine gp_none _ h1 fun c hc h35 => ?_
  rw [isB_head, of_hash, hc] at h2
  simp [h35] at h2

def atOf (w : World) (B : Nat) : Nat := (intOf ((w.cell? ⟨B, 257, none⟩).getD undef)).toNat
theorem Rd.atOf {w : World} {B p : Nat} {s : ByteArray} (h : Rd w B s p) : atOf w B = p := by
  unfold Lx.atOf
  rw [h.at]
  rfl

set_option maxHeartbeats 1000000 in
theorem skip_any (B p : Nat) (s : ByteArray) (hs : s.size ≤ 100000) (hp : p ≤ s.size) (w : World) (hr : Rd w B s p) :
    Calls Tryd.prog 48 #[.pointer (some ⟨B, 0, none⟩)] w fun e w' => e = .returned (.tuple #[]) ∧ Rd w' B s (p + gp false (rest s p)) ∧ w.grownBy w' (some B) := by
  have hat := hr.at
  have hfr := hr.frozen
  have Hr := Lib.hid hr
  clear hr
  go_enter Tryd.func48, Tryd.ntmps48
  go_wp2_with fail
  refine (after_new B p s hs p (by omega) [1, 2] (by decide) _ 2 _ rfl rfl w rfl Hr.out).mono ?_
  rintro e w1 ⟨rfl, hb1⟩
  rw [of_blank]
  have hr1 := Hr.out.kept hb1
  have hfr1 := hr1.frozen
  have hat1 := hr1.at
  have Hr1 := Lib.hid hr1
  have hq : ((p + tw isBlank (rest s p) : Nat) : Int) = ((sk1 s p : Nat) : Int) := rfl
  rw [hq]
  clear hr1 hq hat hfr
  go_wp2_with fail
  have hr2 := Hr1.out.set (sk1 s p)
  have hb2 := only_trans (only_below B hb1) (only_set w1 B 257 (.int .i64 (sk1 s p : Int)))
  generalize w1.setCell ⟨B, 257, none⟩ (.int .i64 (sk1 s p : Int)) = w2 at *
  have Hr2 := Lib.hid hr2
  clear hr2 hfr1 hat1 hb1
  go_loopw [] (fun wr => ∃ q : Nat, q ≤ s.size ∧ Rd wr B s q ∧ w.grownBy wr (some B) ∧ q + gp false (rest s q) = p + gp false (rest s p) ∧ ∀ c, (rest s q).head? = some c → isBlank c = false) (fun wr => s.size - atOf wr B)
  case atStart => exact ⟨sk1 s p, (sk1_le s p hp).2, Hr2.out, hb2, sk1_gp s p, sk1_head s p⟩
  case round =>
    clear hb2 Hr2 Hr1 Hr
    obtain ⟨q, hq, hr, hon, hgp, hhead⟩ := hrel
    have hat := hr.at
    have hfr := hr.frozen
    have hme := hr.atOf
    have Hr := Lib.hid hr
    have Hgp := Lib.hid hgp
    have Hhead := Lib.hid hhead
    have Hme := Lib.hid hme
    clear hr hgp hhead hme
    go_wp2_with fail
    refine (is_new B q s q (by omega) [3] (by decide) _ 1 _ rfl rfl wr rfl Hr.out).mono ?_
    rintro e w3 ⟨rfl, hb3⟩
    have hr3 := Hr.out.kept hb3
    have hat3 := hr3.at
    have hfr3 := hr3.frozen
    have hon3 := only_trans hon (only_below B hb3)
    have Hr3 := Lib.hid hr3
    clear hr3 hat hfr
    cases hx : isB s q [3] with
    | true =>
      have Hx := Lib.hid hx
      have hle := sk2_le s q hq hx
      clear hx
      go_wp2_with fail
      refine (until_new B q s hs q (by omega) [2] (by decide) _ 1 _ rfl rfl w3 rfl Hr3.out).mono ?_
      rintro e w4 ⟨rfl, hb4⟩
      rw [of_line]
      have hr4 := Hr3.out.kept hb4
      have hon4 := only_trans hon3 (only_below B hb4)
      have Hr4 := Lib.hid hr4
      have hu : q + tw (fun c => !decide (c.toNat = 10)) (rest s q) ≤ s.size := by
        have h1 := tw_le (fun c => !decide (c.toNat = 10)) (rest s q)
        rw [rest_length] at h1
        omega
      have Hs2 : Hid (sk1 s (q + tw (fun c => !decide (c.toNat = 10)) (rest s q)) = sk2 s q) := rfl
      generalize hU : q + tw (fun c => !decide (c.toNat = 10)) (rest s q) = U at *
      clear hU hr4 hat3 hfr3
      go_wp2_with fail
      refine (after_new B q s hs U (by omega) [1, 2] (by decide) _ 2 _ rfl rfl w4 rfl Hr4.out).mono ?_
      rintro e w5 ⟨rfl, hb5⟩
      rw [of_blank]
      have hr5 := Hr4.out.kept hb5
      have hon5 := only_trans hon4 (only_below B hb5)
      have hat5 := hr5.at
      have hfr5 := hr5.frozen
      have Hr5 := Lib.hid hr5
      have hq2 : ((U + tw isBlank (rest s U) : Nat) : Int) = ((sk2 s q : Nat) : Int) := by rw [← Hs2.out]; rfl
      rw [hq2]
      clear hr5 hq2
      go_wp2_with fail
      have hr6 := Hr5.out.set (sk2 s q)
      have hon6 := only_trans hon5 (only_set w5 B 257 (.int .i64 (sk2 s q : Int)))
      generalize w5.setCell ⟨B, 257, none⟩ (.int .i64 (sk2 s q : Int)) = w6 at *
      go_roundw
      case rel => exact ⟨sk2 s q, hle.2, hr6, hon6, (sk2_gp s q Hx.out).trans Hgp.out, sk1_head s _⟩
      case measure =>
        rw [hr6.atOf, Hme.out]
        omega
    | false =>
      have Hx := Lib.hid hx
      clear hx
      go_wp2_with fail
      first | go_end0 | skip
      have h0 := sk_end s q Hhead.out Hx.out
      have h1 := Hgp.out
      rw [h0, Nat.add_zero] at h1
      exact ⟨rfl, h1 ▸ Hr3.out, hon3⟩

end Go.Proofs.YtcabhanmeookkaaDoor.Lx
