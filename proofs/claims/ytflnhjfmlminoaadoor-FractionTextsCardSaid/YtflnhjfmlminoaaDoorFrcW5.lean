/- Walks over package fraction: results. -/
import Derived.Test.YtflnhjfmlminoaaDoorFrcW4
import Derived.RegionTactic
import Derived.Deep.DeepCutAuto
namespace Go.Proofs.YtflnhjfmlminoaaDoor.Fr
set_option linter.unusedVariables false
set_option linter.unusedSimpArgs false
open Go.RowKit

/-- is the number a term? -/
def isT (P : Int) : Bool := decide (-4611686018427387904 ≤ P ∧ P ≤ 4611686018427387904)

/-- block B holds one cell -/
def One (w : World) (B : Nat) (t : TypeId) (x : Value) : Prop := w.heap[B]? = some (.cells #[x] t (0, 0))
theorem One.lt {w : World} {B : Nat} {t : TypeId} {x : Value} (h : One w B t x) : B < w.heap.size := (Array.getElem?_eq_some_iff.1 h).1
theorem One.facts {w : World} {B : Nat} {t : TypeId} {x : Value} (h : One w B t x) : w.cell? ⟨B, 0, none⟩ = some x ∧ w.frozen? ⟨B, 0, none⟩ = false := by
  unfold One at h
  simp [World.cell?, World.frozen?, h]
theorem One.below {w w' : World} {N B : Nat} {t : TypeId} {x : Value} (h : One w B t x) (hb : Below N w w') (hlt : B < N) : One w' B t x := (hb.block B hlt).trans h
theorem One.alloc {w : World} {B : Nat} {t : TypeId} {x : Value} (h : One w B t x) (o : Obj) : One (w.alloc o) B t x := by
  have := h.lt
  unfold One at h ⊢
  show (w.heap.push o)[B]? = _
  rw [Array.getElem?_push, if_neg (by omega), h]
theorem One.at {w : World} {B : Nat} (h : B = w.heap.size) (t : TypeId) (x : Value) : One (w.alloc (.cells #[x] t)) B t x := by
  subst h
  show (w.heap.push _)[w.heap.size]? = _
  rw [Array.getElem?_push, if_pos rfl]

/-- all blocks but c are as they were -/
structure KeptBut (c : Nat) (w w' : World) : Prop where
  os : w'.os = w.os
  tape : w'.tape = w.tape
  output : w'.output = w.output
  size : w.heap.size ≤ w'.heap.size
  block : ∀ k, k < w.heap.size → k ≠ c → w'.heap[k]? = w.heap[k]?
theorem KeptBut.refl (c : Nat) (w : World) : KeptBut c w w := ⟨rfl, rfl, rfl, Nat.le_refl _, fun _ _ _ => rfl⟩
theorem KeptBut.then {c : Nat} {w w1 w2 : World} (h : KeptBut c w w1) (hb : Below w1.heap.size w1 w2) : KeptBut c w w2 :=
  ⟨hb.os.trans h.os, hb.tape.trans h.tape, hb.output.trans h.output, Nat.le_trans h.size hb.size, fun k hk hc => (hb.block k (Nat.lt_of_lt_of_le hk h.size)).trans (h.block k hk hc)⟩
theorem KeptBut.ofBelow {w w1 : World} (c : Nat) (hb : Below w.heap.size w w1) : KeptBut c w w1 := (KeptBut.refl c w).then hb
theorem KeptBut.set {c : Nat} {w w1 : World} (h : KeptBut c w w1) (v : Value) : KeptBut c w (w1.setCell ⟨c, 0, none⟩ v) :=
  ⟨h.os, h.tape, h.output, by have := h.size; simpa [World.setCell] using this, fun k hk hc => (Below.heap_setCell _ _ _ _ hc).trans (h.block k hk hc)⟩
theorem KeptBut.below {c N : Nat} {w0 w w1 : World} (h : KeptBut c w w1) (hb : Below N w0 w) (hc : N ≤ c) (hN : N ≤ w.heap.size) : Below N w0 w1 :=
  hb.trans ⟨h.os, h.tape, h.output, h.size, fun k hk => h.block k (by omega) (by omega)⟩
theorem One.set {w : World} {c : Nat} {t : TypeId} {x : Value} (h : One w c t x) (v : Value) : One (w.setCell ⟨c, 0, none⟩ v) c t v := by
  unfold One at h ⊢
  rw [heap_setCell_same _ _ _ _ _ _ h]
  rfl

/-- what the closure leaves -/
def TermPost (P : Int) (c : Nat) (r : Bool) (w : World) (e : Ending) (w' : World) : Prop :=
  ∃ n : Int, e = .returned (.int .i64 n) ∧ (r = true → n = P) ∧ KeptBut c w w' ∧ One w' c 4 (.bool r)

theorem wrap_lo (P n : Int) (hn : IntKind.i64.wrap (loW P) = n) : loW n = loW P ∧ (P = n ∨ hiW P ≠ hiW n) ∧ -9223372036854775808 ≤ n ∧ n ≤ 9223372036854775807 := by
  rw [IntKind.wrap_i64] at hn
  unfold loW hiW at *
  omega
theorem term_yes (P : Int) (c : Nat) (w : World) (hc : One w c 4 (.bool true)) (hP : isT P = true) :
    Calls Tryd.prog 49 #[.agg #[.int .i64 (hiW P), .int .u64 (loW P)], .pointer (some ⟨c, 0, none⟩)] w (TermPost P c true w) := by
  have hT := of_decide_eq_true hP
  obtain ⟨n1, n2⟩ := hT
  have hn : IntKind.i64.wrap (loW P) = P := by
    rw [IntKind.wrap_i64]
    unfold loW
    omega
  have clt := hc.lt
  obtain ⟨c0, f0⟩ := hc.facts
  go_enter Tryd.func49, Tryd.ntmps49
  go_wp2_with fail
  go_region_with (first | (go_at_call 30; refine (product_any _ _ (by omega) (by omega) (by omega) (by omega) _).mono ?_; rintro e w1 ⟨rfl, hb1⟩; have o1 : One w1 c 4 (.bool true) := (hb1.block c (by simp; omega)).trans (hc.alloc _); obtain ⟨c1, f1⟩ := o1.facts; have p1 : Two w1 w.heap.size 45 (.int .i64 (hiW P)) (.int .u64 (loW P)) := (hb1.block w.heap.size (by simp)).trans (Two.new _ _ _ _); obtain ⟨d1, d2, d3, d4⟩ := p1.facts) | (go_at_call 40; refine (isTerm_yes _ n1 n2 _).mono ?_; rintro e w2 ⟨rfl, rfl⟩))
  all_goals
    go_wp2_with fail
    go_ret
    exact ⟨P, rfl, fun _ => rfl, (KeptBut.ofBelow c (((Below.refl w.heap.size w).alloc (Nat.le_refl _) _).drew.trans (hb1.mono (by simp)))).set _, o1.set _⟩
set_option maxHeartbeats 1000000 in
theorem term_no (P : Int) (c : Nat) (w : World) (hc : One w c 4 (.bool true)) (hP : isT P = false) :
    Calls Tryd.prog 49 #[.agg #[.int .i64 (hiW P), .int .u64 (loW P)], .pointer (some ⟨c, 0, none⟩)] w (TermPost P c false w) := by
  have hT := of_decide_eq_false hP
  have clt := hc.lt
  obtain ⟨c0, f0⟩ := hc.facts
  generalize hn : IntKind.i64.wrap (loW P) = n
  obtain ⟨k1, k2, k3, k4⟩ := wrap_lo P n hn
  by_cases hPn : P = n
  · subst hPn
    go_enter Tryd.func49, Tryd.ntmps49
    go_wp2_with fail
    go_region_with (first | (go_at_call 30; refine (product_any _ _ (by omega) (by omega) (by omega) (by omega) _).mono ?_; rintro e w1 ⟨rfl, hb1⟩; have o1 : One w1 c 4 (.bool true) := (hb1.block c (by simp; omega)).trans (hc.alloc _); obtain ⟨c1, f1⟩ := o1.facts; have p1 : Two w1 w.heap.size 45 (.int .i64 (hiW P)) (.int .u64 (loW P)) := (hb1.block w.heap.size (by simp)).trans (Two.new _ _ _ _); obtain ⟨d1, d2, d3, d4⟩ := p1.facts) | (go_at_call 40; refine (isTerm_no _ hT _).mono ?_; rintro e w2 ⟨rfl, rfl⟩))
    all_goals
      go_wp2_with fail
      go_ret
      exact ⟨P, rfl, nofun, (KeptBut.ofBelow c (((Below.refl w.heap.size w).alloc (Nat.le_refl _) _).drew.trans (hb1.mono (by simp)))).set _, o1.set _⟩
  · have k5 : (hiW P == hiW n) = false := by simpa using k2.resolve_left hPn
    clear k2
    go_enter Tryd.func49, Tryd.ntmps49
    go_wp2_with fail
    first | go_region_with (first | (go_at_call 30; refine (product_any _ _ (by omega) (by omega) (by omega) (by omega) _).mono ?_; rintro e w1 ⟨rfl, hb1⟩; have o1 : One w1 c 4 (.bool true) := (hb1.block c (by simp; omega)).trans (hc.alloc _); obtain ⟨c1, f1⟩ := o1.facts; have p1 : Two w1 w.heap.size 45 (.int .i64 (hiW P)) (.int .u64 (loW P)) := (hb1.block w.heap.size (by simp)).trans (Two.new _ _ _ _); obtain ⟨d1, d2, d3, d4⟩ := p1.facts)) | fail
    all_goals
      go_wp2_with fail
      go_ret
      exact ⟨n, rfl, nofun, (KeptBut.ofBelow c (((Below.refl w.heap.size w).alloc (Nat.le_refl _) _).drew.trans (hb1.mono (by simp)))).set _, o1.set _⟩
theorem term_off (P : Int) (c : Nat) (w : World) (hc : One w c 4 (.bool false)) :
    Calls Tryd.prog 49 #[.agg #[.int .i64 (hiW P), .int .u64 (loW P)], .pointer (some ⟨c, 0, none⟩)] w (TermPost P c false w) := by
  have clt := hc.lt
  obtain ⟨c0, f0⟩ := hc.facts
  generalize hn : IntKind.i64.wrap (loW P) = n
  go_enter Tryd.func49, Tryd.ntmps49
  go_wp2_with fail
  first | go_region_with (fail) | fail
  all_goals
    go_wp2_with fail
    go_ret
    exact ⟨n, rfl, nofun, ((KeptBut.refl c w).set _).then (((Below.refl _ _).alloc (Nat.le_refl _) _).drew), (hc.set _).alloc _⟩
end Go.Proofs.YtflnhjfmlminoaaDoor.Fr
