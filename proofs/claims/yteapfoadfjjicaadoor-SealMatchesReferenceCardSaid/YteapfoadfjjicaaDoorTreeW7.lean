/- Walks over package tree: what is left of a proof (take, exact), and the roots that it leads to (root, roots). -/
import Derived.Test.YteapfoadfjjicaaDoorTreeW6
import Derived.BigQuiet
import Derived.Deep.QuietTactic
namespace Go.Proofs.YteapfoadfjjicaaDoor.Dig
set_option linter.unusedVariables false
set_option linter.unusedSimpArgs false
open Go.RowKit

/-- block p, which the call made, is what is left of a proof whose elements lie in W -/
def RestAt (w W : World) (p : Nat) (s : Rest) : Prop := W.heap.size ≤ p ∧ ∃ v, w.heap[p]? = some (.cells #[v, .bool s.2] 102 (0, 0)) ∧ StrSl W v s.1
theorem RestAt.below {w w' W : World} {p : Nat} {s : Rest} (h : RestAt w W p s) (hb : Below w.heap.size w w') : RestAt w' W p s := by
  obtain ⟨h1, v, h2, h3⟩ := h
  obtain ⟨hx, _⟩ := Array.getElem?_eq_some_iff.1 h2
  exact ⟨h1, v, (hb.block p hx).trans h2, h3⟩

theorem StrSl.tail {w : World} {b off cap : Nat} {x : ByteArray} {r : List ByteArray} (h : StrSl w (.slice (some ⟨b, off, none⟩) (r.length + 1) cap) (x :: r)) (a : Option Addr) (ha : ¬ cap = 1 → a = some ⟨b, off + 1, none⟩) : StrSl w (.slice a r.length (cap - 1)) r := by
  rcases h with ⟨h, _⟩ | ⟨b', off', cap', he, h0, hbb, hm, hc⟩
  · simp at h
  · simp only [Value.slice.injEq, Option.some.injEq, Addr.mk.injEq, true_and, and_true] at he
    obtain ⟨⟨rfl, rfl⟩, _, rfl⟩ := he
    by_cases hr : r.length = 0
    · rw [hr]
      exact .inl ⟨List.eq_nil_of_length_eq_zero hr, _, _, rfl⟩
    · simp only [List.length_cons] at hm
      rw [ha (by omega)]
      refine .inr ⟨b, off + 1, _, rfl, by omega, hbb, by omega, fun i hi => ?_⟩
      have := hc (i + 1) (by simp; omega)
      rw [Nat.add_assoc, Nat.add_comm 1 i, this]
      simp

set_option maxHeartbeats 1000000 in
theorem take_none (W : World) (p : Nat) (a : Option Addr) (cap : Nat) (f : Bool) (w : World) (hp : W.heap.size ≤ p) (hh : w.heap[p]? = some (.cells #[.slice a 0 cap, .bool f] 102 (0, 0))) (hb : Below W.heap.size W w) :
    Calls Tryd.prog 120 #[.pointer (some ⟨p, 0, none⟩)] w fun e w' => e = .returned (.string ByteArray.empty) ∧ RestAt w' W p ([], true) ∧ Below W.heap.size W w' := by
  have c0 : w.cell? ⟨p, 0, none⟩ = some (.slice a 0 cap) := by rw [cell_of_row _ _ _ _ _ _ hh]; rfl
  have c1 : w.cell? ⟨p, 1, none⟩ = some (.bool f) := by rw [cell_of_row _ _ _ _ _ _ hh]; rfl
  have f1 : w.frozen? ⟨p, 1, none⟩ = false := frozen_of_row _ _ _ _ _ hh
  have Hh := Lib.hid hh
  clear hh
  go_enter Tryd.func120, Tryd.ntmps120
  go_wp2_with fail
  go_ret
  refine ⟨rfl, ⟨hp, _, ?_, .inl ⟨rfl, a, cap, rfl⟩⟩, hb.setCell hp _⟩
  rw [heap_setCell_same _ _ _ _ _ _ Hh.out]
  rfl

set_option maxHeartbeats 1000000 in
theorem take_some (W : World) (p b off cap : Nat) (x : ByteArray) (r : List ByteArray) (f : Bool) (w : World) (hp : W.heap.size ≤ p)
    (hh : w.heap[p]? = some (.cells #[.slice (some ⟨b, off, none⟩) (r.length + 1) cap, .bool f] 102 (0, 0))) (hsl : StrSl W (.slice (some ⟨b, off, none⟩) (r.length + 1) cap) (x :: r)) (hb : Below W.heap.size W w)
    (hcap : r.length + 1 ≤ cap) (hmax : cap ≤ 9223372036854775807) (hx : w.cell? ⟨b, off, none⟩ = some (.string x)) :
    Calls Tryd.prog 120 #[.pointer (some ⟨p, 0, none⟩)] w fun e w' => e = .returned (.string x) ∧ RestAt w' W p (r, f) ∧ Below W.heap.size W w' := by
  have c0 : w.cell? ⟨p, 0, none⟩ = some (.slice (some ⟨b, off, none⟩) (r.length + 1) cap) := by rw [cell_of_row _ _ _ _ _ _ hh]; rfl
  have f0 : w.frozen? ⟨p, 0, none⟩ = false := frozen_of_row _ _ _ _ _ hh
  have hne : (((r.length + 1 : Nat) : Int) == 0) = false := by rw [beq_eq_false_iff_ne]; omega
  have hne2 : ((r.length : Int) + 1 == 0) = false := by rw [beq_eq_false_iff_ne]; omega
  have g1 : (1 : Int) ≤ (r.length : Int) + 1 := by omega
  have g2 : (r.length : Int) + 1 ≤ (cap : Int) := by omega
  have Hsl := Lib.hid hsl
  have Hh := Lib.hid hh
  clear hh hsl
  by_cases h1 : cap = 1
  · subst h1
    have Hr := Lib.hid (List.eq_nil_of_length_eq_zero (show r.length = 0 by omega))
    go_enter Tryd.func120, Tryd.ntmps120
    go_wp2_with fail
    go_ret
    refine ⟨rfl, ⟨hp, .slice (some ⟨b, off, none⟩) 0 0, ?_, .inl ⟨Hr.out, _, _, rfl⟩⟩, hb.setCell hp _⟩
    rw [heap_setCell_same _ _ _ _ _ _ Hh.out]
    simp
  · go_enter Tryd.func120, Tryd.ntmps120
    go_wp2_with fail
    go_ret
    refine ⟨rfl, ⟨hp, _, ?_, Hsl.out.tail _ (fun h => rfl)⟩, hb.setCell hp _⟩
    rw [heap_setCell_same _ _ _ _ _ _ Hh.out]
    simp

theorem take_on (W : World) (p : Nat) (s : Rest) (w : World) (h : RestAt w W p s) (hb : Below W.heap.size W w) :
    Calls Tryd.prog 120 #[.pointer (some ⟨p, 0, none⟩)] w fun e w' => e = .returned (.string (tk s).1) ∧ RestAt w' W p (tk s).2 ∧ Below W.heap.size W w' := by
  obtain ⟨hp, v, hh, hsl⟩ := h
  match s, hh, hsl with
  | ([], f), hh, hsl =>
    rcases hsl with ⟨_, a, cap, rfl⟩ | ⟨b, off, cap, rfl, h0, hbb, hm, hc⟩
    · exact take_none W p a cap f w hp hh hb
    · simp at h0
  | (x :: r, f), hh, hsl =>
    have hsl' := hsl
    rcases hsl with ⟨h, _⟩ | ⟨b, off, cap, rfl, h0, hbb, hm, hc⟩
    · simp at h
    · have hx := (hb.cell (p := ⟨b, off + 0, none⟩) hbb).trans (hc 0 (by simp))
      unfold maxLen at hm
      simp only [List.length_cons] at hm
      exact take_some W p b off cap x r f w hp hh hsl' hb hm.1 hm.2 hx

set_option maxHeartbeats 1000000 in
theorem exact_any (W : World) (p : Nat) (s : Rest) (w : World) (h : RestAt w W p s) :
    Calls Tryd.prog 96 #[.pointer (some ⟨p, 0, none⟩)] w fun e w' => e = .returned (.bool (exactB s)) ∧ w = w' := by
  obtain ⟨hp, v, hh, hsl⟩ := h
  obtain ⟨a, cap, rfl, hm⟩ := strSl_form hsl
  unfold maxLen at hm
  have c0 : w.cell? ⟨p, 0, none⟩ = some (.slice a s.1.length cap) := by rw [cell_of_row _ _ _ _ _ _ hh]; rfl
  have c1 : w.cell? ⟨p, 1, none⟩ = some (.bool s.2) := by rw [cell_of_row _ _ _ _ _ _ hh]; rfl
  obtain ⟨l, f⟩ := s
  clear hh hsl
  cases f with
  | true =>
    go_enter Tryd.func96, Tryd.ntmps96
    go_wp2_with fail
    go_ret
    exact ⟨rfl, rfl⟩
  | false =>
    have He := Lib.hid (show exactB (l, false) = ((l.length : Int) == 0) by
      unfold exactB
      cases l with
      | nil => rfl
      | cons x r => simp; omega)
    go_enter Tryd.func96, Tryd.ntmps96
    go_wp2_with fail
    go_ret
    rw [He.out]
    exact ⟨rfl, rfl⟩

end Go.Proofs.YteapfoadfjjicaaDoor.Dig
