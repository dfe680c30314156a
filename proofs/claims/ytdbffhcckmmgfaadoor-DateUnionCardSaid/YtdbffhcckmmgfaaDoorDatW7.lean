/- Walks over package date: Union. -/
import Derived.Test.YtdbffhcckmmgfaaDoorDatW5
import Derived.Test.YtdbffhcckmmgfaaDoorDatW6
namespace Go.Proofs.YtdbffhcckmmgfaaDoor.Dt
set_option linter.unusedVariables false
set_option linter.unusedSimpArgs false
open Go.RowKit

/-- the union of a list -/
def RetU (l : List Per) (w : World) (e : Ending) (w' : World) : Prop := ∃ u U, e = .returned (.tuple #[u, .int .i64 0]) ∧ IsU U (cov l) ∧ U.length ≤ l.length ∧ PerSl w' u U ∧ Below w.heap.size w w'
theorem PerSl.at {w : World} {v : Value} {l : List Per} (h : PerSl w v l) (h0 : 0 < l.length) : ∃ b off cap, v = .slice (some ⟨b, off, none⟩) l.length cap ∧ b < w.heap.size ∧ (l.length ≤ cap ∧ cap ≤ maxLen) ∧ ∀ w', Below w.heap.size w w' → ∀ i (h : i < l.length), w'.cell? ⟨b, off + i * 2, none⟩ = some (.int .i64 l[i].1) ∧ w'.cell? ⟨b, off + i * 2 + 1, none⟩ = some (.int .i64 l[i].2) := by
  rcases h with ⟨rfl, _⟩ | ⟨b, off, cap, hv, h0, hlt, hm, hc⟩
  · simp at h0
  · exact ⟨b, off, cap, hv, hlt, hm, fun w' hb i hi => (hc i hi).below hb hlt⟩

/-- the first loop: are all proper? -/
theorem OwnPer.cells {w : World} {B : Nat} {v : Value} {V : List Per} {x : Per} (h : OwnPer w B v (V ++ [x])) : ∃ g cap, v = .slice (some ⟨g, 0, none⟩) (V.length + 1) cap ∧ B ≤ g ∧ g < w.heap.size ∧ V.length + 1 ≤ cap ∧ cap ≤ maxLen ∧ Cells2 w g (V.length * 2) x ∧ w.frozen? ⟨g, V.length * 2, none⟩ = false ∧ w.frozen? ⟨g, V.length * 2 + 1, none⟩ = false := by
  have h' := h
  rcases h.2 with ⟨_, hn⟩ | ⟨g, cap, cur, rfl, hb, hg, hnc, hcm, hsz, htk⟩
  · simp at hn
  · have hl : (V ++ [x]).length = V.length + 1 := by simp
    have hs := OwnPer.sl h'
    rcases hs with ⟨e, _⟩ | ⟨b, off, cap', hv, _, hlt, _, hc⟩
    · simp at e
    · simp only [Value.slice.injEq, Option.some.injEq, Addr.mk.injEq, true_and, and_true] at hv
      obtain ⟨⟨rfl, rfl⟩, rfl⟩ := hv
      have hx := hc V.length (by simp)
      rw [Nat.zero_add] at hx
      simp only [List.getElem_concat_length] at hx
      exact ⟨g, cap, by rw [hl], hb, hlt, by omega, hcm, hx, World.ownsRow.frozenAt h' _, World.ownsRow.frozenAt h' _⟩
theorem flat_set (V : List Per) (x p : Per) : ((flatP (V ++ [x])).set (V.length * 2) (.int .i64 p.1)).set (V.length * 2 + 1) (.int .i64 p.2) = flatP (V ++ [p]) := by
  have e : ∀ y : Per, flatP (V ++ [y]) = flatP V ++ [.int .i64 y.1, .int .i64 y.2] := fun y => by rw [flatP_append]; rfl
  have hl := flatP_length V
  rw [e x, e p, ← hl, List.set_append_right _ _ (Nat.le_refl _), List.set_append_right _ _ (by omega)]
  simp
theorem OwnPer.setLast {w : World} {B g cap : Nat} {V : List Per} {x : Per} (h : OwnPer w B (.slice (some ⟨g, 0, none⟩) (V.length + 1) cap) (V ++ [x])) (p : Per) :
    OwnPer ((w.setCell ⟨g, V.length * 2, none⟩ (.int .i64 p.1)).setCell ⟨g, V.length * 2 + 1, none⟩ (.int .i64 p.2)) B (.slice (some ⟨g, 0, none⟩) (V.length + 1) cap) (V ++ [p]) := by
  unfold OwnPer at h ⊢
  have hl : (V ++ [x]).length = V.length + 1 := by simp
  have hl2 : (V ++ [p]).length = V.length + 1 := by simp
  rw [hl] at h
  rw [hl2]
  have h1 := (World.ownsRow.stored h (V.length * 2) (.int .i64 p.1)).1
  have h2 := (World.ownsRow.stored h1 (V.length * 2 + 1) (.int .i64 p.2)).1
  rw [flat_set] at h2
  exact h2

set_option maxRecDepth 100000 in
set_option maxHeartbeats 4000000 in
theorem union_bad (w : World) (v : Value) (l : List Per) (h : PerSl w v l) (hlen : l.length ≤ 1000) (hp : ¬ ∀ p ∈ l, propP p) :
    Calls Tryd.prog 27 #[v] w fun e w' => e = .returned (.tuple #[.slice none 0 0, .int .i64 1]) ∧ Below w.heap.size w w' := by
  have h0 : 0 < l.length := by
    cases l with
    | nil => exact absurd (fun p hp => by cases hp) hp
    | cons a b => simp
  obtain ⟨b, off, cap, rfl, hb, hm, hc⟩ := h.at h0
  have HC := Lib.hid hc
  have HP := Lib.hid hp
  clear hc hp h
  go_enter Tryd.func27, Tryd.ntmps27
  go_wp2_with fail
  go_loopw [16] (fun i wr => ∃ k : Nat, i = .int .i64 (k : Int) ∧ k ≤ l.length ∧ (∀ j (hj : j < l.length), j < k → propP l[j]) ∧ Below w.heap.size w wr) (fun i _ => l.length - (intOf i).toNat)
  case atStart => exact ⟨0, rfl, Nat.zero_le _, fun j hj hk => by omega, Below.refl _ _⟩
  case round =>
    obtain ⟨k, rfl, hk, hall, hbel⟩ := hrel
    have HA := Lib.hid hall
    clear hall
    by_cases hlt : k < l.length
    · obtain ⟨c1, c2⟩ := HC.out wr hbel k hlt
      by_cases hq : propP l[k]
      · have hcall := fun w => proper_yes l[k].1 l[k].2 hq w
        have HA2 := Lib.hid (show ∀ j (hj : j < l.length), j < k + 1 → propP l[j] from fun j hj hjk => by
          by_cases e : j = k
          · subst e; exact hq
          · exact HA.out j hj (by omega))
        have HCALL := Lib.hid hcall
        clear hcall hq
        generalize l[k].1 = f at *
        generalize l[k].2 = u at *
        go_wp2_with fail
        refine (HCALL.out _).mono ?_
        rintro r w1 ⟨rfl, hb1⟩
        have hb2 := (hbel.alloc hbel.size (.cells #[.int .i64 f, .int .i64 u] 35)).trans (hb1.mono (by have := hbel.size; simp; omega))
        clear c1 c2
        go_wp2_with fail
        go_roundw
        case rel => exact ⟨k + 1, by go_num, by omega, HA2.out, hb2⟩
        case measure => simp [intOf]; omega
      · have hcall := fun w => proper_no l[k].1 l[k].2 hq w
        have HCALL := Lib.hid hcall
        clear hcall hq
        generalize l[k].1 = f at *
        generalize l[k].2 = u at *
        go_wp2_with fail
        refine (HCALL.out _).mono ?_
        rintro r w1 ⟨rfl, hb1⟩
        have hb2 := (hbel.alloc hbel.size (.cells #[.int .i64 f, .int .i64 u] 35)).trans (hb1.mono (by have := hbel.size; simp; omega))
        clear c1 c2
        go_wp2_with fail
        go_ret2
        exact ⟨rfl, hb2⟩
    · exfalso
      refine HP.out fun p hpm => ?_
      obtain ⟨j, hj, rfl⟩ := List.getElem_of_mem hpm
      exact HA.out j hj (by omega)
end Go.Proofs.YtdbffhcckmmgfaaDoor.Dt
