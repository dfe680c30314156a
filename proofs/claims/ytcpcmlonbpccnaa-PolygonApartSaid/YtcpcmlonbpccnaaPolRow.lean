/- What the rows' proofs of layer 8 share: a slice of points, opened. -/
import Derived.Test.YtcpcmlonbpccnaaGeoRow
import Derived.Test.YtcpcmlonbpccnaaBdA7
import Derived.Deep.SlicePairs
import Derived.Deep.DeepHandedRow
import Derived.ShutString
namespace Go.Proofs.Ytcpcmlonbpccnaa.Ge
open Go.ChangeShapes Go.WideShapes Go.ChangeAt Go.RowKit

theorem lt_of_cell {w : World} {b o : Nat} {v : Value} (h : w.cell? ⟨b, o, none⟩ = some v) : b < w.heap.size := by
  refine Nat.lt_of_not_le fun hk => ?_
  simp [World.cell?, Array.getElem?_eq_none hk] at h
theorem ptSl_mk {W : World} {x : Addr} {len cap : Nat} {V0 V1 : Nat → Int} (hl : len ≤ cap) (hm : cap ≤ maxLen)
    (hcell : ∀ i, i < len → W.cell? (x.add (i * 2)) = some (.int .i64 (V0 i)) ∧ W.cell? (x.add (i * 2 + 1)) = some (.int .i64 (V1 i))) : PtSl W (.slice (some x) len cap) ((List.range len).map fun i => (V0 i, V1 i)) := by
  by_cases h0 : len = 0
  · subst h0
    exact .inl ⟨rfl, _, _, rfl⟩
  · obtain ⟨b, off, spot⟩ := x
    have hc := (hcell 0 (by omega)).1
    have hspot : spot = none := by simpa [Addr.add] using World.cell?_spot hc
    subst hspot
    have hadd : ∀ i, (⟨b, off, none⟩ : Addr).add i = ⟨b, off + i, none⟩ := fun i => by unfold Addr.add; split <;> simp_all
    refine .inr ⟨b, off, cap, by simp, by simp; omega, ?_, by simpa using ⟨hl, hm⟩, fun i hi => ?_⟩
    · rw [hadd] at hc
      exact lt_of_cell hc
    · have hi2 : i < len := by simpa using hi
      obtain ⟨h1, h2⟩ := hcell i hi2
      rw [hadd] at h1 h2
      simp only [List.getElem_map, List.getElem_range]
      exact ⟨h1, by rw [Nat.add_assoc]; exact h2⟩
theorem choose_int {n : Nat} {P : Nat → Int → Prop} (h : ∀ i, i < n → ∃ k, P i k) : ∃ f : Nat → Int, ∀ i, i < n → P i (f i) := by
  classical
  refine ⟨fun i => if hi : i < n then (h i hi).choose else 0, fun i hi => ?_⟩
  simp only [hi, dif_pos]
  exact (h i hi).choose_spec
theorem open_pts {H : Type} {enc : TypeId × Value → H} {w : World} {base : Nat} {spare : Nat → Bool} {held : Bool} {fuel : Nat} {v : Value} {x : DataW H × List MemPlace}
    (h : DataW.trod enc Try.prog w base spare held fuel 22 [v] = some x) : ∃ l, PtSl w v l := by
  rcases Go.Deep.open_slice_pairs Try.underlying22 Try.underlying24 (by kernel_rfl) (by kernel_rfl) (by kernel_rfl) (by kernel_rfl) (by kernel_rfl) h with ⟨hc, -⟩ | ⟨a, len, cap, m, n, V0, V1, D0, D1, P0, P1, hc, -, hl, hm, hmm, -, hx⟩
  · simp only [List.cons.injEq, and_true] at hc
    exact ⟨[], .inl ⟨rfl, _, _, hc⟩⟩
  · simp only [List.cons.injEq, and_true] at hc
    have hlm : len ≤ m := by rw [hmm]; split <;> omega
    have e0 : ∀ i, i < len → ∃ k : Int, V0 i = .int .i64 k := fun i hi => by
      obtain ⟨-, -, h2, -⟩ := hx i (by omega)
      obtain ⟨k, e, -⟩ := DataW.trod_int Try.underlying3 h2
      exact ⟨k, by simpa using e⟩
    have e1 : ∀ i, i < len → ∃ k : Int, V1 i = .int .i64 k := fun i hi => by
      obtain ⟨-, -, -, h2⟩ := hx i (by omega)
      obtain ⟨k, e, -⟩ := DataW.trod_int Try.underlying3 h2
      exact ⟨k, by simpa using e⟩
    obtain ⟨F0, f0⟩ := choose_int e0
    obtain ⟨F1, f1⟩ := choose_int e1
    rw [hc]
    refine ⟨_, ptSl_mk (V0 := F0) (V1 := F1) hl hm fun i hi => ?_⟩
    obtain ⟨h0, h1, -, -⟩ := hx i (by omega)
    rw [h0, h1, f0 i hi, f1 i hi]
    exact ⟨rfl, rfl⟩
end Go.Proofs.Ytcpcmlonbpccnaa.Ge
