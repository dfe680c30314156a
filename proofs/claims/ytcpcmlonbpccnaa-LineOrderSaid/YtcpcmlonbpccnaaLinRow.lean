/- What the rows' proofs of layer 9 share: a place, and a slice of lines, opened. -/
import Derived.Test.YtcpcmlonbpccnaaPolRow
import Derived.Test.YtcpcmlonbpccnaaBdA19
import Derived.Lib.SmallJoins
namespace Go.Proofs.Ytcpcmlonbpccnaa.Ge
open Go.ChangeShapes Go.WideShapes Go.ChangeAt Go.RowKit

theorem array6 {α : Type} {cs : Array α} (h : cs.size = 6) : ∃ c0 c1 c2 c3 c4 c5, cs = #[c0, c1, c2, c3, c4, c5] := by
  obtain ⟨l⟩ := cs
  match l, h with
  | [c0, c1, c2, c3, c4, c5], _ => exact ⟨c0, c1, c2, c3, c4, c5, rfl⟩
theorem cells_int : Try.prog.cellsOf 3 = 1 := by kernel_rfl
theorem cells_frac : Try.prog.cellsOf 26 = 2 := by kernel_rfl
theorem cells_spot : Try.prog.cellsOf 28 = 6 := by kernel_rfl
theorem open_frac {H : Type} {enc : TypeId × Value → H} {w : World} {base : Nat} {spare : Nat → Bool} {held : Bool} {fuel : Nat} {a b : Value} {x : DataW H × List MemPlace}
    (h : DataW.trod enc Try.prog w base spare held fuel 26 [a, b] = some x) : ∃ n d : Int, a = .int .i64 n ∧ b = .int .i64 d := by
  obtain ⟨xs, n, _, -, -, hlen, hf⟩ := DataW.trod_struct Try.underlying26 h
  match xs, hlen with
  | [y0, y1], _ =>
    have g0 := hf 0 _ rfl
    have g1 := hf 1 _ rfl
    simp [cells_int] at g0 g1
    obtain ⟨n0, e0, -⟩ := DataW.trod_int Try.underlying3 g0
    obtain ⟨n1, e1, -⟩ := DataW.trod_int Try.underlying3 g1
    exact ⟨n0, n1, by simpa using e0, by simpa using e1⟩
set_option maxRecDepth 100000 in
theorem open_spot {H : Type} {enc : TypeId × Value → H} {w : World} {base : Nat} {spare : Nat → Bool} {held : Bool} {r : Reach} {b0 : Nat} {v : Value} {d : DataW H} {p : List MemPlace}
    (hv : Value.okWide Try.prog w r b0 28 v) (h : DataW.Trod enc Try.prog w base spare held 28 v d p) : ∃ s : Sp, v = spV s := by
  obtain ⟨cs, rfl, hsz⟩ := okWide_struct Try.underlying28 hv
  have hs6 : cs.size = 6 := by rw [hsz, cells_spot]
  clear hsz
  obtain ⟨c0, c1, c2, c3, c4, c5, rfl⟩ := array6 hs6
  clear hs6
  obtain ⟨fuel, hf⟩ := h
  obtain ⟨y0, y1, y2, y3, n, -, -, h0, h1, h2, h3⟩ := Go.Joins.trod_struct4 Try.underlying28 hf
  simp [Value.cells, cells_int, cells_frac] at h0 h1 h2 h3
  obtain ⟨n0, e0, -⟩ := DataW.trod_int Try.underlying3 h0
  obtain ⟨n2, e2, -⟩ := DataW.trod_int Try.underlying3 h2
  obtain ⟨a, b, rfl, rfl⟩ := open_frac h1
  obtain ⟨a', b', rfl, rfl⟩ := open_frac h3
  simp only [List.cons.injEq, and_true] at e0 e2
  subst e0
  subst e2
  exact ⟨(n0, (a, b), n2, (a', b')), rfl⟩
theorem choose_ls {n : Nat} {P : Nat → List Pt → Prop} (h : ∀ i, i < n → ∃ k, P i k) : ∃ f : Nat → List Pt, ∀ i, i < n → P i (f i) := by
  classical
  refine ⟨fun i => if hi : i < n then (h i hi).choose else [], fun i hi => ?_⟩
  simp only [hi, dif_pos]
  exact (h i hi).choose_spec
theorem open_rows {H : Type} {enc : TypeId × Value → H} {w : World} {base : Nat} {spare : Nat → Bool} {held : Bool} {fuel : Nat} {v : Value} {x : DataW H × List MemPlace}
    (h : DataW.trod enc Try.prog w base spare held fuel 38 [v] = some x) : ∃ ls, RwSl w v ls := by
  rcases Go.Deep.open_slice1 Try.underlying38 (by kernel_rfl) h with ⟨hc, -⟩ | ⟨a, len, cap, m, n, V, D, Pl, hc, -, hl, hm, hmm, -, hx⟩
  · simp only [List.cons.injEq, and_true] at hc
    exact ⟨[], .inl ⟨rfl, _, _, hc⟩⟩
  · simp only [List.cons.injEq, and_true] at hc
    have hlm : len ≤ m := by rw [hmm]; split <;> omega
    obtain ⟨F, hF⟩ := choose_ls (n := len) (P := fun i k => PtSl w (V i) k) fun i hi => open_pts (hx i (by omega)).2
    rw [hc]
    by_cases h0 : len = 0
    · subst h0
      exact ⟨[], .inl ⟨rfl, _, _, rfl⟩⟩
    · obtain ⟨b, off, spot⟩ := a
      have hc0 := (hx 0 (by omega)).1
      have hspot : spot = none := by simpa [Addr.add] using World.cell?_spot hc0
      subst hspot
      have hadd : ∀ i, (⟨b, off, none⟩ : Addr).add i = ⟨b, off + i, none⟩ := fun i => by unfold Addr.add; split <;> simp_all
      refine ⟨(List.range len).map F, .inr ⟨b, off, cap, by simp, by simp; omega, ?_, by simpa using ⟨hl, hm⟩, V, fun i hi => ?_⟩⟩
      · rw [hadd] at hc0
        exact lt_of_cell hc0
      · have hi2 : i < len := by simpa using hi
        have h1 := (hx i (by omega)).1
        rw [hadd] at h1
        simp only [List.getElem_map, List.getElem_range]
        exact ⟨h1, hF i hi2⟩
end Go.Proofs.Ytcpcmlonbpccnaa.Ge
