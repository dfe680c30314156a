/- What the rows' proofs of layer 6 share: the world of the witness, with the listed tables and the two listed errors; what the listed variables hold. -/
import Derived.Test.YtdbffhcckmmgfaaDoorCards
import Derived.Test.YtdbffhcckmmgfaaDoorTie
import Derived.Test.YtdbffhcckmmgfaaDoorDatW3
import Derived.Test.YtdbffhcckmmgfaaDoorDatW4
import Derived.Deep.SlicePairs
import Derived.WalkKit
import Derived.ProofKit
import Derived.OpenShut
import Derived.ShutString
import Derived.ChangeOld
import Derived.Below
import Derived.Deep.DeepHandedRow
import Derived.Lib.LaidTab
import Derived.Lib.ItoaNum
import Derived.Stop.LaidErr
namespace Go.Proofs.YtdbffhcckmmgfaaDoor.Dt
open Go.ChangeShapes Go.WideShapes Go.ChangeAt Go.RowKit

theorem own : ownKnob Tryd.prog.godebug = none := by kernel_rfl
theorem laidOut : laidOutB Tryd.prog = true := by kernel_rfl

/-- a world for the witness: the settled one, the listed variables holding what their initialisers lay -/
def u8s (l : List Int) : Array Value := (l.map fun n => Value.int .u8 n).toArray
def tab32 : Array Value := u8s [0, 1, 28, 2, 29, 14, 24, 3, 30, 22, 20, 15, 25, 17, 4, 8, 31, 27, 13, 23, 21, 19, 16, 7, 26, 12, 18, 6, 11, 5, 10, 9]
def tab64 : Array Value := u8s [0, 1, 56, 2, 57, 49, 28, 3, 61, 58, 42, 50, 38, 29, 17, 4, 62, 47, 59, 36, 45, 43, 51, 22, 53, 39, 33, 30, 24, 18, 12, 5, 63, 55, 48, 27, 60, 41, 37, 16, 46, 35, 44, 21, 52, 32, 23, 11, 54, 26, 40, 15, 34, 20, 31, 10, 25, 14, 19, 9, 13, 8, 7, 6]
def tab10 : Array Value := (Lib.pow10Tab.map fun n => Value.int .u64 n).toArray
def tabLen : Array Value := (lenT.map fun n => Value.int .i64 n).toArray
abbrev rangeS : ByteArray := { data := #[118, 97, 108, 117, 101, 32, 111, 117, 116, 32, 111, 102, 32, 114, 97, 110, 103, 101] }
abbrev syntaxS : ByteArray := { data := #[105, 110, 118, 97, 108, 105, 100, 32, 115, 121, 110, 116, 97, 120] }
def relay (cs : Array Value) : Obj → Obj
  | .cells _ t frozen => .cells cs t frozen
  | o => o
noncomputable def low : Nat := (World.holding Tryd.prog default ⟨#[], #[], []⟩).heap.size
noncomputable def laidWorld (os : Os) : World :=
  let w0 := World.holding Tryd.prog os ⟨#[.cells #[.string rangeS] 116, .cells #[.string syntaxS] 116], #[], []⟩
  { w0 with heap := (((((w0.heap.modify 3 (relay tab10)).modify 4 (relay tab32)).modify 5 (relay tab64)).modify 2 (relay #[.iface 114 (.pointer (some ⟨low, 0, none⟩))])).modify 1 (relay #[.iface 114 (.pointer (some ⟨low + 1, 0, none⟩))])).modify 0 (relay tabLen) }

theorem gTab : Tryd.prog.globalNamed "internal/strconv.uint64pow10" = some 3 := by kernel_rfl
theorem gTabType : (Tryd.prog.globals[3]?).map (·.type) = some 109 := by kernel_rfl
theorem cellsTab : Tryd.prog.cellsOf 109 = 20 := by kernel_rfl
theorem cellsU64 : Tryd.prog.cellsOf 91 = 1 := by kernel_rfl
theorem gRange : Tryd.prog.globalNamed "strconv.ErrRange" = some 2 := by kernel_rfl
theorem gRangeType : (Tryd.prog.globals[2]?).map (·.type) = some 58 := by kernel_rfl
theorem gSyntax : Tryd.prog.globalNamed "strconv.ErrSyntax" = some 1 := by kernel_rfl
theorem gSyntaxType : (Tryd.prog.globals[1]?).map (·.type) = some 58 := by kernel_rfl
theorem cellsES : Tryd.prog.cellsOf 116 = 1 := by kernel_rfl
theorem cellsStr : Tryd.prog.cellsOf 9 = 1 := by kernel_rfl

theorem star : "*" ++ "errors.errorString" = "*errors.errorString" := by decide
theorem rowES (u : TypeId) (h : Tryd.prog.typeName? 3 u = some "*errors.errorString") : u = 114 :=
  typeName_ptr_named (nm := "errors.errorString") (by rw [star]; kernel_rfl) (by kernel_rfl) (by decide) u (by rw [star]; exact h)

theorem gLenType : (Tryd.prog.globals[0]?).map (·.type) = some 67 := by kernel_rfl
theorem cellsLen : Tryd.prog.cellsOf 67 = 12 := by kernel_rfl
theorem cellsInt : Tryd.prog.cellsOf 3 = 1 := by kernel_rfl

theorem lay_of_laid {W : World} (h : laidMetH Tryd.prog [("math/bits.deBruijn32tab", Rows.laid_math_bits_deBruijn32tab), ("math/bits.deBruijn64tab", Rows.laid_math_bits_deBruijn64tab), ("internal/strconv.uint64pow10", Rows.laid_internal_strconv_uint64pow10), ("gazetteer/date.lengths", Rows.laid_gazetteer_date_lengths)] W) : Lay W := by
  have h1 : laidMet Tryd.prog [("math/bits.deBruijn32tab", Rows.laid_math_bits_deBruijn32tab), ("math/bits.deBruijn64tab", Rows.laid_math_bits_deBruijn64tab), ("internal/strconv.uint64pow10", Rows.laid_internal_strconv_uint64pow10), ("gazetteer/date.lengths", Rows.laid_gazetteer_date_lengths)] W := h
  have h3 := laidMet.tail (laidMet.tail h1)
  have h4 := laidMet.tail h3
  exact ⟨Lib.tabIs_of_head gTab gTabType Tryd.underlying109 Tryd.underlying91 cellsU64 cellsTab h3,
    Lib.tabIs_of_head gLen gLenType Tryd.underlying67 Tryd.underlying3 cellsInt cellsLen h4⟩
theorem layT_of_laid {W : World} (h : laidMetH Tryd.prog [("math/bits.deBruijn32tab", Rows.laid_math_bits_deBruijn32tab), ("math/bits.deBruijn64tab", Rows.laid_math_bits_deBruijn64tab), ("internal/strconv.uint64pow10", Rows.laid_internal_strconv_uint64pow10), ("strconv.ErrRange", Rows.laid_strconv_ErrRange), ("strconv.ErrSyntax", Rows.laid_strconv_ErrSyntax), ("gazetteer/date.lengths", Rows.laid_gazetteer_date_lengths)] W) : LayT W := by
  have h1 : laidMet Tryd.prog [("math/bits.deBruijn32tab", Rows.laid_math_bits_deBruijn32tab), ("math/bits.deBruijn64tab", Rows.laid_math_bits_deBruijn64tab), ("internal/strconv.uint64pow10", Rows.laid_internal_strconv_uint64pow10), ("strconv.ErrRange", Rows.laid_strconv_ErrRange), ("strconv.ErrSyntax", Rows.laid_strconv_ErrSyntax), ("gazetteer/date.lengths", Rows.laid_gazetteer_date_lengths)] W := h
  have h3 := laidMet.tail (laidMet.tail h1)
  have h4 := laidMet.tail h3
  have h5 := laidMet.tail h4
  have h6 := laidMet.tail h5
  obtain ⟨a1, s1, v1, -, -, -⟩ := laid_sentinel h4 gRange gRangeType Tryd.underlying58 rowES Tryd.underlying114 Tryd.underlying116 rfl rfl Tryd.underlying9 cellsES cellsStr
  obtain ⟨a2, s2, v2, -, -, -⟩ := laid_sentinel h5 gSyntax gSyntaxType Tryd.underlying58 rowES Tryd.underlying114 Tryd.underlying116 rfl rfl Tryd.underlying9 cellsES cellsStr
  refine ⟨⟨Lib.tabIs_of_head gTab gTabType Tryd.underlying109 Tryd.underlying91 cellsU64 cellsTab h3,
    Lib.tabIs_of_head gLen gLenType Tryd.underlying67 Tryd.underlying3 cellsInt cellsLen h6⟩, ⟨114, .pointer (some a2), ?_⟩, ⟨114, .pointer (some a1), ?_⟩⟩
  · simpa using World.var?_cell gSyntax v2 0
  · simpa using World.var?_cell gRange v1 0

theorem perSl_mk {W : World} {x : Addr} {len cap : Nat} {V0 V1 : Nat → Int} (hl : len ≤ cap) (hm : cap ≤ maxLen)
    (hcell : ∀ i, i < len → W.cell? (x.add (i * 2)) = some (.int .i64 (V0 i)) ∧ W.cell? (x.add (i * 2 + 1)) = some (.int .i64 (V1 i))) : PerSl W (.slice (some x) len cap) ((List.range len).map fun i => (V0 i, V1 i)) := by
  by_cases h0 : len = 0
  · subst h0
    exact .inl ⟨rfl, _, _, rfl⟩
  · obtain ⟨b, off, spot⟩ := x
    have hc := (hcell 0 (by omega)).1
    have hspot : spot = none := by simpa [Addr.add] using World.cell?_spot hc
    subst hspot
    have hadd : ∀ i, (⟨b, off, none⟩ : Addr).add i = ⟨b, off + i, none⟩ := fun i => by unfold Addr.add; split <;> simp_all
    refine .inr ⟨b, off, cap, by simp, by simp; omega, ?_, by simpa using ⟨hl, hm⟩, fun i hi => ?_⟩
    · rw [hadd] at hc
      exact lt_of_cell hc
    · have hi2 : i < len := by simpa using hi
      obtain ⟨h1, h2⟩ := hcell i hi2
      rw [hadd] at h1 h2
      simp only [List.getElem_map, List.getElem_range]
      exact ⟨h1, by rw [Nat.add_assoc]; exact h2⟩
theorem choose_int {n : Nat} {P : Nat → Int → Prop} (h : ∀ i, i < n → ∃ k, P i k) : ∃ f : Nat → Int, ∀ i, i < n → P i (f i) := by
  classical
  refine ⟨fun i => if hi : i < n then (h i hi).choose else 0, fun i hi => ?_⟩
  simp only [hi, dif_pos]
  exact (h i hi).choose_spec
theorem open_pers {H : Type} {enc : TypeId × Value → H} {w : World} {base : Nat} {spare : Nat → Bool} {held : Bool} {fuel : Nat} {v : Value} {x : DataW H × List MemPlace}
    (h : DataW.trod enc Tryd.prog w base spare held fuel 36 [v] = some x) : ∃ l, PerSl w v l := by
  rcases Go.Deep.open_slice_pairs Tryd.underlying36 Tryd.underlying35 (by kernel_rfl) (by kernel_rfl) (by kernel_rfl) (by kernel_rfl) (by kernel_rfl) h with ⟨hc, -⟩ | ⟨a, len, cap, m, n, V0, V1, D0, D1, P0, P1, hc, -, hl, hm, hmm, -, hx⟩
  · simp only [List.cons.injEq, and_true] at hc
    exact ⟨[], .inl ⟨rfl, _, _, hc⟩⟩
  · simp only [List.cons.injEq, and_true] at hc
    have hlm : len ≤ m := by rw [hmm]; split <;> omega
    have e0 : ∀ i, i < len → ∃ k : Int, V0 i = .int .i64 k := fun i hi => by
      obtain ⟨-, -, h2, -⟩ := hx i (by omega)
      obtain ⟨k, e, -⟩ := DataW.trod_int Tryd.underlying3 h2
      exact ⟨k, by simpa using e⟩
    have e1 : ∀ i, i < len → ∃ k : Int, V1 i = .int .i64 k := fun i hi => by
      obtain ⟨-, -, -, h2⟩ := hx i (by omega)
      obtain ⟨k, e, -⟩ := DataW.trod_int Tryd.underlying3 h2
      exact ⟨k, by simpa using e⟩
    obtain ⟨F0, f0⟩ := choose_int e0
    obtain ⟨F1, f1⟩ := choose_int e1
    rw [hc]
    refine ⟨_, perSl_mk (V0 := F0) (V1 := F1) hl hm fun i hi => ?_⟩
    obtain ⟨h0, h1, -, -⟩ := hx i (by omega)
    rw [h0, h1, f0 i hi, f1 i hi]
    exact ⟨rfl, rfl⟩
end Go.Proofs.YtdbffhcckmmgfaaDoor.Dt
