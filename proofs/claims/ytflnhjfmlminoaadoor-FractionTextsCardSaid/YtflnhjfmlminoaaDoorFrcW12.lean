/- Walks over package fraction: Text, Parse. -/
import Derived.Test.YtflnhjfmlminoaaDoorFrcW7
import Derived.Test.YtflnhjfmlminoaaDoorFrcText
import Derived.Lib.AppendIntMem
import Derived.Lib.BufferWrite
namespace Go.Proofs.YtflnhjfmlminoaaDoor.Fr
set_option linter.unusedVariables false
set_option linter.unusedSimpArgs false
open Go.RowKit

/-- what the library's variables hold -/
def Lay (w : World) : Prop := Lib.TabIs Tryd.prog w "internal/strconv.uint64pow10" .u64 Lib.pow10Tab ∧ (∃ tp p, w.cell? ⟨3, 0, none⟩ = some (.iface tp p)) ∧ (∃ tp p, w.cell? ⟨4, 0, none⟩ = some (.iface tp p))
theorem lt_of_cell {w : World} {b o : Nat} {v : Value} (h : w.cell? ⟨b, o, none⟩ = some v) : b < w.heap.size := by
  refine Nat.lt_of_not_le fun hk => ?_
  simp [World.cell?, Array.getElem?_eq_none hk] at h
theorem Lay.below {w w' : World} (h : Lay w) (hb : Below w.heap.size w w') : Lay w' := by
  obtain ⟨h1, ⟨t1, p1, h2⟩, ⟨t2, p2, h3⟩⟩ := h
  exact ⟨Lib.tabBelow_of_tabIs h1 w' hb, ⟨t1, p1, (hb.cell (lt_of_cell h2)).trans h2⟩, ⟨t2, p2, (hb.cell (lt_of_cell h3)).trans h3⟩⟩
theorem below_grow {w : World} (k : Nat) (os : Array Obj) : Below w.heap.size w (Sort.grow (w.drewN k) os) := by
  refine ⟨rfl, rfl, rfl, ?_, ?_⟩
  · show w.heap.size ≤ (w.heap ++ os).size
    rw [Array.size_append]
    omega
  · intro i hi
    show (w.heap ++ os)[i]? = w.heap[i]?
    rw [Array.getElem?_append_left hi]
theorem itoa_any (n : Int) (h0 : -9223372036854775808 ≤ n) (h1 : n ≤ 9223372036854775807) (w : World) (ht : Lay w) :
    Calls Tryd.prog 44 #[.int .i64 n] w fun e w' => e = .returned (.string ⟨(Lib.itoa n).toArray⟩) ∧ Below w.heap.size w w' :=
  (Tryd.strconv_Itoa n h0 h1 w ht.1).mono fun e w' ⟨he, k, os, hw⟩ => ⟨he, hw ▸ below_grow k os⟩

theorem join3 (a b : List UInt8) : (ByteArray.mk a.toArray) ++ (ByteArray.mk #[47]) ++ (ByteArray.mk b.toArray) = ByteArray.mk (a ++ 47 :: b).toArray := by
  apply ByteArray.ext
  simp [ByteArray.data_append]

theorem text_any (n d : Int) (w : World) (hl : Lay w) :
    Calls Tryd.prog 22 #[.agg #[.int .i64 n, .int .i64 d]] w fun e w' => e = .returned (.tuple #[.string ⟨(txL n d).toArray⟩, .int .i64 (txE n d)]) ∧ Below w.heap.size w w' := by
  unfold txL txE
  have t1 := Two.new w 23 (.int .i64 n) (.int .i64 d)
  by_cases h : valP n d
  · rw [if_pos h, if_pos h]
    obtain ⟨h1, h2, h3, h4, -⟩ := id h
    have hb0 : Below w.heap.size w (w.alloc (.cells #[.int .i64 n, .int .i64 d] 23)) := (Below.refl w.heap.size w).alloc (Nat.le_refl _) _
    have hl0 := hl.below hb0
    have HI := Lib.itoa_length_le n (by omega) (by omega)
    have HD := Lib.itoa_length_le d (by omega) (by omega)
    by_cases hd : d = 1
    · subst hd
      rw [if_pos rfl, List.append_nil]
      go_enter Tryd.func22, Tryd.ntmps22
      go_wp2_with fail
      refine (valid_yes n _ h _).mono ?_
      rintro e w1 ⟨rfl, hb1⟩
      obtain ⟨c1, c2, c3, c4⟩ := (t1.below hb1 t1.lt).facts
      go_wp2_with fail
      refine (itoa_any n (by omega) (by omega) _ (hl0.below hb1)).mono ?_
      rintro e w2 ⟨rfl, hb2'⟩
      have hb2 := hb1.trans (hb2'.mono hb1.size)
      clear c1 c2 c3 c4
      obtain ⟨c1, c2, c3, c4⟩ := (t1.below hb2 t1.lt).facts
      go_wp2_with fail
      go_ret2
      exact ⟨rfl, hb0.trans (hb2.mono (by simp))⟩
    · rw [if_neg hd]
      have hdf : (d == 1) = false := by simpa using hd
      have HJ := Lib.hid (join3 (Lib.itoa n) (Lib.itoa d))
      have s1 : (ByteArray.mk (Lib.itoa n).toArray).size ≤ 21 := by simpa [ByteArray.size] using HI
      have s2 : (ByteArray.mk (Lib.itoa d).toArray).size ≤ 21 := by simpa [ByteArray.size] using HD
      go_enter Tryd.func22, Tryd.ntmps22
      go_wp2_with fail
      refine (valid_yes n _ h _).mono ?_
      rintro e w1 ⟨rfl, hb1⟩
      obtain ⟨c1, c2, c3, c4⟩ := (t1.below hb1 t1.lt).facts
      go_wp2_with fail
      refine (itoa_any n (by omega) (by omega) _ (hl0.below hb1)).mono ?_
      rintro e w2 ⟨rfl, hb2'⟩
      have hb2 := hb1.trans (hb2'.mono hb1.size)
      clear c1 c2 c3 c4
      obtain ⟨c1, c2, c3, c4⟩ := (t1.below hb2 t1.lt).facts
      go_wp2_with fail
      refine (itoa_any d (by omega) (by omega) _ (hl0.below hb2)).mono ?_
      rintro e w3 ⟨rfl, hb3'⟩
      have hb3 := hb2.trans (hb3'.mono hb2.size)
      go_wp2_with fail
      go_ret2
      refine ⟨?_, hb0.trans (hb3.mono (by simp))⟩
      rw [← HJ.out]
      rfl
  · rw [if_neg h, if_neg h]
    go_enter Tryd.func22, Tryd.ntmps22
    go_wp2_with fail
    refine (valid_no n d h _).mono ?_
    rintro e w1 ⟨rfl, hb1⟩
    go_wp2_with fail
    go_ret2
    exact ⟨rfl, (((Below.refl _ _).alloc (Nat.le_refl _) _).trans (hb1.mono (by simp)))⟩
end Go.Proofs.YtflnhjfmlminoaaDoor.Fr
