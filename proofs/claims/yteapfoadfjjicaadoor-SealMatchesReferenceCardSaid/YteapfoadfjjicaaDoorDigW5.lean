/- Walks over package digest: joined, List, Is. -/
import Derived.Test.YteapfoadfjjicaaDoorDigW4
import Derived.Test.YteapfoadfjjicaaDoorDigJoin
import Derived.Test.YteapfoadfjjicaaDoorBld
import Derived.Test.YteapfoadfjjicaaDoorShelf
import Derived.Lib.AppendIntMem
namespace Go.Proofs.YteapfoadfjjicaaDoor.Dig
set_option linter.unusedVariables false
set_option linter.unusedSimpArgs false
open Go.RowKit

/-- the table of strconv is as it was laid -/
def Tab (w : World) : Prop := Lib.TabIs Tryd.prog w "internal/strconv.uint64pow10" .u64 Lib.pow10Tab
theorem Tab.below {w w' : World} (h : Tab w) (hb : Below w.heap.size w w') : Tab w' := Lib.tabBelow_of_tabIs h w' hb

/-- the value v is a slice of strings, which has just these elements -/
def StrSl (w : World) (v : Value) (l : List ByteArray) : Prop :=
  (l = [] ∧ ∃ a cap, v = .slice a 0 cap) ∨
  ∃ b off cap, v = .slice (some ⟨b, off, none⟩) l.length cap ∧ 0 < l.length ∧ b < w.heap.size ∧ (l.length ≤ cap ∧ cap ≤ maxLen) ∧ ∀ i (h : i < l.length), w.cell? ⟨b, off + i, none⟩ = some (.string l[i])
theorem capLen {n cap : Nat} (h : n ≤ cap ∧ cap ≤ maxLen) : n ≤ maxLen := Nat.le_trans h.1 h.2
theorem StrSl.below {w w' : World} {v : Value} {l : List ByteArray} (h : StrSl w v l) (hb : Below w.heap.size w w') : StrSl w' v l := by
  rcases h with h | ⟨b, off, cap, hv, h0, hlt, hm, hc⟩
  · exact .inl h
  · exact .inr ⟨b, off, cap, hv, h0, Nat.lt_of_lt_of_le hlt hb.size, hm, fun i hi => (hb.cell (p := ⟨b, off + i, none⟩) hlt).trans (hc i hi)⟩

theorem below_grow {w : World} (k : Nat) (os : Array Obj) : Below w.heap.size w (Sort.grow (w.drewN k) os) := by
  refine ⟨rfl, rfl, rfl, ?_, fun i hi => ?_⟩
  · show w.heap.size ≤ (w.heap ++ os).size
    simp
  · show (w.heap ++ os)[i]? = _
    rw [Array.getElem?_append_left hi]

/-- Itoa of a length -/
theorem itoa_any (n : Nat) (hn : n ≤ 9223372036854775807) (w : World) (ht : Tab w) :
    Calls Tryd.prog 91 #[.int .i64 (n : Int)] w fun e w' => e = .returned (.string ⟨(Lib.itoa n).toArray⟩) ∧ Below w.heap.size w w' :=
  (Tryd.strconv_Itoa n (by omega) (by omega) w ht).mono fun e w' ⟨he, k, os, hw⟩ => ⟨he, hw ▸ below_grow k os⟩

set_option maxRecDepth 100000 in
set_option maxHeartbeats 1000000 in
theorem joined_some (l : List ByteArray) (b off cap : Nat) (w : World) (ht : Tab w) (h0 : 0 < l.length) (hb : b < w.heap.size) (hm : l.length ≤ maxLen)
    (hc : ∀ i (h : i < l.length), w.cell? ⟨b, off + i, none⟩ = some (.string l[i])) (hlim : (joinB l).length ≤ 140737488355328) :
    Calls Tryd.prog 118 #[.slice (some ⟨b, off, none⟩) l.length cap] w fun e w' => e = .returned (.string ⟨(joinB l).toArray⟩) ∧ Below w.heap.size w w' := by
  unfold maxLen at hm
  go_enter Tryd.func118, Tryd.ntmps118
  go_wp2_with fail
  go_loopw [8] (fun i wr => ∃ k : Nat, k ≤ l.length ∧ i = .int .i64 k ∧ Lib.IsBuilder 127 5 w.heap.size w.heap.size (Lib.byteCells (joinB (l.take k))) wr ∧ Below w.heap.size w wr) (fun i _ => l.length - (intOf i).toNat)
  case atStart => exact ⟨0, by omega, rfl, Lib.fresh_isBuilder _ _ w, (Below.refl _ _).alloc (Nat.le_refl _) _⟩
  case round =>
    obtain ⟨k, hk, rfl, hbld, hbel⟩ := hrel
    by_cases hlt : k < l.length
    · have hck : wr.cell? ⟨b, off + k, none⟩ = some (.string l[k]) := (hbel.cell (p := ⟨b, off + k, none⟩) hb).trans (hc k hlt)
      have hle := joinB_take_le l (k + 1)
      have Hs := Lib.hid (joinB_take_succ l k hlt)
      have hlen : (joinB (l.take (k + 1))).length = (joinB (l.take k)).length + ((Lib.itoa l[k].size).length + (l[k].size + 1)) := by rw [Hs.out, List.length_append, encS, List.length_append, List.length_cons, Lib.size_eq l[k]]
      have hbig : l[k].size ≤ 140737488355328 := by omega
      have hl1 : (Lib.byteCells (joinB (l.take k))).length + (Lib.itoa l[k].size).length ≤ 140737488355328 := by rw [Lib.byteCells_length]; omega
      have Hlen := Lib.hid hlen
      clear hlen hc
      go_wp2_with fail
      refine (itoa_any _ (by omega) _ (ht.below hbel)).mono ?_
      rintro e w1 ⟨rfl, hb1⟩
      have hbld1 := Bld.is_below hbld hb1
      have hbel1 := hbel.trans (hb1.mono hbel.size)
      go_wp2_with fail
      refine (Bld.writeString w.heap.size w.heap.size _ _ _ hbld1 (by rw [Lib.size_eq]; exact hl1) (by exact hbel1.size)).mono ?_
      rintro e w2 ⟨rfl, hbld2, hb2⟩
      have hbel2 := hbel1.trans hb2
      go_wp2_with fail
      refine (Bld.writeByte w.heap.size w.heap.size _ _ _ hbld2 (by have h1 := Hlen.out; simp [Lib.byteCells_length]; omega) (by exact hbel2.size)).mono ?_
      rintro e w3 ⟨rfl, hbld3, hb3⟩
      have hbel3 := hbel2.trans hb3
      go_wp2_with fail
      refine (Bld.writeString w.heap.size w.heap.size _ _ _ hbld3 (by have h1 := Hlen.out; simp [Lib.byteCells_length]; omega) (by exact hbel3.size)).mono ?_
      rintro e w4 ⟨rfl, hbld4, hb4⟩
      have hbel4 := hbel3.trans hb4
      have hbld5 : Lib.IsBuilder 127 5 w.heap.size w.heap.size (Lib.byteCells (joinB (l.take (k + 1)))) w4 := by
        have e : Lib.byteCells (joinB (l.take (k + 1))) = Lib.byteCells (joinB (l.take k)) ++ Lib.byteCells (Lib.itoa l[k].size) ++ [Value.int .u8 58] ++ Lib.byteCells (bl l[k]) := by
          rw [Hs.out, encS]
          simp [Lib.byteCells]
        rw [e]
        exact hbld4
      clear hbld hbld1 hbld2 hbld3 hbld4 hb1 hb2 hb3 hb4 hl1
      go_wp2
      go_roundw
      case rel => exact ⟨k + 1, by omega, by go_num, hbld5, hbel4⟩
      case measure => simp [intOf]; omega
    · obtain rfl : k = l.length := by omega
      rw [List.take_length] at hbld
      go_wp2_with fail
      refine (Tryd.Builder_String_any w.heap.size w.heap.size _ _ hbld hbel.size).mono ?_
      rintro e w1 ⟨rfl, hb1⟩
      go_wp2
      go_ret
      exact ⟨rfl, hbel.trans hb1⟩

set_option maxRecDepth 100000 in
set_option maxHeartbeats 1000000 in
theorem joined_none (a : Option Addr) (cap : Nat) (w : World) :
    Calls Tryd.prog 118 #[.slice a 0 cap] w fun e w' => e = .returned (.string ⟨#[]⟩) ∧ Below w.heap.size w w' := by
  go_enter Tryd.func118, Tryd.ntmps118
  go_wp2_with fail
  refine wp_loop_rounds 1 ?_
  rw [rounds_succ]
  go_wp2_with fail
  refine (Tryd.Builder_String_any w.heap.size w.heap.size [] _ (Lib.fresh_isBuilder _ _ w) (by simp)).mono ?_
  rintro e w1 ⟨rfl, hb1⟩
  go_wp2
  go_ret
  exact ⟨rfl, ((Below.refl _ _).alloc (Nat.le_refl _) _).trans hb1⟩

theorem joined_any (v : Value) (l : List ByteArray) (w : World) (ht : Tab w) (hl : StrSl w v l) (hlim : (joinB l).length ≤ 140737488355328) :
    Calls Tryd.prog 118 #[v] w fun e w' => e = .returned (.string ⟨(joinB l).toArray⟩) ∧ Below w.heap.size w w' := by
  rcases hl with ⟨rfl, a, cap, rfl⟩ | ⟨b, off, cap, rfl, h0, hb, hm, hc⟩
  · exact joined_none a cap w
  · exact joined_some l b off cap w ht h0 hb (capLen hm) hc hlim

end Go.Proofs.YteapfoadfjjicaaDoor.Dig
