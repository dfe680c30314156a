/- Walks over package gazetteerref01: Joined, List. -/
import Derived.Test.YteapfoadfjjicaaDoorRefW4
namespace Go.Proofs.YteapfoadfjjicaaDoor.Dig
set_option linter.unusedVariables false
set_option linter.unusedSimpArgs false
open Go.RowKit

/-- the room that is made -/
def sumB : List ByteArray → Nat
  | [] => 0
  | s :: r => s.size + 21 + sumB r
theorem sumB_append (a b : List ByteArray) : sumB (a ++ b) = sumB a + sumB b := by
  induction a with
  | nil => simp [sumB]
  | cons s r ih => simp [sumB, ih]; omega
theorem sumB_take_succ (l : List ByteArray) (k : Nat) (h : k < l.length) : sumB (l.take (k + 1)) = sumB (l.take k) + (l[k].size + 21) := by
  rw [List.take_succ_eq_append_getElem h, sumB_append]
  simp [sumB]
theorem sumB_take_le (l : List ByteArray) (k : Nat) : sumB (l.take k) ≤ sumB l := by
  have h := sumB_append (l.take k) (l.drop k)
  rw [List.take_append_drop] at h
  omega

theorem joinB_pos (l : List ByteArray) (h : 0 < l.length) : 0 < (joinB l).length := by
  cases l with
  | nil => simp at h
  | cons s r => simp [joinB, encS]; omega

set_option maxRecDepth 100000 in
set_option maxHeartbeats 2000000 in
theorem rjoined_some (l : List ByteArray) (b off cap : Nat) (w : World) (h0 : 0 < l.length) (hb : b < w.heap.size) (hm : l.length ≤ maxLen)
    (hc : ∀ i (h : i < l.length), w.cell? ⟨b, off + i, none⟩ = some (.string l[i])) (hlim : (joinB l).length ≤ 140737488355328) (hroom : sumB l ≤ 140737488355328) :
    Calls Tryd.prog 67 #[.slice (some ⟨b, off, none⟩) l.length cap] w fun e w' => e = .returned (.string ⟨(joinB l).toArray⟩) ∧ Below w.heap.size w w' := by
  unfold maxLen at hm
  obtain ⟨i0, hi, hz0, hz1, hz2⟩ := info_parts Bld.infoU
  go_enter Tryd.func67, Tryd.ntmps67
  go_wp2_with fail
  go_loop [3, 4] (fun v i => ∃ k : Nat, k ≤ l.length ∧ i = .int .i64 (k : Int) ∧ v = .int .i64 ((sumB (l.take k) : Nat) : Int)) (fun _ i => l.length - (intOf i).toNat)
  case atStart => exact ⟨0, by omega, rfl, rfl⟩
  case round =>
    obtain ⟨k, hk, rfl, rfl⟩ := hrel
    by_cases hlt : k < l.length
    · have hck := hc k hlt
      have hle := sumB_take_le l (k + 1)
      have hs := sumB_take_succ l k hlt
      have hbd : sumB (l.take k) + (l[k].size + 21) ≤ 140737488355328 := by omega
      have Hs := Lib.hid hs
      clear hs hc hle
      go_wp2_with fail
      go_round
      case rel => exact ⟨k + 1, by omega, by go_num, ret_v (by rw [Hs.out]; simp)⟩
      case measure => simp [intOf]; omega
    · obtain rfl : k = l.length := by omega
      rw [List.take_length]
      go_wp2_with (at_make; refine wpList_make_own _ rfl _ _ 107 rfl w.heap.size 5 i0 (.int .u8 0) 1 Tryd.underlying107 hi hz0 hz1 .i64 .i64 _ (sumB l) rfl rfl rfl ?b2 ?b3 (Nat.le_refl _) ?_)
      case b2 => omega
      case b3 => unfold maxLen; omega
      intro w1 hown1 hgrow1
      have hbel1 : Below w.heap.size w w1 := (Below.refl _ _).grown hgrow1 (Nat.le_refl _) (fun k hk => by simp at hk)
      go_wp2_with fail
      go_loopw [5, 6] (fun v i wr => ∃ k : Nat, k ≤ l.length ∧ i = .int .i64 (k : Int) ∧ wr.ownsRow w.heap.size 5 1 v (joinB (l.take k)).length (Lib.byteCells (joinB (l.take k))) ∧ Below w.heap.size w wr) (fun _ i _ => l.length - (intOf i).toNat)
      case atStart => exact ⟨0, by omega, rfl, hown1, hbel1⟩
      case round =>
        obtain ⟨k, hk, rfl, hown, hbel⟩ := hrel
        by_cases hlt2 : k < l.length
        · have hle := joinB_take_le l (k + 1)
          have Hs := Lib.hid (joinB_take_succ l k hlt2)
          have hlen : (joinB (l.take (k + 1))).length = (joinB (l.take k)).length + ((Lib.itoa l[k].size).length + (l[k].size + 1)) := by rw [Hs.out, List.length_append, encS, List.length_append, List.length_cons, Lib.size_eq l[k]]
          have hbd : (joinB (l.take k)).length + ((Lib.itoa l[k].size).length + (l[k].size + 1)) ≤ 140737488355328 := by omega
          have Hlen := Lib.hid hlen
          clear hlen hle
          have hck : wr.cell? ⟨b, off + k, none⟩ = some (.string l[k]) := (hbel.cell (p := ⟨b, off + k, none⟩) hb).trans (hc k hlt2)
          have hsz := hbel.size
          go_wp2_with fail
          refine (decimal_any _ (by omega) _).mono ?_
          rintro e w2 ⟨rfl, rfl⟩
          go_wp2_with (at_builtin; refine Lib.wpList_append_own_string _ rfl _ _ 107 9 rfl w.heap.size 5 i0 Tryd.underlying107 Tryd.underlying9 hi hz0 hz1 hz2 _ _ _ rfl hown _ rfl ?c3 ?c4 ?c5 ?_)
          case c3 => unfold maxLen; rw [Lib.size_eq]; simp only [List.toList_toArray]; omega
          case c4 => rw [Lib.size_eq]; simp only [List.toList_toArray]; omega
          case c5 => omega
          intro v2 w3 hown3 hgrow3 _
          have hbel3 : Below w.heap.size w w3 := hbel.grown hgrow3 hsz (fun j hj => (hown.lt j hj).1)
          have hsz3 := hbel3.size
          have hck3 : w3.cell? ⟨b, off + k, none⟩ = some (.string l[k]) := (hbel3.cell (p := ⟨b, off + k, none⟩) hb).trans (hc k hlt2)
          go_wp2_with (at_builtin; refine wpList_append_own _ rfl _ _ 107 rfl w.heap.size 5 i0 (.int .u8 0) 1 1 Tryd.underlying107 hi hz0 hz1 hz2 rfl (by decide) _ _ _ rfl (hown3.alloc _) ⟨w3.heap.size, 0, none⟩ 1 1 [.int .u8 58] rfl rfl ?d1 ?d2 ?d3 ?d4 ?d5 ?_)
          case d1 => exact cell_one_new _ _ _
          case d2 => intro u hu; simp at hu; subst hu; rfl
          case d3 => unfold maxLen; omega
          case d4 => omega
          case d5 => simp; omega
          intro v4 w4 hown4 hgrow4 _
          have hbel4 : Below w.heap.size w w4 := (hbel3.alloc hsz3 _).grown hgrow4 (by simp; omega) (fun j hj => (hown3.lt j hj).1)
          have hsz4 := hbel4.size
          have hck4 : w4.cell? ⟨b, off + k, none⟩ = some (.string l[k]) := (hbel4.cell (p := ⟨b, off + k, none⟩) hb).trans (hc k hlt2)
          clear hck hck3
          go_wp2_with (at_builtin; refine Lib.wpList_append_own_string _ rfl _ _ 107 9 rfl w.heap.size 5 i0 Tryd.underlying107 Tryd.underlying9 hi hz0 hz1 hz2 _ _ _ rfl hown4 l[k] rfl ?f3 ?f4 ?f5 ?_)
          case f3 => unfold maxLen; omega
          case f4 => omega
          case f5 => omega
          intro v5 w5 hown5 hgrow5 _
          have hbel5 : Below w.heap.size w w5 := hbel4.grown hgrow5 hsz4 (fun j hj => (hown4.lt j hj).1)
          have hown6 : w5.ownsRow w.heap.size 5 1 v5 (joinB (l.take (k + 1))).length (Lib.byteCells (joinB (l.take (k + 1)))) := by
            have e : Lib.byteCells (joinB (l.take (k + 1))) = Lib.byteCells (joinB (l.take k)) ++ (Lib.strCells ⟨(Lib.itoa l[k].size).toArray⟩ ++ Value.int .u8 58 :: Lib.strCells l[k]) := by
              rw [Hs.out, encS]
              simp [Lib.byteCells, Lib.strCells]
            have en : (joinB (l.take (k + 1))).length = (joinB (l.take k)).length + (Lib.itoa l[k].size).length + 1 + l[k].size := by
              have h := Hlen.out
              omega
            rw [e, en]
            exact hown5
          clear hown hown3 hown4 hown5 hgrow3 hgrow4 hgrow5 hck4 hbel hbel3 hbel4
          go_wp2_with fail
          go_roundw
          case rel => exact ⟨k + 1, by omega, by go_num, hown6, hbel5⟩
          case measure => simp [intOf]; omega
        · obtain rfl : k = l.length := by omega
          rw [List.take_length] at hown
          have hpos := joinB_pos l h0
          obtain ⟨g, cp, hu⟩ : ∃ g cp, u5 = .slice (some ⟨g, 0, none⟩) (joinB l).length cp := by
            rcases hown.2 with ⟨_, hz⟩ | ⟨g, cp, cur, hv, _⟩
            · omega
            · exact ⟨g, cp, hv⟩
          subst hu
          have hconv : (convert 107 9 (Value.slice (some ⟨g, 0, none⟩) (joinB l).length cp)).run Tryd.prog wr = .ok (.string ⟨(joinB l).toArray⟩) wr :=
            run_convert_bytes_back (P := Tryd.prog) wr 107 9 5 ⟨g, 0, none⟩ cp (joinB l) Tryd.underlying107 Tryd.underlying5 Tryd.underlying9 (fun j hj => hown.cells (g := g) rfl j _ (by simp [Lib.byteCells, hj]))
          clear hown
          go_wp2_with fail
          go_ret
          exact ⟨rfl, hbel⟩

set_option maxRecDepth 100000 in
set_option maxHeartbeats 2000000 in
theorem rjoined_none (a : Option Addr) (cap : Nat) (w : World) :
    Calls Tryd.prog 67 #[.slice a 0 cap] w fun e w' => e = .returned (.string ⟨#[]⟩) ∧ Below w.heap.size w w' := by
  obtain ⟨i0, hi, hz0, hz1, hz2⟩ := info_parts Bld.infoU
  go_enter Tryd.func67, Tryd.ntmps67
  go_wp2_with fail
  refine wp_loop_rounds 1 ?_
  rw [rounds_succ]
  go_wp2_with (at_make; refine wpList_make_own _ rfl _ _ 107 rfl w.heap.size 5 i0 (.int .u8 0) 1 Tryd.underlying107 hi hz0 hz1 .i64 .i64 _ 0 rfl rfl rfl ?b2 ?b3 (Nat.le_refl _) ?_)
  case b2 => omega
  case b3 => unfold maxLen; omega
  intro w1 hown1 hgrow1
  have hbel1 : Below w.heap.size w w1 := (Below.refl _ _).grown hgrow1 (Nat.le_refl _) (fun k hk => by simp at hk)
  have hconv : (convert 107 9 (Value.slice (some ⟨w.heap.size, 0, none⟩) 0 0)).run Tryd.prog w1 = .ok (.string ⟨#[]⟩) w1 :=
    run_convert_bytes_back (P := Tryd.prog) w1 107 9 5 ⟨w.heap.size, 0, none⟩ 0 [] Tryd.underlying107 Tryd.underlying5 Tryd.underlying9 (fun j hj => by simp at hj)
  clear hown1
  go_wp2_with fail
  refine wp_loop_rounds 1 ?_
  rw [rounds_succ]
  go_wp2_with fail
  go_ret
  exact ⟨rfl, hbel1⟩

theorem rjoined_any (v : Value) (l : List ByteArray) (w : World) (hl : StrSl w v l) (hlim : (joinB l).length ≤ 140737488355328) (hroom : sumB l ≤ 140737488355328) :
    Calls Tryd.prog 67 #[v] w fun e w' => e = .returned (.string ⟨(joinB l).toArray⟩) ∧ Below w.heap.size w w' := by
  rcases hl with ⟨rfl, a, cap, rfl⟩ | ⟨b, off, cap, rfl, h0, hb, hm, hc⟩
  · exact rjoined_none a cap w
  · exact rjoined_some l b off cap w h0 hb (capLen hm) hc hlim hroom

set_option maxHeartbeats 400000 in
theorem rlist_any (v : Value) (l : List ByteArray) (w : World) (hl : StrSl w v l) (hlim : (joinB l).length ≤ 140737488355328) (hroom : sumB l ≤ 140737488355328) :
    Calls Tryd.prog 65 #[v] w fun e w' => e = .returned (.string ⟨(dsum (joinB l)).toArray⟩) ∧ Below w.heap.size w w' := by
  have hsz : (ByteArray.mk (joinB l).toArray).size ≤ 4611686018427387904 := by
    rw [Lib.size_eq]
    simp only [List.toList_toArray]
    omega
  go_enter Tryd.func65, Tryd.ntmps65
  go_wp2_with fail
  refine (rjoined_any v l w hl hlim hroom).mono ?_
  rintro e w1 ⟨rfl, hb1⟩
  go_wp2_with fail
  refine (rsum_any _ hsz _).mono ?_
  rintro e w2 ⟨rfl, rfl⟩
  go_wp2
  go_ret
  exact ⟨rfl, hb1⟩

end Go.Proofs.YteapfoadfjjicaaDoor.Dig
