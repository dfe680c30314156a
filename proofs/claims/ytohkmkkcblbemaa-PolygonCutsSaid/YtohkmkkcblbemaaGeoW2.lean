/- Walks over package geom: are all on the grid? Turn, Dist. -/
import Derived.Test.YtohkmkkcblbemaaGeoW1
namespace Go.Proofs.Ytohkmkkcblbemaa.Ge
set_option linter.unusedVariables false
set_option linter.unusedSimpArgs false
open Go.RowKit
open Go.Proofs.Ytohkmkkcblbemaa.Fr (Two)

/-- block b holds the cells of these points -/
def Pts (w : World) (b : Nat) (l : List (Int × Int)) : Prop :=
  b < w.heap.size ∧ ∀ i (h : i < l.length), w.cell? ⟨b, i * 2, none⟩ = some (.int .i64 l[i].1) ∧ w.cell? ⟨b, i * 2 + 1, none⟩ = some (.int .i64 l[i].2)
theorem Pts.below {w w' : World} {b : Nat} {l : List (Int × Int)} (h : Pts w b l) (hb : Below w.heap.size w w') : Pts w' b l :=
  ⟨Nat.lt_of_lt_of_le h.1 hb.size, fun i hi => ⟨(hb.cell (p := ⟨b, i * 2, none⟩) h.1).trans (h.2 i hi).1, (hb.cell (p := ⟨b, i * 2 + 1, none⟩) h.1).trans (h.2 i hi).2⟩⟩
theorem pts_new {w : World} {B : Nat} (hB : B = w.heap.size) (t : TypeId) (cs : Array Value) (l : List (Int × Int)) (hc : ∀ i (h : i < l.length), cs[i * 2]? = some (.int .i64 l[i].1) ∧ cs[i * 2 + 1]? = some (.int .i64 l[i].2)) : Pts (w.alloc (.cells cs t)) B l := by
  subst hB
  have hg : (w.alloc (.cells cs t)).heap[w.heap.size]? = some (.cells cs t (0, 0)) := by
    show (w.heap.push _)[w.heap.size]? = _
    rw [Array.getElem?_push, if_pos rfl]
  refine ⟨by simp, fun i hi => ?_⟩
  obtain ⟨h1, h2⟩ := hc i hi
  simp only [World.cell?, hg]
  exact ⟨by simpa using h1, by simpa using h2⟩
theorem pts2 {w : World} {B : Nat} (hB : B = w.heap.size) (t : TypeId) (a b c d : Int) : Pts (w.alloc (.cells #[.int .i64 a, .int .i64 b, .int .i64 c, .int .i64 d] t)) B [(a, b), (c, d)] :=
  pts_new hB t _ _ fun i hi => by
    simp only [List.length_cons, List.length_nil] at hi
    obtain rfl | rfl : i = 0 ∨ i = 1 := by omega
    all_goals exact ⟨rfl, rfl⟩
theorem pts3 {w : World} {B : Nat} (hB : B = w.heap.size) (t : TypeId) (a b c d e f : Int) : Pts (w.alloc (.cells #[.int .i64 a, .int .i64 b, .int .i64 c, .int .i64 d, .int .i64 e, .int .i64 f] t)) B [(a, b), (c, d), (e, f)] :=
  pts_new hB t _ _ fun i hi => by
    simp only [List.length_cons, List.length_nil] at hi
    obtain rfl | rfl | rfl : i = 0 ∨ i = 1 ∨ i = 2 := by omega
    all_goals exact ⟨rfl, rfl⟩
theorem pts4 {w : World} {B : Nat} (hB : B = w.heap.size) (t : TypeId) (a b c d e f g h : Int) : Pts (w.alloc (.cells #[.int .i64 a, .int .i64 b, .int .i64 c, .int .i64 d, .int .i64 e, .int .i64 f, .int .i64 g, .int .i64 h] t)) B [(a, b), (c, d), (e, f), (g, h)] :=
  pts_new hB t _ _ fun i hi => by
    simp only [List.length_cons, List.length_nil] at hi
    obtain rfl | rfl | rfl | rfl : i = 0 ∨ i = 1 ∨ i = 2 ∨ i = 3 := by omega
    all_goals exact ⟨rfl, rfl⟩

/-- are all of a list on the grid? -/
def allP (l : List (Int × Int)) : Prop := ∀ i (h : i < l.length), onP l[i].1 l[i].2
set_option maxRecDepth 100000 in
set_option maxHeartbeats 4000000 in
theorem allOn_yes (l : List (Int × Int)) (b cap : Nat) (w : World) (h : Pts w b l) (hl : l.length ≤ 9) (ha : allP l) :
    Calls Try.prog 40 #[.slice (some ⟨b, 0, none⟩) l.length cap] w fun e w' => e = .returned (.bool true) ∧ Below w.heap.size w w' := by
  have HA := Lib.hid ha
  obtain ⟨hb, hc⟩ := h
  have HC := Lib.hid (fun (w' : World) (hw : Below w.heap.size w w') i (hi : i < l.length) => (Pts.below ⟨hb, hc⟩ hw).2 i hi)
  clear ha hc
  go_enter Try.func40, Try.ntmps40
  go_wp2_with fail
  go_loopw [7] (fun i wr => ∃ k : Nat, i = .int .i64 (k : Int) ∧ k ≤ l.length ∧ Below w.heap.size w wr) (fun i _ => l.length - (intOf i).toNat)
  case atStart => exact ⟨0, rfl, Nat.zero_le _, Below.refl _ _⟩
  case round =>
    obtain ⟨k, rfl, hk, hbel⟩ := hrel
    by_cases hlt : k < l.length
    · obtain ⟨c1, c2⟩ := HC.out wr hbel k hlt
      have HCALL := Lib.hid (fun w => on_yes _ _ (HA.out k hlt) w)
      generalize l[k].1 = f at *
      generalize l[k].2 = u at *
      go_wp2_with fail
      refine (HCALL.out _).mono ?_
      rintro r w1 ⟨rfl, hb1⟩
      have hb2 := (hbel.alloc hbel.size (.cells #[.int .i64 f, .int .i64 u] 23)).trans (hb1.mono (by have := hbel.size; simp; omega))
      clear c1 c2
      go_wp2_with fail
      go_roundw
      case rel => exact ⟨k + 1, by go_num, by omega, hb2⟩
      case measure => simp [intOf]; omega
    · go_wp2_with fail
      go_ret
      exact ⟨rfl, hbel⟩
set_option maxRecDepth 100000 in
set_option maxHeartbeats 4000000 in
theorem allOn_no (l : List (Int × Int)) (b cap : Nat) (w : World) (h : Pts w b l) (hl : l.length ≤ 9) (ha : ¬ allP l) :
    Calls Try.prog 40 #[.slice (some ⟨b, 0, none⟩) l.length cap] w fun e w' => e = .returned (.bool false) ∧ Below w.heap.size w w' := by
  have HA := Lib.hid ha
  obtain ⟨hb, hc⟩ := h
  have HC := Lib.hid (fun (w' : World) (hw : Below w.heap.size w w') i (hi : i < l.length) => (Pts.below ⟨hb, hc⟩ hw).2 i hi)
  clear ha hc
  go_enter Try.func40, Try.ntmps40
  go_wp2_with fail
  go_loopw [7] (fun i wr => ∃ k : Nat, i = .int .i64 (k : Int) ∧ k ≤ l.length ∧ (∀ j (hj : j < l.length), j < k → onP l[j].1 l[j].2) ∧ Below w.heap.size w wr) (fun i _ => l.length - (intOf i).toNat)
  case atStart => exact ⟨0, rfl, Nat.zero_le _, fun j hj hk => by omega, Below.refl _ _⟩
  case round =>
    obtain ⟨k, rfl, hk, hall, hbel⟩ := hrel
    have HL := Lib.hid hall
    clear hall
    by_cases hlt : k < l.length
    · obtain ⟨c1, c2⟩ := HC.out wr hbel k hlt
      by_cases hq : onP l[k].1 l[k].2
      · have HCALL := Lib.hid (fun w => on_yes _ _ hq w)
        have HL2 := Lib.hid (show ∀ j (hj : j < l.length), j < k + 1 → onP l[j].1 l[j].2 from fun j hj hjk => by
          by_cases e : j = k
          · subst e; exact hq
          · exact HL.out j hj (by omega))
        clear hq
        generalize l[k].1 = f at *
        generalize l[k].2 = u at *
        go_wp2_with fail
        refine (HCALL.out _).mono ?_
        rintro r w1 ⟨rfl, hb1⟩
        have hb2 := (hbel.alloc hbel.size (.cells #[.int .i64 f, .int .i64 u] 23)).trans (hb1.mono (by have := hbel.size; simp; omega))
        clear c1 c2
        go_wp2_with fail
        go_roundw
        case rel => exact ⟨k + 1, by go_num, by omega, HL2.out, hb2⟩
        case measure => simp [intOf]; omega
      · have HCALL := Lib.hid (fun w => on_no _ _ hq w)
        clear hq
        generalize l[k].1 = f at *
        generalize l[k].2 = u at *
        go_wp2_with fail
        refine (HCALL.out _).mono ?_
        rintro r w1 ⟨rfl, hb1⟩
        have hb2 := (hbel.alloc hbel.size (.cells #[.int .i64 f, .int .i64 u] 23)).trans (hb1.mono (by have := hbel.size; simp; omega))
        clear c1 c2
        go_wp2_with fail
        go_ret
        exact ⟨rfl, hb2⟩
    · exfalso
      refine HA.out fun i hi => ?_
      exact HL.out i hi (by omega)

theorem allP2 {ax ay bx bz : Int} : allP [(ax, ay), (bx, bz)] ↔ onP ax ay ∧ onP bx bz := by
  constructor
  · exact fun h => ⟨h 0 (by simp), h 1 (by simp)⟩
  · rintro ⟨h1, h2⟩ i hi
    simp only [List.length_cons, List.length_nil] at hi
    obtain rfl | rfl : i = 0 ∨ i = 1 := by omega
    · exact h1
    · exact h2
theorem allP3 {ax ay bx bz cx cy : Int} : allP [(ax, ay), (bx, bz), (cx, cy)] ↔ onP ax ay ∧ onP bx bz ∧ onP cx cy := by
  constructor
  · exact fun h => ⟨h 0 (by simp), h 1 (by simp), h 2 (by simp)⟩
  · rintro ⟨h1, h2, h3⟩ i hi
    simp only [List.length_cons, List.length_nil] at hi
    obtain rfl | rfl | rfl : i = 0 ∨ i = 1 ∨ i = 2 := by omega
    · exact h1
    · exact h2
    · exact h3
theorem allP4 {ax ay bx bz cx cy dx dy : Int} : allP [(ax, ay), (bx, bz), (cx, cy), (dx, dy)] ↔ onP ax ay ∧ onP bx bz ∧ onP cx cy ∧ onP dx dy := by
  constructor
  · exact fun h => ⟨h 0 (by simp), h 1 (by simp), h 2 (by simp), h 3 (by simp)⟩
  · rintro ⟨h1, h2, h3, h4⟩ i hi
    simp only [List.length_cons, List.length_nil] at hi
    obtain rfl | rfl | rfl | rfl : i = 0 ∨ i = 1 ∨ i = 2 ∨ i = 3 := by omega
    · exact h1
    · exact h2
    · exact h3
    · exact h4

theorem allOn_any (l : List (Int × Int)) (P : Prop) [Decidable P] (hP : allP l ↔ P) (n : Nat) (hn : l.length = n) (h9 : n ≤ 9) (b cap : Nat) (w : World) (h : Pts w b l) :
    Calls Try.prog 40 #[.slice (some ⟨b, 0, none⟩) n cap] w fun e w' => e = .returned (.bool (decide P)) ∧ Below w.heap.size w w' := by
  subst hn
  by_cases k : P
  · rw [decide_eq_true k]; exact allOn_yes l b cap w h h9 (hP.2 k)
  · rw [decide_eq_false k]; exact allOn_no l b cap w h h9 (fun q => k (hP.1 q))
theorem allOn2 (ax ay bx bz : Int) (b cap : Nat) (w : World) (h : Pts w b [(ax, ay), (bx, bz)]) :
    Calls Try.prog 40 #[.slice (some ⟨b, 0, none⟩) 2 cap] w fun e w' => e = .returned (.bool (decide (onP ax ay ∧ onP bx bz))) ∧ Below w.heap.size w w' := 
  allOn_any _ _ allP2 2 rfl (by decide) b cap w h
theorem allOn3 (ax ay bx bz cx cy : Int) (b cap : Nat) (w : World) (h : Pts w b [(ax, ay), (bx, bz), (cx, cy)]) :
    Calls Try.prog 40 #[.slice (some ⟨b, 0, none⟩) 3 cap] w fun e w' => e = .returned (.bool (decide (onP ax ay ∧ onP bx bz ∧ onP cx cy))) ∧ Below w.heap.size w w' := 
  allOn_any _ _ allP3 3 rfl (by decide) b cap w h
theorem allOn4 (ax ay bx bz cx cy dx dy : Int) (b cap : Nat) (w : World) (h : Pts w b [(ax, ay), (bx, bz), (cx, cy), (dx, dy)]) :
    Calls Try.prog 40 #[.slice (some ⟨b, 0, none⟩) 4 cap] w fun e w' => e = .returned (.bool (decide (onP ax ay ∧ onP bx bz ∧ onP cx cy ∧ onP dx dy))) ∧ Below w.heap.size w w' := 
  allOn_any _ _ allP4 4 rfl (by decide) b cap w h
end Go.Proofs.Ytohkmkkcblbemaa.Ge
