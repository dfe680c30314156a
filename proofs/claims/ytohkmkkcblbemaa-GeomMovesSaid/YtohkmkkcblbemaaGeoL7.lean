/- The walk of GeomMoves. -/
import Derived.Test.YtohkmkkcblbemaaGeoPts
import Derived.Test.YtohkmkkcblbemaaGeoH
import Derived.Test.YtohkmkkcblbemaaGeoMove
import Derived.Test.YtohkmkkcblbemaaRegLast
namespace Go.Proofs.Ytohkmkkcblbemaa.Ge
set_option linter.unusedVariables false
set_option linter.unusedSimpArgs false
open Go.RowKit
open Go.Proofs.Ytohkmkkcblbemaa.Fr (Two)


def mvP (u v : Int) (p : Pt) : Pt := (p.1 + u, p.2 + v)
def swP (p : Pt) : Pt := (p.2, p.1)
theorem take_map {f : Pt → Pt} (l : List Pt) (k : Nat) (h : k < l.length) : (l.map f).take (k + 1) = (l.map f).take k ++ [f l[k]] := by
  rw [List.take_succ_eq_append_getElem (by simpa using h), List.getElem_map]
theorem take_mv (u v : Int) (l : List Pt) (k : Nat) (h : k < l.length) : (l.map (mvP u v)).take (k + 1) = (l.map (mvP u v)).take k ++ [(l[k].1 + u, l[k].2 + v)] := take_map l k h
theorem take_sw (l : List Pt) (k : Nat) (h : k < l.length) : (l.map swP).take (k + 1) = (l.map swP).take k ++ [(l[k].2, l[k].1)] := take_map l k h
theorem all4 {P : Pt → Prop} {a b c d : Pt} (h1 : P a) (h2 : P b) (h3 : P c) (h4 : P d) : ∀ k (h : k < [a, b, c, d].length), P [a, b, c, d][k] := fun k h => by
  simp only [List.length_cons, List.length_nil] at h
  obtain rfl | rfl | rfl | rfl : k = 0 ∨ k = 1 ∨ k = 2 ∨ k = 3 := by omega
  · exact h1
  · exact h2
  · exact h3
  · exact h4

theorem own4 {w : World} {B : Nat} {v : Value} {p q r s : Pt} (h : OwnPt w B v [p, q, r, s]) : ∃ g cap, v = .slice (some ⟨g, 0, none⟩) 4 cap ∧ Pts w g [p, q, r, s] := by
  rcases h with ⟨hl, ⟨hv, h0⟩ | ⟨g, cap, cur, hv, _, hg, hc, hm, hsz, htk⟩⟩
  · simp at h0
  · refine ⟨g, cap, hv, (Array.getElem?_eq_some_iff.1 hg).1, fun i hi => ?_⟩
    have key : ∀ j, j < 2 → w.cell? ⟨g, 0 + i * 2 + j, none⟩ = (encT [p, q, r, s][i])[j]? := fun j hj => by
      have hi4 : i < 4 := hi
      rw [cell_of_row _ _ _ _ _ _ hg, Nat.zero_add, ← flatT_get [p, q, r, s] i j hi hj, ← htk, List.getElem?_take, if_pos (by simp only [List.length_cons, List.length_nil] at hsz ⊢; omega), Array.getElem?_toList]
    have k0 := key 0 (by decide)
    have k1 := key 1 (by decide)
    rw [Nat.zero_add] at k0 k1
    exact ⟨k0, k1⟩
theorem Pts.c8 {w : World} {b : Nat} {x1 x2 x3 x4 x5 x6 x7 x8 : Int} (h : Pts w b [(x1, x2), (x3, x4), (x5, x6), (x7, x8)]) :
    w.cell? ⟨b, 0, none⟩ = some (.int .i64 x1) ∧ w.cell? ⟨b, 1, none⟩ = some (.int .i64 x2) ∧ w.cell? ⟨b, 2, none⟩ = some (.int .i64 x3) ∧ w.cell? ⟨b, 3, none⟩ = some (.int .i64 x4) ∧ w.cell? ⟨b, 4, none⟩ = some (.int .i64 x5) ∧ w.cell? ⟨b, 5, none⟩ = some (.int .i64 x6) ∧ w.cell? ⟨b, 6, none⟩ = some (.int .i64 x7) ∧ w.cell? ⟨b, 7, none⟩ = some (.int .i64 x8) :=
  ⟨(h.2 0 (by simp)).1, (h.2 0 (by simp)).2, (h.2 1 (by simp)).1, (h.2 1 (by simp)).2, (h.2 2 (by simp)).1, (h.2 2 (by simp)).2, (h.2 3 (by simp)).1, (h.2 3 (by simp)).2⟩
/-- two cells of a block -/
def Cel (w : World) (B : Nat) (x y : Value) : Prop := w.cell? ⟨B, 0, none⟩ = some x ∧ w.cell? ⟨B, 1, none⟩ = some y
theorem Cel.lt {w : World} {B : Nat} {x y : Value} (h : Cel w B x y) : B < w.heap.size := World.block_lt_of_cell? _ _ h.1
theorem Cel.below {w w' : World} {N B : Nat} {x y : Value} (h : Cel w B x y) (hb : Below N w w') (hlt : B < N) : Cel w' B x y := ⟨(hb.cell (p := ⟨B, 0, none⟩) hlt).trans h.1, (hb.cell (p := ⟨B, 1, none⟩) hlt).trans h.2⟩
theorem F_moved {ax ay bx bz cx cy dx dy : Int} {u v : Int} (ha : onP ax ay) (hb : onP bx bz) (hc : onP cx cy) (hd : onP dx dy) (ha2 : onP (ax + u) (ay + v)) (hb2 : onP (bx + u) (bz + v)) (hc2 : onP (cx + u) (cy + v)) (hd2 : onP (dx + u) (dy + v)) (w : World) :
    Calls Try.prog 15 #[.agg #[.int .i64 (ax + u), .int .i64 (ay + v)], .agg #[.int .i64 (bx + u), .int .i64 (bz + v)], .agg #[.int .i64 (cx + u), .int .i64 (cy + v)]] w fun e w' => e = .returned (.tuple #[.agg #[.int .i64 (ftN ax ay bx bz cx cy), .int .i64 (ftD ax ay bx bz cx cy)], .agg #[.int .i64 (ftM ax ay bx bz cx cy), .int .i64 (ftE ax ay bx bz cx cy)], .int .i64 0]) ∧ Below w.heap.size w w' := by
  have l := like_moved ha hb hc hd ha2 hb2 hc2 hd2
  have h := Foot_any (ax + u) (ay + v) (bx + u) (bz + v) (cx + u) (cy + v) w
  rw [if_pos ⟨ha2, hb2, hc2⟩, l.n, l.d, l.m, l.e] at h
  exact h
theorem T_moved {ax ay bx bz cx cy dx dy : Int} {u v : Int} (ha : onP ax ay) (hb : onP bx bz) (hc : onP cx cy) (hd : onP dx dy) (ha2 : onP (ax + u) (ay + v)) (hb2 : onP (bx + u) (bz + v)) (hc2 : onP (cx + u) (cy + v)) (hd2 : onP (dx + u) (dy + v)) (w : World) :
    Calls Try.prog 16 #[.agg #[.int .i64 (ax + u), .int .i64 (ay + v)], .agg #[.int .i64 (bx + u), .int .i64 (bz + v)], .agg #[.int .i64 (cx + u), .int .i64 (cy + v)]] w fun e w' => e = .returned (.int .i64 (turnV ax ay bx bz cx cy)) ∧ Below w.heap.size w w' := by
  have l := like_moved ha hb hc hd ha2 hb2 hc2 hd2
  have h := Turn_any (ax + u) (ay + v) (bx + u) (bz + v) (cx + u) (cy + v) w
  rw [l.turn, Int.one_mul] at h
  exact h
theorem D_moved {ax ay bx bz cx cy dx dy : Int} {u v : Int} (ha : onP ax ay) (hb : onP bx bz) (hc : onP cx cy) (hd : onP dx dy) (ha2 : onP (ax + u) (ay + v)) (hb2 : onP (bx + u) (bz + v)) (hc2 : onP (cx + u) (cy + v)) (hd2 : onP (dx + u) (dy + v)) (w : World) :
    Calls Try.prog 17 #[.agg #[.int .i64 (ax + u), .int .i64 (ay + v)], .agg #[.int .i64 (bx + u), .int .i64 (bz + v)]] w fun e w' => e = .returned (.int .i64 (distV ax ay bx bz)) ∧ Below w.heap.size w w' := by
  have l := like_moved ha hb hc hd ha2 hb2 hc2 hd2
  have h := Dist_any (ax + u) (ay + v) (bx + u) (bz + v) w
  rw [l.dist] at h
  exact h
theorem C_moved {ax ay bx bz cx cy dx dy : Int} {u v : Int} (ha : onP ax ay) (hb : onP bx bz) (hc : onP cx cy) (hd : onP dx dy) (ha2 : onP (ax + u) (ay + v)) (hb2 : onP (bx + u) (bz + v)) (hc2 : onP (cx + u) (cy + v)) (hd2 : onP (dx + u) (dy + v)) (w : World) :
    Calls Try.prog 18 #[.agg #[.int .i64 (ax + u), .int .i64 (ay + v)], .agg #[.int .i64 (bx + u), .int .i64 (bz + v)], .agg #[.int .i64 (cx + u), .int .i64 (cy + v)], .agg #[.int .i64 (dx + u), .int .i64 (dy + v)]] w fun e w' => e = .returned (.int .i64 (crossV ax ay bx bz cx cy dx dy)) ∧ Below w.heap.size w w' := by
  have l := like_moved ha hb hc hd ha2 hb2 hc2 hd2
  have h := Cross_any (ax + u) (ay + v) (bx + u) (bz + v) (cx + u) (cy + v) (dx + u) (dy + v) w
  rw [l.cross] at h
  exact h
theorem F_swapped {ax ay bx bz cx cy dx dy : Int} (ha : onP ax ay) (hb : onP bx bz) (hc : onP cx cy) (hd : onP dx dy)  (w : World) :
    Calls Try.prog 15 #[.agg #[.int .i64 ay, .int .i64 ax], .agg #[.int .i64 bz, .int .i64 bx], .agg #[.int .i64 cy, .int .i64 cx]] w fun e w' => e = .returned (.tuple #[.agg #[.int .i64 (ftN ax ay bx bz cx cy), .int .i64 (ftD ax ay bx bz cx cy)], .agg #[.int .i64 (ftM ax ay bx bz cx cy), .int .i64 (ftE ax ay bx bz cx cy)], .int .i64 0]) ∧ Below w.heap.size w w' := by
  have l := like_swapped ha hb hc hd
  have h := Foot_any ay ax bz bx cy cx w
  rw [if_pos ⟨on_swap ha, on_swap hb, on_swap hc⟩, l.n, l.d, l.m, l.e] at h
  exact h
theorem T_swapped {ax ay bx bz cx cy dx dy : Int} (ha : onP ax ay) (hb : onP bx bz) (hc : onP cx cy) (hd : onP dx dy)  (w : World) :
    Calls Try.prog 16 #[.agg #[.int .i64 ay, .int .i64 ax], .agg #[.int .i64 bz, .int .i64 bx], .agg #[.int .i64 cy, .int .i64 cx]] w fun e w' => e = .returned (.int .i64 (-turnV ax ay bx bz cx cy)) ∧ Below w.heap.size w w' := by
  have l := like_swapped ha hb hc hd
  have h := Turn_any ay ax bz bx cy cx w
  rw [l.turn, Int.neg_one_mul] at h
  exact h
theorem D_swapped {ax ay bx bz cx cy dx dy : Int} (ha : onP ax ay) (hb : onP bx bz) (hc : onP cx cy) (hd : onP dx dy)  (w : World) :
    Calls Try.prog 17 #[.agg #[.int .i64 ay, .int .i64 ax], .agg #[.int .i64 bz, .int .i64 bx]] w fun e w' => e = .returned (.int .i64 (distV ax ay bx bz)) ∧ Below w.heap.size w w' := by
  have l := like_swapped ha hb hc hd
  have h := Dist_any ay ax bz bx w
  rw [l.dist] at h
  exact h
theorem C_swapped {ax ay bx bz cx cy dx dy : Int} (ha : onP ax ay) (hb : onP bx bz) (hc : onP cx cy) (hd : onP dx dy)  (w : World) :
    Calls Try.prog 18 #[.agg #[.int .i64 ay, .int .i64 ax], .agg #[.int .i64 bz, .int .i64 bx], .agg #[.int .i64 cy, .int .i64 cx], .agg #[.int .i64 dy, .int .i64 dx]] w fun e w' => e = .returned (.int .i64 (crossV ax ay bx bz cx cy dx dy)) ∧ Below w.heap.size w w' := by
  have l := like_swapped ha hb hc hd
  have h := Cross_any ay ax bz bx cy cx dy dx w
  rw [l.cross] at h
  exact h
set_option maxRecDepth 100000 in
set_option maxHeartbeats 0 in
theorem lawMoves (px py qx qy rx ry sx sy : Int) (x y : Int) (hpx1 : -9223372036854775808 ≤ px) (hpx2 : px ≤ 9223372036854775807) (hpy1 : -9223372036854775808 ≤ py) (hpy2 : py ≤ 9223372036854775807) (hqx1 : -9223372036854775808 ≤ qx) (hqx2 : qx ≤ 9223372036854775807) (hqy1 : -9223372036854775808 ≤ qy) (hqy2 : qy ≤ 9223372036854775807) (hrx1 : -9223372036854775808 ≤ rx) (hrx2 : rx ≤ 9223372036854775807) (hry1 : -9223372036854775808 ≤ ry) (hry2 : ry ≤ 9223372036854775807) (hsx1 : -9223372036854775808 ≤ sx) (hsx2 : sx ≤ 9223372036854775807) (hsy1 : -9223372036854775808 ≤ sy) (hsy2 : sy ≤ 9223372036854775807) (hxa : 0 ≤ x) (hxb : x ≤ 65535) (hya : 0 ≤ y) (hyb : y ≤ 65535) (w : World) :
    Calls Try.prog 3 #[.agg #[.int .i64 px, .int .i64 py], .agg #[.int .i64 qx, .int .i64 qy], .agg #[.int .i64 rx, .int .i64 ry], .agg #[.int .i64 sx, .int .i64 sy], .int .u16 x, .int .u16 y] w fun e w' => e = .returned (.bool true) ∧ Below w.heap.size w w' := by
  have HG1 := Lib.hid (fun w => grid_any px py w hpx1 hpx2 hpy1 hpy2)
  have hon1 := on_mod px py
  generalize px % 32768 = ax at *
  generalize py % 32768 = ay at *
  have HG2 := Lib.hid (fun w => grid_any qx qy w hqx1 hqx2 hqy1 hqy2)
  have hon2 := on_mod qx qy
  generalize qx % 32768 = bx at *
  generalize qy % 32768 = bz at *
  have HG3 := Lib.hid (fun w => grid_any rx ry w hrx1 hrx2 hry1 hry2)
  have hon3 := on_mod rx ry
  generalize rx % 32768 = cx at *
  generalize ry % 32768 = cy at *
  have HG4 := Lib.hid (fun w => grid_any sx sy w hsx1 hsx2 hsy1 hsy2)
  have hon4 := on_mod sx sy
  generalize sx % 32768 = dx at *
  generalize sy % 32768 = dy at *
  have b0_0 := Two.at (w := w) (B := w.heap.size) (by simp) 23 (.int .i64 px) (.int .i64 py)
  have b1_1 := Two.at (w := (w.alloc (.cells #[.int .i64 px, .int .i64 py] 23))) (B := w.heap.size + 1) (by simp) 23 (.int .i64 qx) (.int .i64 qy)
  have b0_1 := b0_0.alloc (.cells #[.int .i64 qx, .int .i64 qy] 23)
  have b2_2 := Two.at (w := ((w.alloc (.cells #[.int .i64 px, .int .i64 py] 23)).alloc (.cells #[.int .i64 qx, .int .i64 qy] 23))) (B := w.heap.size + 1 + 1) (by simp) 23 (.int .i64 rx) (.int .i64 ry)
  have b0_2 := b0_1.alloc (.cells #[.int .i64 rx, .int .i64 ry] 23)
  have b1_2 := b1_1.alloc (.cells #[.int .i64 rx, .int .i64 ry] 23)
  have b3_3 := Two.at (w := (((w.alloc (.cells #[.int .i64 px, .int .i64 py] 23)).alloc (.cells #[.int .i64 qx, .int .i64 qy] 23)).alloc (.cells #[.int .i64 rx, .int .i64 ry] 23))) (B := w.heap.size + 1 + 1 + 1) (by simp) 23 (.int .i64 sx) (.int .i64 sy)
  have b0_3 := b0_2.alloc (.cells #[.int .i64 sx, .int .i64 sy] 23)
  have b1_3 := b1_2.alloc (.cells #[.int .i64 sx, .int .i64 sy] 23)
  have b2_3 := b2_2.alloc (.cells #[.int .i64 sx, .int .i64 sy] 23)
  have hb0 : Below w.heap.size w _ := (((((Below.refl w.heap.size w).alloc (by simp <;> omega) (.cells #[.int .i64 px, .int .i64 py] 23)).alloc (by simp <;> omega) (.cells #[.int .i64 qx, .int .i64 qy] 23)).alloc (by simp <;> omega) (.cells #[.int .i64 rx, .int .i64 ry] 23)).alloc (by simp <;> omega) (.cells #[.int .i64 sx, .int .i64 sy] 23))
  go_enter Try.func3, Try.ntmps3
  obtain ⟨f1_0, f1_1, f1_2, f1_3⟩ := b0_3.facts
  obtain ⟨f2_0, f2_1, f2_2, f2_3⟩ := b1_3.facts
  obtain ⟨f3_0, f3_1, f3_2, f3_3⟩ := b2_3.facts
  obtain ⟨f4_0, f4_1, f4_2, f4_3⟩ := b3_3.facts
  go_wp2_with fail
  refine (head_any _).mono ?_
  rintro r v1 ⟨rfl, hx1⟩
  clear f1_0 f1_1 f1_2 f1_3 f2_0 f2_1 f2_2 f2_3 f3_0 f3_1 f3_2 f3_3 f4_0 f4_1 f4_2 f4_3
  have t1_1 := b0_3.below hx1 b0_3.lt
  clear b0_3
  have t2_1 := b1_3.below hx1 b1_3.lt
  clear b1_3
  have t3_1 := b2_3.below hx1 b2_3.lt
  clear b2_3
  have t4_1 := b3_3.below hx1 b3_3.lt
  clear b3_3
  have hb1 := hb0.trans (hx1.mono hb0.size)
  clear hb0 hx1
  obtain ⟨f1_0, f1_1, f1_2, f1_3⟩ := t1_1.facts
  obtain ⟨f2_0, f2_1, f2_2, f2_3⟩ := t2_1.facts
  obtain ⟨f3_0, f3_1, f3_2, f3_3⟩ := t3_1.facts
  obtain ⟨f4_0, f4_1, f4_2, f4_3⟩ := t4_1.facts
  go_upto_region 2 with fail
  clear f1_0 f1_1 f1_2 f1_3 f2_0 f2_1 f2_2 f2_3 f3_0 f3_1 f3_2 f3_3 f4_0 f4_1 f4_2 f4_3
  have hS : ∀ w' : World, Below v1.heap.size v1 w' → (w'.cell? ⟨w.heap.size, 0, none⟩ = some (.int .i64 px) ∧ w'.cell? ⟨w.heap.size, 1, none⟩ = some (.int .i64 py)) ∧ (w'.cell? ⟨w.heap.size + 1, 0, none⟩ = some (.int .i64 qx) ∧ w'.cell? ⟨w.heap.size + 1, 1, none⟩ = some (.int .i64 qy)) ∧ (w'.cell? ⟨w.heap.size + 1 + 1, 0, none⟩ = some (.int .i64 rx) ∧ w'.cell? ⟨w.heap.size + 1 + 1, 1, none⟩ = some (.int .i64 ry)) ∧ (w'.cell? ⟨w.heap.size + 1 + 1 + 1, 0, none⟩ = some (.int .i64 sx) ∧ w'.cell? ⟨w.heap.size + 1 + 1 + 1, 1, none⟩ = some (.int .i64 sy)) := fun w' hb => ⟨two_of t1_1 hb, two_of t2_1 hb, two_of t3_1 hb, two_of t4_1 hb⟩
  have hr := Below.refl v1.heap.size v1
  go_region_held3 (fun w' => (w'.cell? ⟨w.heap.size, 0, none⟩ = some (.int .i64 px) ∧ w'.cell? ⟨w.heap.size, 1, none⟩ = some (.int .i64 py)) ∧ (w'.cell? ⟨w.heap.size + 1, 0, none⟩ = some (.int .i64 qx) ∧ w'.cell? ⟨w.heap.size + 1, 1, none⟩ = some (.int .i64 qy)) ∧ (w'.cell? ⟨w.heap.size + 1 + 1, 0, none⟩ = some (.int .i64 rx) ∧ w'.cell? ⟨w.heap.size + 1 + 1, 1, none⟩ = some (.int .i64 ry)) ∧ (w'.cell? ⟨w.heap.size + 1 + 1 + 1, 0, none⟩ = some (.int .i64 sx) ∧ w'.cell? ⟨w.heap.size + 1 + 1 + 1, 1, none⟩ = some (.int .i64 sy)))
    (first | (with_reducible exact hS _ hr.drew) | (with_reducible refine hS _ ?_; (repeat (first | (with_reducible assumption) | (with_reducible refine Below.drew ?_) | (with_reducible refine Below.setCell ?_ ?_ _) | (with_reducible refine Below.alloc ?_ ?_ _))); all_goals (first | omega | (simp; omega) | simp)))
    (first
      | (go_at_call 13; have hz := hy3; refine (HG4.out _).mono ?_; rintro r y4 ⟨rfl, hy4'⟩; have hy4 : Below v1.heap.size v1 y4 := hy3.trans (hy4'.mono hy3.size); have lz := hy4.size)
      | (go_at_call 13; have hz := hy2; refine (HG3.out _).mono ?_; rintro r y3 ⟨rfl, hy3'⟩; have hy3 : Below v1.heap.size v1 y3 := hy2.trans (hy3'.mono hy2.size))
      | (go_at_call 13; have hz := hy1; refine (HG2.out _).mono ?_; rintro r y2 ⟨rfl, hy2'⟩; have hy2 : Below v1.heap.size v1 y2 := hy1.trans (hy2'.mono hy1.size))
      | (go_at_call 13; refine (HG1.out _).mono ?_; rintro r y1 ⟨rfl, hy1'⟩; have hy1 : Below v1.heap.size v1 y1 := hr.drew.trans hy1'))
  all_goals
    have t1_2 := t1_1.below hy4 t1_1.lt
    have t2_2 := t2_1.below hy4 t2_1.lt
    have t3_2 := t3_1.below hy4 t3_1.lt
    have t4_2 := t4_1.below hy4 t4_1.lt
    have hb2 := hb1.trans (hy4.mono hb1.size)
    have hp0 := pts4 (w := y4) rfl 23 ax ay bx bz cx cy dx dy
    have hbl := hb2.alloc hb2.size (.cells #[.int .i64 ax, .int .i64 ay, .int .i64 bx, .int .i64 bz, .int .i64 cx, .int .i64 cy, .int .i64 dx, .int .i64 dy] 23)
    have hB14 := hp0.1
    clear hS hr
    clear t1_2
    clear t2_2
    clear t3_2
    clear t4_2
    go_upto_region 3 with fail
    generalize hBB : y4.heap.size = Bl at *
    generalize y4.alloc (.cells #[.int .i64 ax, .int .i64 ay, .int .i64 bx, .int .i64 bz, .int .i64 cx, .int .i64 cy, .int .i64 dx, .int .i64 dy] 23) = L0 at *
    go_wp2_with fail
    refine (at_any _ _ _).mono ?_
    rintro r v2 ⟨rfl, hxA⟩
    have hp1 := hp0.below hxA
    have hbA := hbl.trans (hxA.mono hbl.size)
    clear hp0 hbl hxA hB14
    go_upto_region 5 with fail
    have tH := Two.new v2 23 (.int .i64 0) (.int .i64 0)
    have hp2 := hp1.below ((Below.refl v2.heap.size v2).alloc (Nat.le_refl _) (.cells #[.int .i64 0, .int .i64 0] 23))
    have hbV := hbA.alloc hbA.size (.cells #[.int .i64 0, .int .i64 0] 23)
    have hBl := hp1.1
    have hbA_ := hbA.size
    clear hbA hp1
    generalize v2.alloc (.cells #[.int .i64 0, .int .i64 0] 23) = V at *
    generalize hBH : v2.heap.size = Bh at *
    have HP := Lib.hid (fun (w' : World) (hw : Below Bh V w') => hp2.belowN hw hBl)
    have HBH := Lib.hid (show w.heap.size ≤ Bh by have := hbA_; omega)
    clear hp2 hBH hBB
    go_loopw [16] (fun i wr => ∃ (k : Nat) (X Y : Int), i = .int .i64 (k : Int) ∧ k ≤ 4 ∧ (0 ≤ X ∧ X ≤ 32767) ∧ (0 ≤ Y ∧ Y ≤ 32767) ∧ (0 < k → ax ≤ X ∧ ay ≤ Y) ∧ (1 < k → bx ≤ X ∧ bz ≤ Y) ∧ (2 < k → cx ≤ X ∧ cy ≤ Y) ∧ (3 < k → dx ≤ X ∧ dy ≤ Y) ∧ Two wr Bh 23 (.int .i64 X) (.int .i64 Y) ∧ Below Bh V wr) (fun i _ => 4 - (intOf i).toNat)
    case atStart => exact ⟨0, 0, 0, rfl, by omega, by omega, by omega, by omega, by omega, by omega, by omega, tH, Below.refl _ _⟩
    case round =>
      obtain ⟨k, X, Y, rfl, hk, hX, hY, m1, m2, m3, m4, tH, hbel⟩ := hrel
      obtain ⟨b1, b2, b3, b4⟩ := And.intro hon1 (And.intro hon2 (And.intro hon3 hon4))
      have hkc : k = 0 ∨ k = 1 ∨ k = 2 ∨ k = 3 ∨ k = 4 := by omega
      rcases hkc with rfl | rfl | rfl | rfl | rfl
      · obtain ⟨c1, c2⟩ := (HP.out wr hbel).2 0 (by simp)
        change wr.cell? ⟨Bl, 0, none⟩ = some (.int .i64 ax) at c1
        change wr.cell? ⟨Bl, 1, none⟩ = some (.int .i64 ay) at c2
        obtain ⟨d1, d2, d3, d4⟩ := tH.facts
        have ltH := tH.lt
        have ltB := (HP.out wr hbel).1
        have hS : ∀ w' : World, Below wr.heap.size wr w' → (((w'.cell? ⟨Bl, 0, none⟩ = some (.int .i64 ax) ∧ w'.cell? ⟨Bl, 1, none⟩ = some (.int .i64 ay)) ∧ w'.cell? ⟨Bh, 0, none⟩ = some (.int .i64 X) ∧ w'.cell? ⟨Bh, 1, none⟩ = some (.int .i64 Y)) ∧ w'.frozen? ⟨Bh, 0, none⟩ = false ∧ w'.frozen? ⟨Bh, 1, none⟩ = false) := fun w' hb => ⟨⟨⟨(hb.cell (p := ⟨Bl, 0, none⟩) ltB).trans c1, (hb.cell (p := ⟨Bl, 1, none⟩) ltB).trans c2⟩, (tH.below hb ltH).facts.1, (tH.below hb ltH).facts.2.1⟩, (tH.below hb ltH).facts.2.2⟩
        have hr := Below.refl wr.heap.size wr
        have hS0 := hS _ hr.drew
        clear c1 c2 d1 d2 d3 d4
        go_upto_region 7 with fail
        refine Rl.start_of 17 (fun w' => (((w'.cell? ⟨Bl, 0, none⟩ = some (.int .i64 ax) ∧ w'.cell? ⟨Bl, 1, none⟩ = some (.int .i64 ay)) ∧ w'.cell? ⟨Bh, 0, none⟩ = some (.int .i64 X) ∧ w'.cell? ⟨Bh, 1, none⟩ = some (.int .i64 Y)) ∧ w'.frozen? ⟨Bh, 0, none⟩ = false ∧ w'.frozen? ⟨Bh, 1, none⟩ = false)) (by kernel_rfl) ?_
        refine Rl.take_of (i := 0) (v := .pointer (some ⟨Bh, 0, none⟩)) rfl (by decide) (by kernel_rfl) (by kernel_rfl) (by kernel_rfl) (by kernel_rfl) (by kernel_rfl) (fun _ _ _ h => h) (Or.inl ⟨by rfl, ?_⟩) hS0 ?_
        · intro w' hSw; (try dsimp only at hSw); go_simp
        simp only [Act.put, List.setIfInBounds_toArray, List.set_cons_zero, List.set_cons_succ]
        refine Rl.take_of (i := 1) (v := .int .i64 X) rfl (by decide) (by kernel_rfl) (by kernel_rfl) (by kernel_rfl) (by kernel_rfl) (by kernel_rfl) (fun _ _ _ h => h) (Or.inl ⟨by rfl, ?_⟩) hS0 ?_
        · intro w' hSw; (try dsimp only at hSw); go_simp
        simp only [Act.put, List.setIfInBounds_toArray, List.set_cons_zero, List.set_cons_succ]
        refine Rl.take_of (i := 2) (v := .slice (some ⟨Bl, 0, none⟩) 4 4) rfl (by decide) (by kernel_rfl) (by kernel_rfl) (by kernel_rfl) (by kernel_rfl) (by kernel_rfl) (fun _ _ _ h => h) (Or.inl ⟨by rfl, ?_⟩) hS0 ?_
        · intro w' hSw; (try dsimp only at hSw); go_simp
        simp only [Act.put, List.setIfInBounds_toArray, List.set_cons_zero, List.set_cons_succ]
        refine Rl.take_of (i := 3) (v := .int .i64 0) rfl (by decide) (by kernel_rfl) (by kernel_rfl) (by kernel_rfl) (by kernel_rfl) (by kernel_rfl) (fun _ _ _ h => h) (Or.inl ⟨by rfl, ?_⟩) hS0 ?_
        · intro w' hSw; (try dsimp only at hSw); go_simp
        simp only [Act.put, List.setIfInBounds_toArray, List.set_cons_zero, List.set_cons_succ]
        refine Rl.take_of (i := 4) (v := .pointer (some ⟨Bl, 0, none⟩)) rfl (by decide) (by kernel_rfl) (by kernel_rfl) (by kernel_rfl) (by kernel_rfl) (by kernel_rfl) (fun _ _ _ h => h) (Or.inl ⟨by rfl, ?_⟩) hS0 ?_
        · intro w' hSw; (try dsimp only at hSw); go_simp
        simp only [Act.put, List.setIfInBounds_toArray, List.set_cons_zero, List.set_cons_succ]
        refine Rl.take_of (i := 5) (v := .pointer (some ⟨Bl, 0, none⟩)) rfl (by decide) (by kernel_rfl) (by kernel_rfl) (by kernel_rfl) (by kernel_rfl) (by kernel_rfl) (fun _ _ _ h => h) (Or.inl ⟨by rfl, ?_⟩) hS0 ?_
        · intro w' hSw; (try dsimp only at hSw); go_simp
        simp only [Act.put, List.setIfInBounds_toArray, List.set_cons_zero, List.set_cons_succ]
        refine Rl.take_of (i := 6) (v := .int .i64 ax) rfl (by decide) (by kernel_rfl) (by kernel_rfl) (by kernel_rfl) (by kernel_rfl) (by kernel_rfl) (fun _ _ _ h => h) (Or.inl ⟨by rfl, ?_⟩) hS0 ?_
        · intro w' hSw; (try dsimp only at hSw); go_simp
        simp only [Act.put, List.setIfInBounds_toArray, List.set_cons_zero, List.set_cons_succ]
        refine Rl.take_of (i := 7) (v := .int .i64 (max X ax)) rfl (by decide) (by kernel_rfl) (by kernel_rfl) (by kernel_rfl) (by kernel_rfl) (by kernel_rfl) (fun _ _ _ h => h) (Or.inl ⟨by rfl, ?_⟩) hS0 ?_
        · intro w' hSw; (try dsimp only at hSw); go_simp
        simp only [Act.put, List.setIfInBounds_toArray, List.set_cons_zero, List.set_cons_succ]
        refine Rl.take_of (i := 8) (v := .pointer (some ⟨Bh, 1, none⟩)) rfl (by decide) (by kernel_rfl) (by kernel_rfl) (by kernel_rfl) (by kernel_rfl) (by kernel_rfl) (fun _ _ _ h => h) (Or.inl ⟨by rfl, ?_⟩) hS0 ?_
        · intro w' hSw; (try dsimp only at hSw); go_simp
        simp only [Act.put, List.setIfInBounds_toArray, List.set_cons_zero, List.set_cons_succ]
        refine Rl.take_of (i := 9) (v := .int .i64 Y) rfl (by decide) (by kernel_rfl) (by kernel_rfl) (by kernel_rfl) (by kernel_rfl) (by kernel_rfl) (fun _ _ _ h => h) (Or.inl ⟨by rfl, ?_⟩) hS0 ?_
        · intro w' hSw; (try dsimp only at hSw); go_simp
        simp only [Act.put, List.setIfInBounds_toArray, List.set_cons_zero, List.set_cons_succ]
        refine Rl.take_of (i := 10) (v := .slice (some ⟨Bl, 0, none⟩) 4 4) rfl (by decide) (by kernel_rfl) (by kernel_rfl) (by kernel_rfl) (by kernel_rfl) (by kernel_rfl) (fun _ _ _ h => h) (Or.inl ⟨by rfl, ?_⟩) hS0 ?_
        · intro w' hSw; (try dsimp only at hSw); go_simp
        simp only [Act.put, List.setIfInBounds_toArray, List.set_cons_zero, List.set_cons_succ]
        refine Rl.take_of (i := 11) (v := .int .i64 0) rfl (by decide) (by kernel_rfl) (by kernel_rfl) (by kernel_rfl) (by kernel_rfl) (by kernel_rfl) (fun _ _ _ h => h) (Or.inl ⟨by rfl, ?_⟩) hS0 ?_
        · intro w' hSw; (try dsimp only at hSw); go_simp
        simp only [Act.put, List.setIfInBounds_toArray, List.set_cons_zero, List.set_cons_succ]
        refine Rl.take_of (i := 12) (v := .pointer (some ⟨Bl, 0, none⟩)) rfl (by decide) (by kernel_rfl) (by kernel_rfl) (by kernel_rfl) (by kernel_rfl) (by kernel_rfl) (fun _ _ _ h => h) (Or.inl ⟨by rfl, ?_⟩) hS0 ?_
        · intro w' hSw; (try dsimp only at hSw); go_simp
        simp only [Act.put, List.setIfInBounds_toArray, List.set_cons_zero, List.set_cons_succ]
        refine Rl.take_of (i := 13) (v := .pointer (some ⟨Bl, 1, none⟩)) rfl (by decide) (by kernel_rfl) (by kernel_rfl) (by kernel_rfl) (by kernel_rfl) (by kernel_rfl) (fun _ _ _ h => h) (Or.inl ⟨by rfl, ?_⟩) hS0 ?_
        · intro w' hSw; (try dsimp only at hSw); go_simp
        simp only [Act.put, List.setIfInBounds_toArray, List.set_cons_zero, List.set_cons_succ]
        refine Rl.take_of (i := 14) (v := .int .i64 ay) rfl (by decide) (by kernel_rfl) (by kernel_rfl) (by kernel_rfl) (by kernel_rfl) (by kernel_rfl) (fun _ _ _ h => h) (Or.inl ⟨by rfl, ?_⟩) hS0 ?_
        · intro w' hSw; (try dsimp only at hSw); go_simp
        simp only [Act.put, List.setIfInBounds_toArray, List.set_cons_zero, List.set_cons_succ]
        refine Rl.take_of (i := 15) (v := .int .i64 (max Y ay)) rfl (by decide) (by kernel_rfl) (by kernel_rfl) (by kernel_rfl) (by kernel_rfl) (by kernel_rfl) (fun _ _ _ h => h) (Or.inl ⟨by rfl, ?_⟩) hS0 ?_
        · intro w' hSw; (try dsimp only at hSw); go_simp
        simp only [Act.put, List.setIfInBounds_toArray, List.set_cons_zero, List.set_cons_succ]
        refine Rl.one_of (i := 16) rfl (by kernel_rfl) (fun K hK => ?_)
        rw [if_pos (by rfl)]
        go_simp
        go_at_call 14
        refine (at_any _ _ _).mono ?_
        rintro r y1 ⟨rfl, hy1'⟩
        have hy1 : Below wr.heap.size wr y1 := hr.drew.trans hy1'
        refine hK.out _ _ (fun _ => hS _ hy1) ?_
        clear hK K
        try simp only [Act.put, List.setIfInBounds_toArray, List.set_cons_zero, List.set_cons_succ]
        obtain ⟨⟨-, o1, o2⟩, o3, o4⟩ := hS _ hy1
        refine Rl.one_of (i := 17) rfl (by kernel_rfl) (fun K hK => ?_)
        rw [if_pos (by rfl)]
        go_simp
        refine hK.out _ _ (fun h => Bool.noConfusion (show true = false from h)) ?_
        clear hK K
        try simp only [Act.put, List.setIfInBounds_toArray, List.set_cons_zero, List.set_cons_succ]
        refine Rl.done_of (by kernel_rfl) ?_ _
        have tN := two_set2 (tH.below hy1 ltH) (.int .i64 (max X ax)) (.int .i64 (max Y ay))
        have hbN := set2_below (hbel.trans (hy1.mono (Nat.le_of_lt ltH))) (Nat.le_refl Bh) (.int .i64 (max X ax)) (.int .i64 (max Y ay))
        clear hS hr hS0 o1 o2 o3 o4 tH
        obtain ⟨⟨b11, b12⟩, b13, b14⟩ := b1
        go_wp2_with fail
        go_roundw
        case rel => exact ⟨1, _, _, by go_num, by omega, by omega, by omega, by omega, by omega, by omega, by omega, tN, hbN⟩
        case measure => simp [intOf]
      · obtain ⟨c1, c2⟩ := (HP.out wr hbel).2 1 (by simp)
        change wr.cell? ⟨Bl, 2, none⟩ = some (.int .i64 bx) at c1
        change wr.cell? ⟨Bl, 3, none⟩ = some (.int .i64 bz) at c2
        obtain ⟨d1, d2, d3, d4⟩ := tH.facts
        have ltH := tH.lt
        have ltB := (HP.out wr hbel).1
        have hS : ∀ w' : World, Below wr.heap.size wr w' → (((w'.cell? ⟨Bl, 2, none⟩ = some (.int .i64 bx) ∧ w'.cell? ⟨Bl, 3, none⟩ = some (.int .i64 bz)) ∧ w'.cell? ⟨Bh, 0, none⟩ = some (.int .i64 X) ∧ w'.cell? ⟨Bh, 1, none⟩ = some (.int .i64 Y)) ∧ w'.frozen? ⟨Bh, 0, none⟩ = false ∧ w'.frozen? ⟨Bh, 1, none⟩ = false) := fun w' hb => ⟨⟨⟨(hb.cell (p := ⟨Bl, 2, none⟩) ltB).trans c1, (hb.cell (p := ⟨Bl, 3, none⟩) ltB).trans c2⟩, (tH.below hb ltH).facts.1, (tH.below hb ltH).facts.2.1⟩, (tH.below hb ltH).facts.2.2⟩
        have hr := Below.refl wr.heap.size wr
        have hS0 := hS _ hr.drew
        clear c1 c2 d1 d2 d3 d4
        go_upto_region 7 with fail
        refine Rl.start_of 17 (fun w' => (((w'.cell? ⟨Bl, 2, none⟩ = some (.int .i64 bx) ∧ w'.cell? ⟨Bl, 3, none⟩ = some (.int .i64 bz)) ∧ w'.cell? ⟨Bh, 0, none⟩ = some (.int .i64 X) ∧ w'.cell? ⟨Bh, 1, none⟩ = some (.int .i64 Y)) ∧ w'.frozen? ⟨Bh, 0, none⟩ = false ∧ w'.frozen? ⟨Bh, 1, none⟩ = false)) (by kernel_rfl) ?_
        refine Rl.take_of (i := 0) (v := .pointer (some ⟨Bh, 0, none⟩)) rfl (by decide) (by kernel_rfl) (by kernel_rfl) (by kernel_rfl) (by kernel_rfl) (by kernel_rfl) (fun _ _ _ h => h) (Or.inl ⟨by rfl, ?_⟩) hS0 ?_
        · intro w' hSw; (try dsimp only at hSw); go_simp
        simp only [Act.put, List.setIfInBounds_toArray, List.set_cons_zero, List.set_cons_succ]
        refine Rl.take_of (i := 1) (v := .int .i64 X) rfl (by decide) (by kernel_rfl) (by kernel_rfl) (by kernel_rfl) (by kernel_rfl) (by kernel_rfl) (fun _ _ _ h => h) (Or.inl ⟨by rfl, ?_⟩) hS0 ?_
        · intro w' hSw; (try dsimp only at hSw); go_simp
        simp only [Act.put, List.setIfInBounds_toArray, List.set_cons_zero, List.set_cons_succ]
        refine Rl.take_of (i := 2) (v := .slice (some ⟨Bl, 0, none⟩) 4 4) rfl (by decide) (by kernel_rfl) (by kernel_rfl) (by kernel_rfl) (by kernel_rfl) (by kernel_rfl) (fun _ _ _ h => h) (Or.inl ⟨by rfl, ?_⟩) hS0 ?_
        · intro w' hSw; (try dsimp only at hSw); go_simp
        simp only [Act.put, List.setIfInBounds_toArray, List.set_cons_zero, List.set_cons_succ]
        refine Rl.take_of (i := 3) (v := .int .i64 1) rfl (by decide) (by kernel_rfl) (by kernel_rfl) (by kernel_rfl) (by kernel_rfl) (by kernel_rfl) (fun _ _ _ h => h) (Or.inl ⟨by rfl, ?_⟩) hS0 ?_
        · intro w' hSw; (try dsimp only at hSw); go_simp
        simp only [Act.put, List.setIfInBounds_toArray, List.set_cons_zero, List.set_cons_succ]
        refine Rl.take_of (i := 4) (v := .pointer (some ⟨Bl, 2, none⟩)) rfl (by decide) (by kernel_rfl) (by kernel_rfl) (by kernel_rfl) (by kernel_rfl) (by kernel_rfl) (fun _ _ _ h => h) (Or.inl ⟨by rfl, ?_⟩) hS0 ?_
        · intro w' hSw; (try dsimp only at hSw); go_simp
        simp only [Act.put, List.setIfInBounds_toArray, List.set_cons_zero, List.set_cons_succ]
        refine Rl.take_of (i := 5) (v := .pointer (some ⟨Bl, 2, none⟩)) rfl (by decide) (by kernel_rfl) (by kernel_rfl) (by kernel_rfl) (by kernel_rfl) (by kernel_rfl) (fun _ _ _ h => h) (Or.inl ⟨by rfl, ?_⟩) hS0 ?_
        · intro w' hSw; (try dsimp only at hSw); go_simp
        simp only [Act.put, List.setIfInBounds_toArray, List.set_cons_zero, List.set_cons_succ]
        refine Rl.take_of (i := 6) (v := .int .i64 bx) rfl (by decide) (by kernel_rfl) (by kernel_rfl) (by kernel_rfl) (by kernel_rfl) (by kernel_rfl) (fun _ _ _ h => h) (Or.inl ⟨by rfl, ?_⟩) hS0 ?_
        · intro w' hSw; (try dsimp only at hSw); go_simp
        simp only [Act.put, List.setIfInBounds_toArray, List.set_cons_zero, List.set_cons_succ]
        refine Rl.take_of (i := 7) (v := .int .i64 (max X bx)) rfl (by decide) (by kernel_rfl) (by kernel_rfl) (by kernel_rfl) (by kernel_rfl) (by kernel_rfl) (fun _ _ _ h => h) (Or.inl ⟨by rfl, ?_⟩) hS0 ?_
        · intro w' hSw; (try dsimp only at hSw); go_simp
        simp only [Act.put, List.setIfInBounds_toArray, List.set_cons_zero, List.set_cons_succ]
        refine Rl.take_of (i := 8) (v := .pointer (some ⟨Bh, 1, none⟩)) rfl (by decide) (by kernel_rfl) (by kernel_rfl) (by kernel_rfl) (by kernel_rfl) (by kernel_rfl) (fun _ _ _ h => h) (Or.inl ⟨by rfl, ?_⟩) hS0 ?_
        · intro w' hSw; (try dsimp only at hSw); go_simp
        simp only [Act.put, List.setIfInBounds_toArray, List.set_cons_zero, List.set_cons_succ]
        refine Rl.take_of (i := 9) (v := .int .i64 Y) rfl (by decide) (by kernel_rfl) (by kernel_rfl) (by kernel_rfl) (by kernel_rfl) (by kernel_rfl) (fun _ _ _ h => h) (Or.inl ⟨by rfl, ?_⟩) hS0 ?_
        · intro w' hSw; (try dsimp only at hSw); go_simp
        simp only [Act.put, List.setIfInBounds_toArray, List.set_cons_zero, List.set_cons_succ]
        refine Rl.take_of (i := 10) (v := .slice (some ⟨Bl, 0, none⟩) 4 4) rfl (by decide) (by kernel_rfl) (by kernel_rfl) (by kernel_rfl) (by kernel_rfl) (by kernel_rfl) (fun _ _ _ h => h) (Or.inl ⟨by rfl, ?_⟩) hS0 ?_
        · intro w' hSw; (try dsimp only at hSw); go_simp
        simp only [Act.put, List.setIfInBounds_toArray, List.set_cons_zero, List.set_cons_succ]
        refine Rl.take_of (i := 11) (v := .int .i64 1) rfl (by decide) (by kernel_rfl) (by kernel_rfl) (by kernel_rfl) (by kernel_rfl) (by kernel_rfl) (fun _ _ _ h => h) (Or.inl ⟨by rfl, ?_⟩) hS0 ?_
        · intro w' hSw; (try dsimp only at hSw); go_simp
        simp only [Act.put, List.setIfInBounds_toArray, List.set_cons_zero, List.set_cons_succ]
        refine Rl.take_of (i := 12) (v := .pointer (some ⟨Bl, 2, none⟩)) rfl (by decide) (by kernel_rfl) (by kernel_rfl) (by kernel_rfl) (by kernel_rfl) (by kernel_rfl) (fun _ _ _ h => h) (Or.inl ⟨by rfl, ?_⟩) hS0 ?_
        · intro w' hSw; (try dsimp only at hSw); go_simp
        simp only [Act.put, List.setIfInBounds_toArray, List.set_cons_zero, List.set_cons_succ]
        refine Rl.take_of (i := 13) (v := .pointer (some ⟨Bl, 3, none⟩)) rfl (by decide) (by kernel_rfl) (by kernel_rfl) (by kernel_rfl) (by kernel_rfl) (by kernel_rfl) (fun _ _ _ h => h) (Or.inl ⟨by rfl, ?_⟩) hS0 ?_
        · intro w' hSw; (try dsimp only at hSw); go_simp
        simp only [Act.put, List.setIfInBounds_toArray, List.set_cons_zero, List.set_cons_succ]
        refine Rl.take_of (i := 14) (v := .int .i64 bz) rfl (by decide) (by kernel_rfl) (by kernel_rfl) (by kernel_rfl) (by kernel_rfl) (by kernel_rfl) (fun _ _ _ h => h) (Or.inl ⟨by rfl, ?_⟩) hS0 ?_
        · intro w' hSw; (try dsimp only at hSw); go_simp
        simp only [Act.put, List.setIfInBounds_toArray, List.set_cons_zero, List.set_cons_succ]
        refine Rl.take_of (i := 15) (v := .int .i64 (max Y bz)) rfl (by decide) (by kernel_rfl) (by kernel_rfl) (by kernel_rfl) (by kernel_rfl) (by kernel_rfl) (fun _ _ _ h => h) (Or.inl ⟨by rfl, ?_⟩) hS0 ?_
        · intro w' hSw; (try dsimp only at hSw); go_simp
        simp only [Act.put, List.setIfInBounds_toArray, List.set_cons_zero, List.set_cons_succ]
        refine Rl.one_of (i := 16) rfl (by kernel_rfl) (fun K hK => ?_)
        rw [if_pos (by rfl)]
        go_simp
        go_at_call 14
        refine (at_any _ _ _).mono ?_
        rintro r y1 ⟨rfl, hy1'⟩
        have hy1 : Below wr.heap.size wr y1 := hr.drew.trans hy1'
        refine hK.out _ _ (fun _ => hS _ hy1) ?_
        clear hK K
        try simp only [Act.put, List.setIfInBounds_toArray, List.set_cons_zero, List.set_cons_succ]
        obtain ⟨⟨-, o1, o2⟩, o3, o4⟩ := hS _ hy1
        refine Rl.one_of (i := 17) rfl (by kernel_rfl) (fun K hK => ?_)
        rw [if_pos (by rfl)]
        go_simp
        refine hK.out _ _ (fun h => Bool.noConfusion (show true = false from h)) ?_
        clear hK K
        try simp only [Act.put, List.setIfInBounds_toArray, List.set_cons_zero, List.set_cons_succ]
        refine Rl.done_of (by kernel_rfl) ?_ _
        have tN := two_set2 (tH.below hy1 ltH) (.int .i64 (max X bx)) (.int .i64 (max Y bz))
        have hbN := set2_below (hbel.trans (hy1.mono (Nat.le_of_lt ltH))) (Nat.le_refl Bh) (.int .i64 (max X bx)) (.int .i64 (max Y bz))
        clear hS hr hS0 o1 o2 o3 o4 tH
        obtain ⟨⟨b11, b12⟩, b13, b14⟩ := b2
        go_wp2_with fail
        go_roundw
        case rel => exact ⟨2, _, _, by go_num, by omega, by omega, by omega, by omega, by omega, by omega, by omega, tN, hbN⟩
        case measure => simp [intOf]
      · obtain ⟨c1, c2⟩ := (HP.out wr hbel).2 2 (by simp)
        change wr.cell? ⟨Bl, 4, none⟩ = some (.int .i64 cx) at c1
        change wr.cell? ⟨Bl, 5, none⟩ = some (.int .i64 cy) at c2
        obtain ⟨d1, d2, d3, d4⟩ := tH.facts
        have ltH := tH.lt
        have ltB := (HP.out wr hbel).1
        have hS : ∀ w' : World, Below wr.heap.size wr w' → (((w'.cell? ⟨Bl, 4, none⟩ = some (.int .i64 cx) ∧ w'.cell? ⟨Bl, 5, none⟩ = some (.int .i64 cy)) ∧ w'.cell? ⟨Bh, 0, none⟩ = some (.int .i64 X) ∧ w'.cell? ⟨Bh, 1, none⟩ = some (.int .i64 Y)) ∧ w'.frozen? ⟨Bh, 0, none⟩ = false ∧ w'.frozen? ⟨Bh, 1, none⟩ = false) := fun w' hb => ⟨⟨⟨(hb.cell (p := ⟨Bl, 4, none⟩) ltB).trans c1, (hb.cell (p := ⟨Bl, 5, none⟩) ltB).trans c2⟩, (tH.below hb ltH).facts.1, (tH.below hb ltH).facts.2.1⟩, (tH.below hb ltH).facts.2.2⟩
        have hr := Below.refl wr.heap.size wr
        have hS0 := hS _ hr.drew
        clear c1 c2 d1 d2 d3 d4
        go_upto_region 7 with fail
        refine Rl.start_of 17 (fun w' => (((w'.cell? ⟨Bl, 4, none⟩ = some (.int .i64 cx) ∧ w'.cell? ⟨Bl, 5, none⟩ = some (.int .i64 cy)) ∧ w'.cell? ⟨Bh, 0, none⟩ = some (.int .i64 X) ∧ w'.cell? ⟨Bh, 1, none⟩ = some (.int .i64 Y)) ∧ w'.frozen? ⟨Bh, 0, none⟩ = false ∧ w'.frozen? ⟨Bh, 1, none⟩ = false)) (by kernel_rfl) ?_
        refine Rl.take_of (i := 0) (v := .pointer (some ⟨Bh, 0, none⟩)) rfl (by decide) (by kernel_rfl) (by kernel_rfl) (by kernel_rfl) (by kernel_rfl) (by kernel_rfl) (fun _ _ _ h => h) (Or.inl ⟨by rfl, ?_⟩) hS0 ?_
        · intro w' hSw; (try dsimp only at hSw); go_simp
        simp only [Act.put, List.setIfInBounds_toArray, List.set_cons_zero, List.set_cons_succ]
        refine Rl.take_of (i := 1) (v := .int .i64 X) rfl (by decide) (by kernel_rfl) (by kernel_rfl) (by kernel_rfl) (by kernel_rfl) (by kernel_rfl) (fun _ _ _ h => h) (Or.inl ⟨by rfl, ?_⟩) hS0 ?_
        · intro w' hSw; (try dsimp only at hSw); go_simp
        simp only [Act.put, List.setIfInBounds_toArray, List.set_cons_zero, List.set_cons_succ]
        refine Rl.take_of (i := 2) (v := .slice (some ⟨Bl, 0, none⟩) 4 4) rfl (by decide) (by kernel_rfl) (by kernel_rfl) (by kernel_rfl) (by kernel_rfl) (by kernel_rfl) (fun _ _ _ h => h) (Or.inl ⟨by rfl, ?_⟩) hS0 ?_
        · intro w' hSw; (try dsimp only at hSw); go_simp
        simp only [Act.put, List.setIfInBounds_toArray, List.set_cons_zero, List.set_cons_succ]
        refine Rl.take_of (i := 3) (v := .int .i64 2) rfl (by decide) (by kernel_rfl) (by kernel_rfl) (by kernel_rfl) (by kernel_rfl) (by kernel_rfl) (fun _ _ _ h => h) (Or.inl ⟨by rfl, ?_⟩) hS0 ?_
        · intro w' hSw; (try dsimp only at hSw); go_simp
        simp only [Act.put, List.setIfInBounds_toArray, List.set_cons_zero, List.set_cons_succ]
        refine Rl.take_of (i := 4) (v := .pointer (some ⟨Bl, 4, none⟩)) rfl (by decide) (by kernel_rfl) (by kernel_rfl) (by kernel_rfl) (by kernel_rfl) (by kernel_rfl) (fun _ _ _ h => h) (Or.inl ⟨by rfl, ?_⟩) hS0 ?_
        · intro w' hSw; (try dsimp only at hSw); go_simp
        simp only [Act.put, List.setIfInBounds_toArray, List.set_cons_zero, List.set_cons_succ]
        refine Rl.take_of (i := 5) (v := .pointer (some ⟨Bl, 4, none⟩)) rfl (by decide) (by kernel_rfl) (by kernel_rfl) (by kernel_rfl) (by kernel_rfl) (by kernel_rfl) (fun _ _ _ h => h) (Or.inl ⟨by rfl, ?_⟩) hS0 ?_
        · intro w' hSw; (try dsimp only at hSw); go_simp
        simp only [Act.put, List.setIfInBounds_toArray, List.set_cons_zero, List.set_cons_succ]
        refine Rl.take_of (i := 6) (v := .int .i64 cx) rfl (by decide) (by kernel_rfl) (by kernel_rfl) (by kernel_rfl) (by kernel_rfl) (by kernel_rfl) (fun _ _ _ h => h) (Or.inl ⟨by rfl, ?_⟩) hS0 ?_
        · intro w' hSw; (try dsimp only at hSw); go_simp
        simp only [Act.put, List.setIfInBounds_toArray, List.set_cons_zero, List.set_cons_succ]
        refine Rl.take_of (i := 7) (v := .int .i64 (max X cx)) rfl (by decide) (by kernel_rfl) (by kernel_rfl) (by kernel_rfl) (by kernel_rfl) (by kernel_rfl) (fun _ _ _ h => h) (Or.inl ⟨by rfl, ?_⟩) hS0 ?_
        · intro w' hSw; (try dsimp only at hSw); go_simp
        simp only [Act.put, List.setIfInBounds_toArray, List.set_cons_zero, List.set_cons_succ]
        refine Rl.take_of (i := 8) (v := .pointer (some ⟨Bh, 1, none⟩)) rfl (by decide) (by kernel_rfl) (by kernel_rfl) (by kernel_rfl) (by kernel_rfl) (by kernel_rfl) (fun _ _ _ h => h) (Or.inl ⟨by rfl, ?_⟩) hS0 ?_
        · intro w' hSw; (try dsimp only at hSw); go_simp
        simp only [Act.put, List.setIfInBounds_toArray, List.set_cons_zero, List.set_cons_succ]
        refine Rl.take_of (i := 9) (v := .int .i64 Y) rfl (by decide) (by kernel_rfl) (by kernel_rfl) (by kernel_rfl) (by kernel_rfl) (by kernel_rfl) (fun _ _ _ h => h) (Or.inl ⟨by rfl, ?_⟩) hS0 ?_
        · intro w' hSw; (try dsimp only at hSw); go_simp
        simp only [Act.put, List.setIfInBounds_toArray, List.set_cons_zero, List.set_cons_succ]
        refine Rl.take_of (i := 10) (v := .slice (some ⟨Bl, 0, none⟩) 4 4) rfl (by decide) (by kernel_rfl) (by kernel_rfl) (by kernel_rfl) (by kernel_rfl) (by kernel_rfl) (fun _ _ _ h => h) (Or.inl ⟨by rfl, ?_⟩) hS0 ?_
        · intro w' hSw; (try dsimp only at hSw); go_simp
        simp only [Act.put, List.setIfInBounds_toArray, List.set_cons_zero, List.set_cons_succ]
        refine Rl.take_of (i := 11) (v := .int .i64 2) rfl (by decide) (by kernel_rfl) (by kernel_rfl) (by kernel_rfl) (by kernel_rfl) (by kernel_rfl) (fun _ _ _ h => h) (Or.inl ⟨by rfl, ?_⟩) hS0 ?_
        · intro w' hSw; (try dsimp only at hSw); go_simp
        simp only [Act.put, List.setIfInBounds_toArray, List.set_cons_zero, List.set_cons_succ]
        refine Rl.take_of (i := 12) (v := .pointer (some ⟨Bl, 4, none⟩)) rfl (by decide) (by kernel_rfl) (by kernel_rfl) (by kernel_rfl) (by kernel_rfl) (by kernel_rfl) (fun _ _ _ h => h) (Or.inl ⟨by rfl, ?_⟩) hS0 ?_
        · intro w' hSw; (try dsimp only at hSw); go_simp
        simp only [Act.put, List.setIfInBounds_toArray, List.set_cons_zero, List.set_cons_succ]
        refine Rl.take_of (i := 13) (v := .pointer (some ⟨Bl, 5, none⟩)) rfl (by decide) (by kernel_rfl) (by kernel_rfl) (by kernel_rfl) (by kernel_rfl) (by kernel_rfl) (fun _ _ _ h => h) (Or.inl ⟨by rfl, ?_⟩) hS0 ?_
        · intro w' hSw; (try dsimp only at hSw); go_simp
        simp only [Act.put, List.setIfInBounds_toArray, List.set_cons_zero, List.set_cons_succ]
        refine Rl.take_of (i := 14) (v := .int .i64 cy) rfl (by decide) (by kernel_rfl) (by kernel_rfl) (by kernel_rfl) (by kernel_rfl) (by kernel_rfl) (fun _ _ _ h => h) (Or.inl ⟨by rfl, ?_⟩) hS0 ?_
        · intro w' hSw; (try dsimp only at hSw); go_simp
        simp only [Act.put, List.setIfInBounds_toArray, List.set_cons_zero, List.set_cons_succ]
        refine Rl.take_of (i := 15) (v := .int .i64 (max Y cy)) rfl (by decide) (by kernel_rfl) (by kernel_rfl) (by kernel_rfl) (by kernel_rfl) (by kernel_rfl) (fun _ _ _ h => h) (Or.inl ⟨by rfl, ?_⟩) hS0 ?_
        · intro w' hSw; (try dsimp only at hSw); go_simp
        simp only [Act.put, List.setIfInBounds_toArray, List.set_cons_zero, List.set_cons_succ]
        refine Rl.one_of (i := 16) rfl (by kernel_rfl) (fun K hK => ?_)
        rw [if_pos (by rfl)]
        go_simp
        go_at_call 14
        refine (at_any _ _ _).mono ?_
        rintro r y1 ⟨rfl, hy1'⟩
        have hy1 : Below wr.heap.size wr y1 := hr.drew.trans hy1'
        refine hK.out _ _ (fun _ => hS _ hy1) ?_
        clear hK K
        try simp only [Act.put, List.setIfInBounds_toArray, List.set_cons_zero, List.set_cons_succ]
        obtain ⟨⟨-, o1, o2⟩, o3, o4⟩ := hS _ hy1
        refine Rl.one_of (i := 17) rfl (by kernel_rfl) (fun K hK => ?_)
        rw [if_pos (by rfl)]
        go_simp
        refine hK.out _ _ (fun h => Bool.noConfusion (show true = false from h)) ?_
        clear hK K
        try simp only [Act.put, List.setIfInBounds_toArray, List.set_cons_zero, List.set_cons_succ]
        refine Rl.done_of (by kernel_rfl) ?_ _
        have tN := two_set2 (tH.below hy1 ltH) (.int .i64 (max X cx)) (.int .i64 (max Y cy))
        have hbN := set2_below (hbel.trans (hy1.mono (Nat.le_of_lt ltH))) (Nat.le_refl Bh) (.int .i64 (max X cx)) (.int .i64 (max Y cy))
        clear hS hr hS0 o1 o2 o3 o4 tH
        obtain ⟨⟨b11, b12⟩, b13, b14⟩ := b3
        go_wp2_with fail
        go_roundw
        case rel => exact ⟨3, _, _, by go_num, by omega, by omega, by omega, by omega, by omega, by omega, by omega, tN, hbN⟩
        case measure => simp [intOf]
      · obtain ⟨c1, c2⟩ := (HP.out wr hbel).2 3 (by simp)
        change wr.cell? ⟨Bl, 6, none⟩ = some (.int .i64 dx) at c1
        change wr.cell? ⟨Bl, 7, none⟩ = some (.int .i64 dy) at c2
        obtain ⟨d1, d2, d3, d4⟩ := tH.facts
        have ltH := tH.lt
        have ltB := (HP.out wr hbel).1
        have hS : ∀ w' : World, Below wr.heap.size wr w' → (((w'.cell? ⟨Bl, 6, none⟩ = some (.int .i64 dx) ∧ w'.cell? ⟨Bl, 7, none⟩ = some (.int .i64 dy)) ∧ w'.cell? ⟨Bh, 0, none⟩ = some (.int .i64 X) ∧ w'.cell? ⟨Bh, 1, none⟩ = some (.int .i64 Y)) ∧ w'.frozen? ⟨Bh, 0, none⟩ = false ∧ w'.frozen? ⟨Bh, 1, none⟩ = false) := fun w' hb => ⟨⟨⟨(hb.cell (p := ⟨Bl, 6, none⟩) ltB).trans c1, (hb.cell (p := ⟨Bl, 7, none⟩) ltB).trans c2⟩, (tH.below hb ltH).facts.1, (tH.below hb ltH).facts.2.1⟩, (tH.below hb ltH).facts.2.2⟩
        have hr := Below.refl wr.heap.size wr
        have hS0 := hS _ hr.drew
        clear c1 c2 d1 d2 d3 d4
        go_upto_region 7 with fail
        refine Rl.start_of 17 (fun w' => (((w'.cell? ⟨Bl, 6, none⟩ = some (.int .i64 dx) ∧ w'.cell? ⟨Bl, 7, none⟩ = some (.int .i64 dy)) ∧ w'.cell? ⟨Bh, 0, none⟩ = some (.int .i64 X) ∧ w'.cell? ⟨Bh, 1, none⟩ = some (.int .i64 Y)) ∧ w'.frozen? ⟨Bh, 0, none⟩ = false ∧ w'.frozen? ⟨Bh, 1, none⟩ = false)) (by kernel_rfl) ?_
        refine Rl.take_of (i := 0) (v := .pointer (some ⟨Bh, 0, none⟩)) rfl (by decide) (by kernel_rfl) (by kernel_rfl) (by kernel_rfl) (by kernel_rfl) (by kernel_rfl) (fun _ _ _ h => h) (Or.inl ⟨by rfl, ?_⟩) hS0 ?_
        · intro w' hSw; (try dsimp only at hSw); go_simp
        simp only [Act.put, List.setIfInBounds_toArray, List.set_cons_zero, List.set_cons_succ]
        refine Rl.take_of (i := 1) (v := .int .i64 X) rfl (by decide) (by kernel_rfl) (by kernel_rfl) (by kernel_rfl) (by kernel_rfl) (by kernel_rfl) (fun _ _ _ h => h) (Or.inl ⟨by rfl, ?_⟩) hS0 ?_
        · intro w' hSw; (try dsimp only at hSw); go_simp
        simp only [Act.put, List.setIfInBounds_toArray, List.set_cons_zero, List.set_cons_succ]
        refine Rl.take_of (i := 2) (v := .slice (some ⟨Bl, 0, none⟩) 4 4) rfl (by decide) (by kernel_rfl) (by kernel_rfl) (by kernel_rfl) (by kernel_rfl) (by kernel_rfl) (fun _ _ _ h => h) (Or.inl ⟨by rfl, ?_⟩) hS0 ?_
        · intro w' hSw; (try dsimp only at hSw); go_simp
        simp only [Act.put, List.setIfInBounds_toArray, List.set_cons_zero, List.set_cons_succ]
        refine Rl.take_of (i := 3) (v := .int .i64 3) rfl (by decide) (by kernel_rfl) (by kernel_rfl) (by kernel_rfl) (by kernel_rfl) (by kernel_rfl) (fun _ _ _ h => h) (Or.inl ⟨by rfl, ?_⟩) hS0 ?_
        · intro w' hSw; (try dsimp only at hSw); go_simp
        simp only [Act.put, List.setIfInBounds_toArray, List.set_cons_zero, List.set_cons_succ]
        refine Rl.take_of (i := 4) (v := .pointer (some ⟨Bl, 6, none⟩)) rfl (by decide) (by kernel_rfl) (by kernel_rfl) (by kernel_rfl) (by kernel_rfl) (by kernel_rfl) (fun _ _ _ h => h) (Or.inl ⟨by rfl, ?_⟩) hS0 ?_
        · intro w' hSw; (try dsimp only at hSw); go_simp
        simp only [Act.put, List.setIfInBounds_toArray, List.set_cons_zero, List.set_cons_succ]
        refine Rl.take_of (i := 5) (v := .pointer (some ⟨Bl, 6, none⟩)) rfl (by decide) (by kernel_rfl) (by kernel_rfl) (by kernel_rfl) (by kernel_rfl) (by kernel_rfl) (fun _ _ _ h => h) (Or.inl ⟨by rfl, ?_⟩) hS0 ?_
        · intro w' hSw; (try dsimp only at hSw); go_simp
        simp only [Act.put, List.setIfInBounds_toArray, List.set_cons_zero, List.set_cons_succ]
        refine Rl.take_of (i := 6) (v := .int .i64 dx) rfl (by decide) (by kernel_rfl) (by kernel_rfl) (by kernel_rfl) (by kernel_rfl) (by kernel_rfl) (fun _ _ _ h => h) (Or.inl ⟨by rfl, ?_⟩) hS0 ?_
        · intro w' hSw; (try dsimp only at hSw); go_simp
        simp only [Act.put, List.setIfInBounds_toArray, List.set_cons_zero, List.set_cons_succ]
        refine Rl.take_of (i := 7) (v := .int .i64 (max X dx)) rfl (by decide) (by kernel_rfl) (by kernel_rfl) (by kernel_rfl) (by kernel_rfl) (by kernel_rfl) (fun _ _ _ h => h) (Or.inl ⟨by rfl, ?_⟩) hS0 ?_
        · intro w' hSw; (try dsimp only at hSw); go_simp
        simp only [Act.put, List.setIfInBounds_toArray, List.set_cons_zero, List.set_cons_succ]
        refine Rl.take_of (i := 8) (v := .pointer (some ⟨Bh, 1, none⟩)) rfl (by decide) (by kernel_rfl) (by kernel_rfl) (by kernel_rfl) (by kernel_rfl) (by kernel_rfl) (fun _ _ _ h => h) (Or.inl ⟨by rfl, ?_⟩) hS0 ?_
        · intro w' hSw; (try dsimp only at hSw); go_simp
        simp only [Act.put, List.setIfInBounds_toArray, List.set_cons_zero, List.set_cons_succ]
        refine Rl.take_of (i := 9) (v := .int .i64 Y) rfl (by decide) (by kernel_rfl) (by kernel_rfl) (by kernel_rfl) (by kernel_rfl) (by kernel_rfl) (fun _ _ _ h => h) (Or.inl ⟨by rfl, ?_⟩) hS0 ?_
        · intro w' hSw; (try dsimp only at hSw); go_simp
        simp only [Act.put, List.setIfInBounds_toArray, List.set_cons_zero, List.set_cons_succ]
        refine Rl.take_of (i := 10) (v := .slice (some ⟨Bl, 0, none⟩) 4 4) rfl (by decide) (by kernel_rfl) (by kernel_rfl) (by kernel_rfl) (by kernel_rfl) (by kernel_rfl) (fun _ _ _ h => h) (Or.inl ⟨by rfl, ?_⟩) hS0 ?_
        · intro w' hSw; (try dsimp only at hSw); go_simp
        simp only [Act.put, List.setIfInBounds_toArray, List.set_cons_zero, List.set_cons_succ]
        refine Rl.take_of (i := 11) (v := .int .i64 3) rfl (by decide) (by kernel_rfl) (by kernel_rfl) (by kernel_rfl) (by kernel_rfl) (by kernel_rfl) (fun _ _ _ h => h) (Or.inl ⟨by rfl, ?_⟩) hS0 ?_
        · intro w' hSw; (try dsimp only at hSw); go_simp
        simp only [Act.put, List.setIfInBounds_toArray, List.set_cons_zero, List.set_cons_succ]
        refine Rl.take_of (i := 12) (v := .pointer (some ⟨Bl, 6, none⟩)) rfl (by decide) (by kernel_rfl) (by kernel_rfl) (by kernel_rfl) (by kernel_rfl) (by kernel_rfl) (fun _ _ _ h => h) (Or.inl ⟨by rfl, ?_⟩) hS0 ?_
        · intro w' hSw; (try dsimp only at hSw); go_simp
        simp only [Act.put, List.setIfInBounds_toArray, List.set_cons_zero, List.set_cons_succ]
        refine Rl.take_of (i := 13) (v := .pointer (some ⟨Bl, 7, none⟩)) rfl (by decide) (by kernel_rfl) (by kernel_rfl) (by kernel_rfl) (by kernel_rfl) (by kernel_rfl) (fun _ _ _ h => h) (Or.inl ⟨by rfl, ?_⟩) hS0 ?_
        · intro w' hSw; (try dsimp only at hSw); go_simp
        simp only [Act.put, List.setIfInBounds_toArray, List.set_cons_zero, List.set_cons_succ]
        refine Rl.take_of (i := 14) (v := .int .i64 dy) rfl (by decide) (by kernel_rfl) (by kernel_rfl) (by kernel_rfl) (by kernel_rfl) (by kernel_rfl) (fun _ _ _ h => h) (Or.inl ⟨by rfl, ?_⟩) hS0 ?_
        · intro w' hSw; (try dsimp only at hSw); go_simp
        simp only [Act.put, List.setIfInBounds_toArray, List.set_cons_zero, List.set_cons_succ]
        refine Rl.take_of (i := 15) (v := .int .i64 (max Y dy)) rfl (by decide) (by kernel_rfl) (by kernel_rfl) (by kernel_rfl) (by kernel_rfl) (by kernel_rfl) (fun _ _ _ h => h) (Or.inl ⟨by rfl, ?_⟩) hS0 ?_
        · intro w' hSw; (try dsimp only at hSw); go_simp
        simp only [Act.put, List.setIfInBounds_toArray, List.set_cons_zero, List.set_cons_succ]
        refine Rl.one_of (i := 16) rfl (by kernel_rfl) (fun K hK => ?_)
        rw [if_pos (by rfl)]
        go_simp
        go_at_call 14
        refine (at_any _ _ _).mono ?_
        rintro r y1 ⟨rfl, hy1'⟩
        have hy1 : Below wr.heap.size wr y1 := hr.drew.trans hy1'
        refine hK.out _ _ (fun _ => hS _ hy1) ?_
        clear hK K
        try simp only [Act.put, List.setIfInBounds_toArray, List.set_cons_zero, List.set_cons_succ]
        obtain ⟨⟨-, o1, o2⟩, o3, o4⟩ := hS _ hy1
        refine Rl.one_of (i := 17) rfl (by kernel_rfl) (fun K hK => ?_)
        rw [if_pos (by rfl)]
        go_simp
        refine hK.out _ _ (fun h => Bool.noConfusion (show true = false from h)) ?_
        clear hK K
        try simp only [Act.put, List.setIfInBounds_toArray, List.set_cons_zero, List.set_cons_succ]
        refine Rl.done_of (by kernel_rfl) ?_ _
        have tN := two_set2 (tH.below hy1 ltH) (.int .i64 (max X dx)) (.int .i64 (max Y dy))
        have hbN := set2_below (hbel.trans (hy1.mono (Nat.le_of_lt ltH))) (Nat.le_refl Bh) (.int .i64 (max X dx)) (.int .i64 (max Y dy))
        clear hS hr hS0 o1 o2 o3 o4 tH
        obtain ⟨⟨b11, b12⟩, b13, b14⟩ := b4
        go_wp2_with fail
        go_roundw
        case rel => exact ⟨4, _, _, by go_num, by omega, by omega, by omega, by omega, by omega, by omega, by omega, tN, hbN⟩
        case measure => simp [intOf]
      · have hbw := hbV.trans (hbel.mono (by have := hbV.size; have := HBH.out; omega))
        obtain ⟨m1a, m1b⟩ := m1 (by omega)
        obtain ⟨m2a, m2b⟩ := m2 (by omega)
        obtain ⟨m3a, m3b⟩ := m3 (by omega)
        obtain ⟨m4a, m4b⟩ := m4 (by omega)
        clear m1 m2 m3 m4 hbV
        have hPw := HP.out wr hbel
        clear HP hbel
        obtain ⟨hX0, hX1⟩ := hX
        obtain ⟨hY0, hY1⟩ := hY
        obtain ⟨u, hu⟩ : ∃ u : Int, x.tmod (32767 - X + 1) = u := ⟨_, rfl⟩
        obtain ⟨v, hv⟩ : ∃ v : Int, y.tmod (32767 - Y + 1) = v := ⟨_, rfl⟩
        have hu0 : 0 ≤ u := by rw [← hu, Int.tmod_eq_emod_of_nonneg hxa]; exact Int.emod_nonneg _ (by omega)
        have hu1 : u ≤ 32767 - X := by have := Int.emod_lt_of_pos x (show 0 < 32767 - X + 1 by omega); rw [← Int.tmod_eq_emod_of_nonneg hxa, hu] at this; omega
        have hv0 : 0 ≤ v := by rw [← hv, Int.tmod_eq_emod_of_nonneg hya]; exact Int.emod_nonneg _ (by omega)
        have hv1 : v ≤ 32767 - Y := by have := Int.emod_lt_of_pos y (show 0 < 32767 - Y + 1 by omega); rw [← Int.tmod_eq_emod_of_nonneg hya, hv] at this; omega
        have wr_6004 : IntKind.i64.wrap (32767 - X) = 32767 - X := by rw [IntKind.wrap_i64]; omega
        have wr_5332 : IntKind.i64.wrap (32767 - X + 1) = 32767 - X + 1 := by rw [IntKind.wrap_i64]; omega
        have wr_7136 : IntKind.i64.wrap (32767 - Y) = 32767 - Y := by rw [IntKind.wrap_i64]; omega
        have wr_6954 : IntKind.i64.wrap (32767 - Y + 1) = 32767 - Y + 1 := by rw [IntKind.wrap_i64]; omega
        have wr_5132 : IntKind.i64.wrap (x) = x := by rw [IntKind.wrap_i64]; omega
        have wr_867 : IntKind.i64.wrap (y) = y := by rw [IntKind.wrap_i64]; omega
        have wr_5658 : IntKind.i64.wrap (u) = u := by rw [IntKind.wrap_i64]; omega
        have wr_6801 : IntKind.i64.wrap (v) = v := by rw [IntKind.wrap_i64]; omega
        have f1 : 32767 - X + 1 = 32768 - X := by omega
        have f2 : 32767 - Y + 1 = 32768 - Y := by omega
        clear f1 f2
        have e1 : (32767 - X + 1 == 0) = false := by simp only [beq_eq_false_iff_ne, ne_eq]; omega
        have e2 : ¬ 32767 - X + 1 = 0 := by omega
        have e3 : (32767 - Y + 1 == 0) = false := by simp only [beq_eq_false_iff_ne, ne_eq]; omega
        have e4 : ¬ 32767 - Y + 1 = 0 := by omega
        have hS : ∀ w' : World, Below wr.heap.size wr w' → (w'.cell? ⟨Bh, 0, none⟩ = some (.int .i64 X) ∧ w'.cell? ⟨Bh, 1, none⟩ = some (.int .i64 Y)) := fun w' hb => two_of tH hb
        have hr := Below.refl wr.heap.size wr
        go_upto_region 8 with fail
        go_region_held3 (fun w' => (w'.cell? ⟨Bh, 0, none⟩ = some (.int .i64 X) ∧ w'.cell? ⟨Bh, 1, none⟩ = some (.int .i64 Y)))
          (first | (with_reducible exact hS _ hr.drew) | (with_reducible refine hS _ ?_; with_reducible assumption))
          (first | fail)
        all_goals
          have hP2 : Pts wr.drew Bl _ := hPw
          have hb2 := hbw.drew
          clear hS hr hPw hbw tH e1 e2 e3 e4
          generalize wr.drew = U at *
          have HPU := Lib.hid (fun (w' : World) (hw : Below U.heap.size U w') => hP2.below hw)
          clear hP2
          go_upto_region 11 with fail
          have c4 : ((4 : Nat) : Int) = 4 := rfl
          try simp only [hu, hv, c4]
          clear c4
          obtain ⟨l, hl⟩ : ∃ l : List Pt, [(ax, ay), (bx, bz), (cx, cy), (dx, dy)] = l := ⟨_, rfl⟩
          have HLEN := Lib.hid (show l.length = 4 from by rw [← hl]; rfl)
          have HQ := Lib.hid (show ∀ k (h : k < l.length), (0 ≤ l[k].1 ∧ l[k].1 ≤ X) ∧ 0 ≤ l[k].2 ∧ l[k].2 ≤ Y from by subst hl; exact all4 (P := fun p : Pt => (0 ≤ p.1 ∧ p.1 ≤ X) ∧ 0 ≤ p.2 ∧ p.2 ≤ Y) ⟨⟨hon1.1.1, m1a⟩, hon1.2.1, m1b⟩ ⟨⟨hon2.1.1, m2a⟩, hon2.2.1, m2b⟩ ⟨⟨hon3.1.1, m3a⟩, hon3.2.1, m3b⟩ ⟨⟨hon4.1.1, m4a⟩, hon4.2.1, m4b⟩)
          rw [hl] at HPU
          have HLL := Lib.hid hl
          clear hl
          go_loopw [19, 20, 21] (fun s t i wr => ∃ k : Nat, i = .int .i64 (k : Int) ∧ k ≤ 4 ∧ OwnPt wr U.heap.size s ((l.map (mvP u v)).take k) ∧ OwnPt wr U.heap.size t ((l.map swP).take k) ∧ Sep s t ∧ Below U.heap.size U wr) (fun _ _ i _ => 4 - (intOf i).toNat)
          case atStart => exact ⟨0, rfl, by omega, OwnPt.nil _ _, OwnPt.nil _ _, (fun b h => by cases h), Below.refl _ _⟩
          case round =>
            obtain ⟨k, rfl, hk, hs, ht, hd, hbel⟩ := hrel
            by_cases hlt : k < 4
            · as_aux_lemma =>
              have hkl : k < l.length := by rw [HLEN.out]; exact hlt
              obtain ⟨⟨q1, q2⟩, q3, q4⟩ := HQ.out k hkl
              have HM := Lib.hid (take_mv u v l k hkl)
              have HT0 := Lib.hid (take_sw l k hkl)
              have HML := Lib.hid (show ((l.map (mvP u v)).take k).length ≤ 4 from by rw [List.length_take]; omega)
              have HTL := Lib.hid (show ((l.map swP).take k).length ≤ 4 from by rw [List.length_take]; omega)
              have hS : ∀ w' : World, Below U.heap.size U w' → (w'.cell? ⟨Bl, k * 2, none⟩ = some (.int .i64 l[k].1) ∧ w'.cell? ⟨Bl, k * 2 + 1, none⟩ = some (.int .i64 l[k].2)) := fun w' hb => (HPU.out w' hb).2 k hkl
              generalize (l.map (mvP u v)).take k = M at *
              generalize (l.map swP).take k = T at *
              obtain ⟨M1, hqM1⟩ : ∃ q, (l.map (mvP u v)).take (k + 1) = q := ⟨_, rfl⟩
              rw [hqM1] at HM
              have HQM1 := Lib.hid hqM1
              clear hqM1
              obtain ⟨T1, hqT1⟩ : ∃ q, (l.map swP).take (k + 1) = q := ⟨_, rfl⟩
              rw [hqT1] at HT0
              have HQT1 := Lib.hid hqT1
              clear hqT1
              generalize l[k].1 = gx at *
              generalize l[k].2 = gy at *
              have HS := Lib.hid hs
              have HT := Lib.hid ht
              have HD := Lib.hid hd
              clear hs ht hd hkl
              have hr := Below.refl wr.heap.size wr
              have hbq := hbel.size
              have w1 : IntKind.i64.wrap (gx + u) = gx + u := by rw [IntKind.wrap_i64]; omega
              have w2 : IntKind.i64.wrap (gy + v) = gy + v := by rw [IntKind.wrap_i64]; omega
              go_upto_region 13 with fail
              go_region_held3 (fun w' => (w'.cell? ⟨Bl, k * 2, none⟩ = some (.int .i64 gx) ∧ w'.cell? ⟨Bl, k * 2 + 1, none⟩ = some (.int .i64 gy)))
                (first | exact hS _ (hbel.drew) | exact hS _ r1 | exact hS _ (r1.alloc r1.size _) | exact hS _ r2)
                (first
                  | (go_at_call 14; refine (at_any _ _ _).mono ?_; rintro r rw1 ⟨rfl, rc⟩; have rd : Below wr.heap.size wr rw1 := (Below.refl wr.heap.size wr).drew.trans rc; have r1 : Below U.heap.size U rw1 := hbel.trans (rd.mono hbel.size); have rs := r1.size)
                  | (refine step_append_pt _ rfl _ _ rfl U.heap.size _ _ M [(gx + u, gy + v)] rfl rfl ((HS.out.below rd).below ((Below.refl _ _).alloc (Nat.le_refl _) _)) (PtSl.one _ (gx + u, gy + v)) (by rw [List.length_singleton]; have := HML.out; omega) (by simp only [World.size_alloc]; omega) ?_
                     intro s' rw2 ro rg rb
                     have r2 : Below U.heap.size U rw2 := (r1.alloc r1.size _).grown rg (by simp only [World.size_alloc]; omega) (fun k hk => HS.out.lt k hk)
                     have rOT := ((HT.out.below rd).below ((Below.refl _ _).alloc (Nat.le_refl _) (.cells #[.int .i64 (gx + u), .int .i64 (gy + v)] 23)))
                     have rHO := Lib.hid ro; have rHG := Lib.hid rg; have rHB := Lib.hid rb; have rHT := Lib.hid rOT; clear ro rg rb rOT))
              all_goals
                have HS2 := Lib.hid (show OwnPt rw2 U.heap.size _ M1 from HM.out.symm ▸ rHO.out)
                have HT2 := Lib.hid (rHT.out.keptSep rHG.out HD.out)
                have HD2 := Lib.hid (HD.out.grow rHT.out rHB.out)
                clear HS HT HD rHO rHT rHG rHB
                go_upto_region 14 with fail
                go_region_held3 (fun w' => (w'.cell? ⟨Bl, k * 2, none⟩ = some (.int .i64 gx) ∧ w'.cell? ⟨Bl, k * 2 + 1, none⟩ = some (.int .i64 gy)))
                  (first | exact hS _ (r2.drew) | exact hS _ z1 | exact hS _ (z1.alloc z1.size _) | exact hS _ z2)
                  (first
                    | (go_at_call 14; refine (at_any _ _ _).mono ?_; rintro r zw1 ⟨rfl, zc⟩; have zd : Below rw2.heap.size rw2 zw1 := (Below.refl rw2.heap.size rw2).drew.trans zc; have z1 : Below U.heap.size U zw1 := r2.trans (zd.mono r2.size); have zs := z1.size)
                    | (refine step_append_pt _ rfl _ _ rfl U.heap.size _ _ T [(gy, gx)] rfl rfl ((HT2.out.below zd).below ((Below.refl _ _).alloc (Nat.le_refl _) _)) (PtSl.one _ (gy, gx)) (by rw [List.length_singleton]; have := HTL.out; omega) (by simp only [World.size_alloc]; omega) ?_
                       intro s' zw2 zo zg zb
                       have z2 : Below U.heap.size U zw2 := (z1.alloc z1.size _).grown zg (by simp only [World.size_alloc]; omega) (fun k hk => HT2.out.lt k hk)
                       have zOT := ((HS2.out.below zd).below ((Below.refl _ _).alloc (Nat.le_refl _) (.cells #[.int .i64 (gy), .int .i64 (gx)] 23)))
                       have zHO := Lib.hid zo; have zHG := Lib.hid zg; have zHB := Lib.hid zb; have zHT := Lib.hid zOT; clear zo zg zb zOT))
                all_goals
                  have HT3 := Lib.hid (show OwnPt zw2 U.heap.size _ T1 from HT0.out.symm ▸ zHO.out)
                  have HS3 := Lib.hid (zHT.out.keptSep zHG.out HD2.out.symm)
                  have HD3 := Lib.hid (HD2.out.symm.grow zHT.out zHB.out).symm
                  clear HS2 HT2 HD2 zHO zHT zHG zHB hS
                  go_wp2_with fail
                  go_roundw
                  case rel => exact ⟨k + 1, by go_num, by omega, by rw [HQM1.out]; exact HS3.out, by rw [HQT1.out]; exact HT3.out, HD3.out, z2⟩
                  case measure => simp [intOf]; omega
            · obtain rfl : k = 4 := by omega
              obtain ⟨gm, cm, rfl, PM⟩ := own4 (show OwnPt wr U.heap.size _ [(ax + u, ay + v), (bx + u, bz + v), (cx + u, cy + v), (dx + u, dy + v)] from by rw [← HLL.out] at hs; exact hs)
              obtain ⟨gt, ct, rfl, PT⟩ := own4 (show OwnPt wr U.heap.size _ [(ay, ax), (bz, bx), (cy, cx), (dy, dx)] from by rw [← HLL.out] at ht; exact ht)
              have PL := HPU.out wr hbel
              rw [← HLL.out] at PL
              have hbR := hb2.trans (hbel.mono hb2.size)
              have hm1 : onP (ax + u) (ay + v) := by have := hon1.1.1; have := hon1.2.1; unfold onP; omega
              have hm2 : onP (bx + u) (bz + v) := by have := hon2.1.1; have := hon2.2.1; unfold onP; omega
              have hm3 : onP (cx + u) (cy + v) := by have := hon3.1.1; have := hon3.2.1; unfold onP; omega
              have hm4 : onP (dx + u) (dy + v) := by have := hon4.1.1; have := hon4.2.1; unfold onP; omega
              obtain ⟨-, -, -, -, -, -, -, T1, T2⟩ := turn_facts hon1 hon2 hon3
              have HFl := Lib.hid (fun w => Foot_any ax ay bx bz cx cy w)
              rw [if_pos ⟨hon1, hon2, hon3⟩] at HFl
              have HTl := Lib.hid (fun w => Turn_any ax ay bx bz cx cy w)
              have HDl := Lib.hid (fun w => Dist_any ax ay bx bz w)
              have HCl := Lib.hid (fun w => Cross_any ax ay bx bz cx cy dx dy w)
              have HFm := Lib.hid (fun w => F_moved hon1 hon2 hon3 hon4 hm1 hm2 hm3 hm4 w)
              have HTm := Lib.hid (fun w => T_moved hon1 hon2 hon3 hon4 hm1 hm2 hm3 hm4 w)
              have HDm := Lib.hid (fun w => D_moved hon1 hon2 hon3 hon4 hm1 hm2 hm3 hm4 w)
              have HCm := Lib.hid (fun w => C_moved hon1 hon2 hon3 hon4 hm1 hm2 hm3 hm4 w)
              have HFt := Lib.hid (fun w => F_swapped hon1 hon2 hon3 hon4 w)
              have HTt := Lib.hid (fun w => T_swapped hon1 hon2 hon3 hon4 w)
              have HDt := Lib.hid (fun w => D_swapped hon1 hon2 hon3 hon4 w)
              have HCt := Lib.hid (fun w => C_swapped hon1 hon2 hon3 hon4 w)
              obtain ⟨N, gN⟩ : ∃ q, ftN ax ay bx bz cx cy = q := ⟨_, rfl⟩
              rw [gN] at HFl HFm HFt
              clear gN
              obtain ⟨D, gD⟩ : ∃ q, ftD ax ay bx bz cx cy = q := ⟨_, rfl⟩
              rw [gD] at HFl HFm HFt
              clear gD
              obtain ⟨M, gM⟩ : ∃ q, ftM ax ay bx bz cx cy = q := ⟨_, rfl⟩
              rw [gM] at HFl HFm HFt
              clear gM
              obtain ⟨E, gE⟩ : ∃ q, ftE ax ay bx bz cx cy = q := ⟨_, rfl⟩
              rw [gE] at HFl HFm HFt
              clear gE
              obtain ⟨T, gT⟩ : ∃ q, turnV ax ay bx bz cx cy = q := ⟨_, rfl⟩
              rw [gT] at HTl HTm HTt T1 T2
              clear gT
              obtain ⟨R, gR⟩ : ∃ q, distV ax ay bx bz = q := ⟨_, rfl⟩
              rw [gR] at HDl HDm HDt
              clear gR
              obtain ⟨C, gC⟩ : ∃ q, crossV ax ay bx bz cx cy dx dy = q := ⟨_, rfl⟩
              rw [gC] at HCl HCm HCt
              clear gC
              clear HQ HLEN HLL HPU hs ht hd hbel m1a m1b m2a m2b m3a m3b m4a m4b hu hv hu0 hu1 hv0 hv1 hX0 hX1 hY0 hY1 hon1 hon2 hon3 hon4 b1 b2 b3 b4 hb2 hm1 hm2 hm3 hm4
              go_upto_region 15 with fail
              have hS : ∀ w' : World, Below wr.heap.size wr w' → (w'.cell? ⟨Bl, 0, none⟩ = some (.int .i64 (ax)) ∧ w'.cell? ⟨Bl, 1, none⟩ = some (.int .i64 (ay)) ∧ w'.cell? ⟨Bl, 2, none⟩ = some (.int .i64 (bx)) ∧ w'.cell? ⟨Bl, 3, none⟩ = some (.int .i64 (bz)) ∧ w'.cell? ⟨Bl, 4, none⟩ = some (.int .i64 (cx)) ∧ w'.cell? ⟨Bl, 5, none⟩ = some (.int .i64 (cy)) ∧ w'.cell? ⟨Bl, 6, none⟩ = some (.int .i64 (dx)) ∧ w'.cell? ⟨Bl, 7, none⟩ = some (.int .i64 (dy))) := fun w' hb => (PL.below hb).c8
              have hr := Below.refl wr.heap.size wr
              go_cut [22, 23, 24] (fun p q e wx => ∃ Bp Bq : Nat, p = .pointer (some ⟨Bp, 0, none⟩) ∧ q = .pointer (some ⟨Bq, 0, none⟩) ∧ e = .int .i64 0 ∧ Cel wx Bp (.int .i64 N) (.int .i64 D) ∧ Cel wx Bq (.int .i64 M) (.int .i64 E) ∧ Below wr.heap.size wr wx)
              case first => as_aux_lemma =>
                go_region_held3 (fun w' => (w'.cell? ⟨Bl, 0, none⟩ = some (.int .i64 (ax)) ∧ w'.cell? ⟨Bl, 1, none⟩ = some (.int .i64 (ay)) ∧ w'.cell? ⟨Bl, 2, none⟩ = some (.int .i64 (bx)) ∧ w'.cell? ⟨Bl, 3, none⟩ = some (.int .i64 (bz)) ∧ w'.cell? ⟨Bl, 4, none⟩ = some (.int .i64 (cx)) ∧ w'.cell? ⟨Bl, 5, none⟩ = some (.int .i64 (cy)) ∧ w'.cell? ⟨Bl, 6, none⟩ = some (.int .i64 (dx)) ∧ w'.cell? ⟨Bl, 7, none⟩ = some (.int .i64 (dy))))
                  (first | (with_reducible exact hS _ hr.drew) | (with_reducible refine hS _ ?_; (repeat (first | (with_reducible assumption) | (with_reducible refine Below.drew ?_) | (with_reducible refine Below.setCell ?_ ?_ _) | (with_reducible refine Below.alloc ?_ ?_ _))); all_goals (first | omega | (simp; omega) | simp)))
                  (first
                    | (go_at_call 15; refine (HFl.out _).mono ?_; rintro r w3 ⟨rfl, hb3'⟩;
                        have hb3 : Below wr.heap.size wr w3 := (by first | exact hr.drew.trans hb3' | exact (hr.alloc hr.size _).drew.trans (hb3'.mono (by simp)) | exact ((hr.alloc hr.size _).alloc (by simp) _).drew.trans (hb3'.mono (by simp; omega)));
                        have z3 := hb3.size;
                        (first | (refine cutI (Fr.two_b2 hb3').1 (fun p7 => ?_); refine cutI (Fr.two_b2 hb3').2 (fun p8 => ?_); obtain ⟨f1, f2, f3, f4⟩ := p7.facts; obtain ⟨g1, g2, g3, g4⟩ := p8.facts; have lp := p7.lt; have lq := p8.lt) | (refine cutI (Fr.two_b1 hb3') (fun p7 => ?_); obtain ⟨f1, f2, f3, f4⟩ := p7.facts; have lp := p7.lt) | skip)))
                all_goals
                  go_wp2_with fail
                  go_meet
                  refine ⟨_, _, rfl, rfl, rfl, ⟨?_, ?_⟩, ⟨?_, ?_⟩, ?_⟩
                  · go_simp
                  · go_simp
                  · go_simp
                  · go_simp
                  · (repeat (first | (with_reducible assumption) | (with_reducible refine Below.drew ?_) | (with_reducible refine Below.setCell ?_ ?_ _) | (with_reducible refine Below.alloc ?_ ?_ _))); all_goals (first | omega | (simp; omega) | simp)
              case rest => as_aux_lemma =>
                obtain ⟨Bp, Bq, rfl, rfl, rfl, cp, cq, hbx⟩ := hcut
                have PL2 := PL.below hbx
                have PM2 := PM.below hbx
                have PT2 := PT.below hbx
                have hbF := hbR.trans (hbx.mono hbR.size)
                clear hS hr PL PM PT hbR hbx
                obtain ⟨Z, rfl⟩ : ∃ Z, Z = wc := ⟨wc, rfl⟩
                have HZ := Lib.hid (fun (w' : World) (h : Below Z.heap.size Z w') => And.intro (PL2.below h) (And.intro (PM2.below h) (And.intro (PT2.below h) (And.intro (cp.below h cp.lt) (cq.below h cq.lt)))))
                clear PL2 PM2 PT2 cp cq
                have qT : (T != T) = false := by simp
                have qR : (R != R) = false := by simp
                have qC : (C != C) = false := by simp
                have qN : (N == N) = true := by simp
                have qD : (D == D) = true := by simp
                have qM : (M == M) = true := by simp
                have qE : (E == E) = true := by simp
                have wT1 : IntKind.i64.wrap T = T := by rw [IntKind.wrap_i64]; omega
                have wT2 : IntKind.i64.wrap (- -T) = T := by rw [IntKind.wrap_i64]; omega
                go_upto_region 17 with fail
                have c4 : ((4 : Nat) : Int) = 4 := rfl
                try simp only [c4]
                clear c4
                go_loopw [25] (fun i wr => ∃ k : Nat, i = .int .i64 (k : Int) ∧ k ≤ 2 ∧ Below Z.heap.size Z wr) (fun i _ => 2 - (intOf i).toNat)
                case atStart => exact ⟨0, rfl, by omega, Below.refl _ _⟩
                case round =>
                  obtain ⟨k, rfl, hk, hbel⟩ := hrel
                  have hkc : k = 0 ∨ k = 1 ∨ k = 2 := by omega
                  rcases hkc with rfl | rfl | rfl
                  · as_aux_lemma =>
                    obtain ⟨pl, pm, pt, cp1, cq1⟩ := HZ.out wr hbel
                    go_upto_region 22 with fail
                    have hS : ∀ w' : World, Below wr.heap.size wr w' → (w'.cell? ⟨gm, 0, none⟩ = some (.int .i64 (ax + u)) ∧ w'.cell? ⟨gm, 1, none⟩ = some (.int .i64 (ay + v)) ∧ w'.cell? ⟨gm, 2, none⟩ = some (.int .i64 (bx + u)) ∧ w'.cell? ⟨gm, 3, none⟩ = some (.int .i64 (bz + v)) ∧ w'.cell? ⟨gm, 4, none⟩ = some (.int .i64 (cx + u)) ∧ w'.cell? ⟨gm, 5, none⟩ = some (.int .i64 (cy + v)) ∧ w'.cell? ⟨gm, 6, none⟩ = some (.int .i64 (dx + u)) ∧ w'.cell? ⟨gm, 7, none⟩ = some (.int .i64 (dy + v))) := fun w' hb => (pm.below hb).c8
                    have hr := Below.refl wr.heap.size wr
                    go_region_held3 (fun w' => (w'.cell? ⟨gm, 0, none⟩ = some (.int .i64 (ax + u)) ∧ w'.cell? ⟨gm, 1, none⟩ = some (.int .i64 (ay + v)) ∧ w'.cell? ⟨gm, 2, none⟩ = some (.int .i64 (bx + u)) ∧ w'.cell? ⟨gm, 3, none⟩ = some (.int .i64 (bz + v)) ∧ w'.cell? ⟨gm, 4, none⟩ = some (.int .i64 (cx + u)) ∧ w'.cell? ⟨gm, 5, none⟩ = some (.int .i64 (cy + v)) ∧ w'.cell? ⟨gm, 6, none⟩ = some (.int .i64 (dx + u)) ∧ w'.cell? ⟨gm, 7, none⟩ = some (.int .i64 (dy + v))))
                      (first | (with_reducible exact hS _ hr.drew) | (with_reducible refine hS _ ?_; (repeat (first | (with_reducible assumption) | (with_reducible refine Below.drew ?_) | (with_reducible refine Below.setCell ?_ ?_ _) | (with_reducible refine Below.alloc ?_ ?_ _))); all_goals (first | omega | (simp; omega) | simp)))
                      (first | (go_at_call 16; refine (HTm.out _).mono ?_; rintro r v3 ⟨rfl, hv3'⟩; have hv3 : Below wr.heap.size wr v3 := hr.drew.trans hv3'))
                    all_goals
                      have pl3 := pl.below hv3
                      have pw3 := pm.below hv3
                      have cp3 := cp1.below hv3 cp1.lt
                      have cq3 := cq1.below hv3 cq1.lt
                      have hb3 := hbel.trans (hv3.mono hbel.size)
                      clear hS hr pl pm pt cp1 cq1 hv3 hbel
                      go_upto_region 25 with fail
                      have hS : ∀ w' : World, Below v3.heap.size v3 w' → (w'.cell? ⟨gm, 0, none⟩ = some (.int .i64 (ax + u)) ∧ w'.cell? ⟨gm, 1, none⟩ = some (.int .i64 (ay + v)) ∧ w'.cell? ⟨gm, 2, none⟩ = some (.int .i64 (bx + u)) ∧ w'.cell? ⟨gm, 3, none⟩ = some (.int .i64 (bz + v)) ∧ w'.cell? ⟨gm, 4, none⟩ = some (.int .i64 (cx + u)) ∧ w'.cell? ⟨gm, 5, none⟩ = some (.int .i64 (cy + v)) ∧ w'.cell? ⟨gm, 6, none⟩ = some (.int .i64 (dx + u)) ∧ w'.cell? ⟨gm, 7, none⟩ = some (.int .i64 (dy + v))) := fun w' hb => (pw3.below hb).c8
                      have hr := Below.refl v3.heap.size v3
                      go_cut [28, 29, 30] (fun p q e wx => ∃ Bp Bq : Nat, p = .pointer (some ⟨Bp, 0, none⟩) ∧ q = .pointer (some ⟨Bq, 0, none⟩) ∧ e = .int .i64 0 ∧ Cel wx Bp (.int .i64 N) (.int .i64 D) ∧ Cel wx Bq (.int .i64 M) (.int .i64 E) ∧ Below v3.heap.size v3 wx)
                      case first => as_aux_lemma =>
                        go_region_held3 (fun w' => (w'.cell? ⟨gm, 0, none⟩ = some (.int .i64 (ax + u)) ∧ w'.cell? ⟨gm, 1, none⟩ = some (.int .i64 (ay + v)) ∧ w'.cell? ⟨gm, 2, none⟩ = some (.int .i64 (bx + u)) ∧ w'.cell? ⟨gm, 3, none⟩ = some (.int .i64 (bz + v)) ∧ w'.cell? ⟨gm, 4, none⟩ = some (.int .i64 (cx + u)) ∧ w'.cell? ⟨gm, 5, none⟩ = some (.int .i64 (cy + v)) ∧ w'.cell? ⟨gm, 6, none⟩ = some (.int .i64 (dx + u)) ∧ w'.cell? ⟨gm, 7, none⟩ = some (.int .i64 (dy + v))))
                          (first | (with_reducible exact hS _ hr.drew) | (with_reducible refine hS _ ?_; (repeat (first | (with_reducible assumption) | (with_reducible refine Below.drew ?_) | (with_reducible refine Below.setCell ?_ ?_ _) | (with_reducible refine Below.alloc ?_ ?_ _))); all_goals (first | omega | (simp; omega) | simp)))
                          (first
                            | (go_at_call 15; refine (HFm.out _).mono ?_; rintro r w3 ⟨rfl, hb3'⟩;
                                have hb3 : Below v3.heap.size v3 w3 := (by first | exact hr.drew.trans hb3' | exact (hr.alloc hr.size _).drew.trans (hb3'.mono (by simp)) | exact ((hr.alloc hr.size _).alloc (by simp) _).drew.trans (hb3'.mono (by simp; omega)));
                                have z3 := hb3.size;
                                (first | (refine cutI (Fr.two_b2 hb3').1 (fun p7 => ?_); refine cutI (Fr.two_b2 hb3').2 (fun p8 => ?_); obtain ⟨f1, f2, f3, f4⟩ := p7.facts; obtain ⟨g1, g2, g3, g4⟩ := p8.facts; have lp := p7.lt; have lq := p8.lt) | (refine cutI (Fr.two_b1 hb3') (fun p7 => ?_); obtain ⟨f1, f2, f3, f4⟩ := p7.facts; have lp := p7.lt) | skip)))
                        all_goals
                          go_wp2_with fail
                          go_meet
                          refine ⟨_, _, rfl, rfl, rfl, ⟨?_, ?_⟩, ⟨?_, ?_⟩, ?_⟩
                          · go_simp
                          · go_simp
                          · go_simp
                          · go_simp
                          · (repeat (first | (with_reducible assumption) | (with_reducible refine Below.drew ?_) | (with_reducible refine Below.setCell ?_ ?_ _) | (with_reducible refine Below.alloc ?_ ?_ _))); all_goals (first | omega | (simp; omega) | simp)
                      case rest => as_aux_lemma =>
                        obtain ⟨Bu, Bw, rfl, rfl, rfl, cu, cw, hbx⟩ := hcut
                        have pl4 := pl3.below hbx
                        have pw4 := pw3.below hbx
                        have cp4 := cp3.below hbx cp3.lt
                        have cq4 := cq3.below hbx cq3.lt
                        have hb4 := hb3.trans (hbx.mono hb3.size)
                        clear hS hr pl3 pw3 cp3 cq3 hb3 hbx
                        go_upto_region 26 with fail
                        try simp only [List.append_eq, List.cons_append, List.nil_append]
                        have hS : ∀ w' : World, Below wc.heap.size wc w' → ((w'.cell? ⟨Bl, 0, none⟩ = some (.int .i64 (ax)) ∧ w'.cell? ⟨Bl, 1, none⟩ = some (.int .i64 (ay)) ∧ w'.cell? ⟨Bl, 2, none⟩ = some (.int .i64 (bx)) ∧ w'.cell? ⟨Bl, 3, none⟩ = some (.int .i64 (bz)) ∧ w'.cell? ⟨Bl, 4, none⟩ = some (.int .i64 (cx)) ∧ w'.cell? ⟨Bl, 5, none⟩ = some (.int .i64 (cy)) ∧ w'.cell? ⟨Bl, 6, none⟩ = some (.int .i64 (dx)) ∧ w'.cell? ⟨Bl, 7, none⟩ = some (.int .i64 (dy))) ∧ (w'.cell? ⟨gm, 0, none⟩ = some (.int .i64 (ax + u)) ∧ w'.cell? ⟨gm, 1, none⟩ = some (.int .i64 (ay + v)) ∧ w'.cell? ⟨gm, 2, none⟩ = some (.int .i64 (bx + u)) ∧ w'.cell? ⟨gm, 3, none⟩ = some (.int .i64 (bz + v)) ∧ w'.cell? ⟨gm, 4, none⟩ = some (.int .i64 (cx + u)) ∧ w'.cell? ⟨gm, 5, none⟩ = some (.int .i64 (cy + v)) ∧ w'.cell? ⟨gm, 6, none⟩ = some (.int .i64 (dx + u)) ∧ w'.cell? ⟨gm, 7, none⟩ = some (.int .i64 (dy + v))) ∧ (w'.cell? ⟨Bp, 0, none⟩ = some (.int .i64 N) ∧ w'.cell? ⟨Bp, 1, none⟩ = some (.int .i64 D)) ∧ (w'.cell? ⟨Bq, 0, none⟩ = some (.int .i64 M) ∧ w'.cell? ⟨Bq, 1, none⟩ = some (.int .i64 E)) ∧ (w'.cell? ⟨Bu, 0, none⟩ = some (.int .i64 N) ∧ w'.cell? ⟨Bu, 1, none⟩ = some (.int .i64 D)) ∧ (w'.cell? ⟨Bw, 0, none⟩ = some (.int .i64 M) ∧ w'.cell? ⟨Bw, 1, none⟩ = some (.int .i64 E))) := fun w' hb => ⟨(pl4.below hb).c8, (pw4.below hb).c8, cp4.below hb cp4.lt, cq4.below hb cq4.lt, cu.below hb cu.lt, cw.below hb cw.lt⟩
                        have hr := Below.refl wc.heap.size wc
                        go_region_held3 (fun w' => ((w'.cell? ⟨Bl, 0, none⟩ = some (.int .i64 (ax)) ∧ w'.cell? ⟨Bl, 1, none⟩ = some (.int .i64 (ay)) ∧ w'.cell? ⟨Bl, 2, none⟩ = some (.int .i64 (bx)) ∧ w'.cell? ⟨Bl, 3, none⟩ = some (.int .i64 (bz)) ∧ w'.cell? ⟨Bl, 4, none⟩ = some (.int .i64 (cx)) ∧ w'.cell? ⟨Bl, 5, none⟩ = some (.int .i64 (cy)) ∧ w'.cell? ⟨Bl, 6, none⟩ = some (.int .i64 (dx)) ∧ w'.cell? ⟨Bl, 7, none⟩ = some (.int .i64 (dy))) ∧ (w'.cell? ⟨gm, 0, none⟩ = some (.int .i64 (ax + u)) ∧ w'.cell? ⟨gm, 1, none⟩ = some (.int .i64 (ay + v)) ∧ w'.cell? ⟨gm, 2, none⟩ = some (.int .i64 (bx + u)) ∧ w'.cell? ⟨gm, 3, none⟩ = some (.int .i64 (bz + v)) ∧ w'.cell? ⟨gm, 4, none⟩ = some (.int .i64 (cx + u)) ∧ w'.cell? ⟨gm, 5, none⟩ = some (.int .i64 (cy + v)) ∧ w'.cell? ⟨gm, 6, none⟩ = some (.int .i64 (dx + u)) ∧ w'.cell? ⟨gm, 7, none⟩ = some (.int .i64 (dy + v))) ∧ (w'.cell? ⟨Bp, 0, none⟩ = some (.int .i64 N) ∧ w'.cell? ⟨Bp, 1, none⟩ = some (.int .i64 D)) ∧ (w'.cell? ⟨Bq, 0, none⟩ = some (.int .i64 M) ∧ w'.cell? ⟨Bq, 1, none⟩ = some (.int .i64 E)) ∧ (w'.cell? ⟨Bu, 0, none⟩ = some (.int .i64 N) ∧ w'.cell? ⟨Bu, 1, none⟩ = some (.int .i64 D)) ∧ (w'.cell? ⟨Bw, 0, none⟩ = some (.int .i64 M) ∧ w'.cell? ⟨Bw, 1, none⟩ = some (.int .i64 E))))
                          (first | (with_reducible exact hS _ hr.drew) | (with_reducible refine hS _ ?_; (repeat (first | (with_reducible assumption) | (with_reducible refine Below.drew ?_) | (with_reducible refine Below.setCell ?_ ?_ _) | (with_reducible refine Below.alloc ?_ ?_ _))); all_goals (first | omega | (simp; omega) | simp)))
                          (first
                            | (go_at_call 18; have hz := hx4; refine (HCl.out _).mono ?_; rintro r x5 ⟨rfl, hx5'⟩; have hx5 : Below wc.heap.size wc x5 := hx4.trans (hx5'.mono hx4.size))
                            | (go_at_call 18; have hz := hx3; refine (HCm.out _).mono ?_; rintro r x4 ⟨rfl, hx4'⟩; have hx4 : Below wc.heap.size wc x4 := hx3.trans (hx4'.mono hx3.size))
                            | (go_at_call 17; have hz := hx2; refine (HDl.out _).mono ?_; rintro r x3 ⟨rfl, hx3'⟩; have hx3 : Below wc.heap.size wc x3 := hx2.trans (hx3'.mono hx2.size))
                            | (go_at_call 17; have hz := hx1; refine (HDm.out _).mono ?_; rintro r x2 ⟨rfl, hx2'⟩; have hx2 : Below wc.heap.size wc x2 := hx1.trans (hx2'.mono hx1.size))
                            | (go_at_call 16; refine (HTl.out _).mono ?_; rintro r x1 ⟨rfl, hx1'⟩; have hx1 : Below wc.heap.size wc x1 := hr.drew.trans hx1'))
                        all_goals
                          have hb5 := hb4.trans (hx5.mono hb4.size)
                          clear hS hr pl4 pw4 cp4 cq4 cu cw hb4
                          go_wp2_with fail
                          go_roundw
                          case rel => exact ⟨1, by go_num, by omega, hb5⟩
                          case measure => simp [intOf]
                  · as_aux_lemma =>
                    obtain ⟨pl, pm, pt, cp1, cq1⟩ := HZ.out wr hbel
                    go_upto_region 22 with fail
                    have hS : ∀ w' : World, Below wr.heap.size wr w' → (w'.cell? ⟨gt, 0, none⟩ = some (.int .i64 (ay)) ∧ w'.cell? ⟨gt, 1, none⟩ = some (.int .i64 (ax)) ∧ w'.cell? ⟨gt, 2, none⟩ = some (.int .i64 (bz)) ∧ w'.cell? ⟨gt, 3, none⟩ = some (.int .i64 (bx)) ∧ w'.cell? ⟨gt, 4, none⟩ = some (.int .i64 (cy)) ∧ w'.cell? ⟨gt, 5, none⟩ = some (.int .i64 (cx)) ∧ w'.cell? ⟨gt, 6, none⟩ = some (.int .i64 (dy)) ∧ w'.cell? ⟨gt, 7, none⟩ = some (.int .i64 (dx))) := fun w' hb => (pt.below hb).c8
                    have hr := Below.refl wr.heap.size wr
                    go_region_held3 (fun w' => (w'.cell? ⟨gt, 0, none⟩ = some (.int .i64 (ay)) ∧ w'.cell? ⟨gt, 1, none⟩ = some (.int .i64 (ax)) ∧ w'.cell? ⟨gt, 2, none⟩ = some (.int .i64 (bz)) ∧ w'.cell? ⟨gt, 3, none⟩ = some (.int .i64 (bx)) ∧ w'.cell? ⟨gt, 4, none⟩ = some (.int .i64 (cy)) ∧ w'.cell? ⟨gt, 5, none⟩ = some (.int .i64 (cx)) ∧ w'.cell? ⟨gt, 6, none⟩ = some (.int .i64 (dy)) ∧ w'.cell? ⟨gt, 7, none⟩ = some (.int .i64 (dx))))
                      (first | (with_reducible exact hS _ hr.drew) | (with_reducible refine hS _ ?_; (repeat (first | (with_reducible assumption) | (with_reducible refine Below.drew ?_) | (with_reducible refine Below.setCell ?_ ?_ _) | (with_reducible refine Below.alloc ?_ ?_ _))); all_goals (first | omega | (simp; omega) | simp)))
                      (first | (go_at_call 16; refine (HTt.out _).mono ?_; rintro r v3 ⟨rfl, hv3'⟩; have hv3 : Below wr.heap.size wr v3 := hr.drew.trans hv3'))
                    all_goals
                      have pl3 := pl.below hv3
                      have pw3 := pt.below hv3
                      have cp3 := cp1.below hv3 cp1.lt
                      have cq3 := cq1.below hv3 cq1.lt
                      have hb3 := hbel.trans (hv3.mono hbel.size)
                      clear hS hr pl pm pt cp1 cq1 hv3 hbel
                      go_upto_region 25 with fail
                      have hS : ∀ w' : World, Below v3.heap.size v3 w' → (w'.cell? ⟨gt, 0, none⟩ = some (.int .i64 (ay)) ∧ w'.cell? ⟨gt, 1, none⟩ = some (.int .i64 (ax)) ∧ w'.cell? ⟨gt, 2, none⟩ = some (.int .i64 (bz)) ∧ w'.cell? ⟨gt, 3, none⟩ = some (.int .i64 (bx)) ∧ w'.cell? ⟨gt, 4, none⟩ = some (.int .i64 (cy)) ∧ w'.cell? ⟨gt, 5, none⟩ = some (.int .i64 (cx)) ∧ w'.cell? ⟨gt, 6, none⟩ = some (.int .i64 (dy)) ∧ w'.cell? ⟨gt, 7, none⟩ = some (.int .i64 (dx))) := fun w' hb => (pw3.below hb).c8
                      have hr := Below.refl v3.heap.size v3
                      go_cut [28, 29, 30] (fun p q e wx => ∃ Bp Bq : Nat, p = .pointer (some ⟨Bp, 0, none⟩) ∧ q = .pointer (some ⟨Bq, 0, none⟩) ∧ e = .int .i64 0 ∧ Cel wx Bp (.int .i64 N) (.int .i64 D) ∧ Cel wx Bq (.int .i64 M) (.int .i64 E) ∧ Below v3.heap.size v3 wx)
                      case first => as_aux_lemma =>
                        go_region_held3 (fun w' => (w'.cell? ⟨gt, 0, none⟩ = some (.int .i64 (ay)) ∧ w'.cell? ⟨gt, 1, none⟩ = some (.int .i64 (ax)) ∧ w'.cell? ⟨gt, 2, none⟩ = some (.int .i64 (bz)) ∧ w'.cell? ⟨gt, 3, none⟩ = some (.int .i64 (bx)) ∧ w'.cell? ⟨gt, 4, none⟩ = some (.int .i64 (cy)) ∧ w'.cell? ⟨gt, 5, none⟩ = some (.int .i64 (cx)) ∧ w'.cell? ⟨gt, 6, none⟩ = some (.int .i64 (dy)) ∧ w'.cell? ⟨gt, 7, none⟩ = some (.int .i64 (dx))))
                          (first | (with_reducible exact hS _ hr.drew) | (with_reducible refine hS _ ?_; (repeat (first | (with_reducible assumption) | (with_reducible refine Below.drew ?_) | (with_reducible refine Below.setCell ?_ ?_ _) | (with_reducible refine Below.alloc ?_ ?_ _))); all_goals (first | omega | (simp; omega) | simp)))
                          (first
                            | (go_at_call 15; refine (HFt.out _).mono ?_; rintro r w3 ⟨rfl, hb3'⟩;
                                have hb3 : Below v3.heap.size v3 w3 := (by first | exact hr.drew.trans hb3' | exact (hr.alloc hr.size _).drew.trans (hb3'.mono (by simp)) | exact ((hr.alloc hr.size _).alloc (by simp) _).drew.trans (hb3'.mono (by simp; omega)));
                                have z3 := hb3.size;
                                (first | (refine cutI (Fr.two_b2 hb3').1 (fun p7 => ?_); refine cutI (Fr.two_b2 hb3').2 (fun p8 => ?_); obtain ⟨f1, f2, f3, f4⟩ := p7.facts; obtain ⟨g1, g2, g3, g4⟩ := p8.facts; have lp := p7.lt; have lq := p8.lt) | (refine cutI (Fr.two_b1 hb3') (fun p7 => ?_); obtain ⟨f1, f2, f3, f4⟩ := p7.facts; have lp := p7.lt) | skip)))
                        all_goals
                          go_wp2_with fail
                          go_meet
                          refine ⟨_, _, rfl, rfl, rfl, ⟨?_, ?_⟩, ⟨?_, ?_⟩, ?_⟩
                          · go_simp
                          · go_simp
                          · go_simp
                          · go_simp
                          · (repeat (first | (with_reducible assumption) | (with_reducible refine Below.drew ?_) | (with_reducible refine Below.setCell ?_ ?_ _) | (with_reducible refine Below.alloc ?_ ?_ _))); all_goals (first | omega | (simp; omega) | simp)
                      case rest => as_aux_lemma =>
                        obtain ⟨Bu, Bw, rfl, rfl, rfl, cu, cw, hbx⟩ := hcut
                        have pl4 := pl3.below hbx
                        have pw4 := pw3.below hbx
                        have cp4 := cp3.below hbx cp3.lt
                        have cq4 := cq3.below hbx cq3.lt
                        have hb4 := hb3.trans (hbx.mono hb3.size)
                        clear hS hr pl3 pw3 cp3 cq3 hb3 hbx
                        go_upto_region 26 with fail
                        try simp only [List.append_eq, List.cons_append, List.nil_append]
                        have hS : ∀ w' : World, Below wc.heap.size wc w' → ((w'.cell? ⟨Bl, 0, none⟩ = some (.int .i64 (ax)) ∧ w'.cell? ⟨Bl, 1, none⟩ = some (.int .i64 (ay)) ∧ w'.cell? ⟨Bl, 2, none⟩ = some (.int .i64 (bx)) ∧ w'.cell? ⟨Bl, 3, none⟩ = some (.int .i64 (bz)) ∧ w'.cell? ⟨Bl, 4, none⟩ = some (.int .i64 (cx)) ∧ w'.cell? ⟨Bl, 5, none⟩ = some (.int .i64 (cy)) ∧ w'.cell? ⟨Bl, 6, none⟩ = some (.int .i64 (dx)) ∧ w'.cell? ⟨Bl, 7, none⟩ = some (.int .i64 (dy))) ∧ (w'.cell? ⟨gt, 0, none⟩ = some (.int .i64 (ay)) ∧ w'.cell? ⟨gt, 1, none⟩ = some (.int .i64 (ax)) ∧ w'.cell? ⟨gt, 2, none⟩ = some (.int .i64 (bz)) ∧ w'.cell? ⟨gt, 3, none⟩ = some (.int .i64 (bx)) ∧ w'.cell? ⟨gt, 4, none⟩ = some (.int .i64 (cy)) ∧ w'.cell? ⟨gt, 5, none⟩ = some (.int .i64 (cx)) ∧ w'.cell? ⟨gt, 6, none⟩ = some (.int .i64 (dy)) ∧ w'.cell? ⟨gt, 7, none⟩ = some (.int .i64 (dx))) ∧ (w'.cell? ⟨Bp, 0, none⟩ = some (.int .i64 N) ∧ w'.cell? ⟨Bp, 1, none⟩ = some (.int .i64 D)) ∧ (w'.cell? ⟨Bq, 0, none⟩ = some (.int .i64 M) ∧ w'.cell? ⟨Bq, 1, none⟩ = some (.int .i64 E)) ∧ (w'.cell? ⟨Bu, 0, none⟩ = some (.int .i64 N) ∧ w'.cell? ⟨Bu, 1, none⟩ = some (.int .i64 D)) ∧ (w'.cell? ⟨Bw, 0, none⟩ = some (.int .i64 M) ∧ w'.cell? ⟨Bw, 1, none⟩ = some (.int .i64 E))) := fun w' hb => ⟨(pl4.below hb).c8, (pw4.below hb).c8, cp4.below hb cp4.lt, cq4.below hb cq4.lt, cu.below hb cu.lt, cw.below hb cw.lt⟩
                        have hr := Below.refl wc.heap.size wc
                        go_region_held3 (fun w' => ((w'.cell? ⟨Bl, 0, none⟩ = some (.int .i64 (ax)) ∧ w'.cell? ⟨Bl, 1, none⟩ = some (.int .i64 (ay)) ∧ w'.cell? ⟨Bl, 2, none⟩ = some (.int .i64 (bx)) ∧ w'.cell? ⟨Bl, 3, none⟩ = some (.int .i64 (bz)) ∧ w'.cell? ⟨Bl, 4, none⟩ = some (.int .i64 (cx)) ∧ w'.cell? ⟨Bl, 5, none⟩ = some (.int .i64 (cy)) ∧ w'.cell? ⟨Bl, 6, none⟩ = some (.int .i64 (dx)) ∧ w'.cell? ⟨Bl, 7, none⟩ = some (.int .i64 (dy))) ∧ (w'.cell? ⟨gt, 0, none⟩ = some (.int .i64 (ay)) ∧ w'.cell? ⟨gt, 1, none⟩ = some (.int .i64 (ax)) ∧ w'.cell? ⟨gt, 2, none⟩ = some (.int .i64 (bz)) ∧ w'.cell? ⟨gt, 3, none⟩ = some (.int .i64 (bx)) ∧ w'.cell? ⟨gt, 4, none⟩ = some (.int .i64 (cy)) ∧ w'.cell? ⟨gt, 5, none⟩ = some (.int .i64 (cx)) ∧ w'.cell? ⟨gt, 6, none⟩ = some (.int .i64 (dy)) ∧ w'.cell? ⟨gt, 7, none⟩ = some (.int .i64 (dx))) ∧ (w'.cell? ⟨Bp, 0, none⟩ = some (.int .i64 N) ∧ w'.cell? ⟨Bp, 1, none⟩ = some (.int .i64 D)) ∧ (w'.cell? ⟨Bq, 0, none⟩ = some (.int .i64 M) ∧ w'.cell? ⟨Bq, 1, none⟩ = some (.int .i64 E)) ∧ (w'.cell? ⟨Bu, 0, none⟩ = some (.int .i64 N) ∧ w'.cell? ⟨Bu, 1, none⟩ = some (.int .i64 D)) ∧ (w'.cell? ⟨Bw, 0, none⟩ = some (.int .i64 M) ∧ w'.cell? ⟨Bw, 1, none⟩ = some (.int .i64 E))))
                          (first | (with_reducible exact hS _ hr.drew) | (with_reducible refine hS _ ?_; (repeat (first | (with_reducible assumption) | (with_reducible refine Below.drew ?_) | (with_reducible refine Below.setCell ?_ ?_ _) | (with_reducible refine Below.alloc ?_ ?_ _))); all_goals (first | omega | (simp; omega) | simp)))
                          (first
                            | (go_at_call 18; have hz := hx4; refine (HCl.out _).mono ?_; rintro r x5 ⟨rfl, hx5'⟩; have hx5 : Below wc.heap.size wc x5 := hx4.trans (hx5'.mono hx4.size))
                            | (go_at_call 18; have hz := hx3; refine (HCt.out _).mono ?_; rintro r x4 ⟨rfl, hx4'⟩; have hx4 : Below wc.heap.size wc x4 := hx3.trans (hx4'.mono hx3.size))
                            | (go_at_call 17; have hz := hx2; refine (HDl.out _).mono ?_; rintro r x3 ⟨rfl, hx3'⟩; have hx3 : Below wc.heap.size wc x3 := hx2.trans (hx3'.mono hx2.size))
                            | (go_at_call 17; have hz := hx1; refine (HDt.out _).mono ?_; rintro r x2 ⟨rfl, hx2'⟩; have hx2 : Below wc.heap.size wc x2 := hx1.trans (hx2'.mono hx1.size))
                            | (go_at_call 16; refine (HTl.out _).mono ?_; rintro r x1 ⟨rfl, hx1'⟩; have hx1 : Below wc.heap.size wc x1 := hr.drew.trans hx1'))
                        all_goals
                          have hb5 := hb4.trans (hx5.mono hb4.size)
                          clear hS hr pl4 pw4 cp4 cq4 cu cw hb4
                          go_wp2_with fail
                          go_roundw
                          case rel => exact ⟨2, by go_num, by omega, hb5⟩
                          case measure => simp [intOf]
                  · go_wp2_with fail
                    go_ret
                    exact ⟨rfl, hbF.trans (hbel.mono hbF.size)⟩
end Go.Proofs.Ytohkmkkcblbemaa.Ge
