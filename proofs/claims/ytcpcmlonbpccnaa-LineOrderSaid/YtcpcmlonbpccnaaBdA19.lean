/- Walks over package line: Turned, and what it calls of package slices. -/
import Derived.Test.YtcpcmlonbpccnaaBdA18
import Derived.Deep.LoopGhost
import Derived.Lib.Walk
import Derived.Deep.RegionHeld3
namespace Go.Proofs.Ytcpcmlonbpccnaa.Ge
set_option linter.unusedVariables false
set_option linter.unusedSimpArgs false
open Go.RowKit Go.Shelf
open Go.Proofs.Ytcpcmlonbpccnaa.Fr

theorem OwnPt.empty (w : World) (B : Nat) (hB : B ≤ w.heap.size) : OwnPt (w.alloc (.cells #[] 24)) B (.slice (some ⟨w.heap.size, 0, none⟩) 0 0) [] :=
  World.ownsRow_lit w #[] 0 hB (Nat.zero_le _) rfl
theorem nil_run_pt (a : Option Addr) (n c : Nat) (w : World) : (binOp BinOp.eql 22 (.slice a n c) (.slice none 0 0)).run Try.prog w = .ok (.bool (match a with | none => true | some _ => false)) w := by
  cases a with
  | none => kernel_rfl
  | some ad => kernel_rfl
set_option maxRecDepth 100000 in
set_option maxHeartbeats 1000000 in
theorem clone_pts (w : World) (v : Value) (l : List Pt) (h : PtSl w v l) (hlen : l.length ≤ 100000) :
    Calls Try.prog 58 #[v] w fun e w' => ∃ u, e = .returned u ∧ OwnPt w' w.heap.size u l ∧ Below w.heap.size w w' := by
  obtain ⟨a, cap, rfl⟩ := h.form
  cases a with
  | none =>
    have hl : l = [] := by
      rcases h with ⟨h, _⟩ | ⟨b, off, cap, h, _⟩
      · exact h
      · cases h
    subst hl
    have hrun := nil_run_pt none 0 cap
    go_enter Try.func58, Try.ntmps58
    go_wp2_with fail
    go_ret
    exact ⟨_, rfl, OwnPt.nil _ _, Below.refl _ _⟩
  | some ad =>
    have hE := OwnPt.empty w w.heap.size (Nat.le_refl _)
    have hS := h.below ((Below.refl w.heap.size w).alloc (Nat.le_refl _) (.cells #[] 24))
    have HE := Lib.hid hE
    have HS := Lib.hid hS
    clear hE hS h
    have hrun := nil_run_pt (some ad) l.length cap
    go_enter Try.func58, Try.ntmps58
    go_wp2_with (at_builtin; refine list_append_pt _ rfl _ _ rfl w.heap.size _ _ [] l rfl rfl HE.out HS.out (by simp; omega) (by simp) ?_; intro v' w' hown hgr _)
    have hb := ((Below.refl w.heap.size w).alloc (Nat.le_refl _) (.cells #[] 24)).grown hgr (by simp) (fun k hk => by cases hk; exact Nat.le_refl _)
    have HO := Lib.hid hown
    clear hown hgr
    go_wp2_with fail
    go_ret
    exact ⟨_, rfl, HO.out, hb⟩

/-- the list in the middle of being turned: i points are changed at each end -/
def midT (l : List Pt) (i k : Nat) : Pt := if k < i ∨ l.length - 1 - i < k then lnAt l (l.length - 1 - k) else lnAt l k
/-- block b holds these points from its beginning on -/
def RowAt (w : World) (b : Nat) (n : Nat) (f : Nat → Pt) : Prop := ∃ cur : Array Value, w.heap[b]? = some (.cells cur 24 (0, 0)) ∧ 2 * n ≤ cur.size ∧ ∀ k, k < n → cur[k * 2]? = some (.int .i64 (f k).1) ∧ cur[k * 2 + 1]? = some (.int .i64 (f k).2)
theorem RowAt.cells {w : World} {b n : Nat} {f : Nat → Pt} (h : RowAt w b n f) {k : Nat} (hk : k < n) : (w.cell? ⟨b, k * 2, none⟩ = some (.int .i64 (f k).1) ∧ w.cell? ⟨b, k * 2 + 1, none⟩ = some (.int .i64 (f k).2)) ∧ w.frozen? ⟨b, k * 2, none⟩ = false ∧ w.frozen? ⟨b, k * 2 + 1, none⟩ = false := by
  obtain ⟨cur, hg, hs, hc⟩ := h
  obtain ⟨h1, h2⟩ := hc k hk
  simp [World.cell?, World.frozen?, hg, h1, h2]
theorem RowAt.congr {w : World} {b n : Nat} {f g : Nat → Pt} (h : RowAt w b n f) (e : ∀ k, k < n → f k = g k) : RowAt w b n g := by
  obtain ⟨cur, hg, hs, hc⟩ := h
  exact ⟨cur, hg, hs, fun k hk => by rw [← e k hk]; exact hc k hk⟩
/-- a point laid into the row -/
theorem RowAt.set {w : World} {b n : Nat} {f : Nat → Pt} (h : RowAt w b n f) {i : Nat} (hi : i < n) (p : Pt) : RowAt ((w.setCell ⟨b, i * 2, none⟩ (.int .i64 p.1)).setCell ⟨b, i * 2 + 1, none⟩ (.int .i64 p.2)) b n (fun k => if k = i then p else f k) := by
  obtain ⟨cur, hg, hs, hc⟩ := h
  refine ⟨_, heap_setCell_same _ _ _ _ _ _ (heap_setCell_same _ _ _ _ _ _ hg), by simpa using hs, fun k hk => ?_⟩
  obtain ⟨h1, h2⟩ := hc k hk
  dsimp only
  by_cases e : k = i
  · subst e
    rw [if_pos rfl]
    refine ⟨?_, ?_⟩
    · rw [Array.getElem?_setIfInBounds, if_neg (by omega), Array.getElem?_setIfInBounds, if_pos rfl, if_pos (by omega)]
    · rw [Array.getElem?_setIfInBounds, if_pos rfl, if_pos (by rw [Array.size_setIfInBounds]; omega)]
  · rw [if_neg e, ← h1, ← h2]
    refine ⟨?_, ?_⟩
    · rw [Array.getElem?_setIfInBounds, if_neg (by omega), Array.getElem?_setIfInBounds, if_neg (by omega)]
    · rw [Array.getElem?_setIfInBounds, if_neg (by omega), Array.getElem?_setIfInBounds, if_neg (by omega)]
theorem RowAt.of_own {w : World} {B b cap : Nat} {l : List Pt} (h : OwnPt w B (.slice (some ⟨b, 0, none⟩) l.length cap) l) : RowAt w b l.length (lnAt l) ∧ B ≤ b ∧ l.length ≤ cap ∧ cap ≤ maxLen ∧ b < w.heap.size := by
  rcases h with ⟨hl, ⟨hv, h0⟩ | ⟨g, cap', cur, hv, hB, hg, hc, hm, hsz, htk⟩⟩
  · cases hv
  · cases hv
    refine ⟨⟨cur, hg, ?_, fun k hk => ?_⟩, hB, hc, hm, (Array.getElem?_eq_some_iff.1 hg).1⟩
    · have := congrArg List.length htk
      rw [List.length_take, flatT_length] at this
      simp only [Array.length_toList] at this
      omega
    · have key : ∀ j, j < 2 → cur[k * 2 + j]? = (encT l[k])[j]? := fun j hj => by
        rw [← flatT_get l k j hk hj, ← htk, List.getElem?_take, if_pos (by omega), Array.getElem?_toList]
      rw [lnAt_lt hk]
      exact ⟨key 0 (by decide), key 1 (by decide)⟩
theorem RowAt.sl {w : World} {b n cap : Nat} {f : Nat → Pt} (h : RowAt w b n f) (hl : n ≤ cap) (hm : cap ≤ maxLen) (hb : b < w.heap.size) : PtSl w (.slice (some ⟨b, 0, none⟩) n cap) ((List.range n).map f) := by
  by_cases h0 : n = 0
  · subst h0
    exact .inl ⟨rfl, _, _, rfl⟩
  · refine .inr ⟨b, 0, cap, by simp, by simp; omega, hb, by simpa using ⟨hl, hm⟩, fun i hi => ?_⟩
    have hi' : i < n := by simpa using hi
    obtain ⟨⟨h1, h2⟩, -⟩ := h.cells hi'
    simp only [List.getElem_map, List.getElem_range, Nat.zero_add]
    exact ⟨h1, h2⟩
theorem map_turned (l : List Pt) : (List.range l.length).map (fun k => lnAt l (l.length - 1 - k)) = l.reverse := by
  refine List.ext_getElem (by simp) fun i h1 h2 => ?_
  have hi : i < l.length := by simpa using h1
  simp only [List.getElem_map, List.getElem_range, List.getElem_reverse]
  exact lnAt_lt (by omega)

set_option maxRecDepth 100000 in
set_option maxHeartbeats 2000000 in
theorem reverse_row (b cap : Nat) (l : List Pt) (hlen : l.length ≤ 100000) (w : World) (h : RowAt w b l.length (lnAt l)) (hb : b < w.heap.size) :
    Calls Try.prog 59 #[.slice (some ⟨b, 0, none⟩) l.length cap] w fun e w' => e = .returned (.tuple #[]) ∧ RowAt w' b l.length (fun k => lnAt l (l.length - 1 - k)) ∧ Below b w w' := by
  have H0 := Lib.hid (show RowAt w b l.length (midT l 0) from h.congr fun k hk => by unfold midT; rw [if_neg (by omega)])
  clear h
  obtain ⟨n, hn⟩ : ∃ n, l.length = n := ⟨_, rfl⟩
  rw [hn] at H0 hlen ⊢
  have HN := Lib.hid hn
  clear hn
  go_enter Try.func59, Try.ntmps59
  go_wp2
  go_loopg [2, 3] n (fun m s2 s3 wr => ∃ (i : Nat) (jz : Int), s2 = .int .i64 i ∧ s3 = .int .i64 jz ∧ jz = (n : Int) - 1 - i ∧ n - 1 - i - i ≤ m ∧ RowAt wr b n (midT l i) ∧ Below b w wr)
  case atStart => exact ⟨0, (n : Int) - 1, rfl, rfl, by omega, by omega, H0.out, Below.refl _ _⟩
  case round =>
    obtain ⟨i, jz, rfl, rfl, hj, hm, hrow, hbel⟩ := hrel
    by_cases hlt : (i : Int) < jz
    · obtain ⟨j, rfl⟩ : ∃ j : Nat, jz = j := ⟨jz.toNat, by omega⟩
      have hij : i < j := by omega
      have hjn : j = n - 1 - i := by omega
      have HJ := Lib.hid hjn
      obtain ⟨⟨a1, a2⟩, a3, a4⟩ := hrow.cells (k := i) (by omega)
      obtain ⟨⟨b1, b2⟩, b3, b4⟩ := hrow.cells (k := j) (by omega)
      have hi' : (i : Int) < n := by omega
      have hj' : (j : Int) < n := by omega
      clear hjn hj hlt
      go_wp2
      go_region
      have hr2 := ((hrow.set (i := i) (by omega) (midT l i j)).set (i := j) (by omega) (midT l i i)).congr (g := midT l (i + 1)) fun k hk => by
        have hN := HN.out
        have hjn := HJ.out
        unfold midT
        rw [hN]
        by_cases e1 : k = j
        · rw [if_pos e1, if_neg (by omega), if_pos (by omega), show n - 1 - k = i by omega]
        · rw [if_neg e1]
          by_cases e2 : k = i
          · rw [if_pos e2, if_neg (by omega), if_pos (by omega), show n - 1 - k = j by omega]
          · rw [if_neg e2]
            by_cases e3 : k < i ∨ n - 1 - i < k
            · rw [if_pos e3, if_pos (by omega)]
            · rw [if_neg e3, if_neg (by omega)]
      have hb2 := (((hbel.setCell (p := ⟨b, i * 2, none⟩) (Nat.le_refl _) (.int .i64 (midT l i j).1)).setCell (p := ⟨b, i * 2 + 1, none⟩) (Nat.le_refl _) (.int .i64 (midT l i j).2)).setCell (p := ⟨b, j * 2, none⟩) (Nat.le_refl _) (.int .i64 (midT l i i).1)).setCell (p := ⟨b, j * 2 + 1, none⟩) (Nat.le_refl _) (.int .i64 (midT l i i).2)
      have hr3 : RowAt _ b n (midT l (i + 1)) := hr2
      generalize (((wr.setCell ⟨b, i * 2, none⟩ (.int .i64 (midT l i j).1)).setCell ⟨b, i * 2 + 1, none⟩ (.int .i64 (midT l i j).2)).setCell ⟨b, j * 2, none⟩ (.int .i64 (midT l i i).1)).setCell ⟨b, j * 2 + 1, none⟩ (.int .i64 (midT l i i).2) = X at *
      clear a1 a2 a3 a4 b1 b2 b3 b4 hi' hj'
      go_wp2
      go_roundg (n - 1 - (i + 1) - (i + 1))
      case measure => have := HJ.out; omega
      case rel =>
        have hi3 : i < 100000 := by have := HJ.out; omega
        have hj3 : j < 100000 := by have := HJ.out; omega
        have z1 : wrap64 ((i : Int) + 1) = (i : Int) + 1 := by first | (rw [wrap64_id]; omega) | (simp [wrap64]; omega)
        have z2 : wrap64 ((j : Int) - 1) = (j : Int) - 1 := by first | (rw [wrap64_id]; omega) | (simp [wrap64]; omega)
        exact ⟨i + 1, (j : Int) - 1, by rw [z1]; rfl, by rw [z2], by have := HJ.out; omega, Nat.le_refl _, hr3, hb2.drew⟩
    · have hr2 := hrow.congr (g := fun k => lnAt l (n - 1 - k)) fun k hk => by
        have hN := HN.out
        unfold midT
        rw [hN]
        by_cases e3 : k < i ∨ n - 1 - i < k
        · rw [if_pos e3]
        · rw [if_neg e3, show n - 1 - k = k by omega]
      go_wp2
      go_end0
      exact ⟨rfl, hr2, hbel⟩

/-- what Turned returns -/
def turnL (r : List Pt) : List Pt := if lineB r = true then r.reverse else []
set_option maxRecDepth 100000 in
set_option maxHeartbeats 1000000 in
theorem turned_any (v : Value) (r : List Pt) (w : World) (hv : PtSl w v r) :
    Calls Try.prog 21 #[v] w fun e w' => ∃ u, e = .returned u ∧ PtSl w' u (turnL r) ∧ Below w.heap.size w w' := by
  have HV := Lib.hid (lvalid_any v r w hv)
  unfold turnL
  cases hl : lineB r with
  | false =>
    rw [hl] at HV
    rw [if_neg Bool.false_ne_true]
    obtain ⟨a, cap, rfl⟩ := hv.form
    clear hv hl
    generalize r.length = n at *
    go_enter Try.func21, Try.ntmps21
    go_wp2_with fail
    refine HV.out.mono ?_
    rintro e w1 ⟨rfl, hb1⟩
    go_wp2
    go_ret
    exact ⟨_, rfl, .inl ⟨rfl, _, _, rfl⟩, hb1⟩
  | true =>
    have hlen := ((line_iff r).1 hl).1
    rw [hl] at HV
    rw [if_pos rfl]
    have HC := Lib.hid (fun w1 (hb : Below w.heap.size w w1) => clone_pts w1 v r (hv.below hb) (by omega))
    obtain ⟨a, cap, rfl⟩ := hv.form
    clear hv hl
    have HN := Lib.hid hlen
    clear hlen
    go_enter Try.func21, Try.ntmps21
    go_wp2_with fail
    refine HV.out.mono ?_
    rintro e w1 ⟨rfl, hb1⟩
    go_wp2_with fail
    refine (HC.out _ hb1).mono ?_
    rintro e w2 ⟨u, rfl, hown, hb2⟩
    obtain ⟨a2, cap2, rfl⟩ := hown.form
    have hb3 := hb1.trans (hb2.mono hb1.size)
    have hx : ∃ b, a2 = some ⟨b, 0, none⟩ := by
      rcases hown with ⟨hl, ⟨hv, h0⟩ | ⟨g, cap', cur, hv, -⟩⟩
      · have := HN.out; omega
      · cases hv; exact ⟨_, rfl⟩
    obtain ⟨b, rfl⟩ := hx
    obtain ⟨hrow, hB, hc, hm, hlt⟩ := RowAt.of_own hown
    have HR := Lib.hid (reverse_row b cap2 r (by have := HN.out; omega) w2 hrow hlt)
    clear hrow hown hb2
    have HL := Lib.hid (And.intro hc hm)
    clear hc hm
    go_wp2_with fail
    refine HR.out.mono ?_
    rintro e w3 ⟨rfl, hr3, hb4⟩
    go_wp2
    go_ret
    refine ⟨_, rfl, ?_, hb3.trans (hb4.mono (Nat.le_trans hb1.size hB))⟩
    have hs := hr3.sl HL.out.1 HL.out.2 (Nat.lt_of_lt_of_le hlt hb4.size)
    rw [map_turned] at hs
    exact hs
end Go.Proofs.Ytcpcmlonbpccnaa.Ge

/- Walks over package line: Nearest. -/
namespace Go.Proofs.Ytcpcmlonbpccnaa.Ge
set_option linter.unusedVariables false
set_option linter.unusedSimpArgs false
open Go.RowKit Go.Shelf
open Go.Proofs.Ytcpcmlonbpccnaa.Fr

def bestN (s : Option (Int × (Int × Int))) : Int := match s with | none => 0 | some b => b.1
/-- what a keeper of indices has in memory -/
structure KpIt (W : World) (Bb Bl Bn : Nat) (s : Option (Int × (Int × Int))) : Prop where
  best : Boxed W Bb 3 (.int .i64 (bestN s))
  least : Two W Bl 26 (.int .i64 (leastF s).1) (.int .i64 (leastF s).2)
  non : Boxed W Bn 4 (.bool s.isNone)
theorem KpIt.below {W W' : World} {Bb Bl Bn N : Nat} {s : Option (Int × (Int × Int))} (h : KpIt W Bb Bl Bn s) (hb : Below N W W') (h1 : Bb < N) (h2 : Bl < N) (h3 : Bn < N) : KpIt W' Bb Bl Bn s :=
  ⟨boxed_below h.best hb h1, h.least.below hb h2, boxed_below h.non hb h3⟩
theorem keeperi_any (w : World) :
    Calls Try.prog 60 #[] w fun e w' => e = .returned (.func (.func 102) #[] #[.pointer (some ⟨w.heap.size + 1, 0, none⟩), .pointer (some ⟨w.heap.size + 1 + 1, 0, none⟩), .pointer (some ⟨w.heap.size, 0, none⟩)]) ∧ KpIt w' w.heap.size (w.heap.size + 1) (w.heap.size + 1 + 1) none ∧ Below w.heap.size w w' ∧ w'.heap.size = w.heap.size + 3 := by
  go_enter Try.func60, Try.ntmps60
  go_wp2_with fail
  go_ret
  refine ⟨rfl, ⟨?_, ?_, ?_⟩, ?_, by simp⟩
  · exact ((Boxed.new w _ _).alloc _).alloc _
  · exact (Two.at (w := w.alloc _) (by simp) _ _ _).alloc _
  · have h := Boxed.new ((w.alloc (.cells #[.int .i64 0] 3)).alloc (.cells #[.int .i64 0, .int .i64 0] 26)) 4 (.bool true)
    simp only [World.size_alloc] at h
    exact h
  · exact (((Below.refl _ w).alloc (Nat.le_refl _) _).alloc (by simp) _).alloc (by simp; omega) _
/-- the world in which a keeper has been told of something better -/
def toldI (w : World) (Bb Bl Bn : Nat) (x : Int) (f : Int × Int) : World :=
  ((((w.setCell ⟨Bb, 0, none⟩ (.int .i64 x)).setCell ⟨Bl, 0, none⟩ (.int .i64 f.1)).setCell ⟨Bl, 1, none⟩ (.int .i64 f.2)).setCell ⟨Bn, 0, none⟩ (.bool false)).drew
theorem toldi_st {w : World} {Bb Bl Bn : Nat} {s : Option (Int × (Int × Int))} (h : KpIt w Bb Bl Bn s) (h12 : Bb ≠ Bl) (h13 : Bb ≠ Bn) (h23 : Bl ≠ Bn) (x : Int) (f : Int × Int) : KpIt (toldI w Bb Bl Bn x f) Bb Bl Bn (some (x, f)) := by
  have a1 : Boxed (w.setCell ⟨Bb, 0, none⟩ (.int .i64 x)) Bb 3 (.int .i64 x) := h.best.set _
  have a2 := two_other h.least (p := ⟨Bb, 0, none⟩) (Ne.symm h12) (.int .i64 x)
  have a3 := boxed_other h.non (p := ⟨Bb, 0, none⟩) (Ne.symm h13) (.int .i64 x)
  unfold toldI
  generalize w.setCell ⟨Bb, 0, none⟩ (.int .i64 x) = v at *
  have b1 := boxed_other a1 (p := ⟨Bl, 0, none⟩) h12 (.int .i64 f.1)
  have b2 := a2.set2 (.int .i64 f.1) (.int .i64 f.2)
  have b3 := boxed_other a3 (p := ⟨Bl, 0, none⟩) (Ne.symm h23) (.int .i64 f.1)
  generalize v.setCell ⟨Bl, 0, none⟩ (.int .i64 f.1) = v1 at *
  have c1 := boxed_other b1 (p := ⟨Bl, 1, none⟩) h12 (.int .i64 f.2)
  have c3 := boxed_other b3 (p := ⟨Bl, 1, none⟩) (Ne.symm h23) (.int .i64 f.2)
  generalize v1.setCell ⟨Bl, 1, none⟩ (.int .i64 f.2) = v2 at *
  exact ⟨boxed_other c1 (p := ⟨Bn, 0, none⟩) h13 _, two_other b2 (p := ⟨Bn, 0, none⟩) h23 _, c3.set _⟩
theorem toldi_kept {w0 w : World} {Bb Bl Bn : Nat} (h : Kept3 Bb Bl Bn w0 w) (x : Int) (f : Int × Int) : Kept3 Bb Bl Bn w0 (toldI w Bb Bl Bn x f) :=
  ((((h.set (p := ⟨Bb, 0, none⟩) (.inl rfl) _).set (p := ⟨Bl, 0, none⟩) (.inr (.inl rfl)) _).set (p := ⟨Bl, 1, none⟩) (.inr (.inl rfl)) _).set (p := ⟨Bn, 0, none⟩) (.inr (.inr (.inl rfl))) _).drew

set_option maxRecDepth 100000 in
set_option maxHeartbeats 2000000 in
theorem keepi_none (x : Int) (f : Int × Int) (Bb Bl Bn : Nat) (h12 : Bb ≠ Bl) (h13 : Bb ≠ Bn) (h23 : Bl ≠ Bn) (w : World) (h : KpIt w Bb Bl Bn none) :
    Calls Try.prog 102 #[.int .i64 x, .agg #[.int .i64 f.1, .int .i64 f.2], .pointer (some ⟨Bl, 0, none⟩), .pointer (some ⟨Bn, 0, none⟩), .pointer (some ⟨Bb, 0, none⟩)] w fun e w' =>
      e = .returned (.int .i64 (x, f).1) ∧ KpIt w' Bb Bl Bn (some (x, f)) ∧ Kept3 Bb Bl Bn w w' := by
  have HCmp := Lib.hid (fun w => compare_any f.1 f.2 (leastF (none : Option (Int × (Int × Int)))).1 (leastF (none : Option (Int × (Int × Int)))).2 w)
  have hb0 : Below w.heap.size w (w.alloc (.cells #[.int .i64 f.1, .int .i64 f.2] 26)) := (Below.refl _ w).alloc (Nat.le_refl _) _
  have h0 := h.below hb0 h.best.lt h.least.lt h.non.lt
  have bf := Two.new w 26 (.int .i64 f.1) (.int .i64 f.2)
  have hsz : (w.alloc (.cells #[.int .i64 f.1, .int .i64 f.2] 26)).heap.size = w.heap.size + 1 := by simp
  go_enter Try.func102, Try.ntmps102
  obtain ⟨lb, ll, ln⟩ := h
  have l1 := lb.lt
  have l2 := ll.lt
  have l3 := ln.lt
  obtain ⟨c1, c2, c3, c4⟩ := bf.facts
  obtain ⟨d1, d2, d3, d4⟩ := h0.least.facts
  clear lb ll ln
  go_wp2_with fail
  refine (HCmp.out _).mono ?_
  rintro r w1 ⟨rfl, hb1⟩
  have bf1 := bf.below hb1 bf.lt
  have h1 := h0.below hb1 (by omega) (by omega) (by omega)
  have hsz1 := hb1.size
  have hk1 : Kept3 Bb Bl Bn w w1 := .of (hb0.trans (hb1.mono (by omega)))
  clear c1 c2 c3 c4 d1 d2 d3 d4
  clear HCmp hb0 hb1 h0 bf
  obtain ⟨c1, c2, c3, c4⟩ := bf1.facts
  have m0 := h1.best.cell
  have n0 := h1.best.frozen
  obtain ⟨d1, d2, d3, d4⟩ := h1.least.facts
  have e1 := h1.non.cell
  have e2 := h1.non.frozen
  have KS := Lib.hid (toldi_st h1 h12 h13 h23 x f)
  have KK := Lib.hid (toldi_kept hk1 x f)
  go_wp2
  go_region
  change Exit.then _ _ _ _ (toldI w1 Bb Bl Bn x f)
  generalize toldI w1 Bb Bl Bn x f = w2 at *
  clear c1 c2 c3 c4 m0 n0 d1 d2 d3 d4 e1 e2
  have y0 := KS.out.best.cell
  dsimp only [bestN] at y0
  go_wp2
  go_ret
  exact ⟨rfl, KS.out, KK.out⟩

set_option maxRecDepth 100000 in
set_option maxHeartbeats 2000000 in
theorem keepi_yes (x : Int) (f : Int × Int) (b : Int × (Int × Int)) (hl : fLt f b.2 = true) (Bb Bl Bn : Nat) (h12 : Bb ≠ Bl) (h13 : Bb ≠ Bn) (h23 : Bl ≠ Bn) (w : World) (h : KpIt w Bb Bl Bn (some b)) :
    Calls Try.prog 102 #[.int .i64 x, .agg #[.int .i64 f.1, .int .i64 f.2], .pointer (some ⟨Bl, 0, none⟩), .pointer (some ⟨Bn, 0, none⟩), .pointer (some ⟨Bb, 0, none⟩)] w fun e w' =>
      e = .returned (.int .i64 (x, f).1) ∧ KpIt w' Bb Bl Bn (some (x, f)) ∧ Kept3 Bb Bl Bn w w' := by
  have HCmp := Lib.hid (fun w => compare_any f.1 f.2 (leastF ((some b) : Option (Int × (Int × Int)))).1 (leastF ((some b) : Option (Int × (Int × Int)))).2 w)
  have hb0 : Below w.heap.size w (w.alloc (.cells #[.int .i64 f.1, .int .i64 f.2] 26)) := (Below.refl _ w).alloc (Nat.le_refl _) _
  have h0 := h.below hb0 h.best.lt h.least.lt h.non.lt
  have bf := Two.new w 26 (.int .i64 f.1) (.int .i64 f.2)
  have hsz : (w.alloc (.cells #[.int .i64 f.1, .int .i64 f.2] 26)).heap.size = w.heap.size + 1 := by simp
  go_enter Try.func102, Try.ntmps102
  obtain ⟨lb, ll, ln⟩ := h
  have l1 := lb.lt
  have l2 := ll.lt
  have l3 := ln.lt
  obtain ⟨c1, c2, c3, c4⟩ := bf.facts
  obtain ⟨d1, d2, d3, d4⟩ := h0.least.facts
  clear lb ll ln
  go_wp2_with fail
  refine (HCmp.out _).mono ?_
  rintro r w1 ⟨rfl, hb1⟩
  have bf1 := bf.below hb1 bf.lt
  have h1 := h0.below hb1 (by omega) (by omega) (by omega)
  have hsz1 := hb1.size
  have hk1 : Kept3 Bb Bl Bn w w1 := .of (hb0.trans (hb1.mono (by omega)))
  clear c1 c2 c3 c4 d1 d2 d3 d4
  clear HCmp hb0 hb1 h0 bf
  obtain ⟨c1, c2, c3, c4⟩ := bf1.facts
  have m0 := h1.best.cell
  have n0 := h1.best.frozen
  obtain ⟨d1, d2, d3, d4⟩ := h1.least.facts
  have e1 := h1.non.cell
  have e2 := h1.non.frozen
  have hd : decide (cmpV f.1 f.2 (leastF (some b)).1 (leastF (some b)).2 < 0) = true := hl
  have KS := Lib.hid (toldi_st h1 h12 h13 h23 x f)
  have KK := Lib.hid (toldi_kept hk1 x f)
  go_wp2
  go_region
  change Exit.then _ _ _ _ (toldI w1 Bb Bl Bn x f)
  generalize toldI w1 Bb Bl Bn x f = w2 at *
  clear c1 c2 c3 c4 m0 n0 d1 d2 d3 d4 e1 e2
  have y0 := KS.out.best.cell
  dsimp only [bestN] at y0
  go_wp2
  go_ret
  exact ⟨rfl, KS.out, KK.out⟩

set_option maxRecDepth 100000 in
set_option maxHeartbeats 2000000 in
theorem keepi_no (x : Int) (f : Int × Int) (b : Int × (Int × Int)) (hl : fLt f b.2 = false) (Bb Bl Bn : Nat) (h12 : Bb ≠ Bl) (h13 : Bb ≠ Bn) (h23 : Bl ≠ Bn) (w : World) (h : KpIt w Bb Bl Bn (some b)) :
    Calls Try.prog 102 #[.int .i64 x, .agg #[.int .i64 f.1, .int .i64 f.2], .pointer (some ⟨Bl, 0, none⟩), .pointer (some ⟨Bn, 0, none⟩), .pointer (some ⟨Bb, 0, none⟩)] w fun e w' =>
      e = .returned (.int .i64 b.1) ∧ KpIt w' Bb Bl Bn (some b) ∧ Kept3 Bb Bl Bn w w' := by
  have HCmp := Lib.hid (fun w => compare_any f.1 f.2 (leastF ((some b) : Option (Int × (Int × Int)))).1 (leastF ((some b) : Option (Int × (Int × Int)))).2 w)
  have hb0 : Below w.heap.size w (w.alloc (.cells #[.int .i64 f.1, .int .i64 f.2] 26)) := (Below.refl _ w).alloc (Nat.le_refl _) _
  have h0 := h.below hb0 h.best.lt h.least.lt h.non.lt
  have bf := Two.new w 26 (.int .i64 f.1) (.int .i64 f.2)
  have hsz : (w.alloc (.cells #[.int .i64 f.1, .int .i64 f.2] 26)).heap.size = w.heap.size + 1 := by simp
  go_enter Try.func102, Try.ntmps102
  obtain ⟨lb, ll, ln⟩ := h
  have l1 := lb.lt
  have l2 := ll.lt
  have l3 := ln.lt
  obtain ⟨c1, c2, c3, c4⟩ := bf.facts
  obtain ⟨d1, d2, d3, d4⟩ := h0.least.facts
  clear lb ll ln
  go_wp2_with fail
  refine (HCmp.out _).mono ?_
  rintro r w1 ⟨rfl, hb1⟩
  have bf1 := bf.below hb1 bf.lt
  have h1 := h0.below hb1 (by omega) (by omega) (by omega)
  have hsz1 := hb1.size
  have hk1 : Kept3 Bb Bl Bn w w1 := .of (hb0.trans (hb1.mono (by omega)))
  clear c1 c2 c3 c4 d1 d2 d3 d4
  clear HCmp hb0 hb1 h0 bf
  obtain ⟨c1, c2, c3, c4⟩ := bf1.facts
  have m0 := h1.best.cell
  have n0 := h1.best.frozen
  obtain ⟨d1, d2, d3, d4⟩ := h1.least.facts
  have e1 := h1.non.cell
  have e2 := h1.non.frozen
  have hd : decide (cmpV f.1 f.2 (leastF (some b)).1 (leastF (some b)).2 < 0) = false := hl
  go_wp2
  go_ret
  exact ⟨rfl, h1, hk1⟩

theorem keepi_any (x : Int) (f : Int × Int) (s : Option (Int × (Int × Int))) (Bb Bl Bn : Nat) (h12 : Bb ≠ Bl) (h13 : Bb ≠ Bn) (h23 : Bl ≠ Bn) (w : World) (h : KpIt w Bb Bl Bn s) :
    Calls Try.prog 102 #[.int .i64 x, .agg #[.int .i64 f.1, .int .i64 f.2], .pointer (some ⟨Bl, 0, none⟩), .pointer (some ⟨Bn, 0, none⟩), .pointer (some ⟨Bb, 0, none⟩)] w fun e w' =>
      e = .returned (.int .i64 (kp s x f).1) ∧ KpIt w' Bb Bl Bn (some (kp s x f)) ∧ Kept3 Bb Bl Bn w w' := by
  cases s with
  | none => exact keepi_none x f Bb Bl Bn h12 h13 h23 w h
  | some b =>
    cases hl : fLt f b.2 with
    | true => rw [kp_yes x hl]; exact keepi_yes x f b hl Bb Bl Bn h12 h13 h23 w h
    | false => rw [kp_no x hl]; exact keepi_no x f b hl Bb Bl Bn h12 h13 h23 w h

/-! ### several lines -/
/-- v is a list of lines -/
def RwSl (w : World) (v : Value) (ls : List (List Pt)) : Prop :=
  (ls = [] ∧ ∃ a cap, v = .slice a 0 cap) ∨
  ∃ b off cap, v = .slice (some ⟨b, off, none⟩) ls.length cap ∧ 0 < ls.length ∧ b < w.heap.size ∧ (ls.length ≤ cap ∧ cap ≤ maxLen) ∧ ∃ vs : Nat → Value, ∀ i (h : i < ls.length), w.cell? ⟨b, off + i, none⟩ = some (vs i) ∧ PtSl w (vs i) ls[i]
theorem RwSl.below {w w' : World} {v : Value} {l : List (List Pt)} (h : RwSl w v l) (hb : Below w.heap.size w w') : RwSl w' v l := by
  rcases h with h | ⟨b, off, cap, hv, h0, hlt, hm, vs, hc⟩
  · exact .inl h
  · exact .inr ⟨b, off, cap, hv, h0, Nat.lt_of_lt_of_le hlt hb.size, hm, vs, fun i hi => ⟨(hb.cell (p := ⟨b, off + i, none⟩) hlt).trans (hc i hi).1, (hc i hi).2.below hb⟩⟩
theorem RwSl.form {w : World} {v : Value} {l : List (List Pt)} (h : RwSl w v l) : ∃ a cap, v = .slice a l.length cap := by
  rcases h with ⟨rfl, a, cap, rfl⟩ | ⟨b, off, cap, rfl, _⟩
  · exact ⟨a, cap, rfl⟩
  · exact ⟨_, _, rfl⟩
def lnN (ls : List (List Pt)) (k : Nat) : List Pt := ls.getD k []
theorem lnN_lt {ls : List (List Pt)} {k : Nat} (h : k < ls.length) : lnN ls k = ls[k] := by unfold lnN; rw [List.getD_eq_getElem?_getD, List.getElem?_eq_getElem h]; rfl
def stN (p : Pt) (ls : List (List Pt)) : Nat → Option (Int × (Int × Int))
  | 0 => none
  | k + 1 => some (kp (stN p ls k) (k : Int) (locS (lnN ls k) p).2.2.2)
def allN (p : Pt) (ls : List (List Pt)) : Prop := ∀ k, k < ls.length → locB (lnN ls k) p = true
instance (p : Pt) (ls : List (List Pt)) : Decidable (allN p ls) := inferInstanceAs (Decidable (∀ k, k < ls.length → _))
def nearE (p : Pt) (ls : List (List Pt)) : Int := if 400 < ls.length then 2 else if ls.length = 0 ∨ ¬ allN p ls then 1 else 0
def nearI (p : Pt) (ls : List (List Pt)) : Int := if nearE p ls = 0 then bestN (stN p ls ls.length) else 0
theorem near_bad {p : Pt} {ls : List (List Pt)} {k : Nat} (hk : k < ls.length) (h4 : ¬ 400 < ls.length) (h : locB (lnN ls k) p = false) : nearE p ls = 1 ∧ nearI p ls = 0 := by
  have e : nearE p ls = 1 := by
    unfold nearE
    rw [if_neg h4, if_pos (.inr fun a => by rw [a k hk] at h; cases h)]
  refine ⟨e, ?_⟩
  unfold nearI
  rw [e]
  rfl
theorem near_good {p : Pt} {ls : List (List Pt)} (h4 : ¬ 400 < ls.length) (h0 : ls.length ≠ 0) (h : allN p ls) : nearE p ls = 0 ∧ nearI p ls = bestN (stN p ls ls.length) := by
  have e : nearE p ls = 0 := by
    unfold nearE
    rw [if_neg h4, if_neg (fun k => k.elim h0 fun m => m h)]
  refine ⟨e, ?_⟩
  unfold nearI
  rw [if_pos e]
theorem locE_of {r : List Pt} {p : Pt} : (locB r p = true → locE r p = 0) ∧ (locB r p = false → locE r p = 1) := by
  unfold locE
  exact ⟨fun h => if_pos h, fun h => if_neg (by rw [h]; exact Bool.false_ne_true)⟩
theorem bestN_snoc (p : Pt) (ls : List (List Pt)) (k : Nat) : bestN (stN p ls (k + 1)) = (kp (stN p ls k) (k : Int) (locS (lnN ls k) p).2.2.2).1 := rfl

set_option maxRecDepth 100000 in
set_option maxHeartbeats 2000000 in
theorem near_long (b off cap : Nat) (ls : List (List Pt)) (p : Pt) (h0 : 0 < ls.length) (h4 : ls.length ≤ 400) (w : World) (hbw : b < w.heap.size) (vs : Nat → Value) (hc : ∀ i (h : i < ls.length), w.cell? ⟨b, off + i, none⟩ = some (vs i) ∧ PtSl w (vs i) ls[i]) :
    Calls Try.prog 24 #[.slice (some ⟨b, off, none⟩) ls.length cap, .agg #[.int .i64 p.1, .int .i64 p.2]] w fun e w' => e = .returned (.tuple #[.int .i64 (nearI p ls), .int .i64 (nearE p ls)]) ∧ Below w.heap.size w w' := by
  have HC := Lib.hid (fun (w' : World) (hb : Below w.heap.size w w') i (hi : i < ls.length) => (show w'.cell? ⟨b, off + i, none⟩ = some (vs i) ∧ PtSl w' (vs i) (lnN ls i) from ⟨(hb.cell (p := ⟨b, off + i, none⟩) hbw).trans (hc i hi).1, by rw [lnN_lt hi]; exact (hc i hi).2.below hb⟩))
  clear hc
  have k1 : decide (400 < (ls.length : Int)) = false := by simp; omega
  have k2 : ((ls.length : Int) == 0) = false := by rw [beq_eq_false_iff_ne]; omega
  have hb0 : Below w.heap.size w (w.alloc (.cells #[.int .i64 p.1, .int .i64 p.2] 24)) := (Below.refl _ w).alloc (Nat.le_refl _) _
  have gp := Two.new w 24 (.int .i64 p.1) (.int .i64 p.2)
  have HKp := keeperi_any (w.alloc (.cells #[.int .i64 p.1, .int .i64 p.2] 24))
  simp only [World.size_alloc] at HKp
  go_enter Try.func24, Try.ntmps24
  go_wp2_with fail
  refine HKp.mono ?_
  rintro e w1 ⟨rfl, hk1, hb1, hz1⟩
  have gp1 := gp.below hb1 (by omega)
  have hb2 := hb0.trans (hb1.mono (by omega))
  have HZ := Lib.hid hz1
  have HK1 := Lib.hid hk1
  clear gp hb0 hb1 hz1 HKp
  go_wp2_with fail
  clear hk1
  go_loopw [6, 21] (fun bv iv wr => ∃ k : Nat, k ≤ ls.length ∧ iv = .int .i64 (k : Int) ∧ bv = .int .i64 (bestN (stN p ls k)) ∧ (∀ j, j < k → locB (lnN ls j) p = true) ∧ (Two wr w.heap.size 24 (.int .i64 p.1) (.int .i64 p.2) ∧ KpIt wr (w.heap.size + 1) (w.heap.size + 1 + 1) (w.heap.size + 1 + 1 + 1) (stN p ls k)) ∧ Below w.heap.size w wr) (fun _ iv _ => ls.length - (intOf iv).toNat)
  case atStart => exact ⟨0, Nat.zero_le _, rfl, rfl, fun j hj => absurd hj (Nat.not_lt_zero _), ⟨gp1, HK1.out⟩, hb2⟩
  case round =>
    obtain ⟨k, hk, rfl, rfl, hall, ⟨jp, jk⟩, hB1⟩ := hrel
    have HA := Lib.hid hall
    clear hall
    by_cases hlt : k < ls.length
    · have hltI : (k : Int) < ls.length := by omega
      obtain ⟨cc, hsl⟩ := HC.out wr hB1 k hlt
      obtain ⟨va, hva⟩ : ∃ va, vs k = va := ⟨_, rfl⟩
      rw [hva] at cc hsl
      obtain ⟨g0, g1, g2, g3⟩ := jp.facts
      have HL := Lib.hid (locate_any va (lnN ls k) p wr hsl)
      obtain ⟨aa, cap2, rfl⟩ := hsl.form
      have HS := Lib.hid hsl
      clear hsl hva
      generalize (lnN ls k).length = nk at *
      cases hb : locB (lnN ls k) p with
      | false =>
        rw [locE_of.2 hb] at HL
        have HN := Lib.hid (near_bad hlt (by omega) hb)
        generalize locS (lnN ls k) p = S at *
        unfold spV at HL
        go_wp2_with fail
        refine HL.out.mono ?_
        rintro e w3 ⟨rfl, hb3⟩
        have hb4 := (hB1.trans (hb3.mono hB1.size)).alloc (hB1.trans (hb3.mono hB1.size)).size (.cells #[.int .i64 S.1, .int .i64 S.2.1.1, .int .i64 S.2.1.2, .int .i64 S.2.2.1, .int .i64 S.2.2.2.1, .int .i64 S.2.2.2.2] 28)
        go_wp2
        go_ret2
        exact ⟨by rw [HN.out.1, HN.out.2]; rfl, hb4⟩
      | true =>
        rw [locE_of.1 hb] at HL
        have HB := Lib.hid hb
        have HNX := Lib.hid (bestN_snoc p ls k)
        have HST := Lib.hid (show stN p ls (k + 1) = some (kp (stN p ls k) (k : Int) (locS (lnN ls k) p).2.2.2) from rfl)
        clear hb
        obtain ⟨S, hS⟩ : ∃ S, locS (lnN ls k) p = S := ⟨_, rfl⟩
        rw [hS] at HL HNX HST
        clear hS
        unfold spV at HL
        go_wp2_with fail
        refine HL.out.mono ?_
        rintro e w3 ⟨rfl, hb3⟩
        have jp3 := (jp.below hb3 jp.lt).alloc (.cells #[.int .i64 S.1, .int .i64 S.2.1.1, .int .i64 S.2.1.2, .int .i64 S.2.2.1, .int .i64 S.2.2.2.1, .int .i64 S.2.2.2.2] 28)
        have jk3' := jk.below hb3 jk.best.lt jk.least.lt jk.non.lt
        have hba : Below w3.heap.size w3 (w3.alloc (.cells #[.int .i64 S.1, .int .i64 S.2.1.1, .int .i64 S.2.1.2, .int .i64 S.2.2.1, .int .i64 S.2.2.2.1, .int .i64 S.2.2.2.2] 28)) := (Below.refl _ w3).alloc (Nat.le_refl _) _
        have jk3 := jk3'.below hba jk3'.best.lt jk3'.least.lt jk3'.non.lt
        have hb4 := (hB1.trans (hb3.mono hB1.size)).alloc (hB1.trans (hb3.mono hB1.size)).size (.cells #[.int .i64 S.1, .int .i64 S.2.1.1, .int .i64 S.2.1.2, .int .i64 S.2.2.1, .int .i64 S.2.2.2.1, .int .i64 S.2.2.2.2] 28)
        have jS := SpAt.new w3 S
        have hz4 := hb4.size
        have l1 := jk3.best.lt
        have l2 := jk3.least.lt
        have l3 := jk3.non.lt
        have l4 := jp3.lt
        have HKi := Lib.hid (keepi_any (k : Int) S.2.2.2 (stN p ls k) (w.heap.size + 1) (w.heap.size + 1 + 1) (w.heap.size + 1 + 1 + 1) (by omega) (by omega) (by omega) _ jk3)
        obtain ⟨⟨s0, s1, s2, s3, s4, s5⟩, -⟩ := jS.facts
        clear jk3' hba g0 g1 g2 g3 cc jS
        go_wp2_with fail
        refine HKi.out.mono ?_
        rintro e w4 ⟨rfl, jk4, hk4⟩
        have hb5 := hb4.trans (hk4.to_below (by omega) (by omega) (by omega) hz4)
        have jp4 : Two w4 w.heap.size 24 (.int .i64 p.1) (.int .i64 p.2) := (hk4.block _ l4 (by omega) (by omega) (by omega)).trans jp3
        rw [← HNX.out]
        rw [← HST.out] at jk4
        have HK4 := Lib.hid jk4
        clear s0 s1 s2 s3 s4 s5 jk4 HNX HST
        go_wp2
        go_roundw
        case rel => exact ⟨k + 1, by omega, by go_num, rfl, fun j hj => by
          rcases Nat.lt_or_ge j k with m | m
          · exact HA.out j m
          · obtain rfl : j = k := by omega
            exact HB.out, ⟨jp4, HK4.out⟩, hb5⟩
        case measure => simp [intOf]; omega
    · obtain rfl : k = ls.length := by omega
      have HN := Lib.hid (near_good (p := p) (ls := ls) (by omega) (by omega) HA.out)
      go_wp2
      go_ret2
      exact ⟨by rw [HN.out.1, HN.out.2]; rfl, hB1⟩
theorem nearest_any (v : Value) (ls : List (List Pt)) (p : Pt) (w : World) (hv : RwSl w v ls) :
    Calls Try.prog 24 #[v, .agg #[.int .i64 p.1, .int .i64 p.2]] w fun e w' => e = .returned (.tuple #[.int .i64 (nearI p ls), .int .i64 (nearE p ls)]) ∧ Below w.heap.size w w' := by
  by_cases h4 : 400 < ls.length
  · have e : nearE p ls = 2 := by unfold nearE; rw [if_pos h4]
    have ei : nearI p ls = 0 := by unfold nearI; rw [e]; rfl
    rw [e, ei]
    obtain ⟨a, cap, rfl⟩ := hv.form
    have k1 : decide (400 < (ls.length : Int)) = true := by simp; omega
    clear hv h4 e ei
    generalize ls.length = n at *
    go_enter Try.func24, Try.ntmps24
    go_wp2
    go_ret2
    exact ⟨rfl, (Below.refl _ _).alloc (Nat.le_refl _) _⟩
  · rcases hv with ⟨rfl, a, cap, rfl⟩ | ⟨b, off, cap, rfl, h0, hlt, hm, vs, hc⟩
    · have e : nearE p [] = 1 := by unfold nearE; rw [if_neg h4, if_pos (.inl rfl)]
      have ei : nearI p [] = 0 := by unfold nearI; rw [e]; rfl
      rw [e, ei]
      clear h4 e ei
      go_enter Try.func24, Try.ntmps24
      go_wp2
      go_ret2
      exact ⟨rfl, (Below.refl _ _).alloc (Nat.le_refl _) _⟩
    · exact near_long b off cap ls p h0 (by omega) w hlt vs hc
end Go.Proofs.Ytcpcmlonbpccnaa.Ge

/- The head of layer 9's laws: the chapter's examples. -/
namespace Go.Proofs.Ytcpcmlonbpccnaa.Ge
set_option linter.unusedVariables false
set_option linter.unusedSimpArgs false
open Go.RowKit
open Go.Proofs.Ytcpcmlonbpccnaa.Fr

def lE : List Pt := [(0, 0), (10, 0), (10, 10)]
def lF : List Pt := [(0, 9), (9, 9)]
theorem Pts.sl9 {w : World} {b : Nat} {l : List Pt} (h : Pts w b l) (h0 : 0 < l.length) (h1 : l.length ≤ 1000) : PtSl w (.slice (some ⟨b, 0, none⟩) l.length l.length) l :=
  .inr ⟨b, 0, l.length, rfl, h0, h.1, ⟨Nat.le_refl _, by unfold maxLen; omega⟩, fun i hi => by rw [Nat.zero_add]; exact h.2 i hi⟩
theorem lE_sl (w : World) : PtSl (w.alloc (.cells #[.int .i64 0, .int .i64 0, .int .i64 10, .int .i64 0, .int .i64 10, .int .i64 10] 24)) (.slice (some ⟨w.heap.size, 0, none⟩) 3 3) lE := by
  refine Pts.sl9 (l := lE) (pts_new rfl _ _ _ fun i hi => ?_) (by decide) (by decide)
  have hi : i < 3 := hi
  obtain rfl | rfl | rfl : i = 0 ∨ i = 1 ∨ i = 2 := by omega
  all_goals exact ⟨rfl, rfl⟩
theorem lF_sl (w : World) : PtSl (w.alloc (.cells #[.int .i64 0, .int .i64 9, .int .i64 9, .int .i64 9] 24)) (.slice (some ⟨w.heap.size, 0, none⟩) 2 2) lF := by
  refine Pts.sl9 (l := lF) (pts_new rfl _ _ _ fun i hi => ?_) (by decide) (by decide)
  have hi : i < 2 := hi
  obtain rfl | rfl : i = 0 ∨ i = 1 := by omega
  all_goals exact ⟨rfl, rfl⟩
theorem lspot_any (a b c d e : Int) (w : World) :
    Calls Try.prog 48 #[.int .i64 a, .int .i64 b, .int .i64 c, .int .i64 d, .int .i64 e] w fun r w' => r = .returned (.agg #[.int .i64 a, .int .i64 b, .int .i64 c, .int .i64 d, .int .i64 e, .int .i64 1]) ∧ Below w.heap.size w w' := by
  go_enter Try.func48, Try.ntmps48
  go_wp2
  refine bodyPost_ret (v := .agg #[.int .i64 a, .int .i64 b, .int .i64 c, .int .i64 d, .int .i64 e, .int .i64 1]) ?_ rfl ⟨rfl, (Below.refl _ _).alloc (Nat.le_refl _) _⟩
  simp [results, Try.f48, go_sem]
theorem two_rows {w : World} {u v : Value} {x y : List Pt} (hx : PtSl w u x) (hy : PtSl w v y) : RwSl (w.alloc (.cells #[u, v] 22)) (.slice (some ⟨w.heap.size, 0, none⟩) 2 2) [x, y] := by
  have hb : Below w.heap.size w (w.alloc (.cells #[u, v] 22)) := (Below.refl _ w).alloc (Nat.le_refl _) _
  have hg : (w.alloc (.cells #[u, v] 22)).heap[w.heap.size]? = some (.cells #[u, v] 22 (0, 0)) := World.alloc_heap_new w _
  refine .inr ⟨w.heap.size, 0, 2, rfl, by simp, by simp, ⟨Nat.le_refl _, by unfold maxLen; decide⟩, fun i => if i = 0 then u else v, fun i hi => ?_⟩
  have hi : i < 2 := hi
  obtain rfl | rfl : i = 0 ∨ i = 1 := by omega
  · exact ⟨by simp only [World.cell?, hg]; rfl, hx.below hb⟩
  · exact ⟨by simp only [World.cell?, hg]; rfl, hy.below hb⟩

theorem exE1 : locS lE (4, 3) = (0, (2, 5), 1, (9, 1)) ∧ locE lE (4, 3) = 0 := by decide +kernel
theorem exE2 : locE lE (4, -3) = 1 ∧ locS lE (4, -3) = (0, (0, 0), 0, (0, 0)) := by decide +kernel
theorem exE3 : locS lE (12, 5) = (1, (1, 2), -1, (4, 1)) ∧ locE lE (12, 5) = 0 := by decide +kernel
theorem exE4 : locS lE (11, 0) = (0, (1, 1), 0, (1, 1)) ∧ locE lE (11, 0) = 0 := by decide +kernel
theorem exE5 : nearI (9, 4) [lF, lE] = 1 ∧ nearE (9, 4) [lF, lE] = 0 := by decide +kernel
theorem exE6 : befV (0, (1, 1), 0, (0, 1)) (1, (0, 1), 0, (0, 1)) = 0 := by decide +kernel
theorem exE7 : befV (0, (1, 2), 0, (0, 1)) (1, (0, 1), 0, (0, 1)) = -1 := by decide +kernel

set_option maxRecDepth 100000 in
set_option maxHeartbeats 8000000 in
theorem head9_any (w : World) :
    Calls Try.prog 13 #[] w fun e w' => e = .returned (.bool true) ∧ Below w.heap.size w w' := by
  have H1 := Lib.hid (fun (v : Value) (w : World) (h : PtSl w v lE) => locate_any v lE (4, 3) w h)
  have H2 := Lib.hid (fun (v : Value) (w : World) (h : PtSl w v lE) => locate_any v lE (4, -3) w h)
  have H3 := Lib.hid (fun (v : Value) (w : World) (h : PtSl w v lE) => locate_any v lE (12, 5) w h)
  have H4 := Lib.hid (fun (v : Value) (w : World) (h : PtSl w v lE) => locate_any v lE (11, 0) w h)
  have H5 := Lib.hid (fun (v : Value) (w : World) (h : RwSl w v [lF, lE]) => nearest_any v [lF, lE] (9, 4) w h)
  have H6 := Lib.hid (fun w => Before_any (0, (1, 1), 0, (0, 1)) (1, (0, 1), 0, (0, 1)) w)
  have H7 := Lib.hid (fun w => Before_any (0, (1, 2), 0, (0, 1)) (1, (0, 1), 0, (0, 1)) w)
  rw [exE1.1, exE1.2] at H1
  rw [exE2.1, exE2.2] at H2
  rw [exE3.1, exE3.2] at H3
  rw [exE4.1, exE4.2] at H4
  rw [exE5.1, exE5.2] at H5
  rw [exE6] at H6
  rw [exE7] at H7
  unfold spV at *
  dsimp only at H1 H2 H3 H4 H6 H7
  have HL := lE_sl w
  have hb0 : Below w.heap.size w (w.alloc (.cells #[.int .i64 0, .int .i64 0, .int .i64 10, .int .i64 0, .int .i64 10, .int .i64 10] 24)) := (Below.refl _ w).alloc (Nat.le_refl _) _
  go_enter Try.func13, Try.ntmps13
  go_wp2_with fail
  refine (H1.out _ _ HL).mono ?_
  rintro e v1 ⟨rfl, hc1⟩
  have M1 := HL.below hc1
  have hd1 := hb0.trans (hc1.mono hb0.size)
  have ha1 : Below v1.heap.size v1 (v1.alloc (.cells #[.int .i64 0, .int .i64 2, .int .i64 5, .int .i64 1, .int .i64 9, .int .i64 1] 28)) := (Below.refl _ _).alloc (Nat.le_refl _) _
  have N1 := M1.below ha1
  have he1 := hd1.trans (ha1.mono hd1.size)
  have q1_1 : SpAt (v1.alloc (.cells #[.int .i64 0, .int .i64 2, .int .i64 5, .int .i64 1, .int .i64 9, .int .i64 1] 28)) v1.heap.size (0, (2, 5), 1, (9, 1)) := SpAt.new v1 (0, (2, 5), 1, (9, 1))
  clear HL hb0 M1 hd1 ha1 hc1
  go_wp2_with fail
  refine (H2.out _ _ N1).mono ?_
  rintro e v2 ⟨rfl, hc2⟩
  have M2 := N1.below hc2
  have hd2 := he1.trans (hc2.mono he1.size)
  have ha2 : Below v2.heap.size v2 (v2.alloc (.cells #[.int .i64 0, .int .i64 0, .int .i64 0, .int .i64 0, .int .i64 0, .int .i64 0] 28)) := (Below.refl _ _).alloc (Nat.le_refl _) _
  have N2 := M2.below ha2
  have he2 := hd2.trans (ha2.mono hd2.size)
  have q2_2 : SpAt (v2.alloc (.cells #[.int .i64 0, .int .i64 0, .int .i64 0, .int .i64 0, .int .i64 0, .int .i64 0] 28)) v2.heap.size (0, (0, 0), 0, (0, 0)) := SpAt.new v2 (0, (0, 0), 0, (0, 0))
  have p1_2 := q1_1.below hc2 q1_1.lt
  have q1_2 := p1_2.below ha2 p1_2.lt
  clear N1 he1 M2 hd2 ha2 hc2 p1_2 q1_1
  go_wp2_with fail
  refine (H3.out _ _ N2).mono ?_
  rintro e v3 ⟨rfl, hc3⟩
  have M3 := N2.below hc3
  have hd3 := he2.trans (hc3.mono he2.size)
  have ha3 : Below v3.heap.size v3 (v3.alloc (.cells #[.int .i64 1, .int .i64 1, .int .i64 2, .int .i64 (-1), .int .i64 4, .int .i64 1] 28)) := (Below.refl _ _).alloc (Nat.le_refl _) _
  have N3 := M3.below ha3
  have he3 := hd3.trans (ha3.mono hd3.size)
  have q3_3 : SpAt (v3.alloc (.cells #[.int .i64 1, .int .i64 1, .int .i64 2, .int .i64 (-1), .int .i64 4, .int .i64 1] 28)) v3.heap.size (1, (1, 2), -1, (4, 1)) := SpAt.new v3 (1, (1, 2), -1, (4, 1))
  have p1_3 := q1_2.below hc3 q1_2.lt
  have q1_3 := p1_3.below ha3 p1_3.lt
  have p2_3 := q2_2.below hc3 q2_2.lt
  have q2_3 := p2_3.below ha3 p2_3.lt
  clear N2 he2 M3 hd3 ha3 hc3 p1_3 p2_3 q1_2 q2_2
  go_wp2_with fail
  refine (H4.out _ _ N3).mono ?_
  rintro e v4 ⟨rfl, hc4⟩
  have M4 := N3.below hc4
  have hd4 := he3.trans (hc4.mono he3.size)
  have ha4 : Below v4.heap.size v4 (v4.alloc (.cells #[.int .i64 0, .int .i64 1, .int .i64 1, .int .i64 0, .int .i64 1, .int .i64 1] 28)) := (Below.refl _ _).alloc (Nat.le_refl _) _
  have N4 := M4.below ha4
  have he4 := hd4.trans (ha4.mono hd4.size)
  have q4_4 : SpAt (v4.alloc (.cells #[.int .i64 0, .int .i64 1, .int .i64 1, .int .i64 0, .int .i64 1, .int .i64 1] 28)) v4.heap.size (0, (1, 1), 0, (1, 1)) := SpAt.new v4 (0, (1, 1), 0, (1, 1))
  have p1_4 := q1_3.below hc4 q1_3.lt
  have q1_4 := p1_4.below ha4 p1_4.lt
  have p2_4 := q2_3.below hc4 q2_3.lt
  have q2_4 := p2_4.below ha4 p2_4.lt
  have p3_4 := q3_3.below hc4 q3_3.lt
  have q3_4 := p3_4.below ha4 p3_4.lt
  clear N3 he3 M4 hd4 ha4 hc4 p1_4 p2_4 p3_4 q1_3 q2_3 q3_3
  have f1 := lF_sl (v4.alloc (.cells #[.int .i64 0, .int .i64 1, .int .i64 1, .int .i64 0, .int .i64 1, .int .i64 1] 28))
  have hx : Below (v4.alloc (.cells #[.int .i64 0, .int .i64 1, .int .i64 1, .int .i64 0, .int .i64 1, .int .i64 1] 28)).heap.size (v4.alloc (.cells #[.int .i64 0, .int .i64 1, .int .i64 1, .int .i64 0, .int .i64 1, .int .i64 1] 28)) ((v4.alloc (.cells #[.int .i64 0, .int .i64 1, .int .i64 1, .int .i64 0, .int .i64 1, .int .i64 1] 28)).alloc (.cells #[.int .i64 0, .int .i64 9, .int .i64 9, .int .i64 9] 24)) := (Below.refl _ _).alloc (Nat.le_refl _) _
  have f2 := N4.below hx
  have f3 := two_rows f1 f2
  have hy : Below (v4.alloc (.cells #[.int .i64 0, .int .i64 1, .int .i64 1, .int .i64 0, .int .i64 1, .int .i64 1] 28)).heap.size (v4.alloc (.cells #[.int .i64 0, .int .i64 1, .int .i64 1, .int .i64 0, .int .i64 1, .int .i64 1] 28)) (((v4.alloc (.cells #[.int .i64 0, .int .i64 1, .int .i64 1, .int .i64 0, .int .i64 1, .int .i64 1] 28)).alloc (.cells #[.int .i64 0, .int .i64 9, .int .i64 9, .int .i64 9] 24)).alloc (.cells #[.slice (some ⟨(v4.alloc (.cells #[.int .i64 0, .int .i64 1, .int .i64 1, .int .i64 0, .int .i64 1, .int .i64 1] 28)).heap.size, 0, none⟩) 2 2, .slice (some ⟨w.heap.size, 0, none⟩) 3 3] 22)) := hx.alloc (by simp) _
  have l1 := q1_4.lt
  have l2 := q2_4.lt
  have l3 := q3_4.lt
  have l4 := q4_4.lt
  have lz := he4.size
  simp only [World.size_alloc] at f3 hy l1 l2 l3 l4 lz
  have r1 := q1_4.below hy l1
  have r2 := q2_4.below hy l2
  have r3 := q3_4.below hy l3
  have r4 := q4_4.below hy l4
  have h6 := he4.trans (hy.mono lz)
  clear f1 f2 hx hy he4 N4 q1_4 q2_4 q3_4 q4_4 l1 l2 l3 l4 lz
  have F := Lib.hid f3
  clear f3
  go_wp2_with fail
  refine (H5.out _ _ F.out).mono ?_
  rintro e v5 ⟨rfl, hc5⟩
  have s1 := r1.below hc5 r1.lt
  have s3 := r3.below hc5 r3.lt
  have s4 := r4.below hc5 r4.lt
  have h7 := h6.trans (hc5.mono h6.size)
  clear r1 r2 r3 r4 hc5 h6 F
  go_upto_region 7 with fail
  have hS : ∀ w' : World, Below v5.heap.size v5 w' → (w'.cell? ⟨v1.heap.size, 0, none⟩ = some (.int .i64 0) ∧ w'.cell? ⟨v1.heap.size, 1, none⟩ = some (.int .i64 2) ∧ w'.cell? ⟨v1.heap.size, 2, none⟩ = some (.int .i64 5) ∧ w'.cell? ⟨v1.heap.size, 3, none⟩ = some (.int .i64 1) ∧ w'.cell? ⟨v1.heap.size, 4, none⟩ = some (.int .i64 9) ∧ w'.cell? ⟨v1.heap.size, 5, none⟩ = some (.int .i64 1)) ∧ (w'.cell? ⟨v3.heap.size, 0, none⟩ = some (.int .i64 1) ∧ w'.cell? ⟨v3.heap.size, 1, none⟩ = some (.int .i64 1) ∧ w'.cell? ⟨v3.heap.size, 2, none⟩ = some (.int .i64 2) ∧ w'.cell? ⟨v3.heap.size, 3, none⟩ = some (.int .i64 (-1)) ∧ w'.cell? ⟨v3.heap.size, 4, none⟩ = some (.int .i64 4) ∧ w'.cell? ⟨v3.heap.size, 5, none⟩ = some (.int .i64 1)) ∧ (w'.cell? ⟨v4.heap.size, 0, none⟩ = some (.int .i64 0) ∧ w'.cell? ⟨v4.heap.size, 1, none⟩ = some (.int .i64 1) ∧ w'.cell? ⟨v4.heap.size, 2, none⟩ = some (.int .i64 1) ∧ w'.cell? ⟨v4.heap.size, 3, none⟩ = some (.int .i64 0) ∧ w'.cell? ⟨v4.heap.size, 4, none⟩ = some (.int .i64 1) ∧ w'.cell? ⟨v4.heap.size, 5, none⟩ = some (.int .i64 1)) := fun w' hb => ⟨(s1.below hb s1.lt).facts.1, (s3.below hb s3.lt).facts.1, (s4.below hb s4.lt).facts.1⟩
  have hr := Below.refl v5.heap.size v5
  go_region_held3 (fun w' => (w'.cell? ⟨v1.heap.size, 0, none⟩ = some (.int .i64 0) ∧ w'.cell? ⟨v1.heap.size, 1, none⟩ = some (.int .i64 2) ∧ w'.cell? ⟨v1.heap.size, 2, none⟩ = some (.int .i64 5) ∧ w'.cell? ⟨v1.heap.size, 3, none⟩ = some (.int .i64 1) ∧ w'.cell? ⟨v1.heap.size, 4, none⟩ = some (.int .i64 9) ∧ w'.cell? ⟨v1.heap.size, 5, none⟩ = some (.int .i64 1)) ∧ (w'.cell? ⟨v3.heap.size, 0, none⟩ = some (.int .i64 1) ∧ w'.cell? ⟨v3.heap.size, 1, none⟩ = some (.int .i64 1) ∧ w'.cell? ⟨v3.heap.size, 2, none⟩ = some (.int .i64 2) ∧ w'.cell? ⟨v3.heap.size, 3, none⟩ = some (.int .i64 (-1)) ∧ w'.cell? ⟨v3.heap.size, 4, none⟩ = some (.int .i64 4) ∧ w'.cell? ⟨v3.heap.size, 5, none⟩ = some (.int .i64 1)) ∧ (w'.cell? ⟨v4.heap.size, 0, none⟩ = some (.int .i64 0) ∧ w'.cell? ⟨v4.heap.size, 1, none⟩ = some (.int .i64 1) ∧ w'.cell? ⟨v4.heap.size, 2, none⟩ = some (.int .i64 1) ∧ w'.cell? ⟨v4.heap.size, 3, none⟩ = some (.int .i64 0) ∧ w'.cell? ⟨v4.heap.size, 4, none⟩ = some (.int .i64 1) ∧ w'.cell? ⟨v4.heap.size, 5, none⟩ = some (.int .i64 1)))
    (first | exact hS _ hr.drew | exact hS _ (by assumption))
    (first
      | (have hz := hx2; go_at_call 48; refine (lspot_any 0 1 1 0 1 _).mono ?_; rintro r x3 ⟨rfl, hx3'⟩; have hx3 : Below v5.heap.size v5 x3 := hx2.trans (hx3'.mono hx2.size))
      | (have hz := hx1; go_at_call 48; refine (lspot_any 1 1 2 (-1) 4 _).mono ?_; rintro r x2 ⟨rfl, hx2'⟩; have hx2 : Below v5.heap.size v5 x2 := hx1.trans (hx2'.mono hx1.size))
      | (go_at_call 48; refine (lspot_any 0 2 5 1 9 _).mono ?_; rintro r x1 ⟨rfl, hx1'⟩; have hx1 : Below v5.heap.size v5 x1 := hr.drew.trans hx1'))
  have h8 := h7.trans (hx3.mono h7.size)
  clear hS s1 s3 s4 hx1 hx2 hx3 h7 hr
  go_wp2_with fail
  refine (lspot_any _ _ _ _ _ _).mono ?_
  rintro e y1 ⟨rfl, hy1⟩
  have hh1 := h8.trans (hy1.mono h8.size)
  clear hy1 h8
  go_wp2_with fail
  refine (lspot_any _ _ _ _ _ _).mono ?_
  rintro e y2 ⟨rfl, hy2⟩
  have hh2 := hh1.trans (hy2.mono hh1.size)
  clear hy2 hh1
  go_wp2_with fail
  refine (H6.out _).mono ?_
  rintro e y3 ⟨rfl, hy3⟩
  have hh3 := hh2.trans (hy3.mono hh2.size)
  clear hy3 hh2
  go_wp2_with fail
  refine (lspot_any _ _ _ _ _ _).mono ?_
  rintro e y4 ⟨rfl, hy4⟩
  have hh4 := hh3.trans (hy4.mono hh3.size)
  clear hy4 hh3
  go_wp2_with fail
  refine (lspot_any _ _ _ _ _ _).mono ?_
  rintro e y5 ⟨rfl, hy5⟩
  have hh5 := hh4.trans (hy5.mono hh4.size)
  clear hy5 hh4
  go_wp2_with fail
  refine (H7.out _).mono ?_
  rintro e y6 ⟨rfl, hy6⟩
  have hh6 := hh5.trans (hy6.mono hh5.size)
  clear hy6 hh5
  go_wp2
  go_ret
  exact ⟨rfl, hh6⟩
end Go.Proofs.Ytcpcmlonbpccnaa.Ge
