/- Walks over layer 3's program: Sign. -/
import Derived.Test.YteapfoadfjjicaaDoorSlmW5
namespace Go.Proofs.YteapfoadfjjicaaDoor.Dig
set_option linter.unusedVariables false
set_option linter.unusedSimpArgs false
open Go.RowKit Go.Shelf
attribute [local go_sem] Oper.semAt_some

/-- block B is a struct of three cells, an int's and two lists' -/
def Held (W : World) (B : Nat) (x v y : Value) : Prop := W.heap[B]? = some (.cells #[x, v, y] 43 (0, 0))
theorem Held.lt {W : World} {B : Nat} {x v y : Value} (h : Held W B x v y) : B < W.heap.size := (Array.getElem?_eq_some_iff.1 h).1
theorem Held.cell {W : World} {B : Nat} {x v y : Value} (h : Held W B x v y) : W.cell? ⟨B, 1, none⟩ = some v := by simp [World.cell?, show W.heap[B]? = _ from h]
theorem Held.cell0 {W : World} {B : Nat} {x v y : Value} (h : Held W B x v y) : W.cell? ⟨B, 0, none⟩ = some x := by simp [World.cell?, show W.heap[B]? = _ from h]
theorem Held.cell2 {W : World} {B : Nat} {x v y : Value} (h : Held W B x v y) : W.cell? ⟨B, 2, none⟩ = some y := by simp [World.cell?, show W.heap[B]? = _ from h]
theorem Held.frozen {W : World} {B : Nat} {x v y : Value} (h : Held W B x v y) : W.frozen? ⟨B, 1, none⟩ = false := by simp [World.frozen?, show W.heap[B]? = _ from h]
theorem Held.new (W : World) (x v y : Value) : Held (W.alloc (.cells #[x, v, y] 43)) W.heap.size x v y := World.alloc_heap_new W _
theorem Held.kept {W W' : World} {row : Option Nat} {B : Nat} {x v y : Value} (h : Held W B x v y) (hg : W.grownBy W' row) (hne : some B ≠ row) : Held W' B x v y := (hg.block B h.lt hne).trans h
theorem Held.alloc {W : World} {B : Nat} {x v y : Value} (h : Held W B x v y) (o : Obj) : Held (W.alloc o) B x v y := h.kept (World.grownBy_alloc W o none) (by simp)
theorem Held.set {W : World} {B : Nat} {x v y : Value} (v' : Value) (h : Held W B x v y) : Held (W.setCell ⟨B, 1, none⟩ v') B x v' y := by
  obtain ⟨hlt, hk⟩ := Array.getElem?_eq_some_iff.1 h
  show (W.heap.modify B _)[B]? = _
  rw [Array.getElem?_eq_getElem (by rw [Array.size_modify]; exact hlt), Array.getElem_modify_self, hk]
  rfl
theorem grown_set (W : World) (b : Nat) (v : Value) : W.grownBy (W.setCell ⟨b, 1, none⟩ v) (some b) :=
  ⟨rfl, rfl, rfl, (KeepsWalks.setCell W _ v).size, fun k _ hk => Below.heap_setCell _ _ _ k (fun e => hk (by rw [e]))⟩
theorem Held.not_row {W : World} {B : Nat} {x u y : Value} (h : Held W B x u y) {base k : Nat} {v : Value} {xs : List Value} (hr : W.ownsRow base 9 1 v k xs) : some B ≠ v.ownBlock := by
  rcases hr.2 with ⟨rfl, _⟩ | ⟨g, cap, cur, rfl, _, hgb, _⟩
  · simp [Value.ownBlock]
  · intro e'
    obtain rfl : B = g := by simpa [Value.ownBlock] using e'
    have := (show W.heap[B]? = _ from h).symm.trans hgb
    simp at this
theorem Held.appended {W w1 : World} {n₀ B : Nat} {x y v v' : Value} {p q : List ByteArray} {tmp : Obj} (hv : Held W B x v y) (hrow : OwnStr W n₀ v p) (hn₀ : n₀ ≤ W.heap.size) (hB : n₀ ≤ B)
    (hown' : OwnStr w1 n₀ v' q) (hgrow : (W.alloc tmp).grownBy w1 v.ownBlock) :
    Held w1 B x v y ∧ Held (w1.setCell ⟨B, 1, none⟩ v') B x v' y ∧ OwnStr (w1.setCell ⟨B, 1, none⟩ v') n₀ v' q ∧ KeepsOthers W (w1.setCell ⟨B, 1, none⟩ v') ∧ Below n₀ W (w1.setCell ⟨B, 1, none⟩ v') := by
  have hv1 : Held w1 B x v y := (hv.alloc tmp).kept hgrow (hv.not_row hrow)
  refine ⟨hv1, hv1.set v', World.ownsRow.kept hown' (grown_set w1 B v') (.inr (hv1.not_row hown').symm), ?_, ?_⟩
  · refine ((KeepsOthers.alloc W tmp).trans (KeepsOthers.of_grownBy hgrow fun j o ej hj => ?_)).trans (KeepsOthers.setCell _ _ _)
    rcases (World.ownsRow.alloc hrow tmp).2 with ⟨rfl, _⟩ | ⟨g, cap, cur, rfl, _, hgb, _⟩
    · simp [Value.ownBlock] at ej
    · obtain rfl : g = j := by simpa [Value.ownBlock] using ej
      rw [hgb] at hj; cases hj; rfl
  · refine (((Below.refl n₀ W).alloc hn₀ tmp).grown hgrow (by simp; omega) fun j ej => ?_).setCell (p := ⟨B, 1, none⟩) hB v'
    rcases hrow.2 with ⟨rfl, _⟩ | ⟨g, cap, cur, rfl, hb, _, _⟩
    · simp [Value.ownBlock] at ej
    · obtain rfl : g = j := by simpa [Value.ownBlock] using ej
      exact hb
theorem Held.setA {W : World} {B : Nat} {x v y : Value} (u : Value) (h : Held W B x v y) : Held (W.setCell ⟨B, 0, none⟩ u) B u v y := by
  obtain ⟨hlt, hk⟩ := Array.getElem?_eq_some_iff.1 h
  show (W.heap.modify B _)[B]? = _
  rw [Array.getElem?_eq_getElem (by rw [Array.size_modify]; exact hlt), Array.getElem_modify_self, hk]
  rfl
theorem Held.setC {W : World} {B : Nat} {x v y : Value} (u : Value) (h : Held W B x v y) : Held (W.setCell ⟨B, 2, none⟩ u) B x v u := by
  obtain ⟨hlt, hk⟩ := Array.getElem?_eq_some_iff.1 h
  show (W.heap.modify B _)[B]? = _
  rw [Array.getElem?_eq_getElem (by rw [Array.size_modify]; exact hlt), Array.getElem_modify_self, hk]
  rfl
theorem Held.set3 {W : World} {B : Nat} {x v y : Value} (x' v' y' : Value) (h : Held W B x v y) : Held (((W.setCell ⟨B, 0, none⟩ x').setCell ⟨B, 1, none⟩ v').setCell ⟨B, 2, none⟩ y') B x' v' y' :=
  ((h.setA x').set v').setC y'
theorem grown_set3 (W : World) (b : Nat) (x v y : Value) : W.grownBy (((W.setCell ⟨b, 0, none⟩ x).setCell ⟨b, 1, none⟩ v).setCell ⟨b, 2, none⟩ y) (some b) :=
  ⟨rfl, rfl, rfl, ((KeepsWalks.setCell W _ x).trans ((KeepsWalks.setCell _ _ v).trans (KeepsWalks.setCell _ _ y))).size, fun k _ hk => by
    have hne : k ≠ b := fun e => hk (by rw [e])
    rw [Below.heap_setCell _ _ _ k hne, Below.heap_setCell _ _ _ k hne, Below.heap_setCell _ _ _ k hne]⟩
theorem OwnStr.turn {X Y : World} {n₀ : Nat} {v : Value} {l : List ByteArray} {row : Option Nat} (h : OwnStr X n₀ v l) (hg : X.grownBy Y row) (hr : ∀ r, row = some r → ∃ o : Obj, X.heap[r]? = some o ∧ o.isCells = false) : OwnStr Y n₀ v l := by
  refine World.ownsRow.kept h hg ?_
  rcases h.2 with ⟨rfl, _⟩ | ⟨g, cap, cur, rfl, _, hgb, _⟩
  · exact .inl rfl
  · refine .inr fun e' => ?_
    obtain ⟨o, ho, hc⟩ := hr g (by simpa [Value.ownBlock] using e'.symm)
    rw [hgb] at ho; cases ho; cases hc
theorem held_own (n₀ B : Nat) (x y : Value) (f : List Pr → List ByteArray) : Own (fun pre W => ∃ v, Held W B x v y ∧ OwnStr W n₀ v (f pre)) := by
  rintro s X Y row ⟨v, hv, ho⟩ hg hr
  refine ⟨v, hv.kept hg (fun e' => ?_), ho.turn hg hr⟩
  obtain ⟨o, h1, hc⟩ := hr B e'.symm
  rw [show X.heap[B]? = _ from hv] at h1; cases h1; cases hc

/-- what has been signed so far -/
def gotS (s : ByteArray) (i : Nat) (pre : List Pr) : List ByteArray := pre.map fun x => chainB (startB s i x.1.1) x.1.2
theorem gotS_snoc (s : ByteArray) (i : Nat) (pre : List Pr) (x : Pr) : gotS s i (pre ++ [x]) = gotS s i pre ++ [chainB (startB s i x.1.1) x.1.2] := by simp [gotS]
theorem gotS_len (s : ByteArray) (i : Nat) (pre : List Pr) : (gotS s i pre).length = pre.length := by simp [gotS]
theorem gotS_all (s : ByteArray) (i : Nat) (m : ByteArray) : gotS s i (pairs m 18) = sigB s i m := by
  unfold gotS pairs sigB
  rw [List.map_map]
  refine List.map_congr_left fun k hk => ?_
  have hk' := List.mem_range.1 hk
  show chainB (startB s i (prAt m k).1.1) (prAt m k).1.2 = _
  rw [prAt_val m k hk']

/-- no signature: the zero struct and the error -/
def zeroS : Value := .agg #[.int .i64 0, .slice none 0 0, .slice none 0 0]

set_option maxRecDepth 100000 in
set_option maxHeartbeats 1000000 in
theorem Sign_high (s m : ByteArray) (h i : Int) (hh : okH h = false) (w : World) :
    Calls Tryd.prog 29 #[.string s, .int .i64 h, .int .i64 i, .string m] w fun e w' => e = .returned (.tuple #[zeroS, .int .i64 1]) ∧ Below w.heap.size w w' := by
  have Hh := Lib.hid hh
  clear hh
  go_enter Tryd.func29, Tryd.ntmps29
  go_wp2_with fail
  refine (isHeight_any h _).mono ?_
  rintro e w1 ⟨rfl, rfl⟩
  rw [Hh.out]
  go_wp2_with fail
  refine bodyPost_ret (v := .tuple #[zeroS, .int .i64 1]) ?_ rfl ?_
  · simp [results, Tryd.f29, go_sem, zeroS]
  · refine ⟨rfl, ?_⟩
    exact (((Below.refl _ w).alloc (Nat.le_refl _) _).alloc (by simp) _).alloc (by simp; omega) _

set_option maxRecDepth 100000 in
set_option maxHeartbeats 2000000 in
theorem Sign_yes (s m : ByteArray) (hs : s.size ≤ 1000) (hm : m.size ≤ 1000) (h i : Nat) (hh : h ≤ 8) (hi : i < 2 ^ h) (w : World) (ht : Tab w) :
    Calls Tryd.prog 29 #[.string s, .int .i64 (h : Int), .int .i64 (i : Int), .string m] w
      fun e w' => ∃ us up, e = .returned (.tuple #[.agg #[.int .i64 (i : Int), us, up], .int .i64 0]) ∧ OwnStr w' w.heap.size us (sigB s i m) ∧ OwnStr w' w.heap.size up (pathB (leavesB s h) i) ∧ Below w.heap.size w w' := by
  have Hh := Lib.hid (show okH (h : Int) = true from decide_eq_true (by omega))
  have hb : Below w.heap.size w (((w.alloc (.cells #[.string s] 9)).alloc (.cells #[.int .i64 (i : Int)] 3)).alloc (.cells #[.int .i64 0, .slice none 0 0, .slice none 0 0] 43)) := (((Below.refl _ w).alloc (Nat.le_refl _) _).alloc (by simp) _).alloc (by simp; omega) _
  have hsz : (((w.alloc (.cells #[.string s] 9)).alloc (.cells #[.int .i64 (i : Int)] 3)).alloc (.cells #[.int .i64 0, .slice none 0 0, .slice none 0 0] 43)).heap.size = w.heap.size + 1 + 1 + 1 := by simp
  have cS : (((w.alloc (.cells #[.string s] 9)).alloc (.cells #[.int .i64 (i : Int)] 3)).alloc (.cells #[.int .i64 0, .slice none 0 0, .slice none 0 0] 43)).cell? ⟨w.heap.size, 0, none⟩ = some (.string s) := ((Boxed.new w 9 (.string s)).alloc _ |>.alloc _).cell
  have cI : (((w.alloc (.cells #[.string s] 9)).alloc (.cells #[.int .i64 (i : Int)] 3)).alloc (.cells #[.int .i64 0, .slice none 0 0, .slice none 0 0] 43)).cell? ⟨w.heap.size + 1, 0, none⟩ = some (.int .i64 (i : Int)) := by
    have h1 := ((Boxed.new (w.alloc (.cells #[.string s] 9)) 3 (.int .i64 (i : Int))).alloc (.cells #[.int .i64 0, .slice none 0 0, .slice none 0 0] 43)).cell
    rw [World.size_alloc] at h1
    exact h1
  have cR : (((w.alloc (.cells #[.string s] 9)).alloc (.cells #[.int .i64 (i : Int)] 3)).alloc (.cells #[.int .i64 0, .slice none 0 0, .slice none 0 0] 43)).heap[w.heap.size + 1 + 1]? = some (.cells #[.int .i64 0, .slice none 0 0, .slice none 0 0] 43 (0, 0)) := by
    have h1 := World.alloc_heap_new ((w.alloc (.cells #[.string s] 9)).alloc (.cells #[.int .i64 (i : Int)] 3)) (.cells #[.int .i64 0, .slice none 0 0, .slice none 0 0] 43)
    rw [World.size_alloc, World.size_alloc] at h1
    exact h1
  refine (callsIn_wide (n := 3)).1 ?_
  refine callsIn_of_wp_marks Tryd.func29 rfl trivial ?_ rfl
  simp only [Tryd.ntmps29, List.size_toArray, List.length_cons, List.length_nil, Nat.reduceAdd, Nat.reduceSub, Array.replicate_succ, Array.replicate_zero, List.push_toArray, List.append_toArray, List.nil_append, List.cons_append]
  refine wpIn_wide.2 ?_
  go_wp2_with fail
  refine (isHeight_any h _).mono ?_
  rintro e w1 ⟨rfl, rfl⟩
  rw [Hh.out]
  go_wp2_with fail
  obtain ⟨W0, hW0⟩ : ∃ W0, (((w.alloc (.cells #[.string s] 9)).alloc (.cells #[.int .i64 (i : Int)] 3)).alloc (.cells #[.int .i64 0, .slice none 0 0, .slice none 0 0] 43)) = W0 := ⟨_, rfl⟩
  rw [hW0] at hb hsz cS cI cR ⊢
  clear hW0
  have htW := ht.below hb
  have hr := Below.refl W0.heap.size W0
  have hS0 : ∀ w', Below W0.heap.size W0 w' → (w'.cell? ⟨w.heap.size, 0, none⟩ = some (.string s) ∧ w'.cell? ⟨w.heap.size + 1, 0, none⟩ = some (.int .i64 (i : Int))) ∧ Below W0.heap.size W0 w' := fun w' hw =>
    ⟨⟨(hw.cell (p := ⟨w.heap.size, 0, none⟩) (by show w.heap.size < _; omega)).trans cS, (hw.cell (p := ⟨w.heap.size + 1, 0, none⟩) (by show w.heap.size + 1 < _; omega)).trans cI⟩, hw⟩
  have Hok := Lib.hid (show pathOk (leavesB s h) (i : Int) = true from by
    unfold pathOk
    rw [leavesB_dig, leavesB_length, Bool.true_and]
    exact decide_eq_true (by omega))
  have Hmax := Lib.hid (show (leavesB s h).length ≤ 1000000 from by have := pow_le h hh; rw [leavesB_length]; omega)
  have Hpa := Lib.hid (show pathB (leavesB s h) (i : Int).toNat = pathB (leavesB s h) i from by rw [Int.toNat_natCast])
  go_region_held3 (fun w' => (w'.cell? ⟨w.heap.size, 0, none⟩ = some (.string s) ∧ w'.cell? ⟨w.heap.size + 1, 0, none⟩ = some (.int .i64 (i : Int))) ∧ Below W0.heap.size W0 w')
    (first | exact hS0 _ hr.drew | exact hS0 _ (by assumption))
    (first
      | (go_at_call 46; refine (leaves_any s hs h hh _ (htW.below hr.drew)).mono ?_; rintro e w1 ⟨v1, rfl, own1, hb1'⟩; have hb1 := hr.drew.trans (hb1'.mono hr.drew.size))
      | (go_at_call 49; refine (Path_yes v1 (leavesB s h) (i : Int) Hok.out Hmax.out _ (htW.below hb1) own1.sl).mono ?_; rintro e w2 ⟨up, rfl, own2, hb2'⟩; have hb2 := hb1.trans (hb2'.mono hb1.size)))
  rw [Hpa.out] at own2
  have cI2 := (hS0 _ hb2).1.2
  obtain ⟨pa, pc, rfl, hpm⟩ := strSl_form own2.sl
  go_wp2_with (go_at_call 50; refine (sdigits_any m _).mono ?_; rintro e w3 ⟨rfl, rfl⟩)
  have htW2 := htW.below hb2
  have hvL : Held ((w2.alloc (.cells #[.int .i64 (i : Int), .slice none 0 0, .slice pa (pathB (leavesB s h) i).length pc] 43)).alloc (.cells #[.string m] 9)) w2.heap.size (.int .i64 (i : Int)) (.slice none 0 0) (.slice pa (pathB (leavesB s h) i).length pc) := (Held.new w2 _ _ _).alloc _
  have hbL : Below w2.heap.size w2 ((w2.alloc (.cells #[.int .i64 (i : Int), .slice none 0 0, .slice pa (pathB (leavesB s h) i).length pc] 43)).alloc (.cells #[.string m] 9)) := ((Below.refl _ w2).alloc (Nat.le_refl _) _).alloc (by simp) _
  have bM := Boxed.new (w2.alloc (.cells #[.int .i64 (i : Int), .slice none 0 0, .slice pa (pathB (leavesB s h) i).length pc] 43)) 9 (.string m)
  rw [World.size_alloc] at bM
  have hi1000 : i ≤ 1000 := by have := pow_le h hh; omega
  refine (wpIn_wide (n := 3)).1 ?_
  refine wpIn_rangeFunc_ownG rfl (by decide) (gf := 87) (lb := #[.pointer (some ⟨w2.heap.size + 1, 0, none⟩)]) rfl trivial (enters_of Tryd.func87 (by kernel_rfl) rfl)
    (digits_stops 2 (by decide) (w2.heap.size + 1) w2.heap.size m hm _ (by simp) bM.cell) belowK_t (belowK_b (by simp; omega)) (Below.refl _ _) (fun _ => rfl)
    (fun pre W => (∃ v, Held W w2.heap.size (.int .i64 (i : Int)) v (.slice pa (pathB (leavesB s h) i).length pc) ∧ OwnStr W w2.heap.size v (gotS s i pre)) ∧ Below w2.heap.size w2 W)
    (fun _ _ _ => False)
    (OwnFrom.and (Own.from (held_own w2.heap.size w2.heap.size _ _ (gotS s i)) _) (ownFrom_below (Nat.le_refl _) (by simp; omega)))
    (fun _ _ _ _ _ hs _ _ => hs)
    ⟨⟨_, hvL, OwnStr.nil _ _⟩, hbL⟩
    (fun x : Pr => { tmps := #[.string s, .int .i64 (h : Int), .int .i64 (i : Int), .string m, .pointer (some ⟨w.heap.size, 0, none⟩), undef, .pointer (some ⟨w.heap.size + 1, 0, none⟩), undef,
          .pointer (some ⟨w.heap.size + 1 + 1, 0, none⟩), .int .i64 0, .slice pa (pathB (leavesB s h) i).length pc, .int .i64 0, .pointer (some ⟨w2.heap.size, 0, none⟩), .int .i64 (x.1.1 : Int), .int .i64 (x.1.2 : Int), .int .i64 (h : Int),
          .bool true, .bool false, undef, .tuple #[.slice pa (pathB (leavesB s h) i).length pc, .int .i64 0], .string s, .int .i64 (h : Int), v1, .int .i64 (i : Int), .tuple #[.slice pa (pathB (leavesB s h) i).length pc, .int .i64 0],
          .slice pa (pathB (leavesB s h) i).length pc, .int .i64 0, .int .i64 0, .bool false, undef, .int .i64 (i : Int), .slice pa (pathB (leavesB s h) i).length pc, .agg #[.int .i64 (i : Int), .slice none 0 0, .slice pa (pathB (leavesB s h) i).length pc],
          .string m, .func (.func 87) #[] #[.pointer (some ⟨w2.heap.size + 1, 0, none⟩)], .int .i64 (x.1.1 : Int), .int .i64 (x.1.2 : Int), undef, undef, undef, undef, undef, undef, undef, undef, undef, undef, undef, undef], defers := [] }) ?assign ?body ?done ?stop
  case assign =>
    intro l x W K hK
    gi_wp2
    exact hK
  case body =>
    rintro l pre x W ⟨⟨v, hv, hrow⟩, hB⟩ hlt
    have hc := hv.cell
    have hmx : Tryd.prog.follows .mixedOrders = true := by kernel_rfl
    obtain ⟨⟨k, d⟩, hk, hd⟩ := x
    dsimp only at hk hd ⊢
    have hS2 : ∀ w', Below w2.heap.size w2 w' → (w'.cell? ⟨w.heap.size, 0, none⟩ = some (.string s) ∧ w'.cell? ⟨w.heap.size + 1, 0, none⟩ = some (.int .i64 (i : Int))) ∧ Below w2.heap.size w2 w' := fun w' hw =>
      ⟨(hS0 _ (hb2.trans (hw.mono hb2.size))).1, hw⟩
    have hrd : Below W.heap.size W W.drew := (Below.refl _ _).drew
    have hcd0 : W.drew.cell? ⟨w2.heap.size, 1, none⟩ = some v := hc
    clear hvL hbL bM cR cI2
    gi_wp2
    refine region_round l 1 hmx (by kernel_rfl) (by rintro ⟨_, _, h⟩; exact h) (fun w' => (w'.cell? ⟨w.heap.size, 0, none⟩ = some (.string s) ∧ w'.cell? ⟨w.heap.size + 1, 0, none⟩ = some (.int .i64 (i : Int))) ∧ Below w2.heap.size w2 w') (hS2 _ hB.drew) (fun hHeld => ?_)
    refine wpAnyH_take (i := 0) (oi := { dst := some 37, op := Op.fieldAddr 43 (Operand.tmp 12) 1, type := 0, pos := "seal.go:111", after := #[], guard := none }) (v := .pointer (some ⟨w2.heap.size, 1, none⟩)) rfl (by kernel_rfl) (by kernel_rfl) (by kernel_rfl) (fun _ _ _ h => h) (Or.inl ⟨by rfl, ?_⟩) (by assumption) ?_
    · intro w' hS; have hS' := hS; (try dsimp only at hS'); obtain ⟨⟨s1, s2⟩, s3⟩ := hS'; go_simp
    simp only [Act.put, List.setIfInBounds_toArray, List.set_cons_zero, List.set_cons_succ]
    refine wpAnyH_take (i := 2) (oi := { dst := some 39, op := Op.load 9 (Operand.tmp 4), type := 9, pos := "seal.go:111", after := #[], guard := none }) (v := .string s) rfl (by kernel_rfl) (by kernel_rfl) (by kernel_rfl) (fun _ _ _ h => h) (Or.inl ⟨by rfl, ?_⟩) (by assumption) ?_
    · intro w' hS; have hS' := hS; (try dsimp only at hS'); obtain ⟨⟨s1, s2⟩, s3⟩ := hS'; go_simp
    simp only [Act.put, List.setIfInBounds_toArray, List.set_cons_zero, List.set_cons_succ]
    refine wpAnyH_take (i := 3) (oi := { dst := some 40, op := Op.load 3 (Operand.tmp 6), type := 3, pos := "seal.go:111", after := #[], guard := none }) (v := .int .i64 (i : Int)) rfl (by kernel_rfl) (by kernel_rfl) (by kernel_rfl) (fun _ _ _ h => h) (Or.inl ⟨by rfl, ?_⟩) (by assumption) ?_
    · intro w' hS; have hS' := hS; (try dsimp only at hS'); obtain ⟨⟨s1, s2⟩, s3⟩ := hS'; go_simp
    simp only [Act.put, List.setIfInBounds_toArray, List.set_cons_zero, List.set_cons_succ]
    refine wpAnyH_take (i := 4) (oi := { dst := some 41, op := Op.build 76 #[(0, Operand.tmp 39), (1, Operand.tmp 40)], type := 76, pos := "seal.go:111", after := #[{ on := 2, ground := Ground.data }, { on := 3, ground := Ground.data }], guard := none }) (v := .agg #[.string s, .int .i64 (i : Int)]) rfl (by kernel_rfl) (by kernel_rfl) (by kernel_rfl) (fun _ _ _ h => h) (Or.inl ⟨by rfl, ?_⟩) (by assumption) ?_
    · intro w' hS; have hS' := hS; (try dsimp only at hS'); obtain ⟨⟨s1, s2⟩, s3⟩ := hS'; go_simp
    simp only [Act.put, List.setIfInBounds_toArray, List.set_cons_zero, List.set_cons_succ]
    refine wpAnyH_take (i := 5) (oi := { dst := some 42, op := Op.move (Operand.tmp 13), type := 3, pos := "seal.go:111", after := #[], guard := none }) (v := .int .i64 (k : Int)) rfl (by kernel_rfl) (by kernel_rfl) (by kernel_rfl) (fun _ _ _ h => h) (Or.inl ⟨by rfl, ?_⟩) (by assumption) ?_
    · intro w' hS; have hS' := hS; (try dsimp only at hS'); obtain ⟨⟨s1, s2⟩, s3⟩ := hS'; go_simp
    simp only [Act.put, List.setIfInBounds_toArray, List.set_cons_zero, List.set_cons_succ]
    refine wpAnyH_take (i := 6) (oi := { dst := some 43, op := Op.move (Operand.tmp 14), type := 3, pos := "seal.go:111", after := #[], guard := none }) (v := .int .i64 (d : Int)) rfl (by kernel_rfl) (by kernel_rfl) (by kernel_rfl) (fun _ _ _ h => h) (Or.inl ⟨by rfl, ?_⟩) (by assumption) ?_
    · intro w' hS; have hS' := hS; (try dsimp only at hS'); obtain ⟨⟨s1, s2⟩, s3⟩ := hS'; go_simp
    simp only [Act.put, List.setIfInBounds_toArray, List.set_cons_zero, List.set_cons_succ]
    refine wpAnyH_ready (rs := [1, 7]) (by kernel_rfl) (by simp) ?_
    refine AllReadyH.cons (o := { dst := some 38, op := Op.load 41 (Operand.tmp 37), type := 41, pos := "seal.go:111", after := #[{ on := 0, ground := Ground.data }], guard := none }) rfl (fun K hK => ?_) (AllReadyH.cons (o := { dst := some 44, op := Op.call { callee := Callee.value (Operand.func 51), args := #[Operand.tmp 41, Operand.tmp 42, Operand.tmp 43], argTypes := #[76, 3, 3] }, type := 9, pos := "seal.go:111", after := #[{ on := 4, ground := Ground.data }, { on := 5, ground := Ground.data }, { on := 6, ground := Ground.data }], guard := none }) rfl (fun K hK => ?_) AllReadyH.nil)
    · have hcd := hcd0
      go_simp
      refine hK.out _ _ (hS2 _ hB.drew) (fun hHeld => ?_)
      clear hK K
      try simp only [Act.put, List.setIfInBounds_toArray, List.set_cons_zero, List.set_cons_succ]
      refine wpAnyH_ready (rs := [7]) (by kernel_rfl) (by simp) ?_
      refine AllReadyH.cons (o := { dst := some 44, op := Op.call { callee := Callee.value (Operand.func 51), args := #[Operand.tmp 41, Operand.tmp 42, Operand.tmp 43], argTypes := #[76, 3, 3] }, type := 9, pos := "seal.go:111", after := #[{ on := 4, ground := Ground.data }, { on := 5, ground := Ground.data }, { on := 6, ground := Ground.data }], guard := none }) rfl (fun K hK => ?_) AllReadyH.nil
      go_simp
      refine (at_any s hs i k d hi1000 (by omega) (by omega) _ (htW2.below hB.drew)).mono ?_
      rintro e w3 ⟨rfl, hb3⟩
      have hWw1 : Below W.heap.size W w3 := hrd.trans hb3
      have hB1 : Below w2.heap.size w2 w3 := hB.trans (hWw1.mono hB.size)
      have hvw1 : Held w3 w2.heap.size (.int .i64 (i : Int)) v (.slice pa (pathB (leavesB s h) i).length pc) := (hWw1.block _ hv.lt).trans hv
      have hrow1 := hrow.below hWw1
      refine hK.out _ _ (hS2 _ hB1) (fun hHeld => ?_)
      clear hK K
      try simp only [Act.put, List.setIfInBounds_toArray, List.set_cons_zero, List.set_cons_succ]
      refine wpAnyH_ready (rs := [8]) (by kernel_rfl) (by simp) ?_
      refine AllReadyH.cons (o := { dst := some 45, op := Op.buildSlice 41 1 #[(0, Operand.tmp 44)], type := 41, pos := "seal.go:111", after := #[{ on := 7, ground := Ground.data }], guard := none }) rfl (fun K hK => ?_) AllReadyH.nil
      go_simp
      refine hK.out _ _ (hS2 _ (hB1.alloc hB1.size _)) (fun hHeld => ?_)
      clear hK K
      try simp only [Act.put, List.setIfInBounds_toArray, List.set_cons_zero, List.set_cons_succ]
      refine wpAnyH_ready (rs := [9]) (by kernel_rfl) (by simp) ?_
      refine AllReadyH.cons (o := { dst := some 46, op := Op.call { callee := Callee.builtin Builtin.append, args := #[Operand.tmp 38, Operand.tmp 45], argTypes := #[41, 41] }, type := 41, pos := "seal.go:111", after := #[{ on := 1, ground := Ground.data }, { on := 8, ground := Ground.data }, { on := 7, ground := Ground.chain }], guard := none }) rfl (fun K hK => ?_) AllReadyH.nil
      refine step_app _ (by rfl) _ _ (by rfl) w2.heap.size v _ (gotS s i pre) [chainB (startB s i k) d] (by rfl) (by rfl) (hrow1.ofAlloc _) (sl1' _ w3) (by rw [gotS_len, List.length_singleton]; omega) (by have := hB1.size; simp; omega) ?_
      intro v2 w4 own4 grow4 at4
      have own5 := own4
      unfold OwnStr at own5
      rw [List.length_append, List.length_singleton] at own5
      obtain ⟨g', cap', rfl⟩ := ownsRow_succ own5
      obtain ⟨hv3, hv4, hr4, hk4, hb4⟩ := Held.appended (W := w3) hvw1 hrow1 hB1.size (Nat.le_refl _) own4 grow4
      have hc3 := hv3.cell
      have hf3 := hv3.frozen
      refine hK.out _ _ (hS2 _ (below_grow' (hrow1.ofAlloc _) (hB1.alloc hB1.size _) grow4)) (fun hHeld => ?_)
      clear hK K
      try simp only [Act.put, List.setIfInBounds_toArray, List.set_cons_zero, List.set_cons_succ]
      refine wpAnyH_ready (rs := [10]) (by kernel_rfl) (by simp) ?_
      refine AllReadyH.cons (o := { dst := some 47, op := Op.fieldAddr 43 (Operand.tmp 12) 1, type := 0, pos := "seal.go:111", after := #[{ on := 0, ground := Ground.phase }, { on := 1, ground := Ground.phase }, { on := 2, ground := Ground.phase }, { on := 3, ground := Ground.phase }, { on := 4, ground := Ground.phase }, { on := 5, ground := Ground.phase }, { on := 6, ground := Ground.phase }, { on := 7, ground := Ground.phase }, { on := 8, ground := Ground.phase }, { on := 9, ground := Ground.phase }], guard := none }) rfl (fun K hK => ?_) AllReadyH.nil
      go_simp
      refine hK.out _ _ (hS2 _ (below_grow' (hrow1.ofAlloc _) (hB1.alloc hB1.size _) grow4)) (fun hHeld => ?_)
      clear hK K
      try simp only [Act.put, List.setIfInBounds_toArray, List.set_cons_zero, List.set_cons_succ]
      refine wpAnyH_ready (rs := [11]) (by kernel_rfl) (by simp) ?_
      refine AllReadyH.cons (o := { dst := none, op := Op.store 41 (Operand.tmp 47) (Operand.tmp 46), type := 0, pos := "seal.go:111", after := #[{ on := 10, ground := Ground.data }, { on := 9, ground := Ground.data }, { on := 9, ground := Ground.chain }, { on := 0, ground := Ground.phase }, { on := 1, ground := Ground.phase }, { on := 2, ground := Ground.phase }, { on := 3, ground := Ground.phase }, { on := 4, ground := Ground.phase }, { on := 5, ground := Ground.phase }, { on := 6, ground := Ground.phase }, { on := 7, ground := Ground.phase }, { on := 8, ground := Ground.phase }, { on := 9, ground := Ground.phase }], guard := none }) rfl (fun K hK => ?_) AllReadyH.nil
      go_simp
      refine hK.out _ _ (hS2 _ (hB1.trans hb4)) (fun hHeld => ?_)
      clear hK K
      try simp only [Act.put, List.setIfInBounds_toArray, List.set_cons_zero, List.set_cons_succ]
      refine wpAnyH_done (by kernel_rfl) ?_ _
      exact ⟨((keeps_of_below hWw1).trans hk4).from _, (hWw1.mono hB.size).trans hb4, ⟨_, hv4, by rw [gotS_snoc]; exact hr4⟩, hB1.trans hb4⟩
    · go_simp
      refine (at_any s hs i k d hi1000 (by omega) (by omega) _ (htW2.below hB.drew)).mono ?_
      rintro e w3 ⟨rfl, hb3⟩
      have hWw1 : Below W.heap.size W w3 := hrd.trans hb3
      have hB1 : Below w2.heap.size w2 w3 := hB.trans (hWw1.mono hB.size)
      have hvw1 : Held w3 w2.heap.size (.int .i64 (i : Int)) v (.slice pa (pathB (leavesB s h) i).length pc) := (hWw1.block _ hv.lt).trans hv
      have hrow1 := hrow.below hWw1
      refine hK.out _ _ (hS2 _ hB1) (fun hHeld => ?_)
      clear hK K
      try simp only [Act.put, List.setIfInBounds_toArray, List.set_cons_zero, List.set_cons_succ]
      refine wpAnyH_ready (rs := [1, 8]) (by kernel_rfl) (by simp) ?_
      refine AllReadyH.cons (o := { dst := some 38, op := Op.load 41 (Operand.tmp 37), type := 41, pos := "seal.go:111", after := #[{ on := 0, ground := Ground.data }], guard := none }) rfl (fun K hK => ?_) (AllReadyH.cons (o := { dst := some 45, op := Op.buildSlice 41 1 #[(0, Operand.tmp 44)], type := 41, pos := "seal.go:111", after := #[{ on := 7, ground := Ground.data }], guard := none }) rfl (fun K hK => ?_) AllReadyH.nil)
      · have hcd := hvw1.cell
        go_simp
        refine hK.out _ _ (hS2 _ hB1) (fun hHeld => ?_)
        clear hK K
        try simp only [Act.put, List.setIfInBounds_toArray, List.set_cons_zero, List.set_cons_succ]
        refine wpAnyH_ready (rs := [8]) (by kernel_rfl) (by simp) ?_
        refine AllReadyH.cons (o := { dst := some 45, op := Op.buildSlice 41 1 #[(0, Operand.tmp 44)], type := 41, pos := "seal.go:111", after := #[{ on := 7, ground := Ground.data }], guard := none }) rfl (fun K hK => ?_) AllReadyH.nil
        go_simp
        refine hK.out _ _ (hS2 _ (hB1.alloc hB1.size _)) (fun hHeld => ?_)
        clear hK K
        try simp only [Act.put, List.setIfInBounds_toArray, List.set_cons_zero, List.set_cons_succ]
        refine wpAnyH_ready (rs := [9]) (by kernel_rfl) (by simp) ?_
        refine AllReadyH.cons (o := { dst := some 46, op := Op.call { callee := Callee.builtin Builtin.append, args := #[Operand.tmp 38, Operand.tmp 45], argTypes := #[41, 41] }, type := 41, pos := "seal.go:111", after := #[{ on := 1, ground := Ground.data }, { on := 8, ground := Ground.data }, { on := 7, ground := Ground.chain }], guard := none }) rfl (fun K hK => ?_) AllReadyH.nil
        refine step_app _ (by rfl) _ _ (by rfl) w2.heap.size v _ (gotS s i pre) [chainB (startB s i k) d] (by rfl) (by rfl) (hrow1.ofAlloc _) (sl1' _ w3) (by rw [gotS_len, List.length_singleton]; omega) (by have := hB1.size; simp; omega) ?_
        intro v2 w4 own4 grow4 at4
        have own5 := own4
        unfold OwnStr at own5
        rw [List.length_append, List.length_singleton] at own5
        obtain ⟨g', cap', rfl⟩ := ownsRow_succ own5
        obtain ⟨hv3, hv4, hr4, hk4, hb4⟩ := Held.appended (W := w3) hvw1 hrow1 hB1.size (Nat.le_refl _) own4 grow4
        have hc3 := hv3.cell
        have hf3 := hv3.frozen
        refine hK.out _ _ (hS2 _ (below_grow' (hrow1.ofAlloc _) (hB1.alloc hB1.size _) grow4)) (fun hHeld => ?_)
        clear hK K
        try simp only [Act.put, List.setIfInBounds_toArray, List.set_cons_zero, List.set_cons_succ]
        refine wpAnyH_ready (rs := [10]) (by kernel_rfl) (by simp) ?_
        refine AllReadyH.cons (o := { dst := some 47, op := Op.fieldAddr 43 (Operand.tmp 12) 1, type := 0, pos := "seal.go:111", after := #[{ on := 0, ground := Ground.phase }, { on := 1, ground := Ground.phase }, { on := 2, ground := Ground.phase }, { on := 3, ground := Ground.phase }, { on := 4, ground := Ground.phase }, { on := 5, ground := Ground.phase }, { on := 6, ground := Ground.phase }, { on := 7, ground := Ground.phase }, { on := 8, ground := Ground.phase }, { on := 9, ground := Ground.phase }], guard := none }) rfl (fun K hK => ?_) AllReadyH.nil
        go_simp
        refine hK.out _ _ (hS2 _ (below_grow' (hrow1.ofAlloc _) (hB1.alloc hB1.size _) grow4)) (fun hHeld => ?_)
        clear hK K
        try simp only [Act.put, List.setIfInBounds_toArray, List.set_cons_zero, List.set_cons_succ]
        refine wpAnyH_ready (rs := [11]) (by kernel_rfl) (by simp) ?_
        refine AllReadyH.cons (o := { dst := none, op := Op.store 41 (Operand.tmp 47) (Operand.tmp 46), type := 0, pos := "seal.go:111", after := #[{ on := 10, ground := Ground.data }, { on := 9, ground := Ground.data }, { on := 9, ground := Ground.chain }, { on := 0, ground := Ground.phase }, { on := 1, ground := Ground.phase }, { on := 2, ground := Ground.phase }, { on := 3, ground := Ground.phase }, { on := 4, ground := Ground.phase }, { on := 5, ground := Ground.phase }, { on := 6, ground := Ground.phase }, { on := 7, ground := Ground.phase }, { on := 8, ground := Ground.phase }, { on := 9, ground := Ground.phase }], guard := none }) rfl (fun K hK => ?_) AllReadyH.nil
        go_simp
        refine hK.out _ _ (hS2 _ (hB1.trans hb4)) (fun hHeld => ?_)
        clear hK K
        try simp only [Act.put, List.setIfInBounds_toArray, List.set_cons_zero, List.set_cons_succ]
        refine wpAnyH_done (by kernel_rfl) ?_ _
        exact ⟨((keeps_of_below hWw1).trans hk4).from _, (hWw1.mono hB.size).trans hb4, ⟨_, hv4, by rw [gotS_snoc]; exact hr4⟩, hB1.trans hb4⟩
      · go_simp
        refine hK.out _ _ (hS2 _ (hB1.alloc hB1.size _)) (fun hHeld => ?_)
        clear hK K
        try simp only [Act.put, List.setIfInBounds_toArray, List.set_cons_zero, List.set_cons_succ]
        refine wpAnyH_ready (rs := [1]) (by kernel_rfl) (by simp) ?_
        refine AllReadyH.cons (o := { dst := some 38, op := Op.load 41 (Operand.tmp 37), type := 41, pos := "seal.go:111", after := #[{ on := 0, ground := Ground.data }], guard := none }) rfl (fun K hK => ?_) AllReadyH.nil
        have hcd := (hvw1.alloc (.cells #[.string (chainB (startB s i k) d)] 9)).cell
        go_simp
        refine hK.out _ _ (hS2 _ (hB1.alloc hB1.size _)) (fun hHeld => ?_)
        clear hK K
        try simp only [Act.put, List.setIfInBounds_toArray, List.set_cons_zero, List.set_cons_succ]
        refine wpAnyH_ready (rs := [9]) (by kernel_rfl) (by simp) ?_
        refine AllReadyH.cons (o := { dst := some 46, op := Op.call { callee := Callee.builtin Builtin.append, args := #[Operand.tmp 38, Operand.tmp 45], argTypes := #[41, 41] }, type := 41, pos := "seal.go:111", after := #[{ on := 1, ground := Ground.data }, { on := 8, ground := Ground.data }, { on := 7, ground := Ground.chain }], guard := none }) rfl (fun K hK => ?_) AllReadyH.nil
        refine step_app _ (by rfl) _ _ (by rfl) w2.heap.size v _ (gotS s i pre) [chainB (startB s i k) d] (by rfl) (by rfl) (hrow1.ofAlloc _) (sl1' _ w3) (by rw [gotS_len, List.length_singleton]; omega) (by have := hB1.size; simp; omega) ?_
        intro v2 w4 own4 grow4 at4
        have own5 := own4
        unfold OwnStr at own5
        rw [List.length_append, List.length_singleton] at own5
        obtain ⟨g', cap', rfl⟩ := ownsRow_succ own5
        obtain ⟨hv3, hv4, hr4, hk4, hb4⟩ := Held.appended (W := w3) hvw1 hrow1 hB1.size (Nat.le_refl _) own4 grow4
        have hc3 := hv3.cell
        have hf3 := hv3.frozen
        refine hK.out _ _ (hS2 _ (below_grow' (hrow1.ofAlloc _) (hB1.alloc hB1.size _) grow4)) (fun hHeld => ?_)
        clear hK K
        try simp only [Act.put, List.setIfInBounds_toArray, List.set_cons_zero, List.set_cons_succ]
        refine wpAnyH_ready (rs := [10]) (by kernel_rfl) (by simp) ?_
        refine AllReadyH.cons (o := { dst := some 47, op := Op.fieldAddr 43 (Operand.tmp 12) 1, type := 0, pos := "seal.go:111", after := #[{ on := 0, ground := Ground.phase }, { on := 1, ground := Ground.phase }, { on := 2, ground := Ground.phase }, { on := 3, ground := Ground.phase }, { on := 4, ground := Ground.phase }, { on := 5, ground := Ground.phase }, { on := 6, ground := Ground.phase }, { on := 7, ground := Ground.phase }, { on := 8, ground := Ground.phase }, { on := 9, ground := Ground.phase }], guard := none }) rfl (fun K hK => ?_) AllReadyH.nil
        go_simp
        refine hK.out _ _ (hS2 _ (below_grow' (hrow1.ofAlloc _) (hB1.alloc hB1.size _) grow4)) (fun hHeld => ?_)
        clear hK K
        try simp only [Act.put, List.setIfInBounds_toArray, List.set_cons_zero, List.set_cons_succ]
        refine wpAnyH_ready (rs := [11]) (by kernel_rfl) (by simp) ?_
        refine AllReadyH.cons (o := { dst := none, op := Op.store 41 (Operand.tmp 47) (Operand.tmp 46), type := 0, pos := "seal.go:111", after := #[{ on := 10, ground := Ground.data }, { on := 9, ground := Ground.data }, { on := 9, ground := Ground.chain }, { on := 0, ground := Ground.phase }, { on := 1, ground := Ground.phase }, { on := 2, ground := Ground.phase }, { on := 3, ground := Ground.phase }, { on := 4, ground := Ground.phase }, { on := 5, ground := Ground.phase }, { on := 6, ground := Ground.phase }, { on := 7, ground := Ground.phase }, { on := 8, ground := Ground.phase }, { on := 9, ground := Ground.phase }], guard := none }) rfl (fun K hK => ?_) AllReadyH.nil
        go_simp
        refine hK.out _ _ (hS2 _ (hB1.trans hb4)) (fun hHeld => ?_)
        clear hK K
        try simp only [Act.put, List.setIfInBounds_toArray, List.set_cons_zero, List.set_cons_succ]
        refine wpAnyH_done (by kernel_rfl) ?_ _
        exact ⟨((keeps_of_below hWw1).trans hk4).from _, (hWw1.mono hB.size).trans hb4, ⟨_, hv4, by rw [gotS_snoc]; exact hr4⟩, hB1.trans hb4⟩
  case done =>
    rintro D ys W hD rfl ⟨⟨v, hv, hrow⟩, hB⟩ hK
    rw [gotS_all] at hrow
    have hDlt : D < W.heap.size := (Array.getElem?_eq_some_iff.1 hK).1
    have hB0 : Below W0.heap.size W0 W := hb2.trans (hB.mono hb2.size)
    have hR : Held W (w.heap.size + 1 + 1) (.int .i64 0) (.slice none 0 0) (.slice none 0 0) := (hB0.block _ (by omega)).trans cR
    have r0 := hR.cell0
    have r1 := hR.cell
    have r2 := hR.cell2
    have f1 := hR.frozen
    have f0 : W.frozen? ⟨w.heap.size + 1 + 1, 0, none⟩ = false := by simp [World.frozen?, show W.heap[w.heap.size + 1 + 1]? = _ from hR]
    have f2 : W.frozen? ⟨w.heap.size + 1 + 1, 2, none⟩ = false := by simp [World.frozen?, show W.heap[w.heap.size + 1 + 1]? = _ from hR]
    have q0 := hv.cell0
    have q1 := hv.cell
    have q2 := hv.cell2
    have hrow' := hrow
    unfold OwnStr at hrow'
    rw [show (sigB s i m).length = 17 + 1 from sigB_length s i m] at hrow'
    obtain ⟨g', cap', rfl⟩ := ownsRow_succ hrow'
    clear hrow' hvL hbL bM cR cI2
    gi_wp2
    go_wp2_with fail
    obtain ⟨WF, hWF⟩ : ∃ WF, (((W.setCell ⟨w.heap.size + 1 + 1, 0, none⟩ (.int .i64 (i : Int))).setCell ⟨w.heap.size + 1 + 1, 1, none⟩ (.slice (some ⟨g', 0, none⟩) (17 + 1) cap')).setCell ⟨w.heap.size + 1 + 1, 2, none⟩ (.slice pa (pathB (leavesB s h) i).length pc)) = WF := ⟨_, rfl⟩
    have hRF : Held WF (w.heap.size + 1 + 1) (.int .i64 (i : Int)) (.slice (some ⟨g', 0, none⟩) (17 + 1) cap') (.slice pa (pathB (leavesB s h) i).length pc) := by rw [← hWF]; exact hR.set3 _ _ _
    have hgF : W.grownBy WF (some (w.heap.size + 1 + 1)) := by rw [← hWF]; exact grown_set3 _ _ _ _ _
    rw [hWF]
    clear hWF
    have hou : OwnStr WF w2.heap.size (.slice (some ⟨g', 0, none⟩) (17 + 1) cap') (sigB s i m) := World.ownsRow.kept hrow hgF (.inr (hR.not_row hrow).symm)
    have hop2 := own2.below hB
    have hop : OwnStr WF w1.heap.size (.slice pa (pathB (leavesB s h) i).length pc) (pathB (leavesB s h) i) := World.ownsRow.kept hop2 hgF (.inr (hR.not_row hop2).symm)
    rw [World.size_alloc, World.size_alloc] at hD
    have hs2 := hb2.size
    have hKF : WF.heap[D]? = some (.deferred (some [])) := (hgF.block D hDlt (by simp; omega)).trans hK
    have hWB : Below w.heap.size w W := hb.trans (hB0.mono hb.size)
    have hBF : Below w.heap.size w WF := hWB.grown hgF hWB.size (fun k e => by cases e; omega)
    have hfin : Below w.heap.size WF (WF.putObj D (.deferred none)) := belowK_b (w := w) (Nat.le_refl _) WF D (.deferred (some [])) (.deferred none) (by omega) hKF rfl rfl
    have hgX : WF.grownBy (WF.putObj D (.deferred none)) (some D) := grownBy_putObj' WF D _
    have hrX : ∀ r, some D = some r → ∃ o : Obj, WF.heap[r]? = some o ∧ o.isCells = false := fun r e => by cases e; exact ⟨_, hKF, rfl⟩
    have hRX : Held (WF.putObj D (.deferred none)) (w.heap.size + 1 + 1) (.int .i64 (i : Int)) (.slice (some ⟨g', 0, none⟩) (17 + 1) cap') (.slice pa (pathB (leavesB s h) i).length pc) := hRF.kept hgX (by simp; omega)
    have x0 := hRX.cell0
    have x1 := hRX.cell
    have x2 := hRX.cell2
    refine ⟨by simp, .inl ⟨_, _, rfl, run_takeDeferred hKF, ?_⟩⟩
    have hs1 := hb1.size
    refine ⟨.tuple #[.agg #[.int .i64 (i : Int), .slice (some ⟨g', 0, none⟩) (17 + 1) cap', .slice pa (pathB (leavesB s h) i).length pc], .int .i64 0], ?_, _, _, rfl, (hou.turn hgX hrX).mono (by omega), (hop.turn hgX hrX).mono (by omega), hBF.trans hfin⟩
    simp [results, Tryd.f29, go_sem, x0, x1, x2]
  case stop =>
    rintro D c pre W _ _ h _
    exact h.elim

set_option maxRecDepth 100000 in
set_option maxHeartbeats 1000000 in
theorem Sign_far (s m : ByteArray) (hs : s.size ≤ 1000) (h : Nat) (i : Int) (hh : h ≤ 8) (hi : ¬ (0 ≤ i ∧ i < ((2 ^ h : Nat) : Int))) (w : World) (ht : Tab w) :
    Calls Tryd.prog 29 #[.string s, .int .i64 (h : Int), .int .i64 i, .string m] w fun e w' => e = .returned (.tuple #[zeroS, .int .i64 1]) ∧ Below w.heap.size w w' := by
  have Hh := Lib.hid (show okH (h : Int) = true from decide_eq_true (by omega))
  have hb : Below w.heap.size w (((w.alloc (.cells #[.string s] 9)).alloc (.cells #[.int .i64 i] 3)).alloc (.cells #[.int .i64 0, .slice none 0 0, .slice none 0 0] 43)) := (((Below.refl _ w).alloc (Nat.le_refl _) _).alloc (by simp) _).alloc (by simp; omega) _
  have hsz : (((w.alloc (.cells #[.string s] 9)).alloc (.cells #[.int .i64 i] 3)).alloc (.cells #[.int .i64 0, .slice none 0 0, .slice none 0 0] 43)).heap.size = w.heap.size + 1 + 1 + 1 := by simp
  have cS : (((w.alloc (.cells #[.string s] 9)).alloc (.cells #[.int .i64 i] 3)).alloc (.cells #[.int .i64 0, .slice none 0 0, .slice none 0 0] 43)).cell? ⟨w.heap.size, 0, none⟩ = some (.string s) := ((Boxed.new w 9 (.string s)).alloc _ |>.alloc _).cell
  have cI : (((w.alloc (.cells #[.string s] 9)).alloc (.cells #[.int .i64 i] 3)).alloc (.cells #[.int .i64 0, .slice none 0 0, .slice none 0 0] 43)).cell? ⟨w.heap.size + 1, 0, none⟩ = some (.int .i64 i) := by
    have h1 := ((Boxed.new (w.alloc (.cells #[.string s] 9)) 3 (.int .i64 i)).alloc (.cells #[.int .i64 0, .slice none 0 0, .slice none 0 0] 43)).cell
    rw [World.size_alloc] at h1
    exact h1
  have cR : (((w.alloc (.cells #[.string s] 9)).alloc (.cells #[.int .i64 i] 3)).alloc (.cells #[.int .i64 0, .slice none 0 0, .slice none 0 0] 43)).heap[w.heap.size + 1 + 1]? = some (.cells #[.int .i64 0, .slice none 0 0, .slice none 0 0] 43 (0, 0)) := by
    have h1 := World.alloc_heap_new ((w.alloc (.cells #[.string s] 9)).alloc (.cells #[.int .i64 i] 3)) (.cells #[.int .i64 0, .slice none 0 0, .slice none 0 0] 43)
    rw [World.size_alloc, World.size_alloc] at h1
    exact h1
  have Hok := Lib.hid (show pathOk (leavesB s h) i = false from by
    unfold pathOk
    rw [leavesB_dig, leavesB_length, Bool.true_and]
    exact decide_eq_false hi)
  clear hi
  go_enter Tryd.func29, Tryd.ntmps29
  go_wp2_with fail
  refine (isHeight_any h _).mono ?_
  rintro e w1 ⟨rfl, rfl⟩
  rw [Hh.out]
  go_wp2_with fail
  obtain ⟨W0, hW0⟩ : ∃ W0, (((w.alloc (.cells #[.string s] 9)).alloc (.cells #[.int .i64 i] 3)).alloc (.cells #[.int .i64 0, .slice none 0 0, .slice none 0 0] 43)) = W0 := ⟨_, rfl⟩
  rw [hW0] at hb hsz cS cI cR ⊢
  clear hW0
  have htW := ht.below hb
  have hr := Below.refl W0.heap.size W0
  have hS0 : ∀ w', Below W0.heap.size W0 w' → (w'.cell? ⟨w.heap.size, 0, none⟩ = some (.string s) ∧ w'.cell? ⟨w.heap.size + 1, 0, none⟩ = some (.int .i64 i)) ∧ Below W0.heap.size W0 w' := fun w' hw =>
    ⟨⟨(hw.cell (p := ⟨w.heap.size, 0, none⟩) (by show w.heap.size < _; omega)).trans cS, (hw.cell (p := ⟨w.heap.size + 1, 0, none⟩) (by show w.heap.size + 1 < _; omega)).trans cI⟩, hw⟩
  go_region_held3 (fun w' => (w'.cell? ⟨w.heap.size, 0, none⟩ = some (.string s) ∧ w'.cell? ⟨w.heap.size + 1, 0, none⟩ = some (.int .i64 i)) ∧ Below W0.heap.size W0 w')
    (first | exact hS0 _ hr.drew | exact hS0 _ (by assumption))
    (first
      | (go_at_call 46; refine (leaves_any s hs h hh _ (htW.below hr.drew)).mono ?_; rintro e w1 ⟨v1, rfl, own1, hb1'⟩; have hb1 := hr.drew.trans (hb1'.mono hr.drew.size))
      | (go_at_call 49; refine (Path_no v1 (leavesB s h) i Hok.out _ own1.sl).mono ?_; rintro e w2 ⟨rfl, rfl⟩))
  have hR : Held w1 (w.heap.size + 1 + 1) (.int .i64 0) (.slice none 0 0) (.slice none 0 0) := (hb1.block _ (by omega)).trans cR
  have r0 := hR.cell0
  have r1 := hR.cell
  have r2 := hR.cell2
  have f1 := hR.frozen
  have f0 : w1.frozen? ⟨w.heap.size + 1 + 1, 0, none⟩ = false := by simp [World.frozen?, show w1.heap[w.heap.size + 1 + 1]? = _ from hR]
  have f2 : w1.frozen? ⟨w.heap.size + 1 + 1, 2, none⟩ = false := by simp [World.frozen?, show w1.heap[w.heap.size + 1 + 1]? = _ from hR]
  go_wp2_with fail
  obtain ⟨WF, hWF⟩ : ∃ WF, (((w1.setCell ⟨w.heap.size + 1 + 1, 0, none⟩ (.int .i64 0)).setCell ⟨w.heap.size + 1 + 1, 1, none⟩ (.slice none 0 0)).setCell ⟨w.heap.size + 1 + 1, 2, none⟩ (.slice none 0 0)) = WF := ⟨_, rfl⟩
  have hRF : Held WF (w.heap.size + 1 + 1) (.int .i64 0) (.slice none 0 0) (.slice none 0 0) := by rw [← hWF]; exact hR.set3 _ _ _
  have hgF : w1.grownBy WF (some (w.heap.size + 1 + 1)) := by rw [← hWF]; exact grown_set3 _ _ _ _ _
  rw [hWF]
  clear hWF
  have x0 := hRF.cell0
  have x1 := hRF.cell
  have x2 := hRF.cell2
  have hWB : Below w.heap.size w w1 := hb.trans (hb1.mono hb.size)
  refine bodyPost_ret (v := .tuple #[zeroS, .int .i64 1]) ?_ rfl ⟨rfl, hWB.grown hgF hWB.size (fun k e => by cases e; omega)⟩
  simp [results, Tryd.f29, go_sem, zeroS, x0, x1, x2]

end Go.Proofs.YteapfoadfjjicaaDoor.Dig
