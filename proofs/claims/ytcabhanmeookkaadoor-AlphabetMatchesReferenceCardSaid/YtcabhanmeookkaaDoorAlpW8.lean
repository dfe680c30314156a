/- Walks over package alphabet: Read. -/
import Derived.Test.YtcabhanmeookkaaDoorAlpW7
namespace Go.Proofs.YtcabhanmeookkaaDoor.Al
set_option linter.unusedVariables false
set_option linter.unusedSimpArgs false
open Go.RowKit Go.Shelf
attribute [local go_sem] Oper.semAt_some

def intsV (l : List Nat) : List Value := l.map fun (i : Nat) => Value.int .i64 (i : Int)
/-- v is a list of ints of the call's own from block B on -/
def OwnInt (w : World) (B : Nat) (v : Value) (l : List Nat) : Prop := w.ownsRow B 3 1 v l.length (intsV l)
/-- what Read comes to -/
def ReadR (r : List Nat × Nat × Nat) (w : World) (e : Ending) (w' : World) : Prop :=
  ∃ v, e = .returned (.tuple #[v, .int .i64 (r.2.1 : Int), .int .i64 (r.2.2 : Int)]) ∧ OwnInt w' w.heap.size v r.1 ∧ Below w.heap.size w w'

/-- the four blocks that Read begins with -/
def W4 (nm : ByteArray) (vl vs : Value) (w : World) : World := (((w.alloc (.cells #[.string nm, vl, vs] 25)).alloc (.cells #[.slice none 0 0] 23)).alloc (.cells #[.int .i64 0] 28)).alloc (.cells #[.int .i64 0] 3)
theorem W4.below (nm : ByteArray) (vl vs : Value) (w : World) : Below w.heap.size w (W4 nm vl vs w) := ((((Below.refl _ _).alloc (Nat.le_refl _) _).alloc (by simp) _).alloc (by simp; omega) _).alloc (by simp; omega) _
theorem W4.k4 (nm : ByteArray) (vl vs : Value) (w : World) : Blk (W4 nm vl vs w) (w.heap.size + 1) 23 #[.slice none 0 0] := ((Blk.at (by simp) _ _).alloc _).alloc _
theorem W4.k5 (nm : ByteArray) (vl vs : Value) (w : World) : Blk (W4 nm vl vs w) (w.heap.size + 1 + 1) 28 #[.int .i64 0] := (Blk.at (by simp) _ _).alloc _
theorem W4.k6 (nm : ByteArray) (vl vs : Value) (w : World) : Blk (W4 nm vl vs w) (w.heap.size + 1 + 1 + 1) 3 #[.int .i64 0] := Blk.at (by simp) _ _
theorem W4.size (nm : ByteArray) (vl vs : Value) (w : World) : (W4 nm vl vs w).heap.size = w.heap.size + 1 + 1 + 1 + 1 := by simp [W4]
theorem below_one {n B : Nat} {w w' : World} (h : Below n w w') (hB : n ≤ B) (x : Value) : Below n w (w'.setCell ⟨B, 0, none⟩ x) := h.setCell (p := ⟨B, 0, none⟩) hB _

theorem three_set {w1 : World} {B : Nat} {t4 t5 t6 : TypeId} {x4 x5 x6 : Value} (k4 : Blk w1 (B + 1) t4 #[x4]) (k5 : Blk w1 (B + 1 + 1) t5 #[x5]) (k6 : Blk w1 (B + 1 + 1 + 1) t6 #[x6]) (y4 y5 y6 : Value) :
    Blk (((w1.setCell ⟨B + 1, 0, none⟩ y4).setCell ⟨B + 1 + 1, 0, none⟩ y5).setCell ⟨B + 1 + 1 + 1, 0, none⟩ y6) (B + 1) t4 #[y4] ∧ Blk (((w1.setCell ⟨B + 1, 0, none⟩ y4).setCell ⟨B + 1 + 1, 0, none⟩ y5).setCell ⟨B + 1 + 1 + 1, 0, none⟩ y6) (B + 1 + 1) t5 #[y5] ∧ Blk (((w1.setCell ⟨B + 1, 0, none⟩ y4).setCell ⟨B + 1 + 1, 0, none⟩ y5).setCell ⟨B + 1 + 1 + 1, 0, none⟩ y6) (B + 1 + 1 + 1) t6 #[y6] :=
  ⟨((k4.set 0 y4).other 0 y5 (by omega)).other 0 y6 (by omega), ((k5.other 0 y4 (by omega)).set 0 y5).other 0 y6 (by omega), ((k6.other 0 y4 (by omega)).other 0 y5 (by omega)).set 0 y6⟩
theorem ownInt_nil (w : World) (B : Nat) : OwnInt w B (.slice none 0 0) [] := World.ownsRow_nil w B _ _

set_option maxRecDepth 100000 in
set_option maxHeartbeats 4000000 in
theorem Read_no (nm : ByteArray) (vl vs : Value) (L : List ByteArray) (S : List Int) (t : ByteArray) (w : World) (hA : Alp nm vl vs L S w) (hV : validA (bl nm) (bls L) S = false) :
    Calls Tryd.prog 13 #[.agg #[.string nm, vl, vs], .string t] w (ReadR ([], 1, 0) w) := by
  have hc := fun w' (h : Below w.heap.size w w') => (hA.below h).scriptOf
  rw [hV] at hc
  have HC := Lib.hid hc
  clear hc hV
  have hb0 := W4.below nm vl vs w
  have k4 := W4.k4 nm vl vs w
  have k5 := W4.k5 nm vl vs w
  have k6 := W4.k6 nm vl vs w
  have hsz := W4.size nm vl vs w
  go_enter Tryd.func13, Tryd.ntmps13
  go_wp2_with fail
  refine (HC.out _ hb0).mono ?_
  rintro e w1 ⟨xa, xm, xc, xr, rfl, hb1, -⟩
  have hs1 : w.heap.size + 1 + 1 + 1 + 1 ≤ w1.heap.size := by have := hb1.size; rw [hsz] at this; exact this
  have hs2 : w.heap.size + 1 < w1.heap.size := by omega
  have hs3 : w.heap.size + 1 + 1 < w1.heap.size := by omega
  have hs4 : w.heap.size + 1 + 1 + 1 < w1.heap.size := by omega
  have k4' := k4.below hb1 k4.lt
  have k5' := k5.below hb1 k5.lt
  have k6' := k6.below hb1 k6.lt
  have c4 : w1.cell? ⟨w.heap.size + 1, 0, none⟩ = some (.slice none 0 0) := k4'.cell 0
  have c5 : w1.cell? ⟨w.heap.size + 1 + 1, 0, none⟩ = some (.int .i64 0) := k5'.cell 0
  have c6 : w1.cell? ⟨w.heap.size + 1 + 1 + 1, 0, none⟩ = some (.int .i64 0) := k6'.cell 0
  have f4 := k4'.frozen 0
  have f5 := k5'.frozen 0
  have f6 := k6'.frozen 0
  have hb := hb0.trans (hb1.mono hb0.size)
  clear hsz k4 k5 k6 hb0 hb1 HC hA
  go_wp2_with fail
  obtain ⟨z4, z5, z6⟩ := three_set k4' k5' k6' (.slice none 0 0) (.int .i64 1) (.int .i64 0)
  have d4 := (z4.alloc (.cells #[.slice xa xm xc, .map xr] 44)).cell 0
  have d5 := (z5.alloc (.cells #[.slice xa xm xc, .map xr] 44)).cell 0
  have d6 := (z6.alloc (.cells #[.slice xa xm xc, .map xr] 44)).cell 0
  refine bodyPost_ret (v := .tuple #[.slice none 0 0, .int .i64 1, .int .i64 0]) ?_ rfl ⟨_, rfl, ownInt_nil _ _, ?_⟩
  · simp at d4 d5 d6
    simp [results, Tryd.results13, go_sem, d4, d5, d6]
  · exact (below_one (below_one (below_one hb (by omega) _) (by omega) _) (by omega) _).alloc (by simp; omega) _

set_option maxRecDepth 100000 in
set_option maxHeartbeats 4000000 in
theorem Read_empty (nm : ByteArray) (vl vs : Value) (L : List ByteArray) (S : List Int) (t : ByteArray) (w : World) (hA : Alp nm vl vs L S w) (hV : validA (bl nm) (bls L) S = true) (ht : t.size = 0) :
    Calls Tryd.prog 13 #[.agg #[.string nm, vl, vs], .string t] w (ReadR ([], 6, 0) w) := by
  have hc := fun w' (h : Below w.heap.size w w') => (hA.below h).scriptOf
  rw [hV] at hc
  have HC := Lib.hid hc
  clear hc hV
  have he : t.toList.isEmpty = true := by rw [toList_bl, List.isEmpty_iff_length_eq_zero, bl_len]; exact ht
  have hb0 := W4.below nm vl vs w
  have k4 := W4.k4 nm vl vs w
  have k5 := W4.k5 nm vl vs w
  have k6 := W4.k6 nm vl vs w
  have hsz := W4.size nm vl vs w
  clear ht
  go_enter Tryd.func13, Tryd.ntmps13
  go_wp2_with fail
  refine (HC.out _ hb0).mono ?_
  rintro e w1 ⟨xa, xm, xc, xr, rfl, hb1, -⟩
  have hs1 : w.heap.size + 1 + 1 + 1 + 1 ≤ w1.heap.size := by have := hb1.size; rw [hsz] at this; exact this
  have hs2 : w.heap.size + 1 < w1.heap.size := by omega
  have hs3 : w.heap.size + 1 + 1 < w1.heap.size := by omega
  have hs4 : w.heap.size + 1 + 1 + 1 < w1.heap.size := by omega
  have k4' := k4.below hb1 k4.lt
  have k5' := k5.below hb1 k5.lt
  have k6' := k6.below hb1 k6.lt
  have c4 : w1.cell? ⟨w.heap.size + 1, 0, none⟩ = some (.slice none 0 0) := k4'.cell 0
  have c5 : w1.cell? ⟨w.heap.size + 1 + 1, 0, none⟩ = some (.int .i64 0) := k5'.cell 0
  have c6 : w1.cell? ⟨w.heap.size + 1 + 1 + 1, 0, none⟩ = some (.int .i64 0) := k6'.cell 0
  have f4 := k4'.frozen 0
  have f5 := k5'.frozen 0
  have f6 := k6'.frozen 0
  have hb := hb0.trans (hb1.mono hb0.size)
  clear hsz k4 k5 k6 hb0 hb1 HC hA
  go_wp2_with fail
  obtain ⟨z4, z5, z6⟩ := three_set k4' k5' k6' (.slice none 0 0) (.int .i64 6) (.int .i64 0)
  have d4 := (z4.alloc (.cells #[.slice xa xm xc, .map xr] 44)).cell 0
  have d5 := (z5.alloc (.cells #[.slice xa xm xc, .map xr] 44)).cell 0
  have d6 := (z6.alloc (.cells #[.slice xa xm xc, .map xr] 44)).cell 0
  refine bodyPost_ret (v := .tuple #[.slice none 0 0, .int .i64 6, .int .i64 0]) ?_ rfl ⟨_, rfl, ownInt_nil _ _, ?_⟩
  · simp at d4 d5 d6
    simp [results, Tryd.results13, go_sem, d4, d5, d6]
  · exact (below_one (below_one (below_one hb (by omega) _) (by omega) _) (by omega) _).alloc (by simp; omega) _

/-- the place behind the last letter that was read -/
def endP {m : Nat} (L : List Bs) (pre : List (Pl m)) : Nat := match pre.getLast? with | none => 0 | some x => x.1.1 + (ltA L x.1.2).length
theorem endP_snoc {m : Nat} (L : List Bs) (pre : List (Pl m)) (x : Pl m) : endP L (pre ++ [x]) = x.1.1 + (ltA L x.1.2).length := by
  unfold endP; rw [List.getLast?_concat]
theorem endP_plc {m : Nat} (L : List Bs) (pre : List (Pl m)) (a : List Nat) (h : pre.map (·.1) = plc L a) : endP L pre = (joinL L a).length := by
  rcases List.eq_nil_or_concat pre with rfl | ⟨pre', x, rfl⟩
  · have h1 := congrArg List.length h
    rw [plc_len] at h1
    have : a = [] := by cases a with | nil => rfl | cons b c => simp at h1
    subst this
    rfl
  · rw [List.concat_eq_append] at h ⊢
    rcases List.eq_nil_or_concat a with rfl | ⟨a', i, rfl⟩
    · have h1 := congrArg List.length h
      simp [plc] at h1
    · rw [List.concat_eq_append] at h ⊢
      rw [plc_snoc, List.map_append, List.map_cons, List.map_nil] at h
      have h2 := List.append_inj_right' h rfl
      simp only [List.cons.injEq, and_true] at h2
      rw [endP_snoc, h2, joinL_append, List.length_append]
      show _ = _ + (ltA L i ++ []).length
      rw [List.append_nil]
theorem plc_letters {m : Nat} (L : List Bs) (pre : List (Pl m)) (a : List Nat) (h : pre.map (·.1) = plc L a) : pre.map (fun x => x.1.2) = a := by
  have := plc_snd L a
  rw [← h, List.map_map] at this
  exact this

/-! ### What the rounds keep -/

theorem Blk.turn {W W' : World} {row : Option Nat} {N B : Nat} {t : TypeId} {cs : Array Value} (h : Blk W B t cs) (hg : W.grownBy W' row) (hr : ∀ r, row = some r → N ≤ r ∧ ∃ o : Obj, W.heap[r]? = some o ∧ o.isCells = false) (hB : B < N) : Blk W' B t cs :=
  h.grown hg (fun e => by have := (hr B e.symm).1; omega)
theorem row_turn {W W' : World} {row : Option Nat} {N B k : Nat} {v : Value} {xs : List Value} (h : W.ownsRow B 3 1 v k xs) (hg : W.grownBy W' row) (hr : ∀ r, row = some r → N ≤ r ∧ ∃ o : Obj, W.heap[r]? = some o ∧ o.isCells = false) : W'.ownsRow B 3 1 v k xs := by
  refine h.kept hg ?_
  rcases h.2 with ⟨rfl, _⟩ | ⟨g, cap, cur, rfl, _, hgb, _⟩
  · exact .inl rfl
  · refine .inr fun e' => ?_
    obtain ⟨_, o, ho, hc⟩ := hr g (by simpa [Value.ownBlock] using e'.symm)
    rw [hgb] at ho; cases ho; cases hc
theorem row_base {W : World} {B C k : Nat} {v : Value} {xs : List Value} (h : W.ownsRow B 3 1 v k xs) (hC : C ≤ B) : W.ownsRow C 3 1 v k xs := by
  refine ⟨h.1, ?_⟩
  rcases h.2 with hn | ⟨g, cap, cur, h1, h2, h3⟩
  · exact .inl hn
  · exact .inr ⟨g, cap, cur, h1, Nat.le_trans hC h2, h3⟩
theorem row_form {W : World} {B k : Nat} {v : Value} {xs : List Value} (h : W.ownsRow B 3 1 v k xs) : ∃ a cap, v = .slice a k cap := by
  rcases h.2 with ⟨rfl, h0⟩ | ⟨g, cap, cur, rfl, _⟩
  · exact ⟨none, 0, by rw [h0]⟩
  · exact ⟨_, cap, rfl⟩
/-- what an append and two stores of a round leave as it was -/
theorem round_keeps {W w1 : World} {B0 k : Nat} {v : Value} {xs : List Value} {tmp : Obj} (hrow : W.ownsRow B0 3 1 v k xs) (hgrow : (W.alloc tmp).grownBy w1 v.ownBlock) (c1 c2 : Nat) (x1 x2 : Value) :
    KeepsOthers W ((w1.setCell ⟨c1, 0, none⟩ x1).setCell ⟨c2, 0, none⟩ x2) ∧ (∀ j, j < B0 → j < W.heap.size → j ≠ c1 → j ≠ c2 → ((w1.setCell ⟨c1, 0, none⟩ x1).setCell ⟨c2, 0, none⟩ x2).heap[j]? = W.heap[j]?) ∧ W.heap.size ≤ ((w1.setCell ⟨c1, 0, none⟩ x1).setCell ⟨c2, 0, none⟩ x2).heap.size := by
  refine ⟨?_, ?_, ?_⟩
  · refine (((KeepsOthers.alloc W tmp).trans (KeepsOthers.of_grownBy hgrow fun j o ej hj => ?_)).trans (KeepsOthers.setCell _ _ _)).trans (KeepsOthers.setCell _ _ _)
    rcases (hrow.alloc tmp).2 with ⟨rfl, _⟩ | ⟨g, cap, cur, rfl, _, hgb, _⟩
    · simp [Value.ownBlock] at ej
    · obtain rfl : g = j := by simpa [Value.ownBlock] using ej
      rw [hgb] at hj; cases hj; rfl
  · intro j hj hlt h1 h2
    rw [heap_setCell_other _ _ _ _ h2, heap_setCell_other _ _ _ _ h1]
    have hne : some j ≠ v.ownBlock := fun e => by have := (hrow.lt j e.symm).1; omega
    refine (hgrow.block j (by simp; omega) hne).trans ?_
    exact Below.heap_alloc W tmp j hlt
  · have h1 := hgrow.size
    have h2 := (grownBy_setCell' w1 c1 x1).size
    have h3 := (grownBy_setCell' (w1.setCell ⟨c1, 0, none⟩ x1) c2 x2).size
    simp at h1
    omega
theorem row_two {w1 : World} {B0 k c1 c2 : Nat} {v : Value} {xs : List Value} (h : w1.ownsRow B0 3 1 v k xs) (h1 : c1 < B0) (h2 : c2 < B0) (x1 x2 : Value) : ((w1.setCell ⟨c1, 0, none⟩ x1).setCell ⟨c2, 0, none⟩ x2).ownsRow B0 3 1 v k xs := by
  have hne : ∀ c, c < B0 → v.ownBlock = none ∨ v.ownBlock ≠ some c := fun c hc => by
    cases hv : v.ownBlock with
    | none => exact .inl rfl
    | some g => exact .inr (fun e => by have := (h.lt g hv).1; cases e; omega)
  exact (h.kept (grownBy_setCell' w1 c1 x1) (hne c1 h1)).kept (grownBy_setCell' _ c2 x2) (hne c2 h2)
theorem below_two {n B0 : Nat} {W w1 : World} {w : World} {k : Nat} {v : Value} {xs : List Value} {tmp : Obj} (hB : Below n w W) (hn : n ≤ B0) (hW : n ≤ W.heap.size) (hrow : W.ownsRow B0 3 1 v k xs) (hgrow : (W.alloc tmp).grownBy w1 v.ownBlock) (c1 c2 : Nat) (h1 : n ≤ c1) (h2 : n ≤ c2) (x1 x2 : Value) :
    Below n w ((w1.setCell ⟨c1, 0, none⟩ x1).setCell ⟨c2, 0, none⟩ x2) := by
  refine below_one (below_one ((hB.alloc hW tmp).grown hgrow (by simp; omega) fun j ej => ?_) h1 _) h2 _
  have := (hrow.lt j ej).1
  omega
theorem intsV_snoc (l : List Nat) (i : Nat) : intsV (l ++ [i]) = intsV l ++ [.int .i64 (i : Int)] := by simp [intsV]
theorem infoI : (Tryd.prog.info? 3).map (fun i => (i.zero, i.size, i.bytes)) = some (some (.int .i64 0), 1, 8) := by kernel_rfl

/-- what holds between two rounds -/
def RdI (w : World) (h h1 : Nat) (N b off n c Bm : Nat) (L : List Bs) (pre : List (Pl L.length)) (W : World) : Prop :=
  ∃ v, Blk W (h1 + 1) 23 #[v] ∧ W.ownsRow N 3 1 v pre.length (intsV (pre.map fun x => x.1.2)) ∧ pre.length ≤ 24 ∧ Blk W (h1 + 1 + 1) 3 #[.int .i64 (endP L pre : Int)] ∧ Blk W h1 44 #[.slice (some ⟨b, off, none⟩) n c, .map (some Bm)] ∧
    Blk W (h + 1) 23 #[.slice none 0 0] ∧ Blk W (h + 1 + 1) 28 #[.int .i64 0] ∧ Blk W (h + 1 + 1 + 1) 3 #[.int .i64 0] ∧ Below h w W ∧ N ≤ W.heap.size
def RdX (w : World) (h : Nat) (L : List Bs) (c : Code) (pre : List (Pl L.length)) (W : World) : Prop :=
  c = .ret ∧ pre.length = 25 ∧ ∃ x, pre.getLast? = some x ∧ Blk W (h + 1) 23 #[.slice none 0 0] ∧ Blk W (h + 1 + 1) 28 #[.int .i64 2] ∧ Blk W (h + 1 + 1 + 1) 3 #[.int .i64 (x.1.1 : Int)] ∧ Below h w W
theorem rdI_own (w : World) (h h1 N b off n c Bm : Nat) (L : List Bs) (hw : h = w.heap.size) (hN : h + 1 + 1 + 1 < h1) (hN2 : h1 + 1 + 1 < N) : OwnFrom N (RdI w h h1 N b off n c Bm L) := by
  rintro pre X Y row ⟨v, k1, k2, k3, k4, k5, k6, k7, k8, hb, hz⟩ hg hr
  exact ⟨v, k1.turn hg hr (by omega), row_turn k2 hg hr, k3, k4.turn hg hr (by omega), k5.turn hg hr (by omega), k6.turn hg hr (by omega), k7.turn hg hr (by omega), k8.turn hg hr (by omega),
    hb.grown hg (by have := hb.size; omega) (fun r e => by have := (hr r e).1; omega), Nat.le_trans hz hg.size⟩
theorem rdX_own (w : World) (h N : Nat) (L : List Bs) (c : Code) (hw : h = w.heap.size) (hN : h + 1 + 1 + 1 < N) : OwnFrom N (RdX w h L c) := by
  rintro pre X Y row ⟨e, k0, x, k1, k2, k3, k4, hb⟩ hg hr
  exact ⟨e, k0, x, k1, k2.turn hg hr (by omega), k3.turn hg hr (by omega), k4.turn hg hr (by omega), hb.grown hg (by have := hb.size; omega) (fun r e => by have := (hr r e).1; omega)⟩

set_option maxRecDepth 100000 in
/-- how Read is left behind its loop -/
theorem read_fin {w W' : World} {N D e m : Nat} {T : Array Value} {v : Value} {r : List Nat × Nat × Nat} (hr : r.2.1 = e ∧ r.2.2 = m)
    (h4 : T[4]?.getD undef = .pointer (some ⟨w.heap.size + 1, 0, none⟩)) (h5 : T[5]?.getD undef = .pointer (some ⟨w.heap.size + 1 + 1, 0, none⟩)) (h6 : T[6]?.getD undef = .pointer (some ⟨w.heap.size + 1 + 1 + 1, 0, none⟩))
    (z4 : Blk W' (w.heap.size + 1) 23 #[v]) (z5 : Blk W' (w.heap.size + 1 + 1) 28 #[.int .i64 (e : Int)]) (z6 : Blk W' (w.heap.size + 1 + 1 + 1) 3 #[.int .i64 (m : Int)])
    (hN : w.heap.size + 1 + 1 + 1 < N) (hD : N ≤ D) (hK : W'.heap[D]? = some (.deferred (some []))) (hrow : W'.ownsRow w.heap.size 3 1 v r.1.length (intsV r.1)) (hB : Below w.heap.size w W') :
    bodyPostM Fence.wide 8 Tryd.prog Tryd.f13 (ReadR r w) Exit.ret { tmps := T, defers := [{ target := .collected D, args := #[] }] } W' := by
  have hg := grownBy_putObj' W' D (.deferred none)
  have y4 : (W'.putObj D (.deferred none)).cell? ⟨w.heap.size + 1, 0, none⟩ = some v := (z4.grown hg (by simp; omega)).cell 0
  have y5 : (W'.putObj D (.deferred none)).cell? ⟨w.heap.size + 1 + 1, 0, none⟩ = some (.int .i64 (e : Int)) := (z5.grown hg (by simp; omega)).cell 0
  have y6 : (W'.putObj D (.deferred none)).cell? ⟨w.heap.size + 1 + 1 + 1, 0, none⟩ = some (.int .i64 (m : Int)) := (z6.grown hg (by simp; omega)).cell 0
  refine ⟨by simp, .inl ⟨_, _, rfl, run_takeDeferred hK, ?_⟩⟩
  refine ⟨.tuple #[v, .int .i64 (e : Int), .int .i64 (m : Int)], ?_, v, by rw [hr.1, hr.2], ownsRow_putObj hrow _ hK rfl, hB.trans (belowK_b (w := w) (Nat.le_refl _) W' D _ _ (by omega) hK rfl rfl)⟩
  simp [results, Tryd.f13, go_sem, h4, h5, h6, y4, y5, y6]

set_option maxRecDepth 100000 in
set_option maxHeartbeats 8000000 in
theorem Read_word (nm : ByteArray) (vl vs : Value) (L : List ByteArray) (S : List Int) (t : ByteArray) (ht : t.size ≤ 100000) (w : World) (hA : Alp nm vl vs L S w) (hV : validA (bl nm) (bls L) S = true) (h0 : t.size ≠ 0) :
    Calls Tryd.prog 13 #[.agg #[.string nm, vl, vs], .string t] w (ReadR (readV (bls L) (bl t)) w) := by
  have hc := fun w' (h : Below w.heap.size w w') => (hA.below h).scriptOf
  rw [hV] at hc
  have HC := Lib.hid hc
  have hF : Fine (bls L) := fine_of (by unfold validA at hV; simp only [Bool.and_eq_true] at hV; exact hV.1)
  have hL0 : L.length ≠ 0 := by
    unfold validA lettersB at hV
    simp only [Bool.and_eq_true, decide_eq_true_eq, bls_len] at hV
    omega
  obtain ⟨b, off, cl, rfl, hbL, hmL, hcellL⟩ := hA.sl.open hL0
  unfold maxLen at hmL
  have hll := hA.len
  have Hlz := Lib.hid hA.lz
  have HcL := Lib.hid hcellL
  clear hc hV hcellL hA
  have he : t.toList.isEmpty = false := by rw [Bool.eq_false_iff]; intro h; rw [toList_bl, List.isEmpty_iff_length_eq_zero, bl_len] at h; exact h0 h
  have hb0 := W4.below nm (.slice (some ⟨b, off, none⟩) L.length cl) vs w
  have k4 := W4.k4 nm (.slice (some ⟨b, off, none⟩) L.length cl) vs w
  have k5 := W4.k5 nm (.slice (some ⟨b, off, none⟩) L.length cl) vs w
  have k6 := W4.k6 nm (.slice (some ⟨b, off, none⟩) L.length cl) vs w
  have hsz := W4.size nm (.slice (some ⟨b, off, none⟩) L.length cl) vs w
  refine (callsIn_wide (n := 8)).1 ?_
  refine callsIn_of_wp_marks Tryd.func13 rfl trivial ?_ rfl
  simp only [Tryd.ntmps13, List.size_toArray, List.length_cons, List.length_nil, Nat.reduceAdd, Nat.reduceSub, Array.replicate_succ, Array.replicate_zero, List.push_toArray, List.append_toArray, List.nil_append, List.cons_append]
  gi_wp2_with (first
    | (refine ⟨trivial, ?_⟩; gi_at_call 26; refine (callsIn_wide.2 (HC.out _ hb0)).mono ?_; rintro e w1 ⟨xa, xm, xc, xr, rfl, hb1, hscr⟩; obtain ⟨hxv, Bm, nn, rfl, hBm, hM⟩ := hscr rfl; obtain ⟨rfl, rfl, rfl⟩ : xa = some ⟨b, off, none⟩ ∧ xm = L.length ∧ xc = cl := (by simpa using hxv); clear hscr hxv)
    | (refine ⟨trivial, ?_⟩; gi_at_call 27; refine (callsIn_wide.2 (read_any _ _ _ _)).mono ?_; rintro e w2 ⟨rfl, hw2⟩))
  have hs1 : w.heap.size + 1 + 1 + 1 + 1 ≤ w1.heap.size := by have := hb1.size; rw [hsz] at this; exact this
  have k4' := k4.below hb1 k4.lt
  have k5' := k5.below hb1 k5.lt
  have k6' := k6.below hb1 k6.lt
  have hb := hb0.trans (hb1.mono hb0.size)
  have hBmlt := hM.lt
  clear hsz k4 k5 k6 hb0 hb1 HC
  have hbw : Below w1.heap.size w1 w2 := by
    rw [hw2]; exact (((((Below.refl _ _).alloc (Nat.le_refl _) _).alloc (by simp) _).alloc (by simp; omega) _).alloc (by simp; omega) _).alloc (by simp; omega) _
  have hN : w2.heap.size = w1.heap.size + 1 + 1 + 1 + 1 + 1 := by rw [hw2]; simp
  have j7 : Blk w2 w1.heap.size 44 #[.slice (some ⟨b, off, none⟩) L.length xc, .map (some Bm)] := by rw [hw2]; exact ((((Blk.new w1 _ _).alloc _).alloc _).alloc _).alloc _
  have j9 : Blk w2 (w1.heap.size + 1) 23 #[.slice none 0 0] := by rw [hw2]; exact (((Blk.at (by simp) _ _).alloc _).alloc _).alloc _
  have j10 : Blk w2 (w1.heap.size + 1 + 1) 3 #[.int .i64 0] := by rw [hw2]; exact ((Blk.at (by simp) _ _).alloc _).alloc _
  have j11 : Blk w2 (w1.heap.size + 1 + 1 + 1) 44 #[.slice (some ⟨b, off, none⟩) L.length xc, .map (some Bm)] := by rw [hw2]; exact (Blk.at (by simp) _ _).alloc _
  have j12 : Blk w2 (w1.heap.size + 1 + 1 + 1 + 1) 9 #[.string t] := by rw [hw2]; exact Blk.at (by simp) _ _
  rw [← hw2]
  clear hw2
  have i4 := k4'.below hbw k4'.lt
  have i5 := k5'.below hbw k5'.lt
  have i6 := k6'.below hbw k6'.lt
  have hM2 := hM.below hbw hM.lt
  have hb2 := hb.trans (hbw.mono hb.size)
  have hIt : ItAt w2 (bls L) t (.slice (some ⟨b, off, none⟩) L.length xc) (w1.heap.size + 1 + 1 + 1 + 1) (w1.heap.size + 1 + 1 + 1) Bm nn := ⟨j12, j11, hM2⟩
  obtain ⟨i0, hi, hz0, hz1, hz2⟩ := info_parts infoI
  refine wpIn_rangeFunc_ownG rfl (by decide) (gf := 37) (lb := #[.pointer (some ⟨w1.heap.size + 1 + 1 + 1 + 1, 0, none⟩), .pointer (some ⟨w1.heap.size + 1 + 1 + 1, 0, none⟩)]) rfl trivial (enters_of Tryd.func37 (by kernel_rfl) rfl)
    (read_stops 7 (by decide) _ _ Bm nn (bls L) hF t ht _ w2 hIt) Kp3.trans (Kp3.bk (by omega) (by omega) (by omega)) (Below.refl _ _) (fun _ => rfl)
    (RdI w w.heap.size w1.heap.size w2.heap.size b off L.length xc Bm (bls L))
    (RdX w w.heap.size (bls L))
    (rdI_own _ _ _ _ _ _ _ _ _ _ rfl (by omega) (by omega))
    (fun c => rdX_own _ _ _ _ _ rfl (by omega))
    ⟨_, j9, World.ownsRow_nil _ _ _ _, by simp, j10, j7, i4, i5, i6, hb2, Nat.le_refl _⟩
    (fun x => { tmps := #[.agg #[.string nm, .slice (some ⟨b, off, none⟩) L.length xc, vs], .string t, .pointer (some ⟨w.heap.size, 0, none⟩), undef, .pointer (some ⟨w.heap.size + 1, 0, none⟩), .pointer (some ⟨w.heap.size + 1 + 1, 0, none⟩), .pointer (some ⟨w.heap.size + 1 + 1 + 1, 0, none⟩), .pointer (some ⟨w1.heap.size, 0, none⟩), .bool true, .pointer (some ⟨w1.heap.size + 1, 0, none⟩), .pointer (some ⟨w1.heap.size + 1 + 1, 0, none⟩), .int .i64 (x.1.1 : Int), .int .i64 (x.1.2 : Int),
        .tuple #[.agg #[.slice (some ⟨b, off, none⟩) L.length xc, .map (some Bm)], .bool true], .agg #[.string nm, .slice (some ⟨b, off, none⟩) L.length xc, vs], .tuple #[.agg #[.slice (some ⟨b, off, none⟩) L.length xc, .map (some Bm)], .bool true], .agg #[.slice (some ⟨b, off, none⟩) L.length xc, .map (some Bm)], .bool true, .bool true, .bool false, .string t, .bool false, .agg #[.slice (some ⟨b, off, none⟩) L.length xc, .map (some Bm)], .string t,
        .func (.func 37) #[] #[.pointer (some ⟨w1.heap.size + 1 + 1 + 1 + 1, 0, none⟩), .pointer (some ⟨w1.heap.size + 1 + 1 + 1, 0, none⟩)], .int .i64 (x.1.1 : Int), .int .i64 (x.1.2 : Int), undef, undef, undef, undef, undef, undef, undef, undef, undef, undef, undef, undef, undef, undef, undef, undef, undef, undef, undef, undef, undef, undef], defers := [] })
    ?assign ?body ?done ?stop
  case assign =>
    intro l x W K hK
    gi_wp2
    exact hK
  case body =>
    rintro l pre x W ⟨v, q9, hrow, hlen, q10, q7, q4, q5, q6, hB, hWN⟩ _
    have hz := hB.size
    obtain ⟨a9, cap9, rfl⟩ := row_form hrow
    have c9 : W.cell? ⟨w1.heap.size + 1, 0, none⟩ = some (.slice a9 pre.length cap9) := q9.cell 0
    obtain ⟨⟨xp, xi⟩, hx1, hx2⟩ := x
    dsimp only at hx1 hx2 ⊢
    by_cases h24 : pre.length = 24
    · have hq : ((pre.length : Int) == 24) = true := by simp [h24]
      have c4 : W.cell? ⟨w.heap.size + 1, 0, none⟩ = some (.slice none 0 0) := q4.cell 0
      have c5 : W.cell? ⟨w.heap.size + 1 + 1, 0, none⟩ = some (.int .i64 0) := q5.cell 0
      have c6 : W.cell? ⟨w.heap.size + 1 + 1 + 1, 0, none⟩ = some (.int .i64 0) := q6.cell 0
      have f4 := q4.frozen 0
      have f5 := q5.frozen 0
      have f6 := q6.frozen 0
      have H24 := Lib.hid h24
      clear h24
      gi_wp2
      obtain ⟨z4, z5, z6⟩ := three_set q4 q5 q6 (.slice none 0 0) (.int .i64 2) (.int .i64 (xp : Int))
      exact ⟨(((KeepsOthers.setCell _ _ _).trans (KeepsOthers.setCell _ _ _)).trans (KeepsOthers.setCell _ _ _)).from _, rfl, by rw [List.length_append, H24.out]; rfl, ⟨(xp, xi), hx1, hx2⟩, by rw [List.getLast?_concat], z4, z5, z6,
        below_one (below_one (below_one hB (by omega) _) (by omega) _) (by omega) _⟩
    · have hq : ((pre.length : Int) == 24) = false := by rw [beq_eq_false_iff_ne]; omega
      rw [bls_len] at hx2
      have c7 : W.cell? ⟨w1.heap.size, 0, none⟩ = some (.slice (some ⟨b, off, none⟩) L.length xc) := q7.cell 0
      have hsz := Hlz.out _ (List.getElem_mem hx2)
      have hl9 := q9.lt
      have hl10 := q10.lt
      have hl7 := q7.lt
      have hBt : w1.heap.size + 1 + 1 + 1 + 1 < w2.heap.size := by omega
      have HE := Lib.hid (show (bl L[xi]).length = L[xi].size from bl_len _)
      gi_wp2_with (gi_at_builtin; refine wpListIn_append_own _ rfl _ _ 23 rfl w2.heap.size 3 i0 (.int .i64 0) 1 8 Tryd.underlying23 hi hz0 hz1 hz2 rfl (by decide) _ _ _ rfl (hrow.alloc _) ⟨W.heap.size, 0, none⟩ 1 1 [.int .i64 (xi : Int)] rfl rfl (cell_one_new _ _ _) (by simp [Value.oneCell']) (by unfold maxLen; omega) (by omega) (by simp; omega) ?_; intro v' w3 hown' hgrow _; obtain ⟨g', cap', rfl⟩ := ownsRow_succ hown'; have hkeep : ∀ j, j < w2.heap.size → j < W.heap.size → w3.heap[j]? = W.heap[j]? := (fun j hj hlt => (hgrow.block j (by simp; omega) (fun e => by have := (hrow.lt j e.symm).1; omega)).trans (Below.heap_alloc W _ j hlt)); have p9 : Blk w3 (w1.heap.size + 1) 23 #[.slice a9 pre.length cap9] := (hkeep _ (by omega) hl9).trans q9; have p10 : Blk w3 (w1.heap.size + 1 + 1) 3 #[.int .i64 (endP (bls L) pre : Int)] := (hkeep _ (by omega) hl10).trans q10; have p7 : Blk w3 w1.heap.size 44 #[.slice (some ⟨b, off, none⟩) L.length xc, .map (some Bm)] := (hkeep _ (by omega) hl7).trans q7; have hB3 : Below w.heap.size w w3 := (hB.alloc hz _).grown hgrow (by simp; omega) (fun j ej => by have := (hrow.lt j ej).1; omega); have d9 : w3.cell? ⟨w1.heap.size + 1, 0, none⟩ = some (.slice a9 pre.length cap9) := p9.cell 0; have d10 : w3.cell? ⟨w1.heap.size + 1 + 1, 0, none⟩ = some (.int .i64 (endP (bls L) pre : Int)) := p10.cell 0; have d7 : w3.cell? ⟨w1.heap.size, 0, none⟩ = some (.slice (some ⟨b, off, none⟩) L.length xc) := p7.cell 0; have e9 := p9.frozen 0; have e10 := p10.frozen 0; have hcl : w3.cell? ⟨b, off + xi, none⟩ = some (.string L[xi]) := (hB3.cell (p := ⟨b, off + xi, none⟩) hbL).trans (HcL.out xi hx2))
      obtain ⟨r1, r2, r3⟩ := round_keeps hrow hgrow (w1.heap.size + 1) (w1.heap.size + 1 + 1) (.slice (some ⟨g', 0, none⟩) (pre.length + 1) cap') (.int .i64 ((xp : Int) + (L[xi].size : Int)))
      have hend : ((endP (bls L) (pre ++ [⟨(xp, xi), hx1, by rw [bls_len]; exact hx2⟩]) : Nat) : Int) = (xp : Int) + (L[xi].size : Int) := by
        rw [endP_snoc]
        simp only
        rw [bls_get L xi hx2, HE.out]
        push_cast
        rfl
      refine ⟨r1.from _, ⟨r2 _ (by omega) (by omega) (by omega) (by omega), r2 _ (by omega) (by omega) (by omega) (by omega), r2 _ (by omega) (by omega) (by omega) (by omega)⟩,
        .slice (some ⟨g', 0, none⟩) (pre.length + 1) cap', (p9.set 0 _).other 0 _ (by omega), ?_, by rw [List.length_append, List.length_singleton]; omega, ?_, (p7.other 0 _ (by omega)).other 0 _ (by omega),
        (r2 _ (by omega) (by omega) (by omega) (by omega)).trans q4, (r2 _ (by omega) (by omega) (by omega) (by omega)).trans q5, (r2 _ (by omega) (by omega) (by omega) (by omega)).trans q6,
        below_two hB (by omega) hz hrow hgrow _ _ (by omega) (by omega) _ _, Nat.le_trans hWN r3⟩
      · rw [List.length_append, List.length_singleton, List.map_append, List.map_cons, List.map_nil, intsV_snoc]
        exact row_two hown' (by omega) (by omega) _ _
      · rw [hend]
        exact (p10.other 0 _ (by omega)).set 0 _
  case done =>
    rintro D ys W hD hys ⟨v, q9, hrow, hlen, q10, q7, q4, q5, q6, hB, hWN⟩ hK
    have hz := hB.size
    obtain ⟨a9, cap9, rfl⟩ := row_form hrow
    have hl1 := congrArg List.length hys
    rw [List.length_map, plc_len] at hl1
    rw [plc_letters _ _ _ hys] at hrow
    rw [endP_plc _ _ _ hys] at q10
    obtain ⟨s1, s2, s3⟩ := rd_spec (bls L) (bl t)
    have hsum := congrArg List.length s1
    rw [List.length_append, bl_len] at hsum
    have c9 : W.cell? ⟨w1.heap.size + 1, 0, none⟩ = some (.slice a9 ys.length cap9) := q9.cell 0
    have c10 : W.cell? ⟨w1.heap.size + 1 + 1, 0, none⟩ = some (.int .i64 ((joinL (bls L) (rd (bls L) (bl t)).1).length : Int)) := q10.cell 0
    have c4 : W.cell? ⟨w.heap.size + 1, 0, none⟩ = some (.slice none 0 0) := q4.cell 0
    have c5 : W.cell? ⟨w.heap.size + 1 + 1, 0, none⟩ = some (.int .i64 0) := q5.cell 0
    have c6 : W.cell? ⟨w.heap.size + 1 + 1 + 1, 0, none⟩ = some (.int .i64 0) := q6.cell 0
    have f4 := q4.frozen 0
    have f5 := q5.frozen 0
    have f6 := q6.frozen 0
    have HRV := Lib.hid (readV_cases (bls L) (bl t))
    by_cases hrest : (rd (bls L) (bl t)).2.length = 0
    · have hlt : ¬ ((joinL (bls L) (rd (bls L) (bl t)).1).length : Int) < (t.size : Int) := by omega
      have HV : readV (bls L) (bl t) = ((rd (bls L) (bl t)).1, 0, 0) := by
        rcases HRV.out with ⟨h, _⟩ | ⟨_, h, _⟩ | ⟨_, _, h, _⟩ | ⟨_, _, _, h⟩
        · rw [bl_len] at h; omega
        · omega
        · omega
        · exact h
      have HV2 := Lib.hid HV
      have Hl1 := Lib.hid hl1
      clear HV hl1 hys s1 s2 s3 hsum HRV
      generalize rd (bls L) (bl t) = R at *
      gi_wp2
      obtain ⟨z4, z5, z6⟩ := three_set q4 q5 q6 (.slice a9 ys.length cap9) (.int .i64 0) (.int .i64 0)
      rw [HV2.out]
      refine read_fin ⟨rfl, rfl⟩ rfl rfl rfl z4 z5 z6 (N := w2.heap.size) (by omega) hD
        ((((KeepsOthers.setCell _ _ _).trans (KeepsOthers.setCell _ _ _)).trans (KeepsOthers.setCell _ _ _)).same D _ hK rfl) ?_ (below_one (below_one (below_one hB (by omega) _) (by omega) _) (by omega) _)
      have hw := row_two hrow (c1 := w.heap.size + 1) (c2 := w.heap.size + 1 + 1) (by omega) (by omega) (.slice a9 ys.length cap9) (.int .i64 0)
      have hw2 := hw.kept (grownBy_setCell' _ (w.heap.size + 1 + 1 + 1) (.int .i64 0)) (by
        cases ho : (Value.slice a9 ys.length cap9).ownBlock with
        | none => exact .inl rfl
        | some g => exact .inr (fun e => by have := (hw.lt g ho).1; cases e; omega))
      rw [Hl1.out] at hw2 ⊢
      exact row_base hw2 (by omega)
    · have hlt : ((joinL (bls L) (rd (bls L) (bl t)).1).length : Int) < (t.size : Int) := by omega
      have HV : readV (bls L) (bl t) = ([], 3, (joinL (bls L) (rd (bls L) (bl t)).1).length) := by
        rcases HRV.out with ⟨h, _⟩ | ⟨_, h, _⟩ | ⟨_, _, _, h⟩ | ⟨_, _, h, _⟩
        · rw [bl_len] at h; omega
        · omega
        · exact h
        · omega
      have HV2 := Lib.hid HV
      clear HV hl1 hys s1 s2 s3 hsum HRV
      generalize rd (bls L) (bl t) = R at *
      gi_wp2
      refine wpIn_wide.2 ?_
      go_region
      obtain ⟨z4, z5, z6⟩ := three_set q4 q5 q6 (.slice none 0 0) (.int .i64 3) (.int .i64 ((joinL (bls L) R.1).length : Int))
      gi_wp2
      rw [HV2.out]
      exact read_fin ⟨rfl, rfl⟩ rfl rfl rfl z4 z5 z6 (N := w2.heap.size) (by omega) hD
        ((((KeepsOthers.setCell _ _ _).trans (KeepsOthers.setCell _ _ _)).trans (KeepsOthers.setCell _ _ _)).same D _ hK rfl) (World.ownsRow_nil _ _ _ _) ((below_one (below_one (below_one hB (by omega) _) (by omega) _) (by omega) _).drew)
  case stop =>
    rintro D c pre W hD ⟨k, hk, hpre⟩ ⟨rfl, hlen, x, hx, q4, q5, q6, hB⟩ hK
    have hl1 := congrArg List.length hpre
    rw [List.length_map, plc_len, List.length_take, Nat.min_eq_left hk] at hl1
    have hk25 : k = 25 := by omega
    subst hk25
    have HV : readV (bls L) (bl t) = ([], 2, (joinL (bls L) ((rd (bls L) (bl t)).1.take 24)).length) := by
      rcases readV_cases (bls L) (bl t) with ⟨h, _⟩ | ⟨_, _, h⟩ | ⟨_, h, _⟩ | ⟨_, h, _⟩
      · rw [bl_len] at h; omega
      · exact h
      · omega
      · omega
    have hx1 : x.1.1 = (joinL (bls L) ((rd (bls L) (bl t)).1.take 24)).length := by
      have h1 : (pre.map (·.1))[24]? = (plc (bls L) ((rd (bls L) (bl t)).1.take 25))[24]? := by rw [hpre]
      rw [plc_at _ _ 24 (by rw [List.length_take]; omega), List.take_take, Nat.min_eq_left (by omega), List.getElem?_map] at h1
      have h2 : pre[24]? = some x := by rw [List.getLast?_eq_getElem?, hlen] at hx; exact hx
      rw [h2] at h1
      simp only [Option.map_some, Option.some.injEq] at h1
      rw [h1]
    rw [hx1] at q6
    have HV2 := Lib.hid HV
    clear HV hpre hx hx1 hk
    gi_wp2
    rw [HV2.out]
    exact read_fin ⟨rfl, rfl⟩ rfl rfl rfl q4 q5 q6 (N := w2.heap.size) (by omega) hD hK (World.ownsRow_nil _ _ _ _) hB

theorem Read_any (nm : ByteArray) (vl vs : Value) (L : List ByteArray) (S : List Int) (t : ByteArray) (ht : t.size ≤ 100000) (w : World) (hA : Alp nm vl vs L S w) :
    Calls Tryd.prog 13 #[.agg #[.string nm, vl, vs], .string t] w (ReadR (readA (validA (bl nm) (bls L) S) (bls L) (bl t)) w) := by
  cases hV : validA (bl nm) (bls L) S with
  | false => exact Read_no nm vl vs L S t w hA hV
  | true =>
    by_cases h0 : t.size = 0
    · have e : readA true (bls L) (bl t) = ([], 6, 0) := by unfold readA readV; rw [if_pos rfl, if_pos (by rw [bl_len]; exact h0)]
      rw [e]
      exact Read_empty nm vl vs L S t w hA hV h0
    · have e : readA true (bls L) (bl t) = readV (bls L) (bl t) := by unfold readA; rw [if_pos rfl]
      rw [e]
      exact Read_word nm vl vs L S t ht w hA hV h0
end Go.Proofs.YtcabhanmeookkaaDoor.Al
