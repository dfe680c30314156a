/- Periods by value, and lists of them; walks over package date: end, between, Proper, Covers. -/
import Derived.Test.YtdbffhcckmmgfaaDoorDatW2
import Derived.Test.YtdbffhcckmmgfaaDoorDatPer
import Derived.Maps.AppendAt
import Derived.Deep.AppendLies
import Derived.Deep.RegionHeld3
namespace Go.Proofs.YtdbffhcckmmgfaaDoor.Dt
set_option linter.unusedVariables false
set_option linter.unusedSimpArgs false
open Go.RowKit

/-! ### blocks of two cells -/
def Two (w : World) (B : Nat) (t : TypeId) (x y : Value) : Prop := w.heap[B]? = some (.cells #[x, y] t (0, 0))
theorem Two.lt {w : World} {B : Nat} {t : TypeId} {x y : Value} (h : Two w B t x y) : B < w.heap.size := (Array.getElem?_eq_some_iff.1 h).1
theorem Two.facts {w : World} {B : Nat} {t : TypeId} {x y : Value} (h : Two w B t x y) :
    w.cell? ⟨B, 0, none⟩ = some x ∧ w.cell? ⟨B, 1, none⟩ = some y ∧ w.frozen? ⟨B, 0, none⟩ = false ∧ w.frozen? ⟨B, 1, none⟩ = false := by
  unfold Two at h
  simp [World.cell?, World.frozen?, h]
theorem Two.below {w w' : World} {N B : Nat} {t : TypeId} {x y : Value} (h : Two w B t x y) (hb : Below N w w') (hlt : B < N) : Two w' B t x y := (hb.block B hlt).trans h
theorem Two.alloc {w : World} {B : Nat} {t : TypeId} {x y : Value} (h : Two w B t x y) (o : Obj) : Two (w.alloc o) B t x y := by
  have := h.lt
  unfold Two at h ⊢
  show (w.heap.push o)[B]? = _
  rw [Array.getElem?_push, if_neg (by omega), h]
theorem Two.new (w : World) (t : TypeId) (x y : Value) : Two (w.alloc (.cells #[x, y] t)) w.heap.size t x y := by
  show (w.heap.push _)[w.heap.size]? = _
  rw [Array.getElem?_push, if_pos rfl]
theorem Two.at {w : World} {B : Nat} (h : B = w.heap.size) (t : TypeId) (x y : Value) : Two (w.alloc (.cells #[x, y] t)) B t x y := by
  subst h
  exact Two.new w t x y
theorem Two.set2 {w : World} {B : Nat} {t : TypeId} {x y : Value} (h : Two w B t x y) (a b : Value) : Two ((w.setCell ⟨B, 0, none⟩ a).setCell ⟨B, 1, none⟩ b) B t a b := by
  unfold Two at h ⊢
  rw [heap_setCell_same _ _ _ _ _ _ (heap_setCell_same _ _ _ _ _ _ h)]
  rfl

theorem set2_below {B b : Nat} {w wx : World} (h : Below B w wx) (hb : B ≤ b) (x y : Value) : Below B w ((wx.setCell ⟨b, 0, none⟩ x).setCell ⟨b, 1, none⟩ y) :=
  (h.setCell (p := ⟨b, 0, none⟩) hb _).setCell (p := ⟨b, 1, none⟩) hb _

/-! ### periods -/
def perA (p : Per) : Array Value := #[.int .i64 p.1, .int .i64 p.2]
def encP (p : Per) : List Value := [.int .i64 p.1, .int .i64 p.2]
def perV (p : Per) : Value := .agg #[.int .i64 p.1, .int .i64 p.2]
def flatP (l : List Per) : List Value := l.flatMap encP
theorem flatP_length : ∀ l : List Per, (flatP l).length = l.length * 2
  | [] => rfl
  | p :: l => by
    have h := flatP_length l
    unfold flatP at h ⊢
    rw [List.flatMap_cons, List.length_append, h]
    simp [encP]
    omega
theorem flatP_append (a b : List Per) : flatP (a ++ b) = flatP a ++ flatP b := List.flatMap_append
theorem flatP_get : ∀ (l : List Per) (i j : Nat) (h : i < l.length), j < 2 → (flatP l)[i * 2 + j]? = (encP l[i])[j]?
  | [], i, j, h, _ => by simp at h
  | p :: l, i, j, h, hj => by
    have hl : (encP p).length = 2 := rfl
    unfold flatP
    rw [List.flatMap_cons]
    cases i with
    | zero =>
      rw [Nat.zero_mul, Nat.zero_add, List.getElem?_append_left (by omega)]
      rfl
    | succ i =>
      rw [List.getElem?_append_right (by omega), hl, show (i + 1) * 2 + j - 2 = i * 2 + j by omega]
      exact flatP_get l i j (by simpa using h) hj
theorem encP_one (p : Per) : ∀ v ∈ encP p, v.oneCell' = true := by
  intro v hv
  simp [encP] at hv
  rcases hv with rfl | rfl <;> rfl
/-- the two cells of a period -/
def Cells2 (w : World) (b o : Nat) (p : Per) : Prop := w.cell? ⟨b, o, none⟩ = some (.int .i64 p.1) ∧ w.cell? ⟨b, o + 1, none⟩ = some (.int .i64 p.2)
theorem Cells2.below {w w' : World} {n b o : Nat} {p : Per} (h : Cells2 w b o p) (hb : Below n w w') (hlt : b < n) : Cells2 w' b o p :=
  ⟨(hb.cell (p := ⟨b, o, none⟩) hlt).trans h.1, (hb.cell (p := ⟨b, o + 1, none⟩) hlt).trans h.2⟩
/-- v is a list of these periods -/
def PerSl (w : World) (v : Value) (l : List Per) : Prop :=
  (l = [] ∧ ∃ a cap, v = .slice a 0 cap) ∨
  ∃ b off cap, v = .slice (some ⟨b, off, none⟩) l.length cap ∧ 0 < l.length ∧ b < w.heap.size ∧ (l.length ≤ cap ∧ cap ≤ maxLen) ∧ ∀ i (h : i < l.length), Cells2 w b (off + i * 2) l[i]
theorem PerSl.below {w w' : World} {v : Value} {l : List Per} (h : PerSl w v l) (hb : Below w.heap.size w w') : PerSl w' v l := by
  rcases h with h | ⟨b, off, cap, hv, h0, hlt, hm, hc⟩
  · exact .inl h
  · exact .inr ⟨b, off, cap, hv, h0, Nat.lt_of_lt_of_le hlt hb.size, hm, fun i hi => (hc i hi).below hb hlt⟩
theorem PerSl.form {w : World} {v : Value} {l : List Per} (h : PerSl w v l) : ∃ a cap, v = .slice a l.length cap := by
  rcases h with ⟨rfl, a, cap, rfl⟩ | ⟨b, off, cap, rfl, _⟩
  · exact ⟨a, cap, rfl⟩
  · exact ⟨_, _, rfl⟩
/-- .. of the call's own, from block B on -/
def OwnPer (w : World) (B : Nat) (v : Value) (l : List Per) : Prop := w.ownsRow B 35 2 v l.length (flatP l)
theorem OwnPer.nil (w : World) (B : Nat) : OwnPer w B (.slice none 0 0) [] := World.ownsRow_nil w B _ _
theorem OwnPer.sl {w : World} {B : Nat} {v : Value} {l : List Per} (h : OwnPer w B v l) : PerSl w v l := by
  rcases h with ⟨hl, ⟨hv, h0⟩ | ⟨g, cap, cur, hv, _, hg, hc, hm, hsz, htk⟩⟩
  · exact .inl ⟨List.eq_nil_of_length_eq_zero h0, none, 0, by rw [hv]⟩
  · by_cases h0 : l.length = 0
    · exact .inl ⟨List.eq_nil_of_length_eq_zero h0, _, cap, by rw [hv, h0]⟩
    · refine .inr ⟨g, 0, cap, hv, by omega, (Array.getElem?_eq_some_iff.1 hg).1, ⟨hc, hm⟩, fun i hi => ?_⟩
      have key : ∀ j, j < 2 → w.cell? ⟨g, 0 + i * 2 + j, none⟩ = (encP l[i])[j]? := fun j hj => by
        rw [cell_of_row _ _ _ _ _ _ hg, Nat.zero_add, ← flatP_get l i j hi hj, ← htk, List.getElem?_take, if_pos (by omega), Array.getElem?_toList]
      exact ⟨key 0 (by decide), key 1 (by decide)⟩
theorem OwnPer.form {w : World} {B : Nat} {v : Value} {l : List Per} (h : OwnPer w B v l) : ∃ a cap, v = .slice a l.length cap := h.sl.form
theorem OwnPer.lt {w : World} {B : Nat} {v : Value} {l : List Per} (h : OwnPer w B v l) : ∀ k, v.ownBlock = some k → B ≤ k := fun k hk => (World.ownsRow.lt h k hk).1
theorem grownBelow {w w' : World} (h : Below w.heap.size w w') (row : Option Nat) : w.grownBy w' row := ⟨h.os, h.tape, h.output, h.size, fun i hi _ => h.block i hi⟩
theorem OwnPer.below {w w' : World} {B : Nat} {v : Value} {l : List Per} (h : OwnPer w B v l) (hb : Below w.heap.size w w') : OwnPer w' B v l := by
  have hg := grownBelow hb (some w.heap.size)
  refine World.ownsRow.kept h hg ?_
  right
  intro he
  have := (World.ownsRow.lt h _ he).2
  omega
theorem OwnPer.kept {w w' : World} {B : Nat} {v : Value} {l : List Per} {row : Option Nat} (h : OwnPer w B v l) (hg : w.grownBy w' row) (hne : v.ownBlock ≠ row) : OwnPer w' B v l := World.ownsRow.kept h hg (.inr hne)
theorem infoP : (Tryd.prog.info? 35).bind (fun i => i.zero.map fun z => (i.size, i.bytes, z.cells.size)) = some (2, 16, 2) := by kernel_rfl
theorem per_info : ∃ i z, Tryd.prog.info? 35 = some i ∧ i.zero = some z ∧ i.size = 2 ∧ i.bytes = 16 ∧ z.cells.size = 2 := by
  have h := infoP
  cases hi : Tryd.prog.info? 35 with
  | none => rw [hi] at h; cases h
  | some i =>
    rw [hi] at h
    cases hz : i.zero with
    | none => simp [hz] at h
    | some z =>
      simp [hz] at h
      exact ⟨i, z, rfl, hz, h.1, h.2.1, h.2.2⟩
section
variable (w : World)
/-- what append does: the source may be nil, empty, or not -/
theorem run_append_per (ty : TypeId) (B : Nat) (v u : Value) (p q : List Per) (own : OwnPer w B v p) (hq : PerSl w u q) (hlen : p.length + q.length ≤ 1000000) (hB : B ≤ w.heap.size) :
    ∃ v' w', (Builtin.append_ #[36, 36] ty #[v, u]).run Tryd.prog w = .ok v' w' ∧ OwnPer w' B v' (p ++ q) ∧ w.grownBy w' v.ownBlock := by
  obtain ⟨i0, z0, hi, hz0, hz1, hz2, hz3⟩ := per_info
  have key : ∀ (ad : Addr) (c : Nat), u = .slice (some ad) q.length c → (∀ j x, (flatP q)[j]? = some x → w.cell? (ad.add j) = some x) →
      ∃ v' w', (Builtin.append_ #[36, 36] ty #[v, u]).run Tryd.prog w = .ok v' w' ∧ OwnPer w' B v' (p ++ q) ∧ w.grownBy w' v.ownBlock := by
    intro ad c hu hcells
    subst hu
    obtain ⟨v', w', hr, h2, h3, _, h5⟩ := run_append_own_at (P := Tryd.prog) w B 36 ty 35 i0 z0 2 16 Tryd.underlying36 hi hz0 hz1 hz2 hz3 (by decide) v p.length (flatP p) own ad q.length c (flatP q)
      (flatP_length q) hcells (by intro x hx; obtain ⟨s, _, hs⟩ := List.mem_flatMap.1 hx; exact encP_one s x hs) (by unfold maxLen; omega) (by omega) hB
    refine ⟨v', w', hr, ?_, h3⟩
    unfold OwnPer
    rw [List.length_append, flatP_append]
    exact h2
  rcases hq with ⟨rfl, a, c, rfl⟩ | ⟨b, off, c, rfl, h0, hbb, hm, hc⟩
  · cases a with
    | some ad => exact key ad c rfl (by intro j x hx; simp [flatP] at hx)
    | none =>
      refine ⟨v, w, ?_, by rw [List.append_nil]; exact own, World.grownBy.refl w _⟩
      rcases own.2 with ⟨rfl, hn⟩ | ⟨g, cap, cur, rfl, _, _, hnc, _⟩
      · simp [Builtin.append_, run_underlying Tryd.underlying36, sizeOf, typeInfo, hi, Builtin.lenOf, Builtin.firstCells]
      · simp [Builtin.append_, run_underlying Tryd.underlying36, sizeOf, typeInfo, hi, Builtin.lenOf, Builtin.firstCells, hnc, storeCells]
  · refine key ⟨b, off, none⟩ c rfl fun j x hx => ?_
    have hadd : (⟨b, off, none⟩ : Addr).add j = ⟨b, off + j, none⟩ := by unfold Addr.add; split <;> simp_all
    have hj : j < q.length * 2 := by
      have := (List.getElem?_eq_some_iff.1 hx).1
      rwa [flatP_length] at this
    have hjq : j / 2 < q.length := by omega
    have hg := flatP_get q (j / 2) (j % 2) hjq (Nat.mod_lt _ (by decide))
    rw [show j / 2 * 2 + j % 2 = j by omega, hx] at hg
    rw [hadd, show off + j = off + j / 2 * 2 + j % 2 by omega]
    have hcc := hc (j / 2) hjq
    rcases Nat.mod_two_eq_zero_or_one j with hm2 | hm2
    · rw [hm2] at hg ⊢
      rw [Nat.add_zero, hcc.1, hg]
      rfl
    · rw [hm2] at hg ⊢
      rw [hcc.2, hg]
      rfl
theorem list_append_per {ops : Array Oper} {rest : List Oper} {o : Oper} {a : Act} {Q : Exit → Act → World → Prop} (hgd : o.guard = none) (s x : Operand)
    (ho : o.op = .call { callee := .builtin .append, args := #[s, x], argTypes := #[36, 36] })
    (B : Nat) (v u : Value) (p q : List Per) (hs : a.eval s = v) (hx : a.eval x = u) (own : OwnPer w B v p) (hq : PerSl w u q) (hlen : p.length + q.length ≤ 1000000) (hB : B ≤ w.heap.size)
    (h : ∀ v' w', OwnPer w' B v' (p ++ q) → w.grownBy w' v.ownBlock → wpList Tryd.prog ops Q rest (a.put o.dst v') w') : wpList Tryd.prog ops Q (o :: rest) a w :=
  wpList_plain hgd fun K hK => by
    obtain ⟨v', w', hr, h2, h3⟩ := run_append_per w o.type B v u p q own hq hlen hB
    unfold Oper.wp execOp
    simp only [ho, resolve, invoke, builtin, Sem.run_bind, Sem.run_pure, Result.andThen_ok, List.map_toArray, List.map_cons, List.map_nil, hs, hx, hr]
    exact hK _ _ (h v' w' h2 h3)
end
theorem PerSl.one (w : World) (p : Per) : PerSl (w.alloc (.cells #[.int .i64 p.1, .int .i64 p.2] 35)) (.slice (some ⟨w.heap.size, 0, none⟩) 1 1) [p] := by
  refine .inr ⟨w.heap.size, 0, 1, rfl, by simp, by simp, ⟨by simp, by unfold maxLen; omega⟩, fun i hi => ?_⟩
  obtain rfl : i = 0 := by simpa using hi
  obtain ⟨a, b, -, -⟩ := (Two.new w 35 (.int .i64 p.1) (.int .i64 p.2)).facts
  exact ⟨a, b⟩

/-! ### the functions on periods -/
theorem end_any (f u : Int) (w : World) :
    Calls Tryd.prog 47 #[.agg #[.int .i64 f, .int .i64 u]] w fun e w' => e = .returned (.int .i64 (endP (f, u))) ∧ Below w.heap.size w w' := by
  unfold endP
  by_cases h : u = -1
  · subst h
    go_enter Tryd.func47, Tryd.ntmps47
    go_wp2_with fail
    go_ret
    exact ⟨rfl, (Below.refl _ _).alloc (Nat.le_refl _) _⟩
  · rw [if_neg h]
    have h1 : (u == -1) = false := by simpa using h
    clear h
    go_enter Tryd.func47, Tryd.ntmps47
    go_wp2_with fail
    go_ret
    exact ⟨rfl, (Below.refl _ _).alloc (Nat.le_refl _) _⟩
theorem between_any (f e : Int) (w : World) :
    Calls Tryd.prog 48 #[.int .i64 f, .int .i64 e] w fun r w' => r = .returned (.agg #[.int .i64 (btw f e).1, .int .i64 (btw f e).2]) ∧ Below w.heap.size w w' := by
  unfold btw
  by_cases h : 100000 < e
  · rw [if_pos h]
    go_enter Tryd.func48, Tryd.ntmps48
    go_wp2_with fail
    refine bodyPost_ret (v := .agg #[.int .i64 f, .int .i64 (-1)]) ?_ rfl ⟨rfl, ?_⟩
    · simp [results, Tryd.results48, go_sem]
    · exact (Below.refl _ _).alloc (Nat.le_refl _) _
  · rw [if_neg h]
    go_enter Tryd.func48, Tryd.ntmps48
    go_wp2_with fail
    refine bodyPost_ret (v := .agg #[.int .i64 f, .int .i64 e]) ?_ rfl ⟨rfl, ?_⟩
    · simp [results, Tryd.results48, go_sem]
    · exact (Below.refl _ _).alloc (Nat.le_refl _) _
theorem proper_yes (f u : Int) (h : propP (f, u)) (w : World) :
    Calls Tryd.prog 29 #[.agg #[.int .i64 f, .int .i64 u]] w fun r w' => r = .returned (.bool true) ∧ Below w.heap.size w w' := by
  obtain ⟨⟨h0, h1⟩, h2⟩ := h
  simp only at h0 h1 h2
  rcases h2 with rfl | ⟨⟨h3, h4⟩, h5⟩
  · go_enter Tryd.func29, Tryd.ntmps29
    go_wp2_with (go_at_call 37; refine (isDay_yes _ (by assumption) (by assumption) _).mono ?_; rintro r w' ⟨rfl, rfl⟩)
    go_ret
    exact ⟨rfl, (Below.refl _ _).alloc (Nat.le_refl _) _⟩
  · have k1 : (u == -1) = false := by simp; omega
    go_enter Tryd.func29, Tryd.ntmps29
    go_wp2_with (go_at_call 37; refine (isDay_yes _ (by assumption) (by assumption) _).mono ?_; rintro r w' ⟨rfl, rfl⟩)
    go_ret
    exact ⟨rfl, (Below.refl _ _).alloc (Nat.le_refl _) _⟩
theorem proper_no (f u : Int) (h : ¬ propP (f, u)) (w : World) :
    Calls Tryd.prog 29 #[.agg #[.int .i64 f, .int .i64 u]] w fun r w' => r = .returned (.bool false) ∧ Below w.heap.size w w' := by
  unfold propP at h
  simp only at h
  by_cases hf : 0 ≤ f ∧ f ≤ 100000
  · obtain ⟨f0, f1⟩ := hf
    have k1 : (u == -1) = false := by simp; omega
    by_cases hu : 0 ≤ u ∧ u ≤ 100000
    · have hle : decide (f < u) = false := by simp; omega
      obtain ⟨u0, u1⟩ := hu
      clear h
      go_enter Tryd.func29, Tryd.ntmps29
      go_wp2_with (go_at_call 37; refine (isDay_yes _ (by assumption) (by assumption) _).mono ?_; rintro r w' ⟨rfl, rfl⟩)
      go_ret
      exact ⟨rfl, (Below.refl _ _).alloc (Nat.le_refl _) _⟩
    · have HN := Lib.hid (fun w => isDay_no u hu w)
      clear h hu
      go_enter Tryd.func29, Tryd.ntmps29
      go_wp2_with fail
      refine (isDay_yes _ f0 f1 _).mono ?_
      rintro r w' ⟨rfl, rfl⟩
      go_wp2_with fail
      refine (HN.out _).mono ?_
      rintro r w' ⟨rfl, rfl⟩
      go_wp2_with fail
      go_ret
      exact ⟨rfl, (Below.refl _ _).alloc (Nat.le_refl _) _⟩
  · have HN := Lib.hid (fun w => isDay_no f hf w)
    clear h hf
    go_enter Tryd.func29, Tryd.ntmps29
    go_wp2_with fail
    refine (HN.out _).mono ?_
    rintro r w' ⟨rfl, rfl⟩
    go_wp2_with fail
    go_ret
    exact ⟨rfl, (Below.refl _ _).alloc (Nat.le_refl _) _⟩

theorem covers_any (f u x : Int) (w : World) :
    Calls Tryd.prog 31 #[.agg #[.int .i64 f, .int .i64 u], .int .i64 x] w fun r w' => r = .returned (.bool (decide (inP (f, u) x))) ∧ Below w.heap.size w w' := by
  by_cases hp : propP (f, u)
  · have HP := Lib.hid (fun w => proper_yes f u hp w)
    have HE := Lib.hid (fun w => end_any f u w)
    have hin : decide (inP (f, u) x) = decide (f ≤ x ∧ x < endP (f, u)) := by unfold inP; simp [hp]
    rw [hin]
    generalize endP (f, u) = e at *
    clear hin
    have t1 := Two.new w 35 (.int .i64 f) (.int .i64 u)
    have hb0 : Below w.heap.size w (w.alloc (.cells #[.int .i64 f, .int .i64 u] 35)) := (Below.refl w.heap.size w).alloc (Nat.le_refl _) _
    by_cases h1 : f ≤ x
    · by_cases h2 : x < e
      · rw [decide_eq_true ⟨h1, h2⟩]
        clear hp
        go_enter Tryd.func31, Tryd.ntmps31
        go_wp2_with fail
        refine (HP.out _).mono ?_
        rintro r w1 ⟨rfl, hb1⟩
        obtain ⟨c1, c2, c3, c4⟩ := (t1.below hb1 t1.lt).facts
        have hb2 := hb0.trans (hb1.mono hb0.size)
        go_wp2_with fail
        refine (HE.out _).mono ?_
        rintro r w3 ⟨rfl, hb3⟩
        go_wp2_with fail
        go_ret
        exact ⟨rfl, hb2.trans (hb3.mono hb2.size)⟩
      · have h3 : decide (x < e) = false := by simpa using h2
        rw [decide_eq_false (fun k => h2 k.2)]
        clear hp h2
        go_enter Tryd.func31, Tryd.ntmps31
        go_wp2_with fail
        refine (HP.out _).mono ?_
        rintro r w1 ⟨rfl, hb1⟩
        obtain ⟨c1, c2, c3, c4⟩ := (t1.below hb1 t1.lt).facts
        have hb2 := hb0.trans (hb1.mono hb0.size)
        go_wp2_with fail
        refine (HE.out _).mono ?_
        rintro r w3 ⟨rfl, hb3⟩
        go_wp2_with fail
        go_ret
        exact ⟨rfl, hb2.trans (hb3.mono hb2.size)⟩
    · have h3 : decide (f ≤ x) = false := by simpa using h1
      rw [decide_eq_false (fun k => h1 k.1)]
      clear hp h1
      go_enter Tryd.func31, Tryd.ntmps31
      go_wp2_with fail
      refine (HP.out _).mono ?_
      rintro r w1 ⟨rfl, hb1⟩
      obtain ⟨c1, c2, c3, c4⟩ := (t1.below hb1 t1.lt).facts
      go_wp2_with fail
      go_ret
      exact ⟨rfl, hb0.trans (hb1.mono hb0.size)⟩
  · have hn : decide (inP (f, u) x) = false := by unfold inP; simp [hp]
    have HP := Lib.hid (fun w => proper_no f u hp w)
    rw [hn]
    clear hn hp
    go_enter Tryd.func31, Tryd.ntmps31
    go_wp2_with fail
    refine (HP.out _).mono ?_
    rintro r w1 ⟨rfl, hb1⟩
    go_wp2_with fail
    go_ret
    exact ⟨rfl, ((Below.refl w.heap.size w).alloc (Nat.le_refl _) _).trans (hb1.mono (by simp))⟩
end Go.Proofs.YtdbffhcckmmgfaaDoor.Dt
