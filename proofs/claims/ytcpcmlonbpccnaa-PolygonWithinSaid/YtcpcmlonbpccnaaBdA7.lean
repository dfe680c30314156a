/- Lists of points: what they are in memory, and what append does. -/
import Derived.Test.YtcpcmlonbpccnaaBdA6
import Derived.Maps.AppendAt
import Derived.Deep.AppendLies
import Derived.Test.YtcpcmlonbpccnaaBdA1
namespace Go.Proofs.Ytcpcmlonbpccnaa.Ge
set_option linter.unusedVariables false
set_option linter.unusedSimpArgs false
open Go.RowKit
open Go.Proofs.Ytcpcmlonbpccnaa.Fr (Two)

abbrev Pt := Int × Int
theorem Pts.belowN {w w' : World} {N b : Nat} {l : List (Int × Int)} (h : Pts w b l) (hb : Below N w w') (hlt : b < N) : Pts w' b l :=
  ⟨Nat.lt_of_lt_of_le h.1 hb.size, fun i hi => ⟨(hb.cell (p := ⟨b, i * 2, none⟩) hlt).trans (h.2 i hi).1, (hb.cell (p := ⟨b, i * 2 + 1, none⟩) hlt).trans (h.2 i hi).2⟩⟩
/-! ### points -/
def ptA (p : Pt) : Array Value := #[.int .i64 p.1, .int .i64 p.2]
def encT (p : Pt) : List Value := [.int .i64 p.1, .int .i64 p.2]
def ptV (p : Pt) : Value := .agg #[.int .i64 p.1, .int .i64 p.2]
def flatT (l : List Pt) : List Value := l.flatMap encT
theorem flatT_length : ∀ l : List Pt, (flatT l).length = l.length * 2
  | [] => rfl
  | p :: l => by
    have h := flatT_length l
    unfold flatT at h ⊢
    rw [List.flatMap_cons, List.length_append, h]
    simp [encT]
    omega
theorem flatT_append (a b : List Pt) : flatT (a ++ b) = flatT a ++ flatT b := List.flatMap_append
theorem flatT_get : ∀ (l : List Pt) (i j : Nat) (h : i < l.length), j < 2 → (flatT l)[i * 2 + j]? = (encT l[i])[j]?
  | [], i, j, h, _ => by simp at h
  | p :: l, i, j, h, hj => by
    have hl : (encT p).length = 2 := rfl
    unfold flatT
    rw [List.flatMap_cons]
    cases i with
    | zero =>
      rw [Nat.zero_mul, Nat.zero_add, List.getElem?_append_left (by omega)]
      rfl
    | succ i =>
      rw [List.getElem?_append_right (by omega), hl, show (i + 1) * 2 + j - 2 = i * 2 + j by omega]
      exact flatT_get l i j (by simpa using h) hj
theorem encT_one (p : Pt) : ∀ v ∈ encT p, v.oneCell' = true := by
  intro v hv
  simp [encT] at hv
  rcases hv with rfl | rfl <;> rfl
/-- the two cells of a point -/
def Cells2 (w : World) (b o : Nat) (p : Pt) : Prop := w.cell? ⟨b, o, none⟩ = some (.int .i64 p.1) ∧ w.cell? ⟨b, o + 1, none⟩ = some (.int .i64 p.2)
theorem Cells2.below {w w' : World} {n b o : Nat} {p : Pt} (h : Cells2 w b o p) (hb : Below n w w') (hlt : b < n) : Cells2 w' b o p :=
  ⟨(hb.cell (p := ⟨b, o, none⟩) hlt).trans h.1, (hb.cell (p := ⟨b, o + 1, none⟩) hlt).trans h.2⟩
/-- v is a list of these points -/
def PtSl (w : World) (v : Value) (l : List Pt) : Prop :=
  (l = [] ∧ ∃ a cap, v = .slice a 0 cap) ∨
  ∃ b off cap, v = .slice (some ⟨b, off, none⟩) l.length cap ∧ 0 < l.length ∧ b < w.heap.size ∧ (l.length ≤ cap ∧ cap ≤ maxLen) ∧ ∀ i (h : i < l.length), Cells2 w b (off + i * 2) l[i]
theorem PtSl.below {w w' : World} {v : Value} {l : List Pt} (h : PtSl w v l) (hb : Below w.heap.size w w') : PtSl w' v l := by
  rcases h with h | ⟨b, off, cap, hv, h0, hlt, hm, hc⟩
  · exact .inl h
  · exact .inr ⟨b, off, cap, hv, h0, Nat.lt_of_lt_of_le hlt hb.size, hm, fun i hi => (hc i hi).below hb hlt⟩
theorem PtSl.form {w : World} {v : Value} {l : List Pt} (h : PtSl w v l) : ∃ a cap, v = .slice a l.length cap := by
  rcases h with ⟨rfl, a, cap, rfl⟩ | ⟨b, off, cap, rfl, _⟩
  · exact ⟨a, cap, rfl⟩
  · exact ⟨_, _, rfl⟩
/-- .. of the call's own, from block B on -/
def OwnPt (w : World) (B : Nat) (v : Value) (l : List Pt) : Prop := w.ownsRow B 24 2 v l.length (flatT l)
theorem OwnPt.nil (w : World) (B : Nat) : OwnPt w B (.slice none 0 0) [] := World.ownsRow_nil w B _ _
theorem OwnPt.sl {w : World} {B : Nat} {v : Value} {l : List Pt} (h : OwnPt w B v l) : PtSl w v l := by
  rcases h with ⟨hl, ⟨hv, h0⟩ | ⟨g, cap, cur, hv, _, hg, hc, hm, hsz, htk⟩⟩
  · exact .inl ⟨List.eq_nil_of_length_eq_zero h0, none, 0, by rw [hv]⟩
  · by_cases h0 : l.length = 0
    · exact .inl ⟨List.eq_nil_of_length_eq_zero h0, _, cap, by rw [hv, h0]⟩
    · refine .inr ⟨g, 0, cap, hv, by omega, (Array.getElem?_eq_some_iff.1 hg).1, ⟨hc, hm⟩, fun i hi => ?_⟩
      have key : ∀ j, j < 2 → w.cell? ⟨g, 0 + i * 2 + j, none⟩ = (encT l[i])[j]? := fun j hj => by
        rw [cell_of_row _ _ _ _ _ _ hg, Nat.zero_add, ← flatT_get l i j hi hj, ← htk, List.getElem?_take, if_pos (by omega), Array.getElem?_toList]
      exact ⟨key 0 (by decide), key 1 (by decide)⟩
theorem OwnPt.form {w : World} {B : Nat} {v : Value} {l : List Pt} (h : OwnPt w B v l) : ∃ a cap, v = .slice a l.length cap := h.sl.form
theorem OwnPt.lt {w : World} {B : Nat} {v : Value} {l : List Pt} (h : OwnPt w B v l) : ∀ k, v.ownBlock = some k → B ≤ k := fun k hk => (World.ownsRow.lt h k hk).1
theorem grownBelow {w w' : World} (h : Below w.heap.size w w') (row : Option Nat) : w.grownBy w' row := ⟨h.os, h.tape, h.output, h.size, fun i hi _ => h.block i hi⟩
theorem OwnPt.below {w w' : World} {B : Nat} {v : Value} {l : List Pt} (h : OwnPt w B v l) (hb : Below w.heap.size w w') : OwnPt w' B v l := by
  have hg := grownBelow hb (some w.heap.size)
  refine World.ownsRow.kept h hg ?_
  right
  intro he
  have := (World.ownsRow.lt h _ he).2
  omega
theorem OwnPt.kept {w w' : World} {B : Nat} {v : Value} {l : List Pt} {row : Option Nat} (h : OwnPt w B v l) (hg : w.grownBy w' row) (hne : v.ownBlock ≠ row) : OwnPt w' B v l := World.ownsRow.kept h hg (.inr hne)
theorem infoT : (Try.prog.info? 24).bind (fun i => i.zero.map fun z => (i.size, i.bytes, z.cells.size)) = some (2, 16, 2) := by kernel_rfl
theorem pt_info : ∃ i z, Try.prog.info? 24 = some i ∧ i.zero = some z ∧ i.size = 2 ∧ i.bytes = 16 ∧ z.cells.size = 2 := by
  have h := infoT
  cases hi : Try.prog.info? 24 with
  | none => rw [hi] at h; cases h
  | some i =>
    rw [hi] at h
    cases hz : i.zero with
    | none => simp [hz] at h
    | some z =>
      simp [hz] at h
      exact ⟨i, z, rfl, hz, h.1, h.2.1, h.2.2⟩
section
variable (w : World)
/-- what append does: the source may be nil, empty, or not -/
theorem run_append_pt (ty : TypeId) (B : Nat) (v u : Value) (p q : List Pt) (own : OwnPt w B v p) (hq : PtSl w u q) (hlen : p.length + q.length ≤ 1000000) (hB : B ≤ w.heap.size) :
    ∃ v' w', (Builtin.append_ #[22, 22] ty #[v, u]).run Try.prog w = .ok v' w' ∧ OwnPt w' B v' (p ++ q) ∧ w.grownBy w' v.ownBlock ∧ (v'.ownBlock = v.ownBlock ∨ v'.ownBlock = some w.heap.size) := by
  obtain ⟨i0, z0, hi, hz0, hz1, hz2, hz3⟩ := pt_info
  have key : ∀ (ad : Addr) (c : Nat), u = .slice (some ad) q.length c → (∀ j x, (flatT q)[j]? = some x → w.cell? (ad.add j) = some x) →
      ∃ v' w', (Builtin.append_ #[22, 22] ty #[v, u]).run Try.prog w = .ok v' w' ∧ OwnPt w' B v' (p ++ q) ∧ w.grownBy w' v.ownBlock ∧ (v'.ownBlock = v.ownBlock ∨ v'.ownBlock = some w.heap.size) := by
    intro ad c hu hcells
    subst hu
    obtain ⟨v', w', hr, h2, h3, _, h5⟩ := run_append_own_at (P := Try.prog) w B 22 ty 24 i0 z0 2 16 Try.underlying22 hi hz0 hz1 hz2 hz3 (by decide) v p.length (flatT p) own ad q.length c (flatT q)
      (flatT_length q) hcells (by intro x hx; obtain ⟨s, _, hs⟩ := List.mem_flatMap.1 hx; exact encT_one s x hs) (by unfold maxLen; omega) (by omega) hB
    refine ⟨v', w', hr, ?_, h3, h5⟩
    unfold OwnPt
    rw [List.length_append, flatT_append]
    exact h2
  rcases hq with ⟨rfl, a, c, rfl⟩ | ⟨b, off, c, rfl, h0, hbb, hm, hc⟩
  · cases a with
    | some ad => exact key ad c rfl (by intro j x hx; simp [flatT] at hx)
    | none =>
      refine ⟨v, w, ?_, by rw [List.append_nil]; exact own, World.grownBy.refl w _, .inl rfl⟩
      rcases own.2 with ⟨rfl, hn⟩ | ⟨g, cap, cur, rfl, _, _, hnc, _⟩
      · simp [Builtin.append_, run_underlying Try.underlying22, sizeOf, typeInfo, hi, Builtin.lenOf, Builtin.firstCells]
      · simp [Builtin.append_, run_underlying Try.underlying22, sizeOf, typeInfo, hi, Builtin.lenOf, Builtin.firstCells, hnc, storeCells]
  · refine key ⟨b, off, none⟩ c rfl fun j x hx => ?_
    have hadd : (⟨b, off, none⟩ : Addr).add j = ⟨b, off + j, none⟩ := by unfold Addr.add; split <;> simp_all
    have hj : j < q.length * 2 := by
      have := (List.getElem?_eq_some_iff.1 hx).1
      rwa [flatT_length] at this
    have hjq : j / 2 < q.length := by omega
    have hg := flatT_get q (j / 2) (j % 2) hjq (Nat.mod_lt _ (by decide))
    rw [show j / 2 * 2 + j % 2 = j by omega, hx] at hg
    rw [hadd, show off + j = off + j / 2 * 2 + j % 2 by omega]
    have hcc := hc (j / 2) hjq
    rcases Nat.mod_two_eq_zero_or_one j with hm2 | hm2
    · rw [hm2] at hg ⊢
      rw [Nat.add_zero, hcc.1, hg]
      rfl
    · rw [hm2] at hg ⊢
      rw [hcc.2, hg]
      rfl
theorem list_append_pt {ops : Array Oper} {rest : List Oper} {o : Oper} {a : Act} {Q : Exit → Act → World → Prop} (hgd : o.guard = none) (s x : Operand)
    (ho : o.op = .call { callee := .builtin .append, args := #[s, x], argTypes := #[22, 22] })
    (B : Nat) (v u : Value) (p q : List Pt) (hs : a.eval s = v) (hx : a.eval x = u) (own : OwnPt w B v p) (hq : PtSl w u q) (hlen : p.length + q.length ≤ 1000000) (hB : B ≤ w.heap.size)
    (h : ∀ v' w', OwnPt w' B v' (p ++ q) → w.grownBy w' v.ownBlock → (v'.ownBlock = v.ownBlock ∨ v'.ownBlock = some w.heap.size) → wpList Try.prog ops Q rest (a.put o.dst v') w') : wpList Try.prog ops Q (o :: rest) a w :=
  wpList_plain hgd fun K hK => by
    obtain ⟨v', w', hr, h2, h3, h5⟩ := run_append_pt w o.type B v u p q own hq hlen hB
    unfold Oper.wp execOp
    simp only [ho, resolve, invoke, builtin, Sem.run_bind, Sem.run_pure, Result.andThen_ok, List.map_toArray, List.map_cons, List.map_nil, hs, hx, hr]
    exact hK _ _ (h v' w' h2 h3 h5)
end
theorem PtSl.one (w : World) (p : Pt) : PtSl (w.alloc (.cells #[.int .i64 p.1, .int .i64 p.2] 24)) (.slice (some ⟨w.heap.size, 0, none⟩) 1 1) [p] := by
  refine .inr ⟨w.heap.size, 0, 1, rfl, by simp, by simp, ⟨by simp, by unfold maxLen; omega⟩, fun i hi => ?_⟩
  obtain rfl : i = 0 := by simpa using hi
  obtain ⟨a, b, -, -⟩ := (Two.new w 24 (.int .i64 p.1) (.int .i64 p.2)).facts
  exact ⟨a, b⟩

section
variable (w : World)
theorem step_append_pt {ops : Array Oper} {o : Oper} {a : Act} {K : Act → World → Prop} {Q : Exit → Act → World → Prop} {E : Prop} (hgd : o.guard = none) (s x : Operand)
    (ho : o.op = .call { callee := .builtin .append, args := #[s, x], argTypes := #[22, 22] })
    (B : Nat) (v u : Value) (p q : List Pt) (hs : a.eval s = v) (hx : a.eval x = u) (own : OwnPt w B v p) (hq : PtSl w u q) (hlen : p.length + q.length ≤ 1000000) (hB : B ≤ w.heap.size)
    (h : ∀ v' w', OwnPt w' B v' (p ++ q) → w.grownBy w' v.ownBlock → (v'.ownBlock = v.ownBlock ∨ v'.ownBlock = some w.heap.size) → K (a.put o.dst v') w') :
    if Region.wanted o (yielded ops a.tmps) = true then Oper.wp Try.prog o a w K Q else E := by
  have hw : Region.wanted o (yielded ops a.tmps) = true := by simp [Region.wanted, hgd]
  rw [if_pos hw]
  obtain ⟨v', w', hr, h2, h3, h5⟩ := run_append_pt w o.type B v u p q own hq hlen hB
  unfold Oper.wp execOp
  simp only [ho, resolve, invoke, builtin, Sem.run_bind, Sem.run_pure, Result.andThen_ok, List.map_toArray, List.map_cons, List.map_nil, hs, hx, hr]
  exact h v' w' h2 h3 h5
end
/-! two lists of the call's own, in different blocks -/
def Sep (s t : Value) : Prop := ∀ b, t.ownBlock = some b → s.ownBlock ≠ some b
theorem Sep.ne {s t : Value} (h : Sep s t) : t.ownBlock = none ∨ t.ownBlock ≠ s.ownBlock := by
  cases e : t.ownBlock with
  | none => exact .inl rfl
  | some b => exact .inr fun k => h b e k.symm
theorem Sep.symm {s t : Value} (h : Sep s t) : Sep t s := fun b hb ht => h b ht hb
theorem Sep.grow {w : World} {B : Nat} {s s' t : Value} {l : List Pt} (h : Sep s t) (ht : OwnPt w B t l) (ho : s'.ownBlock = s.ownBlock ∨ s'.ownBlock = some w.heap.size) : Sep s' t := fun b hb => by
  rcases ho with e | e
  · rw [e]; exact h b hb
  · rw [e]
    intro k
    have := (World.ownsRow.lt ht b hb).2
    simp only [Option.some.injEq] at k
    omega
theorem OwnPt.keptSep {w w' : World} {B : Nat} {s t : Value} {l : List Pt} (h : OwnPt w B t l) (hg : w.grownBy w' s.ownBlock) (hs : Sep s t) : OwnPt w' B t l := World.ownsRow.kept h hg hs.ne
end Go.Proofs.Ytcpcmlonbpccnaa.Ge

/- Walks over package polygon: what a side says of a place, of a corner, of another side. -/
namespace Go.Proofs.Ytcpcmlonbpccnaa.Ge
set_option linter.unusedVariables false
set_option linter.unusedSimpArgs false
open Go.RowKit
open Go.Proofs.Ytcpcmlonbpccnaa.Fr (Two)

theorem middle_any (ax ay bx bz : Int) (ha : onP ax ay) (hb : onP bx bz) (w : World) :
    Calls Try.prog 86 #[.agg #[.int .i64 ax, .int .i64 ay], .agg #[.int .i64 bx, .int .i64 bz]] w fun e w' => e = .returned (.agg #[.int .i64 (ax + bx), .int .i64 (ay + bz)]) ∧ Below w.heap.size w w' := by
  obtain ⟨⟨a1, a2⟩, a3, a4⟩ := ha
  obtain ⟨⟨b1, b2⟩, b3, b4⟩ := hb
  go_enter Try.func86, Try.ntmps86
  go_wp2_with fail
  refine bodyPost_ret (v := .agg #[.int .i64 (ax + bx), .int .i64 (ay + bz)]) ?_ rfl ⟨rfl, ?_⟩
  · simp [results, Try.results86, go_sem]
  · have hb2 := (((Below.refl w.heap.size w).alloc (Nat.le_refl _) (.cells #[.int .i64 ax, .int .i64 ay] 24)).alloc (by simp) (.cells #[.int .i64 bx, .int .i64 bz] 24)).alloc (by simp only [World.size_alloc]; omega) (.cells #[.int .i64 (ax + bx), .int .i64 (ay + bz)] 106)
    exact hb2

theorem pturn_any (ax ay bx bz px py : Int) (ha : onP ax ay) (hb : onP bx bz) (hp : onQ px py) (w : World) :
    Calls Try.prog 130 #[.agg #[.int .i64 ax, .int .i64 ay, .int .i64 bx, .int .i64 bz], .agg #[.int .i64 px, .int .i64 py]] w fun e w' => e = .returned (.int .i64 (tuN ax ay bx bz px py)) ∧ Below w.heap.size w w' := by
  obtain ⟨⟨a1, a2⟩, a3, a4⟩ := ha
  obtain ⟨⟨b1, b2⟩, b3, b4⟩ := hb
  obtain ⟨⟨p1, p2⟩, p3, p4⟩ := hp
  have h1 := plq_bd (d_bd a1 a2 b1 b2) (pld_bd a3 a4 p3 p4)
  have h2 := plq_bd (d_bd a3 a4 b3 b4) (pld_bd a1 a2 p1 p2)
  go_enter Try.func130, Try.ntmps130
  go_wp2_with fail
  go_ret
  exact ⟨rfl, ((Below.refl _ _).alloc (Nat.le_refl _) _).alloc (by simp) _⟩

theorem phas_any (ax ay bx bz px py : Int) (ha : onP ax ay) (hb : onP bx bz) (hp : onQ px py) (w : World) :
    Calls Try.prog 118 #[.agg #[.int .i64 ax, .int .i64 ay, .int .i64 bx, .int .i64 bz], .agg #[.int .i64 px, .int .i64 py]] w fun e w' => e = .returned (.bool (hsB ax ay bx bz px py)) ∧ Below w.heap.size w w' := by
  have HT := Lib.hid (fun w => pturn_any ax ay bx bz px py ha hb hp w)
  obtain ⟨⟨a1, a2⟩, a3, a4⟩ := ha
  obtain ⟨⟨b1, b2⟩, b3, b4⟩ := hb
  obtain ⟨⟨p1, p2⟩, p3, p4⟩ := hp
  have h1 := plr_bd (pld_bd a1 a2 p1 p2) (pld_bd b1 b2 p1 p2)
  have h2 := plr_bd (pld_bd a3 a4 p3 p4) (pld_bd b3 b4 p3 p4)
  unfold hsB
  have hb0 := ((Below.refl w.heap.size w).alloc (Nat.le_refl _) (.cells #[.int .i64 ax, .int .i64 ay, .int .i64 bx, .int .i64 bz] 131)).alloc (by simp) (.cells #[.int .i64 px, .int .i64 py] 106)
  generalize hT : tuN ax ay bx bz px py = T at *
  have hL : (px - 2 * ax) * (px - 2 * bx) + (py - 2 * ay) * (py - 2 * bz) = loN ax ay bx bz px py := rfl
  clear hT
  by_cases k1 : T = 0
  · have e1 : (T == 0) = true := by simpa using k1
    have e2 : decide (T = 0) = true := by simpa using k1
    rw [e2, Bool.true_and]
    clear k1 e2
    go_enter Try.func118, Try.ntmps118
    go_wp2_with fail
    refine (HT.out _).mono ?_
    rintro r w1 ⟨rfl, hb1⟩
    go_wp2_with fail
    go_ret
    exact ⟨rfl, hb0.trans (hb1.mono hb0.size)⟩
  · have e1 : (T == 0) = false := by simpa using k1
    have e2 : decide (T = 0) = false := by simpa using k1
    rw [e2, Bool.false_and]
    clear k1 e2
    go_enter Try.func118, Try.ntmps118
    go_wp2_with fail
    refine (HT.out _).mono ?_
    rintro r w1 ⟨rfl, hb1⟩
    go_wp2_with fail
    go_ret
    exact ⟨rfl, hb0.trans (hb1.mono hb0.size)⟩

theorem paV_1 {ax ay bx bz px py : Int} (h1 : 2 * ay ≤ py) (h2 : py < 2 * bz) (h3 : 0 < tuN ax ay bx bz px py) : paV ax ay bx bz px py = 1 := by
  unfold paV; rw [if_pos ⟨h1, h2, h3⟩]
theorem paV_n {ax ay bx bz px py : Int} (h0 : ¬ (2 * ay ≤ py ∧ py < 2 * bz ∧ 0 < tuN ax ay bx bz px py)) (h1 : 2 * bz ≤ py) (h2 : py < 2 * ay) (h3 : tuN ax ay bx bz px py < 0) : paV ax ay bx bz px py = -1 := by
  unfold paV; rw [if_neg h0, if_pos ⟨h1, h2, h3⟩]
theorem paV_0 {ax ay bx bz px py : Int} (h0 : ¬ (2 * ay ≤ py ∧ py < 2 * bz ∧ 0 < tuN ax ay bx bz px py)) (h1 : ¬ (2 * bz ≤ py ∧ py < 2 * ay ∧ tuN ax ay bx bz px py < 0)) : paV ax ay bx bz px py = 0 := by
  unfold paV; rw [if_neg h0, if_neg h1]

/-- the ways through passes -/
theorem passes_way (ax ay bx bz px py : Int) (ha : onP ax ay) (hb : onP bx bz) (hp : onQ px py) (w : World) :
    Calls Try.prog 119 #[.agg #[.int .i64 ax, .int .i64 ay, .int .i64 bx, .int .i64 bz], .agg #[.int .i64 px, .int .i64 py]] w fun e w' => e = .returned (.int .i64 (paV ax ay bx bz px py)) ∧ Below w.heap.size w w' := by
  have HT := Lib.hid (fun w => pturn_any ax ay bx bz px py ha hb hp w)
  obtain ⟨⟨a1, a2⟩, a3, a4⟩ := ha
  obtain ⟨⟨b1, b2⟩, b3, b4⟩ := hb
  obtain ⟨⟨p1, p2⟩, p3, p4⟩ := hp
  have hb0 := ((Below.refl w.heap.size w).alloc (Nat.le_refl _) (.cells #[.int .i64 ax, .int .i64 ay, .int .i64 bx, .int .i64 bz] 131)).alloc (by simp) (.cells #[.int .i64 px, .int .i64 py] 106)
  have HV1 := Lib.hid (@paV_1 ax ay bx bz px py)
  have HVn := Lib.hid (@paV_n ax ay bx bz px py)
  have HV0 := Lib.hid (@paV_0 ax ay bx bz px py)
  generalize paV ax ay bx bz px py = V at *
  generalize tuN ax ay bx bz px py = T at *
  by_cases hA1 : 2 * ay ≤ py
  · by_cases hA2 : py < 2 * bz
    · by_cases hA3 : 0 < T
      · have e := HV1.out hA1 hA2 hA3
        rw [e]
        go_enter Try.func119, Try.ntmps119
        go_wp2_with fail
        refine (HT.out _).mono ?_
        rintro r w1 ⟨rfl, hb1⟩
        have hc1 := hb0.trans (hb1.mono hb0.size)
        go_wp2_with fail
        refine bodyPost_ret (v := .int .i64 1) ?_ ?_ ⟨rfl, hc1⟩
        · simp [results, Try.results119, go_sem]
        · rfl
      · have e := HV0.out (fun h => hA3 h.2.2) (fun h => by omega)
        have n1 : decide (0 < T) = false := by simp only [decide_eq_false_iff_not]; omega
        have n2 : decide (2 * bz ≤ py) = false := by simp only [decide_eq_false_iff_not]; omega
        clear hA3
        rw [e]
        go_enter Try.func119, Try.ntmps119
        go_wp2_with fail
        refine (HT.out _).mono ?_
        rintro r w1 ⟨rfl, hb1⟩
        have hc1 := hb0.trans (hb1.mono hb0.size)
        have k1 := (hb1.cell (p := ⟨w.heap.size, 3, none⟩) (by simp only [World.size_alloc]; omega)).trans (show ((w.alloc (.cells #[.int .i64 ax, .int .i64 ay, .int .i64 bx, .int .i64 bz] 131)).alloc (.cells #[.int .i64 px, .int .i64 py] 106)).cell? ⟨w.heap.size, 3, none⟩ = some (.int .i64 bz) by simp)
        have k2 := (hb1.cell (p := ⟨w.heap.size + 1, 1, none⟩) (by simp only [World.size_alloc]; omega)).trans (show ((w.alloc (.cells #[.int .i64 ax, .int .i64 ay, .int .i64 bx, .int .i64 bz] 131)).alloc (.cells #[.int .i64 px, .int .i64 py] 106)).cell? ⟨w.heap.size + 1, 1, none⟩ = some (.int .i64 py) by simp)
        clear hb1
        go_wp2_with fail
        refine bodyPost_ret (v := .int .i64 0) ?_ ?_ ⟨rfl, hc1⟩
        · simp [results, Try.results119, go_sem]
        · rfl
    · have e := HV0.out (fun h => hA2 h.2.1) (fun h => by omega)
      have n1 : decide (py < 2 * bz) = false := by simp only [decide_eq_false_iff_not]; omega
      have n2 : decide (py < 2 * ay) = false := by simp only [decide_eq_false_iff_not]; omega
      have hB1 : 2 * bz ≤ py := by omega
      clear hA2
      rw [e]
      go_enter Try.func119, Try.ntmps119
      go_wp2_with fail
      go_ret
      exact ⟨rfl, hb0⟩
  · have n1 : decide (2 * ay ≤ py) = false := by simp only [decide_eq_false_iff_not]; omega
    have hB2 : py < 2 * ay := by omega
    by_cases hB1 : 2 * bz ≤ py
    · by_cases hB3 : T < 0
      · have e := HVn.out (fun h => hA1 h.1) hB1 hB2 hB3
        clear hA1
        rw [e]
        go_enter Try.func119, Try.ntmps119
        go_wp2_with fail
        refine (HT.out _).mono ?_
        rintro r w1 ⟨rfl, hb1⟩
        have hc1 := hb0.trans (hb1.mono hb0.size)
        go_wp2_with fail
        go_ret
        exact ⟨rfl, hc1⟩
      · have e := HV0.out (fun h => hA1 h.1) (fun h => hB3 h.2.2)
        have n2 : decide (T < 0) = false := by simp only [decide_eq_false_iff_not]; omega
        clear hA1 hB3
        rw [e]
        go_enter Try.func119, Try.ntmps119
        go_wp2_with fail
        refine (HT.out _).mono ?_
        rintro r w1 ⟨rfl, hb1⟩
        have hc1 := hb0.trans (hb1.mono hb0.size)
        go_wp2_with fail
        go_ret
        exact ⟨rfl, hc1⟩
    · have e := HV0.out (fun h => hA1 h.1) (fun h => hB1 h.1)
      have n2 : decide (2 * bz ≤ py) = false := by simp only [decide_eq_false_iff_not]; omega
      clear hA1 hB1
      rw [e]
      go_enter Try.func119, Try.ntmps119
      go_wp2_with fail
      go_ret
      exact ⟨rfl, hb0⟩

theorem parted_any (ax ay bx bz cx cy : Int) (w : World) :
    Calls Try.prog 133 #[.agg #[.int .i64 ax, .int .i64 ay, .int .i64 bx, .int .i64 bz], .agg #[.int .i64 cx, .int .i64 cy]] w fun e w' => e = .returned (.bool (ptB cx cy ax ay bx bz)) ∧ Below w.heap.size w w' := by
  have HB := Lib.hid (fun w => Between_any cx cy ax ay bx bz w)
  have hb0 := ((Below.refl w.heap.size w).alloc (Nat.le_refl _) (.cells #[.int .i64 ax, .int .i64 ay, .int .i64 bx, .int .i64 bz] 131)).alloc (by simp) (.cells #[.int .i64 cx, .int .i64 cy] 24)
  unfold ptB
  generalize betB cx cy ax ay bx bz = V at *
  go_enter Try.func133, Try.ntmps133
  go_wp2_with fail
  all_goals subst_vars
  all_goals first
    | (go_ret; exact ⟨by simp, hb0⟩)
    | (refine (HB.out _).mono ?_; rintro r w1 ⟨rfl, hb1⟩; have hc := hb0.trans (hb1.mono hb0.size); go_wp2_with fail; go_ret; exact ⟨by simp [*], hc⟩)
theorem follows_any (ax ay bx bz cx cy dx dy : Int) (w : World) :
    Calls Try.prog 115 #[.agg #[.int .i64 ax, .int .i64 ay, .int .i64 bx, .int .i64 bz], .agg #[.int .i64 cx, .int .i64 cy, .int .i64 dx, .int .i64 dy]] w fun e w' => e = .returned (.bool (decide (ax = dx ∧ ay = dy))) ∧ Below w.heap.size w w' := by
  have hb0 := ((Below.refl w.heap.size w).alloc (Nat.le_refl _) (.cells #[.int .i64 ax, .int .i64 ay, .int .i64 bx, .int .i64 bz] 131)).alloc (by simp) (.cells #[.int .i64 cx, .int .i64 cy, .int .i64 dx, .int .i64 dy] 131)
  go_enter Try.func115, Try.ntmps115
  go_wp2_with fail
  all_goals
    go_ret
    exact ⟨by simp [*], by (try simp only [*] at hb0 ⊢) <;> exact hb0⟩
theorem pcross_any (ax ay bx bz cx cy dx dy : Int) (w : World) :
    Calls Try.prog 116 #[.agg #[.int .i64 ax, .int .i64 ay, .int .i64 bx, .int .i64 bz], .agg #[.int .i64 cx, .int .i64 cy, .int .i64 dx, .int .i64 dy]] w fun e w' => e = .returned (.int .i64 (crossV ax ay bx bz cx cy dx dy)) ∧ Below w.heap.size w w' := by
  have hb0 := ((Below.refl w.heap.size w).alloc (Nat.le_refl _) (.cells #[.int .i64 ax, .int .i64 ay, .int .i64 bx, .int .i64 bz] 131)).alloc (by simp) (.cells #[.int .i64 cx, .int .i64 cy, .int .i64 dx, .int .i64 dy] 131)
  have HC := Lib.hid (fun w => Cross_any ax ay bx bz cx cy dx dy w)
  generalize crossV ax ay bx bz cx cy dx dy = V at *
  go_enter Try.func116, Try.ntmps116
  go_wp2_with fail
  refine (HC.out _).mono ?_
  rintro r w1 ⟨rfl, hb1⟩
  go_wp2_with fail
  go_ret
  exact ⟨rfl, hb0.trans (hb1.mono hb0.size)⟩
end Go.Proofs.Ytcpcmlonbpccnaa.Ge
