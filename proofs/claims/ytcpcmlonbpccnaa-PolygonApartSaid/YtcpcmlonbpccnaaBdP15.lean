/- Walks over package polygon: does a ring bend at each point? -/
import Derived.Test.YtcpcmlonbpccnaaBdA10
namespace Go.Proofs.Ytcpcmlonbpccnaa.Ge
set_option linter.unusedVariables false
set_option linter.unusedSimpArgs false
open Go.RowKit
open Go.Proofs.Ytcpcmlonbpccnaa.Fr (Two)

theorem Pt_mod {k n : Nat} (hn : 0 < n) (i : Nat) : (((k + i) % n : Nat) : Int) = ((k : Int) + (i : Int)).tmod (n : Int) := by
  rw [Int.tmod_eq_emod_of_nonneg (by omega), Int.natCast_emod]
  rfl
theorem bends_yes {r : List Pt} (h : ∀ j, j < r.length → turnAt r j ≠ 0) : bendsB r = true := by
  unfold bendsB
  rw [List.all_eq_true]
  intro j hj
  simpa using h j (List.mem_range.1 hj)
theorem bends_no {r : List Pt} {k : Nat} (hk : k < r.length) (h : turnAt r k = 0) : bendsB r = false := by
  rw [Bool.eq_false_iff]
  intro hb
  unfold bendsB at hb
  rw [List.all_eq_true] at hb
  have := hb k (List.mem_range.2 hk)
  rw [h] at this
  cases this
theorem Ring.nth {w : World} {b off cap : Nat} {r : List Pt} (h : ∀ i (h : i < r.length), Cells2 w b (off + i * 2) r[i]) (hl : 0 < r.length) (i : Nat) : Cells2 w b (off + i % r.length * 2) (nth r i) := by
  have hm := Nat.mod_lt i hl
  have e : Ge.nth r i = r[i % r.length] := by rw [← nth_mod]; exact nth_lt hm
  rw [e]
  exact h _ hm

set_option maxRecDepth 100000 in
set_option maxHeartbeats 4000000 in
theorem bends_any (v : Value) (r : List Pt) (hlen : 1 ≤ r.length ∧ r.length ≤ 1000) (w : World) (hv : Ring w v r) :
    Calls Try.prog 78 #[v] w fun e w' => e = .returned (.bool (bendsB r)) ∧ Below w.heap.size w w' := by
  obtain ⟨b, off, cap, rfl, hbw, hcells⟩ := hv
  obtain ⟨hl1, hl2⟩ := hlen
  have HC := Lib.hid (fun (w' : World) (hw : Below w.heap.size w w') => Ring.nth (cap := cap) (fun i hi => (hcells i hi).below hw hbw) (by omega))
  clear hcells
  have HY := Lib.hid (@bends_yes r)
  have HN := Lib.hid (fun k => bends_no (r := r) (k := k))
  have hrn : ¬ r = [] := fun e => by rw [e] at hl1; simp at hl1
  go_enter Try.func78, Try.ntmps78
  go_wp2_with fail
  go_loopw [7] (fun i wr => ∃ k : Nat, i = .int .i64 (k : Int) ∧ k ≤ r.length ∧ (∀ j, j < k → turnAt r j ≠ 0) ∧ Below w.heap.size w wr) (fun i _ => r.length - (intOf i).toNat)
  case atStart => exact ⟨0, rfl, Nat.zero_le _, fun j hj => by omega, Below.refl _ _⟩
  case round =>
    obtain ⟨k, rfl, hk, hall, hbel⟩ := hrel
    have HL := Lib.hid hall
    clear hall
    by_cases hlt : k < r.length
    · have hz := hbel.size
      have C0 := HC.out wr hbel k
      have C1 := HC.out wr hbel (k + 1)
      have C2 := HC.out wr hbel (k + 2)
      have m1 := Pt_mod (k := k) (n := r.length) (by omega) 1
      have m2 := Pt_mod (k := k) (n := r.length) (by omega) 2
      have l1 : (k + 1) % r.length < r.length := Nat.mod_lt _ (by omega)
      have l2 : (k + 2) % r.length < r.length := Nat.mod_lt _ (by omega)
      have HT := Lib.hid (fun w => Turn_any (nth r k).1 (nth r k).2 (nth r (k + 1)).1 (nth r (k + 1)).2 (nth r (k + 2)).1 (nth r (k + 2)).2 w)
      have HTA := Lib.hid (show turnAt r k = turnV (nth r k).1 (nth r k).2 (nth r (k + 1)).1 (nth r (k + 1)).2 (nth r (k + 2)).1 (nth r (k + 2)).2 from rfl)
      have n0 : ((k : Int) + 1).tmod r.length = (((k + 1) % r.length : Nat) : Int) := m1.symm
      have n2 : ((k : Int) + 2).tmod r.length = (((k + 2) % r.length : Nat) : Int) := m2.symm
      rw [Nat.mod_eq_of_lt hlt] at C0
      clear m1 m2
      generalize (k + 1) % r.length = i1 at *
      generalize (k + 2) % r.length = i2 at *
      generalize nth r k = P at *
      generalize nth r (k + 1) = Q at *
      generalize nth r (k + 2) = R at *
      obtain ⟨p1, p2⟩ := P
      obtain ⟨q1, q2⟩ := Q
      obtain ⟨r1, r2⟩ := R
      obtain ⟨c1, c2⟩ := C0
      dsimp only at c1 c2 HT HTA
      have w1 : IntKind.i64.wrap ((k : Int) + 1) = (k : Int) + 1 := by rw [IntKind.wrap_i64]; omega
      have w2 : IntKind.i64.wrap ((k : Int) + 2) = (k : Int) + 2 := by rw [IntKind.wrap_i64]; omega
      have hbA := hbel.alloc hz (.cells #[.int .i64 p1, .int .i64 p2] 24)
      have tP := Two.new wr 24 (.int .i64 p1) (.int .i64 p2)
      have hb0 : b < (wr.alloc (.cells #[.int .i64 p1, .int .i64 p2] 24)).heap.size := by simp only [World.size_alloc]; omega
      have D1 := C1.below ((Below.refl wr.heap.size wr).alloc (Nat.le_refl _) (.cells #[.int .i64 p1, .int .i64 p2] 24)) (show b < wr.heap.size by omega)
      have D2 := C2.below ((Below.refl wr.heap.size wr).alloc (Nat.le_refl _) (.cells #[.int .i64 p1, .int .i64 p2] 24)) (show b < wr.heap.size by omega)
      go_upto_region 4 with fail
      generalize hV : wr.alloc (.cells #[.int .i64 p1, .int .i64 p2] 24) = V at *
      have hS : ∀ w' : World, Below V.heap.size V w' → (w'.cell? ⟨wr.heap.size, 0, none⟩ = some (.int .i64 p1) ∧ w'.cell? ⟨wr.heap.size, 1, none⟩ = some (.int .i64 p2)) ∧ (w'.cell? ⟨b, off + i1 * 2, none⟩ = some (.int .i64 q1) ∧ w'.cell? ⟨b, off + i1 * 2 + 1, none⟩ = some (.int .i64 q2)) ∧ (w'.cell? ⟨b, off + i2 * 2, none⟩ = some (.int .i64 r1) ∧ w'.cell? ⟨b, off + i2 * 2 + 1, none⟩ = some (.int .i64 r2)) := fun w' hb => ⟨two_of tP hb, D1.below hb hb0, D2.below hb hb0⟩
      have hr := Below.refl V.heap.size V
      clear C1 C2 D1 D2 c1 c2 hV
      generalize turnV p1 p2 q1 q2 r1 r2 = T at *
      have HK := Lib.hid (HN.out k hlt)
      rw [HTA.out] at HK
      have HTB := Lib.hid (show T ≠ 0 → ∀ j, j < k + 1 → turnAt r j ≠ 0 from fun h j hj => by
        by_cases e : j = k
        · rw [e, HTA.out]; exact h
        · exact HL.out j (by omega))
      clear HTA
      by_cases hT : T = 0
      · have e1 : (T == 0) = true := by simpa using hT
        go_region_held3 (fun w' => (w'.cell? ⟨wr.heap.size, 0, none⟩ = some (.int .i64 p1) ∧ w'.cell? ⟨wr.heap.size, 1, none⟩ = some (.int .i64 p2)) ∧ (w'.cell? ⟨b, off + i1 * 2, none⟩ = some (.int .i64 q1) ∧ w'.cell? ⟨b, off + i1 * 2 + 1, none⟩ = some (.int .i64 q2)) ∧ (w'.cell? ⟨b, off + i2 * 2, none⟩ = some (.int .i64 r1) ∧ w'.cell? ⟨b, off + i2 * 2 + 1, none⟩ = some (.int .i64 r2)))
          (first | exact hS _ hr.drew | exact hS _ (by assumption))
          (first
            | (go_at_call 28; refine (HT.out _).mono ?_; rintro r x1 ⟨rfl, hx1'⟩; have hx1 : Below V.heap.size V x1 := hr.drew.trans hx1'))
        all_goals
          have hbB := hbA.trans (hx1.mono hbA.size)
          clear hS hr
          go_wp2_with fail
          go_ret
          exact ⟨by rw [HK.out hT]; rfl, hbB⟩
      · have e1 : (T == 0) = false := by simpa using hT
        have HTC := Lib.hid (HTB.out hT)
        clear hT
        go_region_held3 (fun w' => (w'.cell? ⟨wr.heap.size, 0, none⟩ = some (.int .i64 p1) ∧ w'.cell? ⟨wr.heap.size, 1, none⟩ = some (.int .i64 p2)) ∧ (w'.cell? ⟨b, off + i1 * 2, none⟩ = some (.int .i64 q1) ∧ w'.cell? ⟨b, off + i1 * 2 + 1, none⟩ = some (.int .i64 q2)) ∧ (w'.cell? ⟨b, off + i2 * 2, none⟩ = some (.int .i64 r1) ∧ w'.cell? ⟨b, off + i2 * 2 + 1, none⟩ = some (.int .i64 r2)))
          (first | exact hS _ hr.drew | exact hS _ (by assumption))
          (first
            | (go_at_call 28; refine (HT.out _).mono ?_; rintro r x1 ⟨rfl, hx1'⟩; have hx1 : Below V.heap.size V x1 := hr.drew.trans hx1'))
        all_goals
          have hbB := hbA.trans (hx1.mono hbA.size)
          clear hS hr
          go_wp2_with fail
          go_roundw
          case rel => exact ⟨k + 1, by go_num, by omega, HTC.out, hbB⟩
          case measure => simp [intOf]; omega
    · obtain rfl : k = r.length := by omega
      go_wp2_with fail
      go_ret
      exact ⟨by rw [HY.out (fun j hj => HL.out j hj)]; rfl, hbel⟩
end Go.Proofs.Ytcpcmlonbpccnaa.Ge

/- Walks over package polygon: the list of a ring's sides. -/
namespace Go.Proofs.Ytcpcmlonbpccnaa.Ge
set_option linter.unusedVariables false
set_option linter.unusedSimpArgs false
open Go.RowKit Go.Shelf
open Go.Proofs.Ytcpcmlonbpccnaa.Fr (Two)
attribute [local go_sem] Oper.semAt_some

def encSd (s : Sd) : List Value := [.int .i64 s.1.1, .int .i64 s.1.2, .int .i64 s.2.1, .int .i64 s.2.2]
def flatS (l : List Sd) : List Value := l.flatMap encSd
theorem flatS_length : ∀ l : List Sd, (flatS l).length = l.length * 4
  | [] => rfl
  | p :: l => by
    have h := flatS_length l
    unfold flatS at h ⊢
    rw [List.flatMap_cons, List.length_append, h]
    simp [encSd]
    omega
theorem flatS_append (a b : List Sd) : flatS (a ++ b) = flatS a ++ flatS b := List.flatMap_append
theorem flatS_get : ∀ (l : List Sd) (i j : Nat) (h : i < l.length), j < 4 → (flatS l)[i * 4 + j]? = (encSd l[i])[j]?
  | [], i, j, h, _ => by simp at h
  | p :: l, i, j, h, hj => by
    have hl : (encSd p).length = 4 := rfl
    unfold flatS
    rw [List.flatMap_cons]
    cases i with
    | zero =>
      rw [Nat.zero_mul, Nat.zero_add, List.getElem?_append_left (by omega)]
      rfl
    | succ i =>
      rw [List.getElem?_append_right (by omega), hl, show (i + 1) * 4 + j - 4 = i * 4 + j by omega]
      exact flatS_get l i j (by simpa using h) hj
/-- v is a list of sides of the call's own, from block B on -/
def OwnSd (w : World) (B : Nat) (v : Value) (l : List Sd) : Prop := w.ownsRow B 131 4 v l.length (flatS l)
theorem infoSd : (Try.prog.info? 131).bind (fun i => i.zero.map fun z => (i.size, i.bytes, z.cells.size)) = some (4, 32, 4) := by kernel_rfl
theorem sd_info : ∃ i z, Try.prog.info? 131 = some i ∧ i.zero = some z ∧ i.size = 4 ∧ i.bytes = 32 ∧ z.cells.size = 4 := by
  have h := infoSd
  cases hi : Try.prog.info? 131 with
  | none => rw [hi] at h; cases h
  | some i =>
    rw [hi] at h
    cases hz : i.zero with
    | none => simp [hz] at h
    | some z =>
      simp [hz] at h
      exact ⟨i, z, rfl, hz, h.1, h.2.1, h.2.2⟩
theorem sd_cells (w : World) (s : Sd) (t : TypeId) : ∀ j u, (encSd s)[j]? = some u → (w.alloc (.cells #[.int .i64 s.1.1, .int .i64 s.1.2, .int .i64 s.2.1, .int .i64 s.2.2] t)).cell? ((⟨w.heap.size, 0, none⟩ : Addr).add j) = some u := by
  intro j u hj
  have hadd : (⟨w.heap.size, 0, none⟩ : Addr).add j = ⟨w.heap.size, j, none⟩ := by unfold Addr.add; split <;> simp_all
  rw [hadd]
  have hg : (w.alloc (.cells #[.int .i64 s.1.1, .int .i64 s.1.2, .int .i64 s.2.1, .int .i64 s.2.2] t)).heap[w.heap.size]? = some (.cells #[.int .i64 s.1.1, .int .i64 s.1.2, .int .i64 s.2.1, .int .i64 s.2.2] t (0, 0)) := World.alloc_heap_new w _
  simp only [World.cell?, hg]
  unfold encSd at hj
  simpa using hj
theorem encSd_one (s : Sd) : ∀ v ∈ encSd s, v.oneCell' = true := by
  intro v hv
  simp [encSd] at hv
  rcases hv with rfl | rfl | rfl | rfl <;> rfl

set_option maxRecDepth 100000 in
set_option maxHeartbeats 4000000 in
theorem appendSeq_any (b off cap B : Nat) (r : List Pt) (hr : onL r) (hlen : 1 ≤ r.length ∧ r.length ≤ 1000) (w : World) (hB : B < w.heap.size) (hbw : b < w.heap.size) (hc : w.cell? ⟨B, 0, none⟩ = some (.slice (some ⟨b, off, none⟩) r.length cap)) (hcells : ∀ i (h : i < r.length), Cells2 w b (off + i * 2) r[i]) :
    Calls Try.prog 128 #[.slice none 0 0, .func (.func 127) #[] #[.pointer (some ⟨B, 0, none⟩)]] w fun e w' => ∃ v, e = .returned v ∧ OwnSd w' w.heap.size v (sidesL r) ∧ Below w.heap.size w w' := by
  obtain ⟨i0, z0, hi, hz0, hz1, hz2, hz3⟩ := sd_info
  have HC := Lib.hid hcells
  clear hcells
  refine (callsIn_wide (n := 4)).1 ?_
  refine callsIn_of_wp_marks Try.func128 rfl trivial ?_ rfl
  simp only [Try.ntmps128, List.size_toArray, List.length_cons, List.length_nil, Nat.reduceAdd, Nat.reduceSub, Array.replicate_succ, Array.replicate_zero, List.push_toArray, List.append_toArray, List.nil_append, List.cons_append]
  gi_wp2
  have bE := Boxed.new w 132 (.slice none 0 0)
  have hB0 : Below w.heap.size w (w.alloc (.cells #[.slice none 0 0] 132)) := (Below.refl _ w).alloc (Nat.le_refl _) _
  have hsz : (w.alloc (.cells #[.slice none 0 0] 132)).heap.size = w.heap.size + 1 := by simp
  obtain ⟨W0, hW0⟩ : ∃ W0, w.alloc (.cells #[.slice none 0 0] 132) = W0 := ⟨_, rfl⟩
  rw [hW0] at bE hB0 hsz ⊢
  clear hW0
  refine wpIn_rangeFunc_ownH rfl (by decide) (gf := 127) (lb := #[.pointer (some ⟨B, 0, none⟩)]) rfl trivial (enters_of Try.func127 (by kernel_rfl) rfl)
    (sides_stops 3 (by decide) B w.heap.size b off cap r hr hlen W0 (by omega) hbw hB0.size ((hB0.cell (p := ⟨B, 0, none⟩) hB).trans hc) (fun i hi => (HC.out i hi).below hB0 hbw)) (fun h k => h.trans k) (KpB.bk hB0.size (by omega)) (Below.refl _ _) (fun _ => rfl)
    (fun pre W => (∃ v, Boxed W w.heap.size 132 v ∧ W.ownsRow w.heap.size 131 4 v pre.length (flatS (pre.map (·.1))) ∧ True) ∧ Below w.heap.size W0 W)
    (fun _ _ _ => False)
    (OwnFrom.and (Own.from (holdsRow_own w.heap.size w.heap.size 132 131 4 (fun pre : List OSd => pre.length) (fun pre => flatS (pre.map (·.1))) (fun _ _ => True)) _) (ownFrom_below hB0.size hB0.size))
    (fun _ _ _ _ _ hs _ _ => hs)
    ⟨⟨_, bE, World.ownsRow_nil W0 _ _ _, trivial⟩, Below.refl _ _⟩
    (fun x a' W => ∃ Bx, w.heap.size < Bx ∧ SdAt W Bx x.1 ∧ a' = { tmps := #[(.slice none 0 0), .func (.func 127) #[] #[.pointer (some ⟨B, 0, none⟩)], .pointer (some ⟨w.heap.size, 0, none⟩), undef, (.slice none 0 0), .pointer (some ⟨Bx, 0, none⟩), .func (.func 127) #[] #[.pointer (some ⟨B, 0, none⟩)], .agg #[.int .i64 x.1.1.1, .int .i64 x.1.1.2, .int .i64 x.1.2.1, .int .i64 x.1.2.2], undef, undef, undef, undef, undef], defers := [] })
    (fun x a' _ X Y row hs hg hr => by obtain ⟨Bx, h1, h2, h3⟩ := hs; exact ⟨Bx, h1, sd_own Bx (fun (_ : Unit) => x.1) () X Y row h2 hg (fun r e => (hr r e).2), h3⟩)
    ?assign ?body ?done ?stop
  case assign =>
    rintro l pre x W K ⟨⟨v, bv, hrow, -⟩, hB1⟩ hK
    gi_wp2
    have hz := hB1.size
    exact hK _ _ ((KeepsOthers.alloc _ _).from _) ((KpB.refl _ _ _).alloc (by omega) (by omega) _) ⟨⟨v, bv.alloc _, hrow.alloc _, trivial⟩, hB1.alloc (by omega) _⟩ ⟨W.heap.size, by omega, SdAt.new W x.1, rfl⟩
  case body =>
    rintro l pre x a' W hl - ⟨⟨v, bv, hrow, -⟩, hB1⟩ ⟨Bx, hBx, bX, rfl⟩ hlt
    have hz := hB1.size
    obtain ⟨f0, f1, f2, f3⟩ := bX.facts
    have hc0 := bv.cell
    have hf0 := bv.frozen
    gi_wp2_with (gi_at_builtin; refine wpListIn_append_own _ rfl _ _ 132 rfl w.heap.size 131 i0 z0 4 32 Try.underlying132 hi hz0 hz1 hz2 hz3 (by decide) _ pre.length _ rfl (hrow.alloc _) ⟨W.heap.size, 0, none⟩ 1 1 (encSd x.1) rfl rfl (sd_cells W x.1 _) (encSd_one x.1) (by unfold maxLen; omega) (by omega) (by simp only [World.size_alloc]; omega) ?_; intro v' w1 hown' hgrow _; obtain ⟨g', cap', rfl⟩ := ownsRow_succ hown'; obtain ⟨hv1, hv2, hr2, hk2, hb2⟩ := bv.appended (by decide) hrow (by omega) (Nat.le_refl _) hown' hgrow; have hc1 := hv1.cell; have hf1 := hv1.frozen)
    have hr3 : (w1.setCell ⟨w.heap.size, 0, none⟩ (.slice (some ⟨g', 0, none⟩) (pre.length + 1) cap')).ownsRow w.heap.size 131 4 (.slice (some ⟨g', 0, none⟩) (pre.length + 1) cap') (pre ++ [x]).length (flatS ((pre ++ [x]).map (·.1))) := by
      rw [List.length_append, List.length_singleton, List.map_append, flatS_append]
      have e : flatS ([x].map (·.1)) = encSd x.1 := by simp [flatS]
      rw [e]
      exact hr2
    exact ⟨hk2.from _, KpB.of_below hb2 (Nat.le_refl _) hB, ⟨_, hv2, hr3, trivial⟩, hB1.trans hb2⟩
  case done =>
    rintro D ys W hD rfl ⟨⟨v, bv, hrow, -⟩, hB1⟩ hK
    have hc0 := bv.cell
    have hz := hB1.size
    gi_wp2
    refine ⟨by simp, .inl ⟨_, _, rfl, run_takeDeferred hK, ?_⟩⟩
    refine ⟨_, results_tmp rfl _ _ _, _, rfl, ?_, (hB0.trans hB1).trans (belowK_b (w := w) (Nat.le_refl _) W D _ _ (by omega) hK rfl rfl)⟩
    have h := ownsRow_putObj hrow (.deferred none) hK rfl
    rw [oSides_val hr] at h
    unfold OwnSd
    rw [sides_length, ← oUpto_length r r.length]
    exact h
  case stop =>
    rintro D c pre W _ _ h _
    exact h.elim

theorem collect_any (b off cap B : Nat) (r : List Pt) (hr : onL r) (hlen : 1 ≤ r.length ∧ r.length ≤ 1000) (w : World) (hB : B < w.heap.size) (hbw : b < w.heap.size) (hc : w.cell? ⟨B, 0, none⟩ = some (.slice (some ⟨b, off, none⟩) r.length cap)) (hcells : ∀ i (h : i < r.length), Cells2 w b (off + i * 2) r[i]) :
    Calls Try.prog 114 #[.func (.func 127) #[] #[.pointer (some ⟨B, 0, none⟩)]] w fun e w' => ∃ v, e = .returned v ∧ OwnSd w' w.heap.size v (sidesL r) ∧ Below w.heap.size w w' := by
  have HA := Lib.hid (appendSeq_any b off cap B r hr hlen w hB hbw hc hcells)
  clear hc hcells
  go_enter Try.func114, Try.ntmps114
  go_wp2_with fail
  refine HA.out.mono ?_
  rintro e w1 ⟨v, rfl, hv, hb⟩
  go_wp2_with fail
  go_ret
  exact ⟨v, rfl, hv, hb⟩
/-- v is a list of sides in memory -/
def SdSl (w : World) (v : Value) (l : List Sd) : Prop := ∃ g cap, v = .slice (some ⟨g, 0, none⟩) l.length cap ∧ l.length ≤ cap ∧ g < w.heap.size ∧ ∀ i (h : i < l.length),
  (w.cell? ⟨g, i * 4, none⟩ = some (.int .i64 l[i].1.1) ∧ w.cell? ⟨g, i * 4 + 1, none⟩ = some (.int .i64 l[i].1.2)) ∧ w.cell? ⟨g, i * 4 + 2, none⟩ = some (.int .i64 l[i].2.1) ∧ w.cell? ⟨g, i * 4 + 3, none⟩ = some (.int .i64 l[i].2.2)
theorem OwnSd.sl {w : World} {B : Nat} {v : Value} {l : List Sd} (h : OwnSd w B v l) (h1 : 1 ≤ l.length) : SdSl w v l := by
  rcases h with ⟨hl, ⟨hv, h0⟩ | ⟨g, cap, cur, hv, _, hg, hc, hm, hsz, htk⟩⟩
  · omega
  · refine ⟨g, cap, hv, hc, (Array.getElem?_eq_some_iff.1 hg).1, fun i hi => ?_⟩
    have key : ∀ j, j < 4 → w.cell? ⟨g, i * 4 + j, none⟩ = (encSd l[i])[j]? := fun j hj => by
      rw [cell_of_row _ _ _ _ _ _ hg, ← flatS_get l i j hi hj, ← htk, List.getElem?_take, if_pos (by omega), Array.getElem?_toList]
    exact ⟨⟨key 0 (by decide), key 1 (by decide)⟩, key 2 (by decide), key 3 (by decide)⟩
theorem SdSl.below {w w' : World} {v : Value} {l : List Sd} (h : SdSl w v l) (hb : Below w.heap.size w w') : SdSl w' v l := by
  obtain ⟨g, cap, rfl, hc, hg, hcells⟩ := h
  exact ⟨g, cap, rfl, hc, Nat.lt_of_lt_of_le hg hb.size, fun i hi => ⟨⟨(hb.cell (p := ⟨g, i * 4, none⟩) hg).trans (hcells i hi).1.1, (hb.cell (p := ⟨g, i * 4 + 1, none⟩) hg).trans (hcells i hi).1.2⟩,
    (hb.cell (p := ⟨g, i * 4 + 2, none⟩) hg).trans (hcells i hi).2.1, (hb.cell (p := ⟨g, i * 4 + 3, none⟩) hg).trans (hcells i hi).2.2⟩⟩
end Go.Proofs.Ytcpcmlonbpccnaa.Ge

/- Walks over package polygon: do a ring's sides meet only where they should? -/
namespace Go.Proofs.Ytcpcmlonbpccnaa.Ge
set_option linter.unusedVariables false
set_option linter.unusedSimpArgs false
open Go.RowKit
open Go.Proofs.Ytcpcmlonbpccnaa.Fr (Two)

def freeL (l : List Sd) : Bool := (List.range l.length).all fun i => (List.range i).all fun k => freeB (l.getD i ((0, 0), (0, 0))) (l.getD k ((0, 0), (0, 0)))
theorem sides_getD {r : List Pt} {i : Nat} (hi : i < r.length) : (sidesL r).getD i ((0, 0), (0, 0)) = sideAt r i := by
  unfold sidesL
  rw [List.getD_eq_getElem?_getD, List.getElem?_map, List.getElem?_range hi]
  rfl
theorem simple_eq (r : List Pt) : freeL (sidesL r) = simpleB r := by
  unfold freeL simpleB
  rw [sides_length, Bool.eq_iff_iff, List.all_eq_true, List.all_eq_true]
  have key : ∀ i ∈ List.range r.length, ((List.range i).all fun k => freeB ((sidesL r).getD i ((0, 0), (0, 0))) ((sidesL r).getD k ((0, 0), (0, 0)))) = (List.range i).all fun k => freeB (sideAt r i) (sideAt r k) := fun i hi => by
    have hi := List.mem_range.1 hi
    rw [Bool.eq_iff_iff, List.all_eq_true, List.all_eq_true]
    constructor
    · intro h k hk
      have := h k hk
      rwa [sides_getD hi, sides_getD (by have := List.mem_range.1 hk; omega)] at this
    · intro h k hk
      rw [sides_getD hi, sides_getD (by have := List.mem_range.1 hk; omega)]
      exact h k hk
  constructor
  · intro h i hi; rw [← key i hi]; exact h i hi
  · intro h i hi; rw [key i hi]; exact h i hi
theorem free_yes {l : List Sd} (h : ∀ i (hi : i < l.length) k (hk : k < i), freeB l[i] (l[k]'(Nat.lt_trans hk hi)) = true) : freeL l = true := by
  unfold freeL
  rw [List.all_eq_true]
  intro i hi
  have hi := List.mem_range.1 hi
  rw [List.all_eq_true]
  intro k hk
  have hk := List.mem_range.1 hk
  rw [List.getD_eq_getElem?_getD, List.getD_eq_getElem?_getD, List.getElem?_eq_getElem hi, List.getElem?_eq_getElem (Nat.lt_trans hk hi)]
  exact h i hi k hk
theorem free_no {l : List Sd} {i k : Nat} (hi : i < l.length) (hk : k < i) (h : freeB l[i] (l[k]'(Nat.lt_trans hk hi)) = false) : freeL l = false := by
  rw [Bool.eq_false_iff]
  intro ha
  unfold freeL at ha
  rw [List.all_eq_true] at ha
  have h1 := ha i (List.mem_range.2 hi)
  rw [List.all_eq_true] at h1
  have h2 := h1 k (List.mem_range.2 hk)
  rw [List.getD_eq_getElem?_getD, List.getD_eq_getElem?_getD, List.getElem?_eq_getElem hi, List.getElem?_eq_getElem (Nat.lt_trans hk hi)] at h2
  simp only [Option.getD_some] at h2
  rw [h] at h2
  cases h2
theorem free_val (s t : Sd) : freeB s t = (decide (s.1.1 = t.2.1 ∧ s.1.2 = t.2.2) || (decide (t.1.1 = s.2.1 ∧ t.1.2 = s.2.2) || crossV s.1.1 s.1.2 s.2.1 s.2.2 t.1.1 t.1.2 t.2.1 t.2.2 == 0)) := by
  unfold freeB crossS
  have e : ∀ p q : Int × Int, (p == q) = decide (p.1 = q.1 ∧ p.2 = q.2) := fun p q => by
    rw [Bool.eq_iff_iff, beq_iff_eq, decide_eq_true_eq]
    exact Prod.ext_iff
  rw [e, e]
abbrev sdV (s : Sd) : Value := .agg #[.int .i64 s.1.1, .int .i64 s.1.2, .int .i64 s.2.1, .int .i64 s.2.2]

set_option maxRecDepth 100000 in
set_option maxHeartbeats 8000000 in
theorem simple_any (v : Value) (r : List Pt) (hr : onL r) (hlen : 1 ≤ r.length ∧ r.length ≤ 1000) (w : World) (hv : Ring w v r) :
    Calls Try.prog 80 #[v] w fun e w' => e = .returned (.bool (simpleB r)) ∧ Below w.heap.size w w' := by
  obtain ⟨b, off, cap, rfl, hbw, hcells⟩ := hv
  have HSD := Lib.hid (sides_any (some ⟨b, off, none⟩) r.length cap w)
  have hb1 := (Below.refl w.heap.size w).alloc (Nat.le_refl _) (.cells #[.slice (some ⟨b, off, none⟩) r.length cap] 22)
  have HCO := Lib.hid (collect_any b off cap w.heap.size r hr hlen (w.alloc (.cells #[.slice (some ⟨b, off, none⟩) r.length cap] 22)) (by simp) (by simp; omega) (Boxed.new w 22 (.slice (some ⟨b, off, none⟩) r.length cap)).cell (fun i hi => (hcells i hi).below hb1 hbw))
  have hN := sides_length r
  clear hcells
  rw [← simple_eq]
  generalize sidesL r = l at *
  go_enter Try.func80, Try.ntmps80
  go_wp2_with fail
  refine HSD.out.mono ?_
  rintro e w1 ⟨rfl, rfl⟩
  go_wp2_with fail
  refine HCO.out.mono ?_
  rintro e w2 ⟨v, rfl, hv, hb2⟩
  obtain ⟨g, cp, rfl, hcp, hg, hcells⟩ := OwnSd.sl hv (by omega)
  have hbA := hb1.trans (hb2.mono hb1.size)
  have HC := Lib.hid (fun (w' : World) (hw : Below w2.heap.size w2 w') i (hi : i < l.length) => And.intro (And.intro ((hw.cell (p := ⟨g, i * 4, none⟩) hg).trans (hcells i hi).1.1) ((hw.cell (p := ⟨g, i * 4 + 1, none⟩) hg).trans (hcells i hi).1.2)) (And.intro ((hw.cell (p := ⟨g, i * 4 + 2, none⟩) hg).trans (hcells i hi).2.1) ((hw.cell (p := ⟨g, i * 4 + 3, none⟩) hg).trans (hcells i hi).2.2)))
  have HY := Lib.hid (@free_yes l)
  have HNO := Lib.hid (fun i k => @free_no l i k)
  have HFV := Lib.hid free_val
  obtain ⟨hl1, hl2⟩ := hlen
  rw [← hN] at hl1 hl2
  clear hv hcells hb1 hb2 HSD HCO hN hr
  go_upto_region 3 with fail
  go_loopw [13] (fun i wr => ∃ k : Nat, i = .int .i64 (k : Int) ∧ k ≤ l.length ∧ (∀ i (hi : i < l.length), i < k → ∀ j (hj : j < i), freeB l[i] (l[j]'(Nat.lt_trans hj hi)) = true) ∧ Below w2.heap.size w2 wr) (fun i _ => l.length - (intOf i).toNat)
  case atStart => exact ⟨0, rfl, Nat.zero_le _, fun i hi h => by omega, Below.refl _ _⟩
  case round =>
    obtain ⟨k, rfl, hk, hall, hbel⟩ := hrel
    have HL := Lib.hid hall
    clear hall
    by_cases hlt : k < l.length
    · obtain ⟨⟨c1, c2⟩, c3, c4⟩ := HC.out wr hbel k hlt
      obtain ⟨⟨⟨ax, ay⟩, bx, bz⟩, esk⟩ : ∃ s : Sd, l[k] = s := ⟨_, rfl⟩
      rw [esk] at c1 c2 c3 c4
      dsimp only at c1 c2 c3 c4
      have ESK := Lib.hid esk
      clear esk
      have hz := hbel.size
      go_upto_region 6 with fail
      have tS := SdAt.new wr ((ax, ay), bx, bz)
      dsimp only at tS
      have hbV := hbel.alloc hz (.cells #[.int .i64 ax, .int .i64 ay, .int .i64 bx, .int .i64 bz] 131)
      clear c1 c2 c3 c4
      generalize wr.alloc (.cells #[.int .i64 ax, .int .i64 ay, .int .i64 bx, .int .i64 bz] 131) = V at *
      generalize wr.heap.size = Bs at *
      go_loopw [22] (fun j wq => ∃ m : Nat, j = .int .i64 (m : Int) ∧ m ≤ k ∧ (∀ j (hj : j < m) (hjl : j < l.length), freeB l[k] l[j] = true) ∧ Below V.heap.size V wq) (fun j _ => k - (intOf j).toNat)
      case atStart => exact ⟨0, rfl, Nat.zero_le _, fun j hj => by omega, Below.refl _ _⟩
      case round =>
        obtain ⟨m, rfl, hm, hall2, hbq⟩ := hrel
        have hzV := hbV.size
        have hbq2 := hbV.trans (hbq.mono hzV)
        by_cases hmk : m < k
        · have hml : m < l.length := Nat.lt_trans hmk hlt
          obtain ⟨⟨d1, d2⟩, d3, d4⟩ := HC.out wr hbq2 m hml
          have HSTEP := Lib.hid (show freeB l[k] l[m] = true → ∀ j (hj : j < m + 1) (hjl : j < l.length), freeB l[k] l[j] = true from fun h j hj hjl => by
            by_cases e : j = m
            · subst e; exact h
            · exact hall2 j (by omega) hjl)
          have HNX := Lib.hid (HNO.out k m hlt hmk)
          have HV := HFV.out l[k] l[m]
          generalize freeB l[k] l[m] = FB at HV HSTEP HNX
          obtain ⟨⟨⟨cx, cy⟩, dx, dz⟩, esm⟩ : ∃ s : Sd, l[m] = s := ⟨_, rfl⟩
          rw [esm] at d1 d2 d3 d4
          rw [ESK.out, esm] at HV
          dsimp only at d1 d2 d3 d4 HV
          have HV := Lib.hid HV
          clear esm
          have HF1 := Lib.hid (fun w => follows_any ax ay bx bz cx cy dx dz w)
          have HF2 := Lib.hid (fun w => follows_any cx cy dx dz ax ay bx bz w)
          have HCR := Lib.hid (fun w => pcross_any ax ay bx bz cx cy dx dz w)
          have qS := tS.below hbq tS.lt
          have qT := SdAt.new wr ((cx, cy), dx, dz)
          dsimp only at qT
          have qS1 := qS.alloc (.cells #[.int .i64 cx, .int .i64 cy, .int .i64 dx, .int .i64 dz] 131)
          have hbW := hbq.alloc hbq.size (.cells #[.int .i64 cx, .int .i64 cy, .int .i64 dx, .int .i64 dz] 131)
          clear hall2
          generalize decide (ax = dx ∧ ay = dz) = F1 at HV HF1
          generalize decide (cx = bx ∧ cy = bz) = F2 at HV HF2
          generalize crossV ax ay bx bz cx cy dx dz = CV at HV HCR
          go_upto_region 8 with fail
          generalize wr.alloc (.cells #[.int .i64 cx, .int .i64 cy, .int .i64 dx, .int .i64 dz] 131) = X at *
          generalize wr.heap.size = Bt at *
          clear d1 d2 d3 d4 qS
          have hbW2 := hbV.trans (hbW.mono hzV)
          clear hbq2
          cases F1 with
          | true =>
            obtain ⟨f0, f1, f2, f3⟩ := qS1.facts
            obtain ⟨g0, g1, g2, g3⟩ := qT.facts
            go_wp2_with fail
            refine (HF1.out _).mono ?_
            rintro e y1 ⟨rfl, hy1⟩
            have s1 := qS1.below hy1 qS1.lt
            have t1 := qT.below hy1 qT.lt
            have z1 := hbW.trans (hy1.mono hbW.size)
            clear f0 f1 f2 f3 g0 g1 g2 g3
            obtain ⟨f0, f1, f2, f3⟩ := s1.facts
            obtain ⟨g0, g1, g2, g3⟩ := t1.facts
            go_wp2_with fail
            go_roundw
            case rel => exact ⟨m + 1, by go_num, by omega, HSTEP.out (by rw [HV.out]; rfl), z1⟩
            case measure => simp [intOf]; omega
          | false =>
            cases F2 with
            | true =>
              obtain ⟨f0, f1, f2, f3⟩ := qS1.facts
              obtain ⟨g0, g1, g2, g3⟩ := qT.facts
              go_wp2_with fail
              refine (HF1.out _).mono ?_
              rintro e y2 ⟨rfl, hy2⟩
              have s2 := qS1.below hy2 qS1.lt
              have t2 := qT.below hy2 qT.lt
              have z2 := hbW.trans (hy2.mono hbW.size)
              clear f0 f1 f2 f3 g0 g1 g2 g3
              obtain ⟨f0, f1, f2, f3⟩ := s2.facts
              obtain ⟨g0, g1, g2, g3⟩ := t2.facts
              go_wp2_with fail
              refine (HF2.out _).mono ?_
              rintro e y3 ⟨rfl, hy3⟩
              have s3 := s2.below hy3 s2.lt
              have t3 := t2.below hy3 t2.lt
              have z3 := z2.trans (hy3.mono z2.size)
              clear f0 f1 f2 f3 g0 g1 g2 g3
              obtain ⟨f0, f1, f2, f3⟩ := s3.facts
              obtain ⟨g0, g1, g2, g3⟩ := t3.facts
              go_wp2_with fail
              go_roundw
              case rel => exact ⟨m + 1, by go_num, by omega, HSTEP.out (by rw [HV.out]; rfl), z3⟩
              case measure => simp [intOf]; omega
            | false =>
              by_cases hC : CV = 0
              · have e1 : (CV == 0) = true := by simpa using hC
                have e2 : (CV != 0) = false := by simpa using hC
                obtain ⟨f0, f1, f2, f3⟩ := qS1.facts
                obtain ⟨g0, g1, g2, g3⟩ := qT.facts
                go_wp2_with fail
                refine (HF1.out _).mono ?_
                rintro e y4 ⟨rfl, hy4⟩
                have s4 := qS1.below hy4 qS1.lt
                have t4 := qT.below hy4 qT.lt
                have z4 := hbW.trans (hy4.mono hbW.size)
                clear f0 f1 f2 f3 g0 g1 g2 g3
                obtain ⟨f0, f1, f2, f3⟩ := s4.facts
                obtain ⟨g0, g1, g2, g3⟩ := t4.facts
                go_wp2_with fail
                refine (HF2.out _).mono ?_
                rintro e y5 ⟨rfl, hy5⟩
                have s5 := s4.below hy5 s4.lt
                have t5 := t4.below hy5 t4.lt
                have z5 := z4.trans (hy5.mono z4.size)
                clear f0 f1 f2 f3 g0 g1 g2 g3
                obtain ⟨f0, f1, f2, f3⟩ := s5.facts
                obtain ⟨g0, g1, g2, g3⟩ := t5.facts
                go_wp2_with fail
                refine (HCR.out _).mono ?_
                rintro e y6 ⟨rfl, hy6⟩
                have s6 := s5.below hy6 s5.lt
                have t6 := t5.below hy6 t5.lt
                have z6 := z5.trans (hy6.mono z5.size)
                clear f0 f1 f2 f3 g0 g1 g2 g3
                obtain ⟨f0, f1, f2, f3⟩ := s6.facts
                obtain ⟨g0, g1, g2, g3⟩ := t6.facts
                go_wp2_with fail
                go_roundw
                case rel => exact ⟨m + 1, by go_num, by omega, HSTEP.out (by rw [HV.out]; rw [e1]; rfl), z6⟩
                case measure => simp [intOf]; omega
              · have e1 : (CV == 0) = false := by simpa using hC
                have e2 : (CV != 0) = true := by simpa using hC
                have eF : freeL l = false := HNX.out (by rw [HV.out, e1]; rfl)
                clear hC
                obtain ⟨f0, f1, f2, f3⟩ := qS1.facts
                obtain ⟨g0, g1, g2, g3⟩ := qT.facts
                go_wp2_with fail
                refine (HF1.out _).mono ?_
                rintro e y7 ⟨rfl, hy7⟩
                have s7 := qS1.below hy7 qS1.lt
                have t7 := qT.below hy7 qT.lt
                have z7 := hbW.trans (hy7.mono hbW.size)
                clear f0 f1 f2 f3 g0 g1 g2 g3
                obtain ⟨f0, f1, f2, f3⟩ := s7.facts
                obtain ⟨g0, g1, g2, g3⟩ := t7.facts
                go_wp2_with fail
                refine (HF2.out _).mono ?_
                rintro e y8 ⟨rfl, hy8⟩
                have s8 := s7.below hy8 s7.lt
                have t8 := t7.below hy8 t7.lt
                have z8 := z7.trans (hy8.mono z7.size)
                clear f0 f1 f2 f3 g0 g1 g2 g3
                obtain ⟨f0, f1, f2, f3⟩ := s8.facts
                obtain ⟨g0, g1, g2, g3⟩ := t8.facts
                go_wp2_with fail
                refine (HCR.out _).mono ?_
                rintro e y9 ⟨rfl, hy9⟩
                have s9 := s8.below hy9 s8.lt
                have t9 := t8.below hy9 t8.lt
                have z9 := z8.trans (hy9.mono z8.size)
                clear f0 f1 f2 f3 g0 g1 g2 g3
                obtain ⟨f0, f1, f2, f3⟩ := s9.facts
                obtain ⟨g0, g1, g2, g3⟩ := t9.facts
                go_wp2_with fail
                go_ret
                exact ⟨by rw [eF]; rfl, hbA.trans ((hbV.trans (z9.mono hzV)).mono hbA.size)⟩
        · obtain rfl : m = k := by omega
          have hnx := Lib.hid (show ∀ i (hi : i < l.length), i < m + 1 → ∀ j (hj : j < i), freeB l[i] (l[j]'(Nat.lt_trans hj hi)) = true from fun i hi him j hj => by
            by_cases e : i = m
            · subst e; exact hall2 j hj (Nat.lt_trans hj hi)
            · exact HL.out i hi (by omega) j hj)
          clear hall2
          go_wp2_with fail
          go_roundw
          case rel => exact ⟨m + 1, by go_num, by omega, hnx.out, hbq2⟩
          case measure => simp [intOf]; omega
    · obtain rfl : k = l.length := by omega
      have e : freeL l = true := HY.out (fun i hi j hj => HL.out i hi hi j hj)
      clear HY
      go_wp2_with fail
      go_ret
      exact ⟨by rw [e]; rfl, hbA.trans (hbel.mono hbA.size)⟩
end Go.Proofs.Ytcpcmlonbpccnaa.Ge

/- Walks over package polygon: Valid, Twice, Where. -/
namespace Go.Proofs.Ytcpcmlonbpccnaa.Ge
set_option linter.unusedVariables false
set_option linter.unusedSimpArgs false
open Go.RowKit
open Go.Proofs.Ytcpcmlonbpccnaa.Fr (Two)

theorem valid_short {r : List Pt} (h : r.length < 3) : validB r = false := by
  unfold validB
  rw [decide_eq_false (by omega), Bool.false_and]
theorem valid_far {r : List Pt} (h : 40 < r.length) : validB r = false := by
  unfold validB
  rw [decide_eq_false (show ¬ r.length ≤ 40 by omega), Bool.false_and, Bool.and_false]
theorem valid_mid {r : List Pt} (h : 3 ≤ r.length) (h2 : r.length ≤ 40) : validB r = (bendsB r && (decide (0 < areaS r) && simpleB r)) := by
  unfold validB
  rw [decide_eq_true h, decide_eq_true h2, Bool.true_and, Bool.true_and]

theorem Valid_short (v : Value) (r : List Pt) (w : World) (hv : PtSl w v r) (h : r.length < 3) :
    Calls Try.prog 37 #[v] w fun e w' => e = .returned (.bool false) ∧ Below w.heap.size w w' := by
  obtain ⟨a, cap, rfl⟩ := hv.form
  have g1 : (r.length : Int) < 3 := by omega
  clear hv h
  go_enter Try.func37, Try.ntmps37
  go_wp2_with fail
  go_ret
  exact ⟨rfl, Below.refl _ _⟩
theorem Valid_far (v : Value) (r : List Pt) (w : World) (hv : PtSl w v r) (h : 40 < r.length) :
    Calls Try.prog 37 #[v] w fun e w' => e = .returned (.bool false) ∧ Below w.heap.size w w' := by
  obtain ⟨a, cap, rfl⟩ := hv.form
  have g1 : decide ((r.length : Int) < 3) = false := by simp only [decide_eq_false_iff_not]; omega
  have g2 : (40 : Int) < r.length := by omega
  clear hv h
  go_enter Try.func37, Try.ntmps37
  go_wp2_with fail
  go_ret
  exact ⟨rfl, Below.refl _ _⟩
set_option maxHeartbeats 2000000 in
theorem Valid_mid (v : Value) (r : List Pt) (w : World) (hv : PtSl w v r) (h1 : 3 ≤ r.length) (h2 : r.length ≤ 40) :
    Calls Try.prog 37 #[v] w fun e w' => e = .returned (.bool (bendsB r && (decide (0 < areaS r) && simpleB r))) ∧ Below w.heap.size w w' := by
  have hR := hv.ring (by omega)
  have HB := Lib.hid (bends_any v r (by omega) w hR)
  obtain ⟨a, cap, rfl⟩ := hv.form
  have g1 : decide ((r.length : Int) < 3) = false := by simp only [decide_eq_false_iff_not]; omega
  have g2 : decide ((40 : Int) < r.length) = false := by simp only [decide_eq_false_iff_not]; omega
  have HON := Lib.hid (@bends_on r)
  cases hb : bendsB r with
  | false =>
    rw [hb] at HB
    rw [Bool.false_and]
    clear hv hR hb h1 h2
    go_enter Try.func37, Try.ntmps37
    go_wp2_with fail
    refine HB.out.mono ?_
    rintro e w1 ⟨rfl, hb1⟩
    go_wp2_with fail
    go_ret
    exact ⟨rfl, hb1⟩
  | true =>
    have hon := HON.out hb
    have HA := Lib.hid (fun (w1 : World) (h : Below w.heap.size w w1) => area_any _ r hon (by omega) w1 (hR.below h))
    have HS := Lib.hid (fun (w1 : World) (h : Below w.heap.size w w1) => simple_any _ r hon (by omega) w1 (hR.below h))
    rw [hb] at HB
    rw [Bool.true_and]
    clear hv hR hb h1 h2 hon HON
    generalize areaS r = A at *
    generalize simpleB r = S at *
    by_cases hA : 0 < A
    · rw [decide_eq_true hA, Bool.true_and]
      go_enter Try.func37, Try.ntmps37
      go_wp2_with fail
      refine HB.out.mono ?_
      rintro e w1 ⟨rfl, hb1⟩
      go_wp2_with fail
      refine (HA.out _ hb1).mono ?_
      rintro e w2 ⟨rfl, hb2'⟩
      have hb2 := hb1.trans (hb2'.mono hb1.size)
      go_wp2_with fail
      refine (HS.out _ hb2).mono ?_
      rintro e w3 ⟨rfl, hb3'⟩
      have hb3 := hb2.trans (hb3'.mono hb2.size)
      go_wp2_with fail
      go_ret
      exact ⟨rfl, hb3⟩
    · have g3 : decide (0 < A) = false := by simpa using hA
      rw [g3, Bool.false_and]
      clear hA
      go_enter Try.func37, Try.ntmps37
      go_wp2_with fail
      refine HB.out.mono ?_
      rintro e w1 ⟨rfl, hb1⟩
      go_wp2_with fail
      refine (HA.out _ hb1).mono ?_
      rintro e w2 ⟨rfl, hb2'⟩
      have hb2 := hb1.trans (hb2'.mono hb1.size)
      go_wp2_with fail
      go_ret
      exact ⟨rfl, hb2⟩
theorem Valid_any (v : Value) (r : List Pt) (w : World) (hv : PtSl w v r) :
    Calls Try.prog 37 #[v] w fun e w' => e = .returned (.bool (validB r)) ∧ Below w.heap.size w w' := by
  by_cases h1 : r.length < 3
  · rw [valid_short h1]; exact Valid_short v r w hv h1
  · by_cases h2 : 40 < r.length
    · rw [valid_far h2]; exact Valid_far v r w hv h2
    · rw [valid_mid (by omega) (by omega)]; exact Valid_mid v r w hv (by omega) (by omega)
theorem Twice_any (v : Value) (r : List Pt) (w : World) (hv : PtSl w v r) :
    Calls Try.prog 39 #[v] w fun e w' => e = .returned (.int .i64 (twiceV r)) ∧ Below w.heap.size w w' := by
  have HV := Lib.hid (Valid_any v r w hv)
  obtain ⟨a, cap, rfl⟩ := hv.form
  unfold twiceV
  cases hb : validB r with
  | false =>
    rw [hb] at HV
    rw [if_neg (by simp)]
    clear hv hb
    go_enter Try.func39, Try.ntmps39
    go_wp2_with fail
    refine HV.out.mono ?_
    rintro e w1 ⟨rfl, hb1⟩
    go_wp2_with fail
    go_ret
    exact ⟨rfl, hb1⟩
  | true =>
    have hl := valid_len hb
    have hR := hv.ring (by omega)
    have hon := valid_on hb
    have HA := Lib.hid (fun (w1 : World) (h : Below w.heap.size w w1) => area_any _ r hon (by omega) w1 (hR.below h))
    rw [hb] at HV
    rw [if_pos rfl]
    clear hv hb hR hl hon
    go_enter Try.func39, Try.ntmps39
    go_wp2_with fail
    refine HV.out.mono ?_
    rintro e w1 ⟨rfl, hb1⟩
    go_wp2_with fail
    refine (HA.out _ hb1).mono ?_
    rintro e w2 ⟨rfl, hb2'⟩
    go_wp2_with fail
    go_ret
    exact ⟨rfl, hb1.trans (hb2'.mono hb1.size)⟩
theorem onQ_dbl {x y : Int} (h : onP x y) : onQ (x + x) (y + y) := by
  obtain ⟨⟨h1, h2⟩, h3, h4⟩ := h
  unfold onQ
  omega
set_option maxHeartbeats 2000000 in
theorem Where_any (v : Value) (r : List Pt) (px py : Int) (w : World) (hv : PtSl w v r) :
    Calls Try.prog 41 #[v, .agg #[.int .i64 px, .int .i64 py]] w fun e w' => e = .returned (.int .i64 (whereV r px py)) ∧ Below w.heap.size w w' := by
  have HO := Lib.hid (fun w => on_any px py w)
  have HV := Lib.hid (fun (w1 : World) (h : Below w.heap.size w w1) => Valid_any v r w1 (hv.below h))
  have hb0 := (Below.refl w.heap.size w).alloc (Nat.le_refl _) (.cells #[.int .i64 px, .int .i64 py] 24)
  have t0 := Two.new w 24 (.int .i64 px) (.int .i64 py)
  unfold whereV
  by_cases ho : onP px py
  · rw [decide_eq_true ho] at HO
    cases hb : validB r with
    | false =>
      rw [hb] at HV
      rw [if_neg (by simp)]
      obtain ⟨a, cap, rfl⟩ := hv.form
      clear hv hb ho
      go_enter Try.func41, Try.ntmps41
      go_wp2_with fail
      refine (HO.out _).mono ?_
      rintro e w1 ⟨rfl, hb1'⟩
      have hb1 := hb0.trans (hb1'.mono hb0.size)
      go_wp2_with fail
      refine (HV.out _ hb1).mono ?_
      rintro e w2 ⟨rfl, hb2'⟩
      have hb2 := hb1.trans (hb2'.mono hb1.size)
      go_wp2_with fail
      go_ret
      exact ⟨rfl, hb2⟩
    | true =>
      have hl := valid_len hb
      have hR := hv.ring (by omega)
      have hon := valid_on hb
      have HM := Lib.hid (fun w => middle_any px py px py ho ho w)
      have HW := Lib.hid (fun (w1 : World) (h : Below w.heap.size w w1) => where_any v r hon (by omega) (px + px) (py + py) (onQ_dbl ho) w1 (hR.below h))
      rw [hb] at HV
      rw [if_pos ⟨ho, rfl⟩]
      obtain ⟨a, cap, rfl⟩ := hv.form
      clear hv hb ho hR hl hon
      go_enter Try.func41, Try.ntmps41
      go_wp2_with fail
      refine (HO.out _).mono ?_
      rintro e w1 ⟨rfl, hb1'⟩
      have hb1 := hb0.trans (hb1'.mono hb0.size)
      have t1 := t0.below hb1' t0.lt
      go_wp2_with fail
      refine (HV.out _ hb1).mono ?_
      rintro e w2 ⟨rfl, hb2'⟩
      have hb2 := hb1.trans (hb2'.mono hb1.size)
      obtain ⟨c1, c2, -, -⟩ := (t1.below hb2' t1.lt).facts
      go_wp2_with fail
      refine (HM.out _).mono ?_
      rintro e w3 ⟨rfl, hb3'⟩
      have hb3 := hb2.trans (hb3'.mono hb2.size)
      go_wp2_with fail
      refine (HW.out _ hb3).mono ?_
      rintro e w4 ⟨rfl, hb4'⟩
      go_wp2_with fail
      go_ret
      exact ⟨rfl, hb3.trans (hb4'.mono hb3.size)⟩
  · rw [decide_eq_false ho] at HO
    rw [if_neg (fun h => ho h.1)]
    obtain ⟨a, cap, rfl⟩ := hv.form
    clear hv ho
    go_enter Try.func41, Try.ntmps41
    go_wp2_with fail
    refine (HO.out _).mono ?_
    rintro e w1 ⟨rfl, hb1'⟩
    go_wp2_with fail
    go_ret
    exact ⟨rfl, hb0.trans (hb1'.mono hb0.size)⟩
end Go.Proofs.Ytcpcmlonbpccnaa.Ge

/- Walks over package polygon: does a side of a ring cross one of another ring? -/
namespace Go.Proofs.Ytcpcmlonbpccnaa.Ge
set_option linter.unusedVariables false
set_option linter.unusedSimpArgs false
open Go.RowKit Go.Shelf
open Go.Proofs.Ytcpcmlonbpccnaa.Fr (Two)
attribute [local go_sem] Oper.semAt_some

theorem ownFrom_kpb {β : Type} {n₀ B B' : Nat} {w₀ : World} (hn : n₀ ≤ w₀.heap.size) (hB' : n₀ ≤ B') (hB : B < B') (hB0 : B < w₀.heap.size) : OwnFrom B' (fun (_ : β) W => KpB n₀ B w₀ W) := fun s X Y row hs hg hr =>
  ⟨(ownFrom_below (β := β) hn hB') s X Y row hs.below hg hr, (hg.block B (Nat.lt_of_lt_of_le hB0 hs.below.size) (fun e => by have := (hr B e.symm).1; omega)).trans hs.box⟩
/-- does no side of these cross one of a ring? -/
def noneX (rb : List Pt) (pre : List OSd) : Prop := ∀ x ∈ pre, ∀ t ∈ sidesL rb, crossS x.1 t ≠ 2
theorem crossing_yes {ra rb : List Pt} (ha : onL ra) {k : Nat} (hk : k ≤ ra.length) (h : ∃ x ∈ oUpto ra k, ∃ t ∈ sidesL rb, crossS x.1 t = 2) : crossingB ra rb = true := by
  obtain ⟨x, hx, t, ht, e⟩ := h
  unfold crossingB
  exact List.any_eq_true.2 ⟨x.1, oUpto_mem ha hk hx, List.any_eq_true.2 ⟨t, ht, by rw [e]; rfl⟩⟩
theorem crossing_no {ra rb : List Pt} (ha : onL ra) (h : noneX rb (oSides ra)) : crossingB ra rb = false := by
  rw [Bool.eq_false_iff]
  intro k
  unfold crossingB at k
  obtain ⟨s, hs, k⟩ := List.any_eq_true.1 k
  obtain ⟨t, ht, k⟩ := List.any_eq_true.1 k
  rw [← oSides_val ha] at hs
  obtain ⟨x, hx, rfl⟩ := List.mem_map.1 hs
  exact h x hx t ht (by simpa using k)

set_option maxRecDepth 100000 in
set_option maxHeartbeats 8000000 in
theorem crossing_any (va vb : Value) (ra rb : List Pt) (ha : onL ra) (hb : onL rb) (hla : 1 ≤ ra.length ∧ ra.length ≤ 1000) (hlb : 1 ≤ rb.length ∧ rb.length ≤ 1000) (w : World) (hva : Ring w va ra) (hvb : Ring w vb rb) :
    Calls Try.prog 89 #[va, vb] w fun e w' => e = .returned (.bool (crossingB ra rb)) ∧ Below w.heap.size w w' := by
  obtain ⟨ba, oa, ca, rfl, hba, hca⟩ := hva
  obtain ⟨bb, ob, cb, rfl, hbb, hcb⟩ := hvb
  have HCA := Lib.hid hca
  have HCB := Lib.hid (fun (w' : World) (h : Below w.heap.size w w') i (hi : i < rb.length) => (hcb i hi).below h hbb)
  clear hca hcb
  refine (callsIn_wide (n := 8)).1 ?_
  refine callsIn_of_wp_marks Try.func89 rfl trivial ?_ rfl
  simp only [Try.ntmps89, List.size_toArray, List.length_cons, List.length_nil, Nat.reduceAdd, Nat.reduceSub, Array.replicate_succ, Array.replicate_zero, List.push_toArray, List.append_toArray, List.nil_append, List.cons_append]
  gi_wp2_with (refine ⟨trivial, ?_⟩; gi_at_call 113; refine (callsIn_wide.2 (sides_any _ _ _ _)).mono ?_; rintro e w' ⟨rfl, rfl⟩)
  have bB := ((Boxed.new w 22 (.slice (some ⟨bb, ob, none⟩) rb.length cb)).alloc (.cells #[.bool false] 4)).alloc (.cells #[.slice (some ⟨ba, oa, none⟩) ra.length ca] 22)
  have bR := (Boxed.new (w.alloc (.cells #[.slice (some ⟨bb, ob, none⟩) rb.length cb] 22)) 4 (.bool false)).alloc (.cells #[.slice (some ⟨ba, oa, none⟩) ra.length ca] 22)
  have bA := Boxed.new ((w.alloc (.cells #[.slice (some ⟨bb, ob, none⟩) rb.length cb] 22)).alloc (.cells #[.bool false] 4)) 22 (.slice (some ⟨ba, oa, none⟩) ra.length ca)
  simp only [World.size_alloc] at bR bA
  have hB0 : Below w.heap.size w (((w.alloc (.cells #[.slice (some ⟨bb, ob, none⟩) rb.length cb] 22)).alloc (.cells #[.bool false] 4)).alloc (.cells #[.slice (some ⟨ba, oa, none⟩) ra.length ca] 22)) := (((Below.refl _ w).alloc (Nat.le_refl _) _).alloc (by simp) _).alloc (by simp; omega) _
  have hsz : (((w.alloc (.cells #[.slice (some ⟨bb, ob, none⟩) rb.length cb] 22)).alloc (.cells #[.bool false] 4)).alloc (.cells #[.slice (some ⟨ba, oa, none⟩) ra.length ca] 22)).heap.size = w.heap.size + 3 := by simp
  obtain ⟨W0, hW0⟩ : ∃ W0, ((w.alloc (.cells #[.slice (some ⟨bb, ob, none⟩) rb.length cb] 22)).alloc (.cells #[.bool false] 4)).alloc (.cells #[.slice (some ⟨ba, oa, none⟩) ra.length ca] 22) = W0 := ⟨_, rfl⟩
  rw [hW0] at bB bR bA hB0 hsz ⊢
  clear hW0
  refine wpIn_rangeFunc_ownH rfl (by decide) (gf := 127) (lb := #[.pointer (some ⟨w.heap.size + 1 + 1, 0, none⟩)]) rfl trivial (enters_of Try.func127 (by kernel_rfl) rfl)
    (sides_stops 7 (by decide) (w.heap.size + 1 + 1) w.heap.size ba oa ca ra ha hla W0 (by omega) hba hB0.size bA.cell (fun i hi => (HCA.out i hi).below hB0 hba)) (fun h k => h.trans k) (KpB.bk hB0.size (by omega)) (Below.refl _ _) (fun _ => rfl)
    (fun pre W => ((noneX rb pre ∧ Boxed W (w.heap.size + 1) 4 (.bool false)) ∧ Boxed W w.heap.size 22 (.slice (some ⟨bb, ob, none⟩) rb.length cb)) ∧ Below w.heap.size W0 W)
    (fun c pre W => ((c = .ret ∧ ∃ x ∈ pre, ∃ t ∈ sidesL rb, crossS x.1 t = 2) ∧ Boxed W (w.heap.size + 1) 4 (.bool true)) ∧ Below w.heap.size W0 W)
    (OwnFrom.and (OwnFrom.and (OwnFrom.and (ownFrom_pure _ _) (Own.from (boxed_own _ _ _) _)) (Own.from (boxed_own _ _ _) _)) (ownFrom_below hB0.size hB0.size))
    (fun c => OwnFrom.and (OwnFrom.and (ownFrom_pure _ _) (Own.from (boxed_own _ _ _) _)) (ownFrom_below hB0.size hB0.size))
    ⟨⟨⟨fun x hx => (by cases hx), bR⟩, bB⟩, Below.refl _ _⟩
    (fun x a' W => ∃ Bx, w.heap.size + 1 + 1 < Bx ∧ SdAt W Bx x.1 ∧ a' = { tmps := #[.slice (some ⟨ba, oa, none⟩) ra.length ca, .slice (some ⟨bb, ob, none⟩) rb.length cb, undef, .pointer (some ⟨w.heap.size, 0, none⟩), .pointer (some ⟨w.heap.size + 1, 0, none⟩), .pointer (some ⟨Bx, 0, none⟩), undef, .slice (some ⟨ba, oa, none⟩) ra.length ca, .func (.func 127) #[] #[.pointer (some ⟨w.heap.size + 1 + 1, 0, none⟩)], .agg #[.int .i64 x.1.1.1, .int .i64 x.1.1.2, .int .i64 x.1.2.1, .int .i64 x.1.2.2], undef, undef, undef, undef, undef, undef, undef], defers := [] })
    (fun x a' _ X Y row hs hg hr => by obtain ⟨Bx, h1, h2, h3⟩ := hs; exact ⟨Bx, h1, sd_own Bx (fun (_ : Unit) => x.1) () X Y row h2 hg (fun r e => (hr r e).2), h3⟩)
    ?assign ?body ?done ?stop
  case assign =>
    rintro l pre x W K ⟨⟨⟨hno, bR1⟩, bB1⟩, hB1⟩ hK
    gi_wp2
    have hz := hB1.size
    exact hK _ _ ((KeepsOthers.alloc _ _).from _) ((KpB.refl _ _ _).alloc (by omega) (by omega) _) ⟨⟨⟨hno, bR1.alloc _⟩, bB1.alloc _⟩, hB1.alloc (by omega) _⟩ ⟨W.heap.size, by omega, SdAt.new W x.1, rfl⟩
  case body =>
    rintro l pre x a' W hl ⟨rr, hrr⟩ ⟨⟨⟨hno, bR1⟩, bB1⟩, hB1⟩ ⟨Bx, hBx, bX, rfl⟩ hlt
    have cB := bB1.cell
    have hz := hB1.size
    have hlx := bX.lt
    gi_wp2_with (refine ⟨trivial, ?_⟩; gi_at_call 113; refine (CallsIn.inRound l (callsIn_wide.2 (sides_any _ _ _ _))).mono ?_; rintro e w' ⟨rfl, rfl⟩)
    have bN := Boxed.new W 22 (.slice (some ⟨bb, ob, none⟩) rb.length cb)
    have hr' : (W.alloc (.cells #[.slice (some ⟨bb, ob, none⟩) rb.length cb] 22)).heap[l]? = some (.loop rr) := (Below.heap_alloc W _ l (Array.getElem?_eq_some_iff.1 hrr).1).trans hrr
    have hzN : (W.alloc (.cells #[.slice (some ⟨bb, ob, none⟩) rb.length cb] 22)).heap.size = W.heap.size + 1 := by simp
    have hBN := hB1.alloc (show w.heap.size ≤ W.heap.size by omega) (.cells #[.slice (some ⟨bb, ob, none⟩) rb.length cb] 22)
    refine wpIn_rangeFunc_ownN (l₀ := l) (r₀ := rr) rfl hr' (by decide) (gf := 127) (lb := #[.pointer (some ⟨W.heap.size, 0, none⟩)]) rfl trivial (enters_of Try.func127 (by kernel_rfl) rfl)
      ((sides_stops 5 (by decide) W.heap.size w.heap.size bb ob cb rb hb hlb _ (by omega) hbb (by omega) bN.cell (fun i hi => HCB.out _ (hB0.trans hBN) i hi)).inRound l) (fun h k => h.trans k) (KpB.bk (by omega) (by omega)) (Below.refl _ _) (fun _ => rfl)
      (fun pre' W' => (((∀ y ∈ pre', crossS x.1 y.1 ≠ 2) ∧ Boxed W' (w.heap.size + 1) 4 (.bool false)) ∧ SdAt W' Bx x.1 ∧ Boxed W' w.heap.size 22 (.slice (some ⟨bb, ob, none⟩) rb.length cb) ∧ Boxed W' W.heap.size 22 (.slice (some ⟨bb, ob, none⟩) rb.length cb)) ∧ (KpB w.heap.size (w.heap.size + 1 + 1) W W' ∧ KeepsFrom W0.heap.size W W'))
      (fun c pre' W' => ((c = .ret ∧ ∃ y ∈ pre', crossS x.1 y.1 = 2) ∧ Boxed W' (w.heap.size + 1) 4 (.bool true)) ∧ (KpB w.heap.size (w.heap.size + 1 + 1) W W' ∧ KeepsFrom W0.heap.size W W'))
      (OwnFrom.and (OwnFrom.and (OwnFrom.and (ownFrom_pure _ _) (Own.from (boxed_own _ _ _) _)) (OwnFrom.and (Own.from (sd_own _ _) _) (OwnFrom.and (Own.from (boxed_own _ _ _) _) (Own.from (boxed_own _ _ _) _)))) (OwnFrom.and (ownFrom_kpb (by omega) (by omega) (by omega) (by omega)) (ownFrom_keepsFrom (by omega))))
      (fun c => OwnFrom.and (OwnFrom.and (ownFrom_pure _ _) (Own.from (boxed_own _ _ _) _)) (OwnFrom.and (ownFrom_kpb (by omega) (by omega) (by omega) (by omega)) (ownFrom_keepsFrom (by omega))))
      ⟨⟨⟨fun y hy => (by cases hy), bR1.alloc _⟩, bX.alloc _, bB1.alloc _, bN⟩, (KpB.refl _ _ _).alloc (by omega) (by omega) _, (KeepsOthers.alloc _ _).from _⟩
      (fun y a'' W' => ∃ By, w.heap.size + 1 + 1 < By ∧ SdAt W' By y.1 ∧ a'' = { tmps := #[.slice (some ⟨ba, oa, none⟩) ra.length ca, .slice (some ⟨bb, ob, none⟩) rb.length cb, undef, .pointer (some ⟨w.heap.size, 0, none⟩), .pointer (some ⟨w.heap.size + 1, 0, none⟩), .pointer (some ⟨Bx, 0, none⟩), .pointer (some ⟨By, 0, none⟩), .slice (some ⟨ba, oa, none⟩) ra.length ca, .func (.func 127) #[] #[.pointer (some ⟨w.heap.size + 1 + 1, 0, none⟩)], .agg #[.int .i64 x.1.1.1, .int .i64 x.1.1.2, .int .i64 x.1.2.1, .int .i64 x.1.2.2], .slice (some ⟨bb, ob, none⟩) rb.length cb, .func (.func 127) #[] #[.pointer (some ⟨W.heap.size, 0, none⟩)], .agg #[.int .i64 y.1.1.1, .int .i64 y.1.1.2, .int .i64 y.1.2.1, .int .i64 y.1.2.2], undef, undef, undef, undef], defers := [] })
      (fun y a'' _ X Y row hs hg hr => by obtain ⟨By, h1, h2, h3⟩ := hs; exact ⟨By, h1, sd_own By (fun (_ : Unit) => y.1) () X Y row h2 hg (fun r e => (hr r e).2), h3⟩)
      ?assign2 ?body2 ?done2 ?stop2
    case assign2 =>
      rintro l2 pre' y W' K ⟨⟨⟨hq, bR2⟩, bX2, bB2, bN2⟩, hKB, hKF⟩ hK
      gi_wp2
      have hz2 := hKB.below.size
      have hn2 := bN2.lt
      exact hK _ _ ((KeepsOthers.alloc _ _).from _) ((KpB.refl _ _ _).alloc (by omega) (by omega) _) ⟨⟨⟨hq, bR2.alloc _⟩, bX2.alloc _, bB2.alloc _, bN2.alloc _⟩, hKB.alloc (by omega) (by omega) _, hKF.trans ((KeepsOthers.alloc _ _).from _)⟩ ⟨W'.heap.size, by omega, SdAt.new W' y.1, rfl⟩
    case body2 =>
      rintro l2 pre' y a'' W' _ _ ⟨⟨⟨hq, bR2⟩, bX2, bB2, bN2⟩, hKB, hKF⟩ ⟨By, hBy, bY, rfl⟩ _
      have hz2 := hKB.below.size
      have hn2 := bN2.lt
      obtain ⟨f0, f1, f2, f3⟩ := bX2.facts
      obtain ⟨g0, g1, g2, g3⟩ := bY.facts
      have HC := Lib.hid (fun w => pcross_any x.1.1.1 x.1.1.2 x.1.2.1 x.1.2.2 y.1.1.1 y.1.1.2 y.1.2.1 y.1.2.2 w)
      have hcv : crossV x.1.1.1 x.1.1.2 x.1.2.1 x.1.2.2 y.1.1.1 y.1.1.2 y.1.2.1 y.1.2.2 = crossS x.1 y.1 := rfl
      rw [hcv] at HC
      clear hcv
      by_cases hc2 : crossS x.1 y.1 = 2
      · have e1 : (crossS x.1 y.1 == 2) = true := by simpa using hc2
        gi_wp2
        refine ⟨trivial, (CallsIn.inRound l2 (callsIn_wide.2 (HC.out _))).mono ?_⟩
        rintro e w1 ⟨rfl, hb1⟩
        have q0 := boxed_below bR2 hb1 bR2.lt
        have qc := q0.cell
        have qf := q0.frozen
        have hz3 := hb1.size
        gi_wp2
        exact ⟨((keeps_below hb1).trans (KeepsOthers.setCell _ _ _)).from _, ⟨⟨rfl, y, by simp, hc2⟩, q0.set _⟩, hKB.trans ((KpB.of_below hb1 (by omega) (by omega)).trans (KpB.set (by omega) (by omega) (by omega) _)), hKF.trans (((keeps_below hb1).trans (KeepsOthers.setCell _ _ _)).from _)⟩
      · have e1 : (crossS x.1 y.1 == 2) = false := by simpa using hc2
        gi_wp2
        refine ⟨trivial, (CallsIn.inRound l2 (callsIn_wide.2 (HC.out _))).mono ?_⟩
        rintro e w1 ⟨rfl, hb1⟩
        have hz3 := hb1.size
        gi_wp2
        exact ⟨(keeps_below hb1).from _, KpB.of_below hb1 (by omega) (by omega), ⟨⟨fun z hz => (List.mem_append.1 hz).elim (hq z) (fun e => by rw [List.mem_singleton.1 e]; exact hc2), boxed_below bR2 hb1 bR2.lt⟩, bX2.below hb1 bX2.lt, boxed_below bB2 hb1 bB2.lt, boxed_below bN2 hb1 bN2.lt⟩, hKB.trans (KpB.of_below hb1 (by omega) (by omega)), hKF.trans ((keeps_below hb1).from _)⟩
    case done2 =>
      rintro ys' W' rfl ⟨⟨⟨hq, bR2⟩, bX2, bB2, bN2⟩, hKB, hKF⟩
      gi_wp2
      refine ⟨hKF, hKB, ⟨⟨fun z hz => (List.mem_append.1 hz).elim (hno z) (fun e t ht => ?_), bR2⟩, bB2⟩, hB1.trans hKB.below⟩
      rw [List.mem_singleton.1 e]
      rw [← oSides_val hb] at ht
      obtain ⟨y, hy, rfl⟩ := List.mem_map.1 ht
      exact hq y hy
    case stop2 =>
      rintro c pre' W' ⟨k, hk, rfl⟩ ⟨⟨⟨rfl, y, hy, hc2⟩, bR2⟩, hKB, hKF⟩
      gi_wp2
      exact ⟨hKF, ⟨⟨rfl, x, by simp, y.1, oUpto_mem hb hk hy, hc2⟩, bR2⟩, hB1.trans hKB.below⟩
  case done =>
    rintro D zs W hD rfl ⟨⟨⟨hno, bR1⟩, bB1⟩, hB1⟩ hK
    have cR := bR1.cell
    have fR := bR1.frozen
    have hz := hB1.size
    have hX := Lib.hid (crossing_no ha hno)
    gi_wp2
    have hK' := (KeepsOthers.setCell W ⟨w.heap.size + 1, 0, none⟩ (.bool false)).same D _ hK rfl
    refine ⟨by simp, .inl ⟨_, _, rfl, run_takeDeferred hK', ?_⟩⟩
    have hc5 := cell_kept (bR1.set (.bool false)).cell (grownBy_putObj' _ D (.deferred none)) (fun r e => by cases e; exact ⟨_, hK', rfl⟩)
    refine ⟨.bool false, ?_, by rw [hX.out], (hB0.trans (hB1.setCell (p := ⟨w.heap.size + 1, 0, none⟩) (Nat.le_succ _) _)).trans (belowK_b (w := w) (Nat.le_refl _) _ D _ _ (by omega) hK' rfl rfl)⟩
    simp [results, Try.f89, go_sem, hc5]
  case stop =>
    rintro D c pre W hD ⟨k, hk, rfl⟩ ⟨⟨⟨rfl, hx⟩, bR1⟩, hB1⟩ hK
    have hX := Lib.hid (crossing_yes ha hk hx)
    gi_wp2
    refine ⟨by simp, .inl ⟨_, _, rfl, run_takeDeferred hK, ?_⟩⟩
    have hc5 := cell_kept bR1.cell (grownBy_putObj' _ D (.deferred none)) (fun r e => by cases e; exact ⟨_, hK, rfl⟩)
    refine ⟨.bool true, ?_, by rw [hX.out], (hB0.trans hB1).trans (belowK_b (w := w) (Nat.le_refl _) W D _ _ (by omega) hK rfl rfl)⟩
    simp [results, Try.f89, go_sem, hc5]
end Go.Proofs.Ytcpcmlonbpccnaa.Ge

/- Walks over package polygon: the corners of a ring that are on a side of another one. -/
namespace Go.Proofs.Ytcpcmlonbpccnaa.Ge
set_option linter.unusedVariables false
set_option linter.unusedSimpArgs false
open Go.RowKit
open Go.Proofs.Ytcpcmlonbpccnaa.Fr (Two)

theorem filter_take {f : Pt → Bool} (r : List Pt) (k : Nat) (h : k < r.length) : (r.take (k + 1)).filter f = (r.take k).filter f ++ (if f r[k] = true then [r[k]] else []) := by
  rw [List.take_succ_eq_append_getElem h, List.filter_append]
  congr 1
  cases hf : f r[k] <;> simp [hf]
theorem filter_len {f : Pt → Bool} (r : List Pt) (k : Nat) : ((r.take k).filter f).length ≤ r.length := by
  have h1 := List.length_filter_le f (r.take k)
  have h2 : (r.take k).length ≤ r.length := by rw [List.length_take]; omega
  omega

set_option maxRecDepth 100000 in
set_option maxHeartbeats 4000000 in
theorem corners_any (v : Value) (r : List Pt) (hlen : 1 ≤ r.length ∧ r.length ≤ 1000) (ax ay bx bz : Int) (w : World) (hv : Ring w v r) :
    Calls Try.prog 132 #[v, .func (.func 133) #[.agg #[.int .i64 ax, .int .i64 ay, .int .i64 bx, .int .i64 bz]] #[]] w
      fun e w' => ∃ u, e = .returned u ∧ OwnPt w' w.heap.size u (r.filter (partedB ((ax, ay), bx, bz))) ∧ Below w.heap.size w w' := by
  obtain ⟨b, off, cap, rfl, hbw, hcells⟩ := hv
  obtain ⟨hl1, hl2⟩ := hlen
  have HC := Lib.hid (fun (w' : World) (hw : Below w.heap.size w w') i (hi : i < r.length) => (hcells i hi).below hw hbw)
  have HF := Lib.hid (fun k h => filter_take (f := partedB ((ax, ay), bx, bz)) r k h)
  have HL := Lib.hid (fun k => filter_len (f := partedB ((ax, ay), bx, bz)) r k)
  have HE := Lib.hid (show (r.take r.length).filter (partedB ((ax, ay), bx, bz)) = r.filter (partedB ((ax, ay), bx, bz)) from by rw [List.take_length])
  have HP := Lib.hid (fun cx cy w => parted_any ax ay bx bz cx cy w)
  have HPV := Lib.hid (fun c : Pt => show partedB ((ax, ay), bx, bz) c = ptB c.1 c.2 ax ay bx bz from rfl)
  clear hcells
  go_enter Try.func132, Try.ntmps132
  go_wp2_with fail
  go_loopw [5, 10] (fun s i wr => ∃ k : Nat, i = .int .i64 (k : Int) ∧ k ≤ r.length ∧ OwnPt wr w.heap.size s ((r.take k).filter (partedB ((ax, ay), bx, bz))) ∧ Below w.heap.size w wr) (fun _ i _ => r.length - (intOf i).toNat)
  case atStart => exact ⟨0, rfl, Nat.zero_le _, OwnPt.nil _ _, Below.refl _ _⟩
  case round =>
    obtain ⟨k, rfl, hk, hs, hbel⟩ := hrel
    by_cases hlt : k < r.length
    · obtain ⟨c1, c2⟩ := HC.out wr hbel k hlt
      have hz := hbel.size
      have hf := HF.out k hlt
      have hl := HL.out k
      have hpv := HPV.out r[k]
      rw [hpv] at hf
      obtain ⟨⟨px, py⟩, ep⟩ : ∃ p : Pt, r[k] = p := ⟨_, rfl⟩
      rw [ep] at c1 c2 hf
      dsimp only at c1 c2 hf
      clear ep hpv
      have HPC := Lib.hid (fun w => HP.out px py w)
      obtain ⟨L0, hL0⟩ : ∃ L0, (r.take k).filter (partedB ((ax, ay), bx, bz)) = L0 := ⟨_, rfl⟩
      rw [hL0] at hs hf hl
      clear hL0
      obtain ⟨L1, hL1⟩ : ∃ L1, (r.take (k + 1)).filter (partedB ((ax, ay), bx, bz)) = L1 := ⟨_, rfl⟩
      rw [hL1] at hf
      have HL1 := Lib.hid hL1
      clear hL1
      have hbA := hbel.alloc hz (.cells #[.int .i64 px, .int .i64 py] 24)
      have tP := Two.new wr 24 (.int .i64 px) (.int .i64 py)
      have hsA := hs.below ((Below.refl wr.heap.size wr).alloc (Nat.le_refl _) (.cells #[.int .i64 px, .int .i64 py] 24))
      cases hpt : ptB px py ax ay bx bz with
      | true =>
        rw [hpt] at HPC
        rw [hpt, if_pos rfl] at hf
        have HFF := Lib.hid hf
        have HSA := Lib.hid hsA
        clear hf hs hsA hpt
        go_wp2_with fail
        refine (HPC.out _).mono ?_
        rintro e w1 ⟨rfl, hb1⟩
        have hb2 := hbA.trans (hb1.mono hbA.size)
        have hz2 := hb2.size
        obtain ⟨d1, d2, -, -⟩ := (tP.below hb1 tP.lt).facts
        clear c1 c2
        go_upto_region 7 with (at_builtin; refine list_append_pt _ rfl _ _ rfl w.heap.size _ _ L0 [(px, py)] rfl rfl ((HSA.out.below hb1).below ((Below.refl _ _).alloc (Nat.le_refl _) _)) (PtSl.one _ (px, py)) (by rw [List.length_singleton]; omega) (by simp only [World.size_alloc]; omega) ?_; intro v' w2 own2 grow2 at2; have hb3 : Below w.heap.size w w2 := (hb2.alloc hb2.size _).grown grow2 (by simp only [World.size_alloc]; omega) (fun k hk => HSA.out.lt k hk); have HO2 := Lib.hid own2; clear own2 grow2 at2)
        go_wp2_with fail
        go_roundw
        case rel => exact ⟨k + 1, by go_num, by omega, by rw [HL1.out, HFF.out]; exact HO2.out, hb3⟩
        case measure => simp [intOf]; omega
      | false =>
        rw [hpt] at HPC
        rw [hpt, if_neg (by simp), List.append_nil] at hf
        have HFF := Lib.hid hf
        have HSA := Lib.hid hsA
        clear hf hs hsA hpt
        go_wp2_with fail
        refine (HPC.out _).mono ?_
        rintro e w1 ⟨rfl, hb1⟩
        have hb2 := hbA.trans (hb1.mono hbA.size)
        clear c1 c2
        go_wp2_with fail
        go_roundw
        case rel => exact ⟨k + 1, by go_num, by omega, by rw [HL1.out, HFF.out]; exact HSA.out.below hb1, hb2⟩
        case measure => simp [intOf]; omega
    · obtain rfl : k = r.length := by omega
      rw [HE.out] at hs
      go_wp2_with fail
      go_ret
      exact ⟨_, rfl, hs, hbel⟩
end Go.Proofs.Ytcpcmlonbpccnaa.Ge
