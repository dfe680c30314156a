/- Walks over package date: lists of periods, cloned and sorted. -/
import Derived.Test.YtdbffhcckmmgfaaDoorDatW4
import Derived.Test.YtdbffhcckmmgfaaDoorSort
namespace Go.Proofs.YtdbffhcckmmgfaaDoor.Dt
set_option linter.unusedVariables false
set_option linter.unusedSimpArgs false
open Go.RowKit

theorem isNaN_any (a : Int) (w : World) :
    Calls Tryd.prog 63 #[.int .i64 a] w fun e w' => e = .returned (.bool false) ∧ w = w' := by
  have h1 : (a == a) = true := by simp
  have h2 : (a != a) = false := by simp
  go_enter Tryd.func63, Tryd.ntmps63
  go_wp2_with fail
  go_ret
  exact ⟨rfl, rfl⟩
def cmpI (a b : Int) : Int := if a < b then -1 else if b < a then 1 else 0
theorem compare_any (a b : Int) (w : World) :
    Calls Tryd.prog 54 #[.int .i64 a, .int .i64 b] w fun e w' => e = .returned (.int .i64 (cmpI a b)) ∧ w = w' := by
  unfold cmpI
  by_cases h1 : a < b
  · rw [if_pos h1]
    go_enter Tryd.func54, Tryd.ntmps54
    go_wp2_with (go_at_call 63; refine (isNaN_any _ _).mono ?_; rintro r w' ⟨rfl, rfl⟩)
    go_ret
    exact ⟨rfl, rfl⟩
  · rw [if_neg h1]
    have k1 : decide (a < b) = false := by simpa using h1
    by_cases h2 : b < a
    · rw [if_pos h2]
      go_enter Tryd.func54, Tryd.ntmps54
      go_wp2_with (go_at_call 63; refine (isNaN_any _ _).mono ?_; rintro r w' ⟨rfl, rfl⟩)
      go_ret
      exact ⟨rfl, rfl⟩
    · rw [if_neg h2]
      have k2 : decide (b < a) = false := by simpa using h2
      go_enter Tryd.func54, Tryd.ntmps54
      go_wp2_with (go_at_call 63; refine (isNaN_any _ _).mono ?_; rintro r w' ⟨rfl, rfl⟩)
      go_ret
      exact ⟨rfl, rfl⟩

theorem closure_any (x y : Per) (W : World) :
    Calls Tryd.prog 53 #[.agg #[.int .i64 x.1, .int .i64 x.2], .agg #[.int .i64 y.1, .int .i64 y.2]] W fun e w' => e = .returned (.int .i64 (cmpI x.1 y.1)) ∧ ∃ q os', w' = Sort.grow (W.drewN q) os' := by
  have HC := Lib.hid (fun w => compare_any x.1 y.1 w)
  generalize cmpI x.1 y.1 = r at HC ⊢
  go_enter Tryd.func53, Tryd.ntmps53
  go_wp2_with (go_at_call 54; refine (HC.out _).mono ?_; rintro r w' ⟨rfl, rfl⟩)
  go_ret
  exact ⟨rfl, 0, _, by rw [Sort.alloc_eq_grow, Sort.alloc_eq_grow, Sort.grow_grow]; rfl⟩
theorem closure_lays (blk off size : Nat) (w : World) : CmpLays Tryd.prog 53 #[] encP 2 (fun x y : Per => cmpI x.1 y.1) blk off size w :=
  fun _ _ _ _ x y => closure_any x y _
theorem lt_cmp (x y : Per) : ltOf (fun x y : Per => cmpI x.1 y.1) x y = decide (x.1 < y.1) := by
  unfold ltOf cmpI
  by_cases h1 : x.1 < y.1
  · simp [h1]
  · by_cases h2 : y.1 < x.1 <;> simp [h1, h2]
theorem swo : Sort.SWO (ltOf fun x y : Per => cmpI x.1 y.1) where
  irrefl x := by rw [lt_cmp]; simp
  trans x y z h1 h2 := by rw [lt_cmp] at *; simp at *; omega
  ntrans x y z h1 h2 := by rw [lt_cmp] at *; simp at *; omega

/-! ### no element -/
theorem insertion_none (p : Option Addr) (cap : Nat) (fv : Value) (w : World) :
    Calls Tryd.prog 70 #[.slice p 0 cap, .int .i64 0, .int .i64 0, fv] w fun e w' => e = .returned (.tuple #[]) ∧ w = w' := by
  go_enter Tryd.func70, Tryd.ntmps70
  go_wp2_with fail
  refine wp_loop_rounds 1 ?_
  rw [rounds_succ]
  go_wp2_with fail
  go_end0
  exact ⟨rfl, rfl⟩
theorem pdq_none (p : Option Addr) (cap : Nat) (lim : Int) (fv : Value) (w : World) :
    Calls Tryd.prog 61 #[.slice p 0 cap, .int .i64 0, .int .i64 0, .int .i64 lim, fv] w fun e w' => e = .returned (.tuple #[]) ∧ w = w' := by
  go_enter Tryd.func61, Tryd.ntmps61
  go_wp2_with fail
  refine wp_loop_rounds 1 ?_
  rw [rounds_succ]
  go_wp2_with (go_at_call 70; refine (insertion_none _ _ _ _).mono ?_; rintro e w' ⟨rfl, rfl⟩)
  (try simp only [Exit.inBlock, Exit.then])
  refine bodyPost_ret (results_none rfl _ _ _) rfl ?_
  exact ⟨rfl, rfl⟩
theorem sort_none (p : Option Addr) (cap : Nat) (fv : Value) (w : World) :
    Calls Tryd.prog 52 #[.slice p 0 cap, fv] w fun e w' => e = .returned (.tuple #[]) ∧ w = w' := by
  go_enter Tryd.func52, Tryd.ntmps52
  go_wp2_with (first | (go_at_call 62; refine (Tryd.bits_Len 0 _ (by omega) (by omega)).mono ?_; rintro e w' ⟨rfl, rfl⟩) | (go_at_call 61; refine (pdq_none _ _ _ _ _).mono ?_; rintro e w' ⟨rfl, rfl⟩))
  go_end0
  exact ⟨rfl, rfl⟩

/-! ### any list of the call's own -/
theorem get_bang (l : List Per) (i : Nat) (h : i < l.length) : (l.toArray)[i]! = l[i] := by
  rw [getElem!_pos l.toArray i (by simpa using h)]
  simp
theorem holds_own {w : World} {B g cap : Nat} {l : List Per} (h : OwnPer w B (.slice (some ⟨g, 0, none⟩) l.length cap) l) : Sort.HoldsK encP 2 w g 0 l.toArray := by
  intro j hj
  have hj2 : j < l.length * 2 := by simpa using hj
  have hjq : j / 2 < l.length := by omega
  refine ⟨?_, by rw [Nat.zero_add]; exact World.ownsRow.frozenAt h j⟩
  rw [Nat.zero_add, World.ownsRow.cellAt h j hj2, Sort.get_flatK encP 2 l.toArray j (by simpa using hj2), get_bang l _ hjq]
  have hg := flatP_get l (j / 2) (j % 2) hjq (Nat.mod_lt _ (by decide))
  rw [show j / 2 * 2 + j % 2 = j by omega] at hg
  rw [hg]
  show _ = some ((encP l[j / 2])[j % 2]!)
  have hm : j % 2 < (encP l[j / 2]).length := Nat.mod_lt _ (by decide)
  rw [List.getElem?_eq_getElem hm, getElem!_pos (encP l[j / 2]) (j % 2) hm]
theorem below_sort {B : Nat} {w0 w : World} {g off n : Nat} {d : Array Per} {os : Array Obj} (h : Below B w0 w) (hg : B ≤ g) (hB : B ≤ w.heap.size) : Below B w0 (sortWorldK encP 2 w g off n d os) := by
  refine h.trans ⟨rfl, rfl, rfl, ?_, ?_⟩
  · show w.heap.size ≤ (w.heap.modify g _ ++ os).size
    simp
  · intro i hi
    show (w.heap.modify g _ ++ os)[i]? = w.heap[i]?
    rw [Array.getElem?_append_left (by simp; omega), Array.getElem?_modify, if_neg (by omega)]
theorem perSl_holds {w : World} {g cap : Nat} {d : Array Per} (h : Sort.HoldsK encP 2 w g 0 d) (h0 : 0 < d.size) (hlt : g < w.heap.size) (hc : d.size ≤ cap ∧ cap ≤ maxLen) : PerSl w (.slice (some ⟨g, 0, none⟩) d.size cap) d.toList := by
  refine .inr ⟨g, 0, cap, by simp, by simpa using h0, hlt, by simpa using hc, fun i hi => ?_⟩
  have hi2 : i < d.size := by simpa using hi
  have e : d[i]! = d.toList[i] := by rw [getElem!_pos d i hi2]; simp
  have a := (h.cell (i := i) (c := 0) hi2 (by decide)).1
  have b := (h.cell (i := i) (c := 1) hi2 (by decide)).1
  rw [e] at a b
  exact ⟨a, b⟩
/-- sorted by the first days -/
def Sorted (l' l : List Per) : Prop := l'.Perm l ∧ l'.Pairwise fun p q => p.1 ≤ q.1
theorem sorted_of {d d' : Array Per} (h1 : Sort.PermIn 0 d.size d d') (h2 : Sort.SortedIn (ltOf fun x y : Per => cmpI x.1 y.1) 0 d.size d') : Sorted d'.toList d.toList := by
  obtain ⟨hs, -, hp⟩ := h1
  refine ⟨?_, ?_⟩
  · have e1 : d'.extract 0 d.size = d' := by rw [← hs]; simp
    have e2 : d.extract 0 d.size = d := by simp
    rw [e1, e2] at hp
    exact hp
  · rw [List.pairwise_iff_getElem]
    intro i j hi hj hij
    have hi2 : i < d'.size := by simpa using hi
    have hj2 : j < d'.size := by simpa using hj
    have h := h2 i j (Nat.zero_le _) hij (by omega)
    rw [lt_cmp, getElem!_pos d' i hi2, getElem!_pos d' j hj2] at h
    simp at h
    simpa using h
theorem sort_any (w : World) (B : Nat) (v : Value) (l : List Per) (own : OwnPer w B v l) (hlen : l.length ≤ 1000000) (hB : B ≤ w.heap.size) :
    Calls Tryd.prog 52 #[v, .func (.func 53) #[] #[]] w fun e w' => e = .returned (.tuple #[]) ∧ (∃ l', Sorted l' l ∧ PerSl w' v l') ∧ Below B w w' := by
  by_cases h0 : l.length = 0
  · obtain rfl := List.eq_nil_of_length_eq_zero h0
    obtain ⟨a, cap, rfl⟩ := own.form
    refine (sort_none a cap _ w).mono ?_
    rintro e w' ⟨rfl, rfl⟩
    exact ⟨rfl, ⟨[], ⟨List.Perm.refl _, List.Pairwise.nil⟩, .inl ⟨rfl, a, cap, rfl⟩⟩, Below.refl _ _⟩
  · rcases own.2 with ⟨rfl, hn⟩ | ⟨g, cap, cur, rfl, hb, hg, hnc, hcm, hsz, htk⟩
    · exact absurd hn h0
    · have hH := holds_own own
      have hblk : g < w.heap.size := (Array.getElem?_eq_some_iff.1 hg).1
      have eg : ∀ args w, (callFunc 53 args).run Tryd.prog w = .ok (.enter 53 args) w := enters_of Tryd.func53 (by kernel_rfl) rfl
      have hcon := AnyQ.slices_SortFunc Tryd.sortLays 2 Tryd.isAgg35 Tryd.sizeOf35 encP (fun _ => rfl) encP_one (fun x y : Per => cmpI x.1 y.1) swo 53 #[] g 0 cap l.toArray w eg (closure_lays g 0 _ w) hH hblk (by simp; omega)
      have hsl : l.toArray.size = l.length := by simp
      rw [hsl] at hcon
      change Calls Tryd.prog 52 _ _ _ at hcon
      refine hcon.mono ?_
      rintro e w' ⟨rfl, d', n, os, hp, hs, rfl⟩
      have hsd : d'.size = l.length := by rw [← hsl]; exact hp.1
      have hHk := holdsK_sortWorldK_c encP 2 w g 0 l.toArray d' n os hH hblk (by rw [hsl]; exact hsd)
      have hS := sorted_of (d := l.toArray) (d' := d') (by rw [hsl]; exact hp) (by rw [hsl]; exact hs)
      have hb2 := below_sort (g := g) (off := 0) (n := n) (d := d') (os := os) (Below.refl B w) hb hB
      refine ⟨rfl, ⟨d'.toList, hS, ?_⟩, hb2⟩
      rw [← hsd]
      exact perSl_holds hHk (by omega) (Nat.lt_of_lt_of_le hblk hb2.size) (by omega)

theorem OwnPer.empty (w : World) (B : Nat) (hB : B ≤ w.heap.size) : OwnPer (w.alloc (.cells #[] 35)) B (.slice (some ⟨w.heap.size, 0, none⟩) 0 0) [] :=
  World.ownsRow_lit w #[] 0 hB (Nat.zero_le _) rfl
theorem nil_run (a : Option Addr) (n c : Nat) (w : World) : (binOp BinOp.eql 36 (.slice a n c) (.slice none 0 0)).run Tryd.prog w = .ok (.bool (match a with | none => true | some _ => false)) w := by
  cases a with
  | none => kernel_rfl
  | some ad => kernel_rfl
set_option maxRecDepth 100000 in
set_option maxHeartbeats 1000000 in
theorem clone_any (w : World) (v : Value) (l : List Per) (h : PerSl w v l) (hlen : l.length ≤ 100000) :
    Calls Tryd.prog 51 #[v] w fun e w' => ∃ u, e = .returned u ∧ OwnPer w' w.heap.size u l ∧ Below w.heap.size w w' := by
  obtain ⟨a, cap, rfl⟩ := h.form
  cases a with
  | none =>
    have hl : l = [] := by
      rcases h with ⟨h, _⟩ | ⟨b, off, cap, h, _⟩
      · exact h
      · cases h
    subst hl
    have hrun := nil_run none 0 cap
    go_enter Tryd.func51, Tryd.ntmps51
    go_wp2_with fail
    go_ret
    exact ⟨_, rfl, OwnPer.nil _ _, Below.refl _ _⟩
  | some ad =>
    have hE := OwnPer.empty w w.heap.size (Nat.le_refl _)
    have hS := h.below ((Below.refl w.heap.size w).alloc (Nat.le_refl _) (.cells #[] 35))
    have HE := Lib.hid hE
    have HS := Lib.hid hS
    clear hE hS h
    have hrun := nil_run (some ad) l.length cap
    go_enter Tryd.func51, Tryd.ntmps51
    go_wp2_with (at_builtin; refine list_append_per _ rfl _ _ rfl w.heap.size _ _ [] l rfl rfl HE.out HS.out (by simp; omega) (by simp) ?_; intro v' w' hown hgr)
    have hb := ((Below.refl w.heap.size w).alloc (Nat.le_refl _) (.cells #[] 35)).grown hgr (by simp) (fun k hk => by cases hk; exact Nat.le_refl _)
    have HO := Lib.hid hown
    clear hown hgr
    go_wp2_with fail
    go_ret
    exact ⟨_, rfl, HO.out, hb⟩
end Go.Proofs.YtdbffhcckmmgfaaDoor.Dt
