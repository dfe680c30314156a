/- A region that draws its order: an invariant on what has been done so far, in the place of one branch for each order. -/
import Derived.OrdersHeld
import Derived.Deep.RegionHeld
namespace Go.Proofs.Ytcpcmlonbpccnaa.Ri
open Go
section
variable {P : Program} {md : Region.Mode} {ops : Array Oper} {Q : Exit → Act → World → Prop} {S : World → Prop}

theorem count_set (l : List Bool) : ∀ i, l.getD i true = false → (l.set i true).count false + 1 = l.count false := by
  induction l with
  | nil => intro i h; simp at h
  | cons b l ih =>
    intro i h
    cases i with
    | zero =>
      simp at h
      subst h
      simp
    | succ i =>
      simp only [List.getD_cons_succ] at h
      have := ih i h
      simp only [List.set_cons_succ, List.count_cons]
      omega
theorem step_shut {J : Act → World → Prop} {a : Act} {w : World} {i : Nat} {o : Oper} (ho : ops[i]? = some o)
    (h : ∀ K' : Act → World → Prop, Shut (∀ a w, S w → J a w → K' a w) → if Region.wanted o (yielded ops a.tmps) = true then Oper.wp P o a w K' Q else K' (a.put o.dst undef) w) :
    wpOp P ops Q i (fun a' w' => S w' ∧ J a' w') a w :=
  wpOp_step ho (fun K' hK => h K' (fun a w hS hJ => hK a w ⟨hS, hJ⟩))
theorem inv_any {I : Array Bool → Act → World → Prop} {f0 : Nat}
    (base : ∀ L a w, I L a w → S w → L.toList.count false = f0 → wpAnyH P md ops Q S f0 L a w)
    (step : ∀ L a w, I L a w → S w → L.toList.count false ≠ f0 → Region.ready md ops L ≠ [] ∧ ∀ i ∈ Region.ready md ops L, wpOp P ops Q i (fun a' w' => S w' ∧ I (L.setIfInBounds i true) a' w') a w) :
    ∀ n L a w, L.toList.count false = n + f0 → I L a w → S w → wpAnyH P md ops Q S (n + f0) L a w := by
  intro n
  induction n with
  | zero =>
    intro L a w hn hI hS
    rw [Nat.zero_add] at hn ⊢
    exact base L a w hI hS hn
  | succ n ih =>
    intro L a w hn hI hS
    obtain ⟨hne, hst⟩ := step L a w hI hS (by omega)
    have e : n + 1 + f0 = (n + f0) + 1 := by omega
    rw [e]
    refine wpAnyH_all rfl hne fun i hi => ?_
    have h0 := (mem_ready.1 hi).1
    refine wpOp_mono (fun a' w' h => ⟨h.1, ih _ a' w' ?_ h.2 h.1⟩) (hst i hi)
    have h1 : L.toList.getD i true = false := by rw [← h0]; simp [Array.getD_eq_getD_getElem?, List.getD_eq_getElem?_getD]
    have h2 := count_set L.toList i h1
    rw [Array.toList_setIfInBounds]
    omega

/-- taken first, its place written out -/
theorem take_d {i : Nat} {oi : Oper} {v : Value} {fuel : Nat} {listed : Array Bool} {a : Act} {w : World} (d : Option Tmp) (hi : ops[i]? = some oi) (hd : oi.dst = d)
    (hs : Region.noSelect ops = true) (hf : Region.free md ops listed i = true) (hr : (Region.ready md ops listed).contains i = true)
    (hQ : ∀ c a w, Q (.panic c) (a.put d v) w → Q (.panic c) a w) (hy : YieldsIf P ops S oi v a) (hS : S w)
    (h : wpAnyH P md ops Q S fuel (listed.setIfInBounds i true) (a.put d v) w) : wpAnyH P md ops Q S (fuel + 1) listed a w := by
  subst hd
  exact wpAnyH_take hi hs hf hr hQ hy hS h

/-! Three operations of two kinds: calls one behind the other, makings in whatever order -/
def rd3 (md : Region.Mode) (ops : Array Oper) (b1 b3 b5 b6 b7 b8 : Bool) : Bool :=
  let r := Region.ready md ops #[true, b1, true, b3, true, b5, b6, b7, b8, false, false, false]
  (b1 && b3 && b5 && b6 && b7 && b8) || (b3 && !b1) || (b5 && !b3) || (!r.isEmpty && r.all fun i => (i == 1 && !b1) || (i == 3 && (!b3 && b1)) || (i == 5 && (!b5 && b3)) || (i == 6 && !b6) || (i == 7 && !b7) || (i == 8 && !b8))
def all3 (md : Region.Mode) (ops : Array Oper) : Bool :=
  [true, false].all fun b1 => [true, false].all fun b3 => [true, false].all fun b5 => [true, false].all fun b6 => [true, false].all fun b7 => [true, false].all fun b8 => rd3 md ops b1 b3 b5 b6 b7 b8
theorem mem_tf (b : Bool) : b ∈ [true, false] := by cases b <;> simp
theorem rd3_of (h : all3 md ops = true) (b1 b3 b5 b6 b7 b8 : Bool) : rd3 md ops b1 b3 b5 b6 b7 b8 = true := by
  unfold all3 at h
  have h1 := List.all_eq_true.1 h b1 (mem_tf b1)
  have h2 := List.all_eq_true.1 h1 b3 (mem_tf b3)
  have h3 := List.all_eq_true.1 h2 b5 (mem_tf b5)
  have h4 := List.all_eq_true.1 h3 b6 (mem_tf b6)
  have h5 := List.all_eq_true.1 h4 b7 (mem_tf b7)
  exact List.all_eq_true.1 h5 b8 (mem_tf b8)
theorem ready3 (h : all3 md ops = true) {b1 b3 b5 b6 b7 b8 : Bool} (o1 : b3 = true → b1 = true) (o2 : b5 = true → b3 = true) (hn : (#[true, b1, true, b3, true, b5, b6, b7, b8, false, false, false] : Array Bool).toList.count false ≠ 3) :
    Region.ready md ops #[true, b1, true, b3, true, b5, b6, b7, b8, false, false, false] ≠ [] ∧
    ∀ i ∈ Region.ready md ops #[true, b1, true, b3, true, b5, b6, b7, b8, false, false, false], (i = 1 ∧ b1 = false) ∨ (i = 3 ∧ b3 = false ∧ b1 = true) ∨ (i = 5 ∧ b5 = false ∧ b3 = true) ∨ (i = 6 ∧ b6 = false) ∨ (i = 7 ∧ b7 = false) ∨ (i = 8 ∧ b8 = false) := by
  have hr := rd3_of h b1 b3 b5 b6 b7 b8
  unfold rd3 at hr
  have hb : (b1 && b3 && b5 && b6 && b7 && b8) = false := by
    rw [Bool.eq_false_iff]
    intro hb
    simp only [Bool.and_eq_true] at hb
    obtain ⟨⟨⟨⟨⟨rfl, rfl⟩, rfl⟩, rfl⟩, rfl⟩, rfl⟩ := hb
    exact hn (by decide)
  have h1 : (b3 && !b1) = false := by
    cases b3
    · rfl
    · rw [o1 rfl]; rfl
  have h2 : (b5 && !b3) = false := by
    cases b5
    · rfl
    · rw [o2 rfl]; rfl
  rw [hb, h1, h2] at hr
  simp only [Bool.false_or, Bool.and_eq_true, Bool.not_eq_true', List.all_eq_true, Bool.or_eq_true, beq_iff_eq] at hr
  refine ⟨fun e => by rw [e] at hr; simp at hr, fun i hi => ?_⟩
  have := hr.2 i hi
  simpa only [or_assoc] using this
theorem full3 {b1 b3 b5 b6 b7 b8 : Bool} (hn : (#[true, b1, true, b3, true, b5, b6, b7, b8, false, false, false] : Array Bool).toList.count false = 3) : b1 = true ∧ b3 = true ∧ b5 = true ∧ b6 = true ∧ b7 = true ∧ b8 = true := by
  revert hn
  revert b1 b3 b5 b6 b7 b8
  decide

/-! Four -/
def rd4 (md : Region.Mode) (ops : Array Oper) (b1 b3 b5 b7 b8 b9 b10 b11 : Bool) : Bool :=
  let r := Region.ready md ops #[true, b1, true, b3, true, b5, true, b7, b8, b9, b10, b11, false, false, false, false]
  (b1 && b3 && b5 && b7 && b8 && b9 && b10 && b11) || (b3 && !b1) || (b5 && !b3) || (b7 && !b5) || (!r.isEmpty && r.all fun i => (i == 1 && !b1) || (i == 3 && (!b3 && b1)) || (i == 5 && (!b5 && b3)) || (i == 7 && (!b7 && b5)) || (i == 8 && !b8) || (i == 9 && !b9) || (i == 10 && !b10) || (i == 11 && !b11))
def all4 (md : Region.Mode) (ops : Array Oper) : Bool :=
  [true, false].all fun b1 => [true, false].all fun b3 => [true, false].all fun b5 => [true, false].all fun b7 => [true, false].all fun b8 => [true, false].all fun b9 => [true, false].all fun b10 => [true, false].all fun b11 => rd4 md ops b1 b3 b5 b7 b8 b9 b10 b11
theorem rd4_of (h : all4 md ops = true) (b1 b3 b5 b7 b8 b9 b10 b11 : Bool) : rd4 md ops b1 b3 b5 b7 b8 b9 b10 b11 = true := by
  unfold all4 at h
  have h1 := List.all_eq_true.1 h b1 (mem_tf b1)
  have h2 := List.all_eq_true.1 h1 b3 (mem_tf b3)
  have h3 := List.all_eq_true.1 h2 b5 (mem_tf b5)
  have h4 := List.all_eq_true.1 h3 b7 (mem_tf b7)
  have h5 := List.all_eq_true.1 h4 b8 (mem_tf b8)
  have h6 := List.all_eq_true.1 h5 b9 (mem_tf b9)
  have h7 := List.all_eq_true.1 h6 b10 (mem_tf b10)
  exact List.all_eq_true.1 h7 b11 (mem_tf b11)
theorem ready4 (h : all4 md ops = true) {b1 b3 b5 b7 b8 b9 b10 b11 : Bool} (o1 : b3 = true → b1 = true) (o2 : b5 = true → b3 = true) (o3 : b7 = true → b5 = true) (hn : (#[true, b1, true, b3, true, b5, true, b7, b8, b9, b10, b11, false, false, false, false] : Array Bool).toList.count false ≠ 4) :
    Region.ready md ops #[true, b1, true, b3, true, b5, true, b7, b8, b9, b10, b11, false, false, false, false] ≠ [] ∧
    ∀ i ∈ Region.ready md ops #[true, b1, true, b3, true, b5, true, b7, b8, b9, b10, b11, false, false, false, false], (i = 1 ∧ b1 = false) ∨ (i = 3 ∧ b3 = false ∧ b1 = true) ∨ (i = 5 ∧ b5 = false ∧ b3 = true) ∨ (i = 7 ∧ b7 = false ∧ b5 = true) ∨ (i = 8 ∧ b8 = false) ∨ (i = 9 ∧ b9 = false) ∨ (i = 10 ∧ b10 = false) ∨ (i = 11 ∧ b11 = false) := by
  have hr := rd4_of h b1 b3 b5 b7 b8 b9 b10 b11
  unfold rd4 at hr
  have hb : (b1 && b3 && b5 && b7 && b8 && b9 && b10 && b11) = false := by
    rw [Bool.eq_false_iff]
    intro hb
    simp only [Bool.and_eq_true] at hb
    obtain ⟨⟨⟨⟨⟨⟨⟨rfl, rfl⟩, rfl⟩, rfl⟩, rfl⟩, rfl⟩, rfl⟩, rfl⟩ := hb
    exact hn (by decide)
  have h1 : (b3 && !b1) = false := by
    cases b3
    · rfl
    · rw [o1 rfl]; rfl
  have h2 : (b5 && !b3) = false := by
    cases b5
    · rfl
    · rw [o2 rfl]; rfl
  have h3 : (b7 && !b5) = false := by
    cases b7
    · rfl
    · rw [o3 rfl]; rfl
  rw [hb, h1, h2, h3] at hr
  simp only [Bool.false_or, Bool.and_eq_true, Bool.not_eq_true', List.all_eq_true, Bool.or_eq_true, beq_iff_eq] at hr
  refine ⟨fun e => by rw [e] at hr; simp at hr, fun i hi => ?_⟩
  have := hr.2 i hi
  simpa only [or_assoc] using this
theorem full4 {b1 b3 b5 b7 b8 b9 b10 b11 : Bool} (hn : (#[true, b1, true, b3, true, b5, true, b7, b8, b9, b10, b11, false, false, false, false] : Array Bool).toList.count false = 4) : b1 = true ∧ b3 = true ∧ b5 = true ∧ b7 = true ∧ b8 = true ∧ b9 = true ∧ b10 = true ∧ b11 = true := by
  cases b1 <;> cases b3 <;> cases b5 <;> (revert hn; revert b7 b8 b9 b10 b11; decide)
end
end Go.Proofs.Ytcpcmlonbpccnaa.Ri
