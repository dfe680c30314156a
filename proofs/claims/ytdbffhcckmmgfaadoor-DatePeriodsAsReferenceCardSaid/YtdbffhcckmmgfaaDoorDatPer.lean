/- Periods, and the days that lists of them cover. -/
namespace Go.Proofs.YtdbffhcckmmgfaaDoor.Dt

abbrev Per := Int × Int
def propP (p : Per) : Prop := (0 ≤ p.1 ∧ p.1 ≤ 100000) ∧ (p.2 = -1 ∨ ((0 ≤ p.2 ∧ p.2 ≤ 100000) ∧ p.1 < p.2))
instance (p : Per) : Decidable (propP p) := by unfold propP; infer_instance
def endP (p : Per) : Int := if p.2 = -1 then 100001 else p.2
/-- the period covers the day -/
def inP (p : Per) (x : Int) : Prop := propP p ∧ p.1 ≤ x ∧ x < endP p
instance (p : Per) (x : Int) : Decidable (inP p x) := by unfold inP; infer_instance
def btw (f e : Int) : Per := (f, if 100000 < e then -1 else e)
theorem end_bd {p : Per} (h : propP p) : p.1 < endP p ∧ endP p ≤ 100001 := by
  unfold propP at h
  unfold endP
  split <;> omega
theorem end_btw {f e : Int} (h0 : 0 ≤ f) (h1 : f < e) (h2 : e ≤ 100001) : propP (btw f e) ∧ endP (btw f e) = e := by
  unfold btw propP endP
  by_cases h : 100000 < e
  · simp only [if_pos h]
    exact ⟨⟨⟨h0, by omega⟩, .inl trivial⟩, by rw [if_pos trivial]; omega⟩
  · simp only [if_neg h]
    exact ⟨⟨⟨h0, by omega⟩, .inr ⟨⟨by omega, by omega⟩, h1⟩⟩, by rw [if_neg (by omega)]⟩
theorem btw_self {p : Per} (h : propP p) : btw p.1 (endP p) = p := by
  obtain ⟨f, u⟩ := p
  unfold propP at h
  unfold btw endP
  simp only at h ⊢
  split
  · rename_i hu
    subst hu
    rw [if_pos (by omega)]
  · rw [if_neg (by omega)]
theorem per_ext {p q : Per} (hp : propP p) (hq : propP q) (h1 : p.1 = q.1) (h2 : endP p = endP q) : p = q := by
  rw [← btw_self hp, ← btw_self hq, h1, h2]
/-- what Common returns -/
def comV (p q : Per) : Per × Bool := if propP p ∧ propP q ∧ max p.1 q.1 < min (endP p) (endP q) then (btw (max p.1 q.1) (min (endP p) (endP q)), true) else ((0, 0), false)
theorem com_yes {p q : Per} (h : propP p ∧ propP q ∧ max p.1 q.1 < min (endP p) (endP q)) : comV p q = (btw (max p.1 q.1) (min (endP p) (endP q)), true) ∧ propP (btw (max p.1 q.1) (min (endP p) (endP q))) ∧ endP (btw (max p.1 q.1) (min (endP p) (endP q))) = min (endP p) (endP q) := by
  have a := end_bd h.1
  have b := end_bd h.2.1
  obtain ⟨c, d⟩ := end_btw (f := max p.1 q.1) (e := min (endP p) (endP q)) (by have := h.1.1; omega) h.2.2 (by omega)
  exact ⟨by unfold comV; rw [if_pos h], c, d⟩
theorem com_comm (p q : Per) : comV p q = comV q p := by
  unfold comV
  rw [Int.max_comm, Int.min_comm]
  by_cases h : propP p ∧ propP q ∧ max q.1 p.1 < min (endP q) (endP p)
  · rw [if_pos h, if_pos ⟨h.2.1, h.1, h.2.2⟩]
  · rw [if_neg h, if_neg (fun k => h ⟨k.2.1, k.1, k.2.2⟩)]
theorem com_iff (p q : Per) (x : Int) : (inP p x ∧ inP q x) ↔ ((comV p q).2 = true ∧ inP (comV p q).1 x) := by
  by_cases h : propP p ∧ propP q ∧ max p.1 q.1 < min (endP p) (endP q)
  · obtain ⟨e, a, b⟩ := com_yes h
    rw [e]
    unfold inP
    simp only [b, h.1, h.2.1, a, true_and]
    unfold btw
    simp only
    omega
  · have e : comV p q = ((0, 0), false) := by unfold comV; rw [if_neg h]
    rw [e]
    simp only [Bool.false_eq_true, false_and, iff_false]
    rintro ⟨⟨a1, a2, a3⟩, ⟨b1, b2, b3⟩⟩
    exact h ⟨a1, b1, by omega⟩
theorem com_some (p q : Per) : (comV p q).2 = true ↔ inP p (max p.1 q.1) ∧ inP q (max p.1 q.1) := by
  by_cases h : propP p ∧ propP q ∧ max p.1 q.1 < min (endP p) (endP q)
  · obtain ⟨e, a, b⟩ := com_yes h
    rw [e]
    unfold inP
    simp only [h.1, h.2.1, true_and, true_iff]
    omega
  · have e : comV p q = ((0, 0), false) := by unfold comV; rw [if_neg h]
    rw [e]
    simp only [Bool.false_eq_true, false_iff]
    rintro ⟨⟨a1, a2, a3⟩, ⟨b1, b2, b3⟩⟩
    exact h ⟨a1, b1, by omega⟩

/-! ### unions -/
/-- a list covers the day -/
def cov (l : List Per) (x : Int) : Prop := ∃ p ∈ l, inP p x
/-- proper periods in order that neither overlap nor touch -/
def canon (u : List Per) : Prop := (∀ p ∈ u, propP p) ∧ u.Pairwise fun p q => endP p < q.1
theorem cov_nil (x : Int) : ¬ cov [] x := by rintro ⟨p, h, _⟩; cases h
theorem cov_append (a b : List Per) (x : Int) : cov (a ++ b) x ↔ cov a x ∨ cov b x := by
  unfold cov
  constructor
  · rintro ⟨p, h, k⟩
    rcases List.mem_append.1 h with h | h
    · exact .inl ⟨p, h, k⟩
    · exact .inr ⟨p, h, k⟩
  · rintro (⟨p, h, k⟩ | ⟨p, h, k⟩)
    · exact ⟨p, List.mem_append_left _ h, k⟩
    · exact ⟨p, List.mem_append_right _ h, k⟩
theorem cov_one (p : Per) (x : Int) : cov [p] x ↔ inP p x := by
  unfold cov
  simp
theorem cov_mem {a b : List Per} (h : ∀ p, p ∈ a ↔ p ∈ b) (x : Int) : cov a x ↔ cov b x := by
  unfold cov
  constructor
  · rintro ⟨p, hp, k⟩; exact ⟨p, (h p).1 hp, k⟩
  · rintro ⟨p, hp, k⟩; exact ⟨p, (h p).2 hp, k⟩
theorem canon_cov_ge {p : Per} {u : List Per} (h : canon (p :: u)) {x : Int} (hx : cov u x) : endP p < x := by
  obtain ⟨q, hq, -, h1, -⟩ := hx
  have := (List.pairwise_cons.1 h.2).1 q hq
  omega
theorem canon_tail {p : Per} {u : List Per} (h : canon (p :: u)) : canon u := ⟨fun q hq => h.1 q (List.mem_cons_of_mem _ hq), (List.pairwise_cons.1 h.2).2⟩
theorem cov_cons (p : Per) (u : List Per) (x : Int) : cov (p :: u) x ↔ inP p x ∨ cov u x := by
  rw [show p :: u = [p] ++ u from rfl, cov_append, cov_one]
/-- the days that are covered tell the list -/
theorem canon_unique : ∀ (u v : List Per), canon u → canon v → (∀ x, cov u x ↔ cov v x) → u = v
  | [], [], _, _, _ => rfl
  | [], q :: v, _, hv, h => by
    have hq := hv.1 q List.mem_cons_self
    have := end_bd hq
    exact absurd ((h q.1).2 ((cov_cons _ _ _).2 (.inl ⟨hq, by omega, by omega⟩))) (cov_nil _)
  | p :: u, [], hu, _, h => by
    have hp := hu.1 p List.mem_cons_self
    have := end_bd hp
    exact absurd ((h p.1).1 ((cov_cons _ _ _).2 (.inl ⟨hp, by omega, by omega⟩))) (cov_nil _)
  | p :: u, q :: v, hu, hv, h => by
    have hp := hu.1 p List.mem_cons_self
    have hq := hv.1 q List.mem_cons_self
    have bp := end_bd hp
    have bq := end_bd hq
    have i1 : inP p p.1 := ⟨hp, by omega, by omega⟩
    have i2 : inP q q.1 := ⟨hq, by omega, by omega⟩
    have h1 : p.1 = q.1 := by
      have c1 : q.1 ≤ p.1 := by
        rcases (cov_cons _ _ _).1 ((h p.1).1 ((cov_cons _ _ _).2 (.inl i1))) with k | k
        · exact k.2.1
        · have := canon_cov_ge hv k; omega
      have c2 : p.1 ≤ q.1 := by
        rcases (cov_cons _ _ _).1 ((h q.1).2 ((cov_cons _ _ _).2 (.inl i2))) with k | k
        · exact k.2.1
        · have := canon_cov_ge hu k; omega
      omega
    have h2 : endP p = endP q := by
      have c1 : ¬ endP p < endP q := by
        intro hl
        rcases (cov_cons _ _ _).1 ((h (endP p)).2 ((cov_cons _ _ _).2 (.inl ⟨hq, by omega, by omega⟩))) with k | k
        · have := k.2.2; omega
        · have := canon_cov_ge hu k; omega
      have c2 : ¬ endP q < endP p := by
        intro hl
        rcases (cov_cons _ _ _).1 ((h (endP q)).1 ((cov_cons _ _ _).2 (.inl ⟨hp, by omega, by omega⟩))) with k | k
        · have := k.2.2; omega
        · have := canon_cov_ge hv k; omega
      omega
    obtain rfl := per_ext hp hq h1 h2
    have ht : u = v := by
      refine canon_unique u v (canon_tail hu) (canon_tail hv) fun x => ?_
      have hx := h x
      rw [cov_cons, cov_cons] at hx
      constructor
      · intro k
        have := canon_cov_ge hu k
        rcases hx.1 (.inr k) with j | j
        · have := j.2.2; omega
        · exact j
      · intro k
        have := canon_cov_ge hv k
        rcases hx.2 (.inr k) with j | j
        · have := j.2.2; omega
        · exact j
    rw [ht]
/-- u is the union of what C says is covered -/
def IsU (u : List Per) (C : Int → Prop) : Prop := canon u ∧ ∀ x, cov u x ↔ C x
theorem IsU.unique {u v : List Per} {C D : Int → Prop} (h : IsU u C) (k : IsU v D) (hCD : ∀ x, C x ↔ D x) : u = v :=
  canon_unique u v h.1 k.1 fun x => (h.2 x).trans ((hCD x).trans (k.2 x).symm)
theorem IsU.self {u : List Per} (h : canon u) : IsU u (cov u) := ⟨h, fun _ => Iff.rfl⟩

/-! ### the way to it: period by period, in the order of their first days -/
def addU (U : List Per) (p : Per) : List Per := match U.getLast? with
  | none => [p]
  | some x => if endP x < p.1 then U ++ [p] else U.dropLast ++ [btw x.1 (max (endP x) (endP p))]
theorem addU_nil (p : Per) : addU [] p = [p] := rfl
theorem addU_new {V : List Per} {x p : Per} (h : endP x < p.1) : addU (V ++ [x]) p = V ++ [x] ++ [p] := by
  unfold addU
  rw [List.getLast?_concat]
  simp only [if_pos h]
theorem addU_join {V : List Per} {x p : Per} (h : p.1 ≤ endP x) : addU (V ++ [x]) p = V ++ [btw x.1 (max (endP x) (endP p))] := by
  unfold addU
  rw [List.getLast?_concat]
  simp only [if_neg (Int.not_lt.2 h), List.dropLast_concat]
theorem list_last (U : List Per) : U = [] ∨ ∃ V x, U = V ++ [x] := by
  rcases List.eq_nil_or_concat U with h | ⟨V, x, h⟩
  · exact .inl h
  · exact .inr ⟨V, x, by rw [h, List.concat_eq_append]⟩
/-- U is the union of those before, which begin no later than p -/
theorem addU_ok {U : List Per} {C : Int → Prop} {p : Per} (h : IsU U C) (hp : propP p) (hle : ∀ q ∈ U, q.1 ≤ p.1) : IsU (addU U p) (fun x => C x ∨ inP p x) ∧ ∀ q ∈ addU U p, q.1 ≤ p.1 := by
  rcases list_last U with rfl | ⟨V, x, rfl⟩
  · rw [addU_nil]
    refine ⟨⟨⟨by simpa using hp, List.pairwise_singleton _ _⟩, fun y => ?_⟩, by simp⟩
    show _ ↔ C y ∨ inP p y
    rw [cov_one, ← h.2 y]
    exact ⟨fun k => .inr k, fun k => k.elim (fun k => absurd k (cov_nil _)) id⟩
  · have hx := h.1.1 x (by simp)
    have hV : ∀ q ∈ V, endP q < x.1 := fun q hq => (List.pairwise_append.1 h.1.2).2.2 q hq x (by simp)
    have hVp : V.Pairwise fun p q => endP p < q.1 := (List.pairwise_append.1 h.1.2).1
    have hxp := hle x (by simp)
    have bx := end_bd hx
    have bp := end_bd hp
    by_cases hn : endP x < p.1
    · rw [addU_new hn]
      refine ⟨⟨⟨fun q hq => ?_, ?_⟩, fun y => ?_⟩, fun q hq => ?_⟩
      · rcases List.mem_append.1 hq with k | k
        · exact h.1.1 q k
        · rw [List.mem_singleton.1 k]; exact hp
      · refine List.pairwise_append.2 ⟨h.1.2, List.pairwise_singleton _ _, fun q hq r hr => ?_⟩
        rw [List.mem_singleton.1 hr]
        rcases List.mem_append.1 hq with k | k
        · have := hV q k; omega
        · rw [List.mem_singleton.1 k]; exact hn
      · rw [cov_append, cov_one, h.2 y]
      · rcases List.mem_append.1 hq with k | k
        · exact hle q k
        · rw [List.mem_singleton.1 k]; exact Int.le_refl _
    · rw [addU_join (Int.not_lt.1 hn)]
      have hx0 := hx.1.1
      obtain ⟨c, d⟩ := end_btw (f := x.1) (e := max (endP x) (endP p)) hx0 (by omega) (by omega)
      refine ⟨⟨⟨fun q hq => ?_, ?_⟩, fun y => ?_⟩, fun q hq => ?_⟩
      · rcases List.mem_append.1 hq with k | k
        · exact h.1.1 q (by simp [k])
        · rw [List.mem_singleton.1 k]; exact c
      · refine List.pairwise_append.2 ⟨hVp, List.pairwise_singleton _ _, fun q hq r hr => ?_⟩
        rw [List.mem_singleton.1 hr]
        exact hV q hq
      · show _ ↔ C y ∨ inP p y
        have hy := h.2 y
        rw [cov_append, cov_one] at hy ⊢
        rw [← hy]
        have e : inP (btw x.1 (max (endP x) (endP p))) y ↔ inP x y ∨ inP p y := by
          unfold inP
          rw [d]
          simp only [c, hx, hp, true_and]
          show x.1 ≤ y ∧ y < _ ↔ _
          omega
        rw [e, or_assoc]
      · rcases List.mem_append.1 hq with k | k
        · exact hle q (by simp [k])
        · rw [List.mem_singleton.1 k]; exact hxp
/-- the reference's way of joining -/
theorem btw_max {x p : Per} (hx : propP x) (hp : propP p) : btw x.1 (max (endP x) (endP p)) = if endP x < endP p then (x.1, p.2) else x := by
  split
  · rename_i h
    rw [show max (endP x) (endP p) = endP p by omega]
    have e := btw_self hp
    unfold btw at e ⊢
    have e2 := congrArg Prod.snd e
    simp only at e2
    rw [e2]
  · rename_i h
    rw [show max (endP x) (endP p) = endP x by omega]
    exact btw_self hx

/-- all of a list in the order of their first days, one after the other -/
def foldU (l : List Per) : List Per := l.foldl addU []
theorem foldU_snoc (l : List Per) (p : Per) : foldU (l ++ [p]) = addU (foldU l) p := by
  unfold foldU
  rw [List.foldl_append]
  rfl
theorem foldU_ok : ∀ (n : Nat) (l : List Per), l.length = n → (∀ p ∈ l, propP p) → l.Pairwise (fun p q => p.1 ≤ q.1) → IsU (foldU l) (cov l) ∧ ∀ q ∈ foldU l, ∃ p ∈ l, q.1 ≤ p.1
  | 0, l, hl, _, _ => by
    obtain rfl := List.eq_nil_of_length_eq_zero hl
    exact ⟨⟨⟨by simp [foldU], List.Pairwise.nil⟩, fun _ => Iff.rfl⟩, by simp [foldU]⟩
  | n + 1, l, hl, hp, hs => by
    rcases list_last l with rfl | ⟨V, x, rfl⟩
    · simp at hl
    · obtain ⟨ih, ib⟩ := foldU_ok n V (by simpa using hl) (fun p h => hp p (by simp [h])) (List.pairwise_append.1 hs).1
      have hle : ∀ q ∈ foldU V, q.1 ≤ x.1 := by
        intro q hq
        obtain ⟨p, h1, h2⟩ := ib q hq
        have := (List.pairwise_append.1 hs).2.2 p h1 x (by simp)
        omega
      obtain ⟨a, b⟩ := addU_ok ih (hp x (by simp)) hle
      rw [foldU_snoc]
      refine ⟨⟨a.1, fun y => (a.2 y).trans ?_⟩, fun q hq => ⟨x, by simp, b q hq⟩⟩
      rw [cov_append, cov_one]
theorem foldU_len : ∀ (n : Nat) (l : List Per), l.length = n → (foldU l).length ≤ n
  | 0, l, hl => by
    obtain rfl := List.eq_nil_of_length_eq_zero hl
    exact Nat.le_refl _
  | n + 1, l, hl => by
    rcases list_last l with rfl | ⟨V, x, rfl⟩
    · simp at hl
    · have ih := foldU_len n V (by simpa using hl)
      rw [foldU_snoc]
      rcases list_last (foldU V) with e | ⟨W, z, e⟩
      · rw [e, addU_nil]; simp
      · by_cases h : endP z < x.1
        · rw [e, addU_new h, ← e]; simp; omega
        · rw [e, addU_join (Int.not_lt.1 h)]
          rw [e] at ih
          simp at ih ⊢
          omega
/-- at most one of a union covers a day -/
theorem canon_count : ∀ (u : List Per), canon u → ∀ x, (u.countP fun p => decide (inP p x)) = if (u.any fun p => decide (inP p x)) = true then 1 else 0
  | [], _, x => rfl
  | p :: u, h, x => by
    have ih := canon_count u (canon_tail h) x
    rw [List.countP_cons, List.any_cons, ih]
    by_cases hp : inP p x
    · have hno : ¬ (u.any fun p => decide (inP p x)) = true := by
        intro k
        obtain ⟨q, hq, k⟩ := List.any_eq_true.1 k
        have := canon_cov_ge h ⟨q, hq, by simpa using k⟩
        have := hp.2.2
        omega
      rw [if_neg hno]
      simp [hp]
    · have e : decide (inP p x) = false := by simp [hp]
      simp only [e, Bool.false_or, if_false, Nat.add_zero, Bool.false_eq_true]
theorem any_cov (u : List Per) (x : Int) : (u.any fun p => decide (inP p x)) = true ↔ cov u x := by
  rw [List.any_eq_true]
  unfold cov
  simp
theorem any_eq {u v : List Per} {x : Int} (h : cov u x ↔ cov v x) : (u.any fun p => decide (inP p x)) = (v.any fun p => decide (inP p x)) := by
  rw [Bool.eq_iff_iff, any_cov, any_cov]
  exact h
end Go.Proofs.YtdbffhcckmmgfaaDoor.Dt
