/- What PolygonCuts says of a valid ring that is cut between two of its points. -/
import Derived.Test.YtohkmkkcblbemaaPolJor
import Derived.Test.YtohkmkkcblbemaaJor2
namespace Go.Proofs.Ytohkmkkcblbemaa.Ge
set_option linter.unusedVariables false
set_option linter.unusedSimpArgs false
open Jr

/-- both parts -/
def bL (l : List Pl) (i k : Nat) : List Pl := (l.drop i).take (k + 1 - i)
def cL (l : List Pl) (i k : Nat) : List Pl := l.drop k ++ l.take (i + 1)
theorem bL_len {l : List Pl} {i k : Nat} (hk : k < l.length) : (bL l i k).length = k + 1 - i := by
  unfold bL
  rw [List.length_take, List.length_drop]
  omega
theorem cL_len {l : List Pl} {i k : Nat} (hi : i ≤ k) (hk : k < l.length) : (cL l i k).length = l.length - k + (i + 1) := by
  unfold cL
  rw [List.length_append, List.length_take, List.length_drop]
  omega
theorem fn_bL {l : List Pl} {i k : Nat} (hi : i ≤ k) (hk : k < l.length) {j : Nat} (hj : j ≤ k - i) : fn (bL l i k) j = fn l (i + j) := by
  have hl := bL_len (i := i) hk
  unfold fn
  rw [nth_lt (show j < (bL l i k).length by omega), nth_lt (show i + j < l.length by omega)]
  simp [bL]
theorem fn_cL {l : List Pl} {i k : Nat} (hi : i ≤ k) (hk : k < l.length) {j : Nat} (hj : j ≤ l.length - k + i) : fn (cL l i k) j = fn l (k + j) := by
  have hl := cL_len hi hk
  unfold fn
  rw [nth_lt (show j < (cL l i k).length by omega)]
  rcases Nat.lt_or_ge j (l.length - k) with m | m
  · rw [nth_lt (show k + j < l.length by omega)]
    unfold cL
    rw [List.getElem_append_left (by rw [List.length_drop]; exact m)]
    simp
  · have e : nth l (k + j) = nth l (k + j - l.length) := by
      have := nth_add l (k + j - l.length)
      rw [show k + j - l.length + l.length = k + j by omega] at this
      exact this
    rw [e, nth_lt (show k + j - l.length < l.length by omega)]
    unfold cL
    rw [List.getElem_append_right (by rw [List.length_drop]; exact m)]
    simp only [List.getElem_take, List.length_drop]
    congr 1
    omega
structure Cut (l : List Pl) (i k : Nat) (m1 m2 : Nat) : Prop where
  n : l.length = m1 + m2
  nb : (bL l i k).length = m1 + 1
  nc : (cL l i k).length = m2 + 1
  kk : k = i + m1
  b : ∀ j, j ≤ m1 → fn (bL l i k) j = fn l (i + j)
  b0 : fn (bL l i k) (m1 + 1) = fn l i
  c : ∀ j, j ≤ m2 → fn (cL l i k) j = fn l (i + m1 + j)
  c0 : fn (cL l i k) (m2 + 1) = fn l (i + m1)
theorem cut_mk {l : List Pl} {i k : Nat} (hi : i ≤ k) (hk : k < l.length) : Cut l i k (k - i) (l.length - k + i) := by
  have hb := bL_len (i := i) hk
  have hc := cL_len hi hk
  have e : i + (k - i) = k := by omega
  refine ⟨by omega, by omega, by omega, by omega, fun j hj => fn_bL hi hk hj, ?_, fun j hj => by rw [e]; exact fn_cL hi hk hj, ?_⟩
  · have h1 := fn_per (bL l i k) 0
    rw [hb, show 0 + (k + 1 - i) = k - i + 1 by omega] at h1
    rw [h1, fn_bL hi hk (by omega), Nat.add_zero]
  · have h1 := fn_per (cL l i k) 0
    rw [hc, show 0 + (l.length - k + (i + 1)) = l.length - k + i + 1 by omega] at h1
    rw [h1, fn_cL hi hk (by omega), e, Nat.add_zero]
theorem cut_twice {l : List Pl} {i k m1 m2 : Nat} (C : Cut l i k m1 m2) : areaS l = areaS (bL l i k) + areaS (cL l i k) := by
  rw [area_sm, area_sm, area_sm, C.nb, C.nc, C.n]
  have hper : ∀ j, fn l (j + (m1 + m2)) = fn l j := fun j => by rw [← C.n]; exact fn_per l j
  have h := cut_sum (fun x y : Int × Int => x.1 * y.2 - y.1 * x.2) (fun x y => by grind) C.b C.b0 C.c C.c0 (by rw [Nat.add_assoc]; exact hper i)
  have h2 := sm_shift (fun j => (fn l j).1 * (fn l (j + 1)).2 - (fn l (j + 1)).1 * (fn l j).2) (m1 + m2) (fun j => by rw [hper, show j + (m1 + m2) + 1 = j + 1 + (m1 + m2) by omega, hper]) i
  unfold area2
  rw [← h2]
  exact h
/-- sides that share an end, or do not meet, do not cross -/
theorem no_two {s t : Sd} (h : s.1 = t.1 ∨ s.1 = t.2 ∨ s.2 = t.1 ∨ s.2 = t.2) : crossS s t ≠ 2 := by
  have z1 : ∀ p q r : Int × Int, p = r ∨ q = r → areaN p.1 p.2 q.1 q.2 r.1 r.2 = 0 := fun p q r k => by
    rcases k with rfl | rfl
    · unfold areaN; grind
    · exact area_abb _ _ _ _
  unfold crossS crossV
  split
  · split
    · next k =>
      exfalso
      have k1 := k.1
      unfold apartB at k1
      rw [decide_eq_true_eq] at k1
      refine prod_zero ?_ k1
      rcases h with e | e | e | e
      · exact .inl (z1 _ _ _ (.inl e.symm))
      · exact .inl (z1 _ _ _ (.inr e.symm))
      · exact .inr (z1 _ _ _ (.inl e.symm))
      · exact .inr (z1 _ _ _ (.inr e.symm))
    · split <;> omega
  · omega
theorem free_two {s t : Sd} (h : freeB s t = true) : crossS s t ≠ 2 := by
  unfold freeB at h
  rw [Bool.or_eq_true, Bool.or_eq_true] at h
  rcases h with k | k | k
  · exact no_two (.inr (.inl (eq_of_beq k)))
  · exact no_two (.inr (.inr (.inl (eq_of_beq k).symm)))
  · rw [eq_of_beq k]; omega
theorem flip_two {s t : Sd} (hs : onS s) (ht : onS t) (h : freeB s t = true) : crossS (s.2, s.1) t ≠ 2 := by
  have e : crossS (s.2, s.1) t = crossS s t := cross_b hs.1 hs.2 ht.1 ht.2
  rw [e]
  exact free_two h
theorem sides_mem {l : List Pl} {s : Sd} (h : s ∈ sidesL l) : ∃ j, j < l.length ∧ s = (fn l j, fn l (j + 1)) := by
  obtain ⟨j, hj, rfl⟩ := List.mem_map.1 h
  exact ⟨j, List.mem_range.1 hj, rfl⟩
theorem cut_cross {l : List Pl} {i k m1 m2 : Nat} (h : validB l = true) (C : Cut l i k m1 m2) (hb : validB (bL l i k) = true) (hc : validB (cL l i k) = true) : crossingB (bL l i k) (cL l i k) = false := by
  rw [Bool.eq_false_iff]
  intro hx
  unfold crossingB at hx
  obtain ⟨s, hs, hx⟩ := List.any_eq_true.1 hx
  obtain ⟨t, ht, hx⟩ := List.any_eq_true.1 hx
  have hx := eq_of_beq hx
  have hnb := C.nb
  have hnc := C.nc
  have n3b := (valid_len hb).1
  have n3c := (valid_len hc).1
  have ons := onS_of (valid_on hb) hs
  have ont := onS_of (valid_on hc) ht
  obtain ⟨p, hp, es⟩ := sides_mem hs
  obtain ⟨r, hr, et⟩ := sides_mem ht
  rcases Nat.lt_or_ge p m1 with p1 | p1
  · have e1 : s = sideAt l (i + p) := by rw [es, C.b p (by omega), C.b (p + 1) (by omega)]; rfl
    rcases Nat.lt_or_ge r m2 with r1 | r1
    · have e2 : t = sideAt l (i + p + (m1 + r - p)) := by
        rw [et, C.c r (by omega), C.c (r + 1) (by omega), show i + p + (m1 + r - p) = i + m1 + r by omega]
        rfl
      have hf := free_all h (i := i + p) (k := m1 + r - p) (by omega) (by have := C.n; omega)
      rw [← e1, ← e2, free_symm] at hf
      exact free_two hf hx
    · obtain rfl : r = m2 := by omega
      -- the cut as a side of c is the opposite one of that of b
      have hf := free_all hb (i := p) (k := m1 - p) (by omega) (by omega)
      rw [show p + (m1 - p) = m1 by omega] at hf
      have e3 : sideAt (bL l i k) p = s := es.symm
      have e4 : sideAt (bL l i k) m1 = (t.2, t.1) := by
        rw [et]
        show (fn (bL l i k) m1, fn (bL l i k) (m1 + 1)) = _
        rw [C.b m1 (by omega), C.b0, C.c r (by omega), C.c0]
        have := fn_per l i
        rw [C.n, ← Nat.add_assoc] at this
        rw [this]
      rw [e3, e4] at hf
      have := flip_two (s := (t.2, t.1)) (t := s) ⟨ont.2, ont.1⟩ ons hf
      rw [cross_symm] at this
      exact this hx
  · obtain rfl : p = m1 := by omega
    have e1 : s = (fn l (i + p), fn l i) := by rw [es, C.b p (by omega), C.b0]
    rcases Nat.lt_or_ge r m2 with r1 | r1
    · have hf := free_all hc (i := r) (k := m2 - r) (by omega) (by omega)
      rw [show r + (m2 - r) = m2 by omega] at hf
      have e3 : sideAt (cL l i k) r = t := et.symm
      have e4 : sideAt (cL l i k) m2 = (s.2, s.1) := by
        rw [e1]
        show (fn (cL l i k) m2, fn (cL l i k) (m2 + 1)) = _
        rw [C.c m2 (by omega), C.c0]
        have := fn_per l i
        rw [C.n, ← Nat.add_assoc] at this
        rw [this]
      rw [e3, e4] at hf
      exact flip_two (s := (s.2, s.1)) (t := t) ⟨ons.2, ons.1⟩ ont hf hx
    · obtain rfl : r = m2 := by omega
      refine no_two (.inr (.inl ?_)) hx
      rw [e1, et, C.c0]
/-! ### middles -/
theorem end_pt {b : List Pl} {s : Sd} {p : Int × Int} (hp : p ∈ endsS b s) : ∃ t : Rat, 0 ≤ t ∧ t ≤ 1 ∧ cQ p = pt (cQ s.1) (cQ s.2) t := by
  rcases List.mem_append.1 ((ends_perm b s).mem_iff.1 hp) with hp | hp
  · have h := (List.mem_filter.1 hp).2
    unfold partedB ptB betB at h
    simp only [Bool.and_eq_true, decide_eq_true_eq] at h
    exact pt_has (decide_eq_true h.2.2.2.2.2)
  · rcases List.mem_cons.1 hp with rfl | hp
    · exact ⟨0, by grind, by grind, by rw [pt_zero]⟩
    · rw [List.mem_singleton.1 hp]
      exact ⟨1, by grind, by grind, by rw [pt_one]⟩
theorem mid_pt {a b p q : Int × Int} {t u : Rat} (h1 : cQ p = pt (cQ a) (cQ b) t) (h2 : cQ q = pt (cQ a) (cQ b) u) : hq (midP p q) = pt (cQ a) (cQ b) ((t + u) / 2) := by
  have x1 : (p.1 : Rat) = a.1 + t * (b.1 - a.1) := congrArg Prod.fst h1
  have x2 : (p.2 : Rat) = a.2 + t * (b.2 - a.2) := congrArg Prod.snd h1
  have y1 : (q.1 : Rat) = a.1 + u * (b.1 - a.1) := congrArg Prod.fst h2
  have y2 : (q.2 : Rat) = a.2 + u * (b.2 - a.2) := congrArg Prod.snd h2
  unfold hq midP pt cQ
  simp only [Rat.intCast_add, x1, x2, y1, y2]
  refine Prod.ext ?_ ?_ <;> show _ = _ <;> grind
/-- the middles are on the ring -/
theorem mid_on {a b : List Pl} {z : Int × Int} (hz : z ∈ midsL a b) : ¬ Off (PQ (fn a)) (hq z) := by
  obtain ⟨s, hs, hz⟩ := List.mem_flatMap.1 hz
  obtain ⟨j, hj, rfl⟩ := sides_mem hs
  obtain ⟨x, hx, rfl⟩ := List.mem_map.1 hz
  obtain ⟨p, q⟩ := x
  have hp := (List.of_mem_zip hx).1
  have hq' := List.mem_of_mem_tail (List.of_mem_zip hx).2
  obtain ⟨t, t0, t1, e1⟩ := end_pt hp
  obtain ⟨u, u0, u1, e2⟩ := end_pt hq'
  intro ho
  exact ho j ((t + u) / 2) (by grind) (by grind) (mid_pt e1 e2)
theorem fn_inj {l : List Pl} (h : validB l = true) : l.Nodup := by
  rw [List.Nodup, List.pairwise_iff_getElem]
  intro i j hi hj hij e
  have := fn_far h (i := i) (k := j - i) (by omega) (by omega)
  rw [show i + (j - i) = j by omega] at this
  unfold fn at this
  rw [nth_lt hi, nth_lt hj] at this
  exact this e.symm
/-- each side has a middle that is inside it -/
theorem mid_inside {a b : List Pl} (ha : validB a = true) (hb : validB b = true) {j : Nat} (hj : j < a.length) : ∃ z ∈ midsL a b, ∃ t : Rat, 0 < t ∧ t < 1 ∧ hq z = pt (PQ (fn a) j) (PQ (fn a) (j + 1)) t := by
  obtain ⟨s, hs⟩ : ∃ s, s = sideAt a j := ⟨_, rfl⟩
  have hne : s.1 ≠ s.2 := by rw [hs]; exact fun e => fn_ne ha j e.symm
  have hnd : (endsS b s).Nodup := by
    rw [(ends_perm b s).nodup_iff, List.nodup_append]
    refine ⟨(fn_inj hb).filter _, by simpa using hne, fun x hx y hy e => ?_⟩
    subst e
    have h := (List.mem_filter.1 hx).2
    unfold partedB ptB at h
    simp only [Bool.and_eq_true, decide_eq_true_eq] at h
    rcases List.mem_cons.1 hy with hy | hy
    · exact h.1 ⟨by rw [hy], by rw [hy]⟩
    · have hy := List.mem_singleton.1 hy
      exact h.2.1 ⟨by rw [hy], by rw [hy]⟩
  have hlen := ends_len b s
  rcases he : endsS b s with _ | ⟨p, _ | ⟨q, r⟩⟩
  · rw [he] at hlen; simp at hlen
  · rw [he] at hlen; simp at hlen
  · rw [he] at hnd
    have hpq : p ≠ q := by
      have := (List.nodup_cons.1 hnd).1
      intro e
      exact this (by rw [e]; exact List.mem_cons_self ..)
    obtain ⟨t, t0, t1, e1⟩ := end_pt (b := b) (s := s) (p := p) (by rw [he]; exact List.mem_cons_self ..)
    obtain ⟨u, u0, u1, e2⟩ := end_pt (b := b) (s := s) (p := q) (by rw [he]; exact List.mem_cons_of_mem _ (List.mem_cons_self ..))
    have htu : t ≠ u := fun e => hpq (cQ_inj (by rw [e1, e2, e]))
    refine ⟨midP p q, List.mem_flatMap.2 ⟨s, ?_, List.mem_map.2 ⟨(p, q), ?_, rfl⟩⟩, (t + u) / 2, by grind, by grind, ?_⟩
    · rw [hs]
      exact List.mem_map.2 ⟨j, List.mem_range.2 hj, rfl⟩
    · rw [he]
      exact List.mem_cons_self ..
    · have := mid_pt e1 e2
      rw [hs] at this
      exact this
theorem whereP_one {l : List Pl} (h : validB l = true) {z : Int × Int} (hz : whereP l z = 1) : Off (PQ (fn l)) (hq z) ∧ wn (PQ (fn l)) l.length (hq z) = 1 := by
  rw [whereP_wh h] at hz
  have hO : Off (PQ (fn l)) (hq z) := Classical.byContradiction fun k => by
    unfold wh at hz
    rw [if_neg k] at hz
    omega
  have := (wh_off (valid_ring h) (gg_valid h) hO).2.1
  exact ⟨hO, by omega⟩
theorem whereP_of {l : List Pl} (h : validB l = true) {z : Int × Int} (hO : Off (PQ (fn l)) (hq z)) : whereP l z = 2 * wn (PQ (fn l)) l.length (hq z) - 1 := by
  rw [whereP_wh h]
  exact (wh_off (valid_ring h) (gg_valid h) hO).2.1
end Go.Proofs.Ytohkmkkcblbemaa.Ge

/- What PolygonCuts says: the areas of both parts add up, what is inside one of them is inside the ring, and they are apart. -/
namespace Go.Proofs.Ytohkmkkcblbemaa.Ge
set_option linter.unusedVariables false
set_option linter.unusedSimpArgs false
open Jr

theorem pq_eq {l m : List Pl} {a b : Nat} (h : fn l a = fn m b) : PQ (fn l) a = PQ (fn m) b := congrArg cQ h
theorem mr_eq {l m : List Pl} {a b : Nat} (h : fn l a = fn m b) : mr (PQ (fn l)) a = mr (PQ (fn m)) b := congrArg (fun x => ng (cQ x)) h
theorem cut_add {l : List Pl} {i k m1 m2 : Nat} (h : validB l = true) (C : Cut l i k m1 m2) (q : Q2) :
    wn (PQ (fn l)) l.length q = wn (PQ (fn (bL l i k))) (bL l i k).length q + wn (PQ (fn (cL l i k))) (cL l i k).length q := by
  rw [C.nb, C.nc]
  exact cut_wn (valid_ring h) C.n (fun j hj => pq_eq (C.b j hj)) (pq_eq C.b0) (fun j hj => pq_eq (C.c j hj)) (pq_eq C.c0) q
theorem cut_addm {l : List Pl} {i k m1 m2 : Nat} (h : validB l = true) (C : Cut l i k m1 m2) (q : Q2) :
    wn (mr (PQ (fn l))) l.length q = wn (mr (PQ (fn (bL l i k)))) (bL l i k).length q + wn (mr (PQ (fn (cL l i k)))) (cL l i k).length q := by
  rw [C.nb, C.nc]
  exact cut_wn (valid_ring h).mr C.n (fun j hj => mr_eq (C.b j hj)) (mr_eq C.b0) (fun j hj => mr_eq (C.c j hj)) (mr_eq C.c0) q
/-- what is inside one part is off the other one, and inside the ring -/
theorem in_b {l : List Pl} {i k m1 m2 : Nat} (h : validB l = true) (C : Cut l i k m1 m2) (hb : validB (bL l i k) = true) (hc : validB (cL l i k) = true) {q : Q2}
    (hq : Off (PQ (fn (bL l i k))) q) (h1 : wn (PQ (fn (bL l i k))) (bL l i k).length q = 1) : Off (PQ (fn (cL l i k))) q ∧ wn (PQ (fn (cL l i k))) (cL l i k).length q = 0 ∧ wn (PQ (fn l)) l.length q = 1 :=
  cut_inner (valid_ring h) (valid_ring hb) (valid_ring hc) (gg_valid h) (gg_valid hb) (gg_valid hc) (cut_add h C) (cut_addm h C) hq h1
theorem in_c {l : List Pl} {i k m1 m2 : Nat} (h : validB l = true) (C : Cut l i k m1 m2) (hb : validB (bL l i k) = true) (hc : validB (cL l i k) = true) {q : Q2}
    (hq : Off (PQ (fn (cL l i k))) q) (h1 : wn (PQ (fn (cL l i k))) (cL l i k).length q = 1) : Off (PQ (fn (bL l i k))) q ∧ wn (PQ (fn (bL l i k))) (bL l i k).length q = 0 ∧ wn (PQ (fn l)) l.length q = 1 :=
  cut_inner (valid_ring h) (valid_ring hc) (valid_ring hb) (gg_valid h) (gg_valid hc) (gg_valid hb) (fun q => by rw [cut_add h C q]; omega) (fun q => by rw [cut_addm h C q]; omega) hq h1
/-- a side of the ring is one of a part -/
theorem off_cut {l : List Pl} {i k m1 m2 : Nat} (h : validB l = true) (C : Cut l i k m1 m2) {q : Q2} (hb : Off (PQ (fn (bL l i k))) q) (hc : Off (PQ (fn (cL l i k))) q) : Off (PQ (fn l)) q := by
  intro j s s0 s1 e
  have hl : 0 < l.length := by have := (valid_len h).1; omega
  -- j as a place from i on
  obtain ⟨r, hr, er⟩ : ∃ r, r < l.length ∧ (i + r) % l.length = j % l.length := by
    refine ⟨(j % l.length + (l.length - i % l.length)) % l.length, Nat.mod_lt _ hl, ?_⟩
    have h1 := Nat.mod_lt i hl
    have h2 := Nat.mod_add_div i l.length
    rw [Nat.add_mod, Nat.mod_mod, ← Nat.add_mod, show i + (j % l.length + (l.length - i % l.length)) = j % l.length + l.length * (i / l.length + 1) by rw [Nat.mul_add]; omega, Nat.add_mul_mod_self_left, Nat.mod_mod]
  have e1 : fn l j = fn l (i + r) := nth_congr er.symm
  have e2 : fn l (j + 1) = fn l (i + r + 1) := nth_congr (by rw [Nat.add_mod j 1, ← er, ← Nat.add_mod])
  rw [pq_eq e1, pq_eq e2] at e
  rcases Nat.lt_or_ge r m1 with k1 | k1
  · refine hb r s s0 s1 ?_
    rw [pq_eq (C.b r (by omega)), pq_eq (C.b (r + 1) (by omega))]
    exact e
  · have hn := C.n
    refine hc (r - m1) s s0 s1 ?_
    rw [pq_eq (C.c (r - m1) (by omega)), pq_eq (C.c (r - m1 + 1) (by omega)), show i + m1 + (r - m1) = i + r by omega, show i + m1 + (r - m1 + 1) = i + r + 1 by omega]
    exact e
theorem where_one {l : List Pl} (h : validB l = true) {x y : Int} (hw : whereV l x y = 1) : onP x y ∧ Off (PQ (fn l)) (cQ (x, y)) ∧ wn (PQ (fn l)) l.length (cQ (x, y)) = 1 := by
  have hp : onP x y := Classical.byContradiction fun k => by
    unfold whereV at hw
    rw [if_neg (fun q => k q.1)] at hw
    omega
  unfold whereV at hw
  rw [if_pos ⟨hp, h⟩] at hw
  have := whereP_one h hw
  rw [hq_cQ] at this
  exact ⟨hp, this⟩
theorem where_of {l : List Pl} (h : validB l = true) {x y : Int} (hp : onP x y) (hO : Off (PQ (fn l)) (cQ (x, y))) (hw : wn (PQ (fn l)) l.length (cQ (x, y)) = 1) : whereV l x y = 1 := by
  unfold whereV
  rw [if_pos ⟨hp, h⟩, whereP_of h (by rw [hq_cQ]; exact hO), hq_cQ, hw]
  rfl
theorem cut_where {l : List Pl} {i k m1 m2 : Nat} (h : validB l = true) (C : Cut l i k m1 m2) (hb : validB (bL l i k) = true) (hc : validB (cL l i k) = true) (x y : Int) :
    (whereV (bL l i k) x y = 1 → whereV l x y = 1) ∧ (whereV (cL l i k) x y = 1 → whereV l x y = 1) := by
  constructor
  · intro hw
    obtain ⟨hp, ho, h1⟩ := where_one hb hw
    obtain ⟨k1, -, k3⟩ := in_b h C hb hc ho h1
    exact where_of h hp (off_cut h C ho k1) k3
  · intro hw
    obtain ⟨hp, ho, h1⟩ := where_one hc hw
    obtain ⟨k1, -, k3⟩ := in_c h C hb hc ho h1
    exact where_of h hp (off_cut h C k1 ho) k3
theorem cut_apart {l : List Pl} {i k m1 m2 : Nat} (h : validB l = true) (C : Cut l i k m1 m2) (hb : validB (bL l i k) = true) (hc : validB (cL l i k) = true) : apartR (bL l i k) (cL l i k) = true := by
  have n3b := (valid_len hb).1
  have hnb := C.nb
  have r1 : reachesB (cL l i k) (bL l i k) 1 = false := by
    rw [Bool.eq_false_iff]
    intro hx
    unfold reachesB at hx
    obtain ⟨z, hz, hx⟩ := List.any_eq_true.1 hx
    obtain ⟨o, w⟩ := whereP_one hb (eq_of_beq hx)
    exact mid_on hz (in_b h C hb hc o w).1
  have r2 : reachesB (bL l i k) (cL l i k) (-1) = true := by
    unfold reachesB
    rw [List.any_eq_true]
    obtain ⟨z, hz, t, t0, t1, e⟩ := mid_inside hb hc (j := 0) (by omega)
    refine ⟨z, hz, ?_⟩
    -- it is off the other part
    have hO : Off (PQ (fn (cL l i k))) (hq z) := by
      intro j s s0 s1 e2
      rw [per_mod (valid_ring hc) j, per_mod' (valid_ring hc) j] at e2
      have hj := Nat.mod_lt j (show 0 < (cL l i k).length by have := C.nc; omega)
      generalize j % (cL l i k).length = r at *
      rw [C.nc] at hj
      rcases Nat.lt_or_ge r m2 with k1 | k1
      · -- a side of the ring, another one
        have e3 : pt (PQ (fn l) i) (PQ (fn l) (i + 1)) t = pt (PQ (fn l) (i + (m1 + r))) (PQ (fn l) (i + (m1 + r) + 1)) s := by
          rw [← Nat.add_assoc, ← pq_eq (C.c r (by omega)), show i + m1 + r + 1 = i + m1 + (r + 1) by omega, ← pq_eq (C.c (r + 1) (by omega)), ← e2, e, pq_eq (C.b 0 (by omega)), pq_eq (C.b (0 + 1) (by omega))]
          rfl
        rcases side_meets (valid_ring h) (by omega) (by have := C.n; omega) (by grind) (by grind) s0 s1 e3 with ⟨-, m⟩ | ⟨-, m⟩ <;> grind
      · -- the cut
        obtain rfl : r = m2 := by omega
        have hper := fn_per l i
        rw [C.n, ← Nat.add_assoc] at hper
        have e4 : pt (PQ (fn (bL l i k)) 0) (PQ (fn (bL l i k)) (0 + 1)) t = pt (PQ (fn (bL l i k)) (0 + m1)) (PQ (fn (bL l i k)) (0 + m1 + 1)) (1 - s) := by
          rw [← e, e2, pq_eq (C.c r (by omega)), pq_eq C.c0, Nat.zero_add, pq_eq (C.b m1 (by omega)), pq_eq C.b0, pq_eq hper]
          unfold pt
          refine Prod.ext ?_ ?_ <;> show _ = _ <;> grind
        rcases side_meets (valid_ring hb) (by omega) (by omega) (by grind) (by grind) (by grind) (by grind) e4 with ⟨-, m⟩ | ⟨-, m⟩ <;> grind
    have w := wn_01 (valid_ring hc) (gg_valid hc).1 (hq z)
    have hw : wn (PQ (fn (cL l i k))) (cL l i k).length (hq z) = 0 := by
      rcases w with w | w
      · exact w
      · exact absurd (in_c h C hb hc hO w).1 (mid_on hz)
    rw [whereP_of hc hO, hw]
    rfl
  unfold apartR
  rw [hb, hc, cut_cross h C hb hc, r1, r2]
  rfl
/-- what PolygonCuts asks -/
theorem cut_law {l : List Pl} {i k : Nat} (hi : i ≤ k) (hk : k < l.length) (h : validB l = true) (hb : validB (bL l i k) = true) (hc : validB (cL l i k) = true) (x y : Int) :
    (whereV (bL l i k) x y = 1 → whereV l x y = 1) ∧ (whereV (cL l i k) x y = 1 → whereV l x y = 1) ∧ apartR (bL l i k) (cL l i k) = true ∧ twiceV (bL l i k) + twiceV (cL l i k) = twiceV l := by
  have C := cut_mk hi hk
  obtain ⟨w1, w2⟩ := cut_where h C hb hc x y
  refine ⟨w1, w2, cut_apart h C hb hc, ?_⟩
  unfold twiceV
  rw [if_pos h, if_pos hb, if_pos hc]
  exact (cut_twice C).symm
end Go.Proofs.Ytohkmkkcblbemaa.Ge
