/- Plain mathematics of layer 10 (alphabet): how far a text has been read. No Go, no program. -/
import Derived.Test.YtcabhanmeookkaaDoorAlpMath2
namespace Go.Proofs.YtcabhanmeookkaaDoor.Al
set_option linter.unusedVariables false
set_option linter.unusedSimpArgs false

/-- the letters a have been read, up to place p -/
structure RdAt (L : List Bs) (t : Bs) (a : List Nat) (p : Nat) : Prop where
  at_ : p = (joinL L a).length
  le : p ≤ t.length
  fst : (rd L t).1 = a ++ (rd L (t.drop p)).1
  snd : (rd L t).2 = (rd L (t.drop p)).2
theorem RdAt.start (L : List Bs) (t : Bs) : RdAt L t [] 0 := ⟨rfl, Nat.zero_le _, by simp, by simp⟩
theorem at1_len {L : List Bs} {t : Bs} {i : Nat} (h : at1 L t = some i) : 0 < (ltA L i).length ∧ (ltA L i).length ≤ 3 ∧ (ltA L i).length ≤ t.length := by
  obtain ⟨a, b, c, d, e⟩ := hit_spec 3 h
  exact ⟨a, b, d⟩
theorem RdAt.next {L : List Bs} {t : Bs} {a : List Nat} {p i : Nat} (h : RdAt L t a p) (hi : at1 L (t.drop p) = some i) : RdAt L t (a ++ [i]) (p + (ltA L i).length) := by
  have h1 := at1_len hi
  have h2 := h.le
  rw [List.length_drop] at h1
  have h3 := rd_some hi
  refine ⟨?_, by omega, ?_, ?_⟩
  · rw [joinL_append, List.length_append, ← h.at_]
    show _ = p + (ltA L i ++ []).length
    rw [List.append_nil]
  · rw [h.fst, h3, List.append_assoc, List.drop_drop]; rfl
  · rw [h.snd, h3, List.drop_drop]
theorem RdAt.stop {L : List Bs} {t : Bs} {a : List Nat} {p : Nat} (h : RdAt L t a p) (hi : at1 L (t.drop p) = none) : rd L t = (a, t.drop p) := by
  have h1 := h.fst
  have h2 := h.snd
  rw [rd_none hi] at h1 h2
  simp only [List.append_nil] at h1
  exact Prod.ext h1 h2
theorem RdAt.count {L : List Bs} (F : Fine L) {t : Bs} {a : List Nat} {p : Nat} (h : RdAt L t a p) : a.length ≤ p := by
  rw [h.at_]
  exact (joinL_len F.prop a (fun i hi => (rd_spec L t).2.1 i (by rw [h.fst]; exact List.mem_append_left _ hi))).1
theorem RdAt.pre {L : List Bs} {t : Bs} {a : List Nat} {p i : Nat} (h : RdAt L t (a ++ [i]) p) : a.length + 1 ≤ (rd L t).1.length ∧ a ++ [i] = (rd L t).1.take (a.length + 1) := by
  rw [h.fst]
  refine ⟨by simp, ?_⟩
  rw [List.take_append_of_le_length (by simp), List.take_of_length_le (by simp)]
theorem at1_nil (L : List Bs) : at1 L [] = none := by simp [at1, hit]
theorem hit_more {L : List Bs} {t : Bs} : ∀ (k : Nat), t.length ≤ k → hit L t k = hit L t t.length
  | 0, h => by have : t.length = 0 := by omega
               rw [this]
  | k + 1, h => by
    by_cases e : t.length = k + 1
    · rw [e]
    · have h2 : hit L t (k + 1) = hit L t k := by
        conv => lhs; unfold hit
        rw [if_neg]
        rintro ⟨h3, _⟩
        omega
      rw [h2]
      exact hit_more k (by omega)
theorem hit_min (L : List Bs) (t : Bs) : at1 L t = hit L t (min 3 t.length) := by
  unfold at1
  by_cases h : t.length ≤ 3
  · rw [hit_more 3 h, Nat.min_eq_right h]
  · rw [Nat.min_eq_left (by omega)]
theorem hit_yes {L : List Bs} {t : Bs} {k : Nat} (h1 : k + 1 ≤ t.length) (h : L.contains (t.take (k + 1)) = true) : hit L t (k + 1) = some (idxA L (t.take (k + 1))) := by
  unfold hit; rw [if_pos ⟨h1, h⟩]
theorem hit_no {L : List Bs} {t : Bs} {k : Nat} (h : L.contains (t.take (k + 1)) = false) : hit L t (k + 1) = hit L t k := by
  conv => lhs; unfold hit
  rw [if_neg (fun hc => by rw [h] at hc; cases hc.2)]

/-- places and letters, one after the other -/
def plc (L : List Bs) (a : List Nat) : List (Nat × Nat) := (List.range a.length).map fun k => ((joinL L (a.take k)).length, a.getD k 0)
theorem plc_snoc (L : List Bs) (a : List Nat) (i : Nat) : plc L (a ++ [i]) = plc L a ++ [((joinL L a).length, i)] := by
  unfold plc
  rw [List.length_append, List.length_singleton, List.range_succ, List.map_append]
  congr 1
  · refine List.map_congr_left fun k hk => ?_
    rw [List.mem_range] at hk
    simp only [Prod.mk.injEq]
    refine ⟨by rw [List.take_append_of_le_length (by omega)], ?_⟩
    rw [List.getD_eq_getElem?_getD, List.getD_eq_getElem?_getD, List.getElem?_append_left hk]
  · simp
theorem plc_len (L : List Bs) (a : List Nat) : (plc L a).length = a.length := by simp [plc]
theorem plc_snd (L : List Bs) (a : List Nat) : (plc L a).map (·.2) = a := by
  apply List.ext_getElem
  · simp [plc]
  · intro i h1 h2
    simp [plc, h2]
theorem plc_at (L : List Bs) (a : List Nat) (k : Nat) (h : k < a.length) : (plc L a)[k]? = some ((joinL L (a.take k)).length, a[k]) := by
  unfold plc
  rw [List.getElem?_map, List.getElem?_range h]
  simp [h]
end Go.Proofs.YtcabhanmeookkaaDoor.Al
