/- Walks over package tree: rootOf and its closure. -/
import Derived.Test.YteapfoadfjjicaaDoorTreeW2
import Derived.Deep.RegionHeld3
import Derived.Deep.DeepMust
import Derived.Deep.DrawnRows
namespace Go.Proofs.YteapfoadfjjicaaDoor.Dig
set_option linter.unusedVariables false
set_option linter.unusedSimpArgs false
open Go.RowKit
attribute [local go_sem ↓] Go.wp_at_zero Go.wp_at_succ

/-- the elements from f on, before t -/
def seg (l : List ByteArray) (f t : Nat) : List ByteArray := (l.drop f).take (t - f)
theorem seg_length (l : List ByteArray) (f t : Nat) (h : t ≤ l.length) : (seg l f t).length = t - f := by
  unfold seg
  rw [List.length_take, List.length_drop]
  omega
theorem seg_one (l : List ByteArray) (f t : Nat) (h : t = f + 1) (hf : f < l.length) : rootB (seg l f t) = l[f] := by
  subst h
  unfold seg
  rw [List.drop_eq_getElem_cons hf, show f + 1 - f = 1 by omega]
  rfl
theorem seg_node (l : List ByteArray) (f t k : Nat) (ht : t ≤ l.length) (h2 : 2 ≤ t - f) (hk : k = half (t - f)) : nodeB (rootB (seg l f (f + k))) (rootB (seg l (f + k) t)) = rootB (seg l f t) := by
  have h1 := half_lt (t - f) h2
  have h3 := half_pos (t - f)
  subst hk
  rw [rootB_node (seg l f t) (by rw [seg_length l f t ht]; exact h2), seg_length l f t ht]
  unfold seg
  rw [List.take_take, Nat.min_eq_left (by omega), List.drop_take, List.drop_drop, show f + half (t - f) - f = half (t - f) by omega, show t - f - half (t - f) = t - (f + half (t - f)) by omega]
theorem seg_all (l : List ByteArray) : seg l 0 l.length = l := by simp [seg]

theorem rootB_small (l : List ByteArray) (h : small l) : (rootB l).size ≤ 1000 := by
  rw [rootB_eq, rootStep]
  split
  · rw [emptyB, lsum_size]; decide
  · split
    · match l, h with
      | [x], h => exact h x (by simp)
      | _ :: _ :: _, _ => simp at *
      | [], _ => simp at *
    · rw [nodeB_size]; decide
theorem seg_small {l : List ByteArray} (h : small l) (f t : Nat) : small (seg l f t) := (h.drop f).take _

/-- node, over a world that has grown out of W -/
theorem node_on (W : World) (ht : Tab W) (a b : ByteArray) (h1 : a.size ≤ 1000) (h2 : b.size ≤ 1000) (w : World) (hb : Below W.heap.size W w) :
    Calls Tryd.prog 107 #[.string a, .string b] w fun e w' => e = .returned (.string (nodeB a b)) ∧ Below W.heap.size W w' :=
  (node_any a b h1 h2 w (ht.below hb)).mono fun e w' ⟨he, h⟩ => ⟨he, hb.trans (h.mono hb.size)⟩

set_option maxRecDepth 100000 in
set_option maxHeartbeats 1000000 in
theorem clos_any (W : World) (l : List ByteArray) (b off cap bl br : Nat) (hsm : small l) (ht : Tab W) (hm : l.length ≤ maxLen) (hbb : b < W.heap.size)
    (hc : ∀ i (h : i < l.length), W.cell? ⟨b, off + i, none⟩ = some (.string l[i])) (hbl : bl < W.heap.size) (hbr : br < W.heap.size)
    (c1 : W.cell? ⟨bl, 0, none⟩ = some (.slice (some ⟨b, off, none⟩) l.length cap))
    (c2 : W.cell? ⟨br, 0, none⟩ = some (.func (.func 105) #[] #[.pointer (some ⟨bl, 0, none⟩), .pointer (some ⟨br, 0, none⟩)])) (N : Nat) :
    ∀ (f t : Int) (w : World), Below W.heap.size W w → 0 ≤ f → f < t → t ≤ l.length → t - f ≤ N →
    Calls Tryd.prog 105 #[.int .i64 f, .int .i64 t, .pointer (some ⟨bl, 0, none⟩), .pointer (some ⟨br, 0, none⟩)] w
      fun e w' => e = .returned (.string (rootB (seg l f.toNat t.toNat))) ∧ Below W.heap.size W w' := by
  unfold maxLen at hm
  induction N with
  | zero => intro f t w _ _ _ _ _; omega
  | succ N ih =>
    intro f t w hb h0 hft htl hN
    have c1w : w.cell? ⟨bl, 0, none⟩ = some (.slice (some ⟨b, off, none⟩) l.length cap) := (hb.cell (p := ⟨bl, 0, none⟩) hbl).trans c1
    by_cases h1 : t - f = 1
    · have hfl : f.toNat < l.length := by omega
      have ck : w.cell? ⟨b, off + f.toNat, none⟩ = some (.string l[f.toNat]) := (hb.cell (p := ⟨b, off + f.toNat, none⟩) hbb).trans (hc f.toNat hfl)
      have hone : (t - f == 1) = true := by simp; exact h1
      have Hs := Lib.hid (seg_one l f.toNat t.toNat (by omega) hfl)
      obtain ⟨x, Hx⟩ : ∃ x, Hid (x = l[f.toNat]) := ⟨_, Lib.hid rfl⟩
      rw [← Hx.out] at ck
      clear hc c1 c2 h1 ih
      go_enter Tryd.func105, Tryd.ntmps105
      go_wp2_with fail
      go_ret
      rw [Hs.out, Hx.out]
      exact ⟨rfl, hb⟩
    · have hne : (t - f == 1) = false := by simp; exact h1
      have hh1 := half_lt (t - f).toNat (by omega)
      have hh2 := half_pos (t - f).toNat
      have Hn := Lib.hid (fun k => seg_node l f.toNat t.toNat k (by omega) (by omega))
      have c2w : w.cell? ⟨br, 0, none⟩ = some (.func (.func 105) #[] #[.pointer (some ⟨bl, 0, none⟩), .pointer (some ⟨br, 0, none⟩)]) := (hb.cell (p := ⟨br, 0, none⟩) hbr).trans c2
      have s1 := fun g u => rootB_small _ (seg_small hsm g u)
      have Ih := Lib.hid ih
      have Hsm := Lib.hid s1
      have Hc2 := Lib.hid c2
      clear hc c1 c2 h1 ih s1
      go_enter Tryd.func105, Tryd.ntmps105
      go_wp2_with fail
      refine (split_any (t - f) (by omega) (by omega) _).mono ?_
      rintro e w1 ⟨rfl, rfl⟩
      obtain ⟨k, Hk⟩ : ∃ k : Nat, Hid (k = half (t - f).toNat) := ⟨_, Lib.hid rfl⟩
      rw [← Hk.out] at hh1 hh2 ⊢
      go_wp2_with fail
      go_region_held3 (fun w' => w'.cell? ⟨br, 0, none⟩ = some (.func (.func 105) #[] #[.pointer (some ⟨bl, 0, none⟩), .pointer (some ⟨br, 0, none⟩)]) ∧ Below W.heap.size W w')
        (first | exact ⟨(Below.cell (p := ⟨br, 0, none⟩) hb.drew hbr).trans Hc2.out, hb.drew⟩ | exact ⟨(Below.cell (p := ⟨br, 0, none⟩) (by assumption) hbr).trans Hc2.out, by assumption⟩)
        (first
          | (go_at_call 105; refine (Ih.out _ _ _ (by first | assumption | exact hb.drew) (by omega) (by omega) (by omega) (by omega)).mono ?_; rintro e wn ⟨rfl, hbn⟩)
          | (go_at_call 107; refine (node_on W ht _ _ (Hsm.out _ _) (Hsm.out _ _) _ (by assumption)).mono ?_; rintro e wn ⟨rfl, hbn⟩))
      go_wp2_with fail
      go_ret
      have e1 : (f + (k : Int)).toNat = f.toNat + k := by omega
      rw [e1, Hn.out k (by have e := Hk.out; rw [show t.toNat - f.toNat = (t - f).toNat by omega]; exact e)]
      exact ⟨rfl, by assumption⟩

end Go.Proofs.YteapfoadfjjicaaDoor.Dig
