/- Walks over packages tree and gazetteerref02: the root of a list. -/
import Derived.Test.YteapfoadfjjicaaDoorTreeW3
import Derived.Laws.EntriesVeiled
namespace Go.Proofs.YteapfoadfjjicaaDoor.Dig
set_option linter.unusedVariables false
set_option linter.unusedSimpArgs false
open Go.RowKit
attribute [local go_sem ↓] Go.wp_at_zero Go.wp_at_succ

set_option maxHeartbeats 1000000 in
theorem root_none (a : Option Addr) (cap : Nat) (w : World) (ht : Tab w) :
    Calls Tryd.prog 81 #[.slice a 0 cap] w fun e w' => e = .returned (.string (rootB [])) ∧ Below w.heap.size w w' := by
  have hb1 := new_below w (.cells #[.slice a 0 cap] 41)
  go_enter Tryd.func81, Tryd.ntmps81
  go_wp2_with fail
  refine (empty_any _ (ht.below hb1)).mono ?_
  rintro e w1 ⟨rfl, hb2⟩
  go_wp2_with fail
  go_ret
  exact ⟨rfl, hb1.trans (hb2.mono (by simp))⟩

set_option maxRecDepth 100000 in
set_option maxHeartbeats 1000000 in
theorem root_some (l : List ByteArray) (b off cap : Nat) (hsm : small l) (w : World) (ht : Tab w) (h0 : 0 < l.length) (hm : l.length ≤ maxLen) (hbb : b < w.heap.size)
    (hc : ∀ i (h : i < l.length), w.cell? ⟨b, off + i, none⟩ = some (.string l[i])) :
    Calls Tryd.prog 81 #[.slice (some ⟨b, off, none⟩) l.length cap] w fun e w' => e = .returned (.string (rootB l)) ∧ Below w.heap.size w w' := by
  have hm' := hm
  unfold maxLen at hm'
  have hmf : ∀ (fn : Fn) (first cap : Array Value) (w : World), (Instr.makeFunc fn first cap).run Tryd.prog w = .ok (.func fn first cap) w := fun _ _ _ _ => rfl
  have hlz : ((l.length : Int) == 0) = false := by rw [beq_eq_false_iff_ne]; omega
  have Hc := Lib.hid hc
  clear hc
  go_enter Tryd.func81, Tryd.ntmps81
  go_wp2_with fail
  have hb2 : Below w.heap.size w ((w.alloc (.cells #[.slice (some ⟨b, off, none⟩) l.length cap] 41)).alloc (.cells #[.func (.func 105) #[] #[.pointer (some ⟨w.heap.size, 0, none⟩), .pointer (some ⟨w.heap.size + 1, 0, none⟩)]] 77)) :=
    (new_below w _).alloc (by simp) _
  have hk := clos_any _ l b off cap w.heap.size (w.heap.size + 1) hsm (ht.below hb2) hm (by simp; omega) (fun i hi => (hb2.cell (p := ⟨b, off + i, none⟩) hbb).trans (Hc.out i hi)) (by simp; omega) (by simp)
    (by rw [cell_of_row _ _ _ _ _ _ (heap_alloc2_old w _ _)]; rfl) (by rw [cell_of_row _ _ _ _ _ _ (heap_alloc2_new w _ _)]; rfl) l.length 0 l.length _ (Below.refl _ _) (by omega) (by omega) (by omega) (by omega)
  refine hk.mono ?_
  rintro e w1 ⟨rfl, hb3⟩
  have Hr := Lib.hid (congrArg rootB (seg_all l))
  go_wp2_with fail
  go_ret
  rw [Hr.out]
  exact ⟨rfl, hb2.trans (hb3.mono (by simp; omega))⟩

theorem root_on (W : World) (ht : Tab W) (v : Value) (l : List ByteArray) (hsm : small l) (hl : StrSl W v l) (w : World) (hb : Below W.heap.size W w) :
    Calls Tryd.prog 81 #[v] w fun e w' => e = .returned (.string (rootB l)) ∧ Below W.heap.size W w' := by
  have h2 : Calls Tryd.prog 81 #[v] w fun e w' => e = .returned (.string (rootB l)) ∧ Below w.heap.size w w' := by
    rcases hl.below hb with ⟨rfl, a, cap, rfl⟩ | ⟨b, off, cap, rfl, h0, hbb, hm, hc⟩
    · exact root_none a cap w (ht.below hb)
    · exact root_some l b off cap hsm w (ht.below hb) h0 (capLen hm) hbb hc
  exact h2.mono fun e w' ⟨he, h⟩ => ⟨he, hb.trans (h.mono hb.size)⟩

/-! ### Parts of slices -/

theorem StrSl.take {w : World} {b off cap : Nat} {l : List ByteArray} (h : StrSl w (.slice (some ⟨b, off, none⟩) l.length cap) l) (k : Nat) (hk : k ≤ l.length) : StrSl w (.slice (some ⟨b, off, none⟩) k cap) (l.take k) := by
  have hlen : (l.take k).length = k := by rw [List.length_take]; omega
  by_cases hz : k = 0
  · subst hz
    exact .inl ⟨rfl, _, _, rfl⟩
  · rcases h with ⟨rfl, a, cap', _⟩ | ⟨b', off', cap', he, h0, hbb, hm, hc⟩
    · simp at hk; omega
    · simp only [Value.slice.injEq, Option.some.injEq, Addr.mk.injEq, true_and, and_true] at he
      obtain ⟨⟨rfl, rfl⟩, rfl⟩ := he
      refine .inr ⟨b, off, cap, by rw [hlen], by omega, hbb, by omega, fun i hi => ?_⟩
      rw [hlen] at hi
      rw [hc i (by omega), List.getElem_take]

theorem StrSl.drop {w : World} {b off cap : Nat} {l : List ByteArray} (h : StrSl w (.slice (some ⟨b, off, none⟩) l.length cap) l) (k : Nat) (hk : k < l.length) : StrSl w (.slice (some ⟨b, off + k, none⟩) (l.length - k) (cap - k)) (l.drop k) := by
  have hlen : (l.drop k).length = l.length - k := List.length_drop
  rcases h with ⟨rfl, a, cap', _⟩ | ⟨b', off', cap', he, h0, hbb, hm, hc⟩
  · simp at hk
  · simp only [Value.slice.injEq, Option.some.injEq, Addr.mk.injEq, true_and, and_true] at he
    obtain ⟨⟨rfl, rfl⟩, rfl⟩ := he
    refine .inr ⟨b, off + k, _, by rw [hlen], by omega, hbb, by omega, fun i hi => ?_⟩
    rw [hlen] at hi
    rw [Nat.add_assoc, hc (k + i) (by omega), List.getElem_drop]


/-! ### The reference's root -/

theorem rnode_on (W : World) (a b : ByteArray) (h1 : a.size ≤ 1000) (h2 : b.size ≤ 1000) (w : World) (hb : Below W.heap.size W w) :
    Calls Tryd.prog 110 #[.string a, .string b] w fun e w' => e = .returned (.string (nodeB a b)) ∧ Below W.heap.size W w' :=
  (rnode_any a b h1 h2 w).mono fun e w' ⟨he, h⟩ => ⟨he, hb.trans (h.mono hb.size)⟩

set_option maxHeartbeats 1000000 in
theorem rroot_none (a : Option Addr) (cap : Nat) (w : World) :
    Calls Tryd.prog 84 #[.slice a 0 cap] w fun e w' => e = .returned (.string (rootB [])) ∧ Below w.heap.size w w' := by
  go_enter Tryd.func84, Tryd.ntmps84
  go_wp2_with fail
  refine (rempty_any _).mono ?_
  rintro e w1 ⟨rfl, hb2⟩
  go_wp2_with fail
  go_ret
  exact ⟨rfl, hb2⟩

set_option maxHeartbeats 1000000 in
theorem rroot_one (b off cap : Nat) (x : ByteArray) (w : World) (hc : w.cell? ⟨b, off, none⟩ = some (.string x)) :
    Calls Tryd.prog 84 #[.slice (some ⟨b, off, none⟩) 1 cap] w fun e w' => e = .returned (.string x) ∧ Below w.heap.size w w' := by
  go_enter Tryd.func84, Tryd.ntmps84
  go_wp2_with fail
  go_ret
  exact ⟨rfl, Below.refl _ _⟩

set_option maxRecDepth 100000 in
set_option maxHeartbeats 1000000 in
theorem rroot_on (W : World) (N : Nat) : ∀ (v : Value) (l : List ByteArray), l.length ≤ N → l.length ≤ 4611686018427387904 → small l → StrSl W v l → ∀ (w : World), Below W.heap.size W w →
    Calls Tryd.prog 84 #[v] w fun e w' => e = .returned (.string (rootB l)) ∧ Below W.heap.size W w' := by
  induction N with
  | zero =>
    intro v l hN hl63 hsm hl w hb
    rcases hl with ⟨rfl, a, cap, rfl⟩ | ⟨b, off, cap, rfl, h0, hbb, hm, hc⟩
    · exact (rroot_none a cap w).mono fun e w' ⟨he, h⟩ => ⟨he, hb.trans (h.mono hb.size)⟩
    · omega
  | succ N ih =>
    intro v l hN hl63 hsm hl w hb
    rcases hl with ⟨rfl, a, cap, rfl⟩ | ⟨b, off, cap, rfl, h0, hbb, hm, hc⟩
    · exact (rroot_none a cap w).mono fun e w' ⟨he, h⟩ => ⟨he, hb.trans (h.mono hb.size)⟩
    · have hsl : StrSl W (.slice (some ⟨b, off, none⟩) l.length cap) l := .inr ⟨b, off, cap, rfl, h0, hbb, hm, hc⟩
      by_cases h1 : l.length = 1
      · match l, h1, hc with
        | [x], _, hc =>
          have c0 := (hb.cell (p := ⟨b, off + 0, none⟩) hbb).trans (hc 0 (by simp))
          exact (rroot_one b off cap x w c0).mono fun e w' ⟨he, h⟩ => ⟨he, hb.trans (h.mono hb.size)⟩
      · have hz : ((l.length : Int) == 0) = false := by rw [beq_eq_false_iff_ne]; omega
        have ho : ((l.length : Int) == 1) = false := by rw [beq_eq_false_iff_ne]; omega
        have hh1 := half_lt l.length (by omega)
        have hh2 := half_pos l.length
        have Hn := Lib.hid (rootB_node l (by omega))
        obtain ⟨k, Hk⟩ : ∃ k : Nat, Hid (half l.length = k) := ⟨_, Lib.hid rfl⟩
        rw [Hk.out] at hh1 hh2 Hn
        have Ih1 := Lib.hid (ih (.slice (some ⟨b, off, none⟩) k cap) (l.take k) (by rw [List.length_take]; omega) (by rw [List.length_take]; omega) (hsm.take k) (hsl.take k (by omega)))
        have Ih2 := Lib.hid (ih (.slice (some ⟨b, off + k, none⟩) (l.length - k) (cap - k)) (l.drop k) (by rw [List.length_drop]; omega) (by rw [List.length_drop]; omega) (hsm.drop k) (hsl.drop k (by omega)))
        have hs1 := rootB_small _ (hsm.take k)
        have hs2 := rootB_small _ (hsm.drop k)
        clear ih hc hsl
        go_enter Tryd.func84, Tryd.ntmps84
        go_wp2_with fail
        refine (half_any _ (by omega) (by omega) _).mono ?_
        rintro e w1 ⟨rfl, rfl⟩
        rw [Int.toNat_natCast, Hk.out]
        unfold maxLen at hm
        have g0 : (0 : Int) ≤ (k : Int) := by omega
        have g1 : (k : Int) ≤ (l.length : Int) := by omega
        have g2 : (l.length : Int) ≤ (cap : Int) := by omega
        have g3 : (k : Int) ≤ (cap : Int) := by omega
        have g4 : ¬ cap = k := by omega
        go_wp2_with fail
        go_region_held3 (fun w' => Below W.heap.size W w') (first | exact hb.drew | assumption)
          (first
            | (go_at_call_of 84 (Value.slice (some ⟨b, off, none⟩) k cap); refine (Ih1.out _ (by first | assumption | exact hb.drew)).mono ?_; rintro e wn ⟨rfl, hbn⟩)
            | (go_at_call_of 84 (Value.slice (some ⟨b, off + k, none⟩) (l.length - k) (cap - k)); refine (Ih2.out _ (by first | assumption | exact hb.drew)).mono ?_; rintro e wn ⟨rfl, hbn⟩)
            | (go_at_call 110; refine (rnode_on W _ _ hs1 hs2 _ (by assumption)).mono ?_; rintro e wn ⟨rfl, hbn⟩))
        go_wp2_with fail
        go_ret
        rw [Hn.out]
        exact ⟨rfl, by assumption⟩

end Go.Proofs.YteapfoadfjjicaaDoor.Dig
