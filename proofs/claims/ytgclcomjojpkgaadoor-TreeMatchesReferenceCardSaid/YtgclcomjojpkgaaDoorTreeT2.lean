/- Walks over package gazetteerref02: Texts. -/
import Derived.Test.YtgclcomjojpkgaaDoorTreeT1
namespace Go.Proofs.YtgclcomjojpkgaaDoor.Dig
set_option linter.unusedVariables false
set_option linter.unusedSimpArgs false
open Go.RowKit
attribute [local go_sem ↓] Go.wp_at_zero Go.wp_at_succ

theorem OwnStr.mono {w : World} {B B' : Nat} {v : Value} {l : List ByteArray} (h : OwnStr w B v l) (hB : B' ≤ B) : OwnStr w B' v l := by
  refine ⟨h.1, ?_⟩
  rcases h.2 with h2 | ⟨g, cap, cur, hv, hb, r⟩
  · exact .inl h2
  · exact .inr ⟨g, cap, cur, hv, Nat.le_trans hB hb, r⟩

theorem OwnStr.ne {w : World} {B H : Nat} {v : Value} {l : List ByteArray} (h : OwnStr w B v l) (hH : w.heap.size ≤ H ∨ H < B) : v.ownBlock ≠ some H := by
  intro he
  have := World.ownsRow.lt h _ he
  omega
theorem StrSl.grown {w w' : World} {v : Value} {l : List ByteArray} {row : Option Nat} (h : StrSl w v l) (hg : w.grownBy w' row) (hne : ∀ g, v.ownBlock = some g → row ≠ some g) : StrSl w' v l := by
  rcases h with h | ⟨b, off, cap, rfl, h0, hlt, hm, hc⟩
  · exact .inl h
  · exact .inr ⟨b, off, cap, rfl, h0, Nat.lt_of_lt_of_le hlt hg.size, hm, fun i hi => (hg.cell_far ⟨b, off + i, none⟩ hlt (fun e => hne b rfl e.symm)).trans (hc i hi)⟩
theorem ne_slice {a : Addr} {n c : Nat} {row : Option Nat} (h : row ≠ some a.block) : ∀ g, (Value.slice (some a) n c).ownBlock = some g → row ≠ some g := by
  intro g hg
  simp only [Value.ownBlock, Option.some.injEq] at hg
  exact hg ▸ h

theorem sl1' (a : ByteArray) (w : World) : StrSl (w.alloc (.cells #[.string a] 9)) (.slice (some ⟨w.heap.size, 0, none⟩) 1 1) [a] := sl1 a w

set_option maxHeartbeats 1000000 in
theorem texts_none (a : Option Addr) (cap : Nat) (w : World) :
    Calls Tryd.prog 27 #[.slice a 0 cap] w (RetOwn w (textsB [])) := by
  have He := Lib.hid (show textsB [] = [joinT [wEmpty]] from rfl)
  rw [He.out]
  go_enter Tryd.func27, Tryd.ntmps27
  go_wp2_with fail
  refine (rjoined1 wEmpty wEmpty_le w).mono ?_
  rintro e w1 ⟨rfl, hb1⟩
  go_wp2_with fail
  go_ret
  exact ⟨_, rfl, OwnStr.lit _ _ _ hb1.size, hb1.alloc hb1.size _⟩

set_option maxHeartbeats 1000000 in
theorem texts_one (a : Option Addr) (cap : Nat) (x : ByteArray) (w : World) :
    Calls Tryd.prog 27 #[.slice a 1 cap] w (RetOwn w (textsB [x])) := by
  have He := Lib.hid (show textsB [x] = [] from rfl)
  rw [He.out]
  go_enter Tryd.func27, Tryd.ntmps27
  go_wp2_with fail
  go_ret
  exact ⟨_, rfl, OwnStr.nil _ _, Below.refl _ _⟩

set_option maxRecDepth 100000 in
set_option maxHeartbeats 2000000 in
theorem texts_any (N : Nat) : ∀ (v : Value) (l : List ByteArray) (w : World), l.length ≤ N → l.length ≤ 100000 → small l → StrSl w v l →
    Calls Tryd.prog 27 #[v] w (RetOwn w (textsB l)) := by
  induction N with
  | zero =>
    intro v l w hN hmax hsm hl
    rcases hl with ⟨rfl, a, cap, rfl⟩ | ⟨b, off, cap, rfl, h0, hbb, hm, hc⟩
    · exact texts_none a cap w
    · omega
  | succ N ih =>
    intro v l w hN hmax hsm hl
    rcases hl with ⟨rfl, a, cap, rfl⟩ | ⟨b, off, cap, rfl, h0, hbb, hm, hc⟩
    · exact texts_none a cap w
    · have hsl : StrSl w (.slice (some ⟨b, off, none⟩) l.length cap) l := .inr ⟨b, off, cap, rfl, h0, hbb, hm, hc⟩
      by_cases h1 : l.length = 1
      · obtain ⟨x, rfl⟩ := List.length_eq_one_iff.1 h1
        exact texts_one _ cap x w
      · have hz : ((l.length : Int) == 0) = false := by rw [beq_eq_false_iff_ne]; omega
        have ho : ((l.length : Int) == 1) = false := by rw [beq_eq_false_iff_ne]; omega
        have hh1 := half_lt l.length (by omega)
        have hh2 := half_pos l.length
        have Hn := Lib.hid (textsB_eq l)
        obtain ⟨k, Hk⟩ : ∃ k : Nat, Hid (half l.length = k) := ⟨_, Lib.hid rfl⟩
        rw [if_neg (by omega), if_neg h1, Hk.out] at Hn
        rw [Hk.out] at hh1 hh2
        have sl1 := hsl.take k (by omega)
        have sl2 := hsl.drop k (by omega)
        have e1 : (l.take k).length = k := by rw [List.length_take]; omega
        have e2 : (l.drop k).length = l.length - k := List.length_drop
        have Rt1 := Lib.hid (fun w1 b1 => rroot_on w l.length _ (l.take k) (by omega) (by omega) (hsm.take k) sl1 w1 b1)
        have Rt2 := Lib.hid (fun w1 b1 => rroot_on w l.length _ (l.drop k) (by omega) (by omega) (hsm.drop k) sl2 w1 b1)
        have Ih1 := Lib.hid (fun w1 s1 => ih (.slice (some ⟨b, off, none⟩) k cap) (l.take k) w1 (by omega) (by omega) (hsm.take k) s1)
        have Ih2 := Lib.hid (fun w1 s1 => ih (.slice (some ⟨b, off + k, none⟩) (l.length - k) (cap - k)) (l.drop k) w1 (by omega) (by omega) (hsm.drop k) s1)
        have hs1 := rootB_small _ (hsm.take k)
        have hs2 := rootB_small _ (hsm.drop k)
        have q1 := textsB_le (l.take k)
        have q2 := textsB_le (l.drop k)
        rw [e1] at q1
        rw [e2] at q2
        unfold maxLen at hm
        have g0 : (0 : Int) ≤ (k : Int) := by omega
        have g1 : (k : Int) ≤ (l.length : Int) := by omega
        have g2 : (l.length : Int) ≤ (cap : Int) := by omega
        have g3 : (k : Int) ≤ (cap : Int) := by omega
        have g4 : ¬ cap = k := by omega
        clear ih hc hsl h1 e1 e2
        have hb := Below.refl w.heap.size w
        go_enter Tryd.func27, Tryd.ntmps27
        go_wp2_with fail
        refine (half_any _ (by omega) (by omega) _).mono ?_
        rintro e w1 ⟨rfl, rfl⟩
        rw [Int.toNat_natCast, Hk.out]
        go_wp2_with fail
        go_region_held3 (fun w' => True) (exact trivial)
          (first
            | (go_at_call_of 35 (Value.slice (some ⟨b, off, none⟩) k cap); refine (Rt1.out _ hb.drew).mono ?_; rintro e w1 ⟨rfl, hb1⟩)
            | (go_at_call_of 35 (Value.slice (some ⟨b, off + k, none⟩) (l.length - k) (cap - k)); refine (Rt2.out _ hb1).mono ?_; rintro e w2 ⟨rfl, hb2⟩)
            | (go_at_call 53; refine (rjoined3 wNode _ _ wNode_le hs1 hs2 _).mono ?_; rintro e w3 ⟨rfl, hb3'⟩; have hb3 := hb2.trans (hb3'.mono hb2.size)))
        go_wp2_with fail
        go_region_held3 (fun w' => True) (exact trivial)
          (first
            | (go_at_call_of 27 (Value.slice (some ⟨b, off, none⟩) k cap); refine (Ih1.out _ (sl1.below (by first | exact hb3.drew | exact hb3.drew.alloc hb3.size _))).mono ?_; rintro e w4 ⟨u1, rfl, own1, hb4'⟩; have hb4 : Below w.heap.size w w4 := (by first | exact hb3.drew.trans (hb4'.mono hb3.size) | exact (hb3.drew.alloc hb3.size _).trans (hb4'.mono (by have := hb3.size; simp; omega))); have own1a : OwnStr w4 w.heap.size u1 (textsB (l.take k)) := own1.mono (by have := hb3.size; simp; omega))
            | (go_at_call_of 27 (Value.slice (some ⟨b, off + k, none⟩) (l.length - k) (cap - k)); refine (Ih2.out _ (sl2.below (by first | exact hb4 | exact hb4.alloc hb4.size _))).mono ?_; rintro e w5 ⟨u2, rfl, own2, hb5'⟩; have hb5 : Below w.heap.size w w5 := (by first | exact hb4.trans (hb5'.mono hb4.size) | exact (hb4.alloc hb4.size _).trans (hb5'.mono (by have := hb4.size; simp; omega))); have own1b : OwnStr w5 w.heap.size u1 (textsB (l.take k)) := (by first | exact own1a.below hb5' | exact (own1a.ofAlloc _).below hb5'))
            | ((refine step_append_str _ (by rfl) _ _ (by rfl) w.heap.size u1 u2 (textsB (l.take k)) (textsB (l.drop k)) (by rfl) (by rfl) (by first | exact own1b | exact own1b.ofAlloc _) (by first | exact own2.sl | exact (own2.ofAlloc _).sl) (by omega) (by have := hb5.size; first | exact this | (simp; omega)) ?_; intro v6 w6 own6 grow6 at6; have hb6 : Below w.heap.size w w6 := (by first | exact below_grow' own1b hb5 grow6 | exact below_grow' (own1b.ofAlloc _) (hb5.alloc hb5.size _) grow6)))
            | ((refine step_append_str _ (by rfl) _ _ (by rfl) w.heap.size v6 _ (textsB (l.take k) ++ textsB (l.drop k)) [joinT [wNode, rootB (l.take k), rootB (l.drop k)]] (by rfl) (by rfl) (by first | exact own6 | exact own6.ofAlloc _) (by first | exact sl1' _ w6 | exact (sl1' _ w5).grown grow6 (ne_slice (own1b.ne (.inl (Nat.le_refl _)))) | exact ((sl1' _ w4).below hb5').grown grow6 (ne_slice (own1a.ne (.inl (Nat.le_refl _)))) | exact (((sl1' _ w3.drew).below hb4').below hb5').grown grow6 (ne_slice (own1.ne (.inr (by simp))))) (by simp; omega) (by have := hb6.size; first | exact this | (simp; omega)) ?_; intro v7 w7 own7 grow7 at7)))
        all_goals go_wp2_with fail
        all_goals go_ret
        all_goals rw [Hn.out]
        all_goals first | exact ⟨_, rfl, own7, below_grow' own6 hb6 grow7⟩ | exact ⟨_, rfl, own7, below_grow' (own6.ofAlloc _) (hb6.alloc hb6.size _) grow7⟩

end Go.Proofs.YtgclcomjojpkgaaDoor.Dig
