/- Walks over packages tree and gazetteerref02: the path of an element. -/
import Derived.Test.YteapfoadfjjicaaDoorTreeW4
import Derived.Deep.AppendLies
import Derived.IntWalk
namespace Go.Proofs.YteapfoadfjjicaaDoor.Dig
set_option linter.unusedVariables false
set_option linter.unusedSimpArgs false
open Go.RowKit
attribute [local go_sem ↓] Go.wp_at_zero Go.wp_at_succ

theorem infoS : (Tryd.prog.info? 9).map (fun i => (i.zero, i.size, i.bytes)) = some (some (.string ⟨#[]⟩), 1, 16) := by kernel_rfl

/-- v is a slice of the call's own (its block is B or a later one), which has just these strings -/
def OwnStr (w : World) (B : Nat) (v : Value) (l : List ByteArray) : Prop := w.ownsRow B 9 1 v l.length (l.map Value.string)
theorem grown_of_below {w w' : World} (h : Below w.heap.size w w') (row : Option Nat) : w.grownBy w' row := ⟨h.os, h.tape, h.output, h.size, fun i hi _ => h.block i hi⟩
theorem OwnStr.below {w w' : World} {B : Nat} {v : Value} {l : List ByteArray} (h : OwnStr w B v l) (hb : Below w.heap.size w w') : OwnStr w' B v l := by
  have hg := grown_of_below hb (some w.heap.size)
  refine World.ownsRow.kept h hg ?_
  right
  intro he
  have := (World.ownsRow.lt h _ he).2
  omega
theorem OwnStr.nil (w : World) (B : Nat) : OwnStr w B (.slice none 0 0) [] := World.ownsRow_nil w B _ 1
theorem OwnStr.sl {w : World} {B : Nat} {v : Value} {l : List ByteArray} (h : OwnStr w B v l) : StrSl w v l := by
  have h' := h
  rcases h.2 with ⟨rfl, hn⟩ | ⟨g, cap, cur, rfl, hb, hg, hnc, hcm, hs, ht⟩
  · exact .inl ⟨List.eq_nil_of_length_eq_zero hn, _, _, rfl⟩
  · by_cases h0 : l.length = 0
    · rw [h0]
      exact .inl ⟨List.eq_nil_of_length_eq_zero h0, _, _, rfl⟩
    · refine .inr ⟨g, 0, cap, rfl, by omega, (World.ownsRow.lt h' g rfl).2, ⟨hnc, hcm⟩, fun i hi => ?_⟩
      have hc := World.ownsRow.cellAt h' i (by omega)
      rw [Nat.zero_add, hc]
      simp [hi]
theorem OwnStr.snoc {w : World} {B g cap n : Nat} {l : List ByteArray} {x : ByteArray} (hn : n = l.length + 1) (h : w.ownsRow B 9 1 (.slice (some ⟨g, 0, none⟩) n cap) n (l.map Value.string ++ [Value.string x])) :
    OwnStr w B (.slice (some ⟨g, 0, none⟩) n cap) (l ++ [x]) := by
  subst hn
  unfold OwnStr
  rw [List.length_append, List.map_append]
  exact h

/-- what hands back a list of the call's own -/
def RetOwn (W : World) (l : List ByteArray) (e : Ending) (w' : World) : Prop := ∃ u, e = .returned u ∧ OwnStr w' W.heap.size u l ∧ Below W.heap.size W w'

theorem depth_le (N : Nat) : ∀ (n i : Nat), n ≤ N → depth n i ≤ n := by
  induction N with
  | zero => intro n i hn; rw [depth_eq, if_pos (by omega)]; omega
  | succ N ih =>
    intro n i hn
    rw [depth_eq]
    by_cases h1 : n ≤ 1
    · rw [if_pos h1]; omega
    · have k1 := half_lt n (by omega)
      have k2 := half_pos n
      rw [if_neg h1]
      by_cases h2 : i < half n
      · rw [if_pos h2]
        have := ih (half n) i (by omega)
        omega
      · rw [if_neg h2]
        have := ih (n - half n) (i - half n) (by omega)
        omega
theorem pathB_le (l : List ByteArray) (i : Nat) : (pathB l i).length ≤ l.length := by
  rw [pathB_length l.length l i (Nat.le_refl _)]
  exact depth_le l.length l.length i (Nat.le_refl _)

/-- rootOf, at the world where it stands -/
theorem root_any (v : Value) (l : List ByteArray) (hsm : small l) (w : World) (ht : Tab w) (hl : StrSl w v l) :
    Calls Tryd.prog 81 #[v] w fun e w' => e = .returned (.string (rootB l)) ∧ Below w.heap.size w w' :=
  root_on w ht v l hsm hl w (Below.refl _ _)

theorem below_app {W w2 w4 : World} {u : Value} {p : List ByteArray} {o : Obj} (own : OwnStr w2 W.heap.size u p) (hb : Below W.heap.size W w2) (hg : (w2.alloc o).grownBy w4 u.ownBlock) : Below W.heap.size W w4 :=
  (hb.alloc hb.size o).grown hg (by have := hb.size; simp; omega) (fun k hk => (World.ownsRow.lt own k hk).1)

set_option maxRecDepth 100000 in
set_option maxHeartbeats 1000000 in
theorem path_on (W : World) (ht : Tab W) (N : Nat) : ∀ (v : Value) (l : List ByteArray) (i : Int), l.length ≤ N → l.length ≤ 1000000 → small l → StrSl W v l → 0 ≤ i → i < l.length → ∀ (w : World), Below W.heap.size W w →
    Calls Tryd.prog 86 #[v, .int .i64 i] w (RetOwn W (pathB l i.toNat)) := by
  obtain ⟨i0, hi, hz0, hz1, hz2⟩ := info_parts infoS
  induction N with
  | zero => intro v l i hN _ _ _ _ hi; omega
  | succ N ih =>
    intro v l i hN hl63 hsm hl hi0 hil w hb
    rcases hl with ⟨rfl, a, cap, rfl⟩ | ⟨b, off, cap, rfl, h0, hbb, hm, hc⟩
    · simp at hil; omega
    · have hsl : StrSl W (.slice (some ⟨b, off, none⟩) l.length cap) l := .inr ⟨b, off, cap, rfl, h0, hbb, hm, hc⟩
      clear hc
      unfold maxLen at hm
      by_cases h1 : l.length = 1
      · have Hp := Lib.hid (show pathB l i.toNat = [] by rw [pathB_eq, if_pos (by omega)])
        have ho : ((l.length : Int) == 1) = true := by rw [beq_iff_eq]; omega
        clear h1 ih
        go_enter Tryd.func86, Tryd.ntmps86
        go_wp2_with fail
        go_ret
        exact ⟨_, rfl, by rw [Hp.out]; exact OwnStr.nil _ _, hb⟩
      · have ho : ((l.length : Int) == 1) = false := by rw [beq_eq_false_iff_ne]; omega
        have hh1 := half_lt l.length (by omega)
        have hh2 := half_pos l.length
        have Hp := Lib.hid (pathB_eq l i.toNat)
        obtain ⟨k, Hk⟩ : ∃ k : Nat, Hid (half l.length = k) := ⟨_, Lib.hid rfl⟩
        rw [Hk.out, if_neg (by omega)] at Hp
        rw [Hk.out] at hh1 hh2
        have g0 : (0 : Int) ≤ (k : Int) := by omega
        have g1 : (k : Int) ≤ (l.length : Int) := by omega
        have g2 : (l.length : Int) ≤ (cap : Int) := by omega
        have g3 : (k : Int) ≤ (cap : Int) := by omega
        have g4 : ¬ cap = k := by omega
        have sl1 := hsl.take k (by omega)
        have sl2 := hsl.drop k (by omega)
        by_cases hik : i < (k : Int)
        · have e1 : (l.take k).length = k := by rw [List.length_take]; omega
          have Hq := Lib.hid (show pathB l i.toNat = pathB (l.take k) i.toNat ++ [rootB (l.drop k)] by rw [Hp.out, if_pos (by omega)])
          have Ih := Lib.hid (ih (.slice (some ⟨b, off, none⟩) k cap) (l.take k) i (by omega) (by omega) (hsm.take k) sl1 hi0 (by omega))
          have hle := pathB_le (l.take k) i.toNat
          rw [e1] at hle
          have Hsm := Lib.hid (hsm.drop k)
          clear ih hsl h1 sl1 e1 Hp
          go_enter Tryd.func86, Tryd.ntmps86
          go_wp2_with fail
          refine (split_any _ (by omega) (by omega) _).mono ?_
          rintro e w1 ⟨rfl, rfl⟩
          rw [Int.toNat_natCast, Hk.out]
          go_wp2_with fail
          go_region_held3 (fun w' => True) (exact trivial)
            (first
              | (go_at_call 86; refine (Ih.out _ hb.drew).mono ?_; rintro e w1 ⟨u1, rfl, own1, hb1⟩)
              | (go_at_call 81; refine (root_any _ _ Hsm.out _ (ht.below hb1) (sl2.below hb1)).mono ?_; rintro e w2 ⟨rfl, hb2⟩; have own2 := own1.below hb2; have hb3 := hb1.trans (hb2.mono hb1.size))
              | ((refine step_append_lies _ (by rfl) _ _ _ (by rfl) W.heap.size 9 i0 _ 1 16 Tryd.underlying41 hi hz0 hz1 hz2 rfl (by omega) u1 _ _ (by rfl) (World.ownsRow.alloc own2 _) ⟨w2.heap.size, 0, none⟩ 1 1 [.string (rootB (l.drop k))] (by rfl) (by rfl) (World.news_of_block (cs := #[.string (rootB (l.drop k))]) (heap_alloc_new w2 _)) (by simp [Value.oneCell']) (by omega) (by unfold maxLen; omega) (by omega) (by have := hb3.size; simp; omega) (w2.heap.size + 1) (by simp) ?_; intro g4' cap4 w4 own4 grow4 at4 lt4)))
          go_wp2_with fail
          go_ret
          rw [Hq.out]
          exact ⟨_, rfl, OwnStr.snoc rfl own4, below_app own2 hb3 grow4⟩
        · have e1 : (l.drop k).length = l.length - k := List.length_drop
          obtain ⟨j, hj⟩ : ∃ j : Nat, (i - (k : Int)).toNat = j := ⟨_, rfl⟩
          have Hq := Lib.hid (show pathB l i.toNat = pathB (l.drop k) j ++ [rootB (l.take k)] by rw [Hp.out, if_neg (by omega), show i.toNat - k = j by omega])
          have Ih0 := ih (.slice (some ⟨b, off + k, none⟩) (l.length - k) (cap - k)) (l.drop k) (i - k) (by omega) (by omega) (hsm.drop k) sl2 (by omega) (by omega)
          rw [hj] at Ih0
          have Ih := Lib.hid Ih0
          have hle := pathB_le (l.drop k) j
          rw [e1] at hle
          have Hsm := Lib.hid (hsm.take k)
          clear Ih0 hj
          have hw : IntKind.i64.wrap (i - (k : Int)) = i - (k : Int) := IntWalk.i64_in _ (by omega)
          clear ih hsl h1 sl2 e1 Hp
          go_enter Tryd.func86, Tryd.ntmps86
          go_wp2_with fail
          refine (split_any _ (by omega) (by omega) _).mono ?_
          rintro e w1 ⟨rfl, rfl⟩
          rw [Int.toNat_natCast, Hk.out]
          go_wp2_with fail
          go_region_held3 (fun w' => True) (exact trivial)
            (first
              | (go_at_call 86; refine (Ih.out _ hb.drew).mono ?_; rintro e w1 ⟨u1, rfl, own1, hb1⟩)
              | (go_at_call 81; refine (root_any _ _ Hsm.out _ (ht.below hb1) (sl1.below hb1)).mono ?_; rintro e w2 ⟨rfl, hb2⟩; have own2 := own1.below hb2; have hb3 := hb1.trans (hb2.mono hb1.size))
              | ((refine step_append_lies _ (by rfl) _ _ _ (by rfl) W.heap.size 9 i0 _ 1 16 Tryd.underlying41 hi hz0 hz1 hz2 rfl (by omega) u1 _ _ (by rfl) (World.ownsRow.alloc own2 _) ⟨w2.heap.size, 0, none⟩ 1 1 [.string (rootB (l.take k))] (by rfl) (by rfl) (World.news_of_block (cs := #[.string (rootB (l.take k))]) (heap_alloc_new w2 _)) (by simp [Value.oneCell']) (by omega) (by unfold maxLen; omega) (by omega) (by have := hb3.size; simp; omega) (w2.heap.size + 1) (by simp) ?_; intro g4' cap4 w4 own4 grow4 at4 lt4)))
          go_wp2_with fail
          go_ret
          rw [Hq.out]
          exact ⟨_, rfl, OwnStr.snoc rfl own4, below_app own2 hb3 grow4⟩

end Go.Proofs.YteapfoadfjjicaaDoor.Dig
