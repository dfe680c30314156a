/- Walks over packages tree and gazetteerref02: the reference's path; links in both. -/
import Derived.Test.YteapfoadfjjicaaDoorTreeW5
import Derived.Laws.OwnMore
namespace Go.Proofs.YteapfoadfjjicaaDoor.Dig
set_option linter.unusedVariables false
set_option linter.unusedSimpArgs false
open Go.RowKit
attribute [local go_sem ↓] Go.wp_at_zero Go.wp_at_succ

theorem rroot_any (v : Value) (l : List ByteArray) (h63 : l.length ≤ 4611686018427387904) (hsm : small l) (w : World) (hl : StrSl w v l) :
    Calls Tryd.prog 84 #[v] w fun e w' => e = .returned (.string (rootB l)) ∧ Below w.heap.size w w' :=
  rroot_on w l.length v l (Nat.le_refl _) h63 hsm hl w (Below.refl _ _)

set_option maxRecDepth 100000 in
set_option maxHeartbeats 1000000 in
theorem rpath_on (W : World) (N : Nat) : ∀ (v : Value) (l : List ByteArray) (i : Int), l.length ≤ N → l.length ≤ 1000000 → small l → StrSl W v l → 0 ≤ i → i < l.length → ∀ (w : World), Below W.heap.size W w →
    Calls Tryd.prog 93 #[v, .int .i64 i] w (RetOwn W (pathB l i.toNat)) := by
  obtain ⟨i0, hi, hz0, hz1, hz2⟩ := info_parts infoS
  induction N with
  | zero => intro v l i hN _ _ _ _ hi; omega
  | succ N ih =>
    intro v l i hN hl63 hsm hl hi0 hil w hb
    rcases hl with ⟨rfl, a, cap, rfl⟩ | ⟨b, off, cap, rfl, h0, hbb, hm, hc⟩
    · simp at hil; omega
    · have hsl : StrSl W (.slice (some ⟨b, off, none⟩) l.length cap) l := .inr ⟨b, off, cap, rfl, h0, hbb, hm, hc⟩
      clear hc
      unfold maxLen at hm
      by_cases h1 : l.length = 1
      · have Hp := Lib.hid (show pathB l i.toNat = [] by rw [pathB_eq, if_pos (by omega)])
        have ho : ((l.length : Int) == 1) = true := by rw [beq_iff_eq]; omega
        clear h1 ih
        go_enter Tryd.func93, Tryd.ntmps93
        go_wp2_with fail
        go_ret
        exact ⟨_, rfl, by rw [Hp.out]; exact OwnStr.nil _ _, hb⟩
      · have ho : ((l.length : Int) == 1) = false := by rw [beq_eq_false_iff_ne]; omega
        have hh1 := half_lt l.length (by omega)
        have hh2 := half_pos l.length
        have Hp := Lib.hid (pathB_eq l i.toNat)
        obtain ⟨k, Hk⟩ : ∃ k : Nat, Hid (half l.length = k) := ⟨_, Lib.hid rfl⟩
        rw [Hk.out, if_neg (by omega)] at Hp
        rw [Hk.out] at hh1 hh2
        have g0 : (0 : Int) ≤ (k : Int) := by omega
        have g1 : (k : Int) ≤ (l.length : Int) := by omega
        have g2 : (l.length : Int) ≤ (cap : Int) := by omega
        have g3 : (k : Int) ≤ (cap : Int) := by omega
        have g4 : ¬ cap = k := by omega
        have sl1 := hsl.take k (by omega)
        have sl2 := hsl.drop k (by omega)
        by_cases hik : i < (k : Int)
        · have e1 : (l.take k).length = k := by rw [List.length_take]; omega
          have Hq := Lib.hid (show pathB l i.toNat = pathB (l.take k) i.toNat ++ [rootB (l.drop k)] by rw [Hp.out, if_pos (by omega)])
          have Ih := Lib.hid (ih (.slice (some ⟨b, off, none⟩) k cap) (l.take k) i (by omega) (by omega) (hsm.take k) sl1 hi0 (by omega))
          have hle := pathB_le (l.take k) i.toNat
          rw [e1] at hle
          have Hsm := Lib.hid (hsm.drop k)
          clear ih hsl h1 sl1 e1 Hp
          go_enter Tryd.func93, Tryd.ntmps93
          go_wp2_with fail
          refine (half_any _ (by omega) (by omega) _).mono ?_
          rintro e w1 ⟨rfl, rfl⟩
          rw [Int.toNat_natCast, Hk.out]
          go_wp2_with fail
          go_region_held3 (fun w' => True) (exact trivial)
            (first
              | (go_at_call 93; refine (Ih.out _ hb.drew).mono ?_; rintro e w1 ⟨u1, rfl, own1, hb1⟩)
              | (go_at_call 84; refine (rroot_any _ _ (by simp; omega) Hsm.out _ (sl2.below hb1)).mono ?_; rintro e w2 ⟨rfl, hb2⟩; have own2 := own1.below hb2; have hb3 := hb1.trans (hb2.mono hb1.size))
              | ((refine step_append_lies _ (by rfl) _ _ _ (by rfl) W.heap.size 9 i0 _ 1 16 Tryd.underlying41 hi hz0 hz1 hz2 rfl (by omega) u1 _ _ (by rfl) (World.ownsRow.alloc own2 _) ⟨w2.heap.size, 0, none⟩ 1 1 [.string (rootB (l.drop k))] (by rfl) (by rfl) (World.news_of_block (cs := #[.string (rootB (l.drop k))]) (heap_alloc_new w2 _)) (by simp [Value.oneCell']) (by omega) (by unfold maxLen; omega) (by omega) (by have := hb3.size; simp; omega) (w2.heap.size + 1) (by simp) ?_; intro g4' cap4 w4 own4 grow4 at4 lt4)))
          go_wp2_with fail
          go_ret
          rw [Hq.out]
          exact ⟨_, rfl, OwnStr.snoc rfl own4, below_app own2 hb3 grow4⟩
        · have e1 : (l.drop k).length = l.length - k := List.length_drop
          obtain ⟨j, hj⟩ : ∃ j : Nat, (i - (k : Int)).toNat = j := ⟨_, rfl⟩
          have Hq := Lib.hid (show pathB l i.toNat = pathB (l.drop k) j ++ [rootB (l.take k)] by rw [Hp.out, if_neg (by omega), show i.toNat - k = j by omega])
          have Ih0 := ih (.slice (some ⟨b, off + k, none⟩) (l.length - k) (cap - k)) (l.drop k) (i - k) (by omega) (by omega) (hsm.drop k) sl2 (by omega) (by omega)
          rw [hj] at Ih0
          have Ih := Lib.hid Ih0
          have hle := pathB_le (l.drop k) j
          rw [e1] at hle
          have Hsm := Lib.hid (hsm.take k)
          clear Ih0 hj
          have hw : IntKind.i64.wrap (i - (k : Int)) = i - (k : Int) := IntWalk.i64_in _ (by omega)
          clear ih hsl h1 sl2 e1 Hp
          go_enter Tryd.func93, Tryd.ntmps93
          go_wp2_with fail
          refine (half_any _ (by omega) (by omega) _).mono ?_
          rintro e w1 ⟨rfl, rfl⟩
          rw [Int.toNat_natCast, Hk.out]
          go_wp2_with fail
          go_region_held3 (fun w' => True) (exact trivial)
            (first
              | (go_at_call 93; refine (Ih.out _ hb.drew).mono ?_; rintro e w1 ⟨u1, rfl, own1, hb1⟩)
              | (go_at_call 84; refine (rroot_any _ _ (by simp; omega) Hsm.out _ (sl1.below hb1)).mono ?_; rintro e w2 ⟨rfl, hb2⟩; have own2 := own1.below hb2; have hb3 := hb1.trans (hb2.mono hb1.size))
              | ((refine step_append_lies _ (by rfl) _ _ _ (by rfl) W.heap.size 9 i0 _ 1 16 Tryd.underlying41 hi hz0 hz1 hz2 rfl (by omega) u1 _ _ (by rfl) (World.ownsRow.alloc own2 _) ⟨w2.heap.size, 0, none⟩ 1 1 [.string (rootB (l.take k))] (by rfl) (by rfl) (World.news_of_block (cs := #[.string (rootB (l.take k))]) (heap_alloc_new w2 _)) (by simp [Value.oneCell']) (by omega) (by unfold maxLen; omega) (by omega) (by have := hb3.size; simp; omega) (w2.heap.size + 1) (by simp) ?_; intro g4' cap4 w4 own4 grow4 at4 lt4)))
          go_wp2_with fail
          go_ret
          rw [Hq.out]
          exact ⟨_, rfl, OwnStr.snoc rfl own4, below_app own2 hb3 grow4⟩


/-! ### Links -/

theorem span_le (N : Nat) : ∀ (n m : Nat) (b : Bool), n ≤ N → span n m b ≤ n + 1 := by
  have base : ∀ (n : Nat) (b : Bool), (if b then 0 else 1) ≤ n + 1 := by
    intro n b
    cases b <;> simp
  induction N with
  | zero =>
    intro n m b hn
    have h0 : m = n ∨ n ≤ 1 := .inr (by omega)
    rw [span_eq, if_pos h0]
    exact base n b
  | succ N ih =>
    intro n m b hn
    rw [span_eq]
    by_cases h1 : m = n ∨ n ≤ 1
    · rw [if_pos h1]; exact base n b
    · have k1 := half_lt n (by omega)
      have k2 := half_pos n
      rw [if_neg h1]
      by_cases h2 : m ≤ half n
      · rw [if_pos h2]
        have := ih (half n) m b (by omega)
        omega
      · rw [if_neg h2]
        have := ih (n - half n) (m - half n) false (by omega)
        omega
theorem linkB_le (l : List ByteArray) (m : Nat) (b : Bool) : (linkB l m b).length ≤ l.length + 1 := by
  rw [linkB_length l.length l m b (Nat.le_refl _)]
  exact span_le l.length l.length m b (Nat.le_refl _)

theorem OwnStr.lit (w : World) (B : Nat) (x : ByteArray) (hB : B ≤ w.heap.size) : OwnStr (w.alloc (.cells #[.string x] 9)) B (.slice (some ⟨w.heap.size, 0, none⟩) 1 1) [x] :=
  World.ownsRow_lit w #[.string x] 1 hB (by decide) (by rfl)

end Go.Proofs.YteapfoadfjjicaaDoor.Dig
