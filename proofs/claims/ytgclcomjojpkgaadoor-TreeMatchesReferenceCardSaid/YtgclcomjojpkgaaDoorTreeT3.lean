/- Walks over package gazetteerref02: PathTexts, LinkTexts. -/
import Derived.Test.YtgclcomjojpkgaaDoorTreeT2
namespace Go.Proofs.YtgclcomjojpkgaaDoor.Dig
set_option linter.unusedVariables false
set_option linter.unusedSimpArgs false
open Go.RowKit

set_option maxRecDepth 100000 in
set_option maxHeartbeats 2000000 in
theorem pt_any (d : ByteArray) (hd : d.size ≤ 1000) (N : Nat) : ∀ (n i : Nat) (v : Value) (p : List ByteArray) (w : World), n ≤ N → 1 ≤ n → n ≤ 100000 → i < n → small p → p.length = depth n i → StrSl w v p →
    Calls Tryd.prog 28 #[.int .i64 (n : Int), .int .i64 (i : Int), .string d, v] w (RetOwn w (ptB n i d p)) := by
  induction N with
  | zero => intro n i v p w hN h1; omega
  | succ N ih =>
    intro n i v p w hN h1 hmax hi hs hlen hl
    by_cases hone : n = 1
    · subst hone
      have He := Lib.hid (show ptB 1 i d p = [] by rw [ptB_eq, if_pos (by omega)])
      rw [He.out]
      obtain ⟨a, cap, rfl, hm⟩ := strSl_form hl
      clear ih hl hlen
      go_enter Tryd.func28, Tryd.ntmps28
      go_wp2_with fail
      go_ret
      exact ⟨_, rfl, OwnStr.nil _ _, Below.refl _ _⟩
    · have hne : ((n : Int) == 1) = false := by rw [beq_eq_false_iff_ne]; omega
      have hh1 := half_lt n (by omega)
      have hh2 := half_pos n
      have He := Lib.hid (ptB_eq n i d p)
      rw [depth_eq] at hlen
      obtain ⟨k, Hk⟩ : ∃ k : Nat, Hid (half n = k) := ⟨_, Lib.hid rfl⟩
      rw [Hk.out, if_neg (by omega)] at He
      rw [Hk.out, if_neg (by omega)] at hlen
      rw [Hk.out] at hh1 hh2
      have hpos : 0 < p.length := by
        split at hlen <;> omega
      rcases hl with ⟨rfl, a, cap, rfl⟩ | ⟨b, off, cap, rfl, h0, hbb, hm, hc⟩
      · simp at hpos
      · have hsl : StrSl w (.slice (some ⟨b, off, none⟩) p.length cap) p := .inr ⟨b, off, cap, rfl, h0, hbb, hm, hc⟩
        have hlast := hc (p.length - 1) (by omega)
        rw [← lastB_get p (by omega)] at hlast
        have hls := lastB_small p hs
        have sl := hsl.dropLast
        unfold maxLen at hm
        have g1 : (p.length : Int) - 1 < (p.length : Int) := by omega
        have g0 : (0 : Int) ≤ (p.length : Int) - 1 := by omega
        have g2 : (p.length : Int) - 1 ≤ (cap : Int) := by omega
        have hb := Below.refl w.heap.size w
        by_cases hik : i < k
        · rw [if_pos hik] at He hlen
          rw [He.out]
          have Ih := Lib.hid (ih k i _ p.dropLast w (by omega) (by omega) (by omega) hik hs.dropLast (by rw [dropLast_len]; omega) sl)
          have Up := Lib.hid (fun w1 s1 => rup_on w1 (k) (k) (i) d (.slice (some ⟨b, off, none⟩) (p.length - 1) cap) p.dropLast w1 (Nat.le_refl _) (by omega) (by omega) (by omega) hd hs.dropLast (by rw [dropLast_len]; omega) s1 (Below.refl _ _))
          have z1 := upB_small (k) (k) (i) d p.dropLast hd
          have q1 := ptB_len (k) (k) (i) d p.dropLast (Nat.le_refl _)
          have q2 := depth_le (k) (k) (i) (Nat.le_refl _)
          have q3 : (ptB (k) (i) d p.dropLast).length ≤ k := by omega
          have Hlen := Lib.hid hlen
          clear ih hc hsl hlen q1 q2
          go_enter Tryd.func28, Tryd.ntmps28
          go_wp2_with fail
          refine (half_any _ (by omega) (by omega) _).mono ?_
          rintro e w1 ⟨rfl, rfl⟩
          rw [Int.toNat_natCast, Hk.out]
          go_wp2_with fail
          refine Ih.out.mono ?_
          rintro e w2 ⟨u1, rfl, own1, hb2⟩
          go_wp2_with fail
          refine (Up.out _ (sl.below hb2)).mono ?_
          rintro e w3 ⟨rfl, hb3'⟩
          have hb3 := hb2.trans (hb3'.mono hb2.size)
          have own3 := own1.below hb3'
          go_wp2_with fail
          refine (rjoined3 wNode (upB (k) (i) d p.dropLast) (lastB p) wNode_le z1 hls _).mono ?_
          rintro e w4 ⟨rfl, hb4'⟩
          have hb4 := hb3.trans (hb4'.mono hb3.size)
          have own4 := own3.below hb4'
          go_wp2_with (at_builtin; refine list_append_str _ rfl _ _ rfl w.heap.size u1 (.slice (some ⟨w4.heap.size, 0, none⟩) 1 1) (ptB (k) (i) d p.dropLast) [joinT [wNode, (upB (k) (i) d p.dropLast), (lastB p)]] rfl rfl (own4.ofAlloc _) (sl1' _ w4) (by simp; omega) (by have := hb4.size; simp; omega) ?_; intro v5 w5 own5 grow5 at5)
          have hb5 := below_grow' (own4.ofAlloc _) (hb4.alloc hb4.size _) grow5
          go_wp2_with fail
          go_ret
          exact ⟨_, rfl, own5, hb5⟩
        · rw [if_neg hik] at He hlen
          rw [He.out]
          have Ih := Lib.hid (ih (n - k) (i - k) _ p.dropLast w (by omega) (by omega) (by omega) (by omega) hs.dropLast (by rw [dropLast_len]; omega) sl)
          have Up := Lib.hid (fun w1 s1 => rup_on w1 (n - k) (n - k) (i - k) d (.slice (some ⟨b, off, none⟩) (p.length - 1) cap) p.dropLast w1 (Nat.le_refl _) (by omega) (by omega) (by omega) hd hs.dropLast (by rw [dropLast_len]; omega) s1 (Below.refl _ _))
          have z1 := upB_small (n - k) (n - k) (i - k) d p.dropLast hd
          have q1 := ptB_len (n - k) (n - k) (i - k) d p.dropLast (Nat.le_refl _)
          have q2 := depth_le (n - k) (n - k) (i - k) (Nat.le_refl _)
          have q3 : (ptB (n - k) (i - k) d p.dropLast).length ≤ n - k := by omega
          have Hlen := Lib.hid hlen
          have C1 := Lib.hid (show (n : Int) - (k : Int) = ((n - k : Nat) : Int) by omega)
          have C2 := Lib.hid (show (i : Int) - (k : Int) = ((i - k : Nat) : Int) by omega)
          clear ih hc hsl hlen q1 q2
          go_enter Tryd.func28, Tryd.ntmps28
          go_wp2_with fail
          refine (half_any _ (by omega) (by omega) _).mono ?_
          rintro e w1 ⟨rfl, rfl⟩
          rw [Int.toNat_natCast, Hk.out]
          go_wp2_with fail
          rw [C1.out, C2.out]
          refine Ih.out.mono ?_
          rintro e w2 ⟨u1, rfl, own1, hb2⟩
          go_wp2_with fail
          rw [C1.out, C2.out]
          refine (Up.out _ (sl.below hb2)).mono ?_
          rintro e w3 ⟨rfl, hb3'⟩
          have hb3 := hb2.trans (hb3'.mono hb2.size)
          have own3 := own1.below hb3'
          go_wp2_with fail
          refine (rjoined3 wNode (lastB p) (upB (n - k) (i - k) d p.dropLast) wNode_le hls z1 _).mono ?_
          rintro e w4 ⟨rfl, hb4'⟩
          have hb4 := hb3.trans (hb4'.mono hb3.size)
          have own4 := own3.below hb4'
          go_wp2_with (at_builtin; refine list_append_str _ rfl _ _ rfl w.heap.size u1 (.slice (some ⟨w4.heap.size, 0, none⟩) 1 1) (ptB (n - k) (i - k) d p.dropLast) [joinT [wNode, (lastB p), (upB (n - k) (i - k) d p.dropLast)]] rfl rfl (own4.ofAlloc _) (sl1' _ w4) (by simp; omega) (by have := hb4.size; simp; omega) ?_; intro v5 w5 own5 grow5 at5)
          have hb5 := below_grow' (own4.ofAlloc _) (hb4.alloc hb4.size _) grow5
          go_wp2_with fail
          go_ret
          exact ⟨_, rfl, own5, hb5⟩


set_option maxRecDepth 100000 in
set_option maxHeartbeats 2000000 in
theorem lt_any (o : ByteArray) (ho : o.size ≤ 1000) (N : Nat) : ∀ (n m : Nat) (f : Bool) (v : Value) (p : List ByteArray) (w : World), n ≤ N → 1 ≤ m → m ≤ n → n ≤ 100000 → small p → p.length = span n m f → StrSl w v p →
    Calls Tryd.prog 29 #[.int .i64 (n : Int), .int .i64 (m : Int), .bool f, .string o, v] w (RetOwn w (ltB n m f o p)) := by
  induction N with
  | zero => intro n m f v p w hN h1; omega
  | succ N ih =>
    intro n m f v p w hN h1 hmn hmax hs hlen hl
    by_cases hone : m = n
    · subst hone
      have He := Lib.hid (show ltB m m f o p = [] by rw [ltB_eq, if_pos (.inl rfl)])
      rw [He.out]
      obtain ⟨a, cap, rfl, hm⟩ := strSl_form hl
      clear ih hl hlen
      go_enter Tryd.func29, Tryd.ntmps29
      go_wp2_with fail
      go_ret
      exact ⟨_, rfl, OwnStr.nil _ _, Below.refl _ _⟩
    · have hne : ((m : Int) == (n : Int)) = false := by rw [beq_eq_false_iff_ne]; omega
      have hh1 := half_lt n (by omega)
      have hh2 := half_pos n
      have He := Lib.hid (ltB_eq n m f o p)
      rw [span_eq] at hlen
      obtain ⟨k, Hk⟩ : ∃ k : Nat, Hid (half n = k) := ⟨_, Lib.hid rfl⟩
      rw [Hk.out, if_neg (by omega)] at He
      rw [Hk.out, if_neg (by omega)] at hlen
      rw [Hk.out] at hh1 hh2
      have hpos : 0 < p.length := by
        split at hlen <;> omega
      rcases hl with ⟨rfl, a, cap, rfl⟩ | ⟨b, off, cap, rfl, h0, hbb, hm, hc⟩
      · simp at hpos
      · have hsl : StrSl w (.slice (some ⟨b, off, none⟩) p.length cap) p := .inr ⟨b, off, cap, rfl, h0, hbb, hm, hc⟩
        have hlast := hc (p.length - 1) (by omega)
        rw [← lastB_get p (by omega)] at hlast
        have hls := lastB_small p hs
        have sl := hsl.dropLast
        unfold maxLen at hm
        have g1 : (p.length : Int) - 1 < (p.length : Int) := by omega
        have g0 : (0 : Int) ≤ (p.length : Int) - 1 := by omega
        have g2 : (p.length : Int) - 1 ≤ (cap : Int) := by omega
        have hb := Below.refl w.heap.size w
        by_cases hik : m ≤ k
        · rw [if_pos hik] at He hlen
          rw [He.out]
          have Ih := Lib.hid (fun w1 s1 => ih k m f (.slice (some ⟨b, off, none⟩) (p.length - 1) cap) p.dropLast w1 (by omega) h1 hik (by omega) hs.dropLast (by rw [dropLast_len]; omega) s1)
          have Bo := Lib.hid (fun w1 s1 => rboth_on w1 o ho (k) (k) (m) f (.slice (some ⟨b, off, none⟩) (p.length - 1) cap) p.dropLast w1 (Nat.le_refl _) (by omega) (by omega) (by omega) hs.dropLast (by rw [dropLast_len]; omega) s1 (Below.refl _ _))
          obtain ⟨z0, z1⟩ := boB_small o (k) (k) (m) f p.dropLast (Nat.le_refl _) ho hs.dropLast
          have q3 := ltB_len (k) (k) (m) f o p.dropLast (Nat.le_refl _)
          have Hlen := Lib.hid hlen
          clear ih hc hsl hlen
          go_enter Tryd.func29, Tryd.ntmps29
          go_wp2_with fail
          refine (half_any _ (by omega) (by omega) _).mono ?_
          rintro e w1 ⟨rfl, rfl⟩
          rw [Int.toNat_natCast, Hk.out]
          go_wp2_with fail
          refine (Bo.out _ sl).mono ?_
          rintro e w2 ⟨rfl, hb2⟩
          go_wp2_with fail
          refine (Ih.out _ (sl.below hb2)).mono ?_
          rintro e w3 ⟨u1, rfl, own1, hb3'⟩
          have hb3 := hb2.trans (hb3'.mono hb2.size)
          have own3 := own1.mono hb2.size
          go_wp2_with fail
          refine (rjoined3 wNode (boB (k) (m) f o p.dropLast).2 (lastB p) wNode_le z1 hls _).mono ?_
          rintro e w4 ⟨rfl, hb4'⟩
          have hb4 := hb3.trans (hb4'.mono hb3.size)
          have own4 := own3.below hb4'
          go_wp2_with (at_builtin; refine list_append_str _ rfl _ _ rfl w.heap.size u1 (.slice (some ⟨w4.heap.size, 0, none⟩) 1 1) (ltB (k) (m) f o p.dropLast) [joinT [wNode, (boB (k) (m) f o p.dropLast).2, (lastB p)]] rfl rfl (own4.ofAlloc _) (sl1' _ w4) (by simp; omega) (by have := hb4.size; simp; omega) ?_; intro v5 w5 own5 grow5 at5)
          have hb5 := below_grow' (own4.ofAlloc _) (hb4.alloc hb4.size _) grow5
          go_wp2_with fail
          go_ret
          exact ⟨_, rfl, own5, hb5⟩
        · rw [if_neg hik] at He hlen
          rw [He.out]
          have Ih := Lib.hid (fun w1 s1 => ih (n - k) (m - k) false (.slice (some ⟨b, off, none⟩) (p.length - 1) cap) p.dropLast w1 (by omega) (by omega) (by omega) (by omega) hs.dropLast (by rw [dropLast_len]; omega) s1)
          have Bo := Lib.hid (fun w1 s1 => rboth_on w1 o ho (n - k) (n - k) (m - k) false (.slice (some ⟨b, off, none⟩) (p.length - 1) cap) p.dropLast w1 (Nat.le_refl _) (by omega) (by omega) (by omega) hs.dropLast (by rw [dropLast_len]; omega) s1 (Below.refl _ _))
          obtain ⟨z0, z1⟩ := boB_small o (n - k) (n - k) (m - k) false p.dropLast (Nat.le_refl _) ho hs.dropLast
          have q3 := ltB_len (n - k) (n - k) (m - k) false o p.dropLast (Nat.le_refl _)
          have Hlen := Lib.hid hlen
          have C1 := Lib.hid (show (n : Int) - (k : Int) = ((n - k : Nat) : Int) by omega)
          have C2 := Lib.hid (show (m : Int) - (k : Int) = ((m - k : Nat) : Int) by omega)
          clear ih hc hsl hlen
          go_enter Tryd.func29, Tryd.ntmps29
          go_wp2_with fail
          refine (half_any _ (by omega) (by omega) _).mono ?_
          rintro e w1 ⟨rfl, rfl⟩
          rw [Int.toNat_natCast, Hk.out]
          go_wp2_with fail
          rw [C1.out, C2.out]
          refine (Bo.out _ sl).mono ?_
          rintro e w2 ⟨rfl, hb2⟩
          go_wp2_with fail
          rw [C1.out, C2.out]
          refine (Ih.out _ (sl.below hb2)).mono ?_
          rintro e w3 ⟨u1, rfl, own1, hb3'⟩
          have hb3 := hb2.trans (hb3'.mono hb2.size)
          have own3 := own1.mono hb2.size
          go_wp2_with fail
          refine (rjoined3 wNode (lastB p) (boB (n - k) (m - k) false o p.dropLast).1 wNode_le hls z0 _).mono ?_
          rintro e w4 ⟨rfl, hb4'⟩
          have hb4 := hb3.trans (hb4'.mono hb3.size)
          have own4 := own3.below hb4'
          go_wp2_with (at_builtin; refine list_append_str _ rfl _ _ rfl w.heap.size u1 (.slice (some ⟨w4.heap.size, 0, none⟩) 1 1) (ltB (n - k) (m - k) false o p.dropLast) [joinT [wNode, (lastB p), (boB (n - k) (m - k) false o p.dropLast).1]] rfl rfl (own4.ofAlloc _) (sl1' _ w4) (by simp; omega) (by have := hb4.size; simp; omega) ?_; intro v5 w5 own5 grow5 at5)
          have hb5 := below_grow' (own4.ofAlloc _) (hb4.alloc hb4.size _) grow5
          go_wp2_with fail
          refine (rjoined3 wNode (lastB p) (boB (n - k) (m - k) false o p.dropLast).2 wNode_le hls z1 _).mono ?_
          rintro e w6 ⟨rfl, hb6'⟩
          have hb6 := hb5.trans (hb6'.mono hb5.size)
          have own6 := own5.below hb6'
          go_wp2_with (at_builtin; refine list_append_str _ rfl _ _ rfl w.heap.size v5 (.slice (some ⟨w6.heap.size, 0, none⟩) 1 1) ((ltB (n - k) (m - k) false o p.dropLast) ++ [joinT [wNode, (lastB p), (boB (n - k) (m - k) false o p.dropLast).1]]) [joinT [wNode, (lastB p), (boB (n - k) (m - k) false o p.dropLast).2]] rfl rfl (own6.ofAlloc _) (sl1' _ w6) (by simp; omega) (by have := hb6.size; simp; omega) ?_; intro v7 w7 own7 grow7 at7)
          have hb7 := below_grow' (own6.ofAlloc _) (hb6.alloc hb6.size _) grow7
          go_wp2_with fail
          go_ret
          exact ⟨_, rfl, own7, hb7⟩

end Go.Proofs.YtgclcomjojpkgaaDoor.Dig
