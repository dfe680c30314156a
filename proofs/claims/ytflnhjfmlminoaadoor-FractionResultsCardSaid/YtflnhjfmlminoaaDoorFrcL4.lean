/- The walk of FractionResults. -/
import Derived.Test.YtflnhjfmlminoaaDoorFrcH
import Derived.Test.YtflnhjfmlminoaaDoorFrcLaw2
import Derived.Deep.DeepCutAuto
namespace Go.Proofs.YtflnhjfmlminoaaDoor.Fr
set_option linter.unusedVariables false
set_option linter.unusedSimpArgs false
open Go.RowKit

theorem small_yes (n d : Int) (h : smB n d = true) (w : World) :
    Calls Tryd.prog 27 #[.agg #[.int .i64 n, .int .i64 d]] w fun e w' => e = .returned (.bool true) ∧ Below w.heap.size w w' := by
  obtain ⟨h1, h2, h3⟩ := smB_iff.1 h
  clear h
  go_enter Tryd.func27, Tryd.ntmps27
  go_wp2_with fail
  go_ret
  exact ⟨rfl, (Below.refl _ _).alloc (Nat.le_refl _) _⟩
theorem small_no (n d : Int) (h : smB n d = false) (w : World) :
    Calls Tryd.prog 27 #[.agg #[.int .i64 n, .int .i64 d]] w fun e w' => e = .returned (.bool false) ∧ Below w.heap.size w w' := by
  have hn : ¬ (-1000000000 ≤ n ∧ n ≤ 1000000000 ∧ d ≤ 1000000000) := fun k => by rw [smB_iff.2 k] at h; cases h
  clear h
  by_cases h1 : -1000000000 ≤ n
  · by_cases h2 : n ≤ 1000000000
    · have h3 : decide (d ≤ 1000000000) = false := by simp; omega
      clear hn
      go_enter Tryd.func27, Tryd.ntmps27
      go_wp2_with fail
      go_ret
      exact ⟨rfl, (Below.refl _ _).alloc (Nat.le_refl _) _⟩
    · have h3 : decide (n ≤ 1000000000) = false := by simp; omega
      clear hn
      go_enter Tryd.func27, Tryd.ntmps27
      go_wp2_with fail
      go_ret
      exact ⟨rfl, (Below.refl _ _).alloc (Nat.le_refl _) _⟩
  · have h3 : decide (-1000000000 ≤ n) = false := by simp; omega
    clear hn
    go_enter Tryd.func27, Tryd.ntmps27
    go_wp2_with fail
    go_ret
    exact ⟨rfl, (Below.refl _ _).alloc (Nat.le_refl _) _⟩
theorem nz {a : Int} (h : (a == 0) = false) : (a != 0) = true := by simpa using h
/-- the ways of a number, and its divisor -/
theorem back_way (a b : Int) : (ofE a b = 0 ∧ ofE a 1 = 0 ∧ ofE b 1 = 0 ∧ mulE (ofN a b) (ofD a b) (ofN b 1) (ofD b 1) = 0 ∧ mulN (ofN a b) (ofD a b) (ofN b 1) (ofD b 1) = ofN a 1 ∧ mulD (ofN a b) (ofD a b) (ofN b 1) (ofD b 1) = ofD a 1) ∨
    (ofE a b == 0) = false ∨ (ofE a b = 0 ∧ (ofE a 1 == 0) = false) ∨ (ofE a b = 0 ∧ ofE a 1 = 0 ∧ (ofE b 1 == 0) = false) := by
  by_cases h1 : ofE a b = 0
  · have hb : b ≠ 0 := by
      rintro rfl
      unfold ofE at h1
      rw [if_pos rfl] at h1
      omega
    by_cases h2 : ofE a 1 = 0
    · by_cases h3 : ofE b 1 = 0
      · obtain ⟨x, y, z⟩ := of_back hb h1 h2 h3
        exact .inl ⟨h1, h2, h3, x, y, z⟩
      · exact .inr (.inr (.inr ⟨h1, h2, by simpa using h3⟩))
    · exact .inr (.inr (.inl ⟨h1, by simpa using h2⟩))
  · exact .inr (.inl (by simpa using h1))

set_option maxRecDepth 100000 in
set_option maxHeartbeats 8000000 in
theorem resultsV (n d m e u v : Int) (hn1 : -9223372036854775808 ≤ n) (hn2 : n ≤ 9223372036854775807) (hd1 : -9223372036854775808 ≤ d) (hd2 : d ≤ 9223372036854775807) (hm1 : -9223372036854775808 ≤ m) (hm2 : m ≤ 9223372036854775807) (he1 : -9223372036854775808 ≤ e) (he2 : e ≤ 9223372036854775807) (hu1 : -9223372036854775808 ≤ u) (hu2 : u ≤ 9223372036854775807) (hv1 : -9223372036854775808 ≤ v) (hv2 : v ≤ 9223372036854775807) (s : ByteArray) (hle : s.size ≤ 100) (hf : valP n d) (hg : valP m e) (hSm : (smB n d = true ∧ smB m e = true ∧ addE n d m e = 0 ∧ mulE n d m e = 0) ∨ smB n d = false ∨ (smB n d = true ∧ smB m e = false)) (w : World) (hl : Lay w) :
    Calls Tryd.prog 8 #[.agg #[.int .i64 n, .int .i64 d], .agg #[.int .i64 m, .int .i64 e], .int .i64 u, .int .i64 v, .string s] w fun r w' => r = .returned (.bool true) ∧ Below w.heap.size w w' := by
  have hlb : decide (100 < (s.size : Int)) = false := by simp; omega
  have hOf := fun w => of_any u v hu1 hu2 hv1 hv2 w
  have hAd := fun w => add_any n d m e w
  have hMu := fun w => mul_any n d m e w
  have hPa := fun w hl => parse_any s (by omega) w hl
  have hOx := fun w => of_any u 1 hu1 hu2 (by omega) (by omega) w
  have hOy := fun w => of_any v 1 hv1 hv2 (by omega) (by omega) w
  have hBk := fun w => mul_any (ofN u v) (ofD u v) (ofN v 1) (ofD v 1) w
  have hA := of_way u v
  have hB := add_way n d m e
  have hC := mul_way n d m e
  have hP := par_way s.data.toList
  have hZ := of_zero u v
  have hR := back_way u v
  generalize mulN (ofN u v) (ofD u v) (ofN v 1) (ofD v 1) = kn at *
  generalize mulD (ofN u v) (ofD u v) (ofN v 1) (ofD v 1) = kd at *
  generalize mulE (ofN u v) (ofD u v) (ofN v 1) (ofD v 1) = ke at *
  generalize ofN u v = an at *
  generalize ofD u v = ad at *
  generalize ofE u v = ae at *
  generalize ofN u 1 = xn at *
  generalize ofD u 1 = xd at *
  generalize ofE u 1 = xe at *
  generalize ofN v 1 = yn at *
  generalize ofD v 1 = yd at *
  generalize ofE v 1 = ye at *
  generalize addN n d m e = bn at *
  generalize addD n d m e = bd at *
  generalize addE n d m e = be at *
  generalize mulN n d m e = cn at *
  generalize mulD n d m e = cd at *
  generalize mulE n d m e = ce at *
  generalize (parV s.data.toList).1 = pn at *
  generalize (parV s.data.toList).2.1 = pd at *
  generalize (parV s.data.toList).2.2 = pe at *
  have XhOf := Lib.hid hOf
  clear hOf
  have XhAd := Lib.hid hAd
  clear hAd
  have XhMu := Lib.hid hMu
  clear hMu
  have XhPa := Lib.hid hPa
  clear hPa
  have XhOx := Lib.hid hOx
  clear hOx
  have XhOy := Lib.hid hOy
  clear hOy
  have XhBk := Lib.hid hBk
  clear hBk
  have XhA := Lib.hid hA
  clear hA
  have XhB := Lib.hid hB
  clear hB
  have XhC := Lib.hid hC
  clear hC
  have XhP := Lib.hid hP
  clear hP
  have XhZ := Lib.hid hZ
  clear hZ
  have XhR := Lib.hid hR
  clear hR
  go_enter Tryd.func8, Tryd.ntmps8
  have hB0 : Below w.heap.size w w := Below.refl w.heap.size w
  have f_1 : Two (w.alloc (.cells #[.int .i64 (n), .int .i64 (d)] 23)) (w.heap.size) 23 (.int .i64 (n)) (.int .i64 (d)) := Two.at (by simp) _ _ _
  have hBa1 : Below w.heap.size w (w.alloc (.cells #[.int .i64 (n), .int .i64 (d)] 23)) := hB0.alloc hB0.size _
  clear hB0
  have f_2 : Two ((w.alloc (.cells #[.int .i64 (n), .int .i64 (d)] 23)).alloc (.cells #[.int .i64 (m), .int .i64 (e)] 23)) (w.heap.size) 23 (.int .i64 (n)) (.int .i64 (d)) := f_1.alloc _
  clear f_1
  have g_2 : Two ((w.alloc (.cells #[.int .i64 (n), .int .i64 (d)] 23)).alloc (.cells #[.int .i64 (m), .int .i64 (e)] 23)) (w.heap.size + 1) 23 (.int .i64 (m)) (.int .i64 (e)) := Two.at (by simp) _ _ _
  have hBa2 : Below w.heap.size w ((w.alloc (.cells #[.int .i64 (n), .int .i64 (d)] 23)).alloc (.cells #[.int .i64 (m), .int .i64 (e)] 23)) := hBa1.alloc hBa1.size _
  clear hBa1
  go_wp2_with fail
  refine (head_any _ (hl.below hBa2)).mono ?_
  rintro r w1 ⟨rfl, hbc⟩
  have f_3 : Two w1 (w.heap.size) 23 (.int .i64 (n)) (.int .i64 (d)) := f_2.below hbc f_2.lt
  clear f_2
  have g_3 : Two w1 (w.heap.size + 1) 23 (.int .i64 (m)) (.int .i64 (e)) := g_2.below hbc g_2.lt
  clear g_2
  have hBa3 : Below w.heap.size w w1 := hBa2.trans (hbc.mono hBa2.size)
  clear hBa2 hbc
  go_wp2_with fail
  refine (XhOf.out _).mono ?_
  rintro r w2 ⟨rfl, hbc⟩
  have f_4 : Two w2 (w.heap.size) 23 (.int .i64 (n)) (.int .i64 (d)) := f_3.below hbc f_3.lt
  clear f_3
  have g_4 : Two w2 (w.heap.size + 1) 23 (.int .i64 (m)) (.int .i64 (e)) := g_3.below hbc g_3.lt
  clear g_3
  have hBa4 : Below w.heap.size w w2 := hBa3.trans (hbc.mono hBa3.size)
  clear hBa3 hbc
  have f_5 : Two (w2.alloc (.cells #[.int .i64 (an), .int .i64 (ad)] 23)) (w.heap.size) 23 (.int .i64 (n)) (.int .i64 (d)) := f_4.alloc _
  clear f_4
  have g_5 : Two (w2.alloc (.cells #[.int .i64 (an), .int .i64 (ad)] 23)) (w.heap.size + 1) 23 (.int .i64 (m)) (.int .i64 (e)) := g_4.alloc _
  clear g_4
  have a_5 : Two (w2.alloc (.cells #[.int .i64 (an), .int .i64 (ad)] 23)) (w2.heap.size) 23 (.int .i64 (an)) (.int .i64 (ad)) := Two.at (by simp) _ _ _
  have hBa5 : Below w.heap.size w (w2.alloc (.cells #[.int .i64 (an), .int .i64 (ad)] 23)) := hBa4.alloc hBa4.size _
  clear hBa4
  obtain ⟨ff0, ff1, ff2, ff3⟩ := f_5.facts
  obtain ⟨gf0, gf1, gf2, gf3⟩ := g_5.facts
  go_wp2_with fail
  refine (XhAd.out _).mono ?_
  rintro r w3 ⟨rfl, hbc⟩
  clear ff0
  clear ff1
  clear ff2
  clear ff3
  clear gf0
  clear gf1
  clear gf2
  clear gf3
  have f_6 : Two w3 (w.heap.size) 23 (.int .i64 (n)) (.int .i64 (d)) := f_5.below hbc f_5.lt
  clear f_5
  have g_6 : Two w3 (w.heap.size + 1) 23 (.int .i64 (m)) (.int .i64 (e)) := g_5.below hbc g_5.lt
  clear g_5
  have a_6 : Two w3 (w2.heap.size) 23 (.int .i64 (an)) (.int .i64 (ad)) := a_5.below hbc a_5.lt
  clear a_5
  have hBa6 : Below w.heap.size w w3 := hBa5.trans (hbc.mono hBa5.size)
  clear hBa5 hbc
  have f_7 : Two (w3.alloc (.cells #[.int .i64 (bn), .int .i64 (bd)] 23)) (w.heap.size) 23 (.int .i64 (n)) (.int .i64 (d)) := f_6.alloc _
  clear f_6
  have g_7 : Two (w3.alloc (.cells #[.int .i64 (bn), .int .i64 (bd)] 23)) (w.heap.size + 1) 23 (.int .i64 (m)) (.int .i64 (e)) := g_6.alloc _
  clear g_6
  have a_7 : Two (w3.alloc (.cells #[.int .i64 (bn), .int .i64 (bd)] 23)) (w2.heap.size) 23 (.int .i64 (an)) (.int .i64 (ad)) := a_6.alloc _
  clear a_6
  have b_7 : Two (w3.alloc (.cells #[.int .i64 (bn), .int .i64 (bd)] 23)) (w3.heap.size) 23 (.int .i64 (bn)) (.int .i64 (bd)) := Two.at (by simp) _ _ _
  have hBa7 : Below w.heap.size w (w3.alloc (.cells #[.int .i64 (bn), .int .i64 (bd)] 23)) := hBa6.alloc hBa6.size _
  clear hBa6
  obtain ⟨ff0, ff1, ff2, ff3⟩ := f_7.facts
  obtain ⟨gf0, gf1, gf2, gf3⟩ := g_7.facts
  go_wp2_with fail
  refine (XhMu.out _).mono ?_
  rintro r w4 ⟨rfl, hbc⟩
  clear ff0
  clear ff1
  clear ff2
  clear ff3
  clear gf0
  clear gf1
  clear gf2
  clear gf3
  have f_8 : Two w4 (w.heap.size) 23 (.int .i64 (n)) (.int .i64 (d)) := f_7.below hbc f_7.lt
  clear f_7
  have g_8 : Two w4 (w.heap.size + 1) 23 (.int .i64 (m)) (.int .i64 (e)) := g_7.below hbc g_7.lt
  clear g_7
  have a_8 : Two w4 (w2.heap.size) 23 (.int .i64 (an)) (.int .i64 (ad)) := a_7.below hbc a_7.lt
  clear a_7
  have b_8 : Two w4 (w3.heap.size) 23 (.int .i64 (bn)) (.int .i64 (bd)) := b_7.below hbc b_7.lt
  clear b_7
  have hBa8 : Below w.heap.size w w4 := hBa7.trans (hbc.mono hBa7.size)
  clear hBa7 hbc
  have f_9 : Two (w4.alloc (.cells #[.int .i64 (cn), .int .i64 (cd)] 23)) (w.heap.size) 23 (.int .i64 (n)) (.int .i64 (d)) := f_8.alloc _
  clear f_8
  have g_9 : Two (w4.alloc (.cells #[.int .i64 (cn), .int .i64 (cd)] 23)) (w.heap.size + 1) 23 (.int .i64 (m)) (.int .i64 (e)) := g_8.alloc _
  clear g_8
  have a_9 : Two (w4.alloc (.cells #[.int .i64 (cn), .int .i64 (cd)] 23)) (w2.heap.size) 23 (.int .i64 (an)) (.int .i64 (ad)) := a_8.alloc _
  clear a_8
  have b_9 : Two (w4.alloc (.cells #[.int .i64 (cn), .int .i64 (cd)] 23)) (w3.heap.size) 23 (.int .i64 (bn)) (.int .i64 (bd)) := b_8.alloc _
  clear b_8
  have c_9 : Two (w4.alloc (.cells #[.int .i64 (cn), .int .i64 (cd)] 23)) (w4.heap.size) 23 (.int .i64 (cn)) (.int .i64 (cd)) := Two.at (by simp) _ _ _
  have hBa9 : Below w.heap.size w (w4.alloc (.cells #[.int .i64 (cn), .int .i64 (cd)] 23)) := hBa8.alloc hBa8.size _
  clear hBa8
  go_wp2_with fail
  refine (XhPa.out _ (hl.below hBa9)).mono ?_
  rintro r w5 ⟨rfl, hbc⟩
  have f_10 : Two w5 (w.heap.size) 23 (.int .i64 (n)) (.int .i64 (d)) := f_9.below hbc f_9.lt
  clear f_9
  have g_10 : Two w5 (w.heap.size + 1) 23 (.int .i64 (m)) (.int .i64 (e)) := g_9.below hbc g_9.lt
  clear g_9
  have a_10 : Two w5 (w2.heap.size) 23 (.int .i64 (an)) (.int .i64 (ad)) := a_9.below hbc a_9.lt
  clear a_9
  have b_10 : Two w5 (w3.heap.size) 23 (.int .i64 (bn)) (.int .i64 (bd)) := b_9.below hbc b_9.lt
  clear b_9
  have c_10 : Two w5 (w4.heap.size) 23 (.int .i64 (cn)) (.int .i64 (cd)) := c_9.below hbc c_9.lt
  clear c_9
  have hBa10 : Below w.heap.size w w5 := hBa9.trans (hbc.mono hBa9.size)
  clear hBa9 hbc
  have f_11 : Two (w5.alloc (.cells #[.int .i64 (pn), .int .i64 (pd)] 23)) (w.heap.size) 23 (.int .i64 (n)) (.int .i64 (d)) := f_10.alloc _
  clear f_10
  have g_11 : Two (w5.alloc (.cells #[.int .i64 (pn), .int .i64 (pd)] 23)) (w.heap.size + 1) 23 (.int .i64 (m)) (.int .i64 (e)) := g_10.alloc _
  clear g_10
  have a_11 : Two (w5.alloc (.cells #[.int .i64 (pn), .int .i64 (pd)] 23)) (w2.heap.size) 23 (.int .i64 (an)) (.int .i64 (ad)) := a_10.alloc _
  clear a_10
  have b_11 : Two (w5.alloc (.cells #[.int .i64 (pn), .int .i64 (pd)] 23)) (w3.heap.size) 23 (.int .i64 (bn)) (.int .i64 (bd)) := b_10.alloc _
  clear b_10
  have c_11 : Two (w5.alloc (.cells #[.int .i64 (pn), .int .i64 (pd)] 23)) (w4.heap.size) 23 (.int .i64 (cn)) (.int .i64 (cd)) := c_10.alloc _
  clear c_10
  have p_11 : Two (w5.alloc (.cells #[.int .i64 (pn), .int .i64 (pd)] 23)) (w5.heap.size) 23 (.int .i64 (pn)) (.int .i64 (pd)) := Two.at (by simp) _ _ _
  have hBa11 : Below w.heap.size w (w5.alloc (.cells #[.int .i64 (pn), .int .i64 (pd)] 23)) := hBa10.alloc hBa10.size _
  clear hBa10
  go_upto_region 8 with fail
  generalize (w5.alloc (.cells #[.int .i64 (pn), .int .i64 (pd)] 23)) = Wx at *
  go_cut [88] (fun v wx => v = .bool false ∧ Below Wx.heap.size Wx wx)
  case first => as_aux_lemma =>
    have hB0 : Below Wx.heap.size Wx Wx := Below.refl Wx.heap.size Wx
    have hA := XhA.out
    have hP := XhP.out
    have hB := XhB.out
    have hC := XhC.out
    clear XhA XhB XhC XhP XhZ XhR hSm
    rcases hA with ⟨rfl, va⟩ | za
    · skip
      rcases hB with ⟨rfl, vb⟩ | zb
      · skip
        rcases hC with ⟨rfl, vc⟩ | zc
        · skip
          rcases hP with ⟨rfl, vp⟩ | zp
          · skip
            obtain ⟨af0, af1, af2, af3⟩ := a_11.facts
            go_wp2_with fail
            refine (valid_yes _ _ va _).mono ?_
            rintro r Wx1 ⟨rfl, hbc⟩
            clear af0
            clear af1
            clear af2
            clear af3
            have f_1 : Two Wx1 (w.heap.size) 23 (.int .i64 (n)) (.int .i64 (d)) := f_11.below hbc f_11.lt
            clear f_11
            have g_1 : Two Wx1 (w.heap.size + 1) 23 (.int .i64 (m)) (.int .i64 (e)) := g_11.below hbc g_11.lt
            clear g_11
            have a_1 : Two Wx1 (w2.heap.size) 23 (.int .i64 (an)) (.int .i64 (ad)) := a_11.below hbc a_11.lt
            clear a_11
            have b_1 : Two Wx1 (w3.heap.size) 23 (.int .i64 (bn)) (.int .i64 (bd)) := b_11.below hbc b_11.lt
            clear b_11
            have c_1 : Two Wx1 (w4.heap.size) 23 (.int .i64 (cn)) (.int .i64 (cd)) := c_11.below hbc c_11.lt
            clear c_11
            have p_1 : Two Wx1 (w5.heap.size) 23 (.int .i64 (pn)) (.int .i64 (pd)) := p_11.below hbc p_11.lt
            clear p_11
            have hBa1 : Below Wx.heap.size Wx Wx1 := hB0.trans (hbc.mono hB0.size)
            clear hB0 hbc
            obtain ⟨bf0, bf1, bf2, bf3⟩ := b_1.facts
            go_wp2_with fail
            refine (valid_yes _ _ vb _).mono ?_
            rintro r Wx2 ⟨rfl, hbc⟩
            clear bf0
            clear bf1
            clear bf2
            clear bf3
            have f_2 : Two Wx2 (w.heap.size) 23 (.int .i64 (n)) (.int .i64 (d)) := f_1.below hbc f_1.lt
            clear f_1
            have g_2 : Two Wx2 (w.heap.size + 1) 23 (.int .i64 (m)) (.int .i64 (e)) := g_1.below hbc g_1.lt
            clear g_1
            have a_2 : Two Wx2 (w2.heap.size) 23 (.int .i64 (an)) (.int .i64 (ad)) := a_1.below hbc a_1.lt
            clear a_1
            have b_2 : Two Wx2 (w3.heap.size) 23 (.int .i64 (bn)) (.int .i64 (bd)) := b_1.below hbc b_1.lt
            clear b_1
            have c_2 : Two Wx2 (w4.heap.size) 23 (.int .i64 (cn)) (.int .i64 (cd)) := c_1.below hbc c_1.lt
            clear c_1
            have p_2 : Two Wx2 (w5.heap.size) 23 (.int .i64 (pn)) (.int .i64 (pd)) := p_1.below hbc p_1.lt
            clear p_1
            have hBa2 : Below Wx.heap.size Wx Wx2 := hBa1.trans (hbc.mono hBa1.size)
            clear hBa1 hbc
            obtain ⟨cf0, cf1, cf2, cf3⟩ := c_2.facts
            go_wp2_with fail
            refine (valid_yes _ _ vc _).mono ?_
            rintro r Wx3 ⟨rfl, hbc⟩
            clear cf0
            clear cf1
            clear cf2
            clear cf3
            have f_3 : Two Wx3 (w.heap.size) 23 (.int .i64 (n)) (.int .i64 (d)) := f_2.below hbc f_2.lt
            clear f_2
            have g_3 : Two Wx3 (w.heap.size + 1) 23 (.int .i64 (m)) (.int .i64 (e)) := g_2.below hbc g_2.lt
            clear g_2
            have a_3 : Two Wx3 (w2.heap.size) 23 (.int .i64 (an)) (.int .i64 (ad)) := a_2.below hbc a_2.lt
            clear a_2
            have b_3 : Two Wx3 (w3.heap.size) 23 (.int .i64 (bn)) (.int .i64 (bd)) := b_2.below hbc b_2.lt
            clear b_2
            have c_3 : Two Wx3 (w4.heap.size) 23 (.int .i64 (cn)) (.int .i64 (cd)) := c_2.below hbc c_2.lt
            clear c_2
            have p_3 : Two Wx3 (w5.heap.size) 23 (.int .i64 (pn)) (.int .i64 (pd)) := p_2.below hbc p_2.lt
            clear p_2
            have hBa3 : Below Wx.heap.size Wx Wx3 := hBa2.trans (hbc.mono hBa2.size)
            clear hBa2 hbc
            obtain ⟨pf0, pf1, pf2, pf3⟩ := p_3.facts
            go_wp2_with fail
            refine (valid_yes _ _ vp _).mono ?_
            rintro r Wx4 ⟨rfl, hbc⟩
            clear pf0
            clear pf1
            clear pf2
            clear pf3
            have f_4 : Two Wx4 (w.heap.size) 23 (.int .i64 (n)) (.int .i64 (d)) := f_3.below hbc f_3.lt
            clear f_3
            have g_4 : Two Wx4 (w.heap.size + 1) 23 (.int .i64 (m)) (.int .i64 (e)) := g_3.below hbc g_3.lt
            clear g_3
            have a_4 : Two Wx4 (w2.heap.size) 23 (.int .i64 (an)) (.int .i64 (ad)) := a_3.below hbc a_3.lt
            clear a_3
            have b_4 : Two Wx4 (w3.heap.size) 23 (.int .i64 (bn)) (.int .i64 (bd)) := b_3.below hbc b_3.lt
            clear b_3
            have c_4 : Two Wx4 (w4.heap.size) 23 (.int .i64 (cn)) (.int .i64 (cd)) := c_3.below hbc c_3.lt
            clear c_3
            have p_4 : Two Wx4 (w5.heap.size) 23 (.int .i64 (pn)) (.int .i64 (pd)) := p_3.below hbc p_3.lt
            clear p_3
            have hBa4 : Below Wx.heap.size Wx Wx4 := hBa3.trans (hbc.mono hBa3.size)
            clear hBa3 hbc
            go_wp2_with fail
            go_meet
            exact ⟨rfl, hBa4⟩
          · skip
            obtain ⟨af0, af1, af2, af3⟩ := a_11.facts
            go_wp2_with fail
            refine (valid_yes _ _ va _).mono ?_
            rintro r Wx1 ⟨rfl, hbc⟩
            clear af0
            clear af1
            clear af2
            clear af3
            have f_1 : Two Wx1 (w.heap.size) 23 (.int .i64 (n)) (.int .i64 (d)) := f_11.below hbc f_11.lt
            clear f_11
            have g_1 : Two Wx1 (w.heap.size + 1) 23 (.int .i64 (m)) (.int .i64 (e)) := g_11.below hbc g_11.lt
            clear g_11
            have a_1 : Two Wx1 (w2.heap.size) 23 (.int .i64 (an)) (.int .i64 (ad)) := a_11.below hbc a_11.lt
            clear a_11
            have b_1 : Two Wx1 (w3.heap.size) 23 (.int .i64 (bn)) (.int .i64 (bd)) := b_11.below hbc b_11.lt
            clear b_11
            have c_1 : Two Wx1 (w4.heap.size) 23 (.int .i64 (cn)) (.int .i64 (cd)) := c_11.below hbc c_11.lt
            clear c_11
            have p_1 : Two Wx1 (w5.heap.size) 23 (.int .i64 (pn)) (.int .i64 (pd)) := p_11.below hbc p_11.lt
            clear p_11
            have hBa1 : Below Wx.heap.size Wx Wx1 := hB0.trans (hbc.mono hB0.size)
            clear hB0 hbc
            obtain ⟨bf0, bf1, bf2, bf3⟩ := b_1.facts
            go_wp2_with fail
            refine (valid_yes _ _ vb _).mono ?_
            rintro r Wx2 ⟨rfl, hbc⟩
            clear bf0
            clear bf1
            clear bf2
            clear bf3
            have f_2 : Two Wx2 (w.heap.size) 23 (.int .i64 (n)) (.int .i64 (d)) := f_1.below hbc f_1.lt
            clear f_1
            have g_2 : Two Wx2 (w.heap.size + 1) 23 (.int .i64 (m)) (.int .i64 (e)) := g_1.below hbc g_1.lt
            clear g_1
            have a_2 : Two Wx2 (w2.heap.size) 23 (.int .i64 (an)) (.int .i64 (ad)) := a_1.below hbc a_1.lt
            clear a_1
            have b_2 : Two Wx2 (w3.heap.size) 23 (.int .i64 (bn)) (.int .i64 (bd)) := b_1.below hbc b_1.lt
            clear b_1
            have c_2 : Two Wx2 (w4.heap.size) 23 (.int .i64 (cn)) (.int .i64 (cd)) := c_1.below hbc c_1.lt
            clear c_1
            have p_2 : Two Wx2 (w5.heap.size) 23 (.int .i64 (pn)) (.int .i64 (pd)) := p_1.below hbc p_1.lt
            clear p_1
            have hBa2 : Below Wx.heap.size Wx Wx2 := hBa1.trans (hbc.mono hBa1.size)
            clear hBa1 hbc
            obtain ⟨cf0, cf1, cf2, cf3⟩ := c_2.facts
            go_wp2_with fail
            refine (valid_yes _ _ vc _).mono ?_
            rintro r Wx3 ⟨rfl, hbc⟩
            clear cf0
            clear cf1
            clear cf2
            clear cf3
            have f_3 : Two Wx3 (w.heap.size) 23 (.int .i64 (n)) (.int .i64 (d)) := f_2.below hbc f_2.lt
            clear f_2
            have g_3 : Two Wx3 (w.heap.size + 1) 23 (.int .i64 (m)) (.int .i64 (e)) := g_2.below hbc g_2.lt
            clear g_2
            have a_3 : Two Wx3 (w2.heap.size) 23 (.int .i64 (an)) (.int .i64 (ad)) := a_2.below hbc a_2.lt
            clear a_2
            have b_3 : Two Wx3 (w3.heap.size) 23 (.int .i64 (bn)) (.int .i64 (bd)) := b_2.below hbc b_2.lt
            clear b_2
            have c_3 : Two Wx3 (w4.heap.size) 23 (.int .i64 (cn)) (.int .i64 (cd)) := c_2.below hbc c_2.lt
            clear c_2
            have p_3 : Two Wx3 (w5.heap.size) 23 (.int .i64 (pn)) (.int .i64 (pd)) := p_2.below hbc p_2.lt
            clear p_2
            have hBa3 : Below Wx.heap.size Wx Wx3 := hBa2.trans (hbc.mono hBa2.size)
            clear hBa2 hbc
            go_wp2_with fail
            go_meet
            exact ⟨rfl, hBa3⟩
        · skip
          rcases hP with ⟨rfl, vp⟩ | zp
          · skip
            obtain ⟨af0, af1, af2, af3⟩ := a_11.facts
            go_wp2_with fail
            refine (valid_yes _ _ va _).mono ?_
            rintro r Wx1 ⟨rfl, hbc⟩
            clear af0
            clear af1
            clear af2
            clear af3
            have f_1 : Two Wx1 (w.heap.size) 23 (.int .i64 (n)) (.int .i64 (d)) := f_11.below hbc f_11.lt
            clear f_11
            have g_1 : Two Wx1 (w.heap.size + 1) 23 (.int .i64 (m)) (.int .i64 (e)) := g_11.below hbc g_11.lt
            clear g_11
            have a_1 : Two Wx1 (w2.heap.size) 23 (.int .i64 (an)) (.int .i64 (ad)) := a_11.below hbc a_11.lt
            clear a_11
            have b_1 : Two Wx1 (w3.heap.size) 23 (.int .i64 (bn)) (.int .i64 (bd)) := b_11.below hbc b_11.lt
            clear b_11
            have c_1 : Two Wx1 (w4.heap.size) 23 (.int .i64 (cn)) (.int .i64 (cd)) := c_11.below hbc c_11.lt
            clear c_11
            have p_1 : Two Wx1 (w5.heap.size) 23 (.int .i64 (pn)) (.int .i64 (pd)) := p_11.below hbc p_11.lt
            clear p_11
            have hBa1 : Below Wx.heap.size Wx Wx1 := hB0.trans (hbc.mono hB0.size)
            clear hB0 hbc
            obtain ⟨bf0, bf1, bf2, bf3⟩ := b_1.facts
            go_wp2_with fail
            refine (valid_yes _ _ vb _).mono ?_
            rintro r Wx2 ⟨rfl, hbc⟩
            clear bf0
            clear bf1
            clear bf2
            clear bf3
            have f_2 : Two Wx2 (w.heap.size) 23 (.int .i64 (n)) (.int .i64 (d)) := f_1.below hbc f_1.lt
            clear f_1
            have g_2 : Two Wx2 (w.heap.size + 1) 23 (.int .i64 (m)) (.int .i64 (e)) := g_1.below hbc g_1.lt
            clear g_1
            have a_2 : Two Wx2 (w2.heap.size) 23 (.int .i64 (an)) (.int .i64 (ad)) := a_1.below hbc a_1.lt
            clear a_1
            have b_2 : Two Wx2 (w3.heap.size) 23 (.int .i64 (bn)) (.int .i64 (bd)) := b_1.below hbc b_1.lt
            clear b_1
            have c_2 : Two Wx2 (w4.heap.size) 23 (.int .i64 (cn)) (.int .i64 (cd)) := c_1.below hbc c_1.lt
            clear c_1
            have p_2 : Two Wx2 (w5.heap.size) 23 (.int .i64 (pn)) (.int .i64 (pd)) := p_1.below hbc p_1.lt
            clear p_1
            have hBa2 : Below Wx.heap.size Wx Wx2 := hBa1.trans (hbc.mono hBa1.size)
            clear hBa1 hbc
            obtain ⟨pf0, pf1, pf2, pf3⟩ := p_2.facts
            go_wp2_with fail
            refine (valid_yes _ _ vp _).mono ?_
            rintro r Wx3 ⟨rfl, hbc⟩
            clear pf0
            clear pf1
            clear pf2
            clear pf3
            have f_3 : Two Wx3 (w.heap.size) 23 (.int .i64 (n)) (.int .i64 (d)) := f_2.below hbc f_2.lt
            clear f_2
            have g_3 : Two Wx3 (w.heap.size + 1) 23 (.int .i64 (m)) (.int .i64 (e)) := g_2.below hbc g_2.lt
            clear g_2
            have a_3 : Two Wx3 (w2.heap.size) 23 (.int .i64 (an)) (.int .i64 (ad)) := a_2.below hbc a_2.lt
            clear a_2
            have b_3 : Two Wx3 (w3.heap.size) 23 (.int .i64 (bn)) (.int .i64 (bd)) := b_2.below hbc b_2.lt
            clear b_2
            have c_3 : Two Wx3 (w4.heap.size) 23 (.int .i64 (cn)) (.int .i64 (cd)) := c_2.below hbc c_2.lt
            clear c_2
            have p_3 : Two Wx3 (w5.heap.size) 23 (.int .i64 (pn)) (.int .i64 (pd)) := p_2.below hbc p_2.lt
            clear p_2
            have hBa3 : Below Wx.heap.size Wx Wx3 := hBa2.trans (hbc.mono hBa2.size)
            clear hBa2 hbc
            go_wp2_with fail
            go_meet
            exact ⟨rfl, hBa3⟩
          · skip
            obtain ⟨af0, af1, af2, af3⟩ := a_11.facts
            go_wp2_with fail
            refine (valid_yes _ _ va _).mono ?_
            rintro r Wx1 ⟨rfl, hbc⟩
            clear af0
            clear af1
            clear af2
            clear af3
            have f_1 : Two Wx1 (w.heap.size) 23 (.int .i64 (n)) (.int .i64 (d)) := f_11.below hbc f_11.lt
            clear f_11
            have g_1 : Two Wx1 (w.heap.size + 1) 23 (.int .i64 (m)) (.int .i64 (e)) := g_11.below hbc g_11.lt
            clear g_11
            have a_1 : Two Wx1 (w2.heap.size) 23 (.int .i64 (an)) (.int .i64 (ad)) := a_11.below hbc a_11.lt
            clear a_11
            have b_1 : Two Wx1 (w3.heap.size) 23 (.int .i64 (bn)) (.int .i64 (bd)) := b_11.below hbc b_11.lt
            clear b_11
            have c_1 : Two Wx1 (w4.heap.size) 23 (.int .i64 (cn)) (.int .i64 (cd)) := c_11.below hbc c_11.lt
            clear c_11
            have p_1 : Two Wx1 (w5.heap.size) 23 (.int .i64 (pn)) (.int .i64 (pd)) := p_11.below hbc p_11.lt
            clear p_11
            have hBa1 : Below Wx.heap.size Wx Wx1 := hB0.trans (hbc.mono hB0.size)
            clear hB0 hbc
            obtain ⟨bf0, bf1, bf2, bf3⟩ := b_1.facts
            go_wp2_with fail
            refine (valid_yes _ _ vb _).mono ?_
            rintro r Wx2 ⟨rfl, hbc⟩
            clear bf0
            clear bf1
            clear bf2
            clear bf3
            have f_2 : Two Wx2 (w.heap.size) 23 (.int .i64 (n)) (.int .i64 (d)) := f_1.below hbc f_1.lt
            clear f_1
            have g_2 : Two Wx2 (w.heap.size + 1) 23 (.int .i64 (m)) (.int .i64 (e)) := g_1.below hbc g_1.lt
            clear g_1
            have a_2 : Two Wx2 (w2.heap.size) 23 (.int .i64 (an)) (.int .i64 (ad)) := a_1.below hbc a_1.lt
            clear a_1
            have b_2 : Two Wx2 (w3.heap.size) 23 (.int .i64 (bn)) (.int .i64 (bd)) := b_1.below hbc b_1.lt
            clear b_1
            have c_2 : Two Wx2 (w4.heap.size) 23 (.int .i64 (cn)) (.int .i64 (cd)) := c_1.below hbc c_1.lt
            clear c_1
            have p_2 : Two Wx2 (w5.heap.size) 23 (.int .i64 (pn)) (.int .i64 (pd)) := p_1.below hbc p_1.lt
            clear p_1
            have hBa2 : Below Wx.heap.size Wx Wx2 := hBa1.trans (hbc.mono hBa1.size)
            clear hBa1 hbc
            go_wp2_with fail
            go_meet
            exact ⟨rfl, hBa2⟩
      · skip
        rcases hC with ⟨rfl, vc⟩ | zc
        · skip
          rcases hP with ⟨rfl, vp⟩ | zp
          · skip
            obtain ⟨af0, af1, af2, af3⟩ := a_11.facts
            go_wp2_with fail
            refine (valid_yes _ _ va _).mono ?_
            rintro r Wx1 ⟨rfl, hbc⟩
            clear af0
            clear af1
            clear af2
            clear af3
            have f_1 : Two Wx1 (w.heap.size) 23 (.int .i64 (n)) (.int .i64 (d)) := f_11.below hbc f_11.lt
            clear f_11
            have g_1 : Two Wx1 (w.heap.size + 1) 23 (.int .i64 (m)) (.int .i64 (e)) := g_11.below hbc g_11.lt
            clear g_11
            have a_1 : Two Wx1 (w2.heap.size) 23 (.int .i64 (an)) (.int .i64 (ad)) := a_11.below hbc a_11.lt
            clear a_11
            have b_1 : Two Wx1 (w3.heap.size) 23 (.int .i64 (bn)) (.int .i64 (bd)) := b_11.below hbc b_11.lt
            clear b_11
            have c_1 : Two Wx1 (w4.heap.size) 23 (.int .i64 (cn)) (.int .i64 (cd)) := c_11.below hbc c_11.lt
            clear c_11
            have p_1 : Two Wx1 (w5.heap.size) 23 (.int .i64 (pn)) (.int .i64 (pd)) := p_11.below hbc p_11.lt
            clear p_11
            have hBa1 : Below Wx.heap.size Wx Wx1 := hB0.trans (hbc.mono hB0.size)
            clear hB0 hbc
            obtain ⟨cf0, cf1, cf2, cf3⟩ := c_1.facts
            go_wp2_with fail
            refine (valid_yes _ _ vc _).mono ?_
            rintro r Wx2 ⟨rfl, hbc⟩
            clear cf0
            clear cf1
            clear cf2
            clear cf3
            have f_2 : Two Wx2 (w.heap.size) 23 (.int .i64 (n)) (.int .i64 (d)) := f_1.below hbc f_1.lt
            clear f_1
            have g_2 : Two Wx2 (w.heap.size + 1) 23 (.int .i64 (m)) (.int .i64 (e)) := g_1.below hbc g_1.lt
            clear g_1
            have a_2 : Two Wx2 (w2.heap.size) 23 (.int .i64 (an)) (.int .i64 (ad)) := a_1.below hbc a_1.lt
            clear a_1
            have b_2 : Two Wx2 (w3.heap.size) 23 (.int .i64 (bn)) (.int .i64 (bd)) := b_1.below hbc b_1.lt
            clear b_1
            have c_2 : Two Wx2 (w4.heap.size) 23 (.int .i64 (cn)) (.int .i64 (cd)) := c_1.below hbc c_1.lt
            clear c_1
            have p_2 : Two Wx2 (w5.heap.size) 23 (.int .i64 (pn)) (.int .i64 (pd)) := p_1.below hbc p_1.lt
            clear p_1
            have hBa2 : Below Wx.heap.size Wx Wx2 := hBa1.trans (hbc.mono hBa1.size)
            clear hBa1 hbc
            obtain ⟨pf0, pf1, pf2, pf3⟩ := p_2.facts
            go_wp2_with fail
            refine (valid_yes _ _ vp _).mono ?_
            rintro r Wx3 ⟨rfl, hbc⟩
            clear pf0
            clear pf1
            clear pf2
            clear pf3
            have f_3 : Two Wx3 (w.heap.size) 23 (.int .i64 (n)) (.int .i64 (d)) := f_2.below hbc f_2.lt
            clear f_2
            have g_3 : Two Wx3 (w.heap.size + 1) 23 (.int .i64 (m)) (.int .i64 (e)) := g_2.below hbc g_2.lt
            clear g_2
            have a_3 : Two Wx3 (w2.heap.size) 23 (.int .i64 (an)) (.int .i64 (ad)) := a_2.below hbc a_2.lt
            clear a_2
            have b_3 : Two Wx3 (w3.heap.size) 23 (.int .i64 (bn)) (.int .i64 (bd)) := b_2.below hbc b_2.lt
            clear b_2
            have c_3 : Two Wx3 (w4.heap.size) 23 (.int .i64 (cn)) (.int .i64 (cd)) := c_2.below hbc c_2.lt
            clear c_2
            have p_3 : Two Wx3 (w5.heap.size) 23 (.int .i64 (pn)) (.int .i64 (pd)) := p_2.below hbc p_2.lt
            clear p_2
            have hBa3 : Below Wx.heap.size Wx Wx3 := hBa2.trans (hbc.mono hBa2.size)
            clear hBa2 hbc
            go_wp2_with fail
            go_meet
            exact ⟨rfl, hBa3⟩
          · skip
            obtain ⟨af0, af1, af2, af3⟩ := a_11.facts
            go_wp2_with fail
            refine (valid_yes _ _ va _).mono ?_
            rintro r Wx1 ⟨rfl, hbc⟩
            clear af0
            clear af1
            clear af2
            clear af3
            have f_1 : Two Wx1 (w.heap.size) 23 (.int .i64 (n)) (.int .i64 (d)) := f_11.below hbc f_11.lt
            clear f_11
            have g_1 : Two Wx1 (w.heap.size + 1) 23 (.int .i64 (m)) (.int .i64 (e)) := g_11.below hbc g_11.lt
            clear g_11
            have a_1 : Two Wx1 (w2.heap.size) 23 (.int .i64 (an)) (.int .i64 (ad)) := a_11.below hbc a_11.lt
            clear a_11
            have b_1 : Two Wx1 (w3.heap.size) 23 (.int .i64 (bn)) (.int .i64 (bd)) := b_11.below hbc b_11.lt
            clear b_11
            have c_1 : Two Wx1 (w4.heap.size) 23 (.int .i64 (cn)) (.int .i64 (cd)) := c_11.below hbc c_11.lt
            clear c_11
            have p_1 : Two Wx1 (w5.heap.size) 23 (.int .i64 (pn)) (.int .i64 (pd)) := p_11.below hbc p_11.lt
            clear p_11
            have hBa1 : Below Wx.heap.size Wx Wx1 := hB0.trans (hbc.mono hB0.size)
            clear hB0 hbc
            obtain ⟨cf0, cf1, cf2, cf3⟩ := c_1.facts
            go_wp2_with fail
            refine (valid_yes _ _ vc _).mono ?_
            rintro r Wx2 ⟨rfl, hbc⟩
            clear cf0
            clear cf1
            clear cf2
            clear cf3
            have f_2 : Two Wx2 (w.heap.size) 23 (.int .i64 (n)) (.int .i64 (d)) := f_1.below hbc f_1.lt
            clear f_1
            have g_2 : Two Wx2 (w.heap.size + 1) 23 (.int .i64 (m)) (.int .i64 (e)) := g_1.below hbc g_1.lt
            clear g_1
            have a_2 : Two Wx2 (w2.heap.size) 23 (.int .i64 (an)) (.int .i64 (ad)) := a_1.below hbc a_1.lt
            clear a_1
            have b_2 : Two Wx2 (w3.heap.size) 23 (.int .i64 (bn)) (.int .i64 (bd)) := b_1.below hbc b_1.lt
            clear b_1
            have c_2 : Two Wx2 (w4.heap.size) 23 (.int .i64 (cn)) (.int .i64 (cd)) := c_1.below hbc c_1.lt
            clear c_1
            have p_2 : Two Wx2 (w5.heap.size) 23 (.int .i64 (pn)) (.int .i64 (pd)) := p_1.below hbc p_1.lt
            clear p_1
            have hBa2 : Below Wx.heap.size Wx Wx2 := hBa1.trans (hbc.mono hBa1.size)
            clear hBa1 hbc
            go_wp2_with fail
            go_meet
            exact ⟨rfl, hBa2⟩
        · skip
          rcases hP with ⟨rfl, vp⟩ | zp
          · skip
            obtain ⟨af0, af1, af2, af3⟩ := a_11.facts
            go_wp2_with fail
            refine (valid_yes _ _ va _).mono ?_
            rintro r Wx1 ⟨rfl, hbc⟩
            clear af0
            clear af1
            clear af2
            clear af3
            have f_1 : Two Wx1 (w.heap.size) 23 (.int .i64 (n)) (.int .i64 (d)) := f_11.below hbc f_11.lt
            clear f_11
            have g_1 : Two Wx1 (w.heap.size + 1) 23 (.int .i64 (m)) (.int .i64 (e)) := g_11.below hbc g_11.lt
            clear g_11
            have a_1 : Two Wx1 (w2.heap.size) 23 (.int .i64 (an)) (.int .i64 (ad)) := a_11.below hbc a_11.lt
            clear a_11
            have b_1 : Two Wx1 (w3.heap.size) 23 (.int .i64 (bn)) (.int .i64 (bd)) := b_11.below hbc b_11.lt
            clear b_11
            have c_1 : Two Wx1 (w4.heap.size) 23 (.int .i64 (cn)) (.int .i64 (cd)) := c_11.below hbc c_11.lt
            clear c_11
            have p_1 : Two Wx1 (w5.heap.size) 23 (.int .i64 (pn)) (.int .i64 (pd)) := p_11.below hbc p_11.lt
            clear p_11
            have hBa1 : Below Wx.heap.size Wx Wx1 := hB0.trans (hbc.mono hB0.size)
            clear hB0 hbc
            obtain ⟨pf0, pf1, pf2, pf3⟩ := p_1.facts
            go_wp2_with fail
            refine (valid_yes _ _ vp _).mono ?_
            rintro r Wx2 ⟨rfl, hbc⟩
            clear pf0
            clear pf1
            clear pf2
            clear pf3
            have f_2 : Two Wx2 (w.heap.size) 23 (.int .i64 (n)) (.int .i64 (d)) := f_1.below hbc f_1.lt
            clear f_1
            have g_2 : Two Wx2 (w.heap.size + 1) 23 (.int .i64 (m)) (.int .i64 (e)) := g_1.below hbc g_1.lt
            clear g_1
            have a_2 : Two Wx2 (w2.heap.size) 23 (.int .i64 (an)) (.int .i64 (ad)) := a_1.below hbc a_1.lt
            clear a_1
            have b_2 : Two Wx2 (w3.heap.size) 23 (.int .i64 (bn)) (.int .i64 (bd)) := b_1.below hbc b_1.lt
            clear b_1
            have c_2 : Two Wx2 (w4.heap.size) 23 (.int .i64 (cn)) (.int .i64 (cd)) := c_1.below hbc c_1.lt
            clear c_1
            have p_2 : Two Wx2 (w5.heap.size) 23 (.int .i64 (pn)) (.int .i64 (pd)) := p_1.below hbc p_1.lt
            clear p_1
            have hBa2 : Below Wx.heap.size Wx Wx2 := hBa1.trans (hbc.mono hBa1.size)
            clear hBa1 hbc
            go_wp2_with fail
            go_meet
            exact ⟨rfl, hBa2⟩
          · skip
            obtain ⟨af0, af1, af2, af3⟩ := a_11.facts
            go_wp2_with fail
            refine (valid_yes _ _ va _).mono ?_
            rintro r Wx1 ⟨rfl, hbc⟩
            clear af0
            clear af1
            clear af2
            clear af3
            have f_1 : Two Wx1 (w.heap.size) 23 (.int .i64 (n)) (.int .i64 (d)) := f_11.below hbc f_11.lt
            clear f_11
            have g_1 : Two Wx1 (w.heap.size + 1) 23 (.int .i64 (m)) (.int .i64 (e)) := g_11.below hbc g_11.lt
            clear g_11
            have a_1 : Two Wx1 (w2.heap.size) 23 (.int .i64 (an)) (.int .i64 (ad)) := a_11.below hbc a_11.lt
            clear a_11
            have b_1 : Two Wx1 (w3.heap.size) 23 (.int .i64 (bn)) (.int .i64 (bd)) := b_11.below hbc b_11.lt
            clear b_11
            have c_1 : Two Wx1 (w4.heap.size) 23 (.int .i64 (cn)) (.int .i64 (cd)) := c_11.below hbc c_11.lt
            clear c_11
            have p_1 : Two Wx1 (w5.heap.size) 23 (.int .i64 (pn)) (.int .i64 (pd)) := p_11.below hbc p_11.lt
            clear p_11
            have hBa1 : Below Wx.heap.size Wx Wx1 := hB0.trans (hbc.mono hB0.size)
            clear hB0 hbc
            go_wp2_with fail
            go_meet
            exact ⟨rfl, hBa1⟩
    · skip
      rcases hB with ⟨rfl, vb⟩ | zb
      · skip
        rcases hC with ⟨rfl, vc⟩ | zc
        · skip
          rcases hP with ⟨rfl, vp⟩ | zp
          · skip
            obtain ⟨bf0, bf1, bf2, bf3⟩ := b_11.facts
            go_wp2_with fail
            refine (valid_yes _ _ vb _).mono ?_
            rintro r Wx1 ⟨rfl, hbc⟩
            clear bf0
            clear bf1
            clear bf2
            clear bf3
            have f_1 : Two Wx1 (w.heap.size) 23 (.int .i64 (n)) (.int .i64 (d)) := f_11.below hbc f_11.lt
            clear f_11
            have g_1 : Two Wx1 (w.heap.size + 1) 23 (.int .i64 (m)) (.int .i64 (e)) := g_11.below hbc g_11.lt
            clear g_11
            have a_1 : Two Wx1 (w2.heap.size) 23 (.int .i64 (an)) (.int .i64 (ad)) := a_11.below hbc a_11.lt
            clear a_11
            have b_1 : Two Wx1 (w3.heap.size) 23 (.int .i64 (bn)) (.int .i64 (bd)) := b_11.below hbc b_11.lt
            clear b_11
            have c_1 : Two Wx1 (w4.heap.size) 23 (.int .i64 (cn)) (.int .i64 (cd)) := c_11.below hbc c_11.lt
            clear c_11
            have p_1 : Two Wx1 (w5.heap.size) 23 (.int .i64 (pn)) (.int .i64 (pd)) := p_11.below hbc p_11.lt
            clear p_11
            have hBa1 : Below Wx.heap.size Wx Wx1 := hB0.trans (hbc.mono hB0.size)
            clear hB0 hbc
            obtain ⟨cf0, cf1, cf2, cf3⟩ := c_1.facts
            go_wp2_with fail
            refine (valid_yes _ _ vc _).mono ?_
            rintro r Wx2 ⟨rfl, hbc⟩
            clear cf0
            clear cf1
            clear cf2
            clear cf3
            have f_2 : Two Wx2 (w.heap.size) 23 (.int .i64 (n)) (.int .i64 (d)) := f_1.below hbc f_1.lt
            clear f_1
            have g_2 : Two Wx2 (w.heap.size + 1) 23 (.int .i64 (m)) (.int .i64 (e)) := g_1.below hbc g_1.lt
            clear g_1
            have a_2 : Two Wx2 (w2.heap.size) 23 (.int .i64 (an)) (.int .i64 (ad)) := a_1.below hbc a_1.lt
            clear a_1
            have b_2 : Two Wx2 (w3.heap.size) 23 (.int .i64 (bn)) (.int .i64 (bd)) := b_1.below hbc b_1.lt
            clear b_1
            have c_2 : Two Wx2 (w4.heap.size) 23 (.int .i64 (cn)) (.int .i64 (cd)) := c_1.below hbc c_1.lt
            clear c_1
            have p_2 : Two Wx2 (w5.heap.size) 23 (.int .i64 (pn)) (.int .i64 (pd)) := p_1.below hbc p_1.lt
            clear p_1
            have hBa2 : Below Wx.heap.size Wx Wx2 := hBa1.trans (hbc.mono hBa1.size)
            clear hBa1 hbc
            obtain ⟨pf0, pf1, pf2, pf3⟩ := p_2.facts
            go_wp2_with fail
            refine (valid_yes _ _ vp _).mono ?_
            rintro r Wx3 ⟨rfl, hbc⟩
            clear pf0
            clear pf1
            clear pf2
            clear pf3
            have f_3 : Two Wx3 (w.heap.size) 23 (.int .i64 (n)) (.int .i64 (d)) := f_2.below hbc f_2.lt
            clear f_2
            have g_3 : Two Wx3 (w.heap.size + 1) 23 (.int .i64 (m)) (.int .i64 (e)) := g_2.below hbc g_2.lt
            clear g_2
            have a_3 : Two Wx3 (w2.heap.size) 23 (.int .i64 (an)) (.int .i64 (ad)) := a_2.below hbc a_2.lt
            clear a_2
            have b_3 : Two Wx3 (w3.heap.size) 23 (.int .i64 (bn)) (.int .i64 (bd)) := b_2.below hbc b_2.lt
            clear b_2
            have c_3 : Two Wx3 (w4.heap.size) 23 (.int .i64 (cn)) (.int .i64 (cd)) := c_2.below hbc c_2.lt
            clear c_2
            have p_3 : Two Wx3 (w5.heap.size) 23 (.int .i64 (pn)) (.int .i64 (pd)) := p_2.below hbc p_2.lt
            clear p_2
            have hBa3 : Below Wx.heap.size Wx Wx3 := hBa2.trans (hbc.mono hBa2.size)
            clear hBa2 hbc
            go_wp2_with fail
            go_meet
            exact ⟨rfl, hBa3⟩
          · skip
            obtain ⟨bf0, bf1, bf2, bf3⟩ := b_11.facts
            go_wp2_with fail
            refine (valid_yes _ _ vb _).mono ?_
            rintro r Wx1 ⟨rfl, hbc⟩
            clear bf0
            clear bf1
            clear bf2
            clear bf3
            have f_1 : Two Wx1 (w.heap.size) 23 (.int .i64 (n)) (.int .i64 (d)) := f_11.below hbc f_11.lt
            clear f_11
            have g_1 : Two Wx1 (w.heap.size + 1) 23 (.int .i64 (m)) (.int .i64 (e)) := g_11.below hbc g_11.lt
            clear g_11
            have a_1 : Two Wx1 (w2.heap.size) 23 (.int .i64 (an)) (.int .i64 (ad)) := a_11.below hbc a_11.lt
            clear a_11
            have b_1 : Two Wx1 (w3.heap.size) 23 (.int .i64 (bn)) (.int .i64 (bd)) := b_11.below hbc b_11.lt
            clear b_11
            have c_1 : Two Wx1 (w4.heap.size) 23 (.int .i64 (cn)) (.int .i64 (cd)) := c_11.below hbc c_11.lt
            clear c_11
            have p_1 : Two Wx1 (w5.heap.size) 23 (.int .i64 (pn)) (.int .i64 (pd)) := p_11.below hbc p_11.lt
            clear p_11
            have hBa1 : Below Wx.heap.size Wx Wx1 := hB0.trans (hbc.mono hB0.size)
            clear hB0 hbc
            obtain ⟨cf0, cf1, cf2, cf3⟩ := c_1.facts
            go_wp2_with fail
            refine (valid_yes _ _ vc _).mono ?_
            rintro r Wx2 ⟨rfl, hbc⟩
            clear cf0
            clear cf1
            clear cf2
            clear cf3
            have f_2 : Two Wx2 (w.heap.size) 23 (.int .i64 (n)) (.int .i64 (d)) := f_1.below hbc f_1.lt
            clear f_1
            have g_2 : Two Wx2 (w.heap.size + 1) 23 (.int .i64 (m)) (.int .i64 (e)) := g_1.below hbc g_1.lt
            clear g_1
            have a_2 : Two Wx2 (w2.heap.size) 23 (.int .i64 (an)) (.int .i64 (ad)) := a_1.below hbc a_1.lt
            clear a_1
            have b_2 : Two Wx2 (w3.heap.size) 23 (.int .i64 (bn)) (.int .i64 (bd)) := b_1.below hbc b_1.lt
            clear b_1
            have c_2 : Two Wx2 (w4.heap.size) 23 (.int .i64 (cn)) (.int .i64 (cd)) := c_1.below hbc c_1.lt
            clear c_1
            have p_2 : Two Wx2 (w5.heap.size) 23 (.int .i64 (pn)) (.int .i64 (pd)) := p_1.below hbc p_1.lt
            clear p_1
            have hBa2 : Below Wx.heap.size Wx Wx2 := hBa1.trans (hbc.mono hBa1.size)
            clear hBa1 hbc
            go_wp2_with fail
            go_meet
            exact ⟨rfl, hBa2⟩
        · skip
          rcases hP with ⟨rfl, vp⟩ | zp
          · skip
            obtain ⟨bf0, bf1, bf2, bf3⟩ := b_11.facts
            go_wp2_with fail
            refine (valid_yes _ _ vb _).mono ?_
            rintro r Wx1 ⟨rfl, hbc⟩
            clear bf0
            clear bf1
            clear bf2
            clear bf3
            have f_1 : Two Wx1 (w.heap.size) 23 (.int .i64 (n)) (.int .i64 (d)) := f_11.below hbc f_11.lt
            clear f_11
            have g_1 : Two Wx1 (w.heap.size + 1) 23 (.int .i64 (m)) (.int .i64 (e)) := g_11.below hbc g_11.lt
            clear g_11
            have a_1 : Two Wx1 (w2.heap.size) 23 (.int .i64 (an)) (.int .i64 (ad)) := a_11.below hbc a_11.lt
            clear a_11
            have b_1 : Two Wx1 (w3.heap.size) 23 (.int .i64 (bn)) (.int .i64 (bd)) := b_11.below hbc b_11.lt
            clear b_11
            have c_1 : Two Wx1 (w4.heap.size) 23 (.int .i64 (cn)) (.int .i64 (cd)) := c_11.below hbc c_11.lt
            clear c_11
            have p_1 : Two Wx1 (w5.heap.size) 23 (.int .i64 (pn)) (.int .i64 (pd)) := p_11.below hbc p_11.lt
            clear p_11
            have hBa1 : Below Wx.heap.size Wx Wx1 := hB0.trans (hbc.mono hB0.size)
            clear hB0 hbc
            obtain ⟨pf0, pf1, pf2, pf3⟩ := p_1.facts
            go_wp2_with fail
            refine (valid_yes _ _ vp _).mono ?_
            rintro r Wx2 ⟨rfl, hbc⟩
            clear pf0
            clear pf1
            clear pf2
            clear pf3
            have f_2 : Two Wx2 (w.heap.size) 23 (.int .i64 (n)) (.int .i64 (d)) := f_1.below hbc f_1.lt
            clear f_1
            have g_2 : Two Wx2 (w.heap.size + 1) 23 (.int .i64 (m)) (.int .i64 (e)) := g_1.below hbc g_1.lt
            clear g_1
            have a_2 : Two Wx2 (w2.heap.size) 23 (.int .i64 (an)) (.int .i64 (ad)) := a_1.below hbc a_1.lt
            clear a_1
            have b_2 : Two Wx2 (w3.heap.size) 23 (.int .i64 (bn)) (.int .i64 (bd)) := b_1.below hbc b_1.lt
            clear b_1
            have c_2 : Two Wx2 (w4.heap.size) 23 (.int .i64 (cn)) (.int .i64 (cd)) := c_1.below hbc c_1.lt
            clear c_1
            have p_2 : Two Wx2 (w5.heap.size) 23 (.int .i64 (pn)) (.int .i64 (pd)) := p_1.below hbc p_1.lt
            clear p_1
            have hBa2 : Below Wx.heap.size Wx Wx2 := hBa1.trans (hbc.mono hBa1.size)
            clear hBa1 hbc
            go_wp2_with fail
            go_meet
            exact ⟨rfl, hBa2⟩
          · skip
            obtain ⟨bf0, bf1, bf2, bf3⟩ := b_11.facts
            go_wp2_with fail
            refine (valid_yes _ _ vb _).mono ?_
            rintro r Wx1 ⟨rfl, hbc⟩
            clear bf0
            clear bf1
            clear bf2
            clear bf3
            have f_1 : Two Wx1 (w.heap.size) 23 (.int .i64 (n)) (.int .i64 (d)) := f_11.below hbc f_11.lt
            clear f_11
            have g_1 : Two Wx1 (w.heap.size + 1) 23 (.int .i64 (m)) (.int .i64 (e)) := g_11.below hbc g_11.lt
            clear g_11
            have a_1 : Two Wx1 (w2.heap.size) 23 (.int .i64 (an)) (.int .i64 (ad)) := a_11.below hbc a_11.lt
            clear a_11
            have b_1 : Two Wx1 (w3.heap.size) 23 (.int .i64 (bn)) (.int .i64 (bd)) := b_11.below hbc b_11.lt
            clear b_11
            have c_1 : Two Wx1 (w4.heap.size) 23 (.int .i64 (cn)) (.int .i64 (cd)) := c_11.below hbc c_11.lt
            clear c_11
            have p_1 : Two Wx1 (w5.heap.size) 23 (.int .i64 (pn)) (.int .i64 (pd)) := p_11.below hbc p_11.lt
            clear p_11
            have hBa1 : Below Wx.heap.size Wx Wx1 := hB0.trans (hbc.mono hB0.size)
            clear hB0 hbc
            go_wp2_with fail
            go_meet
            exact ⟨rfl, hBa1⟩
      · skip
        rcases hC with ⟨rfl, vc⟩ | zc
        · skip
          rcases hP with ⟨rfl, vp⟩ | zp
          · skip
            obtain ⟨cf0, cf1, cf2, cf3⟩ := c_11.facts
            go_wp2_with fail
            refine (valid_yes _ _ vc _).mono ?_
            rintro r Wx1 ⟨rfl, hbc⟩
            clear cf0
            clear cf1
            clear cf2
            clear cf3
            have f_1 : Two Wx1 (w.heap.size) 23 (.int .i64 (n)) (.int .i64 (d)) := f_11.below hbc f_11.lt
            clear f_11
            have g_1 : Two Wx1 (w.heap.size + 1) 23 (.int .i64 (m)) (.int .i64 (e)) := g_11.below hbc g_11.lt
            clear g_11
            have a_1 : Two Wx1 (w2.heap.size) 23 (.int .i64 (an)) (.int .i64 (ad)) := a_11.below hbc a_11.lt
            clear a_11
            have b_1 : Two Wx1 (w3.heap.size) 23 (.int .i64 (bn)) (.int .i64 (bd)) := b_11.below hbc b_11.lt
            clear b_11
            have c_1 : Two Wx1 (w4.heap.size) 23 (.int .i64 (cn)) (.int .i64 (cd)) := c_11.below hbc c_11.lt
            clear c_11
            have p_1 : Two Wx1 (w5.heap.size) 23 (.int .i64 (pn)) (.int .i64 (pd)) := p_11.below hbc p_11.lt
            clear p_11
            have hBa1 : Below Wx.heap.size Wx Wx1 := hB0.trans (hbc.mono hB0.size)
            clear hB0 hbc
            obtain ⟨pf0, pf1, pf2, pf3⟩ := p_1.facts
            go_wp2_with fail
            refine (valid_yes _ _ vp _).mono ?_
            rintro r Wx2 ⟨rfl, hbc⟩
            clear pf0
            clear pf1
            clear pf2
            clear pf3
            have f_2 : Two Wx2 (w.heap.size) 23 (.int .i64 (n)) (.int .i64 (d)) := f_1.below hbc f_1.lt
            clear f_1
            have g_2 : Two Wx2 (w.heap.size + 1) 23 (.int .i64 (m)) (.int .i64 (e)) := g_1.below hbc g_1.lt
            clear g_1
            have a_2 : Two Wx2 (w2.heap.size) 23 (.int .i64 (an)) (.int .i64 (ad)) := a_1.below hbc a_1.lt
            clear a_1
            have b_2 : Two Wx2 (w3.heap.size) 23 (.int .i64 (bn)) (.int .i64 (bd)) := b_1.below hbc b_1.lt
            clear b_1
            have c_2 : Two Wx2 (w4.heap.size) 23 (.int .i64 (cn)) (.int .i64 (cd)) := c_1.below hbc c_1.lt
            clear c_1
            have p_2 : Two Wx2 (w5.heap.size) 23 (.int .i64 (pn)) (.int .i64 (pd)) := p_1.below hbc p_1.lt
            clear p_1
            have hBa2 : Below Wx.heap.size Wx Wx2 := hBa1.trans (hbc.mono hBa1.size)
            clear hBa1 hbc
            go_wp2_with fail
            go_meet
            exact ⟨rfl, hBa2⟩
          · skip
            obtain ⟨cf0, cf1, cf2, cf3⟩ := c_11.facts
            go_wp2_with fail
            refine (valid_yes _ _ vc _).mono ?_
            rintro r Wx1 ⟨rfl, hbc⟩
            clear cf0
            clear cf1
            clear cf2
            clear cf3
            have f_1 : Two Wx1 (w.heap.size) 23 (.int .i64 (n)) (.int .i64 (d)) := f_11.below hbc f_11.lt
            clear f_11
            have g_1 : Two Wx1 (w.heap.size + 1) 23 (.int .i64 (m)) (.int .i64 (e)) := g_11.below hbc g_11.lt
            clear g_11
            have a_1 : Two Wx1 (w2.heap.size) 23 (.int .i64 (an)) (.int .i64 (ad)) := a_11.below hbc a_11.lt
            clear a_11
            have b_1 : Two Wx1 (w3.heap.size) 23 (.int .i64 (bn)) (.int .i64 (bd)) := b_11.below hbc b_11.lt
            clear b_11
            have c_1 : Two Wx1 (w4.heap.size) 23 (.int .i64 (cn)) (.int .i64 (cd)) := c_11.below hbc c_11.lt
            clear c_11
            have p_1 : Two Wx1 (w5.heap.size) 23 (.int .i64 (pn)) (.int .i64 (pd)) := p_11.below hbc p_11.lt
            clear p_11
            have hBa1 : Below Wx.heap.size Wx Wx1 := hB0.trans (hbc.mono hB0.size)
            clear hB0 hbc
            go_wp2_with fail
            go_meet
            exact ⟨rfl, hBa1⟩
        · skip
          rcases hP with ⟨rfl, vp⟩ | zp
          · skip
            obtain ⟨pf0, pf1, pf2, pf3⟩ := p_11.facts
            go_wp2_with fail
            refine (valid_yes _ _ vp _).mono ?_
            rintro r Wx1 ⟨rfl, hbc⟩
            clear pf0
            clear pf1
            clear pf2
            clear pf3
            have f_1 : Two Wx1 (w.heap.size) 23 (.int .i64 (n)) (.int .i64 (d)) := f_11.below hbc f_11.lt
            clear f_11
            have g_1 : Two Wx1 (w.heap.size + 1) 23 (.int .i64 (m)) (.int .i64 (e)) := g_11.below hbc g_11.lt
            clear g_11
            have a_1 : Two Wx1 (w2.heap.size) 23 (.int .i64 (an)) (.int .i64 (ad)) := a_11.below hbc a_11.lt
            clear a_11
            have b_1 : Two Wx1 (w3.heap.size) 23 (.int .i64 (bn)) (.int .i64 (bd)) := b_11.below hbc b_11.lt
            clear b_11
            have c_1 : Two Wx1 (w4.heap.size) 23 (.int .i64 (cn)) (.int .i64 (cd)) := c_11.below hbc c_11.lt
            clear c_11
            have p_1 : Two Wx1 (w5.heap.size) 23 (.int .i64 (pn)) (.int .i64 (pd)) := p_11.below hbc p_11.lt
            clear p_11
            have hBa1 : Below Wx.heap.size Wx Wx1 := hB0.trans (hbc.mono hB0.size)
            clear hB0 hbc
            go_wp2_with fail
            go_meet
            exact ⟨rfl, hBa1⟩
          · skip
            go_wp2_with fail
            go_meet
            exact ⟨rfl, hB0⟩
  case rest =>
    obtain ⟨rfl, hbc⟩ := hcut
    obtain ⟨wcx, rfl⟩ : ∃ x : World, x = wc := ⟨_, rfl⟩
    have f_12 : Two wcx (w.heap.size) 23 (.int .i64 (n)) (.int .i64 (d)) := f_11.below hbc f_11.lt
    clear f_11
    have g_12 : Two wcx (w.heap.size + 1) 23 (.int .i64 (m)) (.int .i64 (e)) := g_11.below hbc g_11.lt
    clear g_11
    have a_12 : Two wcx (w2.heap.size) 23 (.int .i64 (an)) (.int .i64 (ad)) := a_11.below hbc a_11.lt
    clear a_11
    have b_12 : Two wcx (w3.heap.size) 23 (.int .i64 (bn)) (.int .i64 (bd)) := b_11.below hbc b_11.lt
    clear b_11
    have c_12 : Two wcx (w4.heap.size) 23 (.int .i64 (cn)) (.int .i64 (cd)) := c_11.below hbc c_11.lt
    clear c_11
    have p_12 : Two wcx (w5.heap.size) 23 (.int .i64 (pn)) (.int .i64 (pd)) := p_11.below hbc p_11.lt
    clear p_11
    have hBa12 : Below w.heap.size w wcx := hBa11.trans (hbc.mono hBa11.size)
    clear hBa11 hbc
    obtain ⟨ff0, ff1, ff2, ff3⟩ := f_12.facts
    go_wp2_with fail
    refine (valid_yes _ _ hf _).mono ?_
    rintro r w6 ⟨rfl, hbc⟩
    clear ff0
    clear ff1
    clear ff2
    clear ff3
    have f_13 : Two w6 (w.heap.size) 23 (.int .i64 (n)) (.int .i64 (d)) := f_12.below hbc f_12.lt
    clear f_12
    have g_13 : Two w6 (w.heap.size + 1) 23 (.int .i64 (m)) (.int .i64 (e)) := g_12.below hbc g_12.lt
    clear g_12
    have a_13 : Two w6 (w2.heap.size) 23 (.int .i64 (an)) (.int .i64 (ad)) := a_12.below hbc a_12.lt
    clear a_12
    have b_13 : Two w6 (w3.heap.size) 23 (.int .i64 (bn)) (.int .i64 (bd)) := b_12.below hbc b_12.lt
    clear b_12
    have c_13 : Two w6 (w4.heap.size) 23 (.int .i64 (cn)) (.int .i64 (cd)) := c_12.below hbc c_12.lt
    clear c_12
    have p_13 : Two w6 (w5.heap.size) 23 (.int .i64 (pn)) (.int .i64 (pd)) := p_12.below hbc p_12.lt
    clear p_12
    have hBa13 : Below w.heap.size w w6 := hBa12.trans (hbc.mono hBa12.size)
    clear hBa12 hbc
    obtain ⟨gf0, gf1, gf2, gf3⟩ := g_13.facts
    go_wp2_with fail
    refine (valid_yes _ _ hg _).mono ?_
    rintro r w7 ⟨rfl, hbc⟩
    clear gf0
    clear gf1
    clear gf2
    clear gf3
    have f_14 : Two w7 (w.heap.size) 23 (.int .i64 (n)) (.int .i64 (d)) := f_13.below hbc f_13.lt
    clear f_13
    have g_14 : Two w7 (w.heap.size + 1) 23 (.int .i64 (m)) (.int .i64 (e)) := g_13.below hbc g_13.lt
    clear g_13
    have a_14 : Two w7 (w2.heap.size) 23 (.int .i64 (an)) (.int .i64 (ad)) := a_13.below hbc a_13.lt
    clear a_13
    have b_14 : Two w7 (w3.heap.size) 23 (.int .i64 (bn)) (.int .i64 (bd)) := b_13.below hbc b_13.lt
    clear b_13
    have c_14 : Two w7 (w4.heap.size) 23 (.int .i64 (cn)) (.int .i64 (cd)) := c_13.below hbc c_13.lt
    clear c_13
    have p_14 : Two w7 (w5.heap.size) 23 (.int .i64 (pn)) (.int .i64 (pd)) := p_13.below hbc p_13.lt
    clear p_13
    have hBa14 : Below w.heap.size w w7 := hBa13.trans (hbc.mono hBa13.size)
    clear hBa13 hbc
    go_upto_region 11 with fail
    generalize w7 = Wy at *
    go_cut [130] (fun v wx => v = .bool false ∧ Below Wy.heap.size Wy wx)
    case first => as_aux_lemma =>
      have hB0 : Below Wy.heap.size Wy Wy := Below.refl Wy.heap.size Wy
      have hZ := XhZ.out
      clear XhA XhB XhC XhP XhZ XhR
      rcases hZ with ⟨rfl, rfl⟩ | ⟨z1, z2⟩
      · skip
        rcases hSm with ⟨s1, s2, rfl, rfl⟩ | s1 | ⟨s1, s2⟩
        · skip
          obtain ⟨ff0, ff1, ff2, ff3⟩ := f_14.facts
          go_wp2_with fail
          refine (small_yes _ _ s1 _).mono ?_
          rintro r Wy1 ⟨rfl, hbc⟩
          clear ff0
          clear ff1
          clear ff2
          clear ff3
          have f_1 : Two Wy1 (w.heap.size) 23 (.int .i64 (n)) (.int .i64 (d)) := f_14.below hbc f_14.lt
          clear f_14
          have g_1 : Two Wy1 (w.heap.size + 1) 23 (.int .i64 (m)) (.int .i64 (e)) := g_14.below hbc g_14.lt
          clear g_14
          have a_1 : Two Wy1 (w2.heap.size) 23 (.int .i64 (an)) (.int .i64 (ad)) := a_14.below hbc a_14.lt
          clear a_14
          have b_1 : Two Wy1 (w3.heap.size) 23 (.int .i64 (bn)) (.int .i64 (bd)) := b_14.below hbc b_14.lt
          clear b_14
          have c_1 : Two Wy1 (w4.heap.size) 23 (.int .i64 (cn)) (.int .i64 (cd)) := c_14.below hbc c_14.lt
          clear c_14
          have p_1 : Two Wy1 (w5.heap.size) 23 (.int .i64 (pn)) (.int .i64 (pd)) := p_14.below hbc p_14.lt
          clear p_14
          have hBa1 : Below Wy.heap.size Wy Wy1 := hB0.trans (hbc.mono hB0.size)
          clear hB0 hbc
          obtain ⟨gf0, gf1, gf2, gf3⟩ := g_1.facts
          go_wp2_with fail
          refine (small_yes _ _ s2 _).mono ?_
          rintro r Wy2 ⟨rfl, hbc⟩
          clear gf0
          clear gf1
          clear gf2
          clear gf3
          have f_2 : Two Wy2 (w.heap.size) 23 (.int .i64 (n)) (.int .i64 (d)) := f_1.below hbc f_1.lt
          clear f_1
          have g_2 : Two Wy2 (w.heap.size + 1) 23 (.int .i64 (m)) (.int .i64 (e)) := g_1.below hbc g_1.lt
          clear g_1
          have a_2 : Two Wy2 (w2.heap.size) 23 (.int .i64 (an)) (.int .i64 (ad)) := a_1.below hbc a_1.lt
          clear a_1
          have b_2 : Two Wy2 (w3.heap.size) 23 (.int .i64 (bn)) (.int .i64 (bd)) := b_1.below hbc b_1.lt
          clear b_1
          have c_2 : Two Wy2 (w4.heap.size) 23 (.int .i64 (cn)) (.int .i64 (cd)) := c_1.below hbc c_1.lt
          clear c_1
          have p_2 : Two Wy2 (w5.heap.size) 23 (.int .i64 (pn)) (.int .i64 (pd)) := p_1.below hbc p_1.lt
          clear p_1
          have hBa2 : Below Wy.heap.size Wy Wy2 := hBa1.trans (hbc.mono hBa1.size)
          clear hBa1 hbc
          go_wp2_with fail
          go_meet
          exact ⟨rfl, hBa2⟩
        · skip
          obtain ⟨ff0, ff1, ff2, ff3⟩ := f_14.facts
          go_wp2_with fail
          refine (small_no _ _ s1 _).mono ?_
          rintro r Wy1 ⟨rfl, hbc⟩
          clear ff0
          clear ff1
          clear ff2
          clear ff3
          have f_1 : Two Wy1 (w.heap.size) 23 (.int .i64 (n)) (.int .i64 (d)) := f_14.below hbc f_14.lt
          clear f_14
          have g_1 : Two Wy1 (w.heap.size + 1) 23 (.int .i64 (m)) (.int .i64 (e)) := g_14.below hbc g_14.lt
          clear g_14
          have a_1 : Two Wy1 (w2.heap.size) 23 (.int .i64 (an)) (.int .i64 (ad)) := a_14.below hbc a_14.lt
          clear a_14
          have b_1 : Two Wy1 (w3.heap.size) 23 (.int .i64 (bn)) (.int .i64 (bd)) := b_14.below hbc b_14.lt
          clear b_14
          have c_1 : Two Wy1 (w4.heap.size) 23 (.int .i64 (cn)) (.int .i64 (cd)) := c_14.below hbc c_14.lt
          clear c_14
          have p_1 : Two Wy1 (w5.heap.size) 23 (.int .i64 (pn)) (.int .i64 (pd)) := p_14.below hbc p_14.lt
          clear p_14
          have hBa1 : Below Wy.heap.size Wy Wy1 := hB0.trans (hbc.mono hB0.size)
          clear hB0 hbc
          go_wp2_with fail
          go_meet
          exact ⟨rfl, hBa1⟩
        · skip
          obtain ⟨ff0, ff1, ff2, ff3⟩ := f_14.facts
          go_wp2_with fail
          refine (small_yes _ _ s1 _).mono ?_
          rintro r Wy1 ⟨rfl, hbc⟩
          clear ff0
          clear ff1
          clear ff2
          clear ff3
          have f_1 : Two Wy1 (w.heap.size) 23 (.int .i64 (n)) (.int .i64 (d)) := f_14.below hbc f_14.lt
          clear f_14
          have g_1 : Two Wy1 (w.heap.size + 1) 23 (.int .i64 (m)) (.int .i64 (e)) := g_14.below hbc g_14.lt
          clear g_14
          have a_1 : Two Wy1 (w2.heap.size) 23 (.int .i64 (an)) (.int .i64 (ad)) := a_14.below hbc a_14.lt
          clear a_14
          have b_1 : Two Wy1 (w3.heap.size) 23 (.int .i64 (bn)) (.int .i64 (bd)) := b_14.below hbc b_14.lt
          clear b_14
          have c_1 : Two Wy1 (w4.heap.size) 23 (.int .i64 (cn)) (.int .i64 (cd)) := c_14.below hbc c_14.lt
          clear c_14
          have p_1 : Two Wy1 (w5.heap.size) 23 (.int .i64 (pn)) (.int .i64 (pd)) := p_14.below hbc p_14.lt
          clear p_14
          have hBa1 : Below Wy.heap.size Wy Wy1 := hB0.trans (hbc.mono hB0.size)
          clear hB0 hbc
          obtain ⟨gf0, gf1, gf2, gf3⟩ := g_1.facts
          go_wp2_with fail
          refine (small_no _ _ s2 _).mono ?_
          rintro r Wy2 ⟨rfl, hbc⟩
          clear gf0
          clear gf1
          clear gf2
          clear gf3
          have f_2 : Two Wy2 (w.heap.size) 23 (.int .i64 (n)) (.int .i64 (d)) := f_1.below hbc f_1.lt
          clear f_1
          have g_2 : Two Wy2 (w.heap.size + 1) 23 (.int .i64 (m)) (.int .i64 (e)) := g_1.below hbc g_1.lt
          clear g_1
          have a_2 : Two Wy2 (w2.heap.size) 23 (.int .i64 (an)) (.int .i64 (ad)) := a_1.below hbc a_1.lt
          clear a_1
          have b_2 : Two Wy2 (w3.heap.size) 23 (.int .i64 (bn)) (.int .i64 (bd)) := b_1.below hbc b_1.lt
          clear b_1
          have c_2 : Two Wy2 (w4.heap.size) 23 (.int .i64 (cn)) (.int .i64 (cd)) := c_1.below hbc c_1.lt
          clear c_1
          have p_2 : Two Wy2 (w5.heap.size) 23 (.int .i64 (pn)) (.int .i64 (pd)) := p_1.below hbc p_1.lt
          clear p_1
          have hBa2 : Below Wy.heap.size Wy Wy2 := hBa1.trans (hbc.mono hBa1.size)
          clear hBa1 hbc
          go_wp2_with fail
          go_meet
          exact ⟨rfl, hBa2⟩
      · skip
        rcases hSm with ⟨s1, s2, rfl, rfl⟩ | s1 | ⟨s1, s2⟩
        · skip
          obtain ⟨ff0, ff1, ff2, ff3⟩ := f_14.facts
          go_wp2_with fail
          refine (small_yes _ _ s1 _).mono ?_
          rintro r Wy1 ⟨rfl, hbc⟩
          clear ff0
          clear ff1
          clear ff2
          clear ff3
          have f_1 : Two Wy1 (w.heap.size) 23 (.int .i64 (n)) (.int .i64 (d)) := f_14.below hbc f_14.lt
          clear f_14
          have g_1 : Two Wy1 (w.heap.size + 1) 23 (.int .i64 (m)) (.int .i64 (e)) := g_14.below hbc g_14.lt
          clear g_14
          have a_1 : Two Wy1 (w2.heap.size) 23 (.int .i64 (an)) (.int .i64 (ad)) := a_14.below hbc a_14.lt
          clear a_14
          have b_1 : Two Wy1 (w3.heap.size) 23 (.int .i64 (bn)) (.int .i64 (bd)) := b_14.below hbc b_14.lt
          clear b_14
          have c_1 : Two Wy1 (w4.heap.size) 23 (.int .i64 (cn)) (.int .i64 (cd)) := c_14.below hbc c_14.lt
          clear c_14
          have p_1 : Two Wy1 (w5.heap.size) 23 (.int .i64 (pn)) (.int .i64 (pd)) := p_14.below hbc p_14.lt
          clear p_14
          have hBa1 : Below Wy.heap.size Wy Wy1 := hB0.trans (hbc.mono hB0.size)
          clear hB0 hbc
          obtain ⟨gf0, gf1, gf2, gf3⟩ := g_1.facts
          go_wp2_with fail
          refine (small_yes _ _ s2 _).mono ?_
          rintro r Wy2 ⟨rfl, hbc⟩
          clear gf0
          clear gf1
          clear gf2
          clear gf3
          have f_2 : Two Wy2 (w.heap.size) 23 (.int .i64 (n)) (.int .i64 (d)) := f_1.below hbc f_1.lt
          clear f_1
          have g_2 : Two Wy2 (w.heap.size + 1) 23 (.int .i64 (m)) (.int .i64 (e)) := g_1.below hbc g_1.lt
          clear g_1
          have a_2 : Two Wy2 (w2.heap.size) 23 (.int .i64 (an)) (.int .i64 (ad)) := a_1.below hbc a_1.lt
          clear a_1
          have b_2 : Two Wy2 (w3.heap.size) 23 (.int .i64 (bn)) (.int .i64 (bd)) := b_1.below hbc b_1.lt
          clear b_1
          have c_2 : Two Wy2 (w4.heap.size) 23 (.int .i64 (cn)) (.int .i64 (cd)) := c_1.below hbc c_1.lt
          clear c_1
          have p_2 : Two Wy2 (w5.heap.size) 23 (.int .i64 (pn)) (.int .i64 (pd)) := p_1.below hbc p_1.lt
          clear p_1
          have hBa2 : Below Wy.heap.size Wy Wy2 := hBa1.trans (hbc.mono hBa1.size)
          clear hBa1 hbc
          go_wp2_with fail
          go_meet
          exact ⟨rfl, hBa2⟩
        · skip
          obtain ⟨ff0, ff1, ff2, ff3⟩ := f_14.facts
          go_wp2_with fail
          refine (small_no _ _ s1 _).mono ?_
          rintro r Wy1 ⟨rfl, hbc⟩
          clear ff0
          clear ff1
          clear ff2
          clear ff3
          have f_1 : Two Wy1 (w.heap.size) 23 (.int .i64 (n)) (.int .i64 (d)) := f_14.below hbc f_14.lt
          clear f_14
          have g_1 : Two Wy1 (w.heap.size + 1) 23 (.int .i64 (m)) (.int .i64 (e)) := g_14.below hbc g_14.lt
          clear g_14
          have a_1 : Two Wy1 (w2.heap.size) 23 (.int .i64 (an)) (.int .i64 (ad)) := a_14.below hbc a_14.lt
          clear a_14
          have b_1 : Two Wy1 (w3.heap.size) 23 (.int .i64 (bn)) (.int .i64 (bd)) := b_14.below hbc b_14.lt
          clear b_14
          have c_1 : Two Wy1 (w4.heap.size) 23 (.int .i64 (cn)) (.int .i64 (cd)) := c_14.below hbc c_14.lt
          clear c_14
          have p_1 : Two Wy1 (w5.heap.size) 23 (.int .i64 (pn)) (.int .i64 (pd)) := p_14.below hbc p_14.lt
          clear p_14
          have hBa1 : Below Wy.heap.size Wy Wy1 := hB0.trans (hbc.mono hB0.size)
          clear hB0 hbc
          go_wp2_with fail
          go_meet
          exact ⟨rfl, hBa1⟩
        · skip
          obtain ⟨ff0, ff1, ff2, ff3⟩ := f_14.facts
          go_wp2_with fail
          refine (small_yes _ _ s1 _).mono ?_
          rintro r Wy1 ⟨rfl, hbc⟩
          clear ff0
          clear ff1
          clear ff2
          clear ff3
          have f_1 : Two Wy1 (w.heap.size) 23 (.int .i64 (n)) (.int .i64 (d)) := f_14.below hbc f_14.lt
          clear f_14
          have g_1 : Two Wy1 (w.heap.size + 1) 23 (.int .i64 (m)) (.int .i64 (e)) := g_14.below hbc g_14.lt
          clear g_14
          have a_1 : Two Wy1 (w2.heap.size) 23 (.int .i64 (an)) (.int .i64 (ad)) := a_14.below hbc a_14.lt
          clear a_14
          have b_1 : Two Wy1 (w3.heap.size) 23 (.int .i64 (bn)) (.int .i64 (bd)) := b_14.below hbc b_14.lt
          clear b_14
          have c_1 : Two Wy1 (w4.heap.size) 23 (.int .i64 (cn)) (.int .i64 (cd)) := c_14.below hbc c_14.lt
          clear c_14
          have p_1 : Two Wy1 (w5.heap.size) 23 (.int .i64 (pn)) (.int .i64 (pd)) := p_14.below hbc p_14.lt
          clear p_14
          have hBa1 : Below Wy.heap.size Wy Wy1 := hB0.trans (hbc.mono hB0.size)
          clear hB0 hbc
          obtain ⟨gf0, gf1, gf2, gf3⟩ := g_1.facts
          go_wp2_with fail
          refine (small_no _ _ s2 _).mono ?_
          rintro r Wy2 ⟨rfl, hbc⟩
          clear gf0
          clear gf1
          clear gf2
          clear gf3
          have f_2 : Two Wy2 (w.heap.size) 23 (.int .i64 (n)) (.int .i64 (d)) := f_1.below hbc f_1.lt
          clear f_1
          have g_2 : Two Wy2 (w.heap.size + 1) 23 (.int .i64 (m)) (.int .i64 (e)) := g_1.below hbc g_1.lt
          clear g_1
          have a_2 : Two Wy2 (w2.heap.size) 23 (.int .i64 (an)) (.int .i64 (ad)) := a_1.below hbc a_1.lt
          clear a_1
          have b_2 : Two Wy2 (w3.heap.size) 23 (.int .i64 (bn)) (.int .i64 (bd)) := b_1.below hbc b_1.lt
          clear b_1
          have c_2 : Two Wy2 (w4.heap.size) 23 (.int .i64 (cn)) (.int .i64 (cd)) := c_1.below hbc c_1.lt
          clear c_1
          have p_2 : Two Wy2 (w5.heap.size) 23 (.int .i64 (pn)) (.int .i64 (pd)) := p_1.below hbc p_1.lt
          clear p_1
          have hBa2 : Below Wy.heap.size Wy Wy2 := hBa1.trans (hbc.mono hBa1.size)
          clear hBa1 hbc
          go_wp2_with fail
          go_meet
          exact ⟨rfl, hBa2⟩
    case rest =>
      obtain ⟨rfl, hbc⟩ := hcut
      obtain ⟨wcy, rfl⟩ : ∃ x : World, x = wc := ⟨_, rfl⟩
      have f_15 : Two wcy (w.heap.size) 23 (.int .i64 (n)) (.int .i64 (d)) := f_14.below hbc f_14.lt
      clear f_14
      have g_15 : Two wcy (w.heap.size + 1) 23 (.int .i64 (m)) (.int .i64 (e)) := g_14.below hbc g_14.lt
      clear g_14
      have a_15 : Two wcy (w2.heap.size) 23 (.int .i64 (an)) (.int .i64 (ad)) := a_14.below hbc a_14.lt
      clear a_14
      have b_15 : Two wcy (w3.heap.size) 23 (.int .i64 (bn)) (.int .i64 (bd)) := b_14.below hbc b_14.lt
      clear b_14
      have c_15 : Two wcy (w4.heap.size) 23 (.int .i64 (cn)) (.int .i64 (cd)) := c_14.below hbc c_14.lt
      clear c_14
      have p_15 : Two wcy (w5.heap.size) 23 (.int .i64 (pn)) (.int .i64 (pd)) := p_14.below hbc p_14.lt
      clear p_14
      have hBa15 : Below w.heap.size w wcy := hBa14.trans (hbc.mono hBa14.size)
      clear hBa14 hbc
      have hR := XhR.out
      clear XhA XhB XhC XhP XhZ XhR hSm
      rcases hR with ⟨rfl, rfl, rfl, rfl, rfl, rfl⟩ | z1 | ⟨rfl, z1⟩ | ⟨rfl, rfl, z1⟩
      · skip
        go_wp2_with fail
        refine (XhOx.out _).mono ?_
        rintro r w8 ⟨rfl, hbc⟩
        have f_16 : Two w8 (w.heap.size) 23 (.int .i64 (n)) (.int .i64 (d)) := f_15.below hbc f_15.lt
        clear f_15
        have g_16 : Two w8 (w.heap.size + 1) 23 (.int .i64 (m)) (.int .i64 (e)) := g_15.below hbc g_15.lt
        clear g_15
        have a_16 : Two w8 (w2.heap.size) 23 (.int .i64 (an)) (.int .i64 (ad)) := a_15.below hbc a_15.lt
        clear a_15
        have b_16 : Two w8 (w3.heap.size) 23 (.int .i64 (bn)) (.int .i64 (bd)) := b_15.below hbc b_15.lt
        clear b_15
        have c_16 : Two w8 (w4.heap.size) 23 (.int .i64 (cn)) (.int .i64 (cd)) := c_15.below hbc c_15.lt
        clear c_15
        have p_16 : Two w8 (w5.heap.size) 23 (.int .i64 (pn)) (.int .i64 (pd)) := p_15.below hbc p_15.lt
        clear p_15
        have hBa16 : Below w.heap.size w w8 := hBa15.trans (hbc.mono hBa15.size)
        clear hBa15 hbc
        have f_17 : Two (w8.alloc (.cells #[.int .i64 (kn), .int .i64 (kd)] 23)) (w.heap.size) 23 (.int .i64 (n)) (.int .i64 (d)) := f_16.alloc _
        clear f_16
        have g_17 : Two (w8.alloc (.cells #[.int .i64 (kn), .int .i64 (kd)] 23)) (w.heap.size + 1) 23 (.int .i64 (m)) (.int .i64 (e)) := g_16.alloc _
        clear g_16
        have a_17 : Two (w8.alloc (.cells #[.int .i64 (kn), .int .i64 (kd)] 23)) (w2.heap.size) 23 (.int .i64 (an)) (.int .i64 (ad)) := a_16.alloc _
        clear a_16
        have b_17 : Two (w8.alloc (.cells #[.int .i64 (kn), .int .i64 (kd)] 23)) (w3.heap.size) 23 (.int .i64 (bn)) (.int .i64 (bd)) := b_16.alloc _
        clear b_16
        have c_17 : Two (w8.alloc (.cells #[.int .i64 (kn), .int .i64 (kd)] 23)) (w4.heap.size) 23 (.int .i64 (cn)) (.int .i64 (cd)) := c_16.alloc _
        clear c_16
        have p_17 : Two (w8.alloc (.cells #[.int .i64 (kn), .int .i64 (kd)] 23)) (w5.heap.size) 23 (.int .i64 (pn)) (.int .i64 (pd)) := p_16.alloc _
        clear p_16
        have x_17 : Two (w8.alloc (.cells #[.int .i64 (kn), .int .i64 (kd)] 23)) (w8.heap.size) 23 (.int .i64 (kn)) (.int .i64 (kd)) := Two.at (by simp) _ _ _
        have hBa17 : Below w.heap.size w (w8.alloc (.cells #[.int .i64 (kn), .int .i64 (kd)] 23)) := hBa16.alloc hBa16.size _
        clear hBa16
        go_wp2_with fail
        refine (XhOy.out _).mono ?_
        rintro r w9 ⟨rfl, hbc⟩
        have f_18 : Two w9 (w.heap.size) 23 (.int .i64 (n)) (.int .i64 (d)) := f_17.below hbc f_17.lt
        clear f_17
        have g_18 : Two w9 (w.heap.size + 1) 23 (.int .i64 (m)) (.int .i64 (e)) := g_17.below hbc g_17.lt
        clear g_17
        have a_18 : Two w9 (w2.heap.size) 23 (.int .i64 (an)) (.int .i64 (ad)) := a_17.below hbc a_17.lt
        clear a_17
        have b_18 : Two w9 (w3.heap.size) 23 (.int .i64 (bn)) (.int .i64 (bd)) := b_17.below hbc b_17.lt
        clear b_17
        have c_18 : Two w9 (w4.heap.size) 23 (.int .i64 (cn)) (.int .i64 (cd)) := c_17.below hbc c_17.lt
        clear c_17
        have p_18 : Two w9 (w5.heap.size) 23 (.int .i64 (pn)) (.int .i64 (pd)) := p_17.below hbc p_17.lt
        clear p_17
        have x_18 : Two w9 (w8.heap.size) 23 (.int .i64 (kn)) (.int .i64 (kd)) := x_17.below hbc x_17.lt
        clear x_17
        have hBa18 : Below w.heap.size w w9 := hBa17.trans (hbc.mono hBa17.size)
        clear hBa17 hbc
        have f_19 : Two (w9.alloc (.cells #[.int .i64 (yn), .int .i64 (yd)] 23)) (w.heap.size) 23 (.int .i64 (n)) (.int .i64 (d)) := f_18.alloc _
        clear f_18
        have g_19 : Two (w9.alloc (.cells #[.int .i64 (yn), .int .i64 (yd)] 23)) (w.heap.size + 1) 23 (.int .i64 (m)) (.int .i64 (e)) := g_18.alloc _
        clear g_18
        have a_19 : Two (w9.alloc (.cells #[.int .i64 (yn), .int .i64 (yd)] 23)) (w2.heap.size) 23 (.int .i64 (an)) (.int .i64 (ad)) := a_18.alloc _
        clear a_18
        have b_19 : Two (w9.alloc (.cells #[.int .i64 (yn), .int .i64 (yd)] 23)) (w3.heap.size) 23 (.int .i64 (bn)) (.int .i64 (bd)) := b_18.alloc _
        clear b_18
        have c_19 : Two (w9.alloc (.cells #[.int .i64 (yn), .int .i64 (yd)] 23)) (w4.heap.size) 23 (.int .i64 (cn)) (.int .i64 (cd)) := c_18.alloc _
        clear c_18
        have p_19 : Two (w9.alloc (.cells #[.int .i64 (yn), .int .i64 (yd)] 23)) (w5.heap.size) 23 (.int .i64 (pn)) (.int .i64 (pd)) := p_18.alloc _
        clear p_18
        have x_19 : Two (w9.alloc (.cells #[.int .i64 (yn), .int .i64 (yd)] 23)) (w8.heap.size) 23 (.int .i64 (kn)) (.int .i64 (kd)) := x_18.alloc _
        clear x_18
        have y_19 : Two (w9.alloc (.cells #[.int .i64 (yn), .int .i64 (yd)] 23)) (w9.heap.size) 23 (.int .i64 (yn)) (.int .i64 (yd)) := Two.at (by simp) _ _ _
        have hBa19 : Below w.heap.size w (w9.alloc (.cells #[.int .i64 (yn), .int .i64 (yd)] 23)) := hBa18.alloc hBa18.size _
        clear hBa18
        obtain ⟨af0, af1, af2, af3⟩ := a_19.facts
        obtain ⟨yf0, yf1, yf2, yf3⟩ := y_19.facts
        go_wp2_with fail
        refine (XhBk.out _).mono ?_
        rintro r w10 ⟨rfl, hbc⟩
        clear af0
        clear af1
        clear af2
        clear af3
        clear yf0
        clear yf1
        clear yf2
        clear yf3
        have f_20 : Two w10 (w.heap.size) 23 (.int .i64 (n)) (.int .i64 (d)) := f_19.below hbc f_19.lt
        clear f_19
        have g_20 : Two w10 (w.heap.size + 1) 23 (.int .i64 (m)) (.int .i64 (e)) := g_19.below hbc g_19.lt
        clear g_19
        have a_20 : Two w10 (w2.heap.size) 23 (.int .i64 (an)) (.int .i64 (ad)) := a_19.below hbc a_19.lt
        clear a_19
        have b_20 : Two w10 (w3.heap.size) 23 (.int .i64 (bn)) (.int .i64 (bd)) := b_19.below hbc b_19.lt
        clear b_19
        have c_20 : Two w10 (w4.heap.size) 23 (.int .i64 (cn)) (.int .i64 (cd)) := c_19.below hbc c_19.lt
        clear c_19
        have p_20 : Two w10 (w5.heap.size) 23 (.int .i64 (pn)) (.int .i64 (pd)) := p_19.below hbc p_19.lt
        clear p_19
        have x_20 : Two w10 (w8.heap.size) 23 (.int .i64 (kn)) (.int .i64 (kd)) := x_19.below hbc x_19.lt
        clear x_19
        have y_20 : Two w10 (w9.heap.size) 23 (.int .i64 (yn)) (.int .i64 (yd)) := y_19.below hbc y_19.lt
        clear y_19
        have hBa20 : Below w.heap.size w w10 := hBa19.trans (hbc.mono hBa19.size)
        clear hBa19 hbc
        have f_21 : Two (w10.alloc (.cells #[.int .i64 (kn), .int .i64 (kd)] 23)) (w.heap.size) 23 (.int .i64 (n)) (.int .i64 (d)) := f_20.alloc _
        clear f_20
        have g_21 : Two (w10.alloc (.cells #[.int .i64 (kn), .int .i64 (kd)] 23)) (w.heap.size + 1) 23 (.int .i64 (m)) (.int .i64 (e)) := g_20.alloc _
        clear g_20
        have a_21 : Two (w10.alloc (.cells #[.int .i64 (kn), .int .i64 (kd)] 23)) (w2.heap.size) 23 (.int .i64 (an)) (.int .i64 (ad)) := a_20.alloc _
        clear a_20
        have b_21 : Two (w10.alloc (.cells #[.int .i64 (kn), .int .i64 (kd)] 23)) (w3.heap.size) 23 (.int .i64 (bn)) (.int .i64 (bd)) := b_20.alloc _
        clear b_20
        have c_21 : Two (w10.alloc (.cells #[.int .i64 (kn), .int .i64 (kd)] 23)) (w4.heap.size) 23 (.int .i64 (cn)) (.int .i64 (cd)) := c_20.alloc _
        clear c_20
        have p_21 : Two (w10.alloc (.cells #[.int .i64 (kn), .int .i64 (kd)] 23)) (w5.heap.size) 23 (.int .i64 (pn)) (.int .i64 (pd)) := p_20.alloc _
        clear p_20
        have x_21 : Two (w10.alloc (.cells #[.int .i64 (kn), .int .i64 (kd)] 23)) (w8.heap.size) 23 (.int .i64 (kn)) (.int .i64 (kd)) := x_20.alloc _
        clear x_20
        have y_21 : Two (w10.alloc (.cells #[.int .i64 (kn), .int .i64 (kd)] 23)) (w9.heap.size) 23 (.int .i64 (yn)) (.int .i64 (yd)) := y_20.alloc _
        clear y_20
        have z_21 : Two (w10.alloc (.cells #[.int .i64 (kn), .int .i64 (kd)] 23)) (w10.heap.size) 23 (.int .i64 (kn)) (.int .i64 (kd)) := Two.at (by simp) _ _ _
        have hBa21 : Below w.heap.size w (w10.alloc (.cells #[.int .i64 (kn), .int .i64 (kd)] 23)) := hBa20.alloc hBa20.size _
        clear hBa20
        obtain ⟨xf0, xf1, xf2, xf3⟩ := x_21.facts
        obtain ⟨zf0, zf1, zf2, zf3⟩ := z_21.facts
        go_wp2_with fail
        go_ret
        exact ⟨rfl, hBa21⟩
      · skip
        have z2 := nz z1
        go_wp2_with fail
        refine (XhOx.out _).mono ?_
        rintro r w8 ⟨rfl, hbc⟩
        have f_16 : Two w8 (w.heap.size) 23 (.int .i64 (n)) (.int .i64 (d)) := f_15.below hbc f_15.lt
        clear f_15
        have g_16 : Two w8 (w.heap.size + 1) 23 (.int .i64 (m)) (.int .i64 (e)) := g_15.below hbc g_15.lt
        clear g_15
        have a_16 : Two w8 (w2.heap.size) 23 (.int .i64 (an)) (.int .i64 (ad)) := a_15.below hbc a_15.lt
        clear a_15
        have b_16 : Two w8 (w3.heap.size) 23 (.int .i64 (bn)) (.int .i64 (bd)) := b_15.below hbc b_15.lt
        clear b_15
        have c_16 : Two w8 (w4.heap.size) 23 (.int .i64 (cn)) (.int .i64 (cd)) := c_15.below hbc c_15.lt
        clear c_15
        have p_16 : Two w8 (w5.heap.size) 23 (.int .i64 (pn)) (.int .i64 (pd)) := p_15.below hbc p_15.lt
        clear p_15
        have hBa16 : Below w.heap.size w w8 := hBa15.trans (hbc.mono hBa15.size)
        clear hBa15 hbc
        have f_17 : Two (w8.alloc (.cells #[.int .i64 (xn), .int .i64 (xd)] 23)) (w.heap.size) 23 (.int .i64 (n)) (.int .i64 (d)) := f_16.alloc _
        clear f_16
        have g_17 : Two (w8.alloc (.cells #[.int .i64 (xn), .int .i64 (xd)] 23)) (w.heap.size + 1) 23 (.int .i64 (m)) (.int .i64 (e)) := g_16.alloc _
        clear g_16
        have a_17 : Two (w8.alloc (.cells #[.int .i64 (xn), .int .i64 (xd)] 23)) (w2.heap.size) 23 (.int .i64 (an)) (.int .i64 (ad)) := a_16.alloc _
        clear a_16
        have b_17 : Two (w8.alloc (.cells #[.int .i64 (xn), .int .i64 (xd)] 23)) (w3.heap.size) 23 (.int .i64 (bn)) (.int .i64 (bd)) := b_16.alloc _
        clear b_16
        have c_17 : Two (w8.alloc (.cells #[.int .i64 (xn), .int .i64 (xd)] 23)) (w4.heap.size) 23 (.int .i64 (cn)) (.int .i64 (cd)) := c_16.alloc _
        clear c_16
        have p_17 : Two (w8.alloc (.cells #[.int .i64 (xn), .int .i64 (xd)] 23)) (w5.heap.size) 23 (.int .i64 (pn)) (.int .i64 (pd)) := p_16.alloc _
        clear p_16
        have x_17 : Two (w8.alloc (.cells #[.int .i64 (xn), .int .i64 (xd)] 23)) (w8.heap.size) 23 (.int .i64 (xn)) (.int .i64 (xd)) := Two.at (by simp) _ _ _
        have hBa17 : Below w.heap.size w (w8.alloc (.cells #[.int .i64 (xn), .int .i64 (xd)] 23)) := hBa16.alloc hBa16.size _
        clear hBa16
        go_wp2_with fail
        refine (XhOy.out _).mono ?_
        rintro r w9 ⟨rfl, hbc⟩
        have f_18 : Two w9 (w.heap.size) 23 (.int .i64 (n)) (.int .i64 (d)) := f_17.below hbc f_17.lt
        clear f_17
        have g_18 : Two w9 (w.heap.size + 1) 23 (.int .i64 (m)) (.int .i64 (e)) := g_17.below hbc g_17.lt
        clear g_17
        have a_18 : Two w9 (w2.heap.size) 23 (.int .i64 (an)) (.int .i64 (ad)) := a_17.below hbc a_17.lt
        clear a_17
        have b_18 : Two w9 (w3.heap.size) 23 (.int .i64 (bn)) (.int .i64 (bd)) := b_17.below hbc b_17.lt
        clear b_17
        have c_18 : Two w9 (w4.heap.size) 23 (.int .i64 (cn)) (.int .i64 (cd)) := c_17.below hbc c_17.lt
        clear c_17
        have p_18 : Two w9 (w5.heap.size) 23 (.int .i64 (pn)) (.int .i64 (pd)) := p_17.below hbc p_17.lt
        clear p_17
        have x_18 : Two w9 (w8.heap.size) 23 (.int .i64 (xn)) (.int .i64 (xd)) := x_17.below hbc x_17.lt
        clear x_17
        have hBa18 : Below w.heap.size w w9 := hBa17.trans (hbc.mono hBa17.size)
        clear hBa17 hbc
        have f_19 : Two (w9.alloc (.cells #[.int .i64 (yn), .int .i64 (yd)] 23)) (w.heap.size) 23 (.int .i64 (n)) (.int .i64 (d)) := f_18.alloc _
        clear f_18
        have g_19 : Two (w9.alloc (.cells #[.int .i64 (yn), .int .i64 (yd)] 23)) (w.heap.size + 1) 23 (.int .i64 (m)) (.int .i64 (e)) := g_18.alloc _
        clear g_18
        have a_19 : Two (w9.alloc (.cells #[.int .i64 (yn), .int .i64 (yd)] 23)) (w2.heap.size) 23 (.int .i64 (an)) (.int .i64 (ad)) := a_18.alloc _
        clear a_18
        have b_19 : Two (w9.alloc (.cells #[.int .i64 (yn), .int .i64 (yd)] 23)) (w3.heap.size) 23 (.int .i64 (bn)) (.int .i64 (bd)) := b_18.alloc _
        clear b_18
        have c_19 : Two (w9.alloc (.cells #[.int .i64 (yn), .int .i64 (yd)] 23)) (w4.heap.size) 23 (.int .i64 (cn)) (.int .i64 (cd)) := c_18.alloc _
        clear c_18
        have p_19 : Two (w9.alloc (.cells #[.int .i64 (yn), .int .i64 (yd)] 23)) (w5.heap.size) 23 (.int .i64 (pn)) (.int .i64 (pd)) := p_18.alloc _
        clear p_18
        have x_19 : Two (w9.alloc (.cells #[.int .i64 (yn), .int .i64 (yd)] 23)) (w8.heap.size) 23 (.int .i64 (xn)) (.int .i64 (xd)) := x_18.alloc _
        clear x_18
        have y_19 : Two (w9.alloc (.cells #[.int .i64 (yn), .int .i64 (yd)] 23)) (w9.heap.size) 23 (.int .i64 (yn)) (.int .i64 (yd)) := Two.at (by simp) _ _ _
        have hBa19 : Below w.heap.size w (w9.alloc (.cells #[.int .i64 (yn), .int .i64 (yd)] 23)) := hBa18.alloc hBa18.size _
        clear hBa18
        go_wp2_with fail
        go_ret
        exact ⟨rfl, hBa19⟩
      · skip
        have z2 := nz z1
        go_wp2_with fail
        refine (XhOx.out _).mono ?_
        rintro r w8 ⟨rfl, hbc⟩
        have f_16 : Two w8 (w.heap.size) 23 (.int .i64 (n)) (.int .i64 (d)) := f_15.below hbc f_15.lt
        clear f_15
        have g_16 : Two w8 (w.heap.size + 1) 23 (.int .i64 (m)) (.int .i64 (e)) := g_15.below hbc g_15.lt
        clear g_15
        have a_16 : Two w8 (w2.heap.size) 23 (.int .i64 (an)) (.int .i64 (ad)) := a_15.below hbc a_15.lt
        clear a_15
        have b_16 : Two w8 (w3.heap.size) 23 (.int .i64 (bn)) (.int .i64 (bd)) := b_15.below hbc b_15.lt
        clear b_15
        have c_16 : Two w8 (w4.heap.size) 23 (.int .i64 (cn)) (.int .i64 (cd)) := c_15.below hbc c_15.lt
        clear c_15
        have p_16 : Two w8 (w5.heap.size) 23 (.int .i64 (pn)) (.int .i64 (pd)) := p_15.below hbc p_15.lt
        clear p_15
        have hBa16 : Below w.heap.size w w8 := hBa15.trans (hbc.mono hBa15.size)
        clear hBa15 hbc
        have f_17 : Two (w8.alloc (.cells #[.int .i64 (xn), .int .i64 (xd)] 23)) (w.heap.size) 23 (.int .i64 (n)) (.int .i64 (d)) := f_16.alloc _
        clear f_16
        have g_17 : Two (w8.alloc (.cells #[.int .i64 (xn), .int .i64 (xd)] 23)) (w.heap.size + 1) 23 (.int .i64 (m)) (.int .i64 (e)) := g_16.alloc _
        clear g_16
        have a_17 : Two (w8.alloc (.cells #[.int .i64 (xn), .int .i64 (xd)] 23)) (w2.heap.size) 23 (.int .i64 (an)) (.int .i64 (ad)) := a_16.alloc _
        clear a_16
        have b_17 : Two (w8.alloc (.cells #[.int .i64 (xn), .int .i64 (xd)] 23)) (w3.heap.size) 23 (.int .i64 (bn)) (.int .i64 (bd)) := b_16.alloc _
        clear b_16
        have c_17 : Two (w8.alloc (.cells #[.int .i64 (xn), .int .i64 (xd)] 23)) (w4.heap.size) 23 (.int .i64 (cn)) (.int .i64 (cd)) := c_16.alloc _
        clear c_16
        have p_17 : Two (w8.alloc (.cells #[.int .i64 (xn), .int .i64 (xd)] 23)) (w5.heap.size) 23 (.int .i64 (pn)) (.int .i64 (pd)) := p_16.alloc _
        clear p_16
        have x_17 : Two (w8.alloc (.cells #[.int .i64 (xn), .int .i64 (xd)] 23)) (w8.heap.size) 23 (.int .i64 (xn)) (.int .i64 (xd)) := Two.at (by simp) _ _ _
        have hBa17 : Below w.heap.size w (w8.alloc (.cells #[.int .i64 (xn), .int .i64 (xd)] 23)) := hBa16.alloc hBa16.size _
        clear hBa16
        go_wp2_with fail
        refine (XhOy.out _).mono ?_
        rintro r w9 ⟨rfl, hbc⟩
        have f_18 : Two w9 (w.heap.size) 23 (.int .i64 (n)) (.int .i64 (d)) := f_17.below hbc f_17.lt
        clear f_17
        have g_18 : Two w9 (w.heap.size + 1) 23 (.int .i64 (m)) (.int .i64 (e)) := g_17.below hbc g_17.lt
        clear g_17
        have a_18 : Two w9 (w2.heap.size) 23 (.int .i64 (an)) (.int .i64 (ad)) := a_17.below hbc a_17.lt
        clear a_17
        have b_18 : Two w9 (w3.heap.size) 23 (.int .i64 (bn)) (.int .i64 (bd)) := b_17.below hbc b_17.lt
        clear b_17
        have c_18 : Two w9 (w4.heap.size) 23 (.int .i64 (cn)) (.int .i64 (cd)) := c_17.below hbc c_17.lt
        clear c_17
        have p_18 : Two w9 (w5.heap.size) 23 (.int .i64 (pn)) (.int .i64 (pd)) := p_17.below hbc p_17.lt
        clear p_17
        have x_18 : Two w9 (w8.heap.size) 23 (.int .i64 (xn)) (.int .i64 (xd)) := x_17.below hbc x_17.lt
        clear x_17
        have hBa18 : Below w.heap.size w w9 := hBa17.trans (hbc.mono hBa17.size)
        clear hBa17 hbc
        have f_19 : Two (w9.alloc (.cells #[.int .i64 (yn), .int .i64 (yd)] 23)) (w.heap.size) 23 (.int .i64 (n)) (.int .i64 (d)) := f_18.alloc _
        clear f_18
        have g_19 : Two (w9.alloc (.cells #[.int .i64 (yn), .int .i64 (yd)] 23)) (w.heap.size + 1) 23 (.int .i64 (m)) (.int .i64 (e)) := g_18.alloc _
        clear g_18
        have a_19 : Two (w9.alloc (.cells #[.int .i64 (yn), .int .i64 (yd)] 23)) (w2.heap.size) 23 (.int .i64 (an)) (.int .i64 (ad)) := a_18.alloc _
        clear a_18
        have b_19 : Two (w9.alloc (.cells #[.int .i64 (yn), .int .i64 (yd)] 23)) (w3.heap.size) 23 (.int .i64 (bn)) (.int .i64 (bd)) := b_18.alloc _
        clear b_18
        have c_19 : Two (w9.alloc (.cells #[.int .i64 (yn), .int .i64 (yd)] 23)) (w4.heap.size) 23 (.int .i64 (cn)) (.int .i64 (cd)) := c_18.alloc _
        clear c_18
        have p_19 : Two (w9.alloc (.cells #[.int .i64 (yn), .int .i64 (yd)] 23)) (w5.heap.size) 23 (.int .i64 (pn)) (.int .i64 (pd)) := p_18.alloc _
        clear p_18
        have x_19 : Two (w9.alloc (.cells #[.int .i64 (yn), .int .i64 (yd)] 23)) (w8.heap.size) 23 (.int .i64 (xn)) (.int .i64 (xd)) := x_18.alloc _
        clear x_18
        have y_19 : Two (w9.alloc (.cells #[.int .i64 (yn), .int .i64 (yd)] 23)) (w9.heap.size) 23 (.int .i64 (yn)) (.int .i64 (yd)) := Two.at (by simp) _ _ _
        have hBa19 : Below w.heap.size w (w9.alloc (.cells #[.int .i64 (yn), .int .i64 (yd)] 23)) := hBa18.alloc hBa18.size _
        clear hBa18
        go_wp2_with fail
        go_ret
        exact ⟨rfl, hBa19⟩
      · skip
        have z2 := nz z1
        go_wp2_with fail
        refine (XhOx.out _).mono ?_
        rintro r w8 ⟨rfl, hbc⟩
        have f_16 : Two w8 (w.heap.size) 23 (.int .i64 (n)) (.int .i64 (d)) := f_15.below hbc f_15.lt
        clear f_15
        have g_16 : Two w8 (w.heap.size + 1) 23 (.int .i64 (m)) (.int .i64 (e)) := g_15.below hbc g_15.lt
        clear g_15
        have a_16 : Two w8 (w2.heap.size) 23 (.int .i64 (an)) (.int .i64 (ad)) := a_15.below hbc a_15.lt
        clear a_15
        have b_16 : Two w8 (w3.heap.size) 23 (.int .i64 (bn)) (.int .i64 (bd)) := b_15.below hbc b_15.lt
        clear b_15
        have c_16 : Two w8 (w4.heap.size) 23 (.int .i64 (cn)) (.int .i64 (cd)) := c_15.below hbc c_15.lt
        clear c_15
        have p_16 : Two w8 (w5.heap.size) 23 (.int .i64 (pn)) (.int .i64 (pd)) := p_15.below hbc p_15.lt
        clear p_15
        have hBa16 : Below w.heap.size w w8 := hBa15.trans (hbc.mono hBa15.size)
        clear hBa15 hbc
        have f_17 : Two (w8.alloc (.cells #[.int .i64 (xn), .int .i64 (xd)] 23)) (w.heap.size) 23 (.int .i64 (n)) (.int .i64 (d)) := f_16.alloc _
        clear f_16
        have g_17 : Two (w8.alloc (.cells #[.int .i64 (xn), .int .i64 (xd)] 23)) (w.heap.size + 1) 23 (.int .i64 (m)) (.int .i64 (e)) := g_16.alloc _
        clear g_16
        have a_17 : Two (w8.alloc (.cells #[.int .i64 (xn), .int .i64 (xd)] 23)) (w2.heap.size) 23 (.int .i64 (an)) (.int .i64 (ad)) := a_16.alloc _
        clear a_16
        have b_17 : Two (w8.alloc (.cells #[.int .i64 (xn), .int .i64 (xd)] 23)) (w3.heap.size) 23 (.int .i64 (bn)) (.int .i64 (bd)) := b_16.alloc _
        clear b_16
        have c_17 : Two (w8.alloc (.cells #[.int .i64 (xn), .int .i64 (xd)] 23)) (w4.heap.size) 23 (.int .i64 (cn)) (.int .i64 (cd)) := c_16.alloc _
        clear c_16
        have p_17 : Two (w8.alloc (.cells #[.int .i64 (xn), .int .i64 (xd)] 23)) (w5.heap.size) 23 (.int .i64 (pn)) (.int .i64 (pd)) := p_16.alloc _
        clear p_16
        have x_17 : Two (w8.alloc (.cells #[.int .i64 (xn), .int .i64 (xd)] 23)) (w8.heap.size) 23 (.int .i64 (xn)) (.int .i64 (xd)) := Two.at (by simp) _ _ _
        have hBa17 : Below w.heap.size w (w8.alloc (.cells #[.int .i64 (xn), .int .i64 (xd)] 23)) := hBa16.alloc hBa16.size _
        clear hBa16
        go_wp2_with fail
        refine (XhOy.out _).mono ?_
        rintro r w9 ⟨rfl, hbc⟩
        have f_18 : Two w9 (w.heap.size) 23 (.int .i64 (n)) (.int .i64 (d)) := f_17.below hbc f_17.lt
        clear f_17
        have g_18 : Two w9 (w.heap.size + 1) 23 (.int .i64 (m)) (.int .i64 (e)) := g_17.below hbc g_17.lt
        clear g_17
        have a_18 : Two w9 (w2.heap.size) 23 (.int .i64 (an)) (.int .i64 (ad)) := a_17.below hbc a_17.lt
        clear a_17
        have b_18 : Two w9 (w3.heap.size) 23 (.int .i64 (bn)) (.int .i64 (bd)) := b_17.below hbc b_17.lt
        clear b_17
        have c_18 : Two w9 (w4.heap.size) 23 (.int .i64 (cn)) (.int .i64 (cd)) := c_17.below hbc c_17.lt
        clear c_17
        have p_18 : Two w9 (w5.heap.size) 23 (.int .i64 (pn)) (.int .i64 (pd)) := p_17.below hbc p_17.lt
        clear p_17
        have x_18 : Two w9 (w8.heap.size) 23 (.int .i64 (xn)) (.int .i64 (xd)) := x_17.below hbc x_17.lt
        clear x_17
        have hBa18 : Below w.heap.size w w9 := hBa17.trans (hbc.mono hBa17.size)
        clear hBa17 hbc
        have f_19 : Two (w9.alloc (.cells #[.int .i64 (yn), .int .i64 (yd)] 23)) (w.heap.size) 23 (.int .i64 (n)) (.int .i64 (d)) := f_18.alloc _
        clear f_18
        have g_19 : Two (w9.alloc (.cells #[.int .i64 (yn), .int .i64 (yd)] 23)) (w.heap.size + 1) 23 (.int .i64 (m)) (.int .i64 (e)) := g_18.alloc _
        clear g_18
        have a_19 : Two (w9.alloc (.cells #[.int .i64 (yn), .int .i64 (yd)] 23)) (w2.heap.size) 23 (.int .i64 (an)) (.int .i64 (ad)) := a_18.alloc _
        clear a_18
        have b_19 : Two (w9.alloc (.cells #[.int .i64 (yn), .int .i64 (yd)] 23)) (w3.heap.size) 23 (.int .i64 (bn)) (.int .i64 (bd)) := b_18.alloc _
        clear b_18
        have c_19 : Two (w9.alloc (.cells #[.int .i64 (yn), .int .i64 (yd)] 23)) (w4.heap.size) 23 (.int .i64 (cn)) (.int .i64 (cd)) := c_18.alloc _
        clear c_18
        have p_19 : Two (w9.alloc (.cells #[.int .i64 (yn), .int .i64 (yd)] 23)) (w5.heap.size) 23 (.int .i64 (pn)) (.int .i64 (pd)) := p_18.alloc _
        clear p_18
        have x_19 : Two (w9.alloc (.cells #[.int .i64 (yn), .int .i64 (yd)] 23)) (w8.heap.size) 23 (.int .i64 (xn)) (.int .i64 (xd)) := x_18.alloc _
        clear x_18
        have y_19 : Two (w9.alloc (.cells #[.int .i64 (yn), .int .i64 (yd)] 23)) (w9.heap.size) 23 (.int .i64 (yn)) (.int .i64 (yd)) := Two.at (by simp) _ _ _
        have hBa19 : Below w.heap.size w (w9.alloc (.cells #[.int .i64 (yn), .int .i64 (yd)] 23)) := hBa18.alloc hBa18.size _
        clear hBa18
        go_wp2_with fail
        go_ret
        exact ⟨rfl, hBa19⟩

set_option maxRecDepth 100000 in
set_option maxHeartbeats 8000000 in
theorem resultsF (n d m e u v : Int) (hn1 : -9223372036854775808 ≤ n) (hn2 : n ≤ 9223372036854775807) (hd1 : -9223372036854775808 ≤ d) (hd2 : d ≤ 9223372036854775807) (hm1 : -9223372036854775808 ≤ m) (hm2 : m ≤ 9223372036854775807) (he1 : -9223372036854775808 ≤ e) (he2 : e ≤ 9223372036854775807) (hu1 : -9223372036854775808 ≤ u) (hu2 : u ≤ 9223372036854775807) (hv1 : -9223372036854775808 ≤ v) (hv2 : v ≤ 9223372036854775807) (s : ByteArray) (hle : s.size ≤ 100) (hf : ¬ valP n d) (h1 : addE n d m e = 1) (h2 : mulE n d m e = 1) (w : World) (hl : Lay w) :
    Calls Tryd.prog 8 #[.agg #[.int .i64 n, .int .i64 d], .agg #[.int .i64 m, .int .i64 e], .int .i64 u, .int .i64 v, .string s] w fun r w' => r = .returned (.bool true) ∧ Below w.heap.size w w' := by
  have hlb : decide (100 < (s.size : Int)) = false := by simp; omega
  have hOf := fun w => of_any u v hu1 hu2 hv1 hv2 w
  have hAd := fun w => add_any n d m e w
  have hMu := fun w => mul_any n d m e w
  have hPa := fun w hl => parse_any s (by omega) w hl
  have hOx := fun w => of_any u 1 hu1 hu2 (by omega) (by omega) w
  have hOy := fun w => of_any v 1 hv1 hv2 (by omega) (by omega) w
  have hBk := fun w => mul_any (ofN u v) (ofD u v) (ofN v 1) (ofD v 1) w
  have hA := of_way u v
  have hB := add_way n d m e
  have hC := mul_way n d m e
  have hP := par_way s.data.toList
  have hZ := of_zero u v
  have hR := back_way u v
  generalize mulN (ofN u v) (ofD u v) (ofN v 1) (ofD v 1) = kn at *
  generalize mulD (ofN u v) (ofD u v) (ofN v 1) (ofD v 1) = kd at *
  generalize mulE (ofN u v) (ofD u v) (ofN v 1) (ofD v 1) = ke at *
  generalize ofN u v = an at *
  generalize ofD u v = ad at *
  generalize ofE u v = ae at *
  generalize ofN u 1 = xn at *
  generalize ofD u 1 = xd at *
  generalize ofE u 1 = xe at *
  generalize ofN v 1 = yn at *
  generalize ofD v 1 = yd at *
  generalize ofE v 1 = ye at *
  generalize addN n d m e = bn at *
  generalize addD n d m e = bd at *
  generalize addE n d m e = be at *
  generalize mulN n d m e = cn at *
  generalize mulD n d m e = cd at *
  generalize mulE n d m e = ce at *
  generalize (parV s.data.toList).1 = pn at *
  generalize (parV s.data.toList).2.1 = pd at *
  generalize (parV s.data.toList).2.2 = pe at *
  have XhOf := Lib.hid hOf
  clear hOf
  have XhAd := Lib.hid hAd
  clear hAd
  have XhMu := Lib.hid hMu
  clear hMu
  have XhPa := Lib.hid hPa
  clear hPa
  have XhOx := Lib.hid hOx
  clear hOx
  have XhOy := Lib.hid hOy
  clear hOy
  have XhBk := Lib.hid hBk
  clear hBk
  have XhA := Lib.hid hA
  clear hA
  have XhB := Lib.hid hB
  clear hB
  have XhC := Lib.hid hC
  clear hC
  have XhP := Lib.hid hP
  clear hP
  have XhZ := Lib.hid hZ
  clear hZ
  have XhR := Lib.hid hR
  clear hR
  subst h1
  subst h2
  go_enter Tryd.func8, Tryd.ntmps8
  have hB0 : Below w.heap.size w w := Below.refl w.heap.size w
  have f_1 : Two (w.alloc (.cells #[.int .i64 (n), .int .i64 (d)] 23)) (w.heap.size) 23 (.int .i64 (n)) (.int .i64 (d)) := Two.at (by simp) _ _ _
  have hBa1 : Below w.heap.size w (w.alloc (.cells #[.int .i64 (n), .int .i64 (d)] 23)) := hB0.alloc hB0.size _
  clear hB0
  have f_2 : Two ((w.alloc (.cells #[.int .i64 (n), .int .i64 (d)] 23)).alloc (.cells #[.int .i64 (m), .int .i64 (e)] 23)) (w.heap.size) 23 (.int .i64 (n)) (.int .i64 (d)) := f_1.alloc _
  clear f_1
  have g_2 : Two ((w.alloc (.cells #[.int .i64 (n), .int .i64 (d)] 23)).alloc (.cells #[.int .i64 (m), .int .i64 (e)] 23)) (w.heap.size + 1) 23 (.int .i64 (m)) (.int .i64 (e)) := Two.at (by simp) _ _ _
  have hBa2 : Below w.heap.size w ((w.alloc (.cells #[.int .i64 (n), .int .i64 (d)] 23)).alloc (.cells #[.int .i64 (m), .int .i64 (e)] 23)) := hBa1.alloc hBa1.size _
  clear hBa1
  go_wp2_with fail
  refine (head_any _ (hl.below hBa2)).mono ?_
  rintro r w1 ⟨rfl, hbc⟩
  have f_3 : Two w1 (w.heap.size) 23 (.int .i64 (n)) (.int .i64 (d)) := f_2.below hbc f_2.lt
  clear f_2
  have g_3 : Two w1 (w.heap.size + 1) 23 (.int .i64 (m)) (.int .i64 (e)) := g_2.below hbc g_2.lt
  clear g_2
  have hBa3 : Below w.heap.size w w1 := hBa2.trans (hbc.mono hBa2.size)
  clear hBa2 hbc
  go_wp2_with fail
  refine (XhOf.out _).mono ?_
  rintro r w2 ⟨rfl, hbc⟩
  have f_4 : Two w2 (w.heap.size) 23 (.int .i64 (n)) (.int .i64 (d)) := f_3.below hbc f_3.lt
  clear f_3
  have g_4 : Two w2 (w.heap.size + 1) 23 (.int .i64 (m)) (.int .i64 (e)) := g_3.below hbc g_3.lt
  clear g_3
  have hBa4 : Below w.heap.size w w2 := hBa3.trans (hbc.mono hBa3.size)
  clear hBa3 hbc
  have f_5 : Two (w2.alloc (.cells #[.int .i64 (an), .int .i64 (ad)] 23)) (w.heap.size) 23 (.int .i64 (n)) (.int .i64 (d)) := f_4.alloc _
  clear f_4
  have g_5 : Two (w2.alloc (.cells #[.int .i64 (an), .int .i64 (ad)] 23)) (w.heap.size + 1) 23 (.int .i64 (m)) (.int .i64 (e)) := g_4.alloc _
  clear g_4
  have a_5 : Two (w2.alloc (.cells #[.int .i64 (an), .int .i64 (ad)] 23)) (w2.heap.size) 23 (.int .i64 (an)) (.int .i64 (ad)) := Two.at (by simp) _ _ _
  have hBa5 : Below w.heap.size w (w2.alloc (.cells #[.int .i64 (an), .int .i64 (ad)] 23)) := hBa4.alloc hBa4.size _
  clear hBa4
  obtain ⟨ff0, ff1, ff2, ff3⟩ := f_5.facts
  obtain ⟨gf0, gf1, gf2, gf3⟩ := g_5.facts
  go_wp2_with fail
  refine (XhAd.out _).mono ?_
  rintro r w3 ⟨rfl, hbc⟩
  clear ff0
  clear ff1
  clear ff2
  clear ff3
  clear gf0
  clear gf1
  clear gf2
  clear gf3
  have f_6 : Two w3 (w.heap.size) 23 (.int .i64 (n)) (.int .i64 (d)) := f_5.below hbc f_5.lt
  clear f_5
  have g_6 : Two w3 (w.heap.size + 1) 23 (.int .i64 (m)) (.int .i64 (e)) := g_5.below hbc g_5.lt
  clear g_5
  have a_6 : Two w3 (w2.heap.size) 23 (.int .i64 (an)) (.int .i64 (ad)) := a_5.below hbc a_5.lt
  clear a_5
  have hBa6 : Below w.heap.size w w3 := hBa5.trans (hbc.mono hBa5.size)
  clear hBa5 hbc
  have f_7 : Two (w3.alloc (.cells #[.int .i64 (bn), .int .i64 (bd)] 23)) (w.heap.size) 23 (.int .i64 (n)) (.int .i64 (d)) := f_6.alloc _
  clear f_6
  have g_7 : Two (w3.alloc (.cells #[.int .i64 (bn), .int .i64 (bd)] 23)) (w.heap.size + 1) 23 (.int .i64 (m)) (.int .i64 (e)) := g_6.alloc _
  clear g_6
  have a_7 : Two (w3.alloc (.cells #[.int .i64 (bn), .int .i64 (bd)] 23)) (w2.heap.size) 23 (.int .i64 (an)) (.int .i64 (ad)) := a_6.alloc _
  clear a_6
  have b_7 : Two (w3.alloc (.cells #[.int .i64 (bn), .int .i64 (bd)] 23)) (w3.heap.size) 23 (.int .i64 (bn)) (.int .i64 (bd)) := Two.at (by simp) _ _ _
  have hBa7 : Below w.heap.size w (w3.alloc (.cells #[.int .i64 (bn), .int .i64 (bd)] 23)) := hBa6.alloc hBa6.size _
  clear hBa6
  obtain ⟨ff0, ff1, ff2, ff3⟩ := f_7.facts
  obtain ⟨gf0, gf1, gf2, gf3⟩ := g_7.facts
  go_wp2_with fail
  refine (XhMu.out _).mono ?_
  rintro r w4 ⟨rfl, hbc⟩
  clear ff0
  clear ff1
  clear ff2
  clear ff3
  clear gf0
  clear gf1
  clear gf2
  clear gf3
  have f_8 : Two w4 (w.heap.size) 23 (.int .i64 (n)) (.int .i64 (d)) := f_7.below hbc f_7.lt
  clear f_7
  have g_8 : Two w4 (w.heap.size + 1) 23 (.int .i64 (m)) (.int .i64 (e)) := g_7.below hbc g_7.lt
  clear g_7
  have a_8 : Two w4 (w2.heap.size) 23 (.int .i64 (an)) (.int .i64 (ad)) := a_7.below hbc a_7.lt
  clear a_7
  have b_8 : Two w4 (w3.heap.size) 23 (.int .i64 (bn)) (.int .i64 (bd)) := b_7.below hbc b_7.lt
  clear b_7
  have hBa8 : Below w.heap.size w w4 := hBa7.trans (hbc.mono hBa7.size)
  clear hBa7 hbc
  have f_9 : Two (w4.alloc (.cells #[.int .i64 (cn), .int .i64 (cd)] 23)) (w.heap.size) 23 (.int .i64 (n)) (.int .i64 (d)) := f_8.alloc _
  clear f_8
  have g_9 : Two (w4.alloc (.cells #[.int .i64 (cn), .int .i64 (cd)] 23)) (w.heap.size + 1) 23 (.int .i64 (m)) (.int .i64 (e)) := g_8.alloc _
  clear g_8
  have a_9 : Two (w4.alloc (.cells #[.int .i64 (cn), .int .i64 (cd)] 23)) (w2.heap.size) 23 (.int .i64 (an)) (.int .i64 (ad)) := a_8.alloc _
  clear a_8
  have b_9 : Two (w4.alloc (.cells #[.int .i64 (cn), .int .i64 (cd)] 23)) (w3.heap.size) 23 (.int .i64 (bn)) (.int .i64 (bd)) := b_8.alloc _
  clear b_8
  have c_9 : Two (w4.alloc (.cells #[.int .i64 (cn), .int .i64 (cd)] 23)) (w4.heap.size) 23 (.int .i64 (cn)) (.int .i64 (cd)) := Two.at (by simp) _ _ _
  have hBa9 : Below w.heap.size w (w4.alloc (.cells #[.int .i64 (cn), .int .i64 (cd)] 23)) := hBa8.alloc hBa8.size _
  clear hBa8
  go_wp2_with fail
  refine (XhPa.out _ (hl.below hBa9)).mono ?_
  rintro r w5 ⟨rfl, hbc⟩
  have f_10 : Two w5 (w.heap.size) 23 (.int .i64 (n)) (.int .i64 (d)) := f_9.below hbc f_9.lt
  clear f_9
  have g_10 : Two w5 (w.heap.size + 1) 23 (.int .i64 (m)) (.int .i64 (e)) := g_9.below hbc g_9.lt
  clear g_9
  have a_10 : Two w5 (w2.heap.size) 23 (.int .i64 (an)) (.int .i64 (ad)) := a_9.below hbc a_9.lt
  clear a_9
  have b_10 : Two w5 (w3.heap.size) 23 (.int .i64 (bn)) (.int .i64 (bd)) := b_9.below hbc b_9.lt
  clear b_9
  have c_10 : Two w5 (w4.heap.size) 23 (.int .i64 (cn)) (.int .i64 (cd)) := c_9.below hbc c_9.lt
  clear c_9
  have hBa10 : Below w.heap.size w w5 := hBa9.trans (hbc.mono hBa9.size)
  clear hBa9 hbc
  have f_11 : Two (w5.alloc (.cells #[.int .i64 (pn), .int .i64 (pd)] 23)) (w.heap.size) 23 (.int .i64 (n)) (.int .i64 (d)) := f_10.alloc _
  clear f_10
  have g_11 : Two (w5.alloc (.cells #[.int .i64 (pn), .int .i64 (pd)] 23)) (w.heap.size + 1) 23 (.int .i64 (m)) (.int .i64 (e)) := g_10.alloc _
  clear g_10
  have a_11 : Two (w5.alloc (.cells #[.int .i64 (pn), .int .i64 (pd)] 23)) (w2.heap.size) 23 (.int .i64 (an)) (.int .i64 (ad)) := a_10.alloc _
  clear a_10
  have b_11 : Two (w5.alloc (.cells #[.int .i64 (pn), .int .i64 (pd)] 23)) (w3.heap.size) 23 (.int .i64 (bn)) (.int .i64 (bd)) := b_10.alloc _
  clear b_10
  have c_11 : Two (w5.alloc (.cells #[.int .i64 (pn), .int .i64 (pd)] 23)) (w4.heap.size) 23 (.int .i64 (cn)) (.int .i64 (cd)) := c_10.alloc _
  clear c_10
  have p_11 : Two (w5.alloc (.cells #[.int .i64 (pn), .int .i64 (pd)] 23)) (w5.heap.size) 23 (.int .i64 (pn)) (.int .i64 (pd)) := Two.at (by simp) _ _ _
  have hBa11 : Below w.heap.size w (w5.alloc (.cells #[.int .i64 (pn), .int .i64 (pd)] 23)) := hBa10.alloc hBa10.size _
  clear hBa10
  go_upto_region 8 with fail
  generalize (w5.alloc (.cells #[.int .i64 (pn), .int .i64 (pd)] 23)) = Wx at *
  go_cut [88] (fun v wx => v = .bool false ∧ Below Wx.heap.size Wx wx)
  case first => as_aux_lemma =>
    have hB0 : Below Wx.heap.size Wx Wx := Below.refl Wx.heap.size Wx
    have hA := XhA.out
    have hP := XhP.out
    clear XhA XhB XhC XhP XhZ XhR
    rcases hA with ⟨rfl, va⟩ | za
    · skip
      rcases hP with ⟨rfl, vp⟩ | zp
      · skip
        obtain ⟨af0, af1, af2, af3⟩ := a_11.facts
        go_wp2_with fail
        refine (valid_yes _ _ va _).mono ?_
        rintro r Wx1 ⟨rfl, hbc⟩
        clear af0
        clear af1
        clear af2
        clear af3
        have f_1 : Two Wx1 (w.heap.size) 23 (.int .i64 (n)) (.int .i64 (d)) := f_11.below hbc f_11.lt
        clear f_11
        have g_1 : Two Wx1 (w.heap.size + 1) 23 (.int .i64 (m)) (.int .i64 (e)) := g_11.below hbc g_11.lt
        clear g_11
        have a_1 : Two Wx1 (w2.heap.size) 23 (.int .i64 (an)) (.int .i64 (ad)) := a_11.below hbc a_11.lt
        clear a_11
        have b_1 : Two Wx1 (w3.heap.size) 23 (.int .i64 (bn)) (.int .i64 (bd)) := b_11.below hbc b_11.lt
        clear b_11
        have c_1 : Two Wx1 (w4.heap.size) 23 (.int .i64 (cn)) (.int .i64 (cd)) := c_11.below hbc c_11.lt
        clear c_11
        have p_1 : Two Wx1 (w5.heap.size) 23 (.int .i64 (pn)) (.int .i64 (pd)) := p_11.below hbc p_11.lt
        clear p_11
        have hBa1 : Below Wx.heap.size Wx Wx1 := hB0.trans (hbc.mono hB0.size)
        clear hB0 hbc
        obtain ⟨pf0, pf1, pf2, pf3⟩ := p_1.facts
        go_wp2_with fail
        refine (valid_yes _ _ vp _).mono ?_
        rintro r Wx2 ⟨rfl, hbc⟩
        clear pf0
        clear pf1
        clear pf2
        clear pf3
        have f_2 : Two Wx2 (w.heap.size) 23 (.int .i64 (n)) (.int .i64 (d)) := f_1.below hbc f_1.lt
        clear f_1
        have g_2 : Two Wx2 (w.heap.size + 1) 23 (.int .i64 (m)) (.int .i64 (e)) := g_1.below hbc g_1.lt
        clear g_1
        have a_2 : Two Wx2 (w2.heap.size) 23 (.int .i64 (an)) (.int .i64 (ad)) := a_1.below hbc a_1.lt
        clear a_1
        have b_2 : Two Wx2 (w3.heap.size) 23 (.int .i64 (bn)) (.int .i64 (bd)) := b_1.below hbc b_1.lt
        clear b_1
        have c_2 : Two Wx2 (w4.heap.size) 23 (.int .i64 (cn)) (.int .i64 (cd)) := c_1.below hbc c_1.lt
        clear c_1
        have p_2 : Two Wx2 (w5.heap.size) 23 (.int .i64 (pn)) (.int .i64 (pd)) := p_1.below hbc p_1.lt
        clear p_1
        have hBa2 : Below Wx.heap.size Wx Wx2 := hBa1.trans (hbc.mono hBa1.size)
        clear hBa1 hbc
        go_wp2_with fail
        go_meet
        exact ⟨rfl, hBa2⟩
      · skip
        obtain ⟨af0, af1, af2, af3⟩ := a_11.facts
        go_wp2_with fail
        refine (valid_yes _ _ va _).mono ?_
        rintro r Wx1 ⟨rfl, hbc⟩
        clear af0
        clear af1
        clear af2
        clear af3
        have f_1 : Two Wx1 (w.heap.size) 23 (.int .i64 (n)) (.int .i64 (d)) := f_11.below hbc f_11.lt
        clear f_11
        have g_1 : Two Wx1 (w.heap.size + 1) 23 (.int .i64 (m)) (.int .i64 (e)) := g_11.below hbc g_11.lt
        clear g_11
        have a_1 : Two Wx1 (w2.heap.size) 23 (.int .i64 (an)) (.int .i64 (ad)) := a_11.below hbc a_11.lt
        clear a_11
        have b_1 : Two Wx1 (w3.heap.size) 23 (.int .i64 (bn)) (.int .i64 (bd)) := b_11.below hbc b_11.lt
        clear b_11
        have c_1 : Two Wx1 (w4.heap.size) 23 (.int .i64 (cn)) (.int .i64 (cd)) := c_11.below hbc c_11.lt
        clear c_11
        have p_1 : Two Wx1 (w5.heap.size) 23 (.int .i64 (pn)) (.int .i64 (pd)) := p_11.below hbc p_11.lt
        clear p_11
        have hBa1 : Below Wx.heap.size Wx Wx1 := hB0.trans (hbc.mono hB0.size)
        clear hB0 hbc
        go_wp2_with fail
        go_meet
        exact ⟨rfl, hBa1⟩
    · skip
      rcases hP with ⟨rfl, vp⟩ | zp
      · skip
        obtain ⟨pf0, pf1, pf2, pf3⟩ := p_11.facts
        go_wp2_with fail
        refine (valid_yes _ _ vp _).mono ?_
        rintro r Wx1 ⟨rfl, hbc⟩
        clear pf0
        clear pf1
        clear pf2
        clear pf3
        have f_1 : Two Wx1 (w.heap.size) 23 (.int .i64 (n)) (.int .i64 (d)) := f_11.below hbc f_11.lt
        clear f_11
        have g_1 : Two Wx1 (w.heap.size + 1) 23 (.int .i64 (m)) (.int .i64 (e)) := g_11.below hbc g_11.lt
        clear g_11
        have a_1 : Two Wx1 (w2.heap.size) 23 (.int .i64 (an)) (.int .i64 (ad)) := a_11.below hbc a_11.lt
        clear a_11
        have b_1 : Two Wx1 (w3.heap.size) 23 (.int .i64 (bn)) (.int .i64 (bd)) := b_11.below hbc b_11.lt
        clear b_11
        have c_1 : Two Wx1 (w4.heap.size) 23 (.int .i64 (cn)) (.int .i64 (cd)) := c_11.below hbc c_11.lt
        clear c_11
        have p_1 : Two Wx1 (w5.heap.size) 23 (.int .i64 (pn)) (.int .i64 (pd)) := p_11.below hbc p_11.lt
        clear p_11
        have hBa1 : Below Wx.heap.size Wx Wx1 := hB0.trans (hbc.mono hB0.size)
        clear hB0 hbc
        go_wp2_with fail
        go_meet
        exact ⟨rfl, hBa1⟩
      · skip
        go_wp2_with fail
        go_meet
        exact ⟨rfl, hB0⟩
  case rest =>
    obtain ⟨rfl, hbc⟩ := hcut
    obtain ⟨wcx, rfl⟩ : ∃ x : World, x = wc := ⟨_, rfl⟩
    have f_12 : Two wcx (w.heap.size) 23 (.int .i64 (n)) (.int .i64 (d)) := f_11.below hbc f_11.lt
    clear f_11
    have g_12 : Two wcx (w.heap.size + 1) 23 (.int .i64 (m)) (.int .i64 (e)) := g_11.below hbc g_11.lt
    clear g_11
    have a_12 : Two wcx (w2.heap.size) 23 (.int .i64 (an)) (.int .i64 (ad)) := a_11.below hbc a_11.lt
    clear a_11
    have b_12 : Two wcx (w3.heap.size) 23 (.int .i64 (bn)) (.int .i64 (bd)) := b_11.below hbc b_11.lt
    clear b_11
    have c_12 : Two wcx (w4.heap.size) 23 (.int .i64 (cn)) (.int .i64 (cd)) := c_11.below hbc c_11.lt
    clear c_11
    have p_12 : Two wcx (w5.heap.size) 23 (.int .i64 (pn)) (.int .i64 (pd)) := p_11.below hbc p_11.lt
    clear p_11
    have hBa12 : Below w.heap.size w wcx := hBa11.trans (hbc.mono hBa11.size)
    clear hBa11 hbc
    obtain ⟨ff0, ff1, ff2, ff3⟩ := f_12.facts
    go_wp2_with fail
    refine (valid_no _ _ hf _).mono ?_
    rintro r w6 ⟨rfl, hbc⟩
    clear ff0
    clear ff1
    clear ff2
    clear ff3
    have f_13 : Two w6 (w.heap.size) 23 (.int .i64 (n)) (.int .i64 (d)) := f_12.below hbc f_12.lt
    clear f_12
    have g_13 : Two w6 (w.heap.size + 1) 23 (.int .i64 (m)) (.int .i64 (e)) := g_12.below hbc g_12.lt
    clear g_12
    have a_13 : Two w6 (w2.heap.size) 23 (.int .i64 (an)) (.int .i64 (ad)) := a_12.below hbc a_12.lt
    clear a_12
    have b_13 : Two w6 (w3.heap.size) 23 (.int .i64 (bn)) (.int .i64 (bd)) := b_12.below hbc b_12.lt
    clear b_12
    have c_13 : Two w6 (w4.heap.size) 23 (.int .i64 (cn)) (.int .i64 (cd)) := c_12.below hbc c_12.lt
    clear c_12
    have p_13 : Two w6 (w5.heap.size) 23 (.int .i64 (pn)) (.int .i64 (pd)) := p_12.below hbc p_12.lt
    clear p_12
    have hBa13 : Below w.heap.size w w6 := hBa12.trans (hbc.mono hBa12.size)
    clear hBa12 hbc
    go_upto_region 11 with fail
    generalize w6 = Wy at *
    go_cut [130] (fun v wx => v = .bool false ∧ Below Wy.heap.size Wy wx)
    case first => as_aux_lemma =>
      have hB0 : Below Wy.heap.size Wy Wy := Below.refl Wy.heap.size Wy
      have hZ := XhZ.out
      clear XhA XhB XhC XhP XhZ XhR
      rcases hZ with ⟨rfl, rfl⟩ | ⟨z1, z2⟩
      · skip
        go_wp2_with fail
        go_meet
        exact ⟨rfl, hB0⟩
      · skip
        go_wp2_with fail
        go_meet
        exact ⟨rfl, hB0⟩
    case rest =>
      obtain ⟨rfl, hbc⟩ := hcut
      obtain ⟨wcy, rfl⟩ : ∃ x : World, x = wc := ⟨_, rfl⟩
      have f_14 : Two wcy (w.heap.size) 23 (.int .i64 (n)) (.int .i64 (d)) := f_13.below hbc f_13.lt
      clear f_13
      have g_14 : Two wcy (w.heap.size + 1) 23 (.int .i64 (m)) (.int .i64 (e)) := g_13.below hbc g_13.lt
      clear g_13
      have a_14 : Two wcy (w2.heap.size) 23 (.int .i64 (an)) (.int .i64 (ad)) := a_13.below hbc a_13.lt
      clear a_13
      have b_14 : Two wcy (w3.heap.size) 23 (.int .i64 (bn)) (.int .i64 (bd)) := b_13.below hbc b_13.lt
      clear b_13
      have c_14 : Two wcy (w4.heap.size) 23 (.int .i64 (cn)) (.int .i64 (cd)) := c_13.below hbc c_13.lt
      clear c_13
      have p_14 : Two wcy (w5.heap.size) 23 (.int .i64 (pn)) (.int .i64 (pd)) := p_13.below hbc p_13.lt
      clear p_13
      have hBa14 : Below w.heap.size w wcy := hBa13.trans (hbc.mono hBa13.size)
      clear hBa13 hbc
      have hR := XhR.out
      clear XhA XhB XhC XhP XhZ XhR
      rcases hR with ⟨rfl, rfl, rfl, rfl, rfl, rfl⟩ | z1 | ⟨rfl, z1⟩ | ⟨rfl, rfl, z1⟩
      · skip
        go_wp2_with fail
        refine (XhOx.out _).mono ?_
        rintro r w7 ⟨rfl, hbc⟩
        have f_15 : Two w7 (w.heap.size) 23 (.int .i64 (n)) (.int .i64 (d)) := f_14.below hbc f_14.lt
        clear f_14
        have g_15 : Two w7 (w.heap.size + 1) 23 (.int .i64 (m)) (.int .i64 (e)) := g_14.below hbc g_14.lt
        clear g_14
        have a_15 : Two w7 (w2.heap.size) 23 (.int .i64 (an)) (.int .i64 (ad)) := a_14.below hbc a_14.lt
        clear a_14
        have b_15 : Two w7 (w3.heap.size) 23 (.int .i64 (bn)) (.int .i64 (bd)) := b_14.below hbc b_14.lt
        clear b_14
        have c_15 : Two w7 (w4.heap.size) 23 (.int .i64 (cn)) (.int .i64 (cd)) := c_14.below hbc c_14.lt
        clear c_14
        have p_15 : Two w7 (w5.heap.size) 23 (.int .i64 (pn)) (.int .i64 (pd)) := p_14.below hbc p_14.lt
        clear p_14
        have hBa15 : Below w.heap.size w w7 := hBa14.trans (hbc.mono hBa14.size)
        clear hBa14 hbc
        have f_16 : Two (w7.alloc (.cells #[.int .i64 (kn), .int .i64 (kd)] 23)) (w.heap.size) 23 (.int .i64 (n)) (.int .i64 (d)) := f_15.alloc _
        clear f_15
        have g_16 : Two (w7.alloc (.cells #[.int .i64 (kn), .int .i64 (kd)] 23)) (w.heap.size + 1) 23 (.int .i64 (m)) (.int .i64 (e)) := g_15.alloc _
        clear g_15
        have a_16 : Two (w7.alloc (.cells #[.int .i64 (kn), .int .i64 (kd)] 23)) (w2.heap.size) 23 (.int .i64 (an)) (.int .i64 (ad)) := a_15.alloc _
        clear a_15
        have b_16 : Two (w7.alloc (.cells #[.int .i64 (kn), .int .i64 (kd)] 23)) (w3.heap.size) 23 (.int .i64 (bn)) (.int .i64 (bd)) := b_15.alloc _
        clear b_15
        have c_16 : Two (w7.alloc (.cells #[.int .i64 (kn), .int .i64 (kd)] 23)) (w4.heap.size) 23 (.int .i64 (cn)) (.int .i64 (cd)) := c_15.alloc _
        clear c_15
        have p_16 : Two (w7.alloc (.cells #[.int .i64 (kn), .int .i64 (kd)] 23)) (w5.heap.size) 23 (.int .i64 (pn)) (.int .i64 (pd)) := p_15.alloc _
        clear p_15
        have x_16 : Two (w7.alloc (.cells #[.int .i64 (kn), .int .i64 (kd)] 23)) (w7.heap.size) 23 (.int .i64 (kn)) (.int .i64 (kd)) := Two.at (by simp) _ _ _
        have hBa16 : Below w.heap.size w (w7.alloc (.cells #[.int .i64 (kn), .int .i64 (kd)] 23)) := hBa15.alloc hBa15.size _
        clear hBa15
        go_wp2_with fail
        refine (XhOy.out _).mono ?_
        rintro r w8 ⟨rfl, hbc⟩
        have f_17 : Two w8 (w.heap.size) 23 (.int .i64 (n)) (.int .i64 (d)) := f_16.below hbc f_16.lt
        clear f_16
        have g_17 : Two w8 (w.heap.size + 1) 23 (.int .i64 (m)) (.int .i64 (e)) := g_16.below hbc g_16.lt
        clear g_16
        have a_17 : Two w8 (w2.heap.size) 23 (.int .i64 (an)) (.int .i64 (ad)) := a_16.below hbc a_16.lt
        clear a_16
        have b_17 : Two w8 (w3.heap.size) 23 (.int .i64 (bn)) (.int .i64 (bd)) := b_16.below hbc b_16.lt
        clear b_16
        have c_17 : Two w8 (w4.heap.size) 23 (.int .i64 (cn)) (.int .i64 (cd)) := c_16.below hbc c_16.lt
        clear c_16
        have p_17 : Two w8 (w5.heap.size) 23 (.int .i64 (pn)) (.int .i64 (pd)) := p_16.below hbc p_16.lt
        clear p_16
        have x_17 : Two w8 (w7.heap.size) 23 (.int .i64 (kn)) (.int .i64 (kd)) := x_16.below hbc x_16.lt
        clear x_16
        have hBa17 : Below w.heap.size w w8 := hBa16.trans (hbc.mono hBa16.size)
        clear hBa16 hbc
        have f_18 : Two (w8.alloc (.cells #[.int .i64 (yn), .int .i64 (yd)] 23)) (w.heap.size) 23 (.int .i64 (n)) (.int .i64 (d)) := f_17.alloc _
        clear f_17
        have g_18 : Two (w8.alloc (.cells #[.int .i64 (yn), .int .i64 (yd)] 23)) (w.heap.size + 1) 23 (.int .i64 (m)) (.int .i64 (e)) := g_17.alloc _
        clear g_17
        have a_18 : Two (w8.alloc (.cells #[.int .i64 (yn), .int .i64 (yd)] 23)) (w2.heap.size) 23 (.int .i64 (an)) (.int .i64 (ad)) := a_17.alloc _
        clear a_17
        have b_18 : Two (w8.alloc (.cells #[.int .i64 (yn), .int .i64 (yd)] 23)) (w3.heap.size) 23 (.int .i64 (bn)) (.int .i64 (bd)) := b_17.alloc _
        clear b_17
        have c_18 : Two (w8.alloc (.cells #[.int .i64 (yn), .int .i64 (yd)] 23)) (w4.heap.size) 23 (.int .i64 (cn)) (.int .i64 (cd)) := c_17.alloc _
        clear c_17
        have p_18 : Two (w8.alloc (.cells #[.int .i64 (yn), .int .i64 (yd)] 23)) (w5.heap.size) 23 (.int .i64 (pn)) (.int .i64 (pd)) := p_17.alloc _
        clear p_17
        have x_18 : Two (w8.alloc (.cells #[.int .i64 (yn), .int .i64 (yd)] 23)) (w7.heap.size) 23 (.int .i64 (kn)) (.int .i64 (kd)) := x_17.alloc _
        clear x_17
        have y_18 : Two (w8.alloc (.cells #[.int .i64 (yn), .int .i64 (yd)] 23)) (w8.heap.size) 23 (.int .i64 (yn)) (.int .i64 (yd)) := Two.at (by simp) _ _ _
        have hBa18 : Below w.heap.size w (w8.alloc (.cells #[.int .i64 (yn), .int .i64 (yd)] 23)) := hBa17.alloc hBa17.size _
        clear hBa17
        obtain ⟨af0, af1, af2, af3⟩ := a_18.facts
        obtain ⟨yf0, yf1, yf2, yf3⟩ := y_18.facts
        go_wp2_with fail
        refine (XhBk.out _).mono ?_
        rintro r w9 ⟨rfl, hbc⟩
        clear af0
        clear af1
        clear af2
        clear af3
        clear yf0
        clear yf1
        clear yf2
        clear yf3
        have f_19 : Two w9 (w.heap.size) 23 (.int .i64 (n)) (.int .i64 (d)) := f_18.below hbc f_18.lt
        clear f_18
        have g_19 : Two w9 (w.heap.size + 1) 23 (.int .i64 (m)) (.int .i64 (e)) := g_18.below hbc g_18.lt
        clear g_18
        have a_19 : Two w9 (w2.heap.size) 23 (.int .i64 (an)) (.int .i64 (ad)) := a_18.below hbc a_18.lt
        clear a_18
        have b_19 : Two w9 (w3.heap.size) 23 (.int .i64 (bn)) (.int .i64 (bd)) := b_18.below hbc b_18.lt
        clear b_18
        have c_19 : Two w9 (w4.heap.size) 23 (.int .i64 (cn)) (.int .i64 (cd)) := c_18.below hbc c_18.lt
        clear c_18
        have p_19 : Two w9 (w5.heap.size) 23 (.int .i64 (pn)) (.int .i64 (pd)) := p_18.below hbc p_18.lt
        clear p_18
        have x_19 : Two w9 (w7.heap.size) 23 (.int .i64 (kn)) (.int .i64 (kd)) := x_18.below hbc x_18.lt
        clear x_18
        have y_19 : Two w9 (w8.heap.size) 23 (.int .i64 (yn)) (.int .i64 (yd)) := y_18.below hbc y_18.lt
        clear y_18
        have hBa19 : Below w.heap.size w w9 := hBa18.trans (hbc.mono hBa18.size)
        clear hBa18 hbc
        have f_20 : Two (w9.alloc (.cells #[.int .i64 (kn), .int .i64 (kd)] 23)) (w.heap.size) 23 (.int .i64 (n)) (.int .i64 (d)) := f_19.alloc _
        clear f_19
        have g_20 : Two (w9.alloc (.cells #[.int .i64 (kn), .int .i64 (kd)] 23)) (w.heap.size + 1) 23 (.int .i64 (m)) (.int .i64 (e)) := g_19.alloc _
        clear g_19
        have a_20 : Two (w9.alloc (.cells #[.int .i64 (kn), .int .i64 (kd)] 23)) (w2.heap.size) 23 (.int .i64 (an)) (.int .i64 (ad)) := a_19.alloc _
        clear a_19
        have b_20 : Two (w9.alloc (.cells #[.int .i64 (kn), .int .i64 (kd)] 23)) (w3.heap.size) 23 (.int .i64 (bn)) (.int .i64 (bd)) := b_19.alloc _
        clear b_19
        have c_20 : Two (w9.alloc (.cells #[.int .i64 (kn), .int .i64 (kd)] 23)) (w4.heap.size) 23 (.int .i64 (cn)) (.int .i64 (cd)) := c_19.alloc _
        clear c_19
        have p_20 : Two (w9.alloc (.cells #[.int .i64 (kn), .int .i64 (kd)] 23)) (w5.heap.size) 23 (.int .i64 (pn)) (.int .i64 (pd)) := p_19.alloc _
        clear p_19
        have x_20 : Two (w9.alloc (.cells #[.int .i64 (kn), .int .i64 (kd)] 23)) (w7.heap.size) 23 (.int .i64 (kn)) (.int .i64 (kd)) := x_19.alloc _
        clear x_19
        have y_20 : Two (w9.alloc (.cells #[.int .i64 (kn), .int .i64 (kd)] 23)) (w8.heap.size) 23 (.int .i64 (yn)) (.int .i64 (yd)) := y_19.alloc _
        clear y_19
        have z_20 : Two (w9.alloc (.cells #[.int .i64 (kn), .int .i64 (kd)] 23)) (w9.heap.size) 23 (.int .i64 (kn)) (.int .i64 (kd)) := Two.at (by simp) _ _ _
        have hBa20 : Below w.heap.size w (w9.alloc (.cells #[.int .i64 (kn), .int .i64 (kd)] 23)) := hBa19.alloc hBa19.size _
        clear hBa19
        obtain ⟨xf0, xf1, xf2, xf3⟩ := x_20.facts
        obtain ⟨zf0, zf1, zf2, zf3⟩ := z_20.facts
        go_wp2_with fail
        go_ret
        exact ⟨rfl, hBa20⟩
      · skip
        have z2 := nz z1
        go_wp2_with fail
        refine (XhOx.out _).mono ?_
        rintro r w7 ⟨rfl, hbc⟩
        have f_15 : Two w7 (w.heap.size) 23 (.int .i64 (n)) (.int .i64 (d)) := f_14.below hbc f_14.lt
        clear f_14
        have g_15 : Two w7 (w.heap.size + 1) 23 (.int .i64 (m)) (.int .i64 (e)) := g_14.below hbc g_14.lt
        clear g_14
        have a_15 : Two w7 (w2.heap.size) 23 (.int .i64 (an)) (.int .i64 (ad)) := a_14.below hbc a_14.lt
        clear a_14
        have b_15 : Two w7 (w3.heap.size) 23 (.int .i64 (bn)) (.int .i64 (bd)) := b_14.below hbc b_14.lt
        clear b_14
        have c_15 : Two w7 (w4.heap.size) 23 (.int .i64 (cn)) (.int .i64 (cd)) := c_14.below hbc c_14.lt
        clear c_14
        have p_15 : Two w7 (w5.heap.size) 23 (.int .i64 (pn)) (.int .i64 (pd)) := p_14.below hbc p_14.lt
        clear p_14
        have hBa15 : Below w.heap.size w w7 := hBa14.trans (hbc.mono hBa14.size)
        clear hBa14 hbc
        have f_16 : Two (w7.alloc (.cells #[.int .i64 (xn), .int .i64 (xd)] 23)) (w.heap.size) 23 (.int .i64 (n)) (.int .i64 (d)) := f_15.alloc _
        clear f_15
        have g_16 : Two (w7.alloc (.cells #[.int .i64 (xn), .int .i64 (xd)] 23)) (w.heap.size + 1) 23 (.int .i64 (m)) (.int .i64 (e)) := g_15.alloc _
        clear g_15
        have a_16 : Two (w7.alloc (.cells #[.int .i64 (xn), .int .i64 (xd)] 23)) (w2.heap.size) 23 (.int .i64 (an)) (.int .i64 (ad)) := a_15.alloc _
        clear a_15
        have b_16 : Two (w7.alloc (.cells #[.int .i64 (xn), .int .i64 (xd)] 23)) (w3.heap.size) 23 (.int .i64 (bn)) (.int .i64 (bd)) := b_15.alloc _
        clear b_15
        have c_16 : Two (w7.alloc (.cells #[.int .i64 (xn), .int .i64 (xd)] 23)) (w4.heap.size) 23 (.int .i64 (cn)) (.int .i64 (cd)) := c_15.alloc _
        clear c_15
        have p_16 : Two (w7.alloc (.cells #[.int .i64 (xn), .int .i64 (xd)] 23)) (w5.heap.size) 23 (.int .i64 (pn)) (.int .i64 (pd)) := p_15.alloc _
        clear p_15
        have x_16 : Two (w7.alloc (.cells #[.int .i64 (xn), .int .i64 (xd)] 23)) (w7.heap.size) 23 (.int .i64 (xn)) (.int .i64 (xd)) := Two.at (by simp) _ _ _
        have hBa16 : Below w.heap.size w (w7.alloc (.cells #[.int .i64 (xn), .int .i64 (xd)] 23)) := hBa15.alloc hBa15.size _
        clear hBa15
        go_wp2_with fail
        refine (XhOy.out _).mono ?_
        rintro r w8 ⟨rfl, hbc⟩
        have f_17 : Two w8 (w.heap.size) 23 (.int .i64 (n)) (.int .i64 (d)) := f_16.below hbc f_16.lt
        clear f_16
        have g_17 : Two w8 (w.heap.size + 1) 23 (.int .i64 (m)) (.int .i64 (e)) := g_16.below hbc g_16.lt
        clear g_16
        have a_17 : Two w8 (w2.heap.size) 23 (.int .i64 (an)) (.int .i64 (ad)) := a_16.below hbc a_16.lt
        clear a_16
        have b_17 : Two w8 (w3.heap.size) 23 (.int .i64 (bn)) (.int .i64 (bd)) := b_16.below hbc b_16.lt
        clear b_16
        have c_17 : Two w8 (w4.heap.size) 23 (.int .i64 (cn)) (.int .i64 (cd)) := c_16.below hbc c_16.lt
        clear c_16
        have p_17 : Two w8 (w5.heap.size) 23 (.int .i64 (pn)) (.int .i64 (pd)) := p_16.below hbc p_16.lt
        clear p_16
        have x_17 : Two w8 (w7.heap.size) 23 (.int .i64 (xn)) (.int .i64 (xd)) := x_16.below hbc x_16.lt
        clear x_16
        have hBa17 : Below w.heap.size w w8 := hBa16.trans (hbc.mono hBa16.size)
        clear hBa16 hbc
        have f_18 : Two (w8.alloc (.cells #[.int .i64 (yn), .int .i64 (yd)] 23)) (w.heap.size) 23 (.int .i64 (n)) (.int .i64 (d)) := f_17.alloc _
        clear f_17
        have g_18 : Two (w8.alloc (.cells #[.int .i64 (yn), .int .i64 (yd)] 23)) (w.heap.size + 1) 23 (.int .i64 (m)) (.int .i64 (e)) := g_17.alloc _
        clear g_17
        have a_18 : Two (w8.alloc (.cells #[.int .i64 (yn), .int .i64 (yd)] 23)) (w2.heap.size) 23 (.int .i64 (an)) (.int .i64 (ad)) := a_17.alloc _
        clear a_17
        have b_18 : Two (w8.alloc (.cells #[.int .i64 (yn), .int .i64 (yd)] 23)) (w3.heap.size) 23 (.int .i64 (bn)) (.int .i64 (bd)) := b_17.alloc _
        clear b_17
        have c_18 : Two (w8.alloc (.cells #[.int .i64 (yn), .int .i64 (yd)] 23)) (w4.heap.size) 23 (.int .i64 (cn)) (.int .i64 (cd)) := c_17.alloc _
        clear c_17
        have p_18 : Two (w8.alloc (.cells #[.int .i64 (yn), .int .i64 (yd)] 23)) (w5.heap.size) 23 (.int .i64 (pn)) (.int .i64 (pd)) := p_17.alloc _
        clear p_17
        have x_18 : Two (w8.alloc (.cells #[.int .i64 (yn), .int .i64 (yd)] 23)) (w7.heap.size) 23 (.int .i64 (xn)) (.int .i64 (xd)) := x_17.alloc _
        clear x_17
        have y_18 : Two (w8.alloc (.cells #[.int .i64 (yn), .int .i64 (yd)] 23)) (w8.heap.size) 23 (.int .i64 (yn)) (.int .i64 (yd)) := Two.at (by simp) _ _ _
        have hBa18 : Below w.heap.size w (w8.alloc (.cells #[.int .i64 (yn), .int .i64 (yd)] 23)) := hBa17.alloc hBa17.size _
        clear hBa17
        go_wp2_with fail
        go_ret
        exact ⟨rfl, hBa18⟩
      · skip
        have z2 := nz z1
        go_wp2_with fail
        refine (XhOx.out _).mono ?_
        rintro r w7 ⟨rfl, hbc⟩
        have f_15 : Two w7 (w.heap.size) 23 (.int .i64 (n)) (.int .i64 (d)) := f_14.below hbc f_14.lt
        clear f_14
        have g_15 : Two w7 (w.heap.size + 1) 23 (.int .i64 (m)) (.int .i64 (e)) := g_14.below hbc g_14.lt
        clear g_14
        have a_15 : Two w7 (w2.heap.size) 23 (.int .i64 (an)) (.int .i64 (ad)) := a_14.below hbc a_14.lt
        clear a_14
        have b_15 : Two w7 (w3.heap.size) 23 (.int .i64 (bn)) (.int .i64 (bd)) := b_14.below hbc b_14.lt
        clear b_14
        have c_15 : Two w7 (w4.heap.size) 23 (.int .i64 (cn)) (.int .i64 (cd)) := c_14.below hbc c_14.lt
        clear c_14
        have p_15 : Two w7 (w5.heap.size) 23 (.int .i64 (pn)) (.int .i64 (pd)) := p_14.below hbc p_14.lt
        clear p_14
        have hBa15 : Below w.heap.size w w7 := hBa14.trans (hbc.mono hBa14.size)
        clear hBa14 hbc
        have f_16 : Two (w7.alloc (.cells #[.int .i64 (xn), .int .i64 (xd)] 23)) (w.heap.size) 23 (.int .i64 (n)) (.int .i64 (d)) := f_15.alloc _
        clear f_15
        have g_16 : Two (w7.alloc (.cells #[.int .i64 (xn), .int .i64 (xd)] 23)) (w.heap.size + 1) 23 (.int .i64 (m)) (.int .i64 (e)) := g_15.alloc _
        clear g_15
        have a_16 : Two (w7.alloc (.cells #[.int .i64 (xn), .int .i64 (xd)] 23)) (w2.heap.size) 23 (.int .i64 (an)) (.int .i64 (ad)) := a_15.alloc _
        clear a_15
        have b_16 : Two (w7.alloc (.cells #[.int .i64 (xn), .int .i64 (xd)] 23)) (w3.heap.size) 23 (.int .i64 (bn)) (.int .i64 (bd)) := b_15.alloc _
        clear b_15
        have c_16 : Two (w7.alloc (.cells #[.int .i64 (xn), .int .i64 (xd)] 23)) (w4.heap.size) 23 (.int .i64 (cn)) (.int .i64 (cd)) := c_15.alloc _
        clear c_15
        have p_16 : Two (w7.alloc (.cells #[.int .i64 (xn), .int .i64 (xd)] 23)) (w5.heap.size) 23 (.int .i64 (pn)) (.int .i64 (pd)) := p_15.alloc _
        clear p_15
        have x_16 : Two (w7.alloc (.cells #[.int .i64 (xn), .int .i64 (xd)] 23)) (w7.heap.size) 23 (.int .i64 (xn)) (.int .i64 (xd)) := Two.at (by simp) _ _ _
        have hBa16 : Below w.heap.size w (w7.alloc (.cells #[.int .i64 (xn), .int .i64 (xd)] 23)) := hBa15.alloc hBa15.size _
        clear hBa15
        go_wp2_with fail
        refine (XhOy.out _).mono ?_
        rintro r w8 ⟨rfl, hbc⟩
        have f_17 : Two w8 (w.heap.size) 23 (.int .i64 (n)) (.int .i64 (d)) := f_16.below hbc f_16.lt
        clear f_16
        have g_17 : Two w8 (w.heap.size + 1) 23 (.int .i64 (m)) (.int .i64 (e)) := g_16.below hbc g_16.lt
        clear g_16
        have a_17 : Two w8 (w2.heap.size) 23 (.int .i64 (an)) (.int .i64 (ad)) := a_16.below hbc a_16.lt
        clear a_16
        have b_17 : Two w8 (w3.heap.size) 23 (.int .i64 (bn)) (.int .i64 (bd)) := b_16.below hbc b_16.lt
        clear b_16
        have c_17 : Two w8 (w4.heap.size) 23 (.int .i64 (cn)) (.int .i64 (cd)) := c_16.below hbc c_16.lt
        clear c_16
        have p_17 : Two w8 (w5.heap.size) 23 (.int .i64 (pn)) (.int .i64 (pd)) := p_16.below hbc p_16.lt
        clear p_16
        have x_17 : Two w8 (w7.heap.size) 23 (.int .i64 (xn)) (.int .i64 (xd)) := x_16.below hbc x_16.lt
        clear x_16
        have hBa17 : Below w.heap.size w w8 := hBa16.trans (hbc.mono hBa16.size)
        clear hBa16 hbc
        have f_18 : Two (w8.alloc (.cells #[.int .i64 (yn), .int .i64 (yd)] 23)) (w.heap.size) 23 (.int .i64 (n)) (.int .i64 (d)) := f_17.alloc _
        clear f_17
        have g_18 : Two (w8.alloc (.cells #[.int .i64 (yn), .int .i64 (yd)] 23)) (w.heap.size + 1) 23 (.int .i64 (m)) (.int .i64 (e)) := g_17.alloc _
        clear g_17
        have a_18 : Two (w8.alloc (.cells #[.int .i64 (yn), .int .i64 (yd)] 23)) (w2.heap.size) 23 (.int .i64 (an)) (.int .i64 (ad)) := a_17.alloc _
        clear a_17
        have b_18 : Two (w8.alloc (.cells #[.int .i64 (yn), .int .i64 (yd)] 23)) (w3.heap.size) 23 (.int .i64 (bn)) (.int .i64 (bd)) := b_17.alloc _
        clear b_17
        have c_18 : Two (w8.alloc (.cells #[.int .i64 (yn), .int .i64 (yd)] 23)) (w4.heap.size) 23 (.int .i64 (cn)) (.int .i64 (cd)) := c_17.alloc _
        clear c_17
        have p_18 : Two (w8.alloc (.cells #[.int .i64 (yn), .int .i64 (yd)] 23)) (w5.heap.size) 23 (.int .i64 (pn)) (.int .i64 (pd)) := p_17.alloc _
        clear p_17
        have x_18 : Two (w8.alloc (.cells #[.int .i64 (yn), .int .i64 (yd)] 23)) (w7.heap.size) 23 (.int .i64 (xn)) (.int .i64 (xd)) := x_17.alloc _
        clear x_17
        have y_18 : Two (w8.alloc (.cells #[.int .i64 (yn), .int .i64 (yd)] 23)) (w8.heap.size) 23 (.int .i64 (yn)) (.int .i64 (yd)) := Two.at (by simp) _ _ _
        have hBa18 : Below w.heap.size w (w8.alloc (.cells #[.int .i64 (yn), .int .i64 (yd)] 23)) := hBa17.alloc hBa17.size _
        clear hBa17
        go_wp2_with fail
        go_ret
        exact ⟨rfl, hBa18⟩
      · skip
        have z2 := nz z1
        go_wp2_with fail
        refine (XhOx.out _).mono ?_
        rintro r w7 ⟨rfl, hbc⟩
        have f_15 : Two w7 (w.heap.size) 23 (.int .i64 (n)) (.int .i64 (d)) := f_14.below hbc f_14.lt
        clear f_14
        have g_15 : Two w7 (w.heap.size + 1) 23 (.int .i64 (m)) (.int .i64 (e)) := g_14.below hbc g_14.lt
        clear g_14
        have a_15 : Two w7 (w2.heap.size) 23 (.int .i64 (an)) (.int .i64 (ad)) := a_14.below hbc a_14.lt
        clear a_14
        have b_15 : Two w7 (w3.heap.size) 23 (.int .i64 (bn)) (.int .i64 (bd)) := b_14.below hbc b_14.lt
        clear b_14
        have c_15 : Two w7 (w4.heap.size) 23 (.int .i64 (cn)) (.int .i64 (cd)) := c_14.below hbc c_14.lt
        clear c_14
        have p_15 : Two w7 (w5.heap.size) 23 (.int .i64 (pn)) (.int .i64 (pd)) := p_14.below hbc p_14.lt
        clear p_14
        have hBa15 : Below w.heap.size w w7 := hBa14.trans (hbc.mono hBa14.size)
        clear hBa14 hbc
        have f_16 : Two (w7.alloc (.cells #[.int .i64 (xn), .int .i64 (xd)] 23)) (w.heap.size) 23 (.int .i64 (n)) (.int .i64 (d)) := f_15.alloc _
        clear f_15
        have g_16 : Two (w7.alloc (.cells #[.int .i64 (xn), .int .i64 (xd)] 23)) (w.heap.size + 1) 23 (.int .i64 (m)) (.int .i64 (e)) := g_15.alloc _
        clear g_15
        have a_16 : Two (w7.alloc (.cells #[.int .i64 (xn), .int .i64 (xd)] 23)) (w2.heap.size) 23 (.int .i64 (an)) (.int .i64 (ad)) := a_15.alloc _
        clear a_15
        have b_16 : Two (w7.alloc (.cells #[.int .i64 (xn), .int .i64 (xd)] 23)) (w3.heap.size) 23 (.int .i64 (bn)) (.int .i64 (bd)) := b_15.alloc _
        clear b_15
        have c_16 : Two (w7.alloc (.cells #[.int .i64 (xn), .int .i64 (xd)] 23)) (w4.heap.size) 23 (.int .i64 (cn)) (.int .i64 (cd)) := c_15.alloc _
        clear c_15
        have p_16 : Two (w7.alloc (.cells #[.int .i64 (xn), .int .i64 (xd)] 23)) (w5.heap.size) 23 (.int .i64 (pn)) (.int .i64 (pd)) := p_15.alloc _
        clear p_15
        have x_16 : Two (w7.alloc (.cells #[.int .i64 (xn), .int .i64 (xd)] 23)) (w7.heap.size) 23 (.int .i64 (xn)) (.int .i64 (xd)) := Two.at (by simp) _ _ _
        have hBa16 : Below w.heap.size w (w7.alloc (.cells #[.int .i64 (xn), .int .i64 (xd)] 23)) := hBa15.alloc hBa15.size _
        clear hBa15
        go_wp2_with fail
        refine (XhOy.out _).mono ?_
        rintro r w8 ⟨rfl, hbc⟩
        have f_17 : Two w8 (w.heap.size) 23 (.int .i64 (n)) (.int .i64 (d)) := f_16.below hbc f_16.lt
        clear f_16
        have g_17 : Two w8 (w.heap.size + 1) 23 (.int .i64 (m)) (.int .i64 (e)) := g_16.below hbc g_16.lt
        clear g_16
        have a_17 : Two w8 (w2.heap.size) 23 (.int .i64 (an)) (.int .i64 (ad)) := a_16.below hbc a_16.lt
        clear a_16
        have b_17 : Two w8 (w3.heap.size) 23 (.int .i64 (bn)) (.int .i64 (bd)) := b_16.below hbc b_16.lt
        clear b_16
        have c_17 : Two w8 (w4.heap.size) 23 (.int .i64 (cn)) (.int .i64 (cd)) := c_16.below hbc c_16.lt
        clear c_16
        have p_17 : Two w8 (w5.heap.size) 23 (.int .i64 (pn)) (.int .i64 (pd)) := p_16.below hbc p_16.lt
        clear p_16
        have x_17 : Two w8 (w7.heap.size) 23 (.int .i64 (xn)) (.int .i64 (xd)) := x_16.below hbc x_16.lt
        clear x_16
        have hBa17 : Below w.heap.size w w8 := hBa16.trans (hbc.mono hBa16.size)
        clear hBa16 hbc
        have f_18 : Two (w8.alloc (.cells #[.int .i64 (yn), .int .i64 (yd)] 23)) (w.heap.size) 23 (.int .i64 (n)) (.int .i64 (d)) := f_17.alloc _
        clear f_17
        have g_18 : Two (w8.alloc (.cells #[.int .i64 (yn), .int .i64 (yd)] 23)) (w.heap.size + 1) 23 (.int .i64 (m)) (.int .i64 (e)) := g_17.alloc _
        clear g_17
        have a_18 : Two (w8.alloc (.cells #[.int .i64 (yn), .int .i64 (yd)] 23)) (w2.heap.size) 23 (.int .i64 (an)) (.int .i64 (ad)) := a_17.alloc _
        clear a_17
        have b_18 : Two (w8.alloc (.cells #[.int .i64 (yn), .int .i64 (yd)] 23)) (w3.heap.size) 23 (.int .i64 (bn)) (.int .i64 (bd)) := b_17.alloc _
        clear b_17
        have c_18 : Two (w8.alloc (.cells #[.int .i64 (yn), .int .i64 (yd)] 23)) (w4.heap.size) 23 (.int .i64 (cn)) (.int .i64 (cd)) := c_17.alloc _
        clear c_17
        have p_18 : Two (w8.alloc (.cells #[.int .i64 (yn), .int .i64 (yd)] 23)) (w5.heap.size) 23 (.int .i64 (pn)) (.int .i64 (pd)) := p_17.alloc _
        clear p_17
        have x_18 : Two (w8.alloc (.cells #[.int .i64 (yn), .int .i64 (yd)] 23)) (w7.heap.size) 23 (.int .i64 (xn)) (.int .i64 (xd)) := x_17.alloc _
        clear x_17
        have y_18 : Two (w8.alloc (.cells #[.int .i64 (yn), .int .i64 (yd)] 23)) (w8.heap.size) 23 (.int .i64 (yn)) (.int .i64 (yd)) := Two.at (by simp) _ _ _
        have hBa18 : Below w.heap.size w (w8.alloc (.cells #[.int .i64 (yn), .int .i64 (yd)] 23)) := hBa17.alloc hBa17.size _
        clear hBa17
        go_wp2_with fail
        go_ret
        exact ⟨rfl, hBa18⟩

set_option maxRecDepth 100000 in
set_option maxHeartbeats 8000000 in
theorem resultsG (n d m e u v : Int) (hn1 : -9223372036854775808 ≤ n) (hn2 : n ≤ 9223372036854775807) (hd1 : -9223372036854775808 ≤ d) (hd2 : d ≤ 9223372036854775807) (hm1 : -9223372036854775808 ≤ m) (hm2 : m ≤ 9223372036854775807) (he1 : -9223372036854775808 ≤ e) (he2 : e ≤ 9223372036854775807) (hu1 : -9223372036854775808 ≤ u) (hu2 : u ≤ 9223372036854775807) (hv1 : -9223372036854775808 ≤ v) (hv2 : v ≤ 9223372036854775807) (s : ByteArray) (hle : s.size ≤ 100) (hf : valP n d) (hg : ¬ valP m e) (h1 : addE n d m e = 1) (h2 : mulE n d m e = 1) (w : World) (hl : Lay w) :
    Calls Tryd.prog 8 #[.agg #[.int .i64 n, .int .i64 d], .agg #[.int .i64 m, .int .i64 e], .int .i64 u, .int .i64 v, .string s] w fun r w' => r = .returned (.bool true) ∧ Below w.heap.size w w' := by
  have hlb : decide (100 < (s.size : Int)) = false := by simp; omega
  have hOf := fun w => of_any u v hu1 hu2 hv1 hv2 w
  have hAd := fun w => add_any n d m e w
  have hMu := fun w => mul_any n d m e w
  have hPa := fun w hl => parse_any s (by omega) w hl
  have hOx := fun w => of_any u 1 hu1 hu2 (by omega) (by omega) w
  have hOy := fun w => of_any v 1 hv1 hv2 (by omega) (by omega) w
  have hBk := fun w => mul_any (ofN u v) (ofD u v) (ofN v 1) (ofD v 1) w
  have hA := of_way u v
  have hB := add_way n d m e
  have hC := mul_way n d m e
  have hP := par_way s.data.toList
  have hZ := of_zero u v
  have hR := back_way u v
  generalize mulN (ofN u v) (ofD u v) (ofN v 1) (ofD v 1) = kn at *
  generalize mulD (ofN u v) (ofD u v) (ofN v 1) (ofD v 1) = kd at *
  generalize mulE (ofN u v) (ofD u v) (ofN v 1) (ofD v 1) = ke at *
  generalize ofN u v = an at *
  generalize ofD u v = ad at *
  generalize ofE u v = ae at *
  generalize ofN u 1 = xn at *
  generalize ofD u 1 = xd at *
  generalize ofE u 1 = xe at *
  generalize ofN v 1 = yn at *
  generalize ofD v 1 = yd at *
  generalize ofE v 1 = ye at *
  generalize addN n d m e = bn at *
  generalize addD n d m e = bd at *
  generalize addE n d m e = be at *
  generalize mulN n d m e = cn at *
  generalize mulD n d m e = cd at *
  generalize mulE n d m e = ce at *
  generalize (parV s.data.toList).1 = pn at *
  generalize (parV s.data.toList).2.1 = pd at *
  generalize (parV s.data.toList).2.2 = pe at *
  have XhOf := Lib.hid hOf
  clear hOf
  have XhAd := Lib.hid hAd
  clear hAd
  have XhMu := Lib.hid hMu
  clear hMu
  have XhPa := Lib.hid hPa
  clear hPa
  have XhOx := Lib.hid hOx
  clear hOx
  have XhOy := Lib.hid hOy
  clear hOy
  have XhBk := Lib.hid hBk
  clear hBk
  have XhA := Lib.hid hA
  clear hA
  have XhB := Lib.hid hB
  clear hB
  have XhC := Lib.hid hC
  clear hC
  have XhP := Lib.hid hP
  clear hP
  have XhZ := Lib.hid hZ
  clear hZ
  have XhR := Lib.hid hR
  clear hR
  subst h1
  subst h2
  go_enter Tryd.func8, Tryd.ntmps8
  have hB0 : Below w.heap.size w w := Below.refl w.heap.size w
  have f_1 : Two (w.alloc (.cells #[.int .i64 (n), .int .i64 (d)] 23)) (w.heap.size) 23 (.int .i64 (n)) (.int .i64 (d)) := Two.at (by simp) _ _ _
  have hBa1 : Below w.heap.size w (w.alloc (.cells #[.int .i64 (n), .int .i64 (d)] 23)) := hB0.alloc hB0.size _
  clear hB0
  have f_2 : Two ((w.alloc (.cells #[.int .i64 (n), .int .i64 (d)] 23)).alloc (.cells #[.int .i64 (m), .int .i64 (e)] 23)) (w.heap.size) 23 (.int .i64 (n)) (.int .i64 (d)) := f_1.alloc _
  clear f_1
  have g_2 : Two ((w.alloc (.cells #[.int .i64 (n), .int .i64 (d)] 23)).alloc (.cells #[.int .i64 (m), .int .i64 (e)] 23)) (w.heap.size + 1) 23 (.int .i64 (m)) (.int .i64 (e)) := Two.at (by simp) _ _ _
  have hBa2 : Below w.heap.size w ((w.alloc (.cells #[.int .i64 (n), .int .i64 (d)] 23)).alloc (.cells #[.int .i64 (m), .int .i64 (e)] 23)) := hBa1.alloc hBa1.size _
  clear hBa1
  go_wp2_with fail
  refine (head_any _ (hl.below hBa2)).mono ?_
  rintro r w1 ⟨rfl, hbc⟩
  have f_3 : Two w1 (w.heap.size) 23 (.int .i64 (n)) (.int .i64 (d)) := f_2.below hbc f_2.lt
  clear f_2
  have g_3 : Two w1 (w.heap.size + 1) 23 (.int .i64 (m)) (.int .i64 (e)) := g_2.below hbc g_2.lt
  clear g_2
  have hBa3 : Below w.heap.size w w1 := hBa2.trans (hbc.mono hBa2.size)
  clear hBa2 hbc
  go_wp2_with fail
  refine (XhOf.out _).mono ?_
  rintro r w2 ⟨rfl, hbc⟩
  have f_4 : Two w2 (w.heap.size) 23 (.int .i64 (n)) (.int .i64 (d)) := f_3.below hbc f_3.lt
  clear f_3
  have g_4 : Two w2 (w.heap.size + 1) 23 (.int .i64 (m)) (.int .i64 (e)) := g_3.below hbc g_3.lt
  clear g_3
  have hBa4 : Below w.heap.size w w2 := hBa3.trans (hbc.mono hBa3.size)
  clear hBa3 hbc
  have f_5 : Two (w2.alloc (.cells #[.int .i64 (an), .int .i64 (ad)] 23)) (w.heap.size) 23 (.int .i64 (n)) (.int .i64 (d)) := f_4.alloc _
  clear f_4
  have g_5 : Two (w2.alloc (.cells #[.int .i64 (an), .int .i64 (ad)] 23)) (w.heap.size + 1) 23 (.int .i64 (m)) (.int .i64 (e)) := g_4.alloc _
  clear g_4
  have a_5 : Two (w2.alloc (.cells #[.int .i64 (an), .int .i64 (ad)] 23)) (w2.heap.size) 23 (.int .i64 (an)) (.int .i64 (ad)) := Two.at (by simp) _ _ _
  have hBa5 : Below w.heap.size w (w2.alloc (.cells #[.int .i64 (an), .int .i64 (ad)] 23)) := hBa4.alloc hBa4.size _
  clear hBa4
  obtain ⟨ff0, ff1, ff2, ff3⟩ := f_5.facts
  obtain ⟨gf0, gf1, gf2, gf3⟩ := g_5.facts
  go_wp2_with fail
  refine (XhAd.out _).mono ?_
  rintro r w3 ⟨rfl, hbc⟩
  clear ff0
  clear ff1
  clear ff2
  clear ff3
  clear gf0
  clear gf1
  clear gf2
  clear gf3
  have f_6 : Two w3 (w.heap.size) 23 (.int .i64 (n)) (.int .i64 (d)) := f_5.below hbc f_5.lt
  clear f_5
  have g_6 : Two w3 (w.heap.size + 1) 23 (.int .i64 (m)) (.int .i64 (e)) := g_5.below hbc g_5.lt
  clear g_5
  have a_6 : Two w3 (w2.heap.size) 23 (.int .i64 (an)) (.int .i64 (ad)) := a_5.below hbc a_5.lt
  clear a_5
  have hBa6 : Below w.heap.size w w3 := hBa5.trans (hbc.mono hBa5.size)
  clear hBa5 hbc
  have f_7 : Two (w3.alloc (.cells #[.int .i64 (bn), .int .i64 (bd)] 23)) (w.heap.size) 23 (.int .i64 (n)) (.int .i64 (d)) := f_6.alloc _
  clear f_6
  have g_7 : Two (w3.alloc (.cells #[.int .i64 (bn), .int .i64 (bd)] 23)) (w.heap.size + 1) 23 (.int .i64 (m)) (.int .i64 (e)) := g_6.alloc _
  clear g_6
  have a_7 : Two (w3.alloc (.cells #[.int .i64 (bn), .int .i64 (bd)] 23)) (w2.heap.size) 23 (.int .i64 (an)) (.int .i64 (ad)) := a_6.alloc _
  clear a_6
  have b_7 : Two (w3.alloc (.cells #[.int .i64 (bn), .int .i64 (bd)] 23)) (w3.heap.size) 23 (.int .i64 (bn)) (.int .i64 (bd)) := Two.at (by simp) _ _ _
  have hBa7 : Below w.heap.size w (w3.alloc (.cells #[.int .i64 (bn), .int .i64 (bd)] 23)) := hBa6.alloc hBa6.size _
  clear hBa6
  obtain ⟨ff0, ff1, ff2, ff3⟩ := f_7.facts
  obtain ⟨gf0, gf1, gf2, gf3⟩ := g_7.facts
  go_wp2_with fail
  refine (XhMu.out _).mono ?_
  rintro r w4 ⟨rfl, hbc⟩
  clear ff0
  clear ff1
  clear ff2
  clear ff3
  clear gf0
  clear gf1
  clear gf2
  clear gf3
  have f_8 : Two w4 (w.heap.size) 23 (.int .i64 (n)) (.int .i64 (d)) := f_7.below hbc f_7.lt
  clear f_7
  have g_8 : Two w4 (w.heap.size + 1) 23 (.int .i64 (m)) (.int .i64 (e)) := g_7.below hbc g_7.lt
  clear g_7
  have a_8 : Two w4 (w2.heap.size) 23 (.int .i64 (an)) (.int .i64 (ad)) := a_7.below hbc a_7.lt
  clear a_7
  have b_8 : Two w4 (w3.heap.size) 23 (.int .i64 (bn)) (.int .i64 (bd)) := b_7.below hbc b_7.lt
  clear b_7
  have hBa8 : Below w.heap.size w w4 := hBa7.trans (hbc.mono hBa7.size)
  clear hBa7 hbc
  have f_9 : Two (w4.alloc (.cells #[.int .i64 (cn), .int .i64 (cd)] 23)) (w.heap.size) 23 (.int .i64 (n)) (.int .i64 (d)) := f_8.alloc _
  clear f_8
  have g_9 : Two (w4.alloc (.cells #[.int .i64 (cn), .int .i64 (cd)] 23)) (w.heap.size + 1) 23 (.int .i64 (m)) (.int .i64 (e)) := g_8.alloc _
  clear g_8
  have a_9 : Two (w4.alloc (.cells #[.int .i64 (cn), .int .i64 (cd)] 23)) (w2.heap.size) 23 (.int .i64 (an)) (.int .i64 (ad)) := a_8.alloc _
  clear a_8
  have b_9 : Two (w4.alloc (.cells #[.int .i64 (cn), .int .i64 (cd)] 23)) (w3.heap.size) 23 (.int .i64 (bn)) (.int .i64 (bd)) := b_8.alloc _
  clear b_8
  have c_9 : Two (w4.alloc (.cells #[.int .i64 (cn), .int .i64 (cd)] 23)) (w4.heap.size) 23 (.int .i64 (cn)) (.int .i64 (cd)) := Two.at (by simp) _ _ _
  have hBa9 : Below w.heap.size w (w4.alloc (.cells #[.int .i64 (cn), .int .i64 (cd)] 23)) := hBa8.alloc hBa8.size _
  clear hBa8
  go_wp2_with fail
  refine (XhPa.out _ (hl.below hBa9)).mono ?_
  rintro r w5 ⟨rfl, hbc⟩
  have f_10 : Two w5 (w.heap.size) 23 (.int .i64 (n)) (.int .i64 (d)) := f_9.below hbc f_9.lt
  clear f_9
  have g_10 : Two w5 (w.heap.size + 1) 23 (.int .i64 (m)) (.int .i64 (e)) := g_9.below hbc g_9.lt
  clear g_9
  have a_10 : Two w5 (w2.heap.size) 23 (.int .i64 (an)) (.int .i64 (ad)) := a_9.below hbc a_9.lt
  clear a_9
  have b_10 : Two w5 (w3.heap.size) 23 (.int .i64 (bn)) (.int .i64 (bd)) := b_9.below hbc b_9.lt
  clear b_9
  have c_10 : Two w5 (w4.heap.size) 23 (.int .i64 (cn)) (.int .i64 (cd)) := c_9.below hbc c_9.lt
  clear c_9
  have hBa10 : Below w.heap.size w w5 := hBa9.trans (hbc.mono hBa9.size)
  clear hBa9 hbc
  have f_11 : Two (w5.alloc (.cells #[.int .i64 (pn), .int .i64 (pd)] 23)) (w.heap.size) 23 (.int .i64 (n)) (.int .i64 (d)) := f_10.alloc _
  clear f_10
  have g_11 : Two (w5.alloc (.cells #[.int .i64 (pn), .int .i64 (pd)] 23)) (w.heap.size + 1) 23 (.int .i64 (m)) (.int .i64 (e)) := g_10.alloc _
  clear g_10
  have a_11 : Two (w5.alloc (.cells #[.int .i64 (pn), .int .i64 (pd)] 23)) (w2.heap.size) 23 (.int .i64 (an)) (.int .i64 (ad)) := a_10.alloc _
  clear a_10
  have b_11 : Two (w5.alloc (.cells #[.int .i64 (pn), .int .i64 (pd)] 23)) (w3.heap.size) 23 (.int .i64 (bn)) (.int .i64 (bd)) := b_10.alloc _
  clear b_10
  have c_11 : Two (w5.alloc (.cells #[.int .i64 (pn), .int .i64 (pd)] 23)) (w4.heap.size) 23 (.int .i64 (cn)) (.int .i64 (cd)) := c_10.alloc _
  clear c_10
  have p_11 : Two (w5.alloc (.cells #[.int .i64 (pn), .int .i64 (pd)] 23)) (w5.heap.size) 23 (.int .i64 (pn)) (.int .i64 (pd)) := Two.at (by simp) _ _ _
  have hBa11 : Below w.heap.size w (w5.alloc (.cells #[.int .i64 (pn), .int .i64 (pd)] 23)) := hBa10.alloc hBa10.size _
  clear hBa10
  go_upto_region 8 with fail
  generalize (w5.alloc (.cells #[.int .i64 (pn), .int .i64 (pd)] 23)) = Wx at *
  go_cut [88] (fun v wx => v = .bool false ∧ Below Wx.heap.size Wx wx)
  case first => as_aux_lemma =>
    have hB0 : Below Wx.heap.size Wx Wx := Below.refl Wx.heap.size Wx
    have hA := XhA.out
    have hP := XhP.out
    clear XhA XhB XhC XhP XhZ XhR
    rcases hA with ⟨rfl, va⟩ | za
    · skip
      rcases hP with ⟨rfl, vp⟩ | zp
      · skip
        obtain ⟨af0, af1, af2, af3⟩ := a_11.facts
        go_wp2_with fail
        refine (valid_yes _ _ va _).mono ?_
        rintro r Wx1 ⟨rfl, hbc⟩
        clear af0
        clear af1
        clear af2
        clear af3
        have f_1 : Two Wx1 (w.heap.size) 23 (.int .i64 (n)) (.int .i64 (d)) := f_11.below hbc f_11.lt
        clear f_11
        have g_1 : Two Wx1 (w.heap.size + 1) 23 (.int .i64 (m)) (.int .i64 (e)) := g_11.below hbc g_11.lt
        clear g_11
        have a_1 : Two Wx1 (w2.heap.size) 23 (.int .i64 (an)) (.int .i64 (ad)) := a_11.below hbc a_11.lt
        clear a_11
        have b_1 : Two Wx1 (w3.heap.size) 23 (.int .i64 (bn)) (.int .i64 (bd)) := b_11.below hbc b_11.lt
        clear b_11
        have c_1 : Two Wx1 (w4.heap.size) 23 (.int .i64 (cn)) (.int .i64 (cd)) := c_11.below hbc c_11.lt
        clear c_11
        have p_1 : Two Wx1 (w5.heap.size) 23 (.int .i64 (pn)) (.int .i64 (pd)) := p_11.below hbc p_11.lt
        clear p_11
        have hBa1 : Below Wx.heap.size Wx Wx1 := hB0.trans (hbc.mono hB0.size)
        clear hB0 hbc
        obtain ⟨pf0, pf1, pf2, pf3⟩ := p_1.facts
        go_wp2_with fail
        refine (valid_yes _ _ vp _).mono ?_
        rintro r Wx2 ⟨rfl, hbc⟩
        clear pf0
        clear pf1
        clear pf2
        clear pf3
        have f_2 : Two Wx2 (w.heap.size) 23 (.int .i64 (n)) (.int .i64 (d)) := f_1.below hbc f_1.lt
        clear f_1
        have g_2 : Two Wx2 (w.heap.size + 1) 23 (.int .i64 (m)) (.int .i64 (e)) := g_1.below hbc g_1.lt
        clear g_1
        have a_2 : Two Wx2 (w2.heap.size) 23 (.int .i64 (an)) (.int .i64 (ad)) := a_1.below hbc a_1.lt
        clear a_1
        have b_2 : Two Wx2 (w3.heap.size) 23 (.int .i64 (bn)) (.int .i64 (bd)) := b_1.below hbc b_1.lt
        clear b_1
        have c_2 : Two Wx2 (w4.heap.size) 23 (.int .i64 (cn)) (.int .i64 (cd)) := c_1.below hbc c_1.lt
        clear c_1
        have p_2 : Two Wx2 (w5.heap.size) 23 (.int .i64 (pn)) (.int .i64 (pd)) := p_1.below hbc p_1.lt
        clear p_1
        have hBa2 : Below Wx.heap.size Wx Wx2 := hBa1.trans (hbc.mono hBa1.size)
        clear hBa1 hbc
        go_wp2_with fail
        go_meet
        exact ⟨rfl, hBa2⟩
      · skip
        obtain ⟨af0, af1, af2, af3⟩ := a_11.facts
        go_wp2_with fail
        refine (valid_yes _ _ va _).mono ?_
        rintro r Wx1 ⟨rfl, hbc⟩
        clear af0
        clear af1
        clear af2
        clear af3
        have f_1 : Two Wx1 (w.heap.size) 23 (.int .i64 (n)) (.int .i64 (d)) := f_11.below hbc f_11.lt
        clear f_11
        have g_1 : Two Wx1 (w.heap.size + 1) 23 (.int .i64 (m)) (.int .i64 (e)) := g_11.below hbc g_11.lt
        clear g_11
        have a_1 : Two Wx1 (w2.heap.size) 23 (.int .i64 (an)) (.int .i64 (ad)) := a_11.below hbc a_11.lt
        clear a_11
        have b_1 : Two Wx1 (w3.heap.size) 23 (.int .i64 (bn)) (.int .i64 (bd)) := b_11.below hbc b_11.lt
        clear b_11
        have c_1 : Two Wx1 (w4.heap.size) 23 (.int .i64 (cn)) (.int .i64 (cd)) := c_11.below hbc c_11.lt
        clear c_11
        have p_1 : Two Wx1 (w5.heap.size) 23 (.int .i64 (pn)) (.int .i64 (pd)) := p_11.below hbc p_11.lt
        clear p_11
        have hBa1 : Below Wx.heap.size Wx Wx1 := hB0.trans (hbc.mono hB0.size)
        clear hB0 hbc
        go_wp2_with fail
        go_meet
        exact ⟨rfl, hBa1⟩
    · skip
      rcases hP with ⟨rfl, vp⟩ | zp
      · skip
        obtain ⟨pf0, pf1, pf2, pf3⟩ := p_11.facts
        go_wp2_with fail
        refine (valid_yes _ _ vp _).mono ?_
        rintro r Wx1 ⟨rfl, hbc⟩
        clear pf0
        clear pf1
        clear pf2
        clear pf3
        have f_1 : Two Wx1 (w.heap.size) 23 (.int .i64 (n)) (.int .i64 (d)) := f_11.below hbc f_11.lt
        clear f_11
        have g_1 : Two Wx1 (w.heap.size + 1) 23 (.int .i64 (m)) (.int .i64 (e)) := g_11.below hbc g_11.lt
        clear g_11
        have a_1 : Two Wx1 (w2.heap.size) 23 (.int .i64 (an)) (.int .i64 (ad)) := a_11.below hbc a_11.lt
        clear a_11
        have b_1 : Two Wx1 (w3.heap.size) 23 (.int .i64 (bn)) (.int .i64 (bd)) := b_11.below hbc b_11.lt
        clear b_11
        have c_1 : Two Wx1 (w4.heap.size) 23 (.int .i64 (cn)) (.int .i64 (cd)) := c_11.below hbc c_11.lt
        clear c_11
        have p_1 : Two Wx1 (w5.heap.size) 23 (.int .i64 (pn)) (.int .i64 (pd)) := p_11.below hbc p_11.lt
        clear p_11
        have hBa1 : Below Wx.heap.size Wx Wx1 := hB0.trans (hbc.mono hB0.size)
        clear hB0 hbc
        go_wp2_with fail
        go_meet
        exact ⟨rfl, hBa1⟩
      · skip
        go_wp2_with fail
        go_meet
        exact ⟨rfl, hB0⟩
  case rest =>
    obtain ⟨rfl, hbc⟩ := hcut
    obtain ⟨wcx, rfl⟩ : ∃ x : World, x = wc := ⟨_, rfl⟩
    have f_12 : Two wcx (w.heap.size) 23 (.int .i64 (n)) (.int .i64 (d)) := f_11.below hbc f_11.lt
    clear f_11
    have g_12 : Two wcx (w.heap.size + 1) 23 (.int .i64 (m)) (.int .i64 (e)) := g_11.below hbc g_11.lt
    clear g_11
    have a_12 : Two wcx (w2.heap.size) 23 (.int .i64 (an)) (.int .i64 (ad)) := a_11.below hbc a_11.lt
    clear a_11
    have b_12 : Two wcx (w3.heap.size) 23 (.int .i64 (bn)) (.int .i64 (bd)) := b_11.below hbc b_11.lt
    clear b_11
    have c_12 : Two wcx (w4.heap.size) 23 (.int .i64 (cn)) (.int .i64 (cd)) := c_11.below hbc c_11.lt
    clear c_11
    have p_12 : Two wcx (w5.heap.size) 23 (.int .i64 (pn)) (.int .i64 (pd)) := p_11.below hbc p_11.lt
    clear p_11
    have hBa12 : Below w.heap.size w wcx := hBa11.trans (hbc.mono hBa11.size)
    clear hBa11 hbc
    obtain ⟨ff0, ff1, ff2, ff3⟩ := f_12.facts
    go_wp2_with fail
    refine (valid_yes _ _ hf _).mono ?_
    rintro r w6 ⟨rfl, hbc⟩
    clear ff0
    clear ff1
    clear ff2
    clear ff3
    have f_13 : Two w6 (w.heap.size) 23 (.int .i64 (n)) (.int .i64 (d)) := f_12.below hbc f_12.lt
    clear f_12
    have g_13 : Two w6 (w.heap.size + 1) 23 (.int .i64 (m)) (.int .i64 (e)) := g_12.below hbc g_12.lt
    clear g_12
    have a_13 : Two w6 (w2.heap.size) 23 (.int .i64 (an)) (.int .i64 (ad)) := a_12.below hbc a_12.lt
    clear a_12
    have b_13 : Two w6 (w3.heap.size) 23 (.int .i64 (bn)) (.int .i64 (bd)) := b_12.below hbc b_12.lt
    clear b_12
    have c_13 : Two w6 (w4.heap.size) 23 (.int .i64 (cn)) (.int .i64 (cd)) := c_12.below hbc c_12.lt
    clear c_12
    have p_13 : Two w6 (w5.heap.size) 23 (.int .i64 (pn)) (.int .i64 (pd)) := p_12.below hbc p_12.lt
    clear p_12
    have hBa13 : Below w.heap.size w w6 := hBa12.trans (hbc.mono hBa12.size)
    clear hBa12 hbc
    obtain ⟨gf0, gf1, gf2, gf3⟩ := g_13.facts
    go_wp2_with fail
    refine (valid_no _ _ hg _).mono ?_
    rintro r w7 ⟨rfl, hbc⟩
    clear gf0
    clear gf1
    clear gf2
    clear gf3
    have f_14 : Two w7 (w.heap.size) 23 (.int .i64 (n)) (.int .i64 (d)) := f_13.below hbc f_13.lt
    clear f_13
    have g_14 : Two w7 (w.heap.size + 1) 23 (.int .i64 (m)) (.int .i64 (e)) := g_13.below hbc g_13.lt
    clear g_13
    have a_14 : Two w7 (w2.heap.size) 23 (.int .i64 (an)) (.int .i64 (ad)) := a_13.below hbc a_13.lt
    clear a_13
    have b_14 : Two w7 (w3.heap.size) 23 (.int .i64 (bn)) (.int .i64 (bd)) := b_13.below hbc b_13.lt
    clear b_13
    have c_14 : Two w7 (w4.heap.size) 23 (.int .i64 (cn)) (.int .i64 (cd)) := c_13.below hbc c_13.lt
    clear c_13
    have p_14 : Two w7 (w5.heap.size) 23 (.int .i64 (pn)) (.int .i64 (pd)) := p_13.below hbc p_13.lt
    clear p_13
    have hBa14 : Below w.heap.size w w7 := hBa13.trans (hbc.mono hBa13.size)
    clear hBa13 hbc
    go_upto_region 11 with fail
    generalize w7 = Wy at *
    go_cut [130] (fun v wx => v = .bool false ∧ Below Wy.heap.size Wy wx)
    case first => as_aux_lemma =>
      have hB0 : Below Wy.heap.size Wy Wy := Below.refl Wy.heap.size Wy
      have hZ := XhZ.out
      clear XhA XhB XhC XhP XhZ XhR
      rcases hZ with ⟨rfl, rfl⟩ | ⟨z1, z2⟩
      · skip
        go_wp2_with fail
        go_meet
        exact ⟨rfl, hB0⟩
      · skip
        go_wp2_with fail
        go_meet
        exact ⟨rfl, hB0⟩
    case rest =>
      obtain ⟨rfl, hbc⟩ := hcut
      obtain ⟨wcy, rfl⟩ : ∃ x : World, x = wc := ⟨_, rfl⟩
      have f_15 : Two wcy (w.heap.size) 23 (.int .i64 (n)) (.int .i64 (d)) := f_14.below hbc f_14.lt
      clear f_14
      have g_15 : Two wcy (w.heap.size + 1) 23 (.int .i64 (m)) (.int .i64 (e)) := g_14.below hbc g_14.lt
      clear g_14
      have a_15 : Two wcy (w2.heap.size) 23 (.int .i64 (an)) (.int .i64 (ad)) := a_14.below hbc a_14.lt
      clear a_14
      have b_15 : Two wcy (w3.heap.size) 23 (.int .i64 (bn)) (.int .i64 (bd)) := b_14.below hbc b_14.lt
      clear b_14
      have c_15 : Two wcy (w4.heap.size) 23 (.int .i64 (cn)) (.int .i64 (cd)) := c_14.below hbc c_14.lt
      clear c_14
      have p_15 : Two wcy (w5.heap.size) 23 (.int .i64 (pn)) (.int .i64 (pd)) := p_14.below hbc p_14.lt
      clear p_14
      have hBa15 : Below w.heap.size w wcy := hBa14.trans (hbc.mono hBa14.size)
      clear hBa14 hbc
      have hR := XhR.out
      clear XhA XhB XhC XhP XhZ XhR
      rcases hR with ⟨rfl, rfl, rfl, rfl, rfl, rfl⟩ | z1 | ⟨rfl, z1⟩ | ⟨rfl, rfl, z1⟩
      · skip
        go_wp2_with fail
        refine (XhOx.out _).mono ?_
        rintro r w8 ⟨rfl, hbc⟩
        have f_16 : Two w8 (w.heap.size) 23 (.int .i64 (n)) (.int .i64 (d)) := f_15.below hbc f_15.lt
        clear f_15
        have g_16 : Two w8 (w.heap.size + 1) 23 (.int .i64 (m)) (.int .i64 (e)) := g_15.below hbc g_15.lt
        clear g_15
        have a_16 : Two w8 (w2.heap.size) 23 (.int .i64 (an)) (.int .i64 (ad)) := a_15.below hbc a_15.lt
        clear a_15
        have b_16 : Two w8 (w3.heap.size) 23 (.int .i64 (bn)) (.int .i64 (bd)) := b_15.below hbc b_15.lt
        clear b_15
        have c_16 : Two w8 (w4.heap.size) 23 (.int .i64 (cn)) (.int .i64 (cd)) := c_15.below hbc c_15.lt
        clear c_15
        have p_16 : Two w8 (w5.heap.size) 23 (.int .i64 (pn)) (.int .i64 (pd)) := p_15.below hbc p_15.lt
        clear p_15
        have hBa16 : Below w.heap.size w w8 := hBa15.trans (hbc.mono hBa15.size)
        clear hBa15 hbc
        have f_17 : Two (w8.alloc (.cells #[.int .i64 (kn), .int .i64 (kd)] 23)) (w.heap.size) 23 (.int .i64 (n)) (.int .i64 (d)) := f_16.alloc _
        clear f_16
        have g_17 : Two (w8.alloc (.cells #[.int .i64 (kn), .int .i64 (kd)] 23)) (w.heap.size + 1) 23 (.int .i64 (m)) (.int .i64 (e)) := g_16.alloc _
        clear g_16
        have a_17 : Two (w8.alloc (.cells #[.int .i64 (kn), .int .i64 (kd)] 23)) (w2.heap.size) 23 (.int .i64 (an)) (.int .i64 (ad)) := a_16.alloc _
        clear a_16
        have b_17 : Two (w8.alloc (.cells #[.int .i64 (kn), .int .i64 (kd)] 23)) (w3.heap.size) 23 (.int .i64 (bn)) (.int .i64 (bd)) := b_16.alloc _
        clear b_16
        have c_17 : Two (w8.alloc (.cells #[.int .i64 (kn), .int .i64 (kd)] 23)) (w4.heap.size) 23 (.int .i64 (cn)) (.int .i64 (cd)) := c_16.alloc _
        clear c_16
        have p_17 : Two (w8.alloc (.cells #[.int .i64 (kn), .int .i64 (kd)] 23)) (w5.heap.size) 23 (.int .i64 (pn)) (.int .i64 (pd)) := p_16.alloc _
        clear p_16
        have x_17 : Two (w8.alloc (.cells #[.int .i64 (kn), .int .i64 (kd)] 23)) (w8.heap.size) 23 (.int .i64 (kn)) (.int .i64 (kd)) := Two.at (by simp) _ _ _
        have hBa17 : Below w.heap.size w (w8.alloc (.cells #[.int .i64 (kn), .int .i64 (kd)] 23)) := hBa16.alloc hBa16.size _
        clear hBa16
        go_wp2_with fail
        refine (XhOy.out _).mono ?_
        rintro r w9 ⟨rfl, hbc⟩
        have f_18 : Two w9 (w.heap.size) 23 (.int .i64 (n)) (.int .i64 (d)) := f_17.below hbc f_17.lt
        clear f_17
        have g_18 : Two w9 (w.heap.size + 1) 23 (.int .i64 (m)) (.int .i64 (e)) := g_17.below hbc g_17.lt
        clear g_17
        have a_18 : Two w9 (w2.heap.size) 23 (.int .i64 (an)) (.int .i64 (ad)) := a_17.below hbc a_17.lt
        clear a_17
        have b_18 : Two w9 (w3.heap.size) 23 (.int .i64 (bn)) (.int .i64 (bd)) := b_17.below hbc b_17.lt
        clear b_17
        have c_18 : Two w9 (w4.heap.size) 23 (.int .i64 (cn)) (.int .i64 (cd)) := c_17.below hbc c_17.lt
        clear c_17
        have p_18 : Two w9 (w5.heap.size) 23 (.int .i64 (pn)) (.int .i64 (pd)) := p_17.below hbc p_17.lt
        clear p_17
        have x_18 : Two w9 (w8.heap.size) 23 (.int .i64 (kn)) (.int .i64 (kd)) := x_17.below hbc x_17.lt
        clear x_17
        have hBa18 : Below w.heap.size w w9 := hBa17.trans (hbc.mono hBa17.size)
        clear hBa17 hbc
        have f_19 : Two (w9.alloc (.cells #[.int .i64 (yn), .int .i64 (yd)] 23)) (w.heap.size) 23 (.int .i64 (n)) (.int .i64 (d)) := f_18.alloc _
        clear f_18
        have g_19 : Two (w9.alloc (.cells #[.int .i64 (yn), .int .i64 (yd)] 23)) (w.heap.size + 1) 23 (.int .i64 (m)) (.int .i64 (e)) := g_18.alloc _
        clear g_18
        have a_19 : Two (w9.alloc (.cells #[.int .i64 (yn), .int .i64 (yd)] 23)) (w2.heap.size) 23 (.int .i64 (an)) (.int .i64 (ad)) := a_18.alloc _
        clear a_18
        have b_19 : Two (w9.alloc (.cells #[.int .i64 (yn), .int .i64 (yd)] 23)) (w3.heap.size) 23 (.int .i64 (bn)) (.int .i64 (bd)) := b_18.alloc _
        clear b_18
        have c_19 : Two (w9.alloc (.cells #[.int .i64 (yn), .int .i64 (yd)] 23)) (w4.heap.size) 23 (.int .i64 (cn)) (.int .i64 (cd)) := c_18.alloc _
        clear c_18
        have p_19 : Two (w9.alloc (.cells #[.int .i64 (yn), .int .i64 (yd)] 23)) (w5.heap.size) 23 (.int .i64 (pn)) (.int .i64 (pd)) := p_18.alloc _
        clear p_18
        have x_19 : Two (w9.alloc (.cells #[.int .i64 (yn), .int .i64 (yd)] 23)) (w8.heap.size) 23 (.int .i64 (kn)) (.int .i64 (kd)) := x_18.alloc _
        clear x_18
        have y_19 : Two (w9.alloc (.cells #[.int .i64 (yn), .int .i64 (yd)] 23)) (w9.heap.size) 23 (.int .i64 (yn)) (.int .i64 (yd)) := Two.at (by simp) _ _ _
        have hBa19 : Below w.heap.size w (w9.alloc (.cells #[.int .i64 (yn), .int .i64 (yd)] 23)) := hBa18.alloc hBa18.size _
        clear hBa18
        obtain ⟨af0, af1, af2, af3⟩ := a_19.facts
        obtain ⟨yf0, yf1, yf2, yf3⟩ := y_19.facts
        go_wp2_with fail
        refine (XhBk.out _).mono ?_
        rintro r w10 ⟨rfl, hbc⟩
        clear af0
        clear af1
        clear af2
        clear af3
        clear yf0
        clear yf1
        clear yf2
        clear yf3
        have f_20 : Two w10 (w.heap.size) 23 (.int .i64 (n)) (.int .i64 (d)) := f_19.below hbc f_19.lt
        clear f_19
        have g_20 : Two w10 (w.heap.size + 1) 23 (.int .i64 (m)) (.int .i64 (e)) := g_19.below hbc g_19.lt
        clear g_19
        have a_20 : Two w10 (w2.heap.size) 23 (.int .i64 (an)) (.int .i64 (ad)) := a_19.below hbc a_19.lt
        clear a_19
        have b_20 : Two w10 (w3.heap.size) 23 (.int .i64 (bn)) (.int .i64 (bd)) := b_19.below hbc b_19.lt
        clear b_19
        have c_20 : Two w10 (w4.heap.size) 23 (.int .i64 (cn)) (.int .i64 (cd)) := c_19.below hbc c_19.lt
        clear c_19
        have p_20 : Two w10 (w5.heap.size) 23 (.int .i64 (pn)) (.int .i64 (pd)) := p_19.below hbc p_19.lt
        clear p_19
        have x_20 : Two w10 (w8.heap.size) 23 (.int .i64 (kn)) (.int .i64 (kd)) := x_19.below hbc x_19.lt
        clear x_19
        have y_20 : Two w10 (w9.heap.size) 23 (.int .i64 (yn)) (.int .i64 (yd)) := y_19.below hbc y_19.lt
        clear y_19
        have hBa20 : Below w.heap.size w w10 := hBa19.trans (hbc.mono hBa19.size)
        clear hBa19 hbc
        have f_21 : Two (w10.alloc (.cells #[.int .i64 (kn), .int .i64 (kd)] 23)) (w.heap.size) 23 (.int .i64 (n)) (.int .i64 (d)) := f_20.alloc _
        clear f_20
        have g_21 : Two (w10.alloc (.cells #[.int .i64 (kn), .int .i64 (kd)] 23)) (w.heap.size + 1) 23 (.int .i64 (m)) (.int .i64 (e)) := g_20.alloc _
        clear g_20
        have a_21 : Two (w10.alloc (.cells #[.int .i64 (kn), .int .i64 (kd)] 23)) (w2.heap.size) 23 (.int .i64 (an)) (.int .i64 (ad)) := a_20.alloc _
        clear a_20
        have b_21 : Two (w10.alloc (.cells #[.int .i64 (kn), .int .i64 (kd)] 23)) (w3.heap.size) 23 (.int .i64 (bn)) (.int .i64 (bd)) := b_20.alloc _
        clear b_20
        have c_21 : Two (w10.alloc (.cells #[.int .i64 (kn), .int .i64 (kd)] 23)) (w4.heap.size) 23 (.int .i64 (cn)) (.int .i64 (cd)) := c_20.alloc _
        clear c_20
        have p_21 : Two (w10.alloc (.cells #[.int .i64 (kn), .int .i64 (kd)] 23)) (w5.heap.size) 23 (.int .i64 (pn)) (.int .i64 (pd)) := p_20.alloc _
        clear p_20
        have x_21 : Two (w10.alloc (.cells #[.int .i64 (kn), .int .i64 (kd)] 23)) (w8.heap.size) 23 (.int .i64 (kn)) (.int .i64 (kd)) := x_20.alloc _
        clear x_20
        have y_21 : Two (w10.alloc (.cells #[.int .i64 (kn), .int .i64 (kd)] 23)) (w9.heap.size) 23 (.int .i64 (yn)) (.int .i64 (yd)) := y_20.alloc _
        clear y_20
        have z_21 : Two (w10.alloc (.cells #[.int .i64 (kn), .int .i64 (kd)] 23)) (w10.heap.size) 23 (.int .i64 (kn)) (.int .i64 (kd)) := Two.at (by simp) _ _ _
        have hBa21 : Below w.heap.size w (w10.alloc (.cells #[.int .i64 (kn), .int .i64 (kd)] 23)) := hBa20.alloc hBa20.size _
        clear hBa20
        obtain ⟨xf0, xf1, xf2, xf3⟩ := x_21.facts
        obtain ⟨zf0, zf1, zf2, zf3⟩ := z_21.facts
        go_wp2_with fail
        go_ret
        exact ⟨rfl, hBa21⟩
      · skip
        have z2 := nz z1
        go_wp2_with fail
        refine (XhOx.out _).mono ?_
        rintro r w8 ⟨rfl, hbc⟩
        have f_16 : Two w8 (w.heap.size) 23 (.int .i64 (n)) (.int .i64 (d)) := f_15.below hbc f_15.lt
        clear f_15
        have g_16 : Two w8 (w.heap.size + 1) 23 (.int .i64 (m)) (.int .i64 (e)) := g_15.below hbc g_15.lt
        clear g_15
        have a_16 : Two w8 (w2.heap.size) 23 (.int .i64 (an)) (.int .i64 (ad)) := a_15.below hbc a_15.lt
        clear a_15
        have b_16 : Two w8 (w3.heap.size) 23 (.int .i64 (bn)) (.int .i64 (bd)) := b_15.below hbc b_15.lt
        clear b_15
        have c_16 : Two w8 (w4.heap.size) 23 (.int .i64 (cn)) (.int .i64 (cd)) := c_15.below hbc c_15.lt
        clear c_15
        have p_16 : Two w8 (w5.heap.size) 23 (.int .i64 (pn)) (.int .i64 (pd)) := p_15.below hbc p_15.lt
        clear p_15
        have hBa16 : Below w.heap.size w w8 := hBa15.trans (hbc.mono hBa15.size)
        clear hBa15 hbc
        have f_17 : Two (w8.alloc (.cells #[.int .i64 (xn), .int .i64 (xd)] 23)) (w.heap.size) 23 (.int .i64 (n)) (.int .i64 (d)) := f_16.alloc _
        clear f_16
        have g_17 : Two (w8.alloc (.cells #[.int .i64 (xn), .int .i64 (xd)] 23)) (w.heap.size + 1) 23 (.int .i64 (m)) (.int .i64 (e)) := g_16.alloc _
        clear g_16
        have a_17 : Two (w8.alloc (.cells #[.int .i64 (xn), .int .i64 (xd)] 23)) (w2.heap.size) 23 (.int .i64 (an)) (.int .i64 (ad)) := a_16.alloc _
        clear a_16
        have b_17 : Two (w8.alloc (.cells #[.int .i64 (xn), .int .i64 (xd)] 23)) (w3.heap.size) 23 (.int .i64 (bn)) (.int .i64 (bd)) := b_16.alloc _
        clear b_16
        have c_17 : Two (w8.alloc (.cells #[.int .i64 (xn), .int .i64 (xd)] 23)) (w4.heap.size) 23 (.int .i64 (cn)) (.int .i64 (cd)) := c_16.alloc _
        clear c_16
        have p_17 : Two (w8.alloc (.cells #[.int .i64 (xn), .int .i64 (xd)] 23)) (w5.heap.size) 23 (.int .i64 (pn)) (.int .i64 (pd)) := p_16.alloc _
        clear p_16
        have x_17 : Two (w8.alloc (.cells #[.int .i64 (xn), .int .i64 (xd)] 23)) (w8.heap.size) 23 (.int .i64 (xn)) (.int .i64 (xd)) := Two.at (by simp) _ _ _
        have hBa17 : Below w.heap.size w (w8.alloc (.cells #[.int .i64 (xn), .int .i64 (xd)] 23)) := hBa16.alloc hBa16.size _
        clear hBa16
        go_wp2_with fail
        refine (XhOy.out _).mono ?_
        rintro r w9 ⟨rfl, hbc⟩
        have f_18 : Two w9 (w.heap.size) 23 (.int .i64 (n)) (.int .i64 (d)) := f_17.below hbc f_17.lt
        clear f_17
        have g_18 : Two w9 (w.heap.size + 1) 23 (.int .i64 (m)) (.int .i64 (e)) := g_17.below hbc g_17.lt
        clear g_17
        have a_18 : Two w9 (w2.heap.size) 23 (.int .i64 (an)) (.int .i64 (ad)) := a_17.below hbc a_17.lt
        clear a_17
        have b_18 : Two w9 (w3.heap.size) 23 (.int .i64 (bn)) (.int .i64 (bd)) := b_17.below hbc b_17.lt
        clear b_17
        have c_18 : Two w9 (w4.heap.size) 23 (.int .i64 (cn)) (.int .i64 (cd)) := c_17.below hbc c_17.lt
        clear c_17
        have p_18 : Two w9 (w5.heap.size) 23 (.int .i64 (pn)) (.int .i64 (pd)) := p_17.below hbc p_17.lt
        clear p_17
        have x_18 : Two w9 (w8.heap.size) 23 (.int .i64 (xn)) (.int .i64 (xd)) := x_17.below hbc x_17.lt
        clear x_17
        have hBa18 : Below w.heap.size w w9 := hBa17.trans (hbc.mono hBa17.size)
        clear hBa17 hbc
        have f_19 : Two (w9.alloc (.cells #[.int .i64 (yn), .int .i64 (yd)] 23)) (w.heap.size) 23 (.int .i64 (n)) (.int .i64 (d)) := f_18.alloc _
        clear f_18
        have g_19 : Two (w9.alloc (.cells #[.int .i64 (yn), .int .i64 (yd)] 23)) (w.heap.size + 1) 23 (.int .i64 (m)) (.int .i64 (e)) := g_18.alloc _
        clear g_18
        have a_19 : Two (w9.alloc (.cells #[.int .i64 (yn), .int .i64 (yd)] 23)) (w2.heap.size) 23 (.int .i64 (an)) (.int .i64 (ad)) := a_18.alloc _
        clear a_18
        have b_19 : Two (w9.alloc (.cells #[.int .i64 (yn), .int .i64 (yd)] 23)) (w3.heap.size) 23 (.int .i64 (bn)) (.int .i64 (bd)) := b_18.alloc _
        clear b_18
        have c_19 : Two (w9.alloc (.cells #[.int .i64 (yn), .int .i64 (yd)] 23)) (w4.heap.size) 23 (.int .i64 (cn)) (.int .i64 (cd)) := c_18.alloc _
        clear c_18
        have p_19 : Two (w9.alloc (.cells #[.int .i64 (yn), .int .i64 (yd)] 23)) (w5.heap.size) 23 (.int .i64 (pn)) (.int .i64 (pd)) := p_18.alloc _
        clear p_18
        have x_19 : Two (w9.alloc (.cells #[.int .i64 (yn), .int .i64 (yd)] 23)) (w8.heap.size) 23 (.int .i64 (xn)) (.int .i64 (xd)) := x_18.alloc _
        clear x_18
        have y_19 : Two (w9.alloc (.cells #[.int .i64 (yn), .int .i64 (yd)] 23)) (w9.heap.size) 23 (.int .i64 (yn)) (.int .i64 (yd)) := Two.at (by simp) _ _ _
        have hBa19 : Below w.heap.size w (w9.alloc (.cells #[.int .i64 (yn), .int .i64 (yd)] 23)) := hBa18.alloc hBa18.size _
        clear hBa18
        go_wp2_with fail
        go_ret
        exact ⟨rfl, hBa19⟩
      · skip
        have z2 := nz z1
        go_wp2_with fail
        refine (XhOx.out _).mono ?_
        rintro r w8 ⟨rfl, hbc⟩
        have f_16 : Two w8 (w.heap.size) 23 (.int .i64 (n)) (.int .i64 (d)) := f_15.below hbc f_15.lt
        clear f_15
        have g_16 : Two w8 (w.heap.size + 1) 23 (.int .i64 (m)) (.int .i64 (e)) := g_15.below hbc g_15.lt
        clear g_15
        have a_16 : Two w8 (w2.heap.size) 23 (.int .i64 (an)) (.int .i64 (ad)) := a_15.below hbc a_15.lt
        clear a_15
        have b_16 : Two w8 (w3.heap.size) 23 (.int .i64 (bn)) (.int .i64 (bd)) := b_15.below hbc b_15.lt
        clear b_15
        have c_16 : Two w8 (w4.heap.size) 23 (.int .i64 (cn)) (.int .i64 (cd)) := c_15.below hbc c_15.lt
        clear c_15
        have p_16 : Two w8 (w5.heap.size) 23 (.int .i64 (pn)) (.int .i64 (pd)) := p_15.below hbc p_15.lt
        clear p_15
        have hBa16 : Below w.heap.size w w8 := hBa15.trans (hbc.mono hBa15.size)
        clear hBa15 hbc
        have f_17 : Two (w8.alloc (.cells #[.int .i64 (xn), .int .i64 (xd)] 23)) (w.heap.size) 23 (.int .i64 (n)) (.int .i64 (d)) := f_16.alloc _
        clear f_16
        have g_17 : Two (w8.alloc (.cells #[.int .i64 (xn), .int .i64 (xd)] 23)) (w.heap.size + 1) 23 (.int .i64 (m)) (.int .i64 (e)) := g_16.alloc _
        clear g_16
        have a_17 : Two (w8.alloc (.cells #[.int .i64 (xn), .int .i64 (xd)] 23)) (w2.heap.size) 23 (.int .i64 (an)) (.int .i64 (ad)) := a_16.alloc _
        clear a_16
        have b_17 : Two (w8.alloc (.cells #[.int .i64 (xn), .int .i64 (xd)] 23)) (w3.heap.size) 23 (.int .i64 (bn)) (.int .i64 (bd)) := b_16.alloc _
        clear b_16
        have c_17 : Two (w8.alloc (.cells #[.int .i64 (xn), .int .i64 (xd)] 23)) (w4.heap.size) 23 (.int .i64 (cn)) (.int .i64 (cd)) := c_16.alloc _
        clear c_16
        have p_17 : Two (w8.alloc (.cells #[.int .i64 (xn), .int .i64 (xd)] 23)) (w5.heap.size) 23 (.int .i64 (pn)) (.int .i64 (pd)) := p_16.alloc _
        clear p_16
        have x_17 : Two (w8.alloc (.cells #[.int .i64 (xn), .int .i64 (xd)] 23)) (w8.heap.size) 23 (.int .i64 (xn)) (.int .i64 (xd)) := Two.at (by simp) _ _ _
        have hBa17 : Below w.heap.size w (w8.alloc (.cells #[.int .i64 (xn), .int .i64 (xd)] 23)) := hBa16.alloc hBa16.size _
        clear hBa16
        go_wp2_with fail
        refine (XhOy.out _).mono ?_
        rintro r w9 ⟨rfl, hbc⟩
        have f_18 : Two w9 (w.heap.size) 23 (.int .i64 (n)) (.int .i64 (d)) := f_17.below hbc f_17.lt
        clear f_17
        have g_18 : Two w9 (w.heap.size + 1) 23 (.int .i64 (m)) (.int .i64 (e)) := g_17.below hbc g_17.lt
        clear g_17
        have a_18 : Two w9 (w2.heap.size) 23 (.int .i64 (an)) (.int .i64 (ad)) := a_17.below hbc a_17.lt
        clear a_17
        have b_18 : Two w9 (w3.heap.size) 23 (.int .i64 (bn)) (.int .i64 (bd)) := b_17.below hbc b_17.lt
        clear b_17
        have c_18 : Two w9 (w4.heap.size) 23 (.int .i64 (cn)) (.int .i64 (cd)) := c_17.below hbc c_17.lt
        clear c_17
        have p_18 : Two w9 (w5.heap.size) 23 (.int .i64 (pn)) (.int .i64 (pd)) := p_17.below hbc p_17.lt
        clear p_17
        have x_18 : Two w9 (w8.heap.size) 23 (.int .i64 (xn)) (.int .i64 (xd)) := x_17.below hbc x_17.lt
        clear x_17
        have hBa18 : Below w.heap.size w w9 := hBa17.trans (hbc.mono hBa17.size)
        clear hBa17 hbc
        have f_19 : Two (w9.alloc (.cells #[.int .i64 (yn), .int .i64 (yd)] 23)) (w.heap.size) 23 (.int .i64 (n)) (.int .i64 (d)) := f_18.alloc _
        clear f_18
        have g_19 : Two (w9.alloc (.cells #[.int .i64 (yn), .int .i64 (yd)] 23)) (w.heap.size + 1) 23 (.int .i64 (m)) (.int .i64 (e)) := g_18.alloc _
        clear g_18
        have a_19 : Two (w9.alloc (.cells #[.int .i64 (yn), .int .i64 (yd)] 23)) (w2.heap.size) 23 (.int .i64 (an)) (.int .i64 (ad)) := a_18.alloc _
        clear a_18
        have b_19 : Two (w9.alloc (.cells #[.int .i64 (yn), .int .i64 (yd)] 23)) (w3.heap.size) 23 (.int .i64 (bn)) (.int .i64 (bd)) := b_18.alloc _
        clear b_18
        have c_19 : Two (w9.alloc (.cells #[.int .i64 (yn), .int .i64 (yd)] 23)) (w4.heap.size) 23 (.int .i64 (cn)) (.int .i64 (cd)) := c_18.alloc _
        clear c_18
        have p_19 : Two (w9.alloc (.cells #[.int .i64 (yn), .int .i64 (yd)] 23)) (w5.heap.size) 23 (.int .i64 (pn)) (.int .i64 (pd)) := p_18.alloc _
        clear p_18
        have x_19 : Two (w9.alloc (.cells #[.int .i64 (yn), .int .i64 (yd)] 23)) (w8.heap.size) 23 (.int .i64 (xn)) (.int .i64 (xd)) := x_18.alloc _
        clear x_18
        have y_19 : Two (w9.alloc (.cells #[.int .i64 (yn), .int .i64 (yd)] 23)) (w9.heap.size) 23 (.int .i64 (yn)) (.int .i64 (yd)) := Two.at (by simp) _ _ _
        have hBa19 : Below w.heap.size w (w9.alloc (.cells #[.int .i64 (yn), .int .i64 (yd)] 23)) := hBa18.alloc hBa18.size _
        clear hBa18
        go_wp2_with fail
        go_ret
        exact ⟨rfl, hBa19⟩
      · skip
        have z2 := nz z1
        go_wp2_with fail
        refine (XhOx.out _).mono ?_
        rintro r w8 ⟨rfl, hbc⟩
        have f_16 : Two w8 (w.heap.size) 23 (.int .i64 (n)) (.int .i64 (d)) := f_15.below hbc f_15.lt
        clear f_15
        have g_16 : Two w8 (w.heap.size + 1) 23 (.int .i64 (m)) (.int .i64 (e)) := g_15.below hbc g_15.lt
        clear g_15
        have a_16 : Two w8 (w2.heap.size) 23 (.int .i64 (an)) (.int .i64 (ad)) := a_15.below hbc a_15.lt
        clear a_15
        have b_16 : Two w8 (w3.heap.size) 23 (.int .i64 (bn)) (.int .i64 (bd)) := b_15.below hbc b_15.lt
        clear b_15
        have c_16 : Two w8 (w4.heap.size) 23 (.int .i64 (cn)) (.int .i64 (cd)) := c_15.below hbc c_15.lt
        clear c_15
        have p_16 : Two w8 (w5.heap.size) 23 (.int .i64 (pn)) (.int .i64 (pd)) := p_15.below hbc p_15.lt
        clear p_15
        have hBa16 : Below w.heap.size w w8 := hBa15.trans (hbc.mono hBa15.size)
        clear hBa15 hbc
        have f_17 : Two (w8.alloc (.cells #[.int .i64 (xn), .int .i64 (xd)] 23)) (w.heap.size) 23 (.int .i64 (n)) (.int .i64 (d)) := f_16.alloc _
        clear f_16
        have g_17 : Two (w8.alloc (.cells #[.int .i64 (xn), .int .i64 (xd)] 23)) (w.heap.size + 1) 23 (.int .i64 (m)) (.int .i64 (e)) := g_16.alloc _
        clear g_16
        have a_17 : Two (w8.alloc (.cells #[.int .i64 (xn), .int .i64 (xd)] 23)) (w2.heap.size) 23 (.int .i64 (an)) (.int .i64 (ad)) := a_16.alloc _
        clear a_16
        have b_17 : Two (w8.alloc (.cells #[.int .i64 (xn), .int .i64 (xd)] 23)) (w3.heap.size) 23 (.int .i64 (bn)) (.int .i64 (bd)) := b_16.alloc _
        clear b_16
        have c_17 : Two (w8.alloc (.cells #[.int .i64 (xn), .int .i64 (xd)] 23)) (w4.heap.size) 23 (.int .i64 (cn)) (.int .i64 (cd)) := c_16.alloc _
        clear c_16
        have p_17 : Two (w8.alloc (.cells #[.int .i64 (xn), .int .i64 (xd)] 23)) (w5.heap.size) 23 (.int .i64 (pn)) (.int .i64 (pd)) := p_16.alloc _
        clear p_16
        have x_17 : Two (w8.alloc (.cells #[.int .i64 (xn), .int .i64 (xd)] 23)) (w8.heap.size) 23 (.int .i64 (xn)) (.int .i64 (xd)) := Two.at (by simp) _ _ _
        have hBa17 : Below w.heap.size w (w8.alloc (.cells #[.int .i64 (xn), .int .i64 (xd)] 23)) := hBa16.alloc hBa16.size _
        clear hBa16
        go_wp2_with fail
        refine (XhOy.out _).mono ?_
        rintro r w9 ⟨rfl, hbc⟩
        have f_18 : Two w9 (w.heap.size) 23 (.int .i64 (n)) (.int .i64 (d)) := f_17.below hbc f_17.lt
        clear f_17
        have g_18 : Two w9 (w.heap.size + 1) 23 (.int .i64 (m)) (.int .i64 (e)) := g_17.below hbc g_17.lt
        clear g_17
        have a_18 : Two w9 (w2.heap.size) 23 (.int .i64 (an)) (.int .i64 (ad)) := a_17.below hbc a_17.lt
        clear a_17
        have b_18 : Two w9 (w3.heap.size) 23 (.int .i64 (bn)) (.int .i64 (bd)) := b_17.below hbc b_17.lt
        clear b_17
        have c_18 : Two w9 (w4.heap.size) 23 (.int .i64 (cn)) (.int .i64 (cd)) := c_17.below hbc c_17.lt
        clear c_17
        have p_18 : Two w9 (w5.heap.size) 23 (.int .i64 (pn)) (.int .i64 (pd)) := p_17.below hbc p_17.lt
        clear p_17
        have x_18 : Two w9 (w8.heap.size) 23 (.int .i64 (xn)) (.int .i64 (xd)) := x_17.below hbc x_17.lt
        clear x_17
        have hBa18 : Below w.heap.size w w9 := hBa17.trans (hbc.mono hBa17.size)
        clear hBa17 hbc
        have f_19 : Two (w9.alloc (.cells #[.int .i64 (yn), .int .i64 (yd)] 23)) (w.heap.size) 23 (.int .i64 (n)) (.int .i64 (d)) := f_18.alloc _
        clear f_18
        have g_19 : Two (w9.alloc (.cells #[.int .i64 (yn), .int .i64 (yd)] 23)) (w.heap.size + 1) 23 (.int .i64 (m)) (.int .i64 (e)) := g_18.alloc _
        clear g_18
        have a_19 : Two (w9.alloc (.cells #[.int .i64 (yn), .int .i64 (yd)] 23)) (w2.heap.size) 23 (.int .i64 (an)) (.int .i64 (ad)) := a_18.alloc _
        clear a_18
        have b_19 : Two (w9.alloc (.cells #[.int .i64 (yn), .int .i64 (yd)] 23)) (w3.heap.size) 23 (.int .i64 (bn)) (.int .i64 (bd)) := b_18.alloc _
        clear b_18
        have c_19 : Two (w9.alloc (.cells #[.int .i64 (yn), .int .i64 (yd)] 23)) (w4.heap.size) 23 (.int .i64 (cn)) (.int .i64 (cd)) := c_18.alloc _
        clear c_18
        have p_19 : Two (w9.alloc (.cells #[.int .i64 (yn), .int .i64 (yd)] 23)) (w5.heap.size) 23 (.int .i64 (pn)) (.int .i64 (pd)) := p_18.alloc _
        clear p_18
        have x_19 : Two (w9.alloc (.cells #[.int .i64 (yn), .int .i64 (yd)] 23)) (w8.heap.size) 23 (.int .i64 (xn)) (.int .i64 (xd)) := x_18.alloc _
        clear x_18
        have y_19 : Two (w9.alloc (.cells #[.int .i64 (yn), .int .i64 (yd)] 23)) (w9.heap.size) 23 (.int .i64 (yn)) (.int .i64 (yd)) := Two.at (by simp) _ _ _
        have hBa19 : Below w.heap.size w (w9.alloc (.cells #[.int .i64 (yn), .int .i64 (yd)] 23)) := hBa18.alloc hBa18.size _
        clear hBa18
        go_wp2_with fail
        go_ret
        exact ⟨rfl, hBa19⟩

set_option maxRecDepth 100000 in
theorem lawResults (n d m e u v : Int) (hn1 : -9223372036854775808 ≤ n) (hn2 : n ≤ 9223372036854775807) (hd1 : -9223372036854775808 ≤ d) (hd2 : d ≤ 9223372036854775807) (hm1 : -9223372036854775808 ≤ m) (hm2 : m ≤ 9223372036854775807) (he1 : -9223372036854775808 ≤ e) (he2 : e ≤ 9223372036854775807) (hu1 : -9223372036854775808 ≤ u) (hu2 : u ≤ 9223372036854775807) (hv1 : -9223372036854775808 ≤ v) (hv2 : v ≤ 9223372036854775807) (s : ByteArray) (hs : s.size ≤ 9223372036854775807) (w : World) (hl : Lay w) :
    Calls Tryd.prog 8 #[.agg #[.int .i64 n, .int .i64 d], .agg #[.int .i64 m, .int .i64 e], .int .i64 u, .int .i64 v, .string s] w fun r w' => r = .returned (.bool true) ∧ Below w.heap.size w w' := by
  by_cases hlen : 100 < s.size
  · go_enter Tryd.func8, Tryd.ntmps8
    have hB0 : Below w.heap.size w w := Below.refl w.heap.size w
    have f_1 : Two (w.alloc (.cells #[.int .i64 (n), .int .i64 (d)] 23)) (w.heap.size) 23 (.int .i64 (n)) (.int .i64 (d)) := Two.at (by simp) _ _ _
    have hBa1 : Below w.heap.size w (w.alloc (.cells #[.int .i64 (n), .int .i64 (d)] 23)) := hB0.alloc hB0.size _
    clear hB0
    have f_2 : Two ((w.alloc (.cells #[.int .i64 (n), .int .i64 (d)] 23)).alloc (.cells #[.int .i64 (m), .int .i64 (e)] 23)) (w.heap.size) 23 (.int .i64 (n)) (.int .i64 (d)) := f_1.alloc _
    clear f_1
    have g_2 : Two ((w.alloc (.cells #[.int .i64 (n), .int .i64 (d)] 23)).alloc (.cells #[.int .i64 (m), .int .i64 (e)] 23)) (w.heap.size + 1) 23 (.int .i64 (m)) (.int .i64 (e)) := Two.at (by simp) _ _ _
    have hBa2 : Below w.heap.size w ((w.alloc (.cells #[.int .i64 (n), .int .i64 (d)] 23)).alloc (.cells #[.int .i64 (m), .int .i64 (e)] 23)) := hBa1.alloc hBa1.size _
    clear hBa1
    go_wp2_with fail
    refine (head_any _ (hl.below hBa2)).mono ?_
    rintro r w1 ⟨rfl, hbc⟩
    have f_3 : Two w1 (w.heap.size) 23 (.int .i64 (n)) (.int .i64 (d)) := f_2.below hbc f_2.lt
    clear f_2
    have g_3 : Two w1 (w.heap.size + 1) 23 (.int .i64 (m)) (.int .i64 (e)) := g_2.below hbc g_2.lt
    clear g_2
    have hBa3 : Below w.heap.size w w1 := hBa2.trans (hbc.mono hBa2.size)
    clear hBa2 hbc
    go_wp2_with fail
    go_ret
    exact ⟨rfl, hBa3⟩
  · by_cases h : valP n d
    · by_cases k : valP m e
      · exact resultsV n d m e u v hn1 hn2 hd1 hd2 hm1 hm2 he1 he2 hu1 hu2 hv1 hv2 s (by omega) h k (small_way h k) w hl
      · exact resultsG n d m e u v hn1 hn2 hd1 hd2 hm1 hm2 he1 he2 hu1 hu2 hv1 hv2 s (by omega) h k (by unfold addE; rw [if_neg (fun x => k x.2)]) (by unfold mulE; rw [if_neg (fun x => k x.2)]) w hl
    · exact resultsF n d m e u v hn1 hn2 hd1 hd2 hm1 hm2 he1 he2 hu1 hu2 hv1 hv2 s (by omega) h (by unfold addE; rw [if_neg (fun x => h x.1)]) (by unfold mulE; rw [if_neg (fun x => h x.1)]) w hl
end Go.Proofs.YtflnhjfmlminoaaDoor.Fr
