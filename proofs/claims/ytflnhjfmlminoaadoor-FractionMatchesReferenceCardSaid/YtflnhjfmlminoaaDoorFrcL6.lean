/- The walk of FractionMatchesReference. -/
import Derived.Test.YtflnhjfmlminoaaDoorFrcH
import Derived.Test.YtflnhjfmlminoaaDoorFrcR19
import Derived.Test.YtflnhjfmlminoaaDoorFrcR17
import Derived.Test.YtflnhjfmlminoaaDoorFrcR14
import Derived.Test.YtflnhjfmlminoaaDoorFrcR22
namespace Go.Proofs.YtflnhjfmlminoaaDoor.Fr
set_option linter.unusedVariables false
set_option linter.unusedSimpArgs false
open Go.RowKit

set_option maxRecDepth 100000 in
set_option maxHeartbeats 8000000 in
theorem lawMatches (n d m e a b : Int) (hn1 : -9223372036854775808 ≤ n) (hn2 : n ≤ 9223372036854775807) (hd1 : -9223372036854775808 ≤ d) (hd2 : d ≤ 9223372036854775807) (hm1 : -9223372036854775808 ≤ m) (hm2 : m ≤ 9223372036854775807) (he1 : -9223372036854775808 ≤ e) (he2 : e ≤ 9223372036854775807) (ha1 : -9223372036854775808 ≤ a) (ha2 : a ≤ 9223372036854775807) (hb1 : -9223372036854775808 ≤ b) (hb2 : b ≤ 9223372036854775807) (s : ByteArray) (hs : s.size ≤ 9223372036854775807) (w : World) (hl : Lay w) :
    Calls Tryd.prog 3 #[.agg #[.int .i64 n, .int .i64 d], .agg #[.int .i64 m, .int .i64 e], .int .i64 a, .int .i64 b, .string s] w fun r w' => r = .returned (.bool true) ∧ Below w.heap.size w w' := by
  by_cases hlen : 100 < s.size

  · go_enter Tryd.func3, Tryd.ntmps3
    have hB0 : Below w.heap.size w w := Below.refl w.heap.size w
    have f_1 : Two (w.alloc (.cells #[.int .i64 (n), .int .i64 (d)] 23)) (w.heap.size) 23 (.int .i64 (n)) (.int .i64 (d)) := Two.at (by simp) _ _ _
    have hBa1 : Below w.heap.size w (w.alloc (.cells #[.int .i64 (n), .int .i64 (d)] 23)) := hB0.alloc hB0.size _
    clear hB0
    have f_2 : Two ((w.alloc (.cells #[.int .i64 (n), .int .i64 (d)] 23)).alloc (.cells #[.int .i64 (m), .int .i64 (e)] 23)) (w.heap.size) 23 (.int .i64 (n)) (.int .i64 (d)) := f_1.alloc _
    clear f_1
    have g_2 : Two ((w.alloc (.cells #[.int .i64 (n), .int .i64 (d)] 23)).alloc (.cells #[.int .i64 (m), .int .i64 (e)] 23)) (w.heap.size + 1) 23 (.int .i64 (m)) (.int .i64 (e)) := Two.at (by simp) _ _ _
    have hBa2 : Below w.heap.size w ((w.alloc (.cells #[.int .i64 (n), .int .i64 (d)] 23)).alloc (.cells #[.int .i64 (m), .int .i64 (e)] 23)) := hBa1.alloc hBa1.size _
    clear hBa1
    go_wp2_with fail
    refine (head_any _ (hl.below hBa2)).mono ?_
    rintro r w1 ⟨rfl, hbc⟩
    have f_3 : Two w1 (w.heap.size) 23 (.int .i64 (n)) (.int .i64 (d)) := f_2.below hbc f_2.lt
    clear f_2
    have g_3 : Two w1 (w.heap.size + 1) 23 (.int .i64 (m)) (.int .i64 (e)) := g_2.below hbc g_2.lt
    clear g_2
    have hBa3 : Below w.heap.size w w1 := hBa2.trans (hbc.mono hBa2.size)
    clear hBa2 hbc
    go_wp2_with fail
    go_ret
    exact ⟨rfl, hBa3⟩

  · have hlb : decide (100 < (s.size : Int)) = false := by simp; omega
    have hle : s.size ≤ 1000 := by omega
    have c1 := fun w => of_any a b ha1 ha2 hb1 hb2 w
    have c2 := fun w => rof_any a b ha1 ha2 hb1 hb2 w
    have c3 := fun w => add_any n d m e w
    have c4 := fun w => radd_any n d m e w
    have c5 := fun w => mul_any n d m e w
    have c6 := fun w => rmul_any n d m e w
    have c7 := fun w => valid_any n d w
    have c8 := fun w => rvalid_any n d w
    have c9 := fun w => compare_any n d m e w
    have c10 := fun w => rcompare_any n d m e w
    have c11 := fun w => floor_any n d w hn1 hn2
    have c12 := fun w => rfloor_any n d w hn1 hn2
    have c13 := fun w hl => text_any n d w hl
    have c14 := fun w => rtext_any n d w
    have c15 := fun w hl => parse_any s hle w hl
    have c16 := fun w => rparse_any s hle w
    generalize ofN a b = x1 at *
    generalize ofD a b = x2 at *
    generalize ofE a b = x3 at *
    generalize addN n d m e = y1 at *
    generalize addD n d m e = y2 at *
    generalize addE n d m e = y3 at *
    generalize mulN n d m e = z1 at *
    generalize mulD n d m e = z2 at *
    generalize mulE n d m e = z3 at *
    generalize valB n d = vb at *
    generalize cmpV n d m e = v1 at *
    generalize cmpE n d m e = v2 at *
    generalize flV n d = v3 at *
    generalize flE n d = v4 at *
    generalize (ByteArray.mk (txL n d).toArray) = tx at *
    generalize txE n d = v5 at *
    generalize (parV s.data.toList).1 = p1 at *
    generalize (parV s.data.toList).2.1 = p2 at *
    generalize (parV s.data.toList).2.2 = p3 at *
    have C1 := Lib.hid c1
    clear c1
    have C2 := Lib.hid c2
    clear c2
    have C3 := Lib.hid c3
    clear c3
    have C4 := Lib.hid c4
    clear c4
    have C5 := Lib.hid c5
    clear c5
    have C6 := Lib.hid c6
    clear c6
    have C7 := Lib.hid c7
    clear c7
    have C8 := Lib.hid c8
    clear c8
    have C9 := Lib.hid c9
    clear c9
    have C10 := Lib.hid c10
    clear c10
    have C11 := Lib.hid c11
    clear c11
    have C12 := Lib.hid c12
    clear c12
    have C13 := Lib.hid c13
    clear c13
    have C14 := Lib.hid c14
    clear c14
    have C15 := Lib.hid c15
    clear c15
    have C16 := Lib.hid c16
    clear c16
    go_enter Tryd.func3, Tryd.ntmps3
    have hB0 : Below w.heap.size w w := Below.refl w.heap.size w
    have f_1 : Two (w.alloc (.cells #[.int .i64 (n), .int .i64 (d)] 23)) (w.heap.size) 23 (.int .i64 (n)) (.int .i64 (d)) := Two.at (by simp) _ _ _
    have hBa1 : Below w.heap.size w (w.alloc (.cells #[.int .i64 (n), .int .i64 (d)] 23)) := hB0.alloc hB0.size _
    clear hB0
    have f_2 : Two ((w.alloc (.cells #[.int .i64 (n), .int .i64 (d)] 23)).alloc (.cells #[.int .i64 (m), .int .i64 (e)] 23)) (w.heap.size) 23 (.int .i64 (n)) (.int .i64 (d)) := f_1.alloc _
    clear f_1
    have g_2 : Two ((w.alloc (.cells #[.int .i64 (n), .int .i64 (d)] 23)).alloc (.cells #[.int .i64 (m), .int .i64 (e)] 23)) (w.heap.size + 1) 23 (.int .i64 (m)) (.int .i64 (e)) := Two.at (by simp) _ _ _
    have hBa2 : Below w.heap.size w ((w.alloc (.cells #[.int .i64 (n), .int .i64 (d)] 23)).alloc (.cells #[.int .i64 (m), .int .i64 (e)] 23)) := hBa1.alloc hBa1.size _
    clear hBa1
    go_wp2_with fail
    refine (head_any _ (hl.below hBa2)).mono ?_
    rintro r w1 ⟨rfl, hbc⟩
    have f_3 : Two w1 (w.heap.size) 23 (.int .i64 (n)) (.int .i64 (d)) := f_2.below hbc f_2.lt
    clear f_2
    have g_3 : Two w1 (w.heap.size + 1) 23 (.int .i64 (m)) (.int .i64 (e)) := g_2.below hbc g_2.lt
    clear g_2
    have hBa3 : Below w.heap.size w w1 := hBa2.trans (hbc.mono hBa2.size)
    clear hBa2 hbc
    go_wp2_with fail
    refine (C1.out _).mono ?_
    rintro r w2 ⟨rfl, hbc⟩
    have f_4 : Two w2 (w.heap.size) 23 (.int .i64 (n)) (.int .i64 (d)) := f_3.below hbc f_3.lt
    clear f_3
    have g_4 : Two w2 (w.heap.size + 1) 23 (.int .i64 (m)) (.int .i64 (e)) := g_3.below hbc g_3.lt
    clear g_3
    have hBa4 : Below w.heap.size w w2 := hBa3.trans (hbc.mono hBa3.size)
    clear hBa3 hbc
    have f_5 : Two (w2.alloc (.cells #[.int .i64 (x1), .int .i64 (x2)] 23)) (w.heap.size) 23 (.int .i64 (n)) (.int .i64 (d)) := f_4.alloc _
    clear f_4
    have g_5 : Two (w2.alloc (.cells #[.int .i64 (x1), .int .i64 (x2)] 23)) (w.heap.size + 1) 23 (.int .i64 (m)) (.int .i64 (e)) := g_4.alloc _
    clear g_4
    have a_5 : Two (w2.alloc (.cells #[.int .i64 (x1), .int .i64 (x2)] 23)) (w2.heap.size) 23 (.int .i64 (x1)) (.int .i64 (x2)) := Two.at (by simp) _ _ _
    have hBa5 : Below w.heap.size w (w2.alloc (.cells #[.int .i64 (x1), .int .i64 (x2)] 23)) := hBa4.alloc hBa4.size _
    clear hBa4
    go_wp2_with fail
    refine (C2.out _).mono ?_
    rintro r w3 ⟨rfl, hbc⟩
    have f_6 : Two w3 (w.heap.size) 23 (.int .i64 (n)) (.int .i64 (d)) := f_5.below hbc f_5.lt
    clear f_5
    have g_6 : Two w3 (w.heap.size + 1) 23 (.int .i64 (m)) (.int .i64 (e)) := g_5.below hbc g_5.lt
    clear g_5
    have a_6 : Two w3 (w2.heap.size) 23 (.int .i64 (x1)) (.int .i64 (x2)) := a_5.below hbc a_5.lt
    clear a_5
    have hBa6 : Below w.heap.size w w3 := hBa5.trans (hbc.mono hBa5.size)
    clear hBa5 hbc
    have f_7 : Two (w3.alloc (.cells #[.int .i64 (x1), .int .i64 (x2)] 23)) (w.heap.size) 23 (.int .i64 (n)) (.int .i64 (d)) := f_6.alloc _
    clear f_6
    have g_7 : Two (w3.alloc (.cells #[.int .i64 (x1), .int .i64 (x2)] 23)) (w.heap.size + 1) 23 (.int .i64 (m)) (.int .i64 (e)) := g_6.alloc _
    clear g_6
    have a_7 : Two (w3.alloc (.cells #[.int .i64 (x1), .int .i64 (x2)] 23)) (w2.heap.size) 23 (.int .i64 (x1)) (.int .i64 (x2)) := a_6.alloc _
    clear a_6
    have b_7 : Two (w3.alloc (.cells #[.int .i64 (x1), .int .i64 (x2)] 23)) (w3.heap.size) 23 (.int .i64 (x1)) (.int .i64 (x2)) := Two.at (by simp) _ _ _
    have hBa7 : Below w.heap.size w (w3.alloc (.cells #[.int .i64 (x1), .int .i64 (x2)] 23)) := hBa6.alloc hBa6.size _
    clear hBa6
    obtain ⟨ff0, ff1, ff2, ff3⟩ := f_7.facts
    obtain ⟨gf0, gf1, gf2, gf3⟩ := g_7.facts
    go_wp2_with fail
    refine (C3.out _).mono ?_
    rintro r w4 ⟨rfl, hbc⟩
    clear ff0
    clear ff1
    clear ff2
    clear ff3
    clear gf0
    clear gf1
    clear gf2
    clear gf3
    have f_8 : Two w4 (w.heap.size) 23 (.int .i64 (n)) (.int .i64 (d)) := f_7.below hbc f_7.lt
    clear f_7
    have g_8 : Two w4 (w.heap.size + 1) 23 (.int .i64 (m)) (.int .i64 (e)) := g_7.below hbc g_7.lt
    clear g_7
    have a_8 : Two w4 (w2.heap.size) 23 (.int .i64 (x1)) (.int .i64 (x2)) := a_7.below hbc a_7.lt
    clear a_7
    have b_8 : Two w4 (w3.heap.size) 23 (.int .i64 (x1)) (.int .i64 (x2)) := b_7.below hbc b_7.lt
    clear b_7
    have hBa8 : Below w.heap.size w w4 := hBa7.trans (hbc.mono hBa7.size)
    clear hBa7 hbc
    have f_9 : Two (w4.alloc (.cells #[.int .i64 (y1), .int .i64 (y2)] 23)) (w.heap.size) 23 (.int .i64 (n)) (.int .i64 (d)) := f_8.alloc _
    clear f_8
    have g_9 : Two (w4.alloc (.cells #[.int .i64 (y1), .int .i64 (y2)] 23)) (w.heap.size + 1) 23 (.int .i64 (m)) (.int .i64 (e)) := g_8.alloc _
    clear g_8
    have a_9 : Two (w4.alloc (.cells #[.int .i64 (y1), .int .i64 (y2)] 23)) (w2.heap.size) 23 (.int .i64 (x1)) (.int .i64 (x2)) := a_8.alloc _
    clear a_8
    have b_9 : Two (w4.alloc (.cells #[.int .i64 (y1), .int .i64 (y2)] 23)) (w3.heap.size) 23 (.int .i64 (x1)) (.int .i64 (x2)) := b_8.alloc _
    clear b_8
    have c_9 : Two (w4.alloc (.cells #[.int .i64 (y1), .int .i64 (y2)] 23)) (w4.heap.size) 23 (.int .i64 (y1)) (.int .i64 (y2)) := Two.at (by simp) _ _ _
    have hBa9 : Below w.heap.size w (w4.alloc (.cells #[.int .i64 (y1), .int .i64 (y2)] 23)) := hBa8.alloc hBa8.size _
    clear hBa8
    obtain ⟨ff0, ff1, ff2, ff3⟩ := f_9.facts
    obtain ⟨gf0, gf1, gf2, gf3⟩ := g_9.facts
    go_wp2_with fail
    refine (C4.out _).mono ?_
    rintro r w5 ⟨rfl, hbc⟩
    clear ff0
    clear ff1
    clear ff2
    clear ff3
    clear gf0
    clear gf1
    clear gf2
    clear gf3
    have f_10 : Two w5 (w.heap.size) 23 (.int .i64 (n)) (.int .i64 (d)) := f_9.below hbc f_9.lt
    clear f_9
    have g_10 : Two w5 (w.heap.size + 1) 23 (.int .i64 (m)) (.int .i64 (e)) := g_9.below hbc g_9.lt
    clear g_9
    have a_10 : Two w5 (w2.heap.size) 23 (.int .i64 (x1)) (.int .i64 (x2)) := a_9.below hbc a_9.lt
    clear a_9
    have b_10 : Two w5 (w3.heap.size) 23 (.int .i64 (x1)) (.int .i64 (x2)) := b_9.below hbc b_9.lt
    clear b_9
    have c_10 : Two w5 (w4.heap.size) 23 (.int .i64 (y1)) (.int .i64 (y2)) := c_9.below hbc c_9.lt
    clear c_9
    have hBa10 : Below w.heap.size w w5 := hBa9.trans (hbc.mono hBa9.size)
    clear hBa9 hbc
    have f_11 : Two (w5.alloc (.cells #[.int .i64 (y1), .int .i64 (y2)] 23)) (w.heap.size) 23 (.int .i64 (n)) (.int .i64 (d)) := f_10.alloc _
    clear f_10
    have g_11 : Two (w5.alloc (.cells #[.int .i64 (y1), .int .i64 (y2)] 23)) (w.heap.size + 1) 23 (.int .i64 (m)) (.int .i64 (e)) := g_10.alloc _
    clear g_10
    have a_11 : Two (w5.alloc (.cells #[.int .i64 (y1), .int .i64 (y2)] 23)) (w2.heap.size) 23 (.int .i64 (x1)) (.int .i64 (x2)) := a_10.alloc _
    clear a_10
    have b_11 : Two (w5.alloc (.cells #[.int .i64 (y1), .int .i64 (y2)] 23)) (w3.heap.size) 23 (.int .i64 (x1)) (.int .i64 (x2)) := b_10.alloc _
    clear b_10
    have c_11 : Two (w5.alloc (.cells #[.int .i64 (y1), .int .i64 (y2)] 23)) (w4.heap.size) 23 (.int .i64 (y1)) (.int .i64 (y2)) := c_10.alloc _
    clear c_10
    have d_11 : Two (w5.alloc (.cells #[.int .i64 (y1), .int .i64 (y2)] 23)) (w5.heap.size) 23 (.int .i64 (y1)) (.int .i64 (y2)) := Two.at (by simp) _ _ _
    have hBa11 : Below w.heap.size w (w5.alloc (.cells #[.int .i64 (y1), .int .i64 (y2)] 23)) := hBa10.alloc hBa10.size _
    clear hBa10
    obtain ⟨ff0, ff1, ff2, ff3⟩ := f_11.facts
    obtain ⟨gf0, gf1, gf2, gf3⟩ := g_11.facts
    go_wp2_with fail
    refine (C5.out _).mono ?_
    rintro r w6 ⟨rfl, hbc⟩
    clear ff0
    clear ff1
    clear ff2
    clear ff3
    clear gf0
    clear gf1
    clear gf2
    clear gf3
    have f_12 : Two w6 (w.heap.size) 23 (.int .i64 (n)) (.int .i64 (d)) := f_11.below hbc f_11.lt
    clear f_11
    have g_12 : Two w6 (w.heap.size + 1) 23 (.int .i64 (m)) (.int .i64 (e)) := g_11.below hbc g_11.lt
    clear g_11
    have a_12 : Two w6 (w2.heap.size) 23 (.int .i64 (x1)) (.int .i64 (x2)) := a_11.below hbc a_11.lt
    clear a_11
    have b_12 : Two w6 (w3.heap.size) 23 (.int .i64 (x1)) (.int .i64 (x2)) := b_11.below hbc b_11.lt
    clear b_11
    have c_12 : Two w6 (w4.heap.size) 23 (.int .i64 (y1)) (.int .i64 (y2)) := c_11.below hbc c_11.lt
    clear c_11
    have d_12 : Two w6 (w5.heap.size) 23 (.int .i64 (y1)) (.int .i64 (y2)) := d_11.below hbc d_11.lt
    clear d_11
    have hBa12 : Below w.heap.size w w6 := hBa11.trans (hbc.mono hBa11.size)
    clear hBa11 hbc
    have f_13 : Two (w6.alloc (.cells #[.int .i64 (z1), .int .i64 (z2)] 23)) (w.heap.size) 23 (.int .i64 (n)) (.int .i64 (d)) := f_12.alloc _
    clear f_12
    have g_13 : Two (w6.alloc (.cells #[.int .i64 (z1), .int .i64 (z2)] 23)) (w.heap.size + 1) 23 (.int .i64 (m)) (.int .i64 (e)) := g_12.alloc _
    clear g_12
    have a_13 : Two (w6.alloc (.cells #[.int .i64 (z1), .int .i64 (z2)] 23)) (w2.heap.size) 23 (.int .i64 (x1)) (.int .i64 (x2)) := a_12.alloc _
    clear a_12
    have b_13 : Two (w6.alloc (.cells #[.int .i64 (z1), .int .i64 (z2)] 23)) (w3.heap.size) 23 (.int .i64 (x1)) (.int .i64 (x2)) := b_12.alloc _
    clear b_12
    have c_13 : Two (w6.alloc (.cells #[.int .i64 (z1), .int .i64 (z2)] 23)) (w4.heap.size) 23 (.int .i64 (y1)) (.int .i64 (y2)) := c_12.alloc _
    clear c_12
    have d_13 : Two (w6.alloc (.cells #[.int .i64 (z1), .int .i64 (z2)] 23)) (w5.heap.size) 23 (.int .i64 (y1)) (.int .i64 (y2)) := d_12.alloc _
    clear d_12
    have p_13 : Two (w6.alloc (.cells #[.int .i64 (z1), .int .i64 (z2)] 23)) (w6.heap.size) 23 (.int .i64 (z1)) (.int .i64 (z2)) := Two.at (by simp) _ _ _
    have hBa13 : Below w.heap.size w (w6.alloc (.cells #[.int .i64 (z1), .int .i64 (z2)] 23)) := hBa12.alloc hBa12.size _
    clear hBa12
    obtain ⟨ff0, ff1, ff2, ff3⟩ := f_13.facts
    obtain ⟨gf0, gf1, gf2, gf3⟩ := g_13.facts
    go_wp2_with fail
    refine (C6.out _).mono ?_
    rintro r w7 ⟨rfl, hbc⟩
    clear ff0
    clear ff1
    clear ff2
    clear ff3
    clear gf0
    clear gf1
    clear gf2
    clear gf3
    have f_14 : Two w7 (w.heap.size) 23 (.int .i64 (n)) (.int .i64 (d)) := f_13.below hbc f_13.lt
    clear f_13
    have g_14 : Two w7 (w.heap.size + 1) 23 (.int .i64 (m)) (.int .i64 (e)) := g_13.below hbc g_13.lt
    clear g_13
    have a_14 : Two w7 (w2.heap.size) 23 (.int .i64 (x1)) (.int .i64 (x2)) := a_13.below hbc a_13.lt
    clear a_13
    have b_14 : Two w7 (w3.heap.size) 23 (.int .i64 (x1)) (.int .i64 (x2)) := b_13.below hbc b_13.lt
    clear b_13
    have c_14 : Two w7 (w4.heap.size) 23 (.int .i64 (y1)) (.int .i64 (y2)) := c_13.below hbc c_13.lt
    clear c_13
    have d_14 : Two w7 (w5.heap.size) 23 (.int .i64 (y1)) (.int .i64 (y2)) := d_13.below hbc d_13.lt
    clear d_13
    have p_14 : Two w7 (w6.heap.size) 23 (.int .i64 (z1)) (.int .i64 (z2)) := p_13.below hbc p_13.lt
    clear p_13
    have hBa14 : Below w.heap.size w w7 := hBa13.trans (hbc.mono hBa13.size)
    clear hBa13 hbc
    have f_15 : Two (w7.alloc (.cells #[.int .i64 (z1), .int .i64 (z2)] 23)) (w.heap.size) 23 (.int .i64 (n)) (.int .i64 (d)) := f_14.alloc _
    clear f_14
    have g_15 : Two (w7.alloc (.cells #[.int .i64 (z1), .int .i64 (z2)] 23)) (w.heap.size + 1) 23 (.int .i64 (m)) (.int .i64 (e)) := g_14.alloc _
    clear g_14
    have a_15 : Two (w7.alloc (.cells #[.int .i64 (z1), .int .i64 (z2)] 23)) (w2.heap.size) 23 (.int .i64 (x1)) (.int .i64 (x2)) := a_14.alloc _
    clear a_14
    have b_15 : Two (w7.alloc (.cells #[.int .i64 (z1), .int .i64 (z2)] 23)) (w3.heap.size) 23 (.int .i64 (x1)) (.int .i64 (x2)) := b_14.alloc _
    clear b_14
    have c_15 : Two (w7.alloc (.cells #[.int .i64 (z1), .int .i64 (z2)] 23)) (w4.heap.size) 23 (.int .i64 (y1)) (.int .i64 (y2)) := c_14.alloc _
    clear c_14
    have d_15 : Two (w7.alloc (.cells #[.int .i64 (z1), .int .i64 (z2)] 23)) (w5.heap.size) 23 (.int .i64 (y1)) (.int .i64 (y2)) := d_14.alloc _
    clear d_14
    have p_15 : Two (w7.alloc (.cells #[.int .i64 (z1), .int .i64 (z2)] 23)) (w6.heap.size) 23 (.int .i64 (z1)) (.int .i64 (z2)) := p_14.alloc _
    clear p_14
    have q_15 : Two (w7.alloc (.cells #[.int .i64 (z1), .int .i64 (z2)] 23)) (w7.heap.size) 23 (.int .i64 (z1)) (.int .i64 (z2)) := Two.at (by simp) _ _ _
    have hBa15 : Below w.heap.size w (w7.alloc (.cells #[.int .i64 (z1), .int .i64 (z2)] 23)) := hBa14.alloc hBa14.size _
    clear hBa14
    go_upto_region 10 with fail
    generalize (w7.alloc (.cells #[.int .i64 (z1), .int .i64 (z2)] 23)) = W at *
    have hS : ∀ w' : World, Below W.heap.size W w' → w'.cell? ⟨w.heap.size, 0, none⟩ = some (.int .i64 (n)) ∧ w'.cell? ⟨w.heap.size, 1, none⟩ = some (.int .i64 (d)) ∧ w'.cell? ⟨w2.heap.size, 0, none⟩ = some (.int .i64 (x1)) ∧ w'.cell? ⟨w2.heap.size, 1, none⟩ = some (.int .i64 (x2)) ∧ w'.cell? ⟨w3.heap.size, 0, none⟩ = some (.int .i64 (x1)) ∧ w'.cell? ⟨w3.heap.size, 1, none⟩ = some (.int .i64 (x2)) ∧ w'.cell? ⟨w4.heap.size, 0, none⟩ = some (.int .i64 (y1)) ∧ w'.cell? ⟨w4.heap.size, 1, none⟩ = some (.int .i64 (y2)) ∧ w'.cell? ⟨w5.heap.size, 0, none⟩ = some (.int .i64 (y1)) ∧ w'.cell? ⟨w5.heap.size, 1, none⟩ = some (.int .i64 (y2)) ∧ w'.cell? ⟨w6.heap.size, 0, none⟩ = some (.int .i64 (z1)) ∧ w'.cell? ⟨w6.heap.size, 1, none⟩ = some (.int .i64 (z2)) ∧ w'.cell? ⟨w7.heap.size, 0, none⟩ = some (.int .i64 (z1)) ∧ w'.cell? ⟨w7.heap.size, 1, none⟩ = some (.int .i64 (z2)) := fun w' hb => by
      obtain ⟨fk1, fk2, -, -⟩ := (f_15.below hb f_15.lt).facts
      obtain ⟨ak1, ak2, -, -⟩ := (a_15.below hb a_15.lt).facts
      obtain ⟨bk1, bk2, -, -⟩ := (b_15.below hb b_15.lt).facts
      obtain ⟨ck1, ck2, -, -⟩ := (c_15.below hb c_15.lt).facts
      obtain ⟨dk1, dk2, -, -⟩ := (d_15.below hb d_15.lt).facts
      obtain ⟨pk1, pk2, -, -⟩ := (p_15.below hb p_15.lt).facts
      obtain ⟨qk1, qk2, -, -⟩ := (q_15.below hb q_15.lt).facts
      exact ⟨fk1, fk2, ak1, ak2, bk1, bk2, ck1, ck2, dk1, dk2, pk1, pk2, qk1, qk2⟩
    have hr := Below.refl W.heap.size W
    go_region_held3 (fun w' => w'.cell? ⟨w.heap.size, 0, none⟩ = some (.int .i64 (n)) ∧ w'.cell? ⟨w.heap.size, 1, none⟩ = some (.int .i64 (d)) ∧ w'.cell? ⟨w2.heap.size, 0, none⟩ = some (.int .i64 (x1)) ∧ w'.cell? ⟨w2.heap.size, 1, none⟩ = some (.int .i64 (x2)) ∧ w'.cell? ⟨w3.heap.size, 0, none⟩ = some (.int .i64 (x1)) ∧ w'.cell? ⟨w3.heap.size, 1, none⟩ = some (.int .i64 (x2)) ∧ w'.cell? ⟨w4.heap.size, 0, none⟩ = some (.int .i64 (y1)) ∧ w'.cell? ⟨w4.heap.size, 1, none⟩ = some (.int .i64 (y2)) ∧ w'.cell? ⟨w5.heap.size, 0, none⟩ = some (.int .i64 (y1)) ∧ w'.cell? ⟨w5.heap.size, 1, none⟩ = some (.int .i64 (y2)) ∧ w'.cell? ⟨w6.heap.size, 0, none⟩ = some (.int .i64 (z1)) ∧ w'.cell? ⟨w6.heap.size, 1, none⟩ = some (.int .i64 (z2)) ∧ w'.cell? ⟨w7.heap.size, 0, none⟩ = some (.int .i64 (z1)) ∧ w'.cell? ⟨w7.heap.size, 1, none⟩ = some (.int .i64 (z2)))
      (first | exact hS _ hr.drew | exact hS _ (by assumption))
      (first
        | (go_at_call 17; have hz := hx1; refine (C8.out _).mono ?_; rintro r x2 ⟨rfl, hx2'⟩; have hx2 : Below W.heap.size W x2 := hx1.trans (hx2'.mono hx1.size))
        | (go_at_call 16; refine (C7.out _).mono ?_; rintro r x1 ⟨rfl, hx1'⟩; have hx1 : Below W.heap.size W x1 := hr.drew.trans hx1'))
    have fx := f_15.below hx2 f_15.lt
    have gx := g_15.below hx2 g_15.lt
    have hBx := hBa15.trans (hx2.mono hBa15.size)
    clear hS hr f_15 g_15 a_15 b_15 c_15 d_15 p_15 q_15 hBa15 hx2
    obtain ⟨ff0, ff1, ff2, ff3⟩ := fx.facts
    obtain ⟨gf0, gf1, gf2, gf3⟩ := gx.facts
    go_wp2_with fail
    refine (C9.out _).mono ?_
    rintro r w51 ⟨rfl, hbc⟩
    clear ff0
    clear ff1
    clear ff2
    clear ff3
    clear gf0
    clear gf1
    clear gf2
    clear gf3
    have f_101 : Two w51 (w.heap.size) 23 (.int .i64 (n)) (.int .i64 (d)) := fx.below hbc fx.lt
    clear fx
    have g_101 : Two w51 (w.heap.size + 1) 23 (.int .i64 (m)) (.int .i64 (e)) := gx.below hbc gx.lt
    clear gx
    have hBa101 : Below w.heap.size w w51 := hBx.trans (hbc.mono hBx.size)
    clear hBx hbc
    obtain ⟨ff0, ff1, ff2, ff3⟩ := f_101.facts
    obtain ⟨gf0, gf1, gf2, gf3⟩ := g_101.facts
    go_wp2_with fail
    refine (C10.out _).mono ?_
    rintro r w52 ⟨rfl, hbc⟩
    clear ff0
    clear ff1
    clear ff2
    clear ff3
    clear gf0
    clear gf1
    clear gf2
    clear gf3
    have f_102 : Two w52 (w.heap.size) 23 (.int .i64 (n)) (.int .i64 (d)) := f_101.below hbc f_101.lt
    clear f_101
    have g_102 : Two w52 (w.heap.size + 1) 23 (.int .i64 (m)) (.int .i64 (e)) := g_101.below hbc g_101.lt
    clear g_101
    have hBa102 : Below w.heap.size w w52 := hBa101.trans (hbc.mono hBa101.size)
    clear hBa101 hbc
    obtain ⟨ff0, ff1, ff2, ff3⟩ := f_102.facts
    go_wp2_with fail
    refine (C11.out _).mono ?_
    rintro r w53 ⟨rfl, hbc⟩
    clear ff0
    clear ff1
    clear ff2
    clear ff3
    have f_103 : Two w53 (w.heap.size) 23 (.int .i64 (n)) (.int .i64 (d)) := f_102.below hbc f_102.lt
    clear f_102
    have g_103 : Two w53 (w.heap.size + 1) 23 (.int .i64 (m)) (.int .i64 (e)) := g_102.below hbc g_102.lt
    clear g_102
    have hBa103 : Below w.heap.size w w53 := hBa102.trans (hbc.mono hBa102.size)
    clear hBa102 hbc
    obtain ⟨ff0, ff1, ff2, ff3⟩ := f_103.facts
    go_wp2_with fail
    refine (C12.out _).mono ?_
    rintro r w54 ⟨rfl, hbc⟩
    clear ff0
    clear ff1
    clear ff2
    clear ff3
    have f_104 : Two w54 (w.heap.size) 23 (.int .i64 (n)) (.int .i64 (d)) := f_103.below hbc f_103.lt
    clear f_103
    have g_104 : Two w54 (w.heap.size + 1) 23 (.int .i64 (m)) (.int .i64 (e)) := g_103.below hbc g_103.lt
    clear g_103
    have hBa104 : Below w.heap.size w w54 := hBa103.trans (hbc.mono hBa103.size)
    clear hBa103 hbc
    obtain ⟨ff0, ff1, ff2, ff3⟩ := f_104.facts
    go_wp2_with fail
    refine (C13.out _ (hl.below hBa104)).mono ?_
    rintro r w55 ⟨rfl, hbc⟩
    clear ff0
    clear ff1
    clear ff2
    clear ff3
    have f_105 : Two w55 (w.heap.size) 23 (.int .i64 (n)) (.int .i64 (d)) := f_104.below hbc f_104.lt
    clear f_104
    have g_105 : Two w55 (w.heap.size + 1) 23 (.int .i64 (m)) (.int .i64 (e)) := g_104.below hbc g_104.lt
    clear g_104
    have hBa105 : Below w.heap.size w w55 := hBa104.trans (hbc.mono hBa104.size)
    clear hBa104 hbc
    obtain ⟨ff0, ff1, ff2, ff3⟩ := f_105.facts
    go_wp2_with fail
    refine (C14.out _).mono ?_
    rintro r w56 ⟨rfl, hbc⟩
    clear ff0
    clear ff1
    clear ff2
    clear ff3
    have f_106 : Two w56 (w.heap.size) 23 (.int .i64 (n)) (.int .i64 (d)) := f_105.below hbc f_105.lt
    clear f_105
    have g_106 : Two w56 (w.heap.size + 1) 23 (.int .i64 (m)) (.int .i64 (e)) := g_105.below hbc g_105.lt
    clear g_105
    have hBa106 : Below w.heap.size w w56 := hBa105.trans (hbc.mono hBa105.size)
    clear hBa105 hbc
    go_wp2_with fail
    refine (C15.out _ (hl.below hBa106)).mono ?_
    rintro r w57 ⟨rfl, hbc⟩
    have f_107 : Two w57 (w.heap.size) 23 (.int .i64 (n)) (.int .i64 (d)) := f_106.below hbc f_106.lt
    clear f_106
    have g_107 : Two w57 (w.heap.size + 1) 23 (.int .i64 (m)) (.int .i64 (e)) := g_106.below hbc g_106.lt
    clear g_106
    have hBa107 : Below w.heap.size w w57 := hBa106.trans (hbc.mono hBa106.size)
    clear hBa106 hbc
    have f_108 : Two (w57.alloc (.cells #[.int .i64 (p1), .int .i64 (p2)] 23)) (w.heap.size) 23 (.int .i64 (n)) (.int .i64 (d)) := f_107.alloc _
    clear f_107
    have g_108 : Two (w57.alloc (.cells #[.int .i64 (p1), .int .i64 (p2)] 23)) (w.heap.size + 1) 23 (.int .i64 (m)) (.int .i64 (e)) := g_107.alloc _
    clear g_107
    have k_108 : Two (w57.alloc (.cells #[.int .i64 (p1), .int .i64 (p2)] 23)) (w57.heap.size) 23 (.int .i64 (p1)) (.int .i64 (p2)) := Two.at (by simp) _ _ _
    have hBa108 : Below w.heap.size w (w57.alloc (.cells #[.int .i64 (p1), .int .i64 (p2)] 23)) := hBa107.alloc hBa107.size _
    clear hBa107
    go_wp2_with fail
    refine (C16.out _).mono ?_
    rintro r w58 ⟨rfl, hbc⟩
    have f_109 : Two w58 (w.heap.size) 23 (.int .i64 (n)) (.int .i64 (d)) := f_108.below hbc f_108.lt
    clear f_108
    have g_109 : Two w58 (w.heap.size + 1) 23 (.int .i64 (m)) (.int .i64 (e)) := g_108.below hbc g_108.lt
    clear g_108
    have k_109 : Two w58 (w57.heap.size) 23 (.int .i64 (p1)) (.int .i64 (p2)) := k_108.below hbc k_108.lt
    clear k_108
    have hBa109 : Below w.heap.size w w58 := hBa108.trans (hbc.mono hBa108.size)
    clear hBa108 hbc
    have f_110 : Two (w58.alloc (.cells #[.int .i64 (p1), .int .i64 (p2)] 23)) (w.heap.size) 23 (.int .i64 (n)) (.int .i64 (d)) := f_109.alloc _
    clear f_109
    have g_110 : Two (w58.alloc (.cells #[.int .i64 (p1), .int .i64 (p2)] 23)) (w.heap.size + 1) 23 (.int .i64 (m)) (.int .i64 (e)) := g_109.alloc _
    clear g_109
    have k_110 : Two (w58.alloc (.cells #[.int .i64 (p1), .int .i64 (p2)] 23)) (w57.heap.size) 23 (.int .i64 (p1)) (.int .i64 (p2)) := k_109.alloc _
    clear k_109
    have o_110 : Two (w58.alloc (.cells #[.int .i64 (p1), .int .i64 (p2)] 23)) (w58.heap.size) 23 (.int .i64 (p1)) (.int .i64 (p2)) := Two.at (by simp) _ _ _
    have hBa110 : Below w.heap.size w (w58.alloc (.cells #[.int .i64 (p1), .int .i64 (p2)] 23)) := hBa109.alloc hBa109.size _
    clear hBa109
    obtain ⟨kf0, kf1, kf2, kf3⟩ := k_110.facts
    obtain ⟨of0, of1, of2, of3⟩ := o_110.facts
    go_wp2_with fail
    go_ret
    exact ⟨rfl, hBa110⟩
end Go.Proofs.YtflnhjfmlminoaaDoor.Fr
