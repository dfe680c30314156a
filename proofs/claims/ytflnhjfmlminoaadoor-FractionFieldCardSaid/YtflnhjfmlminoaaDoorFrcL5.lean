/- The walk of FractionField. -/
import Derived.Test.YtflnhjfmlminoaaDoorFrcH
import Derived.Test.YtflnhjfmlminoaaDoorFrcLaw3
import Derived.Deep.DeepCutAuto
namespace Go.Proofs.YtflnhjfmlminoaaDoor.Fr
set_option linter.unusedVariables false
set_option linter.unusedSimpArgs false
open Go.RowKit

/-- what a region leaves that makes a fraction's block -/
def FrAt (W : World) (a b : Int) (v : Value) (wx : World) : Prop :=
  ∃ B : Nat, v = .pointer (some ⟨B, 0, none⟩) ∧ (wx.cell? ⟨B, 0, none⟩ = some (.int .i64 a) ∧ wx.cell? ⟨B, 1, none⟩ = some (.int .i64 b)) ∧ B < wx.heap.size ∧ Below W.heap.size W wx
theorem cell_on {W W' : World} {B : Nat} {a b : Value} (hb : Below W.heap.size W W') (h : (W.cell? ⟨B, 0, none⟩ = some a ∧ W.cell? ⟨B, 1, none⟩ = some b) ∧ B < W.heap.size) :
    (W'.cell? ⟨B, 0, none⟩ = some a ∧ W'.cell? ⟨B, 1, none⟩ = some b) ∧ B < W'.heap.size :=
  ⟨⟨(hb.cell (p := ⟨B, 0, none⟩) h.2).trans h.1.1, (hb.cell (p := ⟨B, 1, none⟩) h.2).trans h.1.2⟩, Nat.lt_of_lt_of_le h.2 hb.size⟩
theorem zc (a b : Int) : ∃ B : Bool, (B = true ∧ a = 0 ∧ b = 0) ∨ (B = false ∧ ((a == 0) = false ∨ (a = 0 ∧ (b == 0) = false))) := by
  by_cases h : a = 0
  · by_cases k : b = 0
    · exact ⟨true, .inl ⟨rfl, h, k⟩⟩
    · exact ⟨false, .inr ⟨rfl, .inr ⟨h, by simpa using k⟩⟩⟩
  · exact ⟨false, .inr ⟨rfl, .inl (by simpa using h)⟩⟩
theorem nz' {a : Int} (h : (a == 0) = false) : (a != 0) = true := by simpa using h

set_option maxRecDepth 100000 in
set_option maxHeartbeats 8000000 in
theorem fieldV (n d m e p q : Int) (hf : valP n d) (hg : valP m e) (hh : valP p q) (w : World) (hl : Lay w) :
    Calls Tryd.prog 4 #[.agg #[.int .i64 n, .int .i64 d], .agg #[.int .i64 m, .int .i64 e], .agg #[.int .i64 p, .int .i64 q]] w fun r w' => r = .returned (.bool true) ∧ Below w.heap.size w w' := by
  have h1 := fun w => add_any n d m e w
  have h2 := fun w => add_any m e n d w
  have h3 := fun w => mul_any n d m e w
  have h4 := fun w => mul_any m e n d w
  have h5 := fun w => add_any n d (-n) d w
  have h6 := fun w => mul_any n d 1 1 w
  have h7 := fun w => add_any m e p q w
  have h8 := fun w => mul_any m e p q w
  have h9 := fun w => add_any (addN n d m e) (addD n d m e) p q w
  have h10 := fun w => add_any n d (addN m e p q) (addD m e p q) w
  have h11 := fun w => mul_any (mulN n d m e) (mulD n d m e) p q w
  have h12 := fun w => mul_any n d (mulN m e p q) (mulD m e p q) w
  have h13 := fun w => mul_any n d p q w
  have h14 := fun w => mul_any n d (addN m e p q) (addD m e p q) w
  have h15 := fun w => add_any (mulN n d m e) (mulD n d m e) (mulN n d p q) (mulD n d p q) w
  rw [(add_swap hf hg).1, (add_swap hf hg).2.1, (add_swap hf hg).2.2] at h2
  rw [(mul_swap hf hg).1, (mul_swap hf hg).2.1, (mul_swap hf hg).2.2] at h4
  rw [(add_neg hf).1, (add_neg hf).2.1, (add_neg hf).2.2] at h5
  rw [(mul_one' hf).1, (mul_one' hf).2.1, (mul_one' hf).2.2] at h6
  have a1 := assoc_add hf hg hh
  have a2 := assoc_mul hf hg hh
  have a3 := distrib hf hg hh
  have hn1 := hf.1
  have hn2 := hf.2.1
  generalize addN (addN n d m e) (addD n d m e) p q = xn at *
  generalize addD (addN n d m e) (addD n d m e) p q = xd at *
  generalize addE (addN n d m e) (addD n d m e) p q = xe at *
  generalize addN n d (addN m e p q) (addD m e p q) = yn at *
  generalize addD n d (addN m e p q) (addD m e p q) = yd at *
  generalize addE n d (addN m e p q) (addD m e p q) = ye at *
  generalize mulN (mulN n d m e) (mulD n d m e) p q = zn at *
  generalize mulD (mulN n d m e) (mulD n d m e) p q = zd at *
  generalize mulE (mulN n d m e) (mulD n d m e) p q = ze at *
  generalize mulN n d (mulN m e p q) (mulD m e p q) = vn at *
  generalize mulD n d (mulN m e p q) (mulD m e p q) = vd at *
  generalize mulE n d (mulN m e p q) (mulD m e p q) = ve at *
  generalize mulN n d (addN m e p q) (addD m e p q) = rn at *
  generalize mulD n d (addN m e p q) (addD m e p q) = rd at *
  generalize mulE n d (addN m e p q) (addD m e p q) = re at *
  generalize addN (mulN n d m e) (mulD n d m e) (mulN n d p q) (mulD n d p q) = on at *
  generalize addD (mulN n d m e) (mulD n d m e) (mulN n d p q) (mulD n d p q) = od at *
  generalize addE (mulN n d m e) (mulD n d m e) (mulN n d p q) (mulD n d p q) = oe at *
  generalize addN n d m e = an at *
  generalize addD n d m e = ad at *
  generalize addE n d m e = ae at *
  generalize mulN n d m e = cn at *
  generalize mulD n d m e = cd at *
  generalize mulE n d m e = ce at *
  generalize addN m e p q = sn at *
  generalize addD m e p q = sd at *
  generalize addE m e p q = se at *
  generalize mulN m e p q = tn at *
  generalize mulD m e p q = td at *
  generalize mulE m e p q = te at *
  generalize mulN n d p q = un at *
  generalize mulD n d p q = ud at *
  generalize mulE n d p q = ue at *
  have X1 := Lib.hid h1
  clear h1
  have X2 := Lib.hid h2
  clear h2
  have X3 := Lib.hid h3
  clear h3
  have X4 := Lib.hid h4
  clear h4
  have X5 := Lib.hid h5
  clear h5
  have X6 := Lib.hid h6
  clear h6
  have X7 := Lib.hid h7
  clear h7
  have X8 := Lib.hid h8
  clear h8
  have X9 := Lib.hid h9
  clear h9
  have X10 := Lib.hid h10
  clear h10
  have X11 := Lib.hid h11
  clear h11
  have X12 := Lib.hid h12
  clear h12
  have X13 := Lib.hid h13
  clear h13
  have X14 := Lib.hid h14
  clear h14
  have X15 := Lib.hid h15
  clear h15
  have A1 := Lib.hid a1
  clear a1
  have A2 := Lib.hid a2
  clear a2
  have A3 := Lib.hid a3
  clear a3
  go_enter Tryd.func4, Tryd.ntmps4
  have hB0 : Below w.heap.size w w := Below.refl w.heap.size w
  have f_1 : Two (w.alloc (.cells #[.int .i64 (n), .int .i64 (d)] 23)) (w.heap.size) 23 (.int .i64 (n)) (.int .i64 (d)) := Two.at (by simp) _ _ _
  have hBa1 : Below w.heap.size w (w.alloc (.cells #[.int .i64 (n), .int .i64 (d)] 23)) := hB0.alloc hB0.size _
  clear hB0
  have f_2 : Two ((w.alloc (.cells #[.int .i64 (n), .int .i64 (d)] 23)).alloc (.cells #[.int .i64 (m), .int .i64 (e)] 23)) (w.heap.size) 23 (.int .i64 (n)) (.int .i64 (d)) := f_1.alloc _
  clear f_1
  have g_2 : Two ((w.alloc (.cells #[.int .i64 (n), .int .i64 (d)] 23)).alloc (.cells #[.int .i64 (m), .int .i64 (e)] 23)) (w.heap.size + 1) 23 (.int .i64 (m)) (.int .i64 (e)) := Two.at (by simp) _ _ _
  have hBa2 : Below w.heap.size w ((w.alloc (.cells #[.int .i64 (n), .int .i64 (d)] 23)).alloc (.cells #[.int .i64 (m), .int .i64 (e)] 23)) := hBa1.alloc hBa1.size _
  clear hBa1
  have f_3 : Two (((w.alloc (.cells #[.int .i64 (n), .int .i64 (d)] 23)).alloc (.cells #[.int .i64 (m), .int .i64 (e)] 23)).alloc (.cells #[.int .i64 (p), .int .i64 (q)] 23)) (w.heap.size) 23 (.int .i64 (n)) (.int .i64 (d)) := f_2.alloc _
  clear f_2
  have g_3 : Two (((w.alloc (.cells #[.int .i64 (n), .int .i64 (d)] 23)).alloc (.cells #[.int .i64 (m), .int .i64 (e)] 23)).alloc (.cells #[.int .i64 (p), .int .i64 (q)] 23)) (w.heap.size + 1) 23 (.int .i64 (m)) (.int .i64 (e)) := g_2.alloc _
  clear g_2
  have h_3 : Two (((w.alloc (.cells #[.int .i64 (n), .int .i64 (d)] 23)).alloc (.cells #[.int .i64 (m), .int .i64 (e)] 23)).alloc (.cells #[.int .i64 (p), .int .i64 (q)] 23)) (w.heap.size + 1 + 1) 23 (.int .i64 (p)) (.int .i64 (q)) := Two.at (by simp) _ _ _
  have hBa3 : Below w.heap.size w (((w.alloc (.cells #[.int .i64 (n), .int .i64 (d)] 23)).alloc (.cells #[.int .i64 (m), .int .i64 (e)] 23)).alloc (.cells #[.int .i64 (p), .int .i64 (q)] 23)) := hBa2.alloc hBa2.size _
  clear hBa2
  go_wp2_with fail
  refine (head_any _ (hl.below hBa3)).mono ?_
  rintro r w1 ⟨rfl, hbc⟩
  have f_4 : Two w1 (w.heap.size) 23 (.int .i64 (n)) (.int .i64 (d)) := f_3.below hbc f_3.lt
  clear f_3
  have g_4 : Two w1 (w.heap.size + 1) 23 (.int .i64 (m)) (.int .i64 (e)) := g_3.below hbc g_3.lt
  clear g_3
  have h_4 : Two w1 (w.heap.size + 1 + 1) 23 (.int .i64 (p)) (.int .i64 (q)) := h_3.below hbc h_3.lt
  clear h_3
  have hBa4 : Below w.heap.size w w1 := hBa3.trans (hbc.mono hBa3.size)
  clear hBa3 hbc
  obtain ⟨ff0, ff1, ff2, ff3⟩ := f_4.facts
  go_wp2_with fail
  refine (valid_yes _ _ hf _).mono ?_
  rintro r w2 ⟨rfl, hbc⟩
  clear ff0
  clear ff1
  clear ff2
  clear ff3
  have f_5 : Two w2 (w.heap.size) 23 (.int .i64 (n)) (.int .i64 (d)) := f_4.below hbc f_4.lt
  clear f_4
  have g_5 : Two w2 (w.heap.size + 1) 23 (.int .i64 (m)) (.int .i64 (e)) := g_4.below hbc g_4.lt
  clear g_4
  have h_5 : Two w2 (w.heap.size + 1 + 1) 23 (.int .i64 (p)) (.int .i64 (q)) := h_4.below hbc h_4.lt
  clear h_4
  have hBa5 : Below w.heap.size w w2 := hBa4.trans (hbc.mono hBa4.size)
  clear hBa4 hbc
  obtain ⟨gf0, gf1, gf2, gf3⟩ := g_5.facts
  go_wp2_with fail
  refine (valid_yes _ _ hg _).mono ?_
  rintro r w3 ⟨rfl, hbc⟩
  clear gf0
  clear gf1
  clear gf2
  clear gf3
  have f_6 : Two w3 (w.heap.size) 23 (.int .i64 (n)) (.int .i64 (d)) := f_5.below hbc f_5.lt
  clear f_5
  have g_6 : Two w3 (w.heap.size + 1) 23 (.int .i64 (m)) (.int .i64 (e)) := g_5.below hbc g_5.lt
  clear g_5
  have h_6 : Two w3 (w.heap.size + 1 + 1) 23 (.int .i64 (p)) (.int .i64 (q)) := h_5.below hbc h_5.lt
  clear h_5
  have hBa6 : Below w.heap.size w w3 := hBa5.trans (hbc.mono hBa5.size)
  clear hBa5 hbc
  obtain ⟨hf0, hf1, hf2, hf3⟩ := h_6.facts
  go_wp2_with fail
  refine (valid_yes _ _ hh _).mono ?_
  rintro r w4 ⟨rfl, hbc⟩
  clear hf0
  clear hf1
  clear hf2
  clear hf3
  have f_7 : Two w4 (w.heap.size) 23 (.int .i64 (n)) (.int .i64 (d)) := f_6.below hbc f_6.lt
  clear f_6
  have g_7 : Two w4 (w.heap.size + 1) 23 (.int .i64 (m)) (.int .i64 (e)) := g_6.below hbc g_6.lt
  clear g_6
  have h_7 : Two w4 (w.heap.size + 1 + 1) 23 (.int .i64 (p)) (.int .i64 (q)) := h_6.below hbc h_6.lt
  clear h_6
  have hBa7 : Below w.heap.size w w4 := hBa6.trans (hbc.mono hBa6.size)
  clear hBa6 hbc
  obtain ⟨ff0, ff1, ff2, ff3⟩ := f_7.facts
  obtain ⟨gf0, gf1, gf2, gf3⟩ := g_7.facts
  go_wp2_with fail
  refine (X1.out _).mono ?_
  rintro r w5 ⟨rfl, hbc⟩
  clear ff0
  clear ff1
  clear ff2
  clear ff3
  clear gf0
  clear gf1
  clear gf2
  clear gf3
  have f_8 : Two w5 (w.heap.size) 23 (.int .i64 (n)) (.int .i64 (d)) := f_7.below hbc f_7.lt
  clear f_7
  have g_8 : Two w5 (w.heap.size + 1) 23 (.int .i64 (m)) (.int .i64 (e)) := g_7.below hbc g_7.lt
  clear g_7
  have h_8 : Two w5 (w.heap.size + 1 + 1) 23 (.int .i64 (p)) (.int .i64 (q)) := h_7.below hbc h_7.lt
  clear h_7
  have hBa8 : Below w.heap.size w w5 := hBa7.trans (hbc.mono hBa7.size)
  clear hBa7 hbc
  have f_9 : Two (w5.alloc (.cells #[.int .i64 (an), .int .i64 (ad)] 23)) (w.heap.size) 23 (.int .i64 (n)) (.int .i64 (d)) := f_8.alloc _
  clear f_8
  have g_9 : Two (w5.alloc (.cells #[.int .i64 (an), .int .i64 (ad)] 23)) (w.heap.size + 1) 23 (.int .i64 (m)) (.int .i64 (e)) := g_8.alloc _
  clear g_8
  have h_9 : Two (w5.alloc (.cells #[.int .i64 (an), .int .i64 (ad)] 23)) (w.heap.size + 1 + 1) 23 (.int .i64 (p)) (.int .i64 (q)) := h_8.alloc _
  clear h_8
  have a_9 : Two (w5.alloc (.cells #[.int .i64 (an), .int .i64 (ad)] 23)) (w5.heap.size) 23 (.int .i64 (an)) (.int .i64 (ad)) := Two.at (by simp) _ _ _
  have hBa9 : Below w.heap.size w (w5.alloc (.cells #[.int .i64 (an), .int .i64 (ad)] 23)) := hBa8.alloc hBa8.size _
  clear hBa8
  obtain ⟨gf0, gf1, gf2, gf3⟩ := g_9.facts
  obtain ⟨ff0, ff1, ff2, ff3⟩ := f_9.facts
  go_wp2_with fail
  refine (X2.out _).mono ?_
  rintro r w6 ⟨rfl, hbc⟩
  clear gf0
  clear gf1
  clear gf2
  clear gf3
  clear ff0
  clear ff1
  clear ff2
  clear ff3
  have f_10 : Two w6 (w.heap.size) 23 (.int .i64 (n)) (.int .i64 (d)) := f_9.below hbc f_9.lt
  clear f_9
  have g_10 : Two w6 (w.heap.size + 1) 23 (.int .i64 (m)) (.int .i64 (e)) := g_9.below hbc g_9.lt
  clear g_9
  have h_10 : Two w6 (w.heap.size + 1 + 1) 23 (.int .i64 (p)) (.int .i64 (q)) := h_9.below hbc h_9.lt
  clear h_9
  have a_10 : Two w6 (w5.heap.size) 23 (.int .i64 (an)) (.int .i64 (ad)) := a_9.below hbc a_9.lt
  clear a_9
  have hBa10 : Below w.heap.size w w6 := hBa9.trans (hbc.mono hBa9.size)
  clear hBa9 hbc
  have f_11 : Two (w6.alloc (.cells #[.int .i64 (an), .int .i64 (ad)] 23)) (w.heap.size) 23 (.int .i64 (n)) (.int .i64 (d)) := f_10.alloc _
  clear f_10
  have g_11 : Two (w6.alloc (.cells #[.int .i64 (an), .int .i64 (ad)] 23)) (w.heap.size + 1) 23 (.int .i64 (m)) (.int .i64 (e)) := g_10.alloc _
  clear g_10
  have h_11 : Two (w6.alloc (.cells #[.int .i64 (an), .int .i64 (ad)] 23)) (w.heap.size + 1 + 1) 23 (.int .i64 (p)) (.int .i64 (q)) := h_10.alloc _
  clear h_10
  have a_11 : Two (w6.alloc (.cells #[.int .i64 (an), .int .i64 (ad)] 23)) (w5.heap.size) 23 (.int .i64 (an)) (.int .i64 (ad)) := a_10.alloc _
  clear a_10
  have b_11 : Two (w6.alloc (.cells #[.int .i64 (an), .int .i64 (ad)] 23)) (w6.heap.size) 23 (.int .i64 (an)) (.int .i64 (ad)) := Two.at (by simp) _ _ _
  have hBa11 : Below w.heap.size w (w6.alloc (.cells #[.int .i64 (an), .int .i64 (ad)] 23)) := hBa10.alloc hBa10.size _
  clear hBa10
  obtain ⟨ff0, ff1, ff2, ff3⟩ := f_11.facts
  obtain ⟨gf0, gf1, gf2, gf3⟩ := g_11.facts
  go_wp2_with fail
  refine (X3.out _).mono ?_
  rintro r w7 ⟨rfl, hbc⟩
  clear ff0
  clear ff1
  clear ff2
  clear ff3
  clear gf0
  clear gf1
  clear gf2
  clear gf3
  have f_12 : Two w7 (w.heap.size) 23 (.int .i64 (n)) (.int .i64 (d)) := f_11.below hbc f_11.lt
  clear f_11
  have g_12 : Two w7 (w.heap.size + 1) 23 (.int .i64 (m)) (.int .i64 (e)) := g_11.below hbc g_11.lt
  clear g_11
  have h_12 : Two w7 (w.heap.size + 1 + 1) 23 (.int .i64 (p)) (.int .i64 (q)) := h_11.below hbc h_11.lt
  clear h_11
  have a_12 : Two w7 (w5.heap.size) 23 (.int .i64 (an)) (.int .i64 (ad)) := a_11.below hbc a_11.lt
  clear a_11
  have b_12 : Two w7 (w6.heap.size) 23 (.int .i64 (an)) (.int .i64 (ad)) := b_11.below hbc b_11.lt
  clear b_11
  have hBa12 : Below w.heap.size w w7 := hBa11.trans (hbc.mono hBa11.size)
  clear hBa11 hbc
  have f_13 : Two (w7.alloc (.cells #[.int .i64 (cn), .int .i64 (cd)] 23)) (w.heap.size) 23 (.int .i64 (n)) (.int .i64 (d)) := f_12.alloc _
  clear f_12
  have g_13 : Two (w7.alloc (.cells #[.int .i64 (cn), .int .i64 (cd)] 23)) (w.heap.size + 1) 23 (.int .i64 (m)) (.int .i64 (e)) := g_12.alloc _
  clear g_12
  have h_13 : Two (w7.alloc (.cells #[.int .i64 (cn), .int .i64 (cd)] 23)) (w.heap.size + 1 + 1) 23 (.int .i64 (p)) (.int .i64 (q)) := h_12.alloc _
  clear h_12
  have a_13 : Two (w7.alloc (.cells #[.int .i64 (cn), .int .i64 (cd)] 23)) (w5.heap.size) 23 (.int .i64 (an)) (.int .i64 (ad)) := a_12.alloc _
  clear a_12
  have b_13 : Two (w7.alloc (.cells #[.int .i64 (cn), .int .i64 (cd)] 23)) (w6.heap.size) 23 (.int .i64 (an)) (.int .i64 (ad)) := b_12.alloc _
  clear b_12
  have c_13 : Two (w7.alloc (.cells #[.int .i64 (cn), .int .i64 (cd)] 23)) (w7.heap.size) 23 (.int .i64 (cn)) (.int .i64 (cd)) := Two.at (by simp) _ _ _
  have hBa13 : Below w.heap.size w (w7.alloc (.cells #[.int .i64 (cn), .int .i64 (cd)] 23)) := hBa12.alloc hBa12.size _
  clear hBa12
  obtain ⟨gf0, gf1, gf2, gf3⟩ := g_13.facts
  obtain ⟨ff0, ff1, ff2, ff3⟩ := f_13.facts
  go_wp2_with fail
  refine (X4.out _).mono ?_
  rintro r w8 ⟨rfl, hbc⟩
  clear gf0
  clear gf1
  clear gf2
  clear gf3
  clear ff0
  clear ff1
  clear ff2
  clear ff3
  have f_14 : Two w8 (w.heap.size) 23 (.int .i64 (n)) (.int .i64 (d)) := f_13.below hbc f_13.lt
  clear f_13
  have g_14 : Two w8 (w.heap.size + 1) 23 (.int .i64 (m)) (.int .i64 (e)) := g_13.below hbc g_13.lt
  clear g_13
  have h_14 : Two w8 (w.heap.size + 1 + 1) 23 (.int .i64 (p)) (.int .i64 (q)) := h_13.below hbc h_13.lt
  clear h_13
  have a_14 : Two w8 (w5.heap.size) 23 (.int .i64 (an)) (.int .i64 (ad)) := a_13.below hbc a_13.lt
  clear a_13
  have b_14 : Two w8 (w6.heap.size) 23 (.int .i64 (an)) (.int .i64 (ad)) := b_13.below hbc b_13.lt
  clear b_13
  have c_14 : Two w8 (w7.heap.size) 23 (.int .i64 (cn)) (.int .i64 (cd)) := c_13.below hbc c_13.lt
  clear c_13
  have hBa14 : Below w.heap.size w w8 := hBa13.trans (hbc.mono hBa13.size)
  clear hBa13 hbc
  have f_15 : Two (w8.alloc (.cells #[.int .i64 (cn), .int .i64 (cd)] 23)) (w.heap.size) 23 (.int .i64 (n)) (.int .i64 (d)) := f_14.alloc _
  clear f_14
  have g_15 : Two (w8.alloc (.cells #[.int .i64 (cn), .int .i64 (cd)] 23)) (w.heap.size + 1) 23 (.int .i64 (m)) (.int .i64 (e)) := g_14.alloc _
  clear g_14
  have h_15 : Two (w8.alloc (.cells #[.int .i64 (cn), .int .i64 (cd)] 23)) (w.heap.size + 1 + 1) 23 (.int .i64 (p)) (.int .i64 (q)) := h_14.alloc _
  clear h_14
  have a_15 : Two (w8.alloc (.cells #[.int .i64 (cn), .int .i64 (cd)] 23)) (w5.heap.size) 23 (.int .i64 (an)) (.int .i64 (ad)) := a_14.alloc _
  clear a_14
  have b_15 : Two (w8.alloc (.cells #[.int .i64 (cn), .int .i64 (cd)] 23)) (w6.heap.size) 23 (.int .i64 (an)) (.int .i64 (ad)) := b_14.alloc _
  clear b_14
  have c_15 : Two (w8.alloc (.cells #[.int .i64 (cn), .int .i64 (cd)] 23)) (w7.heap.size) 23 (.int .i64 (cn)) (.int .i64 (cd)) := c_14.alloc _
  clear c_14
  have o_15 : Two (w8.alloc (.cells #[.int .i64 (cn), .int .i64 (cd)] 23)) (w8.heap.size) 23 (.int .i64 (cn)) (.int .i64 (cd)) := Two.at (by simp) _ _ _
  have hBa15 : Below w.heap.size w (w8.alloc (.cells #[.int .i64 (cn), .int .i64 (cd)] 23)) := hBa14.alloc hBa14.size _
  clear hBa14
  have hng : IntKind.i64.wrap (-n) = -n := IntWalk.i64_in _ (by omega)
  go_upto_region 8 with fail
  generalize (w8.alloc (.cells #[.int .i64 (cn), .int .i64 (cd)] 23)) = Wa at *
  have hS : ∀ w' : World, Below Wa.heap.size Wa w' → w'.cell? ⟨w.heap.size, 0, none⟩ = some (.int .i64 n) ∧ w'.cell? ⟨w.heap.size, 1, none⟩ = some (.int .i64 d) := fun w' hb => ⟨(f_15.below hb f_15.lt).facts.1, (f_15.below hb f_15.lt).facts.2.1⟩
  have hr := Below.refl Wa.heap.size Wa
  go_cut [16, 17] (fun v u wx => FrAt Wa (0) (1) v wx ∧ u = .int .i64 0)
  case first => as_aux_lemma =>
    go_region_held3 (fun w' => w'.cell? ⟨w.heap.size, 0, none⟩ = some (.int .i64 n) ∧ w'.cell? ⟨w.heap.size, 1, none⟩ = some (.int .i64 d))
      (first | exact hS _ hr.drew | exact hS _ (by assumption) | (refine hS _ ?_; (repeat (first | assumption | (refine Below.drew ?_) | (refine Below.setCell ?_ ?_ _) | (refine Below.alloc ?_ ?_ _))); all_goals (first | omega | (simp; omega) | simp)))
      (first
        | (go_at_call 12; have hz := hx1; refine (X5.out _).mono ?_; rintro r x2 ⟨rfl, hx2'⟩;
            have hx12 : Below x1.heap.size x1 x2 := (by first | exact hx2' | exact ((Below.refl x1.heap.size x1).alloc (Nat.le_refl _) _).trans (hx2'.mono (by simp)));
            have hx2 : Below Wa.heap.size Wa x2 := hx1.trans (hx12.mono hx1.size); have z2 := hx12.size;
            (try (refine cutI (p7.below hx12 p7.lt) (fun q7 => ?_); obtain ⟨f1, f2, f3, f4⟩ := q7.facts; have lx := q7.lt));
            (try (refine cutI (two_b3 hx2') (fun q7 => ?_); obtain ⟨f1, f2, f3, f4⟩ := q7.facts; have lx := q7.lt)))
        | (go_at_call 26; refine (of_call _ _ _).mono ?_; rintro r x1 ⟨rfl, hx1'⟩;
            have hx1 : Below Wa.heap.size Wa x1 := (by first | exact hr.drew.trans hx1' | exact (hr.alloc hr.size _).drew.trans (hx1'.mono (by simp)));
            have z1 := hx1.size; (try (refine cutI (two_b1 hx1') (fun p7 => ?_)))))
    all_goals
      go_wp2_with fail
      go_meet
      refine ⟨⟨_, rfl, ⟨?_, ?_⟩, ?_, ?_⟩, rfl⟩
      · go_simp
      · go_simp
      · first | omega | (simp; omega) | simp
      · (repeat (first | assumption | (refine Below.drew ?_) | (refine Below.setCell ?_ ?_ _) | (refine Below.alloc ?_ ?_ _))); all_goals (first | omega | (simp; omega) | simp)
  case rest =>
    obtain ⟨⟨kB, rfl, kc, kl, hbc⟩, rfl⟩ := hcut
    obtain ⟨Wac, rfl⟩ : ∃ x : World, x = wc := ⟨_, rfl⟩
    clear hS hr
    have f_16 : Two Wac (w.heap.size) 23 (.int .i64 (n)) (.int .i64 (d)) := f_15.below hbc f_15.lt
    clear f_15
    have g_16 : Two Wac (w.heap.size + 1) 23 (.int .i64 (m)) (.int .i64 (e)) := g_15.below hbc g_15.lt
    clear g_15
    have h_16 : Two Wac (w.heap.size + 1 + 1) 23 (.int .i64 (p)) (.int .i64 (q)) := h_15.below hbc h_15.lt
    clear h_15
    have a_16 : Two Wac (w5.heap.size) 23 (.int .i64 (an)) (.int .i64 (ad)) := a_15.below hbc a_15.lt
    clear a_15
    have b_16 : Two Wac (w6.heap.size) 23 (.int .i64 (an)) (.int .i64 (ad)) := b_15.below hbc b_15.lt
    clear b_15
    have c_16 : Two Wac (w7.heap.size) 23 (.int .i64 (cn)) (.int .i64 (cd)) := c_15.below hbc c_15.lt
    clear c_15
    have o_16 : Two Wac (w8.heap.size) 23 (.int .i64 (cn)) (.int .i64 (cd)) := o_15.below hbc o_15.lt
    clear o_15
    have hBa16 : Below w.heap.size w Wac := hBa15.trans (hbc.mono hBa15.size)
    clear hBa15 hbc
    clear hng
    have K1 := Lib.hid (And.intro kc kl)
    clear kc kl
    go_upto_region 9 with fail
    generalize Wac = Wb at *
    have hS : ∀ w' : World, Below Wb.heap.size Wb w' → w'.cell? ⟨w.heap.size, 0, none⟩ = some (.int .i64 n) ∧ w'.cell? ⟨w.heap.size, 1, none⟩ = some (.int .i64 d) := fun w' hb => ⟨(f_16.below hb f_16.lt).facts.1, (f_16.below hb f_16.lt).facts.2.1⟩
    have hr := Below.refl Wb.heap.size Wb
    go_cut [18, 19] (fun v u wx => FrAt Wb (n) (d) v wx ∧ u = .int .i64 0)
    case first => as_aux_lemma =>
      go_region_held3 (fun w' => w'.cell? ⟨w.heap.size, 0, none⟩ = some (.int .i64 n) ∧ w'.cell? ⟨w.heap.size, 1, none⟩ = some (.int .i64 d))
        (first | exact hS _ hr.drew | exact hS _ (by assumption) | (refine hS _ ?_; (repeat (first | assumption | (refine Below.drew ?_) | (refine Below.setCell ?_ ?_ _) | (refine Below.alloc ?_ ?_ _))); all_goals (first | omega | (simp; omega) | simp)))
        (first
          | (go_at_call 14; have hz := hx1; refine (X6.out _).mono ?_; rintro r x2 ⟨rfl, hx2'⟩;
              have hx12 : Below x1.heap.size x1 x2 := (by first | exact hx2' | exact ((Below.refl x1.heap.size x1).alloc (Nat.le_refl _) _).trans (hx2'.mono (by simp)));
              have hx2 : Below Wb.heap.size Wb x2 := hx1.trans (hx12.mono hx1.size); have z2 := hx12.size;
              (try (refine cutI (p7.below hx12 p7.lt) (fun q7 => ?_); obtain ⟨f1, f2, f3, f4⟩ := q7.facts; have lx := q7.lt));
              (try (refine cutI (two_b3 hx2') (fun q7 => ?_); obtain ⟨f1, f2, f3, f4⟩ := q7.facts; have lx := q7.lt)))
          | (go_at_call 26; refine (of_call _ _ _).mono ?_; rintro r x1 ⟨rfl, hx1'⟩;
              have hx1 : Below Wb.heap.size Wb x1 := (by first | exact hr.drew.trans hx1' | exact (hr.alloc hr.size _).drew.trans (hx1'.mono (by simp)));
              have z1 := hx1.size; (try (refine cutI (two_b1 hx1') (fun p7 => ?_)))))
      all_goals
        go_wp2_with fail
        go_meet
        refine ⟨⟨_, rfl, ⟨?_, ?_⟩, ?_, ?_⟩, rfl⟩
        · go_simp
        · go_simp
        · first | omega | (simp; omega) | simp
        · (repeat (first | assumption | (refine Below.drew ?_) | (refine Below.setCell ?_ ?_ _) | (refine Below.alloc ?_ ?_ _))); all_goals (first | omega | (simp; omega) | simp)
    case rest =>
      obtain ⟨⟨iB, rfl, ic, il, hbc⟩, rfl⟩ := hcut
      obtain ⟨Wbc, rfl⟩ : ∃ x : World, x = wc := ⟨_, rfl⟩
      have K2 := Lib.hid (cell_on hbc K1.out)
      clear K1
      clear hS hr
      have f_17 : Two Wbc (w.heap.size) 23 (.int .i64 (n)) (.int .i64 (d)) := f_16.below hbc f_16.lt
      clear f_16
      have g_17 : Two Wbc (w.heap.size + 1) 23 (.int .i64 (m)) (.int .i64 (e)) := g_16.below hbc g_16.lt
      clear g_16
      have h_17 : Two Wbc (w.heap.size + 1 + 1) 23 (.int .i64 (p)) (.int .i64 (q)) := h_16.below hbc h_16.lt
      clear h_16
      have a_17 : Two Wbc (w5.heap.size) 23 (.int .i64 (an)) (.int .i64 (ad)) := a_16.below hbc a_16.lt
      clear a_16
      have b_17 : Two Wbc (w6.heap.size) 23 (.int .i64 (an)) (.int .i64 (ad)) := b_16.below hbc b_16.lt
      clear b_16
      have c_17 : Two Wbc (w7.heap.size) 23 (.int .i64 (cn)) (.int .i64 (cd)) := c_16.below hbc c_16.lt
      clear c_16
      have o_17 : Two Wbc (w8.heap.size) 23 (.int .i64 (cn)) (.int .i64 (cd)) := o_16.below hbc o_16.lt
      clear o_16
      have hBa17 : Below w.heap.size w Wbc := hBa16.trans (hbc.mono hBa16.size)
      clear hBa16 hbc
      have I2 := Lib.hid (And.intro ic il)
      clear ic il
      go_upto_region 10 with fail
      generalize Wbc = Wd at *
      have hS : ∀ w' : World, Below Wd.heap.size Wd w' → w'.cell? ⟨w5.heap.size, 0, none⟩ = some (.int .i64 an) ∧ w'.cell? ⟨w5.heap.size, 1, none⟩ = some (.int .i64 ad) ∧ w'.cell? ⟨w6.heap.size, 0, none⟩ = some (.int .i64 an) ∧ w'.cell? ⟨w6.heap.size, 1, none⟩ = some (.int .i64 ad) ∧ w'.cell? ⟨w7.heap.size, 0, none⟩ = some (.int .i64 cn) ∧ w'.cell? ⟨w7.heap.size, 1, none⟩ = some (.int .i64 cd) ∧ w'.cell? ⟨w8.heap.size, 0, none⟩ = some (.int .i64 cn) ∧ w'.cell? ⟨w8.heap.size, 1, none⟩ = some (.int .i64 cd) ∧ w'.cell? ⟨w.heap.size, 0, none⟩ = some (.int .i64 n) ∧ w'.cell? ⟨w.heap.size, 1, none⟩ = some (.int .i64 d) ∧ w'.cell? ⟨kB, 0, none⟩ = some (.int .i64 0) ∧ w'.cell? ⟨kB, 1, none⟩ = some (.int .i64 1) ∧ w'.cell? ⟨iB, 0, none⟩ = some (.int .i64 n) ∧ w'.cell? ⟨iB, 1, none⟩ = some (.int .i64 d) := fun w' hb => by
        obtain ⟨a1, a2, -, -⟩ := (a_17.below hb a_17.lt).facts
        obtain ⟨b1, b2, -, -⟩ := (b_17.below hb b_17.lt).facts
        obtain ⟨c1, c2, -, -⟩ := (c_17.below hb c_17.lt).facts
        obtain ⟨o1, o2, -, -⟩ := (o_17.below hb o_17.lt).facts
        obtain ⟨f1, f2, -, -⟩ := (f_17.below hb f_17.lt).facts
        have k1 := (cell_on hb K2.out).1
        have i1 := (cell_on hb I2.out).1
        exact ⟨a1, a2, b1, b2, c1, c2, o1, o2, f1, f2, k1.1, k1.2, i1.1, i1.2⟩
      have hr := Below.refl Wd.heap.size Wd
      go_cut [129] (fun v wx => v = .bool false ∧ Below Wd.heap.size Wd wx)
      case first => as_aux_lemma =>
        go_region_held3 (fun w' => w'.cell? ⟨w5.heap.size, 0, none⟩ = some (.int .i64 an) ∧ w'.cell? ⟨w5.heap.size, 1, none⟩ = some (.int .i64 ad) ∧ w'.cell? ⟨w6.heap.size, 0, none⟩ = some (.int .i64 an) ∧ w'.cell? ⟨w6.heap.size, 1, none⟩ = some (.int .i64 ad) ∧ w'.cell? ⟨w7.heap.size, 0, none⟩ = some (.int .i64 cn) ∧ w'.cell? ⟨w7.heap.size, 1, none⟩ = some (.int .i64 cd) ∧ w'.cell? ⟨w8.heap.size, 0, none⟩ = some (.int .i64 cn) ∧ w'.cell? ⟨w8.heap.size, 1, none⟩ = some (.int .i64 cd) ∧ w'.cell? ⟨w.heap.size, 0, none⟩ = some (.int .i64 n) ∧ w'.cell? ⟨w.heap.size, 1, none⟩ = some (.int .i64 d) ∧ w'.cell? ⟨kB, 0, none⟩ = some (.int .i64 0) ∧ w'.cell? ⟨kB, 1, none⟩ = some (.int .i64 1) ∧ w'.cell? ⟨iB, 0, none⟩ = some (.int .i64 n) ∧ w'.cell? ⟨iB, 1, none⟩ = some (.int .i64 d))
          (first | exact hS _ hr.drew | exact hS _ (by assumption))
          (first | (go_at_call 26; refine (of_call _ _ _).mono ?_; rintro r x1 ⟨rfl, hx1'⟩; have hx1 : Below Wd.heap.size Wd x1 := hr.drew.trans hx1'))
        go_wp2_with fail
        go_meet
        exact ⟨rfl, hx1⟩
      case rest =>
        obtain ⟨rfl, hbc⟩ := hcut
        obtain ⟨We, rfl⟩ : ∃ x : World, x = wc := ⟨_, rfl⟩
        clear hS hr K2 I2
        have f_18 : Two We (w.heap.size) 23 (.int .i64 (n)) (.int .i64 (d)) := f_17.below hbc f_17.lt
        clear f_17
        have g_18 : Two We (w.heap.size + 1) 23 (.int .i64 (m)) (.int .i64 (e)) := g_17.below hbc g_17.lt
        clear g_17
        have h_18 : Two We (w.heap.size + 1 + 1) 23 (.int .i64 (p)) (.int .i64 (q)) := h_17.below hbc h_17.lt
        clear h_17
        have a_18 : Two We (w5.heap.size) 23 (.int .i64 (an)) (.int .i64 (ad)) := a_17.below hbc a_17.lt
        clear a_17
        have b_18 : Two We (w6.heap.size) 23 (.int .i64 (an)) (.int .i64 (ad)) := b_17.below hbc b_17.lt
        clear b_17
        have c_18 : Two We (w7.heap.size) 23 (.int .i64 (cn)) (.int .i64 (cd)) := c_17.below hbc c_17.lt
        clear c_17
        have o_18 : Two We (w8.heap.size) 23 (.int .i64 (cn)) (.int .i64 (cd)) := o_17.below hbc o_17.lt
        clear o_17
        have hBa18 : Below w.heap.size w We := hBa17.trans (hbc.mono hBa17.size)
        clear hBa17 hbc
        obtain ⟨gf0, gf1, gf2, gf3⟩ := g_18.facts
        obtain ⟨hf0, hf1, hf2, hf3⟩ := h_18.facts
        go_wp2_with fail
        refine (X7.out _).mono ?_
        rintro r w9 ⟨rfl, hbc⟩
        clear gf0
        clear gf1
        clear gf2
        clear gf3
        clear hf0
        clear hf1
        clear hf2
        clear hf3
        have f_19 : Two w9 (w.heap.size) 23 (.int .i64 (n)) (.int .i64 (d)) := f_18.below hbc f_18.lt
        clear f_18
        have g_19 : Two w9 (w.heap.size + 1) 23 (.int .i64 (m)) (.int .i64 (e)) := g_18.below hbc g_18.lt
        clear g_18
        have h_19 : Two w9 (w.heap.size + 1 + 1) 23 (.int .i64 (p)) (.int .i64 (q)) := h_18.below hbc h_18.lt
        clear h_18
        have a_19 : Two w9 (w5.heap.size) 23 (.int .i64 (an)) (.int .i64 (ad)) := a_18.below hbc a_18.lt
        clear a_18
        have b_19 : Two w9 (w6.heap.size) 23 (.int .i64 (an)) (.int .i64 (ad)) := b_18.below hbc b_18.lt
        clear b_18
        have c_19 : Two w9 (w7.heap.size) 23 (.int .i64 (cn)) (.int .i64 (cd)) := c_18.below hbc c_18.lt
        clear c_18
        have o_19 : Two w9 (w8.heap.size) 23 (.int .i64 (cn)) (.int .i64 (cd)) := o_18.below hbc o_18.lt
        clear o_18
        have hBa19 : Below w.heap.size w w9 := hBa18.trans (hbc.mono hBa18.size)
        clear hBa18 hbc
        have f_20 : Two (w9.alloc (.cells #[.int .i64 (sn), .int .i64 (sd)] 23)) (w.heap.size) 23 (.int .i64 (n)) (.int .i64 (d)) := f_19.alloc _
        clear f_19
        have g_20 : Two (w9.alloc (.cells #[.int .i64 (sn), .int .i64 (sd)] 23)) (w.heap.size + 1) 23 (.int .i64 (m)) (.int .i64 (e)) := g_19.alloc _
        clear g_19
        have h_20 : Two (w9.alloc (.cells #[.int .i64 (sn), .int .i64 (sd)] 23)) (w.heap.size + 1 + 1) 23 (.int .i64 (p)) (.int .i64 (q)) := h_19.alloc _
        clear h_19
        have a_20 : Two (w9.alloc (.cells #[.int .i64 (sn), .int .i64 (sd)] 23)) (w5.heap.size) 23 (.int .i64 (an)) (.int .i64 (ad)) := a_19.alloc _
        clear a_19
        have b_20 : Two (w9.alloc (.cells #[.int .i64 (sn), .int .i64 (sd)] 23)) (w6.heap.size) 23 (.int .i64 (an)) (.int .i64 (ad)) := b_19.alloc _
        clear b_19
        have c_20 : Two (w9.alloc (.cells #[.int .i64 (sn), .int .i64 (sd)] 23)) (w7.heap.size) 23 (.int .i64 (cn)) (.int .i64 (cd)) := c_19.alloc _
        clear c_19
        have o_20 : Two (w9.alloc (.cells #[.int .i64 (sn), .int .i64 (sd)] 23)) (w8.heap.size) 23 (.int .i64 (cn)) (.int .i64 (cd)) := o_19.alloc _
        clear o_19
        have s_20 : Two (w9.alloc (.cells #[.int .i64 (sn), .int .i64 (sd)] 23)) (w9.heap.size) 23 (.int .i64 (sn)) (.int .i64 (sd)) := Two.at (by simp) _ _ _
        have hBa20 : Below w.heap.size w (w9.alloc (.cells #[.int .i64 (sn), .int .i64 (sd)] 23)) := hBa19.alloc hBa19.size _
        clear hBa19
        obtain ⟨gf0, gf1, gf2, gf3⟩ := g_20.facts
        obtain ⟨hf0, hf1, hf2, hf3⟩ := h_20.facts
        go_wp2_with fail
        refine (X8.out _).mono ?_
        rintro r w10 ⟨rfl, hbc⟩
        clear gf0
        clear gf1
        clear gf2
        clear gf3
        clear hf0
        clear hf1
        clear hf2
        clear hf3
        have f_21 : Two w10 (w.heap.size) 23 (.int .i64 (n)) (.int .i64 (d)) := f_20.below hbc f_20.lt
        clear f_20
        have g_21 : Two w10 (w.heap.size + 1) 23 (.int .i64 (m)) (.int .i64 (e)) := g_20.below hbc g_20.lt
        clear g_20
        have h_21 : Two w10 (w.heap.size + 1 + 1) 23 (.int .i64 (p)) (.int .i64 (q)) := h_20.below hbc h_20.lt
        clear h_20
        have a_21 : Two w10 (w5.heap.size) 23 (.int .i64 (an)) (.int .i64 (ad)) := a_20.below hbc a_20.lt
        clear a_20
        have b_21 : Two w10 (w6.heap.size) 23 (.int .i64 (an)) (.int .i64 (ad)) := b_20.below hbc b_20.lt
        clear b_20
        have c_21 : Two w10 (w7.heap.size) 23 (.int .i64 (cn)) (.int .i64 (cd)) := c_20.below hbc c_20.lt
        clear c_20
        have o_21 : Two w10 (w8.heap.size) 23 (.int .i64 (cn)) (.int .i64 (cd)) := o_20.below hbc o_20.lt
        clear o_20
        have s_21 : Two w10 (w9.heap.size) 23 (.int .i64 (sn)) (.int .i64 (sd)) := s_20.below hbc s_20.lt
        clear s_20
        have hBa21 : Below w.heap.size w w10 := hBa20.trans (hbc.mono hBa20.size)
        clear hBa20 hbc
        have f_22 : Two (w10.alloc (.cells #[.int .i64 (tn), .int .i64 (td)] 23)) (w.heap.size) 23 (.int .i64 (n)) (.int .i64 (d)) := f_21.alloc _
        clear f_21
        have g_22 : Two (w10.alloc (.cells #[.int .i64 (tn), .int .i64 (td)] 23)) (w.heap.size + 1) 23 (.int .i64 (m)) (.int .i64 (e)) := g_21.alloc _
        clear g_21
        have h_22 : Two (w10.alloc (.cells #[.int .i64 (tn), .int .i64 (td)] 23)) (w.heap.size + 1 + 1) 23 (.int .i64 (p)) (.int .i64 (q)) := h_21.alloc _
        clear h_21
        have a_22 : Two (w10.alloc (.cells #[.int .i64 (tn), .int .i64 (td)] 23)) (w5.heap.size) 23 (.int .i64 (an)) (.int .i64 (ad)) := a_21.alloc _
        clear a_21
        have b_22 : Two (w10.alloc (.cells #[.int .i64 (tn), .int .i64 (td)] 23)) (w6.heap.size) 23 (.int .i64 (an)) (.int .i64 (ad)) := b_21.alloc _
        clear b_21
        have c_22 : Two (w10.alloc (.cells #[.int .i64 (tn), .int .i64 (td)] 23)) (w7.heap.size) 23 (.int .i64 (cn)) (.int .i64 (cd)) := c_21.alloc _
        clear c_21
        have o_22 : Two (w10.alloc (.cells #[.int .i64 (tn), .int .i64 (td)] 23)) (w8.heap.size) 23 (.int .i64 (cn)) (.int .i64 (cd)) := o_21.alloc _
        clear o_21
        have s_22 : Two (w10.alloc (.cells #[.int .i64 (tn), .int .i64 (td)] 23)) (w9.heap.size) 23 (.int .i64 (sn)) (.int .i64 (sd)) := s_21.alloc _
        clear s_21
        have t_22 : Two (w10.alloc (.cells #[.int .i64 (tn), .int .i64 (td)] 23)) (w10.heap.size) 23 (.int .i64 (tn)) (.int .i64 (td)) := Two.at (by simp) _ _ _
        have hBa22 : Below w.heap.size w (w10.alloc (.cells #[.int .i64 (tn), .int .i64 (td)] 23)) := hBa21.alloc hBa21.size _
        clear hBa21
        go_upto_region 14 with fail
        generalize (w10.alloc (.cells #[.int .i64 (tn), .int .i64 (td)] 23)) = Wf at *
        obtain ⟨BWf, hBWf⟩ := zc ae se
        go_cut [147] (fun v wx => v = .bool BWf ∧ Wf = wx)
        case first => as_aux_lemma =>
          rcases hBWf with ⟨rfl, rfl, rfl⟩ | ⟨rfl, h1 | ⟨rfl, h1⟩⟩
          all_goals
            go_wp2_with fail
            go_meet
            exact ⟨rfl, rfl⟩
        case rest =>
          obtain ⟨rfl, rfl⟩ := hcut
          go_upto_if 147 with fail
          go_cut [] (fun wx => Below Wf.heap.size Wf wx)
          case first => as_aux_lemma =>
            have hB0 : Below Wf.heap.size Wf Wf := Below.refl Wf.heap.size Wf
            rcases hBWf with ⟨rfl, rfl, rfl⟩ | ⟨rfl, h1⟩
            · skip
              obtain ⟨rfl, rfl, rfl⟩ := A1.out rfl rfl
              obtain ⟨af0, af1, af2, af3⟩ := a_22.facts
              obtain ⟨hf0, hf1, hf2, hf3⟩ := h_22.facts
              go_wp2_with fail
              refine (X9.out _).mono ?_
              rintro r Wf1 ⟨rfl, hbc⟩
              clear af0
              clear af1
              clear af2
              clear af3
              clear hf0
              clear hf1
              clear hf2
              clear hf3
              have f_1 : Two Wf1 (w.heap.size) 23 (.int .i64 (n)) (.int .i64 (d)) := f_22.below hbc f_22.lt
              clear f_22
              have g_1 : Two Wf1 (w.heap.size + 1) 23 (.int .i64 (m)) (.int .i64 (e)) := g_22.below hbc g_22.lt
              clear g_22
              have h_1 : Two Wf1 (w.heap.size + 1 + 1) 23 (.int .i64 (p)) (.int .i64 (q)) := h_22.below hbc h_22.lt
              clear h_22
              have a_1 : Two Wf1 (w5.heap.size) 23 (.int .i64 (an)) (.int .i64 (ad)) := a_22.below hbc a_22.lt
              clear a_22
              have b_1 : Two Wf1 (w6.heap.size) 23 (.int .i64 (an)) (.int .i64 (ad)) := b_22.below hbc b_22.lt
              clear b_22
              have c_1 : Two Wf1 (w7.heap.size) 23 (.int .i64 (cn)) (.int .i64 (cd)) := c_22.below hbc c_22.lt
              clear c_22
              have o_1 : Two Wf1 (w8.heap.size) 23 (.int .i64 (cn)) (.int .i64 (cd)) := o_22.below hbc o_22.lt
              clear o_22
              have s_1 : Two Wf1 (w9.heap.size) 23 (.int .i64 (sn)) (.int .i64 (sd)) := s_22.below hbc s_22.lt
              clear s_22
              have t_1 : Two Wf1 (w10.heap.size) 23 (.int .i64 (tn)) (.int .i64 (td)) := t_22.below hbc t_22.lt
              clear t_22
              have hBa1 : Below Wf.heap.size Wf Wf1 := hB0.trans (hbc.mono hB0.size)
              clear hB0 hbc
              have f_2 : Two (Wf1.alloc (.cells #[.int .i64 (yn), .int .i64 (yd)] 23)) (w.heap.size) 23 (.int .i64 (n)) (.int .i64 (d)) := f_1.alloc _
              clear f_1
              have g_2 : Two (Wf1.alloc (.cells #[.int .i64 (yn), .int .i64 (yd)] 23)) (w.heap.size + 1) 23 (.int .i64 (m)) (.int .i64 (e)) := g_1.alloc _
              clear g_1
              have h_2 : Two (Wf1.alloc (.cells #[.int .i64 (yn), .int .i64 (yd)] 23)) (w.heap.size + 1 + 1) 23 (.int .i64 (p)) (.int .i64 (q)) := h_1.alloc _
              clear h_1
              have a_2 : Two (Wf1.alloc (.cells #[.int .i64 (yn), .int .i64 (yd)] 23)) (w5.heap.size) 23 (.int .i64 (an)) (.int .i64 (ad)) := a_1.alloc _
              clear a_1
              have b_2 : Two (Wf1.alloc (.cells #[.int .i64 (yn), .int .i64 (yd)] 23)) (w6.heap.size) 23 (.int .i64 (an)) (.int .i64 (ad)) := b_1.alloc _
              clear b_1
              have c_2 : Two (Wf1.alloc (.cells #[.int .i64 (yn), .int .i64 (yd)] 23)) (w7.heap.size) 23 (.int .i64 (cn)) (.int .i64 (cd)) := c_1.alloc _
              clear c_1
              have o_2 : Two (Wf1.alloc (.cells #[.int .i64 (yn), .int .i64 (yd)] 23)) (w8.heap.size) 23 (.int .i64 (cn)) (.int .i64 (cd)) := o_1.alloc _
              clear o_1
              have s_2 : Two (Wf1.alloc (.cells #[.int .i64 (yn), .int .i64 (yd)] 23)) (w9.heap.size) 23 (.int .i64 (sn)) (.int .i64 (sd)) := s_1.alloc _
              clear s_1
              have t_2 : Two (Wf1.alloc (.cells #[.int .i64 (yn), .int .i64 (yd)] 23)) (w10.heap.size) 23 (.int .i64 (tn)) (.int .i64 (td)) := t_1.alloc _
              clear t_1
              have x1_2 : Two (Wf1.alloc (.cells #[.int .i64 (yn), .int .i64 (yd)] 23)) (Wf1.heap.size) 23 (.int .i64 (yn)) (.int .i64 (yd)) := Two.at (by simp) _ _ _
              have hBa2 : Below Wf.heap.size Wf (Wf1.alloc (.cells #[.int .i64 (yn), .int .i64 (yd)] 23)) := hBa1.alloc hBa1.size _
              clear hBa1
              obtain ⟨ff0, ff1, ff2, ff3⟩ := f_2.facts
              obtain ⟨sf0, sf1, sf2, sf3⟩ := s_2.facts
              go_wp2_with fail
              refine (X10.out _).mono ?_
              rintro r Wf2 ⟨rfl, hbc⟩
              clear ff0
              clear ff1
              clear ff2
              clear ff3
              clear sf0
              clear sf1
              clear sf2
              clear sf3
              have f_3 : Two Wf2 (w.heap.size) 23 (.int .i64 (n)) (.int .i64 (d)) := f_2.below hbc f_2.lt
              clear f_2
              have g_3 : Two Wf2 (w.heap.size + 1) 23 (.int .i64 (m)) (.int .i64 (e)) := g_2.below hbc g_2.lt
              clear g_2
              have h_3 : Two Wf2 (w.heap.size + 1 + 1) 23 (.int .i64 (p)) (.int .i64 (q)) := h_2.below hbc h_2.lt
              clear h_2
              have a_3 : Two Wf2 (w5.heap.size) 23 (.int .i64 (an)) (.int .i64 (ad)) := a_2.below hbc a_2.lt
              clear a_2
              have b_3 : Two Wf2 (w6.heap.size) 23 (.int .i64 (an)) (.int .i64 (ad)) := b_2.below hbc b_2.lt
              clear b_2
              have c_3 : Two Wf2 (w7.heap.size) 23 (.int .i64 (cn)) (.int .i64 (cd)) := c_2.below hbc c_2.lt
              clear c_2
              have o_3 : Two Wf2 (w8.heap.size) 23 (.int .i64 (cn)) (.int .i64 (cd)) := o_2.below hbc o_2.lt
              clear o_2
              have s_3 : Two Wf2 (w9.heap.size) 23 (.int .i64 (sn)) (.int .i64 (sd)) := s_2.below hbc s_2.lt
              clear s_2
              have t_3 : Two Wf2 (w10.heap.size) 23 (.int .i64 (tn)) (.int .i64 (td)) := t_2.below hbc t_2.lt
              clear t_2
              have x1_3 : Two Wf2 (Wf1.heap.size) 23 (.int .i64 (yn)) (.int .i64 (yd)) := x1_2.below hbc x1_2.lt
              clear x1_2
              have hBa3 : Below Wf.heap.size Wf Wf2 := hBa2.trans (hbc.mono hBa2.size)
              clear hBa2 hbc
              have f_4 : Two (Wf2.alloc (.cells #[.int .i64 (yn), .int .i64 (yd)] 23)) (w.heap.size) 23 (.int .i64 (n)) (.int .i64 (d)) := f_3.alloc _
              clear f_3
              have g_4 : Two (Wf2.alloc (.cells #[.int .i64 (yn), .int .i64 (yd)] 23)) (w.heap.size + 1) 23 (.int .i64 (m)) (.int .i64 (e)) := g_3.alloc _
              clear g_3
              have h_4 : Two (Wf2.alloc (.cells #[.int .i64 (yn), .int .i64 (yd)] 23)) (w.heap.size + 1 + 1) 23 (.int .i64 (p)) (.int .i64 (q)) := h_3.alloc _
              clear h_3
              have a_4 : Two (Wf2.alloc (.cells #[.int .i64 (yn), .int .i64 (yd)] 23)) (w5.heap.size) 23 (.int .i64 (an)) (.int .i64 (ad)) := a_3.alloc _
              clear a_3
              have b_4 : Two (Wf2.alloc (.cells #[.int .i64 (yn), .int .i64 (yd)] 23)) (w6.heap.size) 23 (.int .i64 (an)) (.int .i64 (ad)) := b_3.alloc _
              clear b_3
              have c_4 : Two (Wf2.alloc (.cells #[.int .i64 (yn), .int .i64 (yd)] 23)) (w7.heap.size) 23 (.int .i64 (cn)) (.int .i64 (cd)) := c_3.alloc _
              clear c_3
              have o_4 : Two (Wf2.alloc (.cells #[.int .i64 (yn), .int .i64 (yd)] 23)) (w8.heap.size) 23 (.int .i64 (cn)) (.int .i64 (cd)) := o_3.alloc _
              clear o_3
              have s_4 : Two (Wf2.alloc (.cells #[.int .i64 (yn), .int .i64 (yd)] 23)) (w9.heap.size) 23 (.int .i64 (sn)) (.int .i64 (sd)) := s_3.alloc _
              clear s_3
              have t_4 : Two (Wf2.alloc (.cells #[.int .i64 (yn), .int .i64 (yd)] 23)) (w10.heap.size) 23 (.int .i64 (tn)) (.int .i64 (td)) := t_3.alloc _
              clear t_3
              have x1_4 : Two (Wf2.alloc (.cells #[.int .i64 (yn), .int .i64 (yd)] 23)) (Wf1.heap.size) 23 (.int .i64 (yn)) (.int .i64 (yd)) := x1_3.alloc _
              clear x1_3
              have x2_4 : Two (Wf2.alloc (.cells #[.int .i64 (yn), .int .i64 (yd)] 23)) (Wf2.heap.size) 23 (.int .i64 (yn)) (.int .i64 (yd)) := Two.at (by simp) _ _ _
              have hBa4 : Below Wf.heap.size Wf (Wf2.alloc (.cells #[.int .i64 (yn), .int .i64 (yd)] 23)) := hBa3.alloc hBa3.size _
              clear hBa3
              obtain ⟨x1f0, x1f1, x1f2, x1f3⟩ := x1_4.facts
              obtain ⟨x2f0, x2f1, x2f2, x2f3⟩ := x2_4.facts
              go_wp2_with fail
              go_meet
              exact hBa4
            · skip
              clear h1
              go_wp2_with fail
              go_meet
              exact hB0
          case rest =>
            clear hBWf
            have hbc := hcut
            clear hcut
            obtain ⟨Wg, rfl⟩ : ∃ x : World, x = wc := ⟨_, rfl⟩
            have f_23 : Two Wg (w.heap.size) 23 (.int .i64 (n)) (.int .i64 (d)) := f_22.below hbc f_22.lt
            clear f_22
            have g_23 : Two Wg (w.heap.size + 1) 23 (.int .i64 (m)) (.int .i64 (e)) := g_22.below hbc g_22.lt
            clear g_22
            have h_23 : Two Wg (w.heap.size + 1 + 1) 23 (.int .i64 (p)) (.int .i64 (q)) := h_22.below hbc h_22.lt
            clear h_22
            have a_23 : Two Wg (w5.heap.size) 23 (.int .i64 (an)) (.int .i64 (ad)) := a_22.below hbc a_22.lt
            clear a_22
            have b_23 : Two Wg (w6.heap.size) 23 (.int .i64 (an)) (.int .i64 (ad)) := b_22.below hbc b_22.lt
            clear b_22
            have c_23 : Two Wg (w7.heap.size) 23 (.int .i64 (cn)) (.int .i64 (cd)) := c_22.below hbc c_22.lt
            clear c_22
            have o_23 : Two Wg (w8.heap.size) 23 (.int .i64 (cn)) (.int .i64 (cd)) := o_22.below hbc o_22.lt
            clear o_22
            have s_23 : Two Wg (w9.heap.size) 23 (.int .i64 (sn)) (.int .i64 (sd)) := s_22.below hbc s_22.lt
            clear s_22
            have t_23 : Two Wg (w10.heap.size) 23 (.int .i64 (tn)) (.int .i64 (td)) := t_22.below hbc t_22.lt
            clear t_22
            have hBa23 : Below w.heap.size w Wg := hBa22.trans (hbc.mono hBa22.size)
            clear hBa22 hbc
            go_upto_region 19 with fail
            generalize Wg = Wh at *
            obtain ⟨BWh, hBWh⟩ := zc ce te
            go_cut [173] (fun v wx => v = .bool BWh ∧ Wh = wx)
            case first => as_aux_lemma =>
              rcases hBWh with ⟨rfl, rfl, rfl⟩ | ⟨rfl, h1 | ⟨rfl, h1⟩⟩
              all_goals
                go_wp2_with fail
                go_meet
                exact ⟨rfl, rfl⟩
            case rest =>
              obtain ⟨rfl, rfl⟩ := hcut
              go_upto_if 173 with fail
              go_cut [] (fun wx => Below Wh.heap.size Wh wx)
              case first => as_aux_lemma =>
                have hB0 : Below Wh.heap.size Wh Wh := Below.refl Wh.heap.size Wh
                rcases hBWh with ⟨rfl, rfl, rfl⟩ | ⟨rfl, h1⟩
                · skip
                  obtain ⟨rfl, rfl, rfl⟩ := A2.out rfl rfl
                  obtain ⟨cf0, cf1, cf2, cf3⟩ := c_23.facts
                  obtain ⟨hf0, hf1, hf2, hf3⟩ := h_23.facts
                  go_wp2_with fail
                  refine (X11.out _).mono ?_
                  rintro r Wh1 ⟨rfl, hbc⟩
                  clear cf0
                  clear cf1
                  clear cf2
                  clear cf3
                  clear hf0
                  clear hf1
                  clear hf2
                  clear hf3
                  have f_1 : Two Wh1 (w.heap.size) 23 (.int .i64 (n)) (.int .i64 (d)) := f_23.below hbc f_23.lt
                  clear f_23
                  have g_1 : Two Wh1 (w.heap.size + 1) 23 (.int .i64 (m)) (.int .i64 (e)) := g_23.below hbc g_23.lt
                  clear g_23
                  have h_1 : Two Wh1 (w.heap.size + 1 + 1) 23 (.int .i64 (p)) (.int .i64 (q)) := h_23.below hbc h_23.lt
                  clear h_23
                  have a_1 : Two Wh1 (w5.heap.size) 23 (.int .i64 (an)) (.int .i64 (ad)) := a_23.below hbc a_23.lt
                  clear a_23
                  have b_1 : Two Wh1 (w6.heap.size) 23 (.int .i64 (an)) (.int .i64 (ad)) := b_23.below hbc b_23.lt
                  clear b_23
                  have c_1 : Two Wh1 (w7.heap.size) 23 (.int .i64 (cn)) (.int .i64 (cd)) := c_23.below hbc c_23.lt
                  clear c_23
                  have o_1 : Two Wh1 (w8.heap.size) 23 (.int .i64 (cn)) (.int .i64 (cd)) := o_23.below hbc o_23.lt
                  clear o_23
                  have s_1 : Two Wh1 (w9.heap.size) 23 (.int .i64 (sn)) (.int .i64 (sd)) := s_23.below hbc s_23.lt
                  clear s_23
                  have t_1 : Two Wh1 (w10.heap.size) 23 (.int .i64 (tn)) (.int .i64 (td)) := t_23.below hbc t_23.lt
                  clear t_23
                  have hBa1 : Below Wh.heap.size Wh Wh1 := hB0.trans (hbc.mono hB0.size)
                  clear hB0 hbc
                  have f_2 : Two (Wh1.alloc (.cells #[.int .i64 (vn), .int .i64 (vd)] 23)) (w.heap.size) 23 (.int .i64 (n)) (.int .i64 (d)) := f_1.alloc _
                  clear f_1
                  have g_2 : Two (Wh1.alloc (.cells #[.int .i64 (vn), .int .i64 (vd)] 23)) (w.heap.size + 1) 23 (.int .i64 (m)) (.int .i64 (e)) := g_1.alloc _
                  clear g_1
                  have h_2 : Two (Wh1.alloc (.cells #[.int .i64 (vn), .int .i64 (vd)] 23)) (w.heap.size + 1 + 1) 23 (.int .i64 (p)) (.int .i64 (q)) := h_1.alloc _
                  clear h_1
                  have a_2 : Two (Wh1.alloc (.cells #[.int .i64 (vn), .int .i64 (vd)] 23)) (w5.heap.size) 23 (.int .i64 (an)) (.int .i64 (ad)) := a_1.alloc _
                  clear a_1
                  have b_2 : Two (Wh1.alloc (.cells #[.int .i64 (vn), .int .i64 (vd)] 23)) (w6.heap.size) 23 (.int .i64 (an)) (.int .i64 (ad)) := b_1.alloc _
                  clear b_1
                  have c_2 : Two (Wh1.alloc (.cells #[.int .i64 (vn), .int .i64 (vd)] 23)) (w7.heap.size) 23 (.int .i64 (cn)) (.int .i64 (cd)) := c_1.alloc _
                  clear c_1
                  have o_2 : Two (Wh1.alloc (.cells #[.int .i64 (vn), .int .i64 (vd)] 23)) (w8.heap.size) 23 (.int .i64 (cn)) (.int .i64 (cd)) := o_1.alloc _
                  clear o_1
                  have s_2 : Two (Wh1.alloc (.cells #[.int .i64 (vn), .int .i64 (vd)] 23)) (w9.heap.size) 23 (.int .i64 (sn)) (.int .i64 (sd)) := s_1.alloc _
                  clear s_1
                  have t_2 : Two (Wh1.alloc (.cells #[.int .i64 (vn), .int .i64 (vd)] 23)) (w10.heap.size) 23 (.int .i64 (tn)) (.int .i64 (td)) := t_1.alloc _
                  clear t_1
                  have x1_2 : Two (Wh1.alloc (.cells #[.int .i64 (vn), .int .i64 (vd)] 23)) (Wh1.heap.size) 23 (.int .i64 (vn)) (.int .i64 (vd)) := Two.at (by simp) _ _ _
                  have hBa2 : Below Wh.heap.size Wh (Wh1.alloc (.cells #[.int .i64 (vn), .int .i64 (vd)] 23)) := hBa1.alloc hBa1.size _
                  clear hBa1
                  obtain ⟨ff0, ff1, ff2, ff3⟩ := f_2.facts
                  obtain ⟨tf0, tf1, tf2, tf3⟩ := t_2.facts
                  go_wp2_with fail
                  refine (X12.out _).mono ?_
                  rintro r Wh2 ⟨rfl, hbc⟩
                  clear ff0
                  clear ff1
                  clear ff2
                  clear ff3
                  clear tf0
                  clear tf1
                  clear tf2
                  clear tf3
                  have f_3 : Two Wh2 (w.heap.size) 23 (.int .i64 (n)) (.int .i64 (d)) := f_2.below hbc f_2.lt
                  clear f_2
                  have g_3 : Two Wh2 (w.heap.size + 1) 23 (.int .i64 (m)) (.int .i64 (e)) := g_2.below hbc g_2.lt
                  clear g_2
                  have h_3 : Two Wh2 (w.heap.size + 1 + 1) 23 (.int .i64 (p)) (.int .i64 (q)) := h_2.below hbc h_2.lt
                  clear h_2
                  have a_3 : Two Wh2 (w5.heap.size) 23 (.int .i64 (an)) (.int .i64 (ad)) := a_2.below hbc a_2.lt
                  clear a_2
                  have b_3 : Two Wh2 (w6.heap.size) 23 (.int .i64 (an)) (.int .i64 (ad)) := b_2.below hbc b_2.lt
                  clear b_2
                  have c_3 : Two Wh2 (w7.heap.size) 23 (.int .i64 (cn)) (.int .i64 (cd)) := c_2.below hbc c_2.lt
                  clear c_2
                  have o_3 : Two Wh2 (w8.heap.size) 23 (.int .i64 (cn)) (.int .i64 (cd)) := o_2.below hbc o_2.lt
                  clear o_2
                  have s_3 : Two Wh2 (w9.heap.size) 23 (.int .i64 (sn)) (.int .i64 (sd)) := s_2.below hbc s_2.lt
                  clear s_2
                  have t_3 : Two Wh2 (w10.heap.size) 23 (.int .i64 (tn)) (.int .i64 (td)) := t_2.below hbc t_2.lt
                  clear t_2
                  have x1_3 : Two Wh2 (Wh1.heap.size) 23 (.int .i64 (vn)) (.int .i64 (vd)) := x1_2.below hbc x1_2.lt
                  clear x1_2
                  have hBa3 : Below Wh.heap.size Wh Wh2 := hBa2.trans (hbc.mono hBa2.size)
                  clear hBa2 hbc
                  have f_4 : Two (Wh2.alloc (.cells #[.int .i64 (vn), .int .i64 (vd)] 23)) (w.heap.size) 23 (.int .i64 (n)) (.int .i64 (d)) := f_3.alloc _
                  clear f_3
                  have g_4 : Two (Wh2.alloc (.cells #[.int .i64 (vn), .int .i64 (vd)] 23)) (w.heap.size + 1) 23 (.int .i64 (m)) (.int .i64 (e)) := g_3.alloc _
                  clear g_3
                  have h_4 : Two (Wh2.alloc (.cells #[.int .i64 (vn), .int .i64 (vd)] 23)) (w.heap.size + 1 + 1) 23 (.int .i64 (p)) (.int .i64 (q)) := h_3.alloc _
                  clear h_3
                  have a_4 : Two (Wh2.alloc (.cells #[.int .i64 (vn), .int .i64 (vd)] 23)) (w5.heap.size) 23 (.int .i64 (an)) (.int .i64 (ad)) := a_3.alloc _
                  clear a_3
                  have b_4 : Two (Wh2.alloc (.cells #[.int .i64 (vn), .int .i64 (vd)] 23)) (w6.heap.size) 23 (.int .i64 (an)) (.int .i64 (ad)) := b_3.alloc _
                  clear b_3
                  have c_4 : Two (Wh2.alloc (.cells #[.int .i64 (vn), .int .i64 (vd)] 23)) (w7.heap.size) 23 (.int .i64 (cn)) (.int .i64 (cd)) := c_3.alloc _
                  clear c_3
                  have o_4 : Two (Wh2.alloc (.cells #[.int .i64 (vn), .int .i64 (vd)] 23)) (w8.heap.size) 23 (.int .i64 (cn)) (.int .i64 (cd)) := o_3.alloc _
                  clear o_3
                  have s_4 : Two (Wh2.alloc (.cells #[.int .i64 (vn), .int .i64 (vd)] 23)) (w9.heap.size) 23 (.int .i64 (sn)) (.int .i64 (sd)) := s_3.alloc _
                  clear s_3
                  have t_4 : Two (Wh2.alloc (.cells #[.int .i64 (vn), .int .i64 (vd)] 23)) (w10.heap.size) 23 (.int .i64 (tn)) (.int .i64 (td)) := t_3.alloc _
                  clear t_3
                  have x1_4 : Two (Wh2.alloc (.cells #[.int .i64 (vn), .int .i64 (vd)] 23)) (Wh1.heap.size) 23 (.int .i64 (vn)) (.int .i64 (vd)) := x1_3.alloc _
                  clear x1_3
                  have x2_4 : Two (Wh2.alloc (.cells #[.int .i64 (vn), .int .i64 (vd)] 23)) (Wh2.heap.size) 23 (.int .i64 (vn)) (.int .i64 (vd)) := Two.at (by simp) _ _ _
                  have hBa4 : Below Wh.heap.size Wh (Wh2.alloc (.cells #[.int .i64 (vn), .int .i64 (vd)] 23)) := hBa3.alloc hBa3.size _
                  clear hBa3
                  obtain ⟨x1f0, x1f1, x1f2, x1f3⟩ := x1_4.facts
                  obtain ⟨x2f0, x2f1, x2f2, x2f3⟩ := x2_4.facts
                  go_wp2_with fail
                  go_meet
                  exact hBa4
                · skip
                  clear h1
                  go_wp2_with fail
                  go_meet
                  exact hB0
              case rest =>
                clear hBWh
                have hbc := hcut
                clear hcut
                obtain ⟨Wi, rfl⟩ : ∃ x : World, x = wc := ⟨_, rfl⟩
                have f_24 : Two Wi (w.heap.size) 23 (.int .i64 (n)) (.int .i64 (d)) := f_23.below hbc f_23.lt
                clear f_23
                have g_24 : Two Wi (w.heap.size + 1) 23 (.int .i64 (m)) (.int .i64 (e)) := g_23.below hbc g_23.lt
                clear g_23
                have h_24 : Two Wi (w.heap.size + 1 + 1) 23 (.int .i64 (p)) (.int .i64 (q)) := h_23.below hbc h_23.lt
                clear h_23
                have a_24 : Two Wi (w5.heap.size) 23 (.int .i64 (an)) (.int .i64 (ad)) := a_23.below hbc a_23.lt
                clear a_23
                have b_24 : Two Wi (w6.heap.size) 23 (.int .i64 (an)) (.int .i64 (ad)) := b_23.below hbc b_23.lt
                clear b_23
                have c_24 : Two Wi (w7.heap.size) 23 (.int .i64 (cn)) (.int .i64 (cd)) := c_23.below hbc c_23.lt
                clear c_23
                have o_24 : Two Wi (w8.heap.size) 23 (.int .i64 (cn)) (.int .i64 (cd)) := o_23.below hbc o_23.lt
                clear o_23
                have s_24 : Two Wi (w9.heap.size) 23 (.int .i64 (sn)) (.int .i64 (sd)) := s_23.below hbc s_23.lt
                clear s_23
                have t_24 : Two Wi (w10.heap.size) 23 (.int .i64 (tn)) (.int .i64 (td)) := t_23.below hbc t_23.lt
                clear t_23
                have hBa24 : Below w.heap.size w Wi := hBa23.trans (hbc.mono hBa23.size)
                clear hBa23 hbc
                obtain ⟨ff0, ff1, ff2, ff3⟩ := f_24.facts
                obtain ⟨hf0, hf1, hf2, hf3⟩ := h_24.facts
                go_wp2_with fail
                refine (X13.out _).mono ?_
                rintro r w11 ⟨rfl, hbc⟩
                clear ff0
                clear ff1
                clear ff2
                clear ff3
                clear hf0
                clear hf1
                clear hf2
                clear hf3
                have f_25 : Two w11 (w.heap.size) 23 (.int .i64 (n)) (.int .i64 (d)) := f_24.below hbc f_24.lt
                clear f_24
                have g_25 : Two w11 (w.heap.size + 1) 23 (.int .i64 (m)) (.int .i64 (e)) := g_24.below hbc g_24.lt
                clear g_24
                have h_25 : Two w11 (w.heap.size + 1 + 1) 23 (.int .i64 (p)) (.int .i64 (q)) := h_24.below hbc h_24.lt
                clear h_24
                have a_25 : Two w11 (w5.heap.size) 23 (.int .i64 (an)) (.int .i64 (ad)) := a_24.below hbc a_24.lt
                clear a_24
                have b_25 : Two w11 (w6.heap.size) 23 (.int .i64 (an)) (.int .i64 (ad)) := b_24.below hbc b_24.lt
                clear b_24
                have c_25 : Two w11 (w7.heap.size) 23 (.int .i64 (cn)) (.int .i64 (cd)) := c_24.below hbc c_24.lt
                clear c_24
                have o_25 : Two w11 (w8.heap.size) 23 (.int .i64 (cn)) (.int .i64 (cd)) := o_24.below hbc o_24.lt
                clear o_24
                have s_25 : Two w11 (w9.heap.size) 23 (.int .i64 (sn)) (.int .i64 (sd)) := s_24.below hbc s_24.lt
                clear s_24
                have t_25 : Two w11 (w10.heap.size) 23 (.int .i64 (tn)) (.int .i64 (td)) := t_24.below hbc t_24.lt
                clear t_24
                have hBa25 : Below w.heap.size w w11 := hBa24.trans (hbc.mono hBa24.size)
                clear hBa24 hbc
                have f_26 : Two (w11.alloc (.cells #[.int .i64 (un), .int .i64 (ud)] 23)) (w.heap.size) 23 (.int .i64 (n)) (.int .i64 (d)) := f_25.alloc _
                clear f_25
                have g_26 : Two (w11.alloc (.cells #[.int .i64 (un), .int .i64 (ud)] 23)) (w.heap.size + 1) 23 (.int .i64 (m)) (.int .i64 (e)) := g_25.alloc _
                clear g_25
                have h_26 : Two (w11.alloc (.cells #[.int .i64 (un), .int .i64 (ud)] 23)) (w.heap.size + 1 + 1) 23 (.int .i64 (p)) (.int .i64 (q)) := h_25.alloc _
                clear h_25
                have a_26 : Two (w11.alloc (.cells #[.int .i64 (un), .int .i64 (ud)] 23)) (w5.heap.size) 23 (.int .i64 (an)) (.int .i64 (ad)) := a_25.alloc _
                clear a_25
                have b_26 : Two (w11.alloc (.cells #[.int .i64 (un), .int .i64 (ud)] 23)) (w6.heap.size) 23 (.int .i64 (an)) (.int .i64 (ad)) := b_25.alloc _
                clear b_25
                have c_26 : Two (w11.alloc (.cells #[.int .i64 (un), .int .i64 (ud)] 23)) (w7.heap.size) 23 (.int .i64 (cn)) (.int .i64 (cd)) := c_25.alloc _
                clear c_25
                have o_26 : Two (w11.alloc (.cells #[.int .i64 (un), .int .i64 (ud)] 23)) (w8.heap.size) 23 (.int .i64 (cn)) (.int .i64 (cd)) := o_25.alloc _
                clear o_25
                have s_26 : Two (w11.alloc (.cells #[.int .i64 (un), .int .i64 (ud)] 23)) (w9.heap.size) 23 (.int .i64 (sn)) (.int .i64 (sd)) := s_25.alloc _
                clear s_25
                have t_26 : Two (w11.alloc (.cells #[.int .i64 (un), .int .i64 (ud)] 23)) (w10.heap.size) 23 (.int .i64 (tn)) (.int .i64 (td)) := t_25.alloc _
                clear t_25
                have u_26 : Two (w11.alloc (.cells #[.int .i64 (un), .int .i64 (ud)] 23)) (w11.heap.size) 23 (.int .i64 (un)) (.int .i64 (ud)) := Two.at (by simp) _ _ _
                have hBa26 : Below w.heap.size w (w11.alloc (.cells #[.int .i64 (un), .int .i64 (ud)] 23)) := hBa25.alloc hBa25.size _
                clear hBa25
                clear A1 A2
                have hzz : (se = 0 ∧ ce = 0 ∧ ue = 0) ∨ (se == 0) = false ∨ (se = 0 ∧ (ce == 0) = false) ∨ (se = 0 ∧ ce = 0 ∧ (ue == 0) = false) := by
                  by_cases h1 : se = 0
                  · by_cases h2 : ce = 0
                    · by_cases h3 : ue = 0
                      · exact .inl ⟨h1, h2, h3⟩
                      · exact .inr (.inr (.inr ⟨h1, h2, by simpa using h3⟩))
                    · exact .inr (.inr (.inl ⟨h1, by simpa using h2⟩))
                  · exact .inr (.inl (by simpa using h1))
                rcases hzz with ⟨rfl, rfl, rfl⟩ | h1 | ⟨rfl, h1⟩ | ⟨rfl, rfl, h1⟩
                · skip
                  obtain ⟨rfl, rfl, rfl⟩ := A3.out rfl rfl rfl
                  obtain ⟨ff0, ff1, ff2, ff3⟩ := f_26.facts
                  obtain ⟨sf0, sf1, sf2, sf3⟩ := s_26.facts
                  go_wp2_with fail
                  refine (X14.out _).mono ?_
                  rintro r w12 ⟨rfl, hbc⟩
                  clear ff0
                  clear ff1
                  clear ff2
                  clear ff3
                  clear sf0
                  clear sf1
                  clear sf2
                  clear sf3
                  have f_27 : Two w12 (w.heap.size) 23 (.int .i64 (n)) (.int .i64 (d)) := f_26.below hbc f_26.lt
                  clear f_26
                  have g_27 : Two w12 (w.heap.size + 1) 23 (.int .i64 (m)) (.int .i64 (e)) := g_26.below hbc g_26.lt
                  clear g_26
                  have h_27 : Two w12 (w.heap.size + 1 + 1) 23 (.int .i64 (p)) (.int .i64 (q)) := h_26.below hbc h_26.lt
                  clear h_26
                  have a_27 : Two w12 (w5.heap.size) 23 (.int .i64 (an)) (.int .i64 (ad)) := a_26.below hbc a_26.lt
                  clear a_26
                  have b_27 : Two w12 (w6.heap.size) 23 (.int .i64 (an)) (.int .i64 (ad)) := b_26.below hbc b_26.lt
                  clear b_26
                  have c_27 : Two w12 (w7.heap.size) 23 (.int .i64 (cn)) (.int .i64 (cd)) := c_26.below hbc c_26.lt
                  clear c_26
                  have o_27 : Two w12 (w8.heap.size) 23 (.int .i64 (cn)) (.int .i64 (cd)) := o_26.below hbc o_26.lt
                  clear o_26
                  have s_27 : Two w12 (w9.heap.size) 23 (.int .i64 (sn)) (.int .i64 (sd)) := s_26.below hbc s_26.lt
                  clear s_26
                  have t_27 : Two w12 (w10.heap.size) 23 (.int .i64 (tn)) (.int .i64 (td)) := t_26.below hbc t_26.lt
                  clear t_26
                  have u_27 : Two w12 (w11.heap.size) 23 (.int .i64 (un)) (.int .i64 (ud)) := u_26.below hbc u_26.lt
                  clear u_26
                  have hBa27 : Below w.heap.size w w12 := hBa26.trans (hbc.mono hBa26.size)
                  clear hBa26 hbc
                  have f_28 : Two (w12.alloc (.cells #[.int .i64 (on), .int .i64 (od)] 23)) (w.heap.size) 23 (.int .i64 (n)) (.int .i64 (d)) := f_27.alloc _
                  clear f_27
                  have g_28 : Two (w12.alloc (.cells #[.int .i64 (on), .int .i64 (od)] 23)) (w.heap.size + 1) 23 (.int .i64 (m)) (.int .i64 (e)) := g_27.alloc _
                  clear g_27
                  have h_28 : Two (w12.alloc (.cells #[.int .i64 (on), .int .i64 (od)] 23)) (w.heap.size + 1 + 1) 23 (.int .i64 (p)) (.int .i64 (q)) := h_27.alloc _
                  clear h_27
                  have a_28 : Two (w12.alloc (.cells #[.int .i64 (on), .int .i64 (od)] 23)) (w5.heap.size) 23 (.int .i64 (an)) (.int .i64 (ad)) := a_27.alloc _
                  clear a_27
                  have b_28 : Two (w12.alloc (.cells #[.int .i64 (on), .int .i64 (od)] 23)) (w6.heap.size) 23 (.int .i64 (an)) (.int .i64 (ad)) := b_27.alloc _
                  clear b_27
                  have c_28 : Two (w12.alloc (.cells #[.int .i64 (on), .int .i64 (od)] 23)) (w7.heap.size) 23 (.int .i64 (cn)) (.int .i64 (cd)) := c_27.alloc _
                  clear c_27
                  have o_28 : Two (w12.alloc (.cells #[.int .i64 (on), .int .i64 (od)] 23)) (w8.heap.size) 23 (.int .i64 (cn)) (.int .i64 (cd)) := o_27.alloc _
                  clear o_27
                  have s_28 : Two (w12.alloc (.cells #[.int .i64 (on), .int .i64 (od)] 23)) (w9.heap.size) 23 (.int .i64 (sn)) (.int .i64 (sd)) := s_27.alloc _
                  clear s_27
                  have t_28 : Two (w12.alloc (.cells #[.int .i64 (on), .int .i64 (od)] 23)) (w10.heap.size) 23 (.int .i64 (tn)) (.int .i64 (td)) := t_27.alloc _
                  clear t_27
                  have u_28 : Two (w12.alloc (.cells #[.int .i64 (on), .int .i64 (od)] 23)) (w11.heap.size) 23 (.int .i64 (un)) (.int .i64 (ud)) := u_27.alloc _
                  clear u_27
                  have x1_28 : Two (w12.alloc (.cells #[.int .i64 (on), .int .i64 (od)] 23)) (w12.heap.size) 23 (.int .i64 (on)) (.int .i64 (od)) := Two.at (by simp) _ _ _
                  have hBa28 : Below w.heap.size w (w12.alloc (.cells #[.int .i64 (on), .int .i64 (od)] 23)) := hBa27.alloc hBa27.size _
                  clear hBa27
                  obtain ⟨cf0, cf1, cf2, cf3⟩ := c_28.facts
                  obtain ⟨uf0, uf1, uf2, uf3⟩ := u_28.facts
                  go_wp2_with fail
                  refine (X15.out _).mono ?_
                  rintro r w13 ⟨rfl, hbc⟩
                  clear cf0
                  clear cf1
                  clear cf2
                  clear cf3
                  clear uf0
                  clear uf1
                  clear uf2
                  clear uf3
                  have f_29 : Two w13 (w.heap.size) 23 (.int .i64 (n)) (.int .i64 (d)) := f_28.below hbc f_28.lt
                  clear f_28
                  have g_29 : Two w13 (w.heap.size + 1) 23 (.int .i64 (m)) (.int .i64 (e)) := g_28.below hbc g_28.lt
                  clear g_28
                  have h_29 : Two w13 (w.heap.size + 1 + 1) 23 (.int .i64 (p)) (.int .i64 (q)) := h_28.below hbc h_28.lt
                  clear h_28
                  have a_29 : Two w13 (w5.heap.size) 23 (.int .i64 (an)) (.int .i64 (ad)) := a_28.below hbc a_28.lt
                  clear a_28
                  have b_29 : Two w13 (w6.heap.size) 23 (.int .i64 (an)) (.int .i64 (ad)) := b_28.below hbc b_28.lt
                  clear b_28
                  have c_29 : Two w13 (w7.heap.size) 23 (.int .i64 (cn)) (.int .i64 (cd)) := c_28.below hbc c_28.lt
                  clear c_28
                  have o_29 : Two w13 (w8.heap.size) 23 (.int .i64 (cn)) (.int .i64 (cd)) := o_28.below hbc o_28.lt
                  clear o_28
                  have s_29 : Two w13 (w9.heap.size) 23 (.int .i64 (sn)) (.int .i64 (sd)) := s_28.below hbc s_28.lt
                  clear s_28
                  have t_29 : Two w13 (w10.heap.size) 23 (.int .i64 (tn)) (.int .i64 (td)) := t_28.below hbc t_28.lt
                  clear t_28
                  have u_29 : Two w13 (w11.heap.size) 23 (.int .i64 (un)) (.int .i64 (ud)) := u_28.below hbc u_28.lt
                  clear u_28
                  have x1_29 : Two w13 (w12.heap.size) 23 (.int .i64 (on)) (.int .i64 (od)) := x1_28.below hbc x1_28.lt
                  clear x1_28
                  have hBa29 : Below w.heap.size w w13 := hBa28.trans (hbc.mono hBa28.size)
                  clear hBa28 hbc
                  have f_30 : Two (w13.alloc (.cells #[.int .i64 (on), .int .i64 (od)] 23)) (w.heap.size) 23 (.int .i64 (n)) (.int .i64 (d)) := f_29.alloc _
                  clear f_29
                  have g_30 : Two (w13.alloc (.cells #[.int .i64 (on), .int .i64 (od)] 23)) (w.heap.size + 1) 23 (.int .i64 (m)) (.int .i64 (e)) := g_29.alloc _
                  clear g_29
                  have h_30 : Two (w13.alloc (.cells #[.int .i64 (on), .int .i64 (od)] 23)) (w.heap.size + 1 + 1) 23 (.int .i64 (p)) (.int .i64 (q)) := h_29.alloc _
                  clear h_29
                  have a_30 : Two (w13.alloc (.cells #[.int .i64 (on), .int .i64 (od)] 23)) (w5.heap.size) 23 (.int .i64 (an)) (.int .i64 (ad)) := a_29.alloc _
                  clear a_29
                  have b_30 : Two (w13.alloc (.cells #[.int .i64 (on), .int .i64 (od)] 23)) (w6.heap.size) 23 (.int .i64 (an)) (.int .i64 (ad)) := b_29.alloc _
                  clear b_29
                  have c_30 : Two (w13.alloc (.cells #[.int .i64 (on), .int .i64 (od)] 23)) (w7.heap.size) 23 (.int .i64 (cn)) (.int .i64 (cd)) := c_29.alloc _
                  clear c_29
                  have o_30 : Two (w13.alloc (.cells #[.int .i64 (on), .int .i64 (od)] 23)) (w8.heap.size) 23 (.int .i64 (cn)) (.int .i64 (cd)) := o_29.alloc _
                  clear o_29
                  have s_30 : Two (w13.alloc (.cells #[.int .i64 (on), .int .i64 (od)] 23)) (w9.heap.size) 23 (.int .i64 (sn)) (.int .i64 (sd)) := s_29.alloc _
                  clear s_29
                  have t_30 : Two (w13.alloc (.cells #[.int .i64 (on), .int .i64 (od)] 23)) (w10.heap.size) 23 (.int .i64 (tn)) (.int .i64 (td)) := t_29.alloc _
                  clear t_29
                  have u_30 : Two (w13.alloc (.cells #[.int .i64 (on), .int .i64 (od)] 23)) (w11.heap.size) 23 (.int .i64 (un)) (.int .i64 (ud)) := u_29.alloc _
                  clear u_29
                  have x1_30 : Two (w13.alloc (.cells #[.int .i64 (on), .int .i64 (od)] 23)) (w12.heap.size) 23 (.int .i64 (on)) (.int .i64 (od)) := x1_29.alloc _
                  clear x1_29
                  have x2_30 : Two (w13.alloc (.cells #[.int .i64 (on), .int .i64 (od)] 23)) (w13.heap.size) 23 (.int .i64 (on)) (.int .i64 (od)) := Two.at (by simp) _ _ _
                  have hBa30 : Below w.heap.size w (w13.alloc (.cells #[.int .i64 (on), .int .i64 (od)] 23)) := hBa29.alloc hBa29.size _
                  clear hBa29
                  obtain ⟨x1f0, x1f1, x1f2, x1f3⟩ := x1_30.facts
                  obtain ⟨x2f0, x2f1, x2f2, x2f3⟩ := x2_30.facts
                  go_wp2_with fail
                  go_ret
                  exact ⟨rfl, hBa30⟩
                · skip
                  have h2 := nz' h1
                  go_wp2_with fail
                  go_ret
                  exact ⟨rfl, hBa26⟩
                · skip
                  have h2 := nz' h1
                  go_wp2_with fail
                  go_ret
                  exact ⟨rfl, hBa26⟩
                · skip
                  have h2 := nz' h1
                  go_wp2_with fail
                  go_ret
                  exact ⟨rfl, hBa26⟩

set_option maxRecDepth 100000 in
theorem lawField (n d m e p q : Int) (hn1 : -9223372036854775808 ≤ n) (hn2 : n ≤ 9223372036854775807) (hd1 : -9223372036854775808 ≤ d) (hd2 : d ≤ 9223372036854775807) (hm1 : -9223372036854775808 ≤ m) (hm2 : m ≤ 9223372036854775807) (he1 : -9223372036854775808 ≤ e) (he2 : e ≤ 9223372036854775807) (hp1 : -9223372036854775808 ≤ p) (hp2 : p ≤ 9223372036854775807) (hq1 : -9223372036854775808 ≤ q) (hq2 : q ≤ 9223372036854775807) (w : World) (hl : Lay w) :
    Calls Tryd.prog 4 #[.agg #[.int .i64 n, .int .i64 d], .agg #[.int .i64 m, .int .i64 e], .agg #[.int .i64 p, .int .i64 q]] w fun r w' => r = .returned (.bool true) ∧ Below w.heap.size w w' := by
  by_cases hf : valP n d
  · by_cases hg : valP m e
    · by_cases hh : valP p q
      · exact fieldV n d m e p q hf hg hh w hl
      · go_enter Tryd.func4, Tryd.ntmps4
        have hB0 : Below w.heap.size w w := Below.refl w.heap.size w
        have f_1 : Two (w.alloc (.cells #[.int .i64 (n), .int .i64 (d)] 23)) (w.heap.size) 23 (.int .i64 (n)) (.int .i64 (d)) := Two.at (by simp) _ _ _
        have hBa1 : Below w.heap.size w (w.alloc (.cells #[.int .i64 (n), .int .i64 (d)] 23)) := hB0.alloc hB0.size _
        clear hB0
        have f_2 : Two ((w.alloc (.cells #[.int .i64 (n), .int .i64 (d)] 23)).alloc (.cells #[.int .i64 (m), .int .i64 (e)] 23)) (w.heap.size) 23 (.int .i64 (n)) (.int .i64 (d)) := f_1.alloc _
        clear f_1
        have g_2 : Two ((w.alloc (.cells #[.int .i64 (n), .int .i64 (d)] 23)).alloc (.cells #[.int .i64 (m), .int .i64 (e)] 23)) (w.heap.size + 1) 23 (.int .i64 (m)) (.int .i64 (e)) := Two.at (by simp) _ _ _
        have hBa2 : Below w.heap.size w ((w.alloc (.cells #[.int .i64 (n), .int .i64 (d)] 23)).alloc (.cells #[.int .i64 (m), .int .i64 (e)] 23)) := hBa1.alloc hBa1.size _
        clear hBa1
        have f_3 : Two (((w.alloc (.cells #[.int .i64 (n), .int .i64 (d)] 23)).alloc (.cells #[.int .i64 (m), .int .i64 (e)] 23)).alloc (.cells #[.int .i64 (p), .int .i64 (q)] 23)) (w.heap.size) 23 (.int .i64 (n)) (.int .i64 (d)) := f_2.alloc _
        clear f_2
        have g_3 : Two (((w.alloc (.cells #[.int .i64 (n), .int .i64 (d)] 23)).alloc (.cells #[.int .i64 (m), .int .i64 (e)] 23)).alloc (.cells #[.int .i64 (p), .int .i64 (q)] 23)) (w.heap.size + 1) 23 (.int .i64 (m)) (.int .i64 (e)) := g_2.alloc _
        clear g_2
        have h_3 : Two (((w.alloc (.cells #[.int .i64 (n), .int .i64 (d)] 23)).alloc (.cells #[.int .i64 (m), .int .i64 (e)] 23)).alloc (.cells #[.int .i64 (p), .int .i64 (q)] 23)) (w.heap.size + 1 + 1) 23 (.int .i64 (p)) (.int .i64 (q)) := Two.at (by simp) _ _ _
        have hBa3 : Below w.heap.size w (((w.alloc (.cells #[.int .i64 (n), .int .i64 (d)] 23)).alloc (.cells #[.int .i64 (m), .int .i64 (e)] 23)).alloc (.cells #[.int .i64 (p), .int .i64 (q)] 23)) := hBa2.alloc hBa2.size _
        clear hBa2
        go_wp2_with fail
        refine (head_any _ (hl.below hBa3)).mono ?_
        rintro r w1 ⟨rfl, hbc⟩
        have f_4 : Two w1 (w.heap.size) 23 (.int .i64 (n)) (.int .i64 (d)) := f_3.below hbc f_3.lt
        clear f_3
        have g_4 : Two w1 (w.heap.size + 1) 23 (.int .i64 (m)) (.int .i64 (e)) := g_3.below hbc g_3.lt
        clear g_3
        have h_4 : Two w1 (w.heap.size + 1 + 1) 23 (.int .i64 (p)) (.int .i64 (q)) := h_3.below hbc h_3.lt
        clear h_3
        have hBa4 : Below w.heap.size w w1 := hBa3.trans (hbc.mono hBa3.size)
        clear hBa3 hbc
        obtain ⟨ff0, ff1, ff2, ff3⟩ := f_4.facts
        go_wp2_with fail
        refine (valid_yes _ _ hf _).mono ?_
        rintro r w2 ⟨rfl, hbc⟩
        clear ff0
        clear ff1
        clear ff2
        clear ff3
        have f_5 : Two w2 (w.heap.size) 23 (.int .i64 (n)) (.int .i64 (d)) := f_4.below hbc f_4.lt
        clear f_4
        have g_5 : Two w2 (w.heap.size + 1) 23 (.int .i64 (m)) (.int .i64 (e)) := g_4.below hbc g_4.lt
        clear g_4
        have h_5 : Two w2 (w.heap.size + 1 + 1) 23 (.int .i64 (p)) (.int .i64 (q)) := h_4.below hbc h_4.lt
        clear h_4
        have hBa5 : Below w.heap.size w w2 := hBa4.trans (hbc.mono hBa4.size)
        clear hBa4 hbc
        obtain ⟨gf0, gf1, gf2, gf3⟩ := g_5.facts
        go_wp2_with fail
        refine (valid_yes _ _ hg _).mono ?_
        rintro r w3 ⟨rfl, hbc⟩
        clear gf0
        clear gf1
        clear gf2
        clear gf3
        have f_6 : Two w3 (w.heap.size) 23 (.int .i64 (n)) (.int .i64 (d)) := f_5.below hbc f_5.lt
        clear f_5
        have g_6 : Two w3 (w.heap.size + 1) 23 (.int .i64 (m)) (.int .i64 (e)) := g_5.below hbc g_5.lt
        clear g_5
        have h_6 : Two w3 (w.heap.size + 1 + 1) 23 (.int .i64 (p)) (.int .i64 (q)) := h_5.below hbc h_5.lt
        clear h_5
        have hBa6 : Below w.heap.size w w3 := hBa5.trans (hbc.mono hBa5.size)
        clear hBa5 hbc
        obtain ⟨hf0, hf1, hf2, hf3⟩ := h_6.facts
        go_wp2_with fail
        refine (valid_no _ _ hh _).mono ?_
        rintro r w4 ⟨rfl, hbc⟩
        clear hf0
        clear hf1
        clear hf2
        clear hf3
        have f_7 : Two w4 (w.heap.size) 23 (.int .i64 (n)) (.int .i64 (d)) := f_6.below hbc f_6.lt
        clear f_6
        have g_7 : Two w4 (w.heap.size + 1) 23 (.int .i64 (m)) (.int .i64 (e)) := g_6.below hbc g_6.lt
        clear g_6
        have h_7 : Two w4 (w.heap.size + 1 + 1) 23 (.int .i64 (p)) (.int .i64 (q)) := h_6.below hbc h_6.lt
        clear h_6
        have hBa7 : Below w.heap.size w w4 := hBa6.trans (hbc.mono hBa6.size)
        clear hBa6 hbc
        go_wp2_with fail
        go_ret
        exact ⟨rfl, hBa7⟩
    · go_enter Tryd.func4, Tryd.ntmps4
      have hB0 : Below w.heap.size w w := Below.refl w.heap.size w
      have f_1 : Two (w.alloc (.cells #[.int .i64 (n), .int .i64 (d)] 23)) (w.heap.size) 23 (.int .i64 (n)) (.int .i64 (d)) := Two.at (by simp) _ _ _
      have hBa1 : Below w.heap.size w (w.alloc (.cells #[.int .i64 (n), .int .i64 (d)] 23)) := hB0.alloc hB0.size _
      clear hB0
      have f_2 : Two ((w.alloc (.cells #[.int .i64 (n), .int .i64 (d)] 23)).alloc (.cells #[.int .i64 (m), .int .i64 (e)] 23)) (w.heap.size) 23 (.int .i64 (n)) (.int .i64 (d)) := f_1.alloc _
      clear f_1
      have g_2 : Two ((w.alloc (.cells #[.int .i64 (n), .int .i64 (d)] 23)).alloc (.cells #[.int .i64 (m), .int .i64 (e)] 23)) (w.heap.size + 1) 23 (.int .i64 (m)) (.int .i64 (e)) := Two.at (by simp) _ _ _
      have hBa2 : Below w.heap.size w ((w.alloc (.cells #[.int .i64 (n), .int .i64 (d)] 23)).alloc (.cells #[.int .i64 (m), .int .i64 (e)] 23)) := hBa1.alloc hBa1.size _
      clear hBa1
      have f_3 : Two (((w.alloc (.cells #[.int .i64 (n), .int .i64 (d)] 23)).alloc (.cells #[.int .i64 (m), .int .i64 (e)] 23)).alloc (.cells #[.int .i64 (p), .int .i64 (q)] 23)) (w.heap.size) 23 (.int .i64 (n)) (.int .i64 (d)) := f_2.alloc _
      clear f_2
      have g_3 : Two (((w.alloc (.cells #[.int .i64 (n), .int .i64 (d)] 23)).alloc (.cells #[.int .i64 (m), .int .i64 (e)] 23)).alloc (.cells #[.int .i64 (p), .int .i64 (q)] 23)) (w.heap.size + 1) 23 (.int .i64 (m)) (.int .i64 (e)) := g_2.alloc _
      clear g_2
      have h_3 : Two (((w.alloc (.cells #[.int .i64 (n), .int .i64 (d)] 23)).alloc (.cells #[.int .i64 (m), .int .i64 (e)] 23)).alloc (.cells #[.int .i64 (p), .int .i64 (q)] 23)) (w.heap.size + 1 + 1) 23 (.int .i64 (p)) (.int .i64 (q)) := Two.at (by simp) _ _ _
      have hBa3 : Below w.heap.size w (((w.alloc (.cells #[.int .i64 (n), .int .i64 (d)] 23)).alloc (.cells #[.int .i64 (m), .int .i64 (e)] 23)).alloc (.cells #[.int .i64 (p), .int .i64 (q)] 23)) := hBa2.alloc hBa2.size _
      clear hBa2
      go_wp2_with fail
      refine (head_any _ (hl.below hBa3)).mono ?_
      rintro r w1 ⟨rfl, hbc⟩
      have f_4 : Two w1 (w.heap.size) 23 (.int .i64 (n)) (.int .i64 (d)) := f_3.below hbc f_3.lt
      clear f_3
      have g_4 : Two w1 (w.heap.size + 1) 23 (.int .i64 (m)) (.int .i64 (e)) := g_3.below hbc g_3.lt
      clear g_3
      have h_4 : Two w1 (w.heap.size + 1 + 1) 23 (.int .i64 (p)) (.int .i64 (q)) := h_3.below hbc h_3.lt
      clear h_3
      have hBa4 : Below w.heap.size w w1 := hBa3.trans (hbc.mono hBa3.size)
      clear hBa3 hbc
      obtain ⟨ff0, ff1, ff2, ff3⟩ := f_4.facts
      go_wp2_with fail
      refine (valid_yes _ _ hf _).mono ?_
      rintro r w2 ⟨rfl, hbc⟩
      clear ff0
      clear ff1
      clear ff2
      clear ff3
      have f_5 : Two w2 (w.heap.size) 23 (.int .i64 (n)) (.int .i64 (d)) := f_4.below hbc f_4.lt
      clear f_4
      have g_5 : Two w2 (w.heap.size + 1) 23 (.int .i64 (m)) (.int .i64 (e)) := g_4.below hbc g_4.lt
      clear g_4
      have h_5 : Two w2 (w.heap.size + 1 + 1) 23 (.int .i64 (p)) (.int .i64 (q)) := h_4.below hbc h_4.lt
      clear h_4
      have hBa5 : Below w.heap.size w w2 := hBa4.trans (hbc.mono hBa4.size)
      clear hBa4 hbc
      obtain ⟨gf0, gf1, gf2, gf3⟩ := g_5.facts
      go_wp2_with fail
      refine (valid_no _ _ hg _).mono ?_
      rintro r w3 ⟨rfl, hbc⟩
      clear gf0
      clear gf1
      clear gf2
      clear gf3
      have f_6 : Two w3 (w.heap.size) 23 (.int .i64 (n)) (.int .i64 (d)) := f_5.below hbc f_5.lt
      clear f_5
      have g_6 : Two w3 (w.heap.size + 1) 23 (.int .i64 (m)) (.int .i64 (e)) := g_5.below hbc g_5.lt
      clear g_5
      have h_6 : Two w3 (w.heap.size + 1 + 1) 23 (.int .i64 (p)) (.int .i64 (q)) := h_5.below hbc h_5.lt
      clear h_5
      have hBa6 : Below w.heap.size w w3 := hBa5.trans (hbc.mono hBa5.size)
      clear hBa5 hbc
      go_wp2_with fail
      go_ret
      exact ⟨rfl, hBa6⟩
  · go_enter Tryd.func4, Tryd.ntmps4
    have hB0 : Below w.heap.size w w := Below.refl w.heap.size w
    have f_1 : Two (w.alloc (.cells #[.int .i64 (n), .int .i64 (d)] 23)) (w.heap.size) 23 (.int .i64 (n)) (.int .i64 (d)) := Two.at (by simp) _ _ _
    have hBa1 : Below w.heap.size w (w.alloc (.cells #[.int .i64 (n), .int .i64 (d)] 23)) := hB0.alloc hB0.size _
    clear hB0
    have f_2 : Two ((w.alloc (.cells #[.int .i64 (n), .int .i64 (d)] 23)).alloc (.cells #[.int .i64 (m), .int .i64 (e)] 23)) (w.heap.size) 23 (.int .i64 (n)) (.int .i64 (d)) := f_1.alloc _
    clear f_1
    have g_2 : Two ((w.alloc (.cells #[.int .i64 (n), .int .i64 (d)] 23)).alloc (.cells #[.int .i64 (m), .int .i64 (e)] 23)) (w.heap.size + 1) 23 (.int .i64 (m)) (.int .i64 (e)) := Two.at (by simp) _ _ _
    have hBa2 : Below w.heap.size w ((w.alloc (.cells #[.int .i64 (n), .int .i64 (d)] 23)).alloc (.cells #[.int .i64 (m), .int .i64 (e)] 23)) := hBa1.alloc hBa1.size _
    clear hBa1
    have f_3 : Two (((w.alloc (.cells #[.int .i64 (n), .int .i64 (d)] 23)).alloc (.cells #[.int .i64 (m), .int .i64 (e)] 23)).alloc (.cells #[.int .i64 (p), .int .i64 (q)] 23)) (w.heap.size) 23 (.int .i64 (n)) (.int .i64 (d)) := f_2.alloc _
    clear f_2
    have g_3 : Two (((w.alloc (.cells #[.int .i64 (n), .int .i64 (d)] 23)).alloc (.cells #[.int .i64 (m), .int .i64 (e)] 23)).alloc (.cells #[.int .i64 (p), .int .i64 (q)] 23)) (w.heap.size + 1) 23 (.int .i64 (m)) (.int .i64 (e)) := g_2.alloc _
    clear g_2
    have h_3 : Two (((w.alloc (.cells #[.int .i64 (n), .int .i64 (d)] 23)).alloc (.cells #[.int .i64 (m), .int .i64 (e)] 23)).alloc (.cells #[.int .i64 (p), .int .i64 (q)] 23)) (w.heap.size + 1 + 1) 23 (.int .i64 (p)) (.int .i64 (q)) := Two.at (by simp) _ _ _
    have hBa3 : Below w.heap.size w (((w.alloc (.cells #[.int .i64 (n), .int .i64 (d)] 23)).alloc (.cells #[.int .i64 (m), .int .i64 (e)] 23)).alloc (.cells #[.int .i64 (p), .int .i64 (q)] 23)) := hBa2.alloc hBa2.size _
    clear hBa2
    go_wp2_with fail
    refine (head_any _ (hl.below hBa3)).mono ?_
    rintro r w1 ⟨rfl, hbc⟩
    have f_4 : Two w1 (w.heap.size) 23 (.int .i64 (n)) (.int .i64 (d)) := f_3.below hbc f_3.lt
    clear f_3
    have g_4 : Two w1 (w.heap.size + 1) 23 (.int .i64 (m)) (.int .i64 (e)) := g_3.below hbc g_3.lt
    clear g_3
    have h_4 : Two w1 (w.heap.size + 1 + 1) 23 (.int .i64 (p)) (.int .i64 (q)) := h_3.below hbc h_3.lt
    clear h_3
    have hBa4 : Below w.heap.size w w1 := hBa3.trans (hbc.mono hBa3.size)
    clear hBa3 hbc
    obtain ⟨ff0, ff1, ff2, ff3⟩ := f_4.facts
    go_wp2_with fail
    refine (valid_no _ _ hf _).mono ?_
    rintro r w2 ⟨rfl, hbc⟩
    clear ff0
    clear ff1
    clear ff2
    clear ff3
    have f_5 : Two w2 (w.heap.size) 23 (.int .i64 (n)) (.int .i64 (d)) := f_4.below hbc f_4.lt
    clear f_4
    have g_5 : Two w2 (w.heap.size + 1) 23 (.int .i64 (m)) (.int .i64 (e)) := g_4.below hbc g_4.lt
    clear g_4
    have h_5 : Two w2 (w.heap.size + 1 + 1) 23 (.int .i64 (p)) (.int .i64 (q)) := h_4.below hbc h_4.lt
    clear h_4
    have hBa5 : Below w.heap.size w w2 := hBa4.trans (hbc.mono hBa4.size)
    clear hBa4 hbc
    go_wp2_with fail
    go_ret
    exact ⟨rfl, hBa5⟩
end Go.Proofs.YtflnhjfmlminoaaDoor.Fr
