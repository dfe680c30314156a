/- The walk of FractionTexts. -/
import Derived.Test.YtflnhjfmlminoaaDoorFrcH
import Derived.Test.YtflnhjfmlminoaaDoorFrcLaw
namespace Go.Proofs.YtflnhjfmlminoaaDoor.Fr
set_option linter.unusedVariables false
set_option linter.unusedSimpArgs false
open Go.RowKit

theorem ba_ne {a b : ByteArray} (h : ¬ a = b) : (a.toList == b.toList) = false := by
  rw [beq_eq_false_iff_ne]
  intro h2
  rw [ByteArray.toList_eq, ByteArray.toList_eq] at h2
  exact h (ByteArray.ext (Array.toList_inj.1 h2))
theorem mk_inj {a b : List UInt8} (h : ByteArray.mk a.toArray = ByteArray.mk b.toArray) : a = b := by
  have := congrArg (fun x : ByteArray => x.data.toList) h
  simpa using this
theorem mk_list (s : ByteArray) : ByteArray.mk s.data.toList.toArray = s := by
  apply ByteArray.ext
  simp
/-- a valid fraction: its text, and what Parse says of it -/
theorem text_yes (n d : Int) (h : valP n d) : ∃ S : ByteArray, S = ⟨(txL n d).toArray⟩ ∧ S.size ≤ 100 ∧
    (∀ w, Lay w → Calls Tryd.prog 22 #[.agg #[.int .i64 n, .int .i64 d]] w fun e w' => e = .returned (.tuple #[.string S, .int .i64 0]) ∧ Below w.heap.size w w') ∧
    (∀ w, Lay w → Calls Tryd.prog 24 #[.string S] w fun e w' => e = .returned (.tuple #[.agg #[.int .i64 n, .int .i64 d], .int .i64 0]) ∧ Below w.heap.size w w') := by
  have hsz : (ByteArray.mk (txL n d).toArray).size ≤ 100 := by
    have h1 := Lib.itoa_length_le n (by have := h.1; omega) (by have := h.2.1; omega)
    have h2 := Lib.itoa_length_le d (by have := h.2.2.1; omega) (by have := h.2.2.2.1; omega)
    rw [Lib.size_eq]
    unfold txL
    rw [if_pos h]
    split
    · simp
      omega
    · simp
      omega
  refine ⟨_, rfl, hsz, fun w hl => ?_, fun w hl => ?_⟩
  · have := text_any n d w hl
    rw [txE_zero.2 h] at this
    exact this
  · have := parse_any ⟨(txL n d).toArray⟩ (by omega) w hl
    have hp : parV (ByteArray.mk (txL n d).toArray).data.toList = (n, d, 0) := par_yes h (by simp)
    rw [hp] at this
    exact this
theorem text_no (n d : Int) (h : ¬ valP n d) (w : World) (hl : Lay w) : Calls Tryd.prog 22 #[.agg #[.int .i64 n, .int .i64 d]] w fun e w' => e = .returned (.tuple #[.string ⟨#[]⟩, .int .i64 1]) ∧ Below w.heap.size w w' := by
  have := text_any n d w hl
  have e1 : txE n d = 1 := by unfold txE; rw [if_neg h]
  have e2 : txL n d = [] := by unfold txL; rw [if_neg h]
  rw [e1, e2] at this
  exact this
/-- what Parse says of a text -/
def ParseWay (s : ByteArray) : Prop :=
  (∃ a b : Int, (∀ w, Lay w → Calls Tryd.prog 24 #[.string s] w fun e w' => e = .returned (.tuple #[.agg #[.int .i64 a, .int .i64 b], .int .i64 0]) ∧ Below w.heap.size w w') ∧ valP a b ∧
    (∀ w, Lay w → Calls Tryd.prog 22 #[.agg #[.int .i64 a, .int .i64 b]] w fun e w' => e = .returned (.tuple #[.string s, .int .i64 0]) ∧ Below w.heap.size w w')) ∨
  (∀ w, Lay w → Calls Tryd.prog 24 #[.string s] w fun e w' => e = .returned (.tuple #[.agg #[.int .i64 0, .int .i64 0], .int .i64 5]) ∧ Below w.heap.size w w')
theorem parse_way (s : ByteArray) (hs : s.size ≤ 100) : ParseWay s := by
  rcases par_cases s.data.toList with ⟨a, b, h1, h2, h3⟩ | ⟨h3, -⟩
  · refine .inl ⟨a, b, fun w hl => ?_, h1, fun w hl => ?_⟩
    · have := parse_any s (by omega) w hl
      rw [h3] at this
      exact this
    · have := text_any a b w hl
      rw [txE_zero.2 h1, h2, mk_list] at this
      exact this
  · refine .inr fun w hl => ?_
    have := parse_any s (by omega) w hl
    rw [h3] at this
    exact this

set_option maxRecDepth 100000 in
set_option maxHeartbeats 4000000 in
theorem lawTexts (n d m e : Int) (hn1 : -9223372036854775808 ≤ n) (hn2 : n ≤ 9223372036854775807) (hd1 : -9223372036854775808 ≤ d) (hd2 : d ≤ 9223372036854775807) (hm1 : -9223372036854775808 ≤ m) (hm2 : m ≤ 9223372036854775807) (he1 : -9223372036854775808 ≤ e) (he2 : e ≤ 9223372036854775807) (s : ByteArray) (hs : s.size ≤ 9223372036854775807) (w : World) (hl : Lay w) :
    Calls Tryd.prog 7 #[.agg #[.int .i64 n, .int .i64 d], .agg #[.int .i64 m, .int .i64 e], .string s] w fun r w' => r = .returned (.bool true) ∧ Below w.heap.size w w' := by
  by_cases hlen : 100 < s.size
  · go_enter Tryd.func7, Tryd.ntmps7
    have hB0 : Below w.heap.size w w := Below.refl w.heap.size w
    have f_1 : Two (w.alloc (.cells #[.int .i64 (n), .int .i64 (d)] 23)) (w.heap.size) 23 (.int .i64 (n)) (.int .i64 (d)) := Two.at (by simp) _ _ _
    have hBa1 : Below w.heap.size w (w.alloc (.cells #[.int .i64 (n), .int .i64 (d)] 23)) := hB0.alloc hB0.size _
    clear hB0
    have f_2 : Two ((w.alloc (.cells #[.int .i64 (n), .int .i64 (d)] 23)).alloc (.cells #[.int .i64 (m), .int .i64 (e)] 23)) (w.heap.size) 23 (.int .i64 (n)) (.int .i64 (d)) := f_1.alloc _
    clear f_1
    have g_2 : Two ((w.alloc (.cells #[.int .i64 (n), .int .i64 (d)] 23)).alloc (.cells #[.int .i64 (m), .int .i64 (e)] 23)) (w.heap.size + 1) 23 (.int .i64 (m)) (.int .i64 (e)) := Two.at (by simp) _ _ _
    have hBa2 : Below w.heap.size w ((w.alloc (.cells #[.int .i64 (n), .int .i64 (d)] 23)).alloc (.cells #[.int .i64 (m), .int .i64 (e)] 23)) := hBa1.alloc hBa1.size _
    clear hBa1
    go_wp2_with fail
    refine (head_any _ (hl.below hBa2)).mono ?_
    rintro r w1 ⟨rfl, hbc⟩
    have f_3 : Two w1 (w.heap.size) 23 (.int .i64 (n)) (.int .i64 (d)) := f_2.below hbc f_2.lt
    clear f_2
    have g_3 : Two w1 (w.heap.size + 1) 23 (.int .i64 (m)) (.int .i64 (e)) := g_2.below hbc g_2.lt
    clear g_2
    have hBa3 : Below w.heap.size w w1 := hBa2.trans (hbc.mono hBa2.size)
    clear hBa2 hbc
    go_wp2_with fail
    go_ret
    exact ⟨rfl, hBa3⟩
  · have hle : s.size ≤ 100 := by omega
    have hlb : decide (100 < (s.size : Int)) = false := by simp; omega
    have hpw := parse_way s hle
    by_cases hf : valP n d
    · obtain ⟨S, hS, hS2, htf, hpf⟩ := text_yes n d hf
      have HTF := Lib.hid htf
      have HPF := Lib.hid hpf
      have HS2 := Lib.hid hS2
      clear htf hpf hS2
      by_cases hg : valP m e
      · by_cases hfg : n = m ∧ d = e
        · obtain ⟨rfl, rfl⟩ := hfg
          clear hS
          rcases hpw with ⟨a, b, hpt, -, htx⟩ | hpt
          · have HPT := Lib.hid hpt
            have HTX := Lib.hid htx
            clear hpt htx
            go_enter Tryd.func7, Tryd.ntmps7
            have hB0 : Below w.heap.size w w := Below.refl w.heap.size w
            have f_1 : Two (w.alloc (.cells #[.int .i64 (n), .int .i64 (d)] 23)) (w.heap.size) 23 (.int .i64 (n)) (.int .i64 (d)) := Two.at (by simp) _ _ _
            have hBa1 : Below w.heap.size w (w.alloc (.cells #[.int .i64 (n), .int .i64 (d)] 23)) := hB0.alloc hB0.size _
            clear hB0
            have f_2 : Two ((w.alloc (.cells #[.int .i64 (n), .int .i64 (d)] 23)).alloc (.cells #[.int .i64 (n), .int .i64 (d)] 23)) (w.heap.size) 23 (.int .i64 (n)) (.int .i64 (d)) := f_1.alloc _
            clear f_1
            have g_2 : Two ((w.alloc (.cells #[.int .i64 (n), .int .i64 (d)] 23)).alloc (.cells #[.int .i64 (n), .int .i64 (d)] 23)) (w.heap.size + 1) 23 (.int .i64 (n)) (.int .i64 (d)) := Two.at (by simp) _ _ _
            have hBa2 : Below w.heap.size w ((w.alloc (.cells #[.int .i64 (n), .int .i64 (d)] 23)).alloc (.cells #[.int .i64 (n), .int .i64 (d)] 23)) := hBa1.alloc hBa1.size _
            clear hBa1
            go_wp2_with fail
            refine (head_any _ (hl.below hBa2)).mono ?_
            rintro r w1 ⟨rfl, hbc⟩
            have f_3 : Two w1 (w.heap.size) 23 (.int .i64 (n)) (.int .i64 (d)) := f_2.below hbc f_2.lt
            clear f_2
            have g_3 : Two w1 (w.heap.size + 1) 23 (.int .i64 (n)) (.int .i64 (d)) := g_2.below hbc g_2.lt
            clear g_2
            have hBa3 : Below w.heap.size w w1 := hBa2.trans (hbc.mono hBa2.size)
            clear hBa2 hbc
            obtain ⟨ff0, ff1, ff2, ff3⟩ := f_3.facts
            go_wp2_with fail
            refine (HTF.out _ (hl.below hBa3)).mono ?_
            rintro r w2 ⟨rfl, hbc⟩
            clear ff0
            clear ff1
            clear ff2
            clear ff3
            have f_4 : Two w2 (w.heap.size) 23 (.int .i64 (n)) (.int .i64 (d)) := f_3.below hbc f_3.lt
            clear f_3
            have g_4 : Two w2 (w.heap.size + 1) 23 (.int .i64 (n)) (.int .i64 (d)) := g_3.below hbc g_3.lt
            clear g_3
            have hBa4 : Below w.heap.size w w2 := hBa3.trans (hbc.mono hBa3.size)
            clear hBa3 hbc
            obtain ⟨gf0, gf1, gf2, gf3⟩ := g_4.facts
            go_wp2_with fail
            refine (HTF.out _ (hl.below hBa4)).mono ?_
            rintro r w3 ⟨rfl, hbc⟩
            clear gf0
            clear gf1
            clear gf2
            clear gf3
            have f_5 : Two w3 (w.heap.size) 23 (.int .i64 (n)) (.int .i64 (d)) := f_4.below hbc f_4.lt
            clear f_4
            have g_5 : Two w3 (w.heap.size + 1) 23 (.int .i64 (n)) (.int .i64 (d)) := g_4.below hbc g_4.lt
            clear g_4
            have hBa5 : Below w.heap.size w w3 := hBa4.trans (hbc.mono hBa4.size)
            clear hBa4 hbc
            obtain ⟨ff0, ff1, ff2, ff3⟩ := f_5.facts
            go_wp2_with fail
            refine (valid_yes _ _ hf _).mono ?_
            rintro r w4 ⟨rfl, hbc⟩
            clear ff0
            clear ff1
            clear ff2
            clear ff3
            have f_6 : Two w4 (w.heap.size) 23 (.int .i64 (n)) (.int .i64 (d)) := f_5.below hbc f_5.lt
            clear f_5
            have g_6 : Two w4 (w.heap.size + 1) 23 (.int .i64 (n)) (.int .i64 (d)) := g_5.below hbc g_5.lt
            clear g_5
            have hBa6 : Below w.heap.size w w4 := hBa5.trans (hbc.mono hBa5.size)
            clear hBa5 hbc
            obtain ⟨ff0, ff1, ff2, ff3⟩ := f_6.facts
            obtain ⟨gf0, gf1, gf2, gf3⟩ := g_6.facts
            go_wp2_with fail
            clear ff0
            clear ff1
            clear ff2
            clear ff3
            clear gf0
            clear gf1
            clear gf2
            clear gf3
            refine (HPF.out _ (hl.below hBa6)).mono ?_
            rintro r w5 ⟨rfl, hbc⟩
            have f_7 : Two w5 (w.heap.size) 23 (.int .i64 (n)) (.int .i64 (d)) := f_6.below hbc f_6.lt
            clear f_6
            have g_7 : Two w5 (w.heap.size + 1) 23 (.int .i64 (n)) (.int .i64 (d)) := g_6.below hbc g_6.lt
            clear g_6
            have hBa7 : Below w.heap.size w w5 := hBa6.trans (hbc.mono hBa6.size)
            clear hBa6 hbc
            have f_8 : Two (w5.alloc (.cells #[.int .i64 (n), .int .i64 (d)] 23)) (w.heap.size) 23 (.int .i64 (n)) (.int .i64 (d)) := f_7.alloc _
            clear f_7
            have g_8 : Two (w5.alloc (.cells #[.int .i64 (n), .int .i64 (d)] 23)) (w.heap.size + 1) 23 (.int .i64 (n)) (.int .i64 (d)) := g_7.alloc _
            clear g_7
            have x_8 : Two (w5.alloc (.cells #[.int .i64 (n), .int .i64 (d)] 23)) (w5.heap.size) 23 (.int .i64 (n)) (.int .i64 (d)) := Two.at (by simp) _ _ _
            have hBa8 : Below w.heap.size w (w5.alloc (.cells #[.int .i64 (n), .int .i64 (d)] 23)) := hBa7.alloc hBa7.size _
            clear hBa7
            obtain ⟨xf0, xf1, xf2, xf3⟩ := x_8.facts
            obtain ⟨ff0, ff1, ff2, ff3⟩ := f_8.facts
            go_wp2_with fail
            clear xf0
            clear xf1
            clear xf2
            clear xf3
            clear ff0
            clear ff1
            clear ff2
            clear ff3
            refine (HPT.out _ (hl.below hBa8)).mono ?_
            rintro r w6 ⟨rfl, hbc⟩
            have f_9 : Two w6 (w.heap.size) 23 (.int .i64 (n)) (.int .i64 (d)) := f_8.below hbc f_8.lt
            clear f_8
            have g_9 : Two w6 (w.heap.size + 1) 23 (.int .i64 (n)) (.int .i64 (d)) := g_8.below hbc g_8.lt
            clear g_8
            have x_9 : Two w6 (w5.heap.size) 23 (.int .i64 (n)) (.int .i64 (d)) := x_8.below hbc x_8.lt
            clear x_8
            have hBa9 : Below w.heap.size w w6 := hBa8.trans (hbc.mono hBa8.size)
            clear hBa8 hbc
            have f_10 : Two (w6.alloc (.cells #[.int .i64 (a), .int .i64 (b)] 23)) (w.heap.size) 23 (.int .i64 (n)) (.int .i64 (d)) := f_9.alloc _
            clear f_9
            have g_10 : Two (w6.alloc (.cells #[.int .i64 (a), .int .i64 (b)] 23)) (w.heap.size + 1) 23 (.int .i64 (n)) (.int .i64 (d)) := g_9.alloc _
            clear g_9
            have x_10 : Two (w6.alloc (.cells #[.int .i64 (a), .int .i64 (b)] 23)) (w5.heap.size) 23 (.int .i64 (n)) (.int .i64 (d)) := x_9.alloc _
            clear x_9
            have y_10 : Two (w6.alloc (.cells #[.int .i64 (a), .int .i64 (b)] 23)) (w6.heap.size) 23 (.int .i64 (a)) (.int .i64 (b)) := Two.at (by simp) _ _ _
            have hBa10 : Below w.heap.size w (w6.alloc (.cells #[.int .i64 (a), .int .i64 (b)] 23)) := hBa9.alloc hBa9.size _
            clear hBa9
            obtain ⟨yf0, yf1, yf2, yf3⟩ := y_10.facts
            go_wp2_with fail
            refine (HTX.out _ (hl.below hBa10)).mono ?_
            rintro r w7 ⟨rfl, hbc⟩
            clear yf0
            clear yf1
            clear yf2
            clear yf3
            have f_11 : Two w7 (w.heap.size) 23 (.int .i64 (n)) (.int .i64 (d)) := f_10.below hbc f_10.lt
            clear f_10
            have g_11 : Two w7 (w.heap.size + 1) 23 (.int .i64 (n)) (.int .i64 (d)) := g_10.below hbc g_10.lt
            clear g_10
            have x_11 : Two w7 (w5.heap.size) 23 (.int .i64 (n)) (.int .i64 (d)) := x_10.below hbc x_10.lt
            clear x_10
            have y_11 : Two w7 (w6.heap.size) 23 (.int .i64 (a)) (.int .i64 (b)) := y_10.below hbc y_10.lt
            clear y_10
            have hBa11 : Below w.heap.size w w7 := hBa10.trans (hbc.mono hBa10.size)
            clear hBa10 hbc
            go_wp2_with fail
            go_ret
            exact ⟨rfl, hBa11⟩
          · have HPT := Lib.hid hpt
            clear hpt
            go_enter Tryd.func7, Tryd.ntmps7
            have hB0 : Below w.heap.size w w := Below.refl w.heap.size w
            have f_1 : Two (w.alloc (.cells #[.int .i64 (n), .int .i64 (d)] 23)) (w.heap.size) 23 (.int .i64 (n)) (.int .i64 (d)) := Two.at (by simp) _ _ _
            have hBa1 : Below w.heap.size w (w.alloc (.cells #[.int .i64 (n), .int .i64 (d)] 23)) := hB0.alloc hB0.size _
            clear hB0
            have f_2 : Two ((w.alloc (.cells #[.int .i64 (n), .int .i64 (d)] 23)).alloc (.cells #[.int .i64 (n), .int .i64 (d)] 23)) (w.heap.size) 23 (.int .i64 (n)) (.int .i64 (d)) := f_1.alloc _
            clear f_1
            have g_2 : Two ((w.alloc (.cells #[.int .i64 (n), .int .i64 (d)] 23)).alloc (.cells #[.int .i64 (n), .int .i64 (d)] 23)) (w.heap.size + 1) 23 (.int .i64 (n)) (.int .i64 (d)) := Two.at (by simp) _ _ _
            have hBa2 : Below w.heap.size w ((w.alloc (.cells #[.int .i64 (n), .int .i64 (d)] 23)).alloc (.cells #[.int .i64 (n), .int .i64 (d)] 23)) := hBa1.alloc hBa1.size _
            clear hBa1
            go_wp2_with fail
            refine (head_any _ (hl.below hBa2)).mono ?_
            rintro r w1 ⟨rfl, hbc⟩
            have f_3 : Two w1 (w.heap.size) 23 (.int .i64 (n)) (.int .i64 (d)) := f_2.below hbc f_2.lt
            clear f_2
            have g_3 : Two w1 (w.heap.size + 1) 23 (.int .i64 (n)) (.int .i64 (d)) := g_2.below hbc g_2.lt
            clear g_2
            have hBa3 : Below w.heap.size w w1 := hBa2.trans (hbc.mono hBa2.size)
            clear hBa2 hbc
            obtain ⟨ff0, ff1, ff2, ff3⟩ := f_3.facts
            go_wp2_with fail
            refine (HTF.out _ (hl.below hBa3)).mono ?_
            rintro r w2 ⟨rfl, hbc⟩
            clear ff0
            clear ff1
            clear ff2
            clear ff3
            have f_4 : Two w2 (w.heap.size) 23 (.int .i64 (n)) (.int .i64 (d)) := f_3.below hbc f_3.lt
            clear f_3
            have g_4 : Two w2 (w.heap.size + 1) 23 (.int .i64 (n)) (.int .i64 (d)) := g_3.below hbc g_3.lt
            clear g_3
            have hBa4 : Below w.heap.size w w2 := hBa3.trans (hbc.mono hBa3.size)
            clear hBa3 hbc
            obtain ⟨gf0, gf1, gf2, gf3⟩ := g_4.facts
            go_wp2_with fail
            refine (HTF.out _ (hl.below hBa4)).mono ?_
            rintro r w3 ⟨rfl, hbc⟩
            clear gf0
            clear gf1
            clear gf2
            clear gf3
            have f_5 : Two w3 (w.heap.size) 23 (.int .i64 (n)) (.int .i64 (d)) := f_4.below hbc f_4.lt
            clear f_4
            have g_5 : Two w3 (w.heap.size + 1) 23 (.int .i64 (n)) (.int .i64 (d)) := g_4.below hbc g_4.lt
            clear g_4
            have hBa5 : Below w.heap.size w w3 := hBa4.trans (hbc.mono hBa4.size)
            clear hBa4 hbc
            obtain ⟨ff0, ff1, ff2, ff3⟩ := f_5.facts
            go_wp2_with fail
            refine (valid_yes _ _ hf _).mono ?_
            rintro r w4 ⟨rfl, hbc⟩
            clear ff0
            clear ff1
            clear ff2
            clear ff3
            have f_6 : Two w4 (w.heap.size) 23 (.int .i64 (n)) (.int .i64 (d)) := f_5.below hbc f_5.lt
            clear f_5
            have g_6 : Two w4 (w.heap.size + 1) 23 (.int .i64 (n)) (.int .i64 (d)) := g_5.below hbc g_5.lt
            clear g_5
            have hBa6 : Below w.heap.size w w4 := hBa5.trans (hbc.mono hBa5.size)
            clear hBa5 hbc
            obtain ⟨ff0, ff1, ff2, ff3⟩ := f_6.facts
            obtain ⟨gf0, gf1, gf2, gf3⟩ := g_6.facts
            go_wp2_with fail
            clear ff0
            clear ff1
            clear ff2
            clear ff3
            clear gf0
            clear gf1
            clear gf2
            clear gf3
            refine (HPF.out _ (hl.below hBa6)).mono ?_
            rintro r w5 ⟨rfl, hbc⟩
            have f_7 : Two w5 (w.heap.size) 23 (.int .i64 (n)) (.int .i64 (d)) := f_6.below hbc f_6.lt
            clear f_6
            have g_7 : Two w5 (w.heap.size + 1) 23 (.int .i64 (n)) (.int .i64 (d)) := g_6.below hbc g_6.lt
            clear g_6
            have hBa7 : Below w.heap.size w w5 := hBa6.trans (hbc.mono hBa6.size)
            clear hBa6 hbc
            have f_8 : Two (w5.alloc (.cells #[.int .i64 (n), .int .i64 (d)] 23)) (w.heap.size) 23 (.int .i64 (n)) (.int .i64 (d)) := f_7.alloc _
            clear f_7
            have g_8 : Two (w5.alloc (.cells #[.int .i64 (n), .int .i64 (d)] 23)) (w.heap.size + 1) 23 (.int .i64 (n)) (.int .i64 (d)) := g_7.alloc _
            clear g_7
            have x_8 : Two (w5.alloc (.cells #[.int .i64 (n), .int .i64 (d)] 23)) (w5.heap.size) 23 (.int .i64 (n)) (.int .i64 (d)) := Two.at (by simp) _ _ _
            have hBa8 : Below w.heap.size w (w5.alloc (.cells #[.int .i64 (n), .int .i64 (d)] 23)) := hBa7.alloc hBa7.size _
            clear hBa7
            obtain ⟨xf0, xf1, xf2, xf3⟩ := x_8.facts
            obtain ⟨ff0, ff1, ff2, ff3⟩ := f_8.facts
            go_wp2_with fail
            clear xf0
            clear xf1
            clear xf2
            clear xf3
            clear ff0
            clear ff1
            clear ff2
            clear ff3
            refine (HPT.out _ (hl.below hBa8)).mono ?_
            rintro r w6 ⟨rfl, hbc⟩
            have f_9 : Two w6 (w.heap.size) 23 (.int .i64 (n)) (.int .i64 (d)) := f_8.below hbc f_8.lt
            clear f_8
            have g_9 : Two w6 (w.heap.size + 1) 23 (.int .i64 (n)) (.int .i64 (d)) := g_8.below hbc g_8.lt
            clear g_8
            have x_9 : Two w6 (w5.heap.size) 23 (.int .i64 (n)) (.int .i64 (d)) := x_8.below hbc x_8.lt
            clear x_8
            have hBa9 : Below w.heap.size w w6 := hBa8.trans (hbc.mono hBa8.size)
            clear hBa8 hbc
            have f_10 : Two (w6.alloc (.cells #[.int .i64 (0), .int .i64 (0)] 23)) (w.heap.size) 23 (.int .i64 (n)) (.int .i64 (d)) := f_9.alloc _
            clear f_9
            have g_10 : Two (w6.alloc (.cells #[.int .i64 (0), .int .i64 (0)] 23)) (w.heap.size + 1) 23 (.int .i64 (n)) (.int .i64 (d)) := g_9.alloc _
            clear g_9
            have x_10 : Two (w6.alloc (.cells #[.int .i64 (0), .int .i64 (0)] 23)) (w5.heap.size) 23 (.int .i64 (n)) (.int .i64 (d)) := x_9.alloc _
            clear x_9
            have y_10 : Two (w6.alloc (.cells #[.int .i64 (0), .int .i64 (0)] 23)) (w6.heap.size) 23 (.int .i64 (0)) (.int .i64 (0)) := Two.at (by simp) _ _ _
            have hBa10 : Below w.heap.size w (w6.alloc (.cells #[.int .i64 (0), .int .i64 (0)] 23)) := hBa9.alloc hBa9.size _
            clear hBa9
            obtain ⟨yf0, yf1, yf2, yf3⟩ := y_10.facts
            go_wp2_with fail
            go_ret
            exact ⟨rfl, hBa10⟩
        · obtain ⟨T, hT, hT2, htg, -⟩ := text_yes m e hg
          have hST : (S.toList == T.toList) = false := ba_ne (fun k => hfg (text_inj hf hg (mk_inj (by rw [← hS, ← hT]; exact k))))
          have HTG := Lib.hid htg
          clear htg hS hT hT2
          have hEq : (n == m) = false ∨ ((n == m) = true ∧ (d == e) = false) := by
            by_cases h1 : n = m
            · exact .inr ⟨by simpa using h1, by rw [beq_eq_false_iff_ne]; exact fun h2 => hfg ⟨h1, h2⟩⟩
            · exact .inl (by simpa using h1)
          clear hfg
          rcases hEq with h1 | ⟨h1, h2⟩
          · skip
            rcases hpw with ⟨a, b, hpt, -, htx⟩ | hpt
            · have HPT := Lib.hid hpt
              have HTX := Lib.hid htx
              clear hpt htx
              go_enter Tryd.func7, Tryd.ntmps7
              have hB0 : Below w.heap.size w w := Below.refl w.heap.size w
              have f_1 : Two (w.alloc (.cells #[.int .i64 (n), .int .i64 (d)] 23)) (w.heap.size) 23 (.int .i64 (n)) (.int .i64 (d)) := Two.at (by simp) _ _ _
              have hBa1 : Below w.heap.size w (w.alloc (.cells #[.int .i64 (n), .int .i64 (d)] 23)) := hB0.alloc hB0.size _
              clear hB0
              have f_2 : Two ((w.alloc (.cells #[.int .i64 (n), .int .i64 (d)] 23)).alloc (.cells #[.int .i64 (m), .int .i64 (e)] 23)) (w.heap.size) 23 (.int .i64 (n)) (.int .i64 (d)) := f_1.alloc _
              clear f_1
              have g_2 : Two ((w.alloc (.cells #[.int .i64 (n), .int .i64 (d)] 23)).alloc (.cells #[.int .i64 (m), .int .i64 (e)] 23)) (w.heap.size + 1) 23 (.int .i64 (m)) (.int .i64 (e)) := Two.at (by simp) _ _ _
              have hBa2 : Below w.heap.size w ((w.alloc (.cells #[.int .i64 (n), .int .i64 (d)] 23)).alloc (.cells #[.int .i64 (m), .int .i64 (e)] 23)) := hBa1.alloc hBa1.size _
              clear hBa1
              go_wp2_with fail
              refine (head_any _ (hl.below hBa2)).mono ?_
              rintro r w1 ⟨rfl, hbc⟩
              have f_3 : Two w1 (w.heap.size) 23 (.int .i64 (n)) (.int .i64 (d)) := f_2.below hbc f_2.lt
              clear f_2
              have g_3 : Two w1 (w.heap.size + 1) 23 (.int .i64 (m)) (.int .i64 (e)) := g_2.below hbc g_2.lt
              clear g_2
              have hBa3 : Below w.heap.size w w1 := hBa2.trans (hbc.mono hBa2.size)
              clear hBa2 hbc
              obtain ⟨ff0, ff1, ff2, ff3⟩ := f_3.facts
              go_wp2_with fail
              refine (HTF.out _ (hl.below hBa3)).mono ?_
              rintro r w2 ⟨rfl, hbc⟩
              clear ff0
              clear ff1
              clear ff2
              clear ff3
              have f_4 : Two w2 (w.heap.size) 23 (.int .i64 (n)) (.int .i64 (d)) := f_3.below hbc f_3.lt
              clear f_3
              have g_4 : Two w2 (w.heap.size + 1) 23 (.int .i64 (m)) (.int .i64 (e)) := g_3.below hbc g_3.lt
              clear g_3
              have hBa4 : Below w.heap.size w w2 := hBa3.trans (hbc.mono hBa3.size)
              clear hBa3 hbc
              obtain ⟨gf0, gf1, gf2, gf3⟩ := g_4.facts
              go_wp2_with fail
              refine (HTG.out _ (hl.below hBa4)).mono ?_
              rintro r w3 ⟨rfl, hbc⟩
              clear gf0
              clear gf1
              clear gf2
              clear gf3
              have f_5 : Two w3 (w.heap.size) 23 (.int .i64 (n)) (.int .i64 (d)) := f_4.below hbc f_4.lt
              clear f_4
              have g_5 : Two w3 (w.heap.size + 1) 23 (.int .i64 (m)) (.int .i64 (e)) := g_4.below hbc g_4.lt
              clear g_4
              have hBa5 : Below w.heap.size w w3 := hBa4.trans (hbc.mono hBa4.size)
              clear hBa4 hbc
              obtain ⟨ff0, ff1, ff2, ff3⟩ := f_5.facts
              go_wp2_with fail
              refine (valid_yes _ _ hf _).mono ?_
              rintro r w4 ⟨rfl, hbc⟩
              clear ff0
              clear ff1
              clear ff2
              clear ff3
              have f_6 : Two w4 (w.heap.size) 23 (.int .i64 (n)) (.int .i64 (d)) := f_5.below hbc f_5.lt
              clear f_5
              have g_6 : Two w4 (w.heap.size + 1) 23 (.int .i64 (m)) (.int .i64 (e)) := g_5.below hbc g_5.lt
              clear g_5
              have hBa6 : Below w.heap.size w w4 := hBa5.trans (hbc.mono hBa5.size)
              clear hBa5 hbc
              obtain ⟨ff0, ff1, ff2, ff3⟩ := f_6.facts
              obtain ⟨gf0, gf1, gf2, gf3⟩ := g_6.facts
              go_wp2_with fail
              clear ff0
              clear ff1
              clear ff2
              clear ff3
              clear gf0
              clear gf1
              clear gf2
              clear gf3
              refine (HPF.out _ (hl.below hBa6)).mono ?_
              rintro r w5 ⟨rfl, hbc⟩
              have f_7 : Two w5 (w.heap.size) 23 (.int .i64 (n)) (.int .i64 (d)) := f_6.below hbc f_6.lt
              clear f_6
              have g_7 : Two w5 (w.heap.size + 1) 23 (.int .i64 (m)) (.int .i64 (e)) := g_6.below hbc g_6.lt
              clear g_6
              have hBa7 : Below w.heap.size w w5 := hBa6.trans (hbc.mono hBa6.size)
              clear hBa6 hbc
              have f_8 : Two (w5.alloc (.cells #[.int .i64 (n), .int .i64 (d)] 23)) (w.heap.size) 23 (.int .i64 (n)) (.int .i64 (d)) := f_7.alloc _
              clear f_7
              have g_8 : Two (w5.alloc (.cells #[.int .i64 (n), .int .i64 (d)] 23)) (w.heap.size + 1) 23 (.int .i64 (m)) (.int .i64 (e)) := g_7.alloc _
              clear g_7
              have x_8 : Two (w5.alloc (.cells #[.int .i64 (n), .int .i64 (d)] 23)) (w5.heap.size) 23 (.int .i64 (n)) (.int .i64 (d)) := Two.at (by simp) _ _ _
              have hBa8 : Below w.heap.size w (w5.alloc (.cells #[.int .i64 (n), .int .i64 (d)] 23)) := hBa7.alloc hBa7.size _
              clear hBa7
              obtain ⟨xf0, xf1, xf2, xf3⟩ := x_8.facts
              obtain ⟨ff0, ff1, ff2, ff3⟩ := f_8.facts
              go_wp2_with fail
              clear xf0
              clear xf1
              clear xf2
              clear xf3
              clear ff0
              clear ff1
              clear ff2
              clear ff3
              refine (HPT.out _ (hl.below hBa8)).mono ?_
              rintro r w6 ⟨rfl, hbc⟩
              have f_9 : Two w6 (w.heap.size) 23 (.int .i64 (n)) (.int .i64 (d)) := f_8.below hbc f_8.lt
              clear f_8
              have g_9 : Two w6 (w.heap.size + 1) 23 (.int .i64 (m)) (.int .i64 (e)) := g_8.below hbc g_8.lt
              clear g_8
              have x_9 : Two w6 (w5.heap.size) 23 (.int .i64 (n)) (.int .i64 (d)) := x_8.below hbc x_8.lt
              clear x_8
              have hBa9 : Below w.heap.size w w6 := hBa8.trans (hbc.mono hBa8.size)
              clear hBa8 hbc
              have f_10 : Two (w6.alloc (.cells #[.int .i64 (a), .int .i64 (b)] 23)) (w.heap.size) 23 (.int .i64 (n)) (.int .i64 (d)) := f_9.alloc _
              clear f_9
              have g_10 : Two (w6.alloc (.cells #[.int .i64 (a), .int .i64 (b)] 23)) (w.heap.size + 1) 23 (.int .i64 (m)) (.int .i64 (e)) := g_9.alloc _
              clear g_9
              have x_10 : Two (w6.alloc (.cells #[.int .i64 (a), .int .i64 (b)] 23)) (w5.heap.size) 23 (.int .i64 (n)) (.int .i64 (d)) := x_9.alloc _
              clear x_9
              have y_10 : Two (w6.alloc (.cells #[.int .i64 (a), .int .i64 (b)] 23)) (w6.heap.size) 23 (.int .i64 (a)) (.int .i64 (b)) := Two.at (by simp) _ _ _
              have hBa10 : Below w.heap.size w (w6.alloc (.cells #[.int .i64 (a), .int .i64 (b)] 23)) := hBa9.alloc hBa9.size _
              clear hBa9
              obtain ⟨yf0, yf1, yf2, yf3⟩ := y_10.facts
              go_wp2_with fail
              refine (HTX.out _ (hl.below hBa10)).mono ?_
              rintro r w7 ⟨rfl, hbc⟩
              clear yf0
              clear yf1
              clear yf2
              clear yf3
              have f_11 : Two w7 (w.heap.size) 23 (.int .i64 (n)) (.int .i64 (d)) := f_10.below hbc f_10.lt
              clear f_10
              have g_11 : Two w7 (w.heap.size + 1) 23 (.int .i64 (m)) (.int .i64 (e)) := g_10.below hbc g_10.lt
              clear g_10
              have x_11 : Two w7 (w5.heap.size) 23 (.int .i64 (n)) (.int .i64 (d)) := x_10.below hbc x_10.lt
              clear x_10
              have y_11 : Two w7 (w6.heap.size) 23 (.int .i64 (a)) (.int .i64 (b)) := y_10.below hbc y_10.lt
              clear y_10
              have hBa11 : Below w.heap.size w w7 := hBa10.trans (hbc.mono hBa10.size)
              clear hBa10 hbc
              go_wp2_with fail
              go_ret
              exact ⟨rfl, hBa11⟩
            · have HPT := Lib.hid hpt
              clear hpt
              go_enter Tryd.func7, Tryd.ntmps7
              have hB0 : Below w.heap.size w w := Below.refl w.heap.size w
              have f_1 : Two (w.alloc (.cells #[.int .i64 (n), .int .i64 (d)] 23)) (w.heap.size) 23 (.int .i64 (n)) (.int .i64 (d)) := Two.at (by simp) _ _ _
              have hBa1 : Below w.heap.size w (w.alloc (.cells #[.int .i64 (n), .int .i64 (d)] 23)) := hB0.alloc hB0.size _
              clear hB0
              have f_2 : Two ((w.alloc (.cells #[.int .i64 (n), .int .i64 (d)] 23)).alloc (.cells #[.int .i64 (m), .int .i64 (e)] 23)) (w.heap.size) 23 (.int .i64 (n)) (.int .i64 (d)) := f_1.alloc _
              clear f_1
              have g_2 : Two ((w.alloc (.cells #[.int .i64 (n), .int .i64 (d)] 23)).alloc (.cells #[.int .i64 (m), .int .i64 (e)] 23)) (w.heap.size + 1) 23 (.int .i64 (m)) (.int .i64 (e)) := Two.at (by simp) _ _ _
              have hBa2 : Below w.heap.size w ((w.alloc (.cells #[.int .i64 (n), .int .i64 (d)] 23)).alloc (.cells #[.int .i64 (m), .int .i64 (e)] 23)) := hBa1.alloc hBa1.size _
              clear hBa1
              go_wp2_with fail
              refine (head_any _ (hl.below hBa2)).mono ?_
              rintro r w1 ⟨rfl, hbc⟩
              have f_3 : Two w1 (w.heap.size) 23 (.int .i64 (n)) (.int .i64 (d)) := f_2.below hbc f_2.lt
              clear f_2
              have g_3 : Two w1 (w.heap.size + 1) 23 (.int .i64 (m)) (.int .i64 (e)) := g_2.below hbc g_2.lt
              clear g_2
              have hBa3 : Below w.heap.size w w1 := hBa2.trans (hbc.mono hBa2.size)
              clear hBa2 hbc
              obtain ⟨ff0, ff1, ff2, ff3⟩ := f_3.facts
              go_wp2_with fail
              refine (HTF.out _ (hl.below hBa3)).mono ?_
              rintro r w2 ⟨rfl, hbc⟩
              clear ff0
              clear ff1
              clear ff2
              clear ff3
              have f_4 : Two w2 (w.heap.size) 23 (.int .i64 (n)) (.int .i64 (d)) := f_3.below hbc f_3.lt
              clear f_3
              have g_4 : Two w2 (w.heap.size + 1) 23 (.int .i64 (m)) (.int .i64 (e)) := g_3.below hbc g_3.lt
              clear g_3
              have hBa4 : Below w.heap.size w w2 := hBa3.trans (hbc.mono hBa3.size)
              clear hBa3 hbc
              obtain ⟨gf0, gf1, gf2, gf3⟩ := g_4.facts
              go_wp2_with fail
              refine (HTG.out _ (hl.below hBa4)).mono ?_
              rintro r w3 ⟨rfl, hbc⟩
              clear gf0
              clear gf1
              clear gf2
              clear gf3
              have f_5 : Two w3 (w.heap.size) 23 (.int .i64 (n)) (.int .i64 (d)) := f_4.below hbc f_4.lt
              clear f_4
              have g_5 : Two w3 (w.heap.size + 1) 23 (.int .i64 (m)) (.int .i64 (e)) := g_4.below hbc g_4.lt
              clear g_4
              have hBa5 : Below w.heap.size w w3 := hBa4.trans (hbc.mono hBa4.size)
              clear hBa4 hbc
              obtain ⟨ff0, ff1, ff2, ff3⟩ := f_5.facts
              go_wp2_with fail
              refine (valid_yes _ _ hf _).mono ?_
              rintro r w4 ⟨rfl, hbc⟩
              clear ff0
              clear ff1
              clear ff2
              clear ff3
              have f_6 : Two w4 (w.heap.size) 23 (.int .i64 (n)) (.int .i64 (d)) := f_5.below hbc f_5.lt
              clear f_5
              have g_6 : Two w4 (w.heap.size + 1) 23 (.int .i64 (m)) (.int .i64 (e)) := g_5.below hbc g_5.lt
              clear g_5
              have hBa6 : Below w.heap.size w w4 := hBa5.trans (hbc.mono hBa5.size)
              clear hBa5 hbc
              obtain ⟨ff0, ff1, ff2, ff3⟩ := f_6.facts
              obtain ⟨gf0, gf1, gf2, gf3⟩ := g_6.facts
              go_wp2_with fail
              clear ff0
              clear ff1
              clear ff2
              clear ff3
              clear gf0
              clear gf1
              clear gf2
              clear gf3
              refine (HPF.out _ (hl.below hBa6)).mono ?_
              rintro r w5 ⟨rfl, hbc⟩
              have f_7 : Two w5 (w.heap.size) 23 (.int .i64 (n)) (.int .i64 (d)) := f_6.below hbc f_6.lt
              clear f_6
              have g_7 : Two w5 (w.heap.size + 1) 23 (.int .i64 (m)) (.int .i64 (e)) := g_6.below hbc g_6.lt
              clear g_6
              have hBa7 : Below w.heap.size w w5 := hBa6.trans (hbc.mono hBa6.size)
              clear hBa6 hbc
              have f_8 : Two (w5.alloc (.cells #[.int .i64 (n), .int .i64 (d)] 23)) (w.heap.size) 23 (.int .i64 (n)) (.int .i64 (d)) := f_7.alloc _
              clear f_7
              have g_8 : Two (w5.alloc (.cells #[.int .i64 (n), .int .i64 (d)] 23)) (w.heap.size + 1) 23 (.int .i64 (m)) (.int .i64 (e)) := g_7.alloc _
              clear g_7
              have x_8 : Two (w5.alloc (.cells #[.int .i64 (n), .int .i64 (d)] 23)) (w5.heap.size) 23 (.int .i64 (n)) (.int .i64 (d)) := Two.at (by simp) _ _ _
              have hBa8 : Below w.heap.size w (w5.alloc (.cells #[.int .i64 (n), .int .i64 (d)] 23)) := hBa7.alloc hBa7.size _
              clear hBa7
              obtain ⟨xf0, xf1, xf2, xf3⟩ := x_8.facts
              obtain ⟨ff0, ff1, ff2, ff3⟩ := f_8.facts
              go_wp2_with fail
              clear xf0
              clear xf1
              clear xf2
              clear xf3
              clear ff0
              clear ff1
              clear ff2
              clear ff3
              refine (HPT.out _ (hl.below hBa8)).mono ?_
              rintro r w6 ⟨rfl, hbc⟩
              have f_9 : Two w6 (w.heap.size) 23 (.int .i64 (n)) (.int .i64 (d)) := f_8.below hbc f_8.lt
              clear f_8
              have g_9 : Two w6 (w.heap.size + 1) 23 (.int .i64 (m)) (.int .i64 (e)) := g_8.below hbc g_8.lt
              clear g_8
              have x_9 : Two w6 (w5.heap.size) 23 (.int .i64 (n)) (.int .i64 (d)) := x_8.below hbc x_8.lt
              clear x_8
              have hBa9 : Below w.heap.size w w6 := hBa8.trans (hbc.mono hBa8.size)
              clear hBa8 hbc
              have f_10 : Two (w6.alloc (.cells #[.int .i64 (0), .int .i64 (0)] 23)) (w.heap.size) 23 (.int .i64 (n)) (.int .i64 (d)) := f_9.alloc _
              clear f_9
              have g_10 : Two (w6.alloc (.cells #[.int .i64 (0), .int .i64 (0)] 23)) (w.heap.size + 1) 23 (.int .i64 (m)) (.int .i64 (e)) := g_9.alloc _
              clear g_9
              have x_10 : Two (w6.alloc (.cells #[.int .i64 (0), .int .i64 (0)] 23)) (w5.heap.size) 23 (.int .i64 (n)) (.int .i64 (d)) := x_9.alloc _
              clear x_9
              have y_10 : Two (w6.alloc (.cells #[.int .i64 (0), .int .i64 (0)] 23)) (w6.heap.size) 23 (.int .i64 (0)) (.int .i64 (0)) := Two.at (by simp) _ _ _
              have hBa10 : Below w.heap.size w (w6.alloc (.cells #[.int .i64 (0), .int .i64 (0)] 23)) := hBa9.alloc hBa9.size _
              clear hBa9
              obtain ⟨yf0, yf1, yf2, yf3⟩ := y_10.facts
              go_wp2_with fail
              go_ret
              exact ⟨rfl, hBa10⟩
          · skip
            rcases hpw with ⟨a, b, hpt, -, htx⟩ | hpt
            · have HPT := Lib.hid hpt
              have HTX := Lib.hid htx
              clear hpt htx
              go_enter Tryd.func7, Tryd.ntmps7
              have hB0 : Below w.heap.size w w := Below.refl w.heap.size w
              have f_1 : Two (w.alloc (.cells #[.int .i64 (n), .int .i64 (d)] 23)) (w.heap.size) 23 (.int .i64 (n)) (.int .i64 (d)) := Two.at (by simp) _ _ _
              have hBa1 : Below w.heap.size w (w.alloc (.cells #[.int .i64 (n), .int .i64 (d)] 23)) := hB0.alloc hB0.size _
              clear hB0
              have f_2 : Two ((w.alloc (.cells #[.int .i64 (n), .int .i64 (d)] 23)).alloc (.cells #[.int .i64 (m), .int .i64 (e)] 23)) (w.heap.size) 23 (.int .i64 (n)) (.int .i64 (d)) := f_1.alloc _
              clear f_1
              have g_2 : Two ((w.alloc (.cells #[.int .i64 (n), .int .i64 (d)] 23)).alloc (.cells #[.int .i64 (m), .int .i64 (e)] 23)) (w.heap.size + 1) 23 (.int .i64 (m)) (.int .i64 (e)) := Two.at (by simp) _ _ _
              have hBa2 : Below w.heap.size w ((w.alloc (.cells #[.int .i64 (n), .int .i64 (d)] 23)).alloc (.cells #[.int .i64 (m), .int .i64 (e)] 23)) := hBa1.alloc hBa1.size _
              clear hBa1
              go_wp2_with fail
              refine (head_any _ (hl.below hBa2)).mono ?_
              rintro r w1 ⟨rfl, hbc⟩
              have f_3 : Two w1 (w.heap.size) 23 (.int .i64 (n)) (.int .i64 (d)) := f_2.below hbc f_2.lt
              clear f_2
              have g_3 : Two w1 (w.heap.size + 1) 23 (.int .i64 (m)) (.int .i64 (e)) := g_2.below hbc g_2.lt
              clear g_2
              have hBa3 : Below w.heap.size w w1 := hBa2.trans (hbc.mono hBa2.size)
              clear hBa2 hbc
              obtain ⟨ff0, ff1, ff2, ff3⟩ := f_3.facts
              go_wp2_with fail
              refine (HTF.out _ (hl.below hBa3)).mono ?_
              rintro r w2 ⟨rfl, hbc⟩
              clear ff0
              clear ff1
              clear ff2
              clear ff3
              have f_4 : Two w2 (w.heap.size) 23 (.int .i64 (n)) (.int .i64 (d)) := f_3.below hbc f_3.lt
              clear f_3
              have g_4 : Two w2 (w.heap.size + 1) 23 (.int .i64 (m)) (.int .i64 (e)) := g_3.below hbc g_3.lt
              clear g_3
              have hBa4 : Below w.heap.size w w2 := hBa3.trans (hbc.mono hBa3.size)
              clear hBa3 hbc
              obtain ⟨gf0, gf1, gf2, gf3⟩ := g_4.facts
              go_wp2_with fail
              refine (HTG.out _ (hl.below hBa4)).mono ?_
              rintro r w3 ⟨rfl, hbc⟩
              clear gf0
              clear gf1
              clear gf2
              clear gf3
              have f_5 : Two w3 (w.heap.size) 23 (.int .i64 (n)) (.int .i64 (d)) := f_4.below hbc f_4.lt
              clear f_4
              have g_5 : Two w3 (w.heap.size + 1) 23 (.int .i64 (m)) (.int .i64 (e)) := g_4.below hbc g_4.lt
              clear g_4
              have hBa5 : Below w.heap.size w w3 := hBa4.trans (hbc.mono hBa4.size)
              clear hBa4 hbc
              obtain ⟨ff0, ff1, ff2, ff3⟩ := f_5.facts
              go_wp2_with fail
              refine (valid_yes _ _ hf _).mono ?_
              rintro r w4 ⟨rfl, hbc⟩
              clear ff0
              clear ff1
              clear ff2
              clear ff3
              have f_6 : Two w4 (w.heap.size) 23 (.int .i64 (n)) (.int .i64 (d)) := f_5.below hbc f_5.lt
              clear f_5
              have g_6 : Two w4 (w.heap.size + 1) 23 (.int .i64 (m)) (.int .i64 (e)) := g_5.below hbc g_5.lt
              clear g_5
              have hBa6 : Below w.heap.size w w4 := hBa5.trans (hbc.mono hBa5.size)
              clear hBa5 hbc
              obtain ⟨ff0, ff1, ff2, ff3⟩ := f_6.facts
              obtain ⟨gf0, gf1, gf2, gf3⟩ := g_6.facts
              go_wp2_with fail
              clear ff0
              clear ff1
              clear ff2
              clear ff3
              clear gf0
              clear gf1
              clear gf2
              clear gf3
              refine (HPF.out _ (hl.below hBa6)).mono ?_
              rintro r w5 ⟨rfl, hbc⟩
              have f_7 : Two w5 (w.heap.size) 23 (.int .i64 (n)) (.int .i64 (d)) := f_6.below hbc f_6.lt
              clear f_6
              have g_7 : Two w5 (w.heap.size + 1) 23 (.int .i64 (m)) (.int .i64 (e)) := g_6.below hbc g_6.lt
              clear g_6
              have hBa7 : Below w.heap.size w w5 := hBa6.trans (hbc.mono hBa6.size)
              clear hBa6 hbc
              have f_8 : Two (w5.alloc (.cells #[.int .i64 (n), .int .i64 (d)] 23)) (w.heap.size) 23 (.int .i64 (n)) (.int .i64 (d)) := f_7.alloc _
              clear f_7
              have g_8 : Two (w5.alloc (.cells #[.int .i64 (n), .int .i64 (d)] 23)) (w.heap.size + 1) 23 (.int .i64 (m)) (.int .i64 (e)) := g_7.alloc _
              clear g_7
              have x_8 : Two (w5.alloc (.cells #[.int .i64 (n), .int .i64 (d)] 23)) (w5.heap.size) 23 (.int .i64 (n)) (.int .i64 (d)) := Two.at (by simp) _ _ _
              have hBa8 : Below w.heap.size w (w5.alloc (.cells #[.int .i64 (n), .int .i64 (d)] 23)) := hBa7.alloc hBa7.size _
              clear hBa7
              obtain ⟨xf0, xf1, xf2, xf3⟩ := x_8.facts
              obtain ⟨ff0, ff1, ff2, ff3⟩ := f_8.facts
              go_wp2_with fail
              clear xf0
              clear xf1
              clear xf2
              clear xf3
              clear ff0
              clear ff1
              clear ff2
              clear ff3
              refine (HPT.out _ (hl.below hBa8)).mono ?_
              rintro r w6 ⟨rfl, hbc⟩
              have f_9 : Two w6 (w.heap.size) 23 (.int .i64 (n)) (.int .i64 (d)) := f_8.below hbc f_8.lt
              clear f_8
              have g_9 : Two w6 (w.heap.size + 1) 23 (.int .i64 (m)) (.int .i64 (e)) := g_8.below hbc g_8.lt
              clear g_8
              have x_9 : Two w6 (w5.heap.size) 23 (.int .i64 (n)) (.int .i64 (d)) := x_8.below hbc x_8.lt
              clear x_8
              have hBa9 : Below w.heap.size w w6 := hBa8.trans (hbc.mono hBa8.size)
              clear hBa8 hbc
              have f_10 : Two (w6.alloc (.cells #[.int .i64 (a), .int .i64 (b)] 23)) (w.heap.size) 23 (.int .i64 (n)) (.int .i64 (d)) := f_9.alloc _
              clear f_9
              have g_10 : Two (w6.alloc (.cells #[.int .i64 (a), .int .i64 (b)] 23)) (w.heap.size + 1) 23 (.int .i64 (m)) (.int .i64 (e)) := g_9.alloc _
              clear g_9
              have x_10 : Two (w6.alloc (.cells #[.int .i64 (a), .int .i64 (b)] 23)) (w5.heap.size) 23 (.int .i64 (n)) (.int .i64 (d)) := x_9.alloc _
              clear x_9
              have y_10 : Two (w6.alloc (.cells #[.int .i64 (a), .int .i64 (b)] 23)) (w6.heap.size) 23 (.int .i64 (a)) (.int .i64 (b)) := Two.at (by simp) _ _ _
              have hBa10 : Below w.heap.size w (w6.alloc (.cells #[.int .i64 (a), .int .i64 (b)] 23)) := hBa9.alloc hBa9.size _
              clear hBa9
              obtain ⟨yf0, yf1, yf2, yf3⟩ := y_10.facts
              go_wp2_with fail
              refine (HTX.out _ (hl.below hBa10)).mono ?_
              rintro r w7 ⟨rfl, hbc⟩
              clear yf0
              clear yf1
              clear yf2
              clear yf3
              have f_11 : Two w7 (w.heap.size) 23 (.int .i64 (n)) (.int .i64 (d)) := f_10.below hbc f_10.lt
              clear f_10
              have g_11 : Two w7 (w.heap.size + 1) 23 (.int .i64 (m)) (.int .i64 (e)) := g_10.below hbc g_10.lt
              clear g_10
              have x_11 : Two w7 (w5.heap.size) 23 (.int .i64 (n)) (.int .i64 (d)) := x_10.below hbc x_10.lt
              clear x_10
              have y_11 : Two w7 (w6.heap.size) 23 (.int .i64 (a)) (.int .i64 (b)) := y_10.below hbc y_10.lt
              clear y_10
              have hBa11 : Below w.heap.size w w7 := hBa10.trans (hbc.mono hBa10.size)
              clear hBa10 hbc
              go_wp2_with fail
              go_ret
              exact ⟨rfl, hBa11⟩
            · have HPT := Lib.hid hpt
              clear hpt
              go_enter Tryd.func7, Tryd.ntmps7
              have hB0 : Below w.heap.size w w := Below.refl w.heap.size w
              have f_1 : Two (w.alloc (.cells #[.int .i64 (n), .int .i64 (d)] 23)) (w.heap.size) 23 (.int .i64 (n)) (.int .i64 (d)) := Two.at (by simp) _ _ _
              have hBa1 : Below w.heap.size w (w.alloc (.cells #[.int .i64 (n), .int .i64 (d)] 23)) := hB0.alloc hB0.size _
              clear hB0
              have f_2 : Two ((w.alloc (.cells #[.int .i64 (n), .int .i64 (d)] 23)).alloc (.cells #[.int .i64 (m), .int .i64 (e)] 23)) (w.heap.size) 23 (.int .i64 (n)) (.int .i64 (d)) := f_1.alloc _
              clear f_1
              have g_2 : Two ((w.alloc (.cells #[.int .i64 (n), .int .i64 (d)] 23)).alloc (.cells #[.int .i64 (m), .int .i64 (e)] 23)) (w.heap.size + 1) 23 (.int .i64 (m)) (.int .i64 (e)) := Two.at (by simp) _ _ _
              have hBa2 : Below w.heap.size w ((w.alloc (.cells #[.int .i64 (n), .int .i64 (d)] 23)).alloc (.cells #[.int .i64 (m), .int .i64 (e)] 23)) := hBa1.alloc hBa1.size _
              clear hBa1
              go_wp2_with fail
              refine (head_any _ (hl.below hBa2)).mono ?_
              rintro r w1 ⟨rfl, hbc⟩
              have f_3 : Two w1 (w.heap.size) 23 (.int .i64 (n)) (.int .i64 (d)) := f_2.below hbc f_2.lt
              clear f_2
              have g_3 : Two w1 (w.heap.size + 1) 23 (.int .i64 (m)) (.int .i64 (e)) := g_2.below hbc g_2.lt
              clear g_2
              have hBa3 : Below w.heap.size w w1 := hBa2.trans (hbc.mono hBa2.size)
              clear hBa2 hbc
              obtain ⟨ff0, ff1, ff2, ff3⟩ := f_3.facts
              go_wp2_with fail
              refine (HTF.out _ (hl.below hBa3)).mono ?_
              rintro r w2 ⟨rfl, hbc⟩
              clear ff0
              clear ff1
              clear ff2
              clear ff3
              have f_4 : Two w2 (w.heap.size) 23 (.int .i64 (n)) (.int .i64 (d)) := f_3.below hbc f_3.lt
              clear f_3
              have g_4 : Two w2 (w.heap.size + 1) 23 (.int .i64 (m)) (.int .i64 (e)) := g_3.below hbc g_3.lt
              clear g_3
              have hBa4 : Below w.heap.size w w2 := hBa3.trans (hbc.mono hBa3.size)
              clear hBa3 hbc
              obtain ⟨gf0, gf1, gf2, gf3⟩ := g_4.facts
              go_wp2_with fail
              refine (HTG.out _ (hl.below hBa4)).mono ?_
              rintro r w3 ⟨rfl, hbc⟩
              clear gf0
              clear gf1
              clear gf2
              clear gf3
              have f_5 : Two w3 (w.heap.size) 23 (.int .i64 (n)) (.int .i64 (d)) := f_4.below hbc f_4.lt
              clear f_4
              have g_5 : Two w3 (w.heap.size + 1) 23 (.int .i64 (m)) (.int .i64 (e)) := g_4.below hbc g_4.lt
              clear g_4
              have hBa5 : Below w.heap.size w w3 := hBa4.trans (hbc.mono hBa4.size)
              clear hBa4 hbc
              obtain ⟨ff0, ff1, ff2, ff3⟩ := f_5.facts
              go_wp2_with fail
              refine (valid_yes _ _ hf _).mono ?_
              rintro r w4 ⟨rfl, hbc⟩
              clear ff0
              clear ff1
              clear ff2
              clear ff3
              have f_6 : Two w4 (w.heap.size) 23 (.int .i64 (n)) (.int .i64 (d)) := f_5.below hbc f_5.lt
              clear f_5
              have g_6 : Two w4 (w.heap.size + 1) 23 (.int .i64 (m)) (.int .i64 (e)) := g_5.below hbc g_5.lt
              clear g_5
              have hBa6 : Below w.heap.size w w4 := hBa5.trans (hbc.mono hBa5.size)
              clear hBa5 hbc
              obtain ⟨ff0, ff1, ff2, ff3⟩ := f_6.facts
              obtain ⟨gf0, gf1, gf2, gf3⟩ := g_6.facts
              go_wp2_with fail
              clear ff0
              clear ff1
              clear ff2
              clear ff3
              clear gf0
              clear gf1
              clear gf2
              clear gf3
              refine (HPF.out _ (hl.below hBa6)).mono ?_
              rintro r w5 ⟨rfl, hbc⟩
              have f_7 : Two w5 (w.heap.size) 23 (.int .i64 (n)) (.int .i64 (d)) := f_6.below hbc f_6.lt
              clear f_6
              have g_7 : Two w5 (w.heap.size + 1) 23 (.int .i64 (m)) (.int .i64 (e)) := g_6.below hbc g_6.lt
              clear g_6
              have hBa7 : Below w.heap.size w w5 := hBa6.trans (hbc.mono hBa6.size)
              clear hBa6 hbc
              have f_8 : Two (w5.alloc (.cells #[.int .i64 (n), .int .i64 (d)] 23)) (w.heap.size) 23 (.int .i64 (n)) (.int .i64 (d)) := f_7.alloc _
              clear f_7
              have g_8 : Two (w5.alloc (.cells #[.int .i64 (n), .int .i64 (d)] 23)) (w.heap.size + 1) 23 (.int .i64 (m)) (.int .i64 (e)) := g_7.alloc _
              clear g_7
              have x_8 : Two (w5.alloc (.cells #[.int .i64 (n), .int .i64 (d)] 23)) (w5.heap.size) 23 (.int .i64 (n)) (.int .i64 (d)) := Two.at (by simp) _ _ _
              have hBa8 : Below w.heap.size w (w5.alloc (.cells #[.int .i64 (n), .int .i64 (d)] 23)) := hBa7.alloc hBa7.size _
              clear hBa7
              obtain ⟨xf0, xf1, xf2, xf3⟩ := x_8.facts
              obtain ⟨ff0, ff1, ff2, ff3⟩ := f_8.facts
              go_wp2_with fail
              clear xf0
              clear xf1
              clear xf2
              clear xf3
              clear ff0
              clear ff1
              clear ff2
              clear ff3
              refine (HPT.out _ (hl.below hBa8)).mono ?_
              rintro r w6 ⟨rfl, hbc⟩
              have f_9 : Two w6 (w.heap.size) 23 (.int .i64 (n)) (.int .i64 (d)) := f_8.below hbc f_8.lt
              clear f_8
              have g_9 : Two w6 (w.heap.size + 1) 23 (.int .i64 (m)) (.int .i64 (e)) := g_8.below hbc g_8.lt
              clear g_8
              have x_9 : Two w6 (w5.heap.size) 23 (.int .i64 (n)) (.int .i64 (d)) := x_8.below hbc x_8.lt
              clear x_8
              have hBa9 : Below w.heap.size w w6 := hBa8.trans (hbc.mono hBa8.size)
              clear hBa8 hbc
              have f_10 : Two (w6.alloc (.cells #[.int .i64 (0), .int .i64 (0)] 23)) (w.heap.size) 23 (.int .i64 (n)) (.int .i64 (d)) := f_9.alloc _
              clear f_9
              have g_10 : Two (w6.alloc (.cells #[.int .i64 (0), .int .i64 (0)] 23)) (w.heap.size + 1) 23 (.int .i64 (m)) (.int .i64 (e)) := g_9.alloc _
              clear g_9
              have x_10 : Two (w6.alloc (.cells #[.int .i64 (0), .int .i64 (0)] 23)) (w5.heap.size) 23 (.int .i64 (n)) (.int .i64 (d)) := x_9.alloc _
              clear x_9
              have y_10 : Two (w6.alloc (.cells #[.int .i64 (0), .int .i64 (0)] 23)) (w6.heap.size) 23 (.int .i64 (0)) (.int .i64 (0)) := Two.at (by simp) _ _ _
              have hBa10 : Below w.heap.size w (w6.alloc (.cells #[.int .i64 (0), .int .i64 (0)] 23)) := hBa9.alloc hBa9.size _
              clear hBa9
              obtain ⟨yf0, yf1, yf2, yf3⟩ := y_10.facts
              go_wp2_with fail
              go_ret
              exact ⟨rfl, hBa10⟩
      · skip
        clear hS
        rcases hpw with ⟨a, b, hpt, -, htx⟩ | hpt
        · have HPT := Lib.hid hpt
          have HTX := Lib.hid htx
          clear hpt htx
          go_enter Tryd.func7, Tryd.ntmps7
          have hB0 : Below w.heap.size w w := Below.refl w.heap.size w
          have f_1 : Two (w.alloc (.cells #[.int .i64 (n), .int .i64 (d)] 23)) (w.heap.size) 23 (.int .i64 (n)) (.int .i64 (d)) := Two.at (by simp) _ _ _
          have hBa1 : Below w.heap.size w (w.alloc (.cells #[.int .i64 (n), .int .i64 (d)] 23)) := hB0.alloc hB0.size _
          clear hB0
          have f_2 : Two ((w.alloc (.cells #[.int .i64 (n), .int .i64 (d)] 23)).alloc (.cells #[.int .i64 (m), .int .i64 (e)] 23)) (w.heap.size) 23 (.int .i64 (n)) (.int .i64 (d)) := f_1.alloc _
          clear f_1
          have g_2 : Two ((w.alloc (.cells #[.int .i64 (n), .int .i64 (d)] 23)).alloc (.cells #[.int .i64 (m), .int .i64 (e)] 23)) (w.heap.size + 1) 23 (.int .i64 (m)) (.int .i64 (e)) := Two.at (by simp) _ _ _
          have hBa2 : Below w.heap.size w ((w.alloc (.cells #[.int .i64 (n), .int .i64 (d)] 23)).alloc (.cells #[.int .i64 (m), .int .i64 (e)] 23)) := hBa1.alloc hBa1.size _
          clear hBa1
          go_wp2_with fail
          refine (head_any _ (hl.below hBa2)).mono ?_
          rintro r w1 ⟨rfl, hbc⟩
          have f_3 : Two w1 (w.heap.size) 23 (.int .i64 (n)) (.int .i64 (d)) := f_2.below hbc f_2.lt
          clear f_2
          have g_3 : Two w1 (w.heap.size + 1) 23 (.int .i64 (m)) (.int .i64 (e)) := g_2.below hbc g_2.lt
          clear g_2
          have hBa3 : Below w.heap.size w w1 := hBa2.trans (hbc.mono hBa2.size)
          clear hBa2 hbc
          obtain ⟨ff0, ff1, ff2, ff3⟩ := f_3.facts
          go_wp2_with fail
          refine (HTF.out _ (hl.below hBa3)).mono ?_
          rintro r w2 ⟨rfl, hbc⟩
          clear ff0
          clear ff1
          clear ff2
          clear ff3
          have f_4 : Two w2 (w.heap.size) 23 (.int .i64 (n)) (.int .i64 (d)) := f_3.below hbc f_3.lt
          clear f_3
          have g_4 : Two w2 (w.heap.size + 1) 23 (.int .i64 (m)) (.int .i64 (e)) := g_3.below hbc g_3.lt
          clear g_3
          have hBa4 : Below w.heap.size w w2 := hBa3.trans (hbc.mono hBa3.size)
          clear hBa3 hbc
          obtain ⟨gf0, gf1, gf2, gf3⟩ := g_4.facts
          go_wp2_with fail
          refine (text_no _ _ hg _ (hl.below hBa4)).mono ?_
          rintro r w3 ⟨rfl, hbc⟩
          clear gf0
          clear gf1
          clear gf2
          clear gf3
          have f_5 : Two w3 (w.heap.size) 23 (.int .i64 (n)) (.int .i64 (d)) := f_4.below hbc f_4.lt
          clear f_4
          have g_5 : Two w3 (w.heap.size + 1) 23 (.int .i64 (m)) (.int .i64 (e)) := g_4.below hbc g_4.lt
          clear g_4
          have hBa5 : Below w.heap.size w w3 := hBa4.trans (hbc.mono hBa4.size)
          clear hBa4 hbc
          obtain ⟨ff0, ff1, ff2, ff3⟩ := f_5.facts
          go_wp2_with fail
          refine (valid_yes _ _ hf _).mono ?_
          rintro r w4 ⟨rfl, hbc⟩
          clear ff0
          clear ff1
          clear ff2
          clear ff3
          have f_6 : Two w4 (w.heap.size) 23 (.int .i64 (n)) (.int .i64 (d)) := f_5.below hbc f_5.lt
          clear f_5
          have g_6 : Two w4 (w.heap.size + 1) 23 (.int .i64 (m)) (.int .i64 (e)) := g_5.below hbc g_5.lt
          clear g_5
          have hBa6 : Below w.heap.size w w4 := hBa5.trans (hbc.mono hBa5.size)
          clear hBa5 hbc
          obtain ⟨ff0, ff1, ff2, ff3⟩ := f_6.facts
          obtain ⟨gf0, gf1, gf2, gf3⟩ := g_6.facts
          go_wp2_with fail
          clear ff0
          clear ff1
          clear ff2
          clear ff3
          clear gf0
          clear gf1
          clear gf2
          clear gf3
          refine (HPF.out _ (hl.below hBa6)).mono ?_
          rintro r w5 ⟨rfl, hbc⟩
          have f_7 : Two w5 (w.heap.size) 23 (.int .i64 (n)) (.int .i64 (d)) := f_6.below hbc f_6.lt
          clear f_6
          have g_7 : Two w5 (w.heap.size + 1) 23 (.int .i64 (m)) (.int .i64 (e)) := g_6.below hbc g_6.lt
          clear g_6
          have hBa7 : Below w.heap.size w w5 := hBa6.trans (hbc.mono hBa6.size)
          clear hBa6 hbc
          have f_8 : Two (w5.alloc (.cells #[.int .i64 (n), .int .i64 (d)] 23)) (w.heap.size) 23 (.int .i64 (n)) (.int .i64 (d)) := f_7.alloc _
          clear f_7
          have g_8 : Two (w5.alloc (.cells #[.int .i64 (n), .int .i64 (d)] 23)) (w.heap.size + 1) 23 (.int .i64 (m)) (.int .i64 (e)) := g_7.alloc _
          clear g_7
          have x_8 : Two (w5.alloc (.cells #[.int .i64 (n), .int .i64 (d)] 23)) (w5.heap.size) 23 (.int .i64 (n)) (.int .i64 (d)) := Two.at (by simp) _ _ _
          have hBa8 : Below w.heap.size w (w5.alloc (.cells #[.int .i64 (n), .int .i64 (d)] 23)) := hBa7.alloc hBa7.size _
          clear hBa7
          obtain ⟨xf0, xf1, xf2, xf3⟩ := x_8.facts
          obtain ⟨ff0, ff1, ff2, ff3⟩ := f_8.facts
          go_wp2_with fail
          clear xf0
          clear xf1
          clear xf2
          clear xf3
          clear ff0
          clear ff1
          clear ff2
          clear ff3
          refine (HPT.out _ (hl.below hBa8)).mono ?_
          rintro r w6 ⟨rfl, hbc⟩
          have f_9 : Two w6 (w.heap.size) 23 (.int .i64 (n)) (.int .i64 (d)) := f_8.below hbc f_8.lt
          clear f_8
          have g_9 : Two w6 (w.heap.size + 1) 23 (.int .i64 (m)) (.int .i64 (e)) := g_8.below hbc g_8.lt
          clear g_8
          have x_9 : Two w6 (w5.heap.size) 23 (.int .i64 (n)) (.int .i64 (d)) := x_8.below hbc x_8.lt
          clear x_8
          have hBa9 : Below w.heap.size w w6 := hBa8.trans (hbc.mono hBa8.size)
          clear hBa8 hbc
          have f_10 : Two (w6.alloc (.cells #[.int .i64 (a), .int .i64 (b)] 23)) (w.heap.size) 23 (.int .i64 (n)) (.int .i64 (d)) := f_9.alloc _
          clear f_9
          have g_10 : Two (w6.alloc (.cells #[.int .i64 (a), .int .i64 (b)] 23)) (w.heap.size + 1) 23 (.int .i64 (m)) (.int .i64 (e)) := g_9.alloc _
          clear g_9
          have x_10 : Two (w6.alloc (.cells #[.int .i64 (a), .int .i64 (b)] 23)) (w5.heap.size) 23 (.int .i64 (n)) (.int .i64 (d)) := x_9.alloc _
          clear x_9
          have y_10 : Two (w6.alloc (.cells #[.int .i64 (a), .int .i64 (b)] 23)) (w6.heap.size) 23 (.int .i64 (a)) (.int .i64 (b)) := Two.at (by simp) _ _ _
          have hBa10 : Below w.heap.size w (w6.alloc (.cells #[.int .i64 (a), .int .i64 (b)] 23)) := hBa9.alloc hBa9.size _
          clear hBa9
          obtain ⟨yf0, yf1, yf2, yf3⟩ := y_10.facts
          go_wp2_with fail
          refine (HTX.out _ (hl.below hBa10)).mono ?_
          rintro r w7 ⟨rfl, hbc⟩
          clear yf0
          clear yf1
          clear yf2
          clear yf3
          have f_11 : Two w7 (w.heap.size) 23 (.int .i64 (n)) (.int .i64 (d)) := f_10.below hbc f_10.lt
          clear f_10
          have g_11 : Two w7 (w.heap.size + 1) 23 (.int .i64 (m)) (.int .i64 (e)) := g_10.below hbc g_10.lt
          clear g_10
          have x_11 : Two w7 (w5.heap.size) 23 (.int .i64 (n)) (.int .i64 (d)) := x_10.below hbc x_10.lt
          clear x_10
          have y_11 : Two w7 (w6.heap.size) 23 (.int .i64 (a)) (.int .i64 (b)) := y_10.below hbc y_10.lt
          clear y_10
          have hBa11 : Below w.heap.size w w7 := hBa10.trans (hbc.mono hBa10.size)
          clear hBa10 hbc
          go_wp2_with fail
          go_ret
          exact ⟨rfl, hBa11⟩
        · have HPT := Lib.hid hpt
          clear hpt
          go_enter Tryd.func7, Tryd.ntmps7
          have hB0 : Below w.heap.size w w := Below.refl w.heap.size w
          have f_1 : Two (w.alloc (.cells #[.int .i64 (n), .int .i64 (d)] 23)) (w.heap.size) 23 (.int .i64 (n)) (.int .i64 (d)) := Two.at (by simp) _ _ _
          have hBa1 : Below w.heap.size w (w.alloc (.cells #[.int .i64 (n), .int .i64 (d)] 23)) := hB0.alloc hB0.size _
          clear hB0
          have f_2 : Two ((w.alloc (.cells #[.int .i64 (n), .int .i64 (d)] 23)).alloc (.cells #[.int .i64 (m), .int .i64 (e)] 23)) (w.heap.size) 23 (.int .i64 (n)) (.int .i64 (d)) := f_1.alloc _
          clear f_1
          have g_2 : Two ((w.alloc (.cells #[.int .i64 (n), .int .i64 (d)] 23)).alloc (.cells #[.int .i64 (m), .int .i64 (e)] 23)) (w.heap.size + 1) 23 (.int .i64 (m)) (.int .i64 (e)) := Two.at (by simp) _ _ _
          have hBa2 : Below w.heap.size w ((w.alloc (.cells #[.int .i64 (n), .int .i64 (d)] 23)).alloc (.cells #[.int .i64 (m), .int .i64 (e)] 23)) := hBa1.alloc hBa1.size _
          clear hBa1
          go_wp2_with fail
          refine (head_any _ (hl.below hBa2)).mono ?_
          rintro r w1 ⟨rfl, hbc⟩
          have f_3 : Two w1 (w.heap.size) 23 (.int .i64 (n)) (.int .i64 (d)) := f_2.below hbc f_2.lt
          clear f_2
          have g_3 : Two w1 (w.heap.size + 1) 23 (.int .i64 (m)) (.int .i64 (e)) := g_2.below hbc g_2.lt
          clear g_2
          have hBa3 : Below w.heap.size w w1 := hBa2.trans (hbc.mono hBa2.size)
          clear hBa2 hbc
          obtain ⟨ff0, ff1, ff2, ff3⟩ := f_3.facts
          go_wp2_with fail
          refine (HTF.out _ (hl.below hBa3)).mono ?_
          rintro r w2 ⟨rfl, hbc⟩
          clear ff0
          clear ff1
          clear ff2
          clear ff3
          have f_4 : Two w2 (w.heap.size) 23 (.int .i64 (n)) (.int .i64 (d)) := f_3.below hbc f_3.lt
          clear f_3
          have g_4 : Two w2 (w.heap.size + 1) 23 (.int .i64 (m)) (.int .i64 (e)) := g_3.below hbc g_3.lt
          clear g_3
          have hBa4 : Below w.heap.size w w2 := hBa3.trans (hbc.mono hBa3.size)
          clear hBa3 hbc
          obtain ⟨gf0, gf1, gf2, gf3⟩ := g_4.facts
          go_wp2_with fail
          refine (text_no _ _ hg _ (hl.below hBa4)).mono ?_
          rintro r w3 ⟨rfl, hbc⟩
          clear gf0
          clear gf1
          clear gf2
          clear gf3
          have f_5 : Two w3 (w.heap.size) 23 (.int .i64 (n)) (.int .i64 (d)) := f_4.below hbc f_4.lt
          clear f_4
          have g_5 : Two w3 (w.heap.size + 1) 23 (.int .i64 (m)) (.int .i64 (e)) := g_4.below hbc g_4.lt
          clear g_4
          have hBa5 : Below w.heap.size w w3 := hBa4.trans (hbc.mono hBa4.size)
          clear hBa4 hbc
          obtain ⟨ff0, ff1, ff2, ff3⟩ := f_5.facts
          go_wp2_with fail
          refine (valid_yes _ _ hf _).mono ?_
          rintro r w4 ⟨rfl, hbc⟩
          clear ff0
          clear ff1
          clear ff2
          clear ff3
          have f_6 : Two w4 (w.heap.size) 23 (.int .i64 (n)) (.int .i64 (d)) := f_5.below hbc f_5.lt
          clear f_5
          have g_6 : Two w4 (w.heap.size + 1) 23 (.int .i64 (m)) (.int .i64 (e)) := g_5.below hbc g_5.lt
          clear g_5
          have hBa6 : Below w.heap.size w w4 := hBa5.trans (hbc.mono hBa5.size)
          clear hBa5 hbc
          obtain ⟨ff0, ff1, ff2, ff3⟩ := f_6.facts
          obtain ⟨gf0, gf1, gf2, gf3⟩ := g_6.facts
          go_wp2_with fail
          clear ff0
          clear ff1
          clear ff2
          clear ff3
          clear gf0
          clear gf1
          clear gf2
          clear gf3
          refine (HPF.out _ (hl.below hBa6)).mono ?_
          rintro r w5 ⟨rfl, hbc⟩
          have f_7 : Two w5 (w.heap.size) 23 (.int .i64 (n)) (.int .i64 (d)) := f_6.below hbc f_6.lt
          clear f_6
          have g_7 : Two w5 (w.heap.size + 1) 23 (.int .i64 (m)) (.int .i64 (e)) := g_6.below hbc g_6.lt
          clear g_6
          have hBa7 : Below w.heap.size w w5 := hBa6.trans (hbc.mono hBa6.size)
          clear hBa6 hbc
          have f_8 : Two (w5.alloc (.cells #[.int .i64 (n), .int .i64 (d)] 23)) (w.heap.size) 23 (.int .i64 (n)) (.int .i64 (d)) := f_7.alloc _
          clear f_7
          have g_8 : Two (w5.alloc (.cells #[.int .i64 (n), .int .i64 (d)] 23)) (w.heap.size + 1) 23 (.int .i64 (m)) (.int .i64 (e)) := g_7.alloc _
          clear g_7
          have x_8 : Two (w5.alloc (.cells #[.int .i64 (n), .int .i64 (d)] 23)) (w5.heap.size) 23 (.int .i64 (n)) (.int .i64 (d)) := Two.at (by simp) _ _ _
          have hBa8 : Below w.heap.size w (w5.alloc (.cells #[.int .i64 (n), .int .i64 (d)] 23)) := hBa7.alloc hBa7.size _
          clear hBa7
          obtain ⟨xf0, xf1, xf2, xf3⟩ := x_8.facts
          obtain ⟨ff0, ff1, ff2, ff3⟩ := f_8.facts
          go_wp2_with fail
          clear xf0
          clear xf1
          clear xf2
          clear xf3
          clear ff0
          clear ff1
          clear ff2
          clear ff3
          refine (HPT.out _ (hl.below hBa8)).mono ?_
          rintro r w6 ⟨rfl, hbc⟩
          have f_9 : Two w6 (w.heap.size) 23 (.int .i64 (n)) (.int .i64 (d)) := f_8.below hbc f_8.lt
          clear f_8
          have g_9 : Two w6 (w.heap.size + 1) 23 (.int .i64 (m)) (.int .i64 (e)) := g_8.below hbc g_8.lt
          clear g_8
          have x_9 : Two w6 (w5.heap.size) 23 (.int .i64 (n)) (.int .i64 (d)) := x_8.below hbc x_8.lt
          clear x_8
          have hBa9 : Below w.heap.size w w6 := hBa8.trans (hbc.mono hBa8.size)
          clear hBa8 hbc
          have f_10 : Two (w6.alloc (.cells #[.int .i64 (0), .int .i64 (0)] 23)) (w.heap.size) 23 (.int .i64 (n)) (.int .i64 (d)) := f_9.alloc _
          clear f_9
          have g_10 : Two (w6.alloc (.cells #[.int .i64 (0), .int .i64 (0)] 23)) (w.heap.size + 1) 23 (.int .i64 (m)) (.int .i64 (e)) := g_9.alloc _
          clear g_9
          have x_10 : Two (w6.alloc (.cells #[.int .i64 (0), .int .i64 (0)] 23)) (w5.heap.size) 23 (.int .i64 (n)) (.int .i64 (d)) := x_9.alloc _
          clear x_9
          have y_10 : Two (w6.alloc (.cells #[.int .i64 (0), .int .i64 (0)] 23)) (w6.heap.size) 23 (.int .i64 (0)) (.int .i64 (0)) := Two.at (by simp) _ _ _
          have hBa10 : Below w.heap.size w (w6.alloc (.cells #[.int .i64 (0), .int .i64 (0)] 23)) := hBa9.alloc hBa9.size _
          clear hBa9
          obtain ⟨yf0, yf1, yf2, yf3⟩ := y_10.facts
          go_wp2_with fail
          go_ret
          exact ⟨rfl, hBa10⟩
    · by_cases hg : valP m e
      · obtain ⟨T, -, -, htg, -⟩ := text_yes m e hg
        have HTG := Lib.hid htg
        clear htg
        rcases hpw with ⟨a, b, hpt, -, htx⟩ | hpt
        · have HPT := Lib.hid hpt
          have HTX := Lib.hid htx
          clear hpt htx
          go_enter Tryd.func7, Tryd.ntmps7
          have hB0 : Below w.heap.size w w := Below.refl w.heap.size w
          have f_1 : Two (w.alloc (.cells #[.int .i64 (n), .int .i64 (d)] 23)) (w.heap.size) 23 (.int .i64 (n)) (.int .i64 (d)) := Two.at (by simp) _ _ _
          have hBa1 : Below w.heap.size w (w.alloc (.cells #[.int .i64 (n), .int .i64 (d)] 23)) := hB0.alloc hB0.size _
          clear hB0
          have f_2 : Two ((w.alloc (.cells #[.int .i64 (n), .int .i64 (d)] 23)).alloc (.cells #[.int .i64 (m), .int .i64 (e)] 23)) (w.heap.size) 23 (.int .i64 (n)) (.int .i64 (d)) := f_1.alloc _
          clear f_1
          have g_2 : Two ((w.alloc (.cells #[.int .i64 (n), .int .i64 (d)] 23)).alloc (.cells #[.int .i64 (m), .int .i64 (e)] 23)) (w.heap.size + 1) 23 (.int .i64 (m)) (.int .i64 (e)) := Two.at (by simp) _ _ _
          have hBa2 : Below w.heap.size w ((w.alloc (.cells #[.int .i64 (n), .int .i64 (d)] 23)).alloc (.cells #[.int .i64 (m), .int .i64 (e)] 23)) := hBa1.alloc hBa1.size _
          clear hBa1
          go_wp2_with fail
          refine (head_any _ (hl.below hBa2)).mono ?_
          rintro r w1 ⟨rfl, hbc⟩
          have f_3 : Two w1 (w.heap.size) 23 (.int .i64 (n)) (.int .i64 (d)) := f_2.below hbc f_2.lt
          clear f_2
          have g_3 : Two w1 (w.heap.size + 1) 23 (.int .i64 (m)) (.int .i64 (e)) := g_2.below hbc g_2.lt
          clear g_2
          have hBa3 : Below w.heap.size w w1 := hBa2.trans (hbc.mono hBa2.size)
          clear hBa2 hbc
          obtain ⟨ff0, ff1, ff2, ff3⟩ := f_3.facts
          go_wp2_with fail
          refine (text_no _ _ hf _ (hl.below hBa3)).mono ?_
          rintro r w2 ⟨rfl, hbc⟩
          clear ff0
          clear ff1
          clear ff2
          clear ff3
          have f_4 : Two w2 (w.heap.size) 23 (.int .i64 (n)) (.int .i64 (d)) := f_3.below hbc f_3.lt
          clear f_3
          have g_4 : Two w2 (w.heap.size + 1) 23 (.int .i64 (m)) (.int .i64 (e)) := g_3.below hbc g_3.lt
          clear g_3
          have hBa4 : Below w.heap.size w w2 := hBa3.trans (hbc.mono hBa3.size)
          clear hBa3 hbc
          obtain ⟨gf0, gf1, gf2, gf3⟩ := g_4.facts
          go_wp2_with fail
          refine (HTG.out _ (hl.below hBa4)).mono ?_
          rintro r w3 ⟨rfl, hbc⟩
          clear gf0
          clear gf1
          clear gf2
          clear gf3
          have f_5 : Two w3 (w.heap.size) 23 (.int .i64 (n)) (.int .i64 (d)) := f_4.below hbc f_4.lt
          clear f_4
          have g_5 : Two w3 (w.heap.size + 1) 23 (.int .i64 (m)) (.int .i64 (e)) := g_4.below hbc g_4.lt
          clear g_4
          have hBa5 : Below w.heap.size w w3 := hBa4.trans (hbc.mono hBa4.size)
          clear hBa4 hbc
          obtain ⟨ff0, ff1, ff2, ff3⟩ := f_5.facts
          go_wp2_with fail
          refine (valid_no _ _ hf _).mono ?_
          rintro r w4 ⟨rfl, hbc⟩
          clear ff0
          clear ff1
          clear ff2
          clear ff3
          have f_6 : Two w4 (w.heap.size) 23 (.int .i64 (n)) (.int .i64 (d)) := f_5.below hbc f_5.lt
          clear f_5
          have g_6 : Two w4 (w.heap.size + 1) 23 (.int .i64 (m)) (.int .i64 (e)) := g_5.below hbc g_5.lt
          clear g_5
          have hBa6 : Below w.heap.size w w4 := hBa5.trans (hbc.mono hBa5.size)
          clear hBa5 hbc
          obtain ⟨ff0, ff1, ff2, ff3⟩ := f_6.facts
          obtain ⟨gf0, gf1, gf2, gf3⟩ := g_6.facts
          go_wp2_with fail
          clear ff0
          clear ff1
          clear ff2
          clear ff3
          clear gf0
          clear gf1
          clear gf2
          clear gf3
          refine (HPT.out _ (hl.below hBa6)).mono ?_
          rintro r w5 ⟨rfl, hbc⟩
          have f_7 : Two w5 (w.heap.size) 23 (.int .i64 (n)) (.int .i64 (d)) := f_6.below hbc f_6.lt
          clear f_6
          have g_7 : Two w5 (w.heap.size + 1) 23 (.int .i64 (m)) (.int .i64 (e)) := g_6.below hbc g_6.lt
          clear g_6
          have hBa7 : Below w.heap.size w w5 := hBa6.trans (hbc.mono hBa6.size)
          clear hBa6 hbc
          have f_8 : Two (w5.alloc (.cells #[.int .i64 (a), .int .i64 (b)] 23)) (w.heap.size) 23 (.int .i64 (n)) (.int .i64 (d)) := f_7.alloc _
          clear f_7
          have g_8 : Two (w5.alloc (.cells #[.int .i64 (a), .int .i64 (b)] 23)) (w.heap.size + 1) 23 (.int .i64 (m)) (.int .i64 (e)) := g_7.alloc _
          clear g_7
          have y_8 : Two (w5.alloc (.cells #[.int .i64 (a), .int .i64 (b)] 23)) (w5.heap.size) 23 (.int .i64 (a)) (.int .i64 (b)) := Two.at (by simp) _ _ _
          have hBa8 : Below w.heap.size w (w5.alloc (.cells #[.int .i64 (a), .int .i64 (b)] 23)) := hBa7.alloc hBa7.size _
          clear hBa7
          obtain ⟨yf0, yf1, yf2, yf3⟩ := y_8.facts
          go_wp2_with fail
          refine (HTX.out _ (hl.below hBa8)).mono ?_
          rintro r w6 ⟨rfl, hbc⟩
          clear yf0
          clear yf1
          clear yf2
          clear yf3
          have f_9 : Two w6 (w.heap.size) 23 (.int .i64 (n)) (.int .i64 (d)) := f_8.below hbc f_8.lt
          clear f_8
          have g_9 : Two w6 (w.heap.size + 1) 23 (.int .i64 (m)) (.int .i64 (e)) := g_8.below hbc g_8.lt
          clear g_8
          have y_9 : Two w6 (w5.heap.size) 23 (.int .i64 (a)) (.int .i64 (b)) := y_8.below hbc y_8.lt
          clear y_8
          have hBa9 : Below w.heap.size w w6 := hBa8.trans (hbc.mono hBa8.size)
          clear hBa8 hbc
          go_wp2_with fail
          go_ret
          exact ⟨rfl, hBa9⟩
        · have HPT := Lib.hid hpt
          clear hpt
          go_enter Tryd.func7, Tryd.ntmps7
          have hB0 : Below w.heap.size w w := Below.refl w.heap.size w
          have f_1 : Two (w.alloc (.cells #[.int .i64 (n), .int .i64 (d)] 23)) (w.heap.size) 23 (.int .i64 (n)) (.int .i64 (d)) := Two.at (by simp) _ _ _
          have hBa1 : Below w.heap.size w (w.alloc (.cells #[.int .i64 (n), .int .i64 (d)] 23)) := hB0.alloc hB0.size _
          clear hB0
          have f_2 : Two ((w.alloc (.cells #[.int .i64 (n), .int .i64 (d)] 23)).alloc (.cells #[.int .i64 (m), .int .i64 (e)] 23)) (w.heap.size) 23 (.int .i64 (n)) (.int .i64 (d)) := f_1.alloc _
          clear f_1
          have g_2 : Two ((w.alloc (.cells #[.int .i64 (n), .int .i64 (d)] 23)).alloc (.cells #[.int .i64 (m), .int .i64 (e)] 23)) (w.heap.size + 1) 23 (.int .i64 (m)) (.int .i64 (e)) := Two.at (by simp) _ _ _
          have hBa2 : Below w.heap.size w ((w.alloc (.cells #[.int .i64 (n), .int .i64 (d)] 23)).alloc (.cells #[.int .i64 (m), .int .i64 (e)] 23)) := hBa1.alloc hBa1.size _
          clear hBa1
          go_wp2_with fail
          refine (head_any _ (hl.below hBa2)).mono ?_
          rintro r w1 ⟨rfl, hbc⟩
          have f_3 : Two w1 (w.heap.size) 23 (.int .i64 (n)) (.int .i64 (d)) := f_2.below hbc f_2.lt
          clear f_2
          have g_3 : Two w1 (w.heap.size + 1) 23 (.int .i64 (m)) (.int .i64 (e)) := g_2.below hbc g_2.lt
          clear g_2
          have hBa3 : Below w.heap.size w w1 := hBa2.trans (hbc.mono hBa2.size)
          clear hBa2 hbc
          obtain ⟨ff0, ff1, ff2, ff3⟩ := f_3.facts
          go_wp2_with fail
          refine (text_no _ _ hf _ (hl.below hBa3)).mono ?_
          rintro r w2 ⟨rfl, hbc⟩
          clear ff0
          clear ff1
          clear ff2
          clear ff3
          have f_4 : Two w2 (w.heap.size) 23 (.int .i64 (n)) (.int .i64 (d)) := f_3.below hbc f_3.lt
          clear f_3
          have g_4 : Two w2 (w.heap.size + 1) 23 (.int .i64 (m)) (.int .i64 (e)) := g_3.below hbc g_3.lt
          clear g_3
          have hBa4 : Below w.heap.size w w2 := hBa3.trans (hbc.mono hBa3.size)
          clear hBa3 hbc
          obtain ⟨gf0, gf1, gf2, gf3⟩ := g_4.facts
          go_wp2_with fail
          refine (HTG.out _ (hl.below hBa4)).mono ?_
          rintro r w3 ⟨rfl, hbc⟩
          clear gf0
          clear gf1
          clear gf2
          clear gf3
          have f_5 : Two w3 (w.heap.size) 23 (.int .i64 (n)) (.int .i64 (d)) := f_4.below hbc f_4.lt
          clear f_4
          have g_5 : Two w3 (w.heap.size + 1) 23 (.int .i64 (m)) (.int .i64 (e)) := g_4.below hbc g_4.lt
          clear g_4
          have hBa5 : Below w.heap.size w w3 := hBa4.trans (hbc.mono hBa4.size)
          clear hBa4 hbc
          obtain ⟨ff0, ff1, ff2, ff3⟩ := f_5.facts
          go_wp2_with fail
          refine (valid_no _ _ hf _).mono ?_
          rintro r w4 ⟨rfl, hbc⟩
          clear ff0
          clear ff1
          clear ff2
          clear ff3
          have f_6 : Two w4 (w.heap.size) 23 (.int .i64 (n)) (.int .i64 (d)) := f_5.below hbc f_5.lt
          clear f_5
          have g_6 : Two w4 (w.heap.size + 1) 23 (.int .i64 (m)) (.int .i64 (e)) := g_5.below hbc g_5.lt
          clear g_5
          have hBa6 : Below w.heap.size w w4 := hBa5.trans (hbc.mono hBa5.size)
          clear hBa5 hbc
          obtain ⟨ff0, ff1, ff2, ff3⟩ := f_6.facts
          obtain ⟨gf0, gf1, gf2, gf3⟩ := g_6.facts
          go_wp2_with fail
          clear ff0
          clear ff1
          clear ff2
          clear ff3
          clear gf0
          clear gf1
          clear gf2
          clear gf3
          refine (HPT.out _ (hl.below hBa6)).mono ?_
          rintro r w5 ⟨rfl, hbc⟩
          have f_7 : Two w5 (w.heap.size) 23 (.int .i64 (n)) (.int .i64 (d)) := f_6.below hbc f_6.lt
          clear f_6
          have g_7 : Two w5 (w.heap.size + 1) 23 (.int .i64 (m)) (.int .i64 (e)) := g_6.below hbc g_6.lt
          clear g_6
          have hBa7 : Below w.heap.size w w5 := hBa6.trans (hbc.mono hBa6.size)
          clear hBa6 hbc
          have f_8 : Two (w5.alloc (.cells #[.int .i64 (0), .int .i64 (0)] 23)) (w.heap.size) 23 (.int .i64 (n)) (.int .i64 (d)) := f_7.alloc _
          clear f_7
          have g_8 : Two (w5.alloc (.cells #[.int .i64 (0), .int .i64 (0)] 23)) (w.heap.size + 1) 23 (.int .i64 (m)) (.int .i64 (e)) := g_7.alloc _
          clear g_7
          have y_8 : Two (w5.alloc (.cells #[.int .i64 (0), .int .i64 (0)] 23)) (w5.heap.size) 23 (.int .i64 (0)) (.int .i64 (0)) := Two.at (by simp) _ _ _
          have hBa8 : Below w.heap.size w (w5.alloc (.cells #[.int .i64 (0), .int .i64 (0)] 23)) := hBa7.alloc hBa7.size _
          clear hBa7
          obtain ⟨yf0, yf1, yf2, yf3⟩ := y_8.facts
          go_wp2_with fail
          go_ret
          exact ⟨rfl, hBa8⟩
      · skip
        rcases hpw with ⟨a, b, hpt, -, htx⟩ | hpt
        · have HPT := Lib.hid hpt
          have HTX := Lib.hid htx
          clear hpt htx
          go_enter Tryd.func7, Tryd.ntmps7
          have hB0 : Below w.heap.size w w := Below.refl w.heap.size w
          have f_1 : Two (w.alloc (.cells #[.int .i64 (n), .int .i64 (d)] 23)) (w.heap.size) 23 (.int .i64 (n)) (.int .i64 (d)) := Two.at (by simp) _ _ _
          have hBa1 : Below w.heap.size w (w.alloc (.cells #[.int .i64 (n), .int .i64 (d)] 23)) := hB0.alloc hB0.size _
          clear hB0
          have f_2 : Two ((w.alloc (.cells #[.int .i64 (n), .int .i64 (d)] 23)).alloc (.cells #[.int .i64 (m), .int .i64 (e)] 23)) (w.heap.size) 23 (.int .i64 (n)) (.int .i64 (d)) := f_1.alloc _
          clear f_1
          have g_2 : Two ((w.alloc (.cells #[.int .i64 (n), .int .i64 (d)] 23)).alloc (.cells #[.int .i64 (m), .int .i64 (e)] 23)) (w.heap.size + 1) 23 (.int .i64 (m)) (.int .i64 (e)) := Two.at (by simp) _ _ _
          have hBa2 : Below w.heap.size w ((w.alloc (.cells #[.int .i64 (n), .int .i64 (d)] 23)).alloc (.cells #[.int .i64 (m), .int .i64 (e)] 23)) := hBa1.alloc hBa1.size _
          clear hBa1
          go_wp2_with fail
          refine (head_any _ (hl.below hBa2)).mono ?_
          rintro r w1 ⟨rfl, hbc⟩
          have f_3 : Two w1 (w.heap.size) 23 (.int .i64 (n)) (.int .i64 (d)) := f_2.below hbc f_2.lt
          clear f_2
          have g_3 : Two w1 (w.heap.size + 1) 23 (.int .i64 (m)) (.int .i64 (e)) := g_2.below hbc g_2.lt
          clear g_2
          have hBa3 : Below w.heap.size w w1 := hBa2.trans (hbc.mono hBa2.size)
          clear hBa2 hbc
          obtain ⟨ff0, ff1, ff2, ff3⟩ := f_3.facts
          go_wp2_with fail
          refine (text_no _ _ hf _ (hl.below hBa3)).mono ?_
          rintro r w2 ⟨rfl, hbc⟩
          clear ff0
          clear ff1
          clear ff2
          clear ff3
          have f_4 : Two w2 (w.heap.size) 23 (.int .i64 (n)) (.int .i64 (d)) := f_3.below hbc f_3.lt
          clear f_3
          have g_4 : Two w2 (w.heap.size + 1) 23 (.int .i64 (m)) (.int .i64 (e)) := g_3.below hbc g_3.lt
          clear g_3
          have hBa4 : Below w.heap.size w w2 := hBa3.trans (hbc.mono hBa3.size)
          clear hBa3 hbc
          obtain ⟨gf0, gf1, gf2, gf3⟩ := g_4.facts
          go_wp2_with fail
          refine (text_no _ _ hg _ (hl.below hBa4)).mono ?_
          rintro r w3 ⟨rfl, hbc⟩
          clear gf0
          clear gf1
          clear gf2
          clear gf3
          have f_5 : Two w3 (w.heap.size) 23 (.int .i64 (n)) (.int .i64 (d)) := f_4.below hbc f_4.lt
          clear f_4
          have g_5 : Two w3 (w.heap.size + 1) 23 (.int .i64 (m)) (.int .i64 (e)) := g_4.below hbc g_4.lt
          clear g_4
          have hBa5 : Below w.heap.size w w3 := hBa4.trans (hbc.mono hBa4.size)
          clear hBa4 hbc
          obtain ⟨ff0, ff1, ff2, ff3⟩ := f_5.facts
          go_wp2_with fail
          refine (valid_no _ _ hf _).mono ?_
          rintro r w4 ⟨rfl, hbc⟩
          clear ff0
          clear ff1
          clear ff2
          clear ff3
          have f_6 : Two w4 (w.heap.size) 23 (.int .i64 (n)) (.int .i64 (d)) := f_5.below hbc f_5.lt
          clear f_5
          have g_6 : Two w4 (w.heap.size + 1) 23 (.int .i64 (m)) (.int .i64 (e)) := g_5.below hbc g_5.lt
          clear g_5
          have hBa6 : Below w.heap.size w w4 := hBa5.trans (hbc.mono hBa5.size)
          clear hBa5 hbc
          obtain ⟨ff0, ff1, ff2, ff3⟩ := f_6.facts
          obtain ⟨gf0, gf1, gf2, gf3⟩ := g_6.facts
          go_wp2_with fail
          clear ff0
          clear ff1
          clear ff2
          clear ff3
          clear gf0
          clear gf1
          clear gf2
          clear gf3
          refine (HPT.out _ (hl.below hBa6)).mono ?_
          rintro r w5 ⟨rfl, hbc⟩
          have f_7 : Two w5 (w.heap.size) 23 (.int .i64 (n)) (.int .i64 (d)) := f_6.below hbc f_6.lt
          clear f_6
          have g_7 : Two w5 (w.heap.size + 1) 23 (.int .i64 (m)) (.int .i64 (e)) := g_6.below hbc g_6.lt
          clear g_6
          have hBa7 : Below w.heap.size w w5 := hBa6.trans (hbc.mono hBa6.size)
          clear hBa6 hbc
          have f_8 : Two (w5.alloc (.cells #[.int .i64 (a), .int .i64 (b)] 23)) (w.heap.size) 23 (.int .i64 (n)) (.int .i64 (d)) := f_7.alloc _
          clear f_7
          have g_8 : Two (w5.alloc (.cells #[.int .i64 (a), .int .i64 (b)] 23)) (w.heap.size + 1) 23 (.int .i64 (m)) (.int .i64 (e)) := g_7.alloc _
          clear g_7
          have y_8 : Two (w5.alloc (.cells #[.int .i64 (a), .int .i64 (b)] 23)) (w5.heap.size) 23 (.int .i64 (a)) (.int .i64 (b)) := Two.at (by simp) _ _ _
          have hBa8 : Below w.heap.size w (w5.alloc (.cells #[.int .i64 (a), .int .i64 (b)] 23)) := hBa7.alloc hBa7.size _
          clear hBa7
          obtain ⟨yf0, yf1, yf2, yf3⟩ := y_8.facts
          go_wp2_with fail
          refine (HTX.out _ (hl.below hBa8)).mono ?_
          rintro r w6 ⟨rfl, hbc⟩
          clear yf0
          clear yf1
          clear yf2
          clear yf3
          have f_9 : Two w6 (w.heap.size) 23 (.int .i64 (n)) (.int .i64 (d)) := f_8.below hbc f_8.lt
          clear f_8
          have g_9 : Two w6 (w.heap.size + 1) 23 (.int .i64 (m)) (.int .i64 (e)) := g_8.below hbc g_8.lt
          clear g_8
          have y_9 : Two w6 (w5.heap.size) 23 (.int .i64 (a)) (.int .i64 (b)) := y_8.below hbc y_8.lt
          clear y_8
          have hBa9 : Below w.heap.size w w6 := hBa8.trans (hbc.mono hBa8.size)
          clear hBa8 hbc
          go_wp2_with fail
          go_ret
          exact ⟨rfl, hBa9⟩
        · have HPT := Lib.hid hpt
          clear hpt
          go_enter Tryd.func7, Tryd.ntmps7
          have hB0 : Below w.heap.size w w := Below.refl w.heap.size w
          have f_1 : Two (w.alloc (.cells #[.int .i64 (n), .int .i64 (d)] 23)) (w.heap.size) 23 (.int .i64 (n)) (.int .i64 (d)) := Two.at (by simp) _ _ _
          have hBa1 : Below w.heap.size w (w.alloc (.cells #[.int .i64 (n), .int .i64 (d)] 23)) := hB0.alloc hB0.size _
          clear hB0
          have f_2 : Two ((w.alloc (.cells #[.int .i64 (n), .int .i64 (d)] 23)).alloc (.cells #[.int .i64 (m), .int .i64 (e)] 23)) (w.heap.size) 23 (.int .i64 (n)) (.int .i64 (d)) := f_1.alloc _
          clear f_1
          have g_2 : Two ((w.alloc (.cells #[.int .i64 (n), .int .i64 (d)] 23)).alloc (.cells #[.int .i64 (m), .int .i64 (e)] 23)) (w.heap.size + 1) 23 (.int .i64 (m)) (.int .i64 (e)) := Two.at (by simp) _ _ _
          have hBa2 : Below w.heap.size w ((w.alloc (.cells #[.int .i64 (n), .int .i64 (d)] 23)).alloc (.cells #[.int .i64 (m), .int .i64 (e)] 23)) := hBa1.alloc hBa1.size _
          clear hBa1
          go_wp2_with fail
          refine (head_any _ (hl.below hBa2)).mono ?_
          rintro r w1 ⟨rfl, hbc⟩
          have f_3 : Two w1 (w.heap.size) 23 (.int .i64 (n)) (.int .i64 (d)) := f_2.below hbc f_2.lt
          clear f_2
          have g_3 : Two w1 (w.heap.size + 1) 23 (.int .i64 (m)) (.int .i64 (e)) := g_2.below hbc g_2.lt
          clear g_2
          have hBa3 : Below w.heap.size w w1 := hBa2.trans (hbc.mono hBa2.size)
          clear hBa2 hbc
          obtain ⟨ff0, ff1, ff2, ff3⟩ := f_3.facts
          go_wp2_with fail
          refine (text_no _ _ hf _ (hl.below hBa3)).mono ?_
          rintro r w2 ⟨rfl, hbc⟩
          clear ff0
          clear ff1
          clear ff2
          clear ff3
          have f_4 : Two w2 (w.heap.size) 23 (.int .i64 (n)) (.int .i64 (d)) := f_3.below hbc f_3.lt
          clear f_3
          have g_4 : Two w2 (w.heap.size + 1) 23 (.int .i64 (m)) (.int .i64 (e)) := g_3.below hbc g_3.lt
          clear g_3
          have hBa4 : Below w.heap.size w w2 := hBa3.trans (hbc.mono hBa3.size)
          clear hBa3 hbc
          obtain ⟨gf0, gf1, gf2, gf3⟩ := g_4.facts
          go_wp2_with fail
          refine (text_no _ _ hg _ (hl.below hBa4)).mono ?_
          rintro r w3 ⟨rfl, hbc⟩
          clear gf0
          clear gf1
          clear gf2
          clear gf3
          have f_5 : Two w3 (w.heap.size) 23 (.int .i64 (n)) (.int .i64 (d)) := f_4.below hbc f_4.lt
          clear f_4
          have g_5 : Two w3 (w.heap.size + 1) 23 (.int .i64 (m)) (.int .i64 (e)) := g_4.below hbc g_4.lt
          clear g_4
          have hBa5 : Below w.heap.size w w3 := hBa4.trans (hbc.mono hBa4.size)
          clear hBa4 hbc
          obtain ⟨ff0, ff1, ff2, ff3⟩ := f_5.facts
          go_wp2_with fail
          refine (valid_no _ _ hf _).mono ?_
          rintro r w4 ⟨rfl, hbc⟩
          clear ff0
          clear ff1
          clear ff2
          clear ff3
          have f_6 : Two w4 (w.heap.size) 23 (.int .i64 (n)) (.int .i64 (d)) := f_5.below hbc f_5.lt
          clear f_5
          have g_6 : Two w4 (w.heap.size + 1) 23 (.int .i64 (m)) (.int .i64 (e)) := g_5.below hbc g_5.lt
          clear g_5
          have hBa6 : Below w.heap.size w w4 := hBa5.trans (hbc.mono hBa5.size)
          clear hBa5 hbc
          obtain ⟨ff0, ff1, ff2, ff3⟩ := f_6.facts
          obtain ⟨gf0, gf1, gf2, gf3⟩ := g_6.facts
          go_wp2_with fail
          clear ff0
          clear ff1
          clear ff2
          clear ff3
          clear gf0
          clear gf1
          clear gf2
          clear gf3
          refine (HPT.out _ (hl.below hBa6)).mono ?_
          rintro r w5 ⟨rfl, hbc⟩
          have f_7 : Two w5 (w.heap.size) 23 (.int .i64 (n)) (.int .i64 (d)) := f_6.below hbc f_6.lt
          clear f_6
          have g_7 : Two w5 (w.heap.size + 1) 23 (.int .i64 (m)) (.int .i64 (e)) := g_6.below hbc g_6.lt
          clear g_6
          have hBa7 : Below w.heap.size w w5 := hBa6.trans (hbc.mono hBa6.size)
          clear hBa6 hbc
          have f_8 : Two (w5.alloc (.cells #[.int .i64 (0), .int .i64 (0)] 23)) (w.heap.size) 23 (.int .i64 (n)) (.int .i64 (d)) := f_7.alloc _
          clear f_7
          have g_8 : Two (w5.alloc (.cells #[.int .i64 (0), .int .i64 (0)] 23)) (w.heap.size + 1) 23 (.int .i64 (m)) (.int .i64 (e)) := g_7.alloc _
          clear g_7
          have y_8 : Two (w5.alloc (.cells #[.int .i64 (0), .int .i64 (0)] 23)) (w5.heap.size) 23 (.int .i64 (0)) (.int .i64 (0)) := Two.at (by simp) _ _ _
          have hBa8 : Below w.heap.size w (w5.alloc (.cells #[.int .i64 (0), .int .i64 (0)] 23)) := hBa7.alloc hBa7.size _
          clear hBa7
          obtain ⟨yf0, yf1, yf2, yf3⟩ := y_8.facts
          go_wp2_with fail
          go_ret
          exact ⟨rfl, hBa8⟩
end Go.Proofs.YtflnhjfmlminoaaDoor.Fr
