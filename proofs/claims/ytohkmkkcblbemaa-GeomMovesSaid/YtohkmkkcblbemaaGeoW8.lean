/- Walks over package geom: quotients. -/
import Derived.Test.YtohkmkkcblbemaaGeoQuo
import Derived.Test.YtohkmkkcblbemaaGeoW4
import Derived.Test.YtohkmkkcblbemaaFrcW9
namespace Go.Proofs.Ytohkmkkcblbemaa.Ge
set_option linter.unusedVariables false
set_option linter.unusedSimpArgs false
open Go.RowKit
open Go.Proofs.Ytohkmkkcblbemaa.Fr (Two of_any)

theorem quo_any (a b : Int) (ha : 0 ≤ a) (hb : 1 ≤ b) (ha2 : a ≤ 4611686018427387904) (hb2 : b ≤ 4611686018427387904) (w : World) :
    Calls Try.prog 44 #[.int .i64 a, .int .i64 b] w fun e w' => e = .returned (.agg #[.int .i64 (qN a b), .int .i64 (qD a b)]) ∧ Below w.heap.size w w' := by
  have HO := Lib.hid (fun w => of_any a b (by omega) (by omega) (by omega) (by omega) w)
  obtain ⟨e1, e2, e3⟩ := of_quo ha hb ha2 hb2
  rw [e1, e2, e3] at HO
  clear e1 e2 e3
  generalize qN a b = N at *
  generalize qD a b = D at *
  have o1 := Two.new w 30 (.int .i64 0) (.int .i64 0)
  have hb0 := (Below.refl w.heap.size w).alloc (Nat.le_refl _) (.cells #[.int .i64 0, .int .i64 0] 30)
  go_enter Try.func44, Try.ntmps44
  go_wp2_with fail
  refine (HO.out _).mono ?_
  rintro r w1 ⟨rfl, hx1⟩
  have o2 := o1.below hx1 o1.lt
  have hb1 := hb0.trans (hx1.mono hb0.size)
  have lt := o2.lt
  obtain ⟨c1, c2, c3, c4⟩ := o2.facts
  go_wp2_with fail
  have o4 := (two_set2 o2 (.int .i64 N) (.int .i64 D)).alloc (.cells #[.int .i64 N, .int .i64 D] 30)
  obtain ⟨d1, d2, -, -⟩ := o4.facts
  refine bodyPost_ret (v := .agg #[.int .i64 N, .int .i64 D]) ?_ rfl ⟨rfl, ?_⟩
  · simp [results, Try.results44, go_sem, d1, d2]
  · have s := set2_below hb1 (Nat.le_refl _) (.int .i64 N) (.int .i64 D)
    exact s.alloc s.size _
end Go.Proofs.Ytohkmkkcblbemaa.Ge
