/- Walks over layer 6's reference: Same. -/
import Derived.Test.YtdbffhcckmmgfaaDoorDatR4
import Derived.Test.YtdbffhcckmmgfaaDoorDatW7
namespace Go.Proofs.YtdbffhcckmmgfaaDoor.Dt
set_option linter.unusedVariables false
set_option linter.unusedSimpArgs false
open Go.RowKit

theorem below_drewN' (B : Nat) (w : World) (n : Nat) : Below B w (w.drewN n) := ⟨rfl, rfl, rfl, Nat.le_refl _, fun _ _ => rfl⟩

set_option maxRecDepth 100000 in
set_option maxHeartbeats 1000000 in
theorem rsame_any (w : World) (v u : Value) (A B : List Per) (hA : PerSl w v A) (hB : PerSl w u B) (hlA : A.length ≤ 100000) (hlB : B.length ≤ 100000) :
    Calls Tryd.prog 33 #[v, u] w fun e w' => e = .returned (.bool (decide (A = B))) ∧ Below w.heap.size w w' := by
  obtain ⟨a1, c1, rfl⟩ := hA.form
  obtain ⟨a2, c2, rfl⟩ := hB.form
  by_cases hl : A.length = B.length
  · have HA := Lib.hid hA
    have HB := Lib.hid hB
    have HL := Lib.hid hl
    clear hA hB
    rw [hl]
    have hlB' := hlB
    clear hl hlA
    generalize hD : decide (A = B) = D
    have HD := Lib.hid hD
    clear hD
    go_enter Tryd.func33, Tryd.ntmps33
    go_wp2_with fail
    go_loopw [5] (fun i wr => ∃ k : Nat, i = .int .i64 (k : Int) ∧ k ≤ B.length ∧ Below w.heap.size w wr ∧ ∀ j (h1 : j < A.length) (h2 : j < B.length), j < k → A[j] = B[j]) (fun i _ => B.length - (intOf i).toNat)
    case atStart => exact ⟨0, rfl, Nat.zero_le _, Below.refl _ _, fun j h1 h2 h => by omega⟩
    case round =>
      obtain ⟨k, rfl, hk, hbel, hall⟩ := hrel
      have HALL := Lib.hid hall
      clear hall
      by_cases hlt : k < B.length
      · have hltA : k < A.length := by rw [HL.out]; exact hlt
        obtain ⟨b1, o1, d1, hv1, hb1, hm1, hc1⟩ := HA.out.at (by omega)
        obtain ⟨b2, o2, d2, hv2, hb2, hm2, hc2⟩ := HB.out.at (by omega)
        rw [HL.out] at hv1
        simp only [Value.slice.injEq, true_and] at hv1 hv2
        obtain ⟨rfl, rfl⟩ := hv1
        obtain ⟨rfl, rfl⟩ := hv2
        obtain ⟨x1, x2⟩ := hc1 wr hbel k hltA
        obtain ⟨y1, y2⟩ := hc2 wr hbel k hlt
        have k0 : (0 : Int) ≤ (k : Int) := by omega
        have k1 : (k : Int) < (B.length : Int) := by omega
        clear hc1 hc2
        by_cases hq : A[k] = B[k]
        · have HALL2 := Lib.hid (show ∀ j (h1 : j < A.length) (h2 : j < B.length), j < k + 1 → A[j] = B[j] from fun j h1 h2 h => by
            by_cases e : j = k
            · subst e; exact hq
            · exact HALL.out j h1 h2 (by omega))
          rw [hq] at x1 x2
          clear hq
          generalize B[k] = p at *
          obtain ⟨f, t⟩ := p
          simp only at x1 x2 y1 y2
          go_wp2_with fail
          go_quiet (fail)
          go_wp2_with fail
          go_roundw
          case rel => exact ⟨k + 1, by go_num, by omega, hbel.trans (below_drewN' _ _ _), HALL2.out⟩
          case measure => simp [intOf]; omega
        · have hne : decide (A = B) = false := by
            rw [decide_eq_false_iff_not]
            intro e
            subst e
            exact hq rfl
          obtain rfl : D = false := HD.out.symm.trans hne
          clear hne HALL HD
          generalize A[k] = p at *
          generalize B[k] = q at *
          obtain ⟨f, t⟩ := p
          obtain ⟨f2, t2⟩ := q
          simp only at x1 x2 y1 y2
          by_cases hf : f = f2
          · subst hf
            have ht : (t == t2) = false := by
              rw [beq_eq_false_iff_ne]
              intro e
              exact hq (by rw [e])
            clear hq
            go_wp2_with fail
            go_quiet (fail)
            go_wp2_with fail
            go_ret
            exact ⟨rfl, hbel.trans (below_drewN' _ _ _)⟩
          · have hfb : (f == f2) = false := by simpa using hf
            clear hq hf
            go_wp2_with fail
            go_quiet (fail)
            go_wp2_with fail
            go_ret
            exact ⟨rfl, hbel.trans (below_drewN' _ _ _)⟩
      · obtain rfl : k = B.length := by omega
        have he : decide (A = B) = true := by
          rw [decide_eq_true_iff]
          exact List.ext_getElem HL.out fun i h1 h2 => HALL.out i h1 h2 h2
        obtain rfl : D = true := HD.out.symm.trans he
        clear he hlt HD
        go_wp2_with fail
        go_ret
        exact ⟨rfl, hbel⟩
  · have hne : decide (A = B) = false := by
      rw [decide_eq_false_iff_not]
      intro e
      exact hl (by rw [e])
    rw [hne]
    have h1 : ((A.length : Int) == (B.length : Int)) = false := by simp; omega
    have h2 : ((A.length : Int) != (B.length : Int)) = true := by simp; omega
    clear hne hl hA hB
    go_enter Tryd.func33, Tryd.ntmps33
    go_wp2_with fail
    go_ret
    exact ⟨rfl, Below.refl _ _⟩
end Go.Proofs.YtdbffhcckmmgfaaDoor.Dt
