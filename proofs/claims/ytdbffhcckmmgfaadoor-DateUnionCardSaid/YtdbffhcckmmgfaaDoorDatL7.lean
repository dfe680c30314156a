/- The walk of DateUnion. -/
import Derived.Test.YtdbffhcckmmgfaaDoorDatH
import Derived.Deep.RegionHeld3
namespace Go.Proofs.YtdbffhcckmmgfaaDoor.Dt
set_option linter.unusedVariables false
set_option linter.unusedSimpArgs false
open Go.RowKit

/-! ### the list in the opposite order, each period twice -/
def backL (l : List Per) (m : Nat) : List Per := (l.drop m).reverse.flatMap fun p => [p, p]
theorem backL_step (l : List Per) (m : Nat) (h : m < l.length) : backL l m = backL l (m + 1) ++ [l[m], l[m]] := by
  unfold backL
  rw [List.drop_eq_getElem_cons h, List.reverse_cons, List.flatMap_append]
  simp
theorem backL_all (l : List Per) : backL l l.length = [] := by
  unfold backL
  simp
theorem backL_mem (l : List Per) (p : Per) : p ∈ backL l 0 ↔ p ∈ l := by
  unfold backL
  simp [List.mem_flatMap]
theorem backL_len (l : List Per) : ∀ m, m ≤ l.length → (backL l m).length ≤ 2 * (l.length - m) := by
  intro m hm
  obtain ⟨k, hk⟩ : ∃ k, l.length - m = k := ⟨_, rfl⟩
  induction k generalizing m with
  | zero =>
    obtain rfl : m = l.length := by omega
    rw [backL_all]
    simp
  | succ k ih =>
    rw [backL_step l m (by omega), List.length_append]
    have := ih (m + 1) (by omega) (by omega)
    simp
    omega
section
variable (w : World)
theorem step_append_per {ops : Array Oper} {o : Oper} {a : Act} {K : Act → World → Prop} {Q : Exit → Act → World → Prop} {E : Prop} (hgd : o.guard = none) (s x : Operand)
    (ho : o.op = .call { callee := .builtin .append, args := #[s, x], argTypes := #[36, 36] })
    (B : Nat) (v u : Value) (p q : List Per) (hs : a.eval s = v) (hx : a.eval x = u) (own : OwnPer w B v p) (hq : PerSl w u q) (hlen : p.length + q.length ≤ 1000000) (hB : B ≤ w.heap.size)
    (h : ∀ v' w', OwnPer w' B v' (p ++ q) → w.grownBy w' v.ownBlock → K (a.put o.dst v') w') :
    if Region.wanted o (yielded ops a.tmps) = true then Oper.wp Tryd.prog o a w K Q else E := by
  have hw : Region.wanted o (yielded ops a.tmps) = true := by simp [Region.wanted, hgd]
  rw [if_pos hw]
  obtain ⟨v', w', hr, h2, h3⟩ := run_append_per w o.type B v u p q own hq hlen hB
  unfold Oper.wp execOp
  simp only [ho, resolve, invoke, builtin, Sem.run_bind, Sem.run_pure, Result.andThen_ok, List.map_toArray, List.map_cons, List.map_nil, hs, hx, hr]
  exact h v' w' h2 h3
end

/-! ### a list with a period that is not proper -/
set_option maxRecDepth 100000 in
set_option maxHeartbeats 4000000 in
theorem lawUnion_bad (v : Value) (l : List Per) (x : Int) (w : World) (hsl : PerSl w v l) (hlen : l.length ≤ 30) (hp : ¬ ∀ p ∈ l, propP p) (hl : Lay w) :
    Calls Tryd.prog 11 #[v, .int .i64 x] w fun e w' => e = .returned (.bool true) ∧ Below w.heap.size w w' := by
  obtain ⟨a0, cap0, rfl⟩ := hsl.form
  have HSL := Lib.hid hsl
  have HP := Lib.hid hp
  have HU := Lib.hid (fun w h => union_bad w (.slice a0 l.length cap0) l h (by omega) hp)
  clear hsl hp
  go_enter Tryd.func11, Tryd.ntmps11
  go_wp2_with fail
  refine (head_any _ hl).mono ?_
  rintro r v1 ⟨rfl, hb1⟩
  go_wp2_with fail
  refine (HU.out _ (HSL.out.below hb1)).mono ?_
  rintro r v2 ⟨rfl, hx2⟩
  have hb2 := hb1.trans (hx2.mono hb1.size)
  go_wp2_with fail
  go_loopw [8, 9] (fun y i wr => ∃ (k : Nat) (c : Bool), i = .int .i64 (k : Int) ∧ y = .bool c ∧ k ≤ l.length ∧ Below w.heap.size w wr ∧ ∀ j (hj : j < l.length), j < k → propP l[j]) (fun _ i _ => l.length - (intOf i).toNat)
  case atStart => exact ⟨0, false, rfl, rfl, Nat.zero_le _, hb2, fun j hj h => by omega⟩
  case round =>
    obtain ⟨k, c, rfl, rfl, hk, hbel, hall⟩ := hrel
    have HA := Lib.hid hall
    clear hall
    by_cases hlt : k < l.length
    · obtain ⟨b, off, cap, hv, hb, hm, hc⟩ := HSL.out.at (by omega)
      simp only [Value.slice.injEq, true_and] at hv
      obtain ⟨rfl, rfl⟩ := hv
      obtain ⟨c1, c2⟩ := hc wr hbel k hlt
      by_cases hq : propP l[k]
      · have HQ := Lib.hid (fun w => proper_yes l[k].1 l[k].2 hq w)
        have HC := Lib.hid (fun w => covers_any l[k].1 l[k].2 x w)
        have HA2 := Lib.hid (show ∀ j (hj : j < l.length), j < k + 1 → propP l[j] from fun j hj hjk => by
          by_cases e : j = k
          · subst e; exact hq
          · exact HA.out j hj (by omega))
        have hat := hc
        clear hc hq
        generalize decide (inP (l[k].1, l[k].2) x) = D at HC
        have HAT := Lib.hid (show ∀ w', Below w.heap.size w w' → w'.cell? ⟨b, off + k * 2, none⟩ = some (.int .i64 l[k].1) ∧ w'.cell? ⟨b, off + k * 2 + 1, none⟩ = some (.int .i64 l[k].2) from fun w' hb => hat w' hb k hlt)
        clear hat
        generalize l[k].1 = f at *
        generalize l[k].2 = u at *
        go_wp2_with fail
        refine (HQ.out _).mono ?_
        rintro r v3 ⟨rfl, hx3⟩
        have hb3 := hbel.trans (hx3.mono hbel.size)
        clear c1 c2
        obtain ⟨c1, c2⟩ := HAT.out v3 hb3
        cases c with
        | true =>
          go_wp2_with fail
          go_roundw
          case rel => exact ⟨k + 1, true, by go_num, rfl, by omega, hb3, HA2.out⟩
          case measure => simp [intOf]; omega
        | false =>
          go_wp2_with fail
          refine (HC.out _).mono ?_
          rintro r v4 ⟨rfl, hx4⟩
          have hb4 := hb3.trans (hx4.mono hb3.size)
          clear c1 c2
          go_wp2_with fail
          go_roundw
          case rel => exact ⟨k + 1, _, by go_num, rfl, by omega, hb4, HA2.out⟩
          case measure => simp [intOf]; omega
      · have HQ := Lib.hid (fun w => proper_no l[k].1 l[k].2 hq w)
        clear hc hq
        generalize l[k].1 = f at *
        generalize l[k].2 = u at *
        go_wp2_with fail
        refine (HQ.out _).mono ?_
        rintro r v3 ⟨rfl, hx3⟩
        have hb3 := hbel.trans (hx3.mono hbel.size)
        clear c1 c2
        go_wp2_with fail
        go_ret
        exact ⟨rfl, hb3⟩
    · exfalso
      refine HP.out fun p hpm => ?_
      obtain ⟨j, hj, rfl⟩ := List.getElem_of_mem hpm
      exact HA.out j hj (by omega)

theorem lawUnion_long (v : Value) (l : List Per) (x : Int) (w : World) (hsl : PerSl w v l) (hlen : 30 < l.length) (hl : Lay w) :
    Calls Tryd.prog 11 #[v, .int .i64 x] w fun e w' => e = .returned (.bool true) ∧ Below w.heap.size w w' := by
  obtain ⟨a0, cap0, rfl⟩ := hsl.form
  have hI : (30 : Int) < (l.length : Int) := by omega
  clear hsl
  go_enter Tryd.func11, Tryd.ntmps11
  go_wp2_with fail
  refine (head_any _ hl).mono ?_
  rintro r v1 ⟨rfl, hb1⟩
  go_wp2_with fail
  go_ret
  exact ⟨rfl, hb1⟩
end Go.Proofs.YtdbffhcckmmgfaaDoor.Dt
