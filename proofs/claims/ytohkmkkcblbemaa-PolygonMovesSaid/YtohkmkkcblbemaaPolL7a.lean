/- Walks of PolygonMoves: the moved ring, and whether points are on the grid. -/
import Derived.Test.YtohkmkkcblbemaaPolH
import Derived.Test.YtohkmkkcblbemaaPolMove3
namespace Go.Proofs.Ytohkmkkcblbemaa.Ge
set_option linter.unusedVariables false
set_option linter.unusedSimpArgs false
open Go.RowKit
open Go.Proofs.Ytohkmkkcblbemaa.Fr (Two)

theorem take_map_succ (f : Pt → Pt) (l : List Pt) (k : Nat) (h : k < l.length) : (l.map f).take (k + 1) = (l.map f).take k ++ [f l[k]] := by
  rw [List.take_succ_eq_append_getElem (by rw [List.length_map]; exact h), List.getElem_map]
set_option maxRecDepth 100000 in
set_option maxHeartbeats 2000000 in
theorem moved_T (v : Value) (r : List Pt) (x y : Int) (hr : onL r) (hx : -32768 ≤ x ∧ x ≤ 32767) (hy : -32768 ≤ y ∧ y ≤ 32767) (hl : 1 ≤ r.length ∧ r.length ≤ 1000) (w : World) (hv : PtSl w v r) :
    Calls Try.prog 38 #[v, .int .i64 x, .int .i64 y, .bool false] w fun e w' => ∃ u, e = .returned u ∧ OwnPt w' w.heap.size u (r.map (gT x y)) ∧ Below w.heap.size w w' := by
  obtain ⟨b, off, cap, rfl, h0, hbw, hm, hc⟩ := hv.some hl.1
  have HC := Lib.hid (fun (w' : World) (hw : Below w.heap.size w w') i (hi : i < r.length) => (hc i hi).below hw hbw)
  have HF := Lib.hid (fun k h => take_map_succ (gT x y) r k h)
  have HON := Lib.hid (fun i (hi : i < r.length) => hr r[i] (List.getElem_mem hi))
  have HE := Lib.hid (show (r.map (gT x y)).take r.length = r.map (gT x y) from by rw [← List.length_map (gT x y), List.take_length])
  have HL := Lib.hid (fun k => show ((r.map (gT x y)).take k).length ≤ r.length by rw [List.length_take, List.length_map]; omega)
  obtain ⟨hl1, hl2⟩ := hl
  clear hc hr hm hv
  go_enter Try.func38, Try.ntmps38
  go_wp2_with fail
  go_loopw [9, 10] (fun s i wr => ∃ k : Nat, i = .int .i64 (k : Int) ∧ k ≤ r.length ∧ OwnPt wr w.heap.size s ((r.map (gT x y)).take k) ∧ Below w.heap.size w wr) (fun _ i _ => r.length - (intOf i).toNat)
  case atStart => exact ⟨0, rfl, Nat.zero_le _, OwnPt.nil _ _, Below.refl _ _⟩
  case round =>
    obtain ⟨k, rfl, hk, hs, hbel⟩ := hrel
    by_cases hlt : k < r.length
    · have hf := HF.out k hlt
      have hon := HON.out k hlt
      have hS : ∀ w' : World, Below w.heap.size w w' → w'.cell? ⟨b, off + k * 2, none⟩ = some (.int .i64 r[k].1) ∧ w'.cell? ⟨b, off + k * 2 + 1, none⟩ = some (.int .i64 r[k].2) := fun w' hw => HC.out w' hw k hlt
      have HLk := Lib.hid (HL.out k)
      generalize r[k] = p at *
      obtain ⟨gx, gy⟩ := p
      dsimp only at hon hS
      generalize (r.map (gT x y)).take k = M at *
      obtain ⟨M1, hM1⟩ : ∃ q, (r.map (gT x y)).take (k + 1) = q := ⟨_, rfl⟩
      rw [hM1] at hf
      have HM1 := Lib.hid hM1
      have HM := Lib.hid hf
      have HS := Lib.hid hs
      obtain ⟨⟨o1, o2⟩, o3, o4⟩ := hon
      clear hM1 hf hs
      have w1 : IntKind.i64.wrap (gx + x) = gx + x := by rw [IntKind.wrap_i64]; omega
      have w2 : IntKind.i64.wrap (gy + y) = gy + y := by rw [IntKind.wrap_i64]; omega
      have hbq := hbel.size
      go_upto_region 8 with fail
      go_region_held3 (fun w' => (w'.cell? ⟨b, off + k * 2, none⟩ = some (.int .i64 gx) ∧ w'.cell? ⟨b, off + k * 2 + 1, none⟩ = some (.int .i64 gy)))
        (first | exact hS _ hbel.drew | exact hS _ (hbel.drew.alloc hbel.drew.size _) | exact hS _ r2)
        (first
          | (refine step_append_pt _ rfl _ _ rfl w.heap.size _ _ M [(gx + x, gy + y)] rfl rfl ((HS.out.below (Below.refl _ _).drew).below ((Below.refl _ _).alloc (Nat.le_refl _) _)) (PtSl.one _ (gx + x, gy + y)) (by rw [List.length_singleton]; have := HLk.out; omega) ((hbel.drew.alloc hbel.drew.size _).size) ?_
             intro s' rw2 ro rg rb
             have r2 : Below w.heap.size w rw2 := (hbel.drew.alloc hbel.drew.size _).grown rg ((hbel.drew.alloc hbel.drew.size _).size) (fun k hk => HS.out.lt k hk)
             have rHO := Lib.hid ro; clear ro rg rb))
      all_goals
        have HS2 := Lib.hid (show OwnPt rw2 w.heap.size _ M1 from HM.out.symm ▸ rHO.out)
        clear HS rHO hS
        go_wp2_with fail
        go_roundw
        case rel => exact ⟨k + 1, by go_num, by omega, by rw [HM1.out]; exact HS2.out, r2⟩
        case measure => simp [intOf]; omega
    · obtain rfl : k = r.length := by omega
      rw [HE.out] at hs
      have HS := Lib.hid hs
      clear hs
      go_wp2_with fail
      go_ret
      exact ⟨_, rfl, HS.out, hbel⟩
theorem take_back_succ (f : Pt → Pt) (l : List Pt) (k : Nat) (h : k < l.length) : (l.reverse.map f).take (k + 1) = (l.reverse.map f).take k ++ [f (l[l.length - 1 - k]'(by omega))] := by
  rw [List.take_succ_eq_append_getElem (by rw [List.length_map, List.length_reverse]; exact h), List.getElem_map, List.getElem_reverse]
set_option maxRecDepth 100000 in
set_option maxHeartbeats 2000000 in
theorem moved_X (v : Value) (r : List Pt) (x y : Int) (hl : 1 ≤ r.length ∧ r.length ≤ 1000) (w : World) (hv : PtSl w v r) :
    Calls Try.prog 38 #[v, .int .i64 x, .int .i64 y, .bool true] w fun e w' => ∃ u, e = .returned u ∧ OwnPt w' w.heap.size u (r.reverse.map gX) ∧ Below w.heap.size w w' := by
  obtain ⟨b, off, cap, rfl, h0, hbw, hm, hc⟩ := hv.some hl.1
  have HC := Lib.hid (fun (w' : World) (hw : Below w.heap.size w w') i (hi : i < r.length) => (hc i hi).below hw hbw)
  have HF := Lib.hid (fun k h => take_back_succ gX r k h)
  have HE := Lib.hid (show (r.reverse.map gX).take r.length = r.reverse.map gX from by rw [← List.length_reverse, ← List.length_map gX, List.take_length])
  have HL := Lib.hid (fun k => show ((r.reverse.map gX).take k).length ≤ r.length by rw [List.length_take, List.length_map, List.length_reverse]; omega)
  obtain ⟨hl1, hl2⟩ := hl
  clear hc hm hv
  go_enter Try.func38, Try.ntmps38
  go_wp2_with fail
  go_loopw [9, 10] (fun s i wr => ∃ k : Nat, i = .int .i64 (k : Int) ∧ k ≤ r.length ∧ OwnPt wr w.heap.size s ((r.reverse.map gX).take k) ∧ Below w.heap.size w wr) (fun _ i _ => r.length - (intOf i).toNat)
  case atStart => exact ⟨0, rfl, Nat.zero_le _, OwnPt.nil _ _, Below.refl _ _⟩
  case round =>
    obtain ⟨k, rfl, hk, hs, hbel⟩ := hrel
    by_cases hlt : k < r.length
    · have hf := HF.out k hlt
      have hj : r.length - 1 - k < r.length := by omega
      obtain ⟨c1, c2⟩ := HC.out wr hbel (r.length - 1 - k) hj
      have HLk := Lib.hid (HL.out k)
      have e1 : IntKind.i64.wrap ((r.length : Int) - 1) = (r.length : Int) - 1 := by rw [IntKind.wrap_i64]; omega
      have e2 : IntKind.i64.wrap ((r.length : Int) - 1 - (k : Int)) = ((r.length - 1 - k : Nat) : Int) := by rw [IntKind.wrap_i64]; omega
      generalize r[r.length - 1 - k] = p at *
      obtain ⟨gx, gy⟩ := p
      dsimp only at c1 c2
      generalize (r.reverse.map gX).take k = M at *
      obtain ⟨M1, hM1⟩ : ∃ q, (r.reverse.map gX).take (k + 1) = q := ⟨_, rfl⟩
      rw [hM1] at hf
      have HM1 := Lib.hid hM1
      have HM := Lib.hid hf
      have HS := Lib.hid hs
      clear hM1 hf hs
      have hbq := hbel.size
      have hj2 : ((r.length - 1 - k : Nat) : Int) < (r.length : Int) := by omega
      obtain ⟨j, hjj⟩ : ∃ j, r.length - 1 - k = j := ⟨_, rfl⟩
      rw [hjj] at c1 c2 e2 hj hj2
      clear hjj
      have tP := Two.new wr 23 (.int .i64 gx) (.int .i64 gy)
      have hbA := hbel.alloc hbel.size (.cells #[.int .i64 gx, .int .i64 gy] 23)
      have hsA := Lib.hid (HS.out.below ((Below.refl wr.heap.size wr).alloc (Nat.le_refl _) (.cells #[.int .i64 gx, .int .i64 gy] 23)))
      go_upto_region 7 with fail
      obtain ⟨f1, f2, -, -⟩ := tP.facts
      clear c1 c2 tP
      generalize wr.alloc (.cells #[.int .i64 gx, .int .i64 gy] 23) = wA at *
      go_upto_region 4 with (at_builtin; refine list_append_pt _ rfl _ _ rfl w.heap.size _ _ M [(gy, gx)] rfl rfl (hsA.out.below ((Below.refl _ _).alloc (Nat.le_refl _) _)) (PtSl.one _ (gy, gx)) (by rw [List.length_singleton]; have := HLk.out; omega) ((hbA.alloc hbA.size _).size) ?_; intro v' w2 own2 grow2 at2; have hb3 : Below w.heap.size w w2 := (hbA.alloc hbA.size _).grown grow2 ((hbA.alloc hbA.size _).size) (fun k hk => hsA.out.lt k hk); have HO2 := Lib.hid own2; clear own2 grow2 at2)
      go_wp2_with fail
      go_roundw
      case rel => exact ⟨k + 1, by go_num, by omega, by rw [HM1.out, HM.out]; exact HO2.out, hb3⟩
      case measure => simp [intOf]; omega
    · obtain rfl : k = r.length := by omega
      rw [HE.out] at hs
      have HS := Lib.hid hs
      clear hs
      go_wp2_with fail
      go_ret
      exact ⟨_, rfl, HS.out, hbel⟩
instance onLd (l : List Pt) : Decidable (onL l) := inferInstanceAs (Decidable (∀ p ∈ l, onP p.1 p.2))
set_option maxRecDepth 100000 in
set_option maxHeartbeats 2000000 in
theorem on8_yes (v : Value) (l : List Pt) (w : World) (hv : PtSl w v l) (h1 : 1 ≤ l.length ∧ l.length ≤ 1000) (ha : onL l) :
    Calls Try.prog 39 #[v] w fun e w' => e = .returned (.bool true) ∧ Below w.heap.size w w' := by
  obtain ⟨b, off, cap, rfl, h0, hbw, hm, hc⟩ := hv.some h1.1
  have HA := Lib.hid (fun i (hi : i < l.length) => ha l[i] (List.getElem_mem hi))
  have HC := Lib.hid (fun (w' : World) (hw : Below w.heap.size w w') i (hi : i < l.length) => (hc i hi).below hw hbw)
  obtain ⟨hl1, hl2⟩ := h1
  clear hc ha hm hv
  go_enter Try.func39, Try.ntmps39
  go_wp2_with fail
  go_loopw [3] (fun i wr => ∃ k : Nat, i = .int .i64 (k : Int) ∧ k ≤ l.length ∧ Below w.heap.size w wr) (fun i _ => l.length - (intOf i).toNat)
  case atStart => exact ⟨0, rfl, Nat.zero_le _, Below.refl _ _⟩
  case round =>
    obtain ⟨k, rfl, hk, hbel⟩ := hrel
    by_cases hlt : k < l.length
    · obtain ⟨c1, c2⟩ := HC.out wr hbel k hlt
      have HCALL := Lib.hid (fun w => on_yes _ _ (HA.out k hlt) w)
      generalize l[k].1 = f at *
      generalize l[k].2 = u at *
      go_wp2_with fail
      refine (HCALL.out _).mono ?_
      rintro r w1 ⟨rfl, hb1⟩
      have hb2 := hbel.trans (hb1.mono hbel.size)
      clear c1 c2
      go_wp2_with fail
      go_roundw
      case rel => exact ⟨k + 1, by go_num, by omega, hb2⟩
      case measure => simp [intOf]; omega
    · go_wp2_with fail
      go_ret
      exact ⟨rfl, hbel⟩
set_option maxRecDepth 100000 in
set_option maxHeartbeats 2000000 in
theorem on8_no (v : Value) (l : List Pt) (w : World) (hv : PtSl w v l) (h1 : 1 ≤ l.length ∧ l.length ≤ 1000) (ha : ¬ onL l) :
    Calls Try.prog 39 #[v] w fun e w' => e = .returned (.bool false) ∧ Below w.heap.size w w' := by
  obtain ⟨b, off, cap, rfl, h0, hbw, hm, hc⟩ := hv.some h1.1
  have HA := Lib.hid ha
  have HC := Lib.hid (fun (w' : World) (hw : Below w.heap.size w w') i (hi : i < l.length) => (hc i hi).below hw hbw)
  obtain ⟨hl1, hl2⟩ := h1
  clear hc ha hm hv
  go_enter Try.func39, Try.ntmps39
  go_wp2_with fail
  go_loopw [3] (fun i wr => ∃ k : Nat, i = .int .i64 (k : Int) ∧ k ≤ l.length ∧ (∀ j (hj : j < l.length), j < k → onP l[j].1 l[j].2) ∧ Below w.heap.size w wr) (fun i _ => l.length - (intOf i).toNat)
  case atStart => exact ⟨0, rfl, Nat.zero_le _, fun j hj hk => by omega, Below.refl _ _⟩
  case round =>
    obtain ⟨k, rfl, hk, hall, hbel⟩ := hrel
    have HL := Lib.hid hall
    clear hall
    by_cases hlt : k < l.length
    · obtain ⟨c1, c2⟩ := HC.out wr hbel k hlt
      by_cases hq : onP l[k].1 l[k].2
      · have HCALL := Lib.hid (fun w => on_yes _ _ hq w)
        have HL2 := Lib.hid (show ∀ j (hj : j < l.length), j < k + 1 → onP l[j].1 l[j].2 from fun j hj hjk => by
          by_cases e : j = k
          · subst e; exact hq
          · exact HL.out j hj (by omega))
        clear hq
        generalize l[k].1 = f at *
        generalize l[k].2 = u at *
        go_wp2_with fail
        refine (HCALL.out _).mono ?_
        rintro r w1 ⟨rfl, hb1⟩
        have hb2 := hbel.trans (hb1.mono hbel.size)
        clear c1 c2
        go_wp2_with fail
        go_roundw
        case rel => exact ⟨k + 1, by go_num, by omega, HL2.out, hb2⟩
        case measure => simp [intOf]; omega
      · have HCALL := Lib.hid (fun w => on_no _ _ hq w)
        clear hq
        generalize l[k].1 = f at *
        generalize l[k].2 = u at *
        go_wp2_with fail
        refine (HCALL.out _).mono ?_
        rintro r w1 ⟨rfl, hb1⟩
        have hb2 := hbel.trans (hb1.mono hbel.size)
        clear c1 c2
        go_wp2_with fail
        go_ret
        exact ⟨rfl, hb2⟩
    · exfalso
      refine HA.out fun p hp => ?_
      obtain ⟨i, hi, rfl⟩ := List.mem_iff_getElem.1 hp
      exact HL.out i hi (by omega)
theorem on8_any (v : Value) (l : List Pt) (w : World) (hv : PtSl w v l) (h1 : 1 ≤ l.length ∧ l.length ≤ 1000) :
    Calls Try.prog 39 #[v] w fun e w' => e = .returned (.bool (decide (onL l))) ∧ Below w.heap.size w w' := by
  by_cases h : onL l
  · rw [decide_eq_true h]; exact on8_yes v l w hv h1 h
  · rw [decide_eq_false h]; exact on8_no v l w hv h1 h
theorem On_any (x y : Int) (w : World) :
    Calls Try.prog 37 #[.agg #[.int .i64 x, .int .i64 y]] w fun e w' => e = .returned (.bool (decide (onP x y))) ∧ Below w.heap.size w w' := by
  by_cases h : onP x y
  · rw [decide_eq_true h]; exact on_yes x y h w
  · rw [decide_eq_false h]; exact on_no x y h w
theorem few8_any (va vb : Value) (ra rb : List Pt) (w : World) (ha : PtSl w va ra) (hb : PtSl w vb rb) :
    Calls Try.prog 20 #[va, vb] w fun e w' => e = .returned (.bool (decide (ra.length ≤ 50) && decide (rb.length ≤ 50))) ∧ w' = w := by
  obtain ⟨a1, a2, rfl⟩ := ha.form
  obtain ⟨b1, b2, rfl⟩ := hb.form
  by_cases h1 : ra.length ≤ 50
  · have h1' : (ra.length : Int) ≤ 50 := by omega
    by_cases h2 : rb.length ≤ 50
    · have h2' : (rb.length : Int) ≤ 50 := by omega
      rw [decide_eq_true h1, decide_eq_true h2]
      go_enter Try.func20, Try.ntmps20
      go_wp2_with fail
      go_ret
      exact ⟨rfl, rfl⟩
    · have h2' : ¬ (rb.length : Int) ≤ 50 := by omega
      rw [decide_eq_true h1, decide_eq_false h2]
      go_enter Try.func20, Try.ntmps20
      go_wp2_with fail
      go_ret
      exact ⟨rfl, rfl⟩
  · have h1' : ¬ (ra.length : Int) ≤ 50 := by omega
    rw [decide_eq_false h1, Bool.false_and]
    go_enter Try.func20, Try.ntmps20
    go_wp2_with fail
    go_ret
    exact ⟨rfl, rfl⟩
end Go.Proofs.Ytohkmkkcblbemaa.Ge
