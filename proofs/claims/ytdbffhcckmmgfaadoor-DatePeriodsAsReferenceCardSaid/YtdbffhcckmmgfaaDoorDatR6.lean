/- Walks over layer 6's reference: Union. -/
import Derived.Test.YtdbffhcckmmgfaaDoorDatR4
import Derived.Test.YtdbffhcckmmgfaaDoorDatW8
namespace Go.Proofs.YtdbffhcckmmgfaaDoor.Dt
set_option linter.unusedVariables false
set_option linter.unusedSimpArgs false
open Go.RowKit

/-! ### stores into a list of the call's own -/
theorem flatP_set : ∀ (l : List Per) (i : Nat) (p : Per), i < l.length → ((flatP l).set (i * 2) (.int .i64 p.1)).set (i * 2 + 1) (.int .i64 p.2) = flatP (l.set i p)
  | [], i, p, h => by simp at h
  | q :: l, 0, p, h => rfl
  | q :: l, i + 1, p, h => by
    have ih := flatP_set l i p (by simpa using h)
    have e : ∀ y : List Per, ∀ z : Per, flatP (z :: y) = .int .i64 z.1 :: .int .i64 z.2 :: flatP y := fun _ _ => rfl
    rw [List.set_cons_succ, e, e, ← ih, show (i + 1) * 2 = (i * 2 + 1) + 1 by omega]
    rfl
theorem OwnPer.set {w : World} {B g cap : Nat} {l : List Per} {n : Nat} (h : OwnPer w B (.slice (some ⟨g, 0, none⟩) n cap) l) (hn : n = l.length) (i : Nat) (hi : i < l.length) (p : Per) :
    OwnPer ((w.setCell ⟨g, i * 2, none⟩ (.int .i64 p.1)).setCell ⟨g, i * 2 + 1, none⟩ (.int .i64 p.2)) B (.slice (some ⟨g, 0, none⟩) n cap) (l.set i p) := by
  subst hn
  unfold OwnPer at h ⊢
  rw [List.length_set]
  have h1 := (World.ownsRow.stored h (i * 2) (.int .i64 p.1)).1
  have h2 := (World.ownsRow.stored h1 (i * 2 + 1) (.int .i64 p.2)).1
  rw [flatP_set l i p hi] at h2
  exact h2
theorem OwnPer.open_ {w : World} {B : Nat} {v : Value} {l : List Per} (h : OwnPer w B v l) (h0 : 0 < l.length) : ∃ g cap, v = .slice (some ⟨g, 0, none⟩) l.length cap ∧ B ≤ g ∧ g < w.heap.size ∧ l.length ≤ cap ∧ cap ≤ maxLen := by
  rcases h.2 with ⟨_, hn⟩ | ⟨g, cap, cur, rfl, hb, hg, hnc, hcm, hsz, htk⟩
  · omega
  · exact ⟨g, cap, rfl, hb, (Array.getElem?_eq_some_iff.1 hg).1, hnc, hcm⟩
theorem OwnPer.at {w : World} {B g cap n : Nat} {l : List Per} (h : OwnPer w B (.slice (some ⟨g, 0, none⟩) n cap) l) (hn : n = l.length) (i : Nat) (hi : i < l.length) :
    w.cell? ⟨g, i * 2, none⟩ = some (.int .i64 l[i].1) ∧ w.cell? ⟨g, i * 2 + 1, none⟩ = some (.int .i64 l[i].2) ∧ w.frozen? ⟨g, i * 2, none⟩ = false ∧ w.frozen? ⟨g, i * 2 + 1, none⟩ = false := by
  subst hn
  have a := flatP_get l i 0 hi (by decide)
  have b := flatP_get l i 1 hi (by decide)
  refine ⟨?_, ?_, World.ownsRow.frozenAt h _, World.ownsRow.frozenAt h _⟩
  · rw [World.ownsRow.cellAt h (i * 2) (by omega)]
    exact a
  · rw [World.ownsRow.cellAt h (i * 2 + 1) (by omega)]
    exact b

/-! ### a period is put behind those that begin no later -/
def moved (R : List Per) (j : Nat) : List Per := (R ++ [(0, 0)]).take (j + 1) ++ R.drop j
theorem moved_len (R : List Per) (j : Nat) (hj : j ≤ R.length) : (moved R j).length = R.length + 1 := by
  unfold moved
  simp
  omega
theorem moved_all (R : List Per) : moved R R.length = R ++ [(0, 0)] := by
  unfold moved
  rw [List.drop_length, List.append_nil, List.take_of_length_le (by simp)]
theorem moved_get (R : List Per) (j : Nat) (hj : j < R.length) (h : j < (moved R (j + 1)).length) : (moved R (j + 1))[j] = R[j] := by
  have e : (moved R (j + 1))[j]? = some R[j] := by
    unfold moved
    rw [List.getElem?_append_left (by simp; omega), List.getElem?_take_of_lt (by omega), List.getElem?_append_left hj, List.getElem?_eq_getElem hj]
  rw [List.getElem?_eq_getElem h] at e
  exact Option.some.inj e
theorem moved_step (R : List Per) (j : Nat) (hj : j < R.length) : (moved R (j + 1)).set (j + 1) R[j] = moved R j := by
  unfold moved
  have e1 : (R ++ [((0 : Int), (0 : Int))]).take (j + 1 + 1) = (R ++ [(0, 0)]).take (j + 1) ++ [(R ++ [(0, 0)])[j + 1]'(by simp; omega)] := List.take_succ_eq_append_getElem (by simp; omega)
  rw [e1, List.append_assoc, List.set_append_right _ _ (by simp; omega)]
  have e2 : j + 1 - ((R ++ [((0 : Int), (0 : Int))]).take (j + 1)).length = 0 := by simp; omega
  rw [e2, List.singleton_append, List.set_cons_zero, ← List.drop_eq_getElem_cons hj]
theorem moved_put (R : List Per) (k : Nat) (hk : k ≤ R.length) (p : Per) : (moved R k).set k p = R.take k ++ p :: R.drop k := by
  unfold moved
  have e1 : (R ++ [((0 : Int), (0 : Int))]).take (k + 1) = (R ++ [(0, 0)]).take k ++ [(R ++ [(0, 0)])[k]'(by simp; omega)] := List.take_succ_eq_append_getElem (by simp; omega)
  rw [e1, List.append_assoc, List.set_append_right _ _ (by simp; omega)]
  have e2 : k - ((R ++ [((0 : Int), (0 : Int))]).take k).length = 0 := by simp; omega
  rw [e2, List.singleton_append, List.set_cons_zero, List.take_append_of_le_length hk]
/-- R is l, in the order of the first days -/
theorem put_sorted {R l : List Per} {p : Per} {k : Nat} (h : Sorted R l) (hk : k ≤ R.length) (h1 : ∀ j (hj : j < R.length), j < k → R[j].1 ≤ p.1) (h2 : ∀ hk : k < R.length, p.1 < R[k].1) : Sorted (R.take k ++ p :: R.drop k) (l ++ [p]) := by
  have hs := h.2
  refine ⟨?_, ?_⟩
  · have e : (R.take k ++ p :: R.drop k).Perm (p :: (R.take k ++ R.drop k)) := List.perm_middle
    rw [List.take_append_drop] at e
    refine e.trans ((List.Perm.cons p h.1).trans ?_)
    exact (List.perm_append_comm (l₁ := [p]) (l₂ := l))
  · rw [List.pairwise_append]
    refine ⟨hs.sublist (List.take_sublist _ _), ?_, ?_⟩
    · rw [List.pairwise_cons]
      refine ⟨fun q hq => ?_, hs.sublist (List.drop_sublist _ _)⟩
      obtain ⟨j, hj, rfl⟩ := List.getElem_of_mem hq
      rw [List.getElem_drop]
      have hj2 : k + j < R.length := by rw [List.length_drop] at hj; omega
      have hlt := h2 (by omega)
      by_cases h0 : j = 0
      · subst h0
        simp only [Nat.add_zero]
        omega
      · have := List.pairwise_iff_getElem.1 hs k (k + j) (by omega) hj2 (by omega)
        omega
    · intro a ha b hb
      obtain ⟨i, hi, rfl⟩ := List.getElem_of_mem ha
      rw [List.length_take] at hi
      rw [List.getElem_take]
      have hle := h1 i (by omega) (by omega)
      rcases List.mem_cons.1 hb with rfl | hb
      · exact hle
      · obtain ⟨j, hj, rfl⟩ := List.getElem_of_mem hb
        rw [List.getElem_drop]
        rw [List.length_drop] at hj
        exact List.pairwise_iff_getElem.1 hs i (k + j) (by omega) (by omega) (by omega)
/-- the last period gets another end -/
theorem flat_until (V : List Per) (x : Per) (u : Int) : (flatP (V ++ [x])).set (V.length * 2 + 1) (.int .i64 u) = flatP (V ++ [(x.1, u)]) := by
  rw [flatP_append, flatP_append, List.set_append_right _ _ (by rw [flatP_length]; omega), flatP_length, show V.length * 2 + 1 - V.length * 2 = 1 by omega]
  rfl
theorem OwnPer.setUntil {w : World} {B g cap : Nat} {V : List Per} {x : Per} (h : OwnPer w B (.slice (some ⟨g, 0, none⟩) (V.length + 1) cap) (V ++ [x])) (u : Int) :
    OwnPer (w.setCell ⟨g, V.length * 2 + 1, none⟩ (.int .i64 u)) B (.slice (some ⟨g, 0, none⟩) (V.length + 1) cap) (V ++ [(x.1, u)]) := by
  unfold OwnPer at h ⊢
  have e1 : (V ++ [x]).length = V.length + 1 := by simp
  have e2 : (V ++ [(x.1, u)]).length = V.length + 1 := by simp
  rw [e1] at h
  rw [e2]
  have h1 := (World.ownsRow.stored h (V.length * 2 + 1) (.int .i64 u)).1
  rw [flat_until] at h1
  exact h1

set_option maxRecDepth 100000 in
set_option maxHeartbeats 8000000 in
theorem runion_any (w : World) (v : Value) (l : List Per) (h : PerSl w v l) (hlen : l.length ≤ 1000) :
    Calls Tryd.prog 28 #[v] w fun e w' => (RetU l w e w' ∧ ∀ p ∈ l, propP p) ∨ (e = .returned (.tuple #[.slice none 0 0, .int .i64 1]) ∧ Below w.heap.size w w' ∧ ¬ ∀ p ∈ l, propP p) := by
  obtain ⟨a0, cap0, rfl⟩ := h.form
  have H := Lib.hid h
  clear h
  go_enter Tryd.func28, Tryd.ntmps28
  go_wp2_with fail
  go_loopw [4, 5] (fun rv i wr => ∃ (k : Nat) (R : List Per), i = .int .i64 (k : Int) ∧ k ≤ l.length ∧ R.length = k ∧ OwnPer wr w.heap.size rv R ∧ Sorted R (l.take k) ∧ Below w.heap.size w wr ∧ ∀ j (hj : j < l.length), j < k → propP l[j]) (fun _ i _ => l.length - (intOf i).toNat)
  case atStart => exact ⟨0, [], rfl, Nat.zero_le _, rfl, OwnPer.nil _ _, ⟨List.Perm.refl _, List.Pairwise.nil⟩, Below.refl _ _, fun j hj h => by omega⟩
  case round =>
    obtain ⟨k, R, rfl, hk, hRk, hown, hsort, hbel, hall⟩ := hrel
    have HA := Lib.hid hall
    have HSO := Lib.hid hsort
    have hR1000 : R.length ≤ 1000 := by omega
    have HRK := Lib.hid hRk
    clear hall hsort hRk
    by_cases hlt : k < l.length
    · obtain ⟨b, off, cap, hv, hb, hm, hc⟩ := H.out.at (by omega)
      simp only [Value.slice.injEq, true_and] at hv
      obtain ⟨rfl, rfl⟩ := hv
      obtain ⟨c1, c2⟩ := hc wr hbel k hlt
      by_cases hq : propP l[k]
      · have HQ := Lib.hid (fun w => rproper_yes l[k].1 l[k].2 hq w)
        have HA2 := Lib.hid (show ∀ j (hj : j < l.length), j < k + 1 → propP l[j] from fun j hj hjk => by
          by_cases e : j = k
          · subst e; exact hq
          · exact HA.out j hj (by omega))
        have HAT := Lib.hid (show ∀ w', Below w.heap.size w w' → w'.cell? ⟨b, off + k * 2, none⟩ = some (.int .i64 l[k].1) ∧ w'.cell? ⟨b, off + k * 2 + 1, none⟩ = some (.int .i64 l[k].2) from fun w' hb => hc w' hb k hlt)
        have HTK := Lib.hid (show l.take (k + 1) = l.take k ++ [(l[k].1, l[k].2)] from List.take_succ_eq_append_getElem hlt)
        clear hc hq HA
        generalize l[k].1 = f at *
        generalize l[k].2 = u at *
        obtain ⟨a1, cap1, rfl⟩ := hown.form
        have HOWN := Lib.hid hown
        clear hown
        go_wp2_with fail
        refine (HQ.out _).mono ?_
        rintro r w1 ⟨rfl, hb1⟩
        have hb2 := hbel.trans (hb1.mono hbel.size)
        have HOW1 := Lib.hid (HOWN.out.below hb1)
        clear c1 c2 HOWN HQ
        go_wp2_with fail
        go_loopw [6] (fun cv wr => ∃ c : Nat, cv = .int .i64 (c : Int) ∧ c ≤ R.length ∧ Below w1.heap.size w1 wr ∧ ∀ j (hj : j < R.length), j < c → R[j].1 ≤ f) (fun cv _ => R.length - (intOf cv).toNat)
        case atStart => exact ⟨0, rfl, Nat.zero_le _, Below.refl _ _, fun j hj h => by omega⟩
        case round =>
          obtain ⟨c, rfl, hcR, hbc, hcl⟩ := hrel
          have HCL := Lib.hid hcl
          clear hcl
          have hbw := hb2.trans (hbc.mono hb2.size)
          obtain ⟨c1, c2⟩ := HAT.out wr hbw
          have kk0 : (0 : Int) ≤ (k : Int) := by omega
          have kk1 : (k : Int) < (l.length : Int) := by omega
          by_cases hcr : c < R.length
          · have hcc0 : (0 : Int) ≤ (c : Int) := by omega
            have hd1 : decide (c < R.length) = true := decide_eq_true hcr
            have hcc1 : (c : Int) < (R.length : Int) := by omega
            obtain ⟨g, cap2, hv, hg, hgs, hgc, hgm⟩ := HOW1.out.open_ (by omega)
            simp only [Value.slice.injEq, true_and] at hv
            obtain ⟨rfl, rfl⟩ := hv
            obtain ⟨d1, d2, -, -⟩ := (HOW1.out.below hbc).at rfl c hcr
            have HMV := Lib.hid (moved_put R c (Nat.le_of_lt hcr) (f, u))
            by_cases hle : R[c].1 ≤ f
            · have HCL2 := Lib.hid (show ∀ j (hj : j < R.length), j < c + 1 → R[j].1 ≤ f from fun j hj hjk => by
                by_cases e : j = c
                · subst e; exact hle
                · exact HCL.out j hj (by omega))
              generalize R[c].1 = rf at *
              generalize R[c].2 = ru at *
              go_wp2_with fail
              go_quiet (fail)
              go_wp2_with fail
              go_roundw
              case rel => exact ⟨c + 1, by go_num, by omega, hbc.trans (below_drewN _ _ _), HCL2.out⟩
              case measure => simp [intOf]; omega
            · have hlb : decide (R[c].1 ≤ f) = false := decide_eq_false hle
              have HPS := Lib.hid (put_sorted HSO.out (Nat.le_of_lt hcr) (p := (f, u)) HCL.out (fun _ => by omega))
              clear hle
              generalize R[c].1 = rf at *
              generalize R[c].2 = ru at *
              go_wp2_with fail
              go_quiet (fail)
              have HBT := Lib.hid (show Below w1.heap.size w1 (wr.drewN nq) from hbc.trans (below_drewN _ _ _))
              clear d1 d2 hbc hlb
              go_upto_region 13 with (at_builtin; refine list_append_per _ rfl _ _ rfl w.heap.size _ _ R [(0, 0)] rfl rfl ((HOW1.out.below HBT.out).below ((Below.refl _ _).alloc (Nat.le_refl _) _)) (PerSl.oneAt (by simp) 0 0) (by simp; omega) (by have := hbw.size; simp; omega) ?_; intro v' w3 hown hgr)
              have hb3 := ((hb2.trans (HBT.out.mono hb2.size)).alloc (hb2.trans (HBT.out.mono hb2.size)).size (.cells #[.int .i64 0, .int .i64 0] 35)).grown hgr (by have := hbw.size; simp; omega) (fun k hk => HOW1.out.lt k hk)
              obtain ⟨g2, cap3, rfl, hg2, hgs2, hgc2, hgm2⟩ := hown.open_ (by simp)
              have hRl1 : (R ++ [((0 : Int), (0 : Int))]).length = R.length + 1 := by simp
              rw [hRl1] at hown hgc2
              rw [hRl1]
              rw [← moved_all] at hown
              have HO3 := Lib.hid hown
              clear hown hgr HOW1 c1 c2 HBT
              have kw : IntKind.i64.wrap (((R.length + 1 : Nat) : Int) - 1) = (R.length : Int) := by rw [show (((R.length + 1 : Nat) : Int) - 1) = (R.length : Int) by omega]; exact IntWalk.i64_in _ (by omega)
              go_wp2_with fail
              have hc0 : (0 : Int) ≤ (c : Int) := by omega
              go_loopw [7] (fun jv wr => ∃ j : Nat, jv = .int .i64 (j : Int) ∧ c ≤ j ∧ j ≤ R.length ∧ OwnPer wr w.heap.size (.slice (some ⟨g2, 0, none⟩) (R.length + 1) cap3) (moved R j) ∧ Below w.heap.size w wr) (fun jv _ => (intOf jv).toNat)
              case atStart => exact ⟨R.length, rfl, by omega, Nat.le_refl _, HO3.out, hb3⟩
              case round =>
                obtain ⟨j, rfl, hcj, hjR, hown, hb4⟩ := hrel
                by_cases hj : c < j
                · obtain ⟨i, rfl⟩ : ∃ i, j = i + 1 := ⟨j - 1, by omega⟩
                  have hml := moved_len R (i + 1) hjR
                  obtain ⟨d1, d2, -, -⟩ := hown.at hml.symm i (by omega)
                  obtain ⟨e1, e2, f1, f2⟩ := hown.at hml.symm (i + 1) (by omega)
                  rw [moved_get R i (by omega) (by omega)] at d1 d2
                  have hown2 := hown.set hml.symm (i + 1) (by omega) (R[i]'(by omega))
                  rw [moved_step R i (by omega)] at hown2
                  have HO4 := Lib.hid hown2
                  have hdc : decide ((c : Int) < ((i + 1 : Nat) : Int)) = true := by simp; omega
                  have s1 : IntKind.i64.wrap (((i + 1 : Nat) : Int) - 1) = (i : Int) := by rw [show (((i + 1 : Nat) : Int) - 1) = (i : Int) by omega]; exact IntWalk.i64_in _ (by omega)
                  have i0 : (0 : Int) ≤ (i : Int) := by omega
                  have i1 : (i : Int) < ((R.length + 1 : Nat) : Int) := by omega
                  have i2 : (0 : Int) ≤ ((i + 1 : Nat) : Int) := by omega
                  have i3 : ((i + 1 : Nat) : Int) < ((R.length + 1 : Nat) : Int) := by omega
                  clear hown hown2
                  generalize ((moved R (i + 1))[i + 1]'(by omega)).1 = yf at *
                  generalize ((moved R (i + 1))[i + 1]'(by omega)).2 = yu at *
                  generalize (R[i]'(by omega)).1 = xf at *
                  generalize (R[i]'(by omega)).2 = xu at *
                  go_wp2_with fail
                  go_roundw
                  case rel => exact ⟨i, rfl, by omega, by omega, HO4.out, set2_at hb4 hg2 ((i + 1) * 2) (.int .i64 xf) (.int .i64 xu)⟩
                  case measure => simp [intOf]
                · obtain rfl : j = c := by omega
                  have hml := moved_len R j hjR
                  have hdc : decide ((j : Int) < (j : Int)) = false := by simp
                  obtain ⟨e1, e2, f1, f2⟩ := hown.at hml.symm j (by omega)
                  have hown2 := hown.set hml.symm j (by omega) (f, u)
                  rw [HMV.out] at hown2
                  have HO4 := Lib.hid hown2
                  obtain ⟨c1, c2⟩ := HAT.out wr hb4
                  have i0 : (0 : Int) ≤ (j : Int) := by omega
                  have i1 : (j : Int) < ((R.length + 1 : Nat) : Int) := by omega
                  have hlf : (R.take j ++ (f, u) :: R.drop j).length = R.length + 1 := by simp; omega
                  clear hown hown2 hj
                  generalize ((moved R j)[j]'(by omega)).1 = yf at *
                  generalize ((moved R j)[j]'(by omega)).2 = yu at *
                  go_wp2_with fail
                  go_roundw
                  case rel => exact ⟨k + 1, R.take j ++ (f, u) :: R.drop j, by go_num, by omega, by have := HRK.out; omega, HO4.out, by rw [HTK.out]; exact HPS.out, set2_at hb4 hg2 (j * 2) (.int .i64 f) (.int .i64 u), HA2.out⟩
                  case measure => simp [intOf]; omega
          · obtain rfl : c = R.length := by omega
            have hd1 : decide (R.length < R.length) = false := by simp
            have hd2 : decide ((R.length : Int) < (R.length : Int)) = false := by simp
            have HMV := Lib.hid (moved_put R R.length (Nat.le_refl _) (f, u))
            have HPS := Lib.hid (put_sorted HSO.out (Nat.le_refl _) (p := (f, u)) HCL.out (fun h => absurd h (Nat.lt_irrefl _)))
            obtain ⟨c, hcR2⟩ : ∃ c, c = R.length := ⟨_, rfl⟩
            go_wp2_with fail
            go_quiet (fail)
            have HBT := Lib.hid (show Below w1.heap.size w1 (wr.drewN nq) from hbc.trans (below_drewN _ _ _))
            clear hbc hcR2 c
            go_upto_region 13 with (at_builtin; refine list_append_per _ rfl _ _ rfl w.heap.size _ _ R [(0, 0)] rfl rfl ((HOW1.out.below HBT.out).below ((Below.refl _ _).alloc (Nat.le_refl _) _)) (PerSl.oneAt (by simp) 0 0) (by simp; omega) (by have := hbw.size; simp; omega) ?_; intro v' w3 hown hgr)
            have hb3 := ((hb2.trans (HBT.out.mono hb2.size)).alloc (hb2.trans (HBT.out.mono hb2.size)).size (.cells #[.int .i64 0, .int .i64 0] 35)).grown hgr (by have := hbw.size; simp; omega) (fun k hk => HOW1.out.lt k hk)
            obtain ⟨g2, cap3, rfl, hg2, hgs2, hgc2, hgm2⟩ := hown.open_ (by simp)
            have hRl1 : (R ++ [((0 : Int), (0 : Int))]).length = R.length + 1 := by simp
            rw [hRl1] at hown hgc2
            rw [hRl1]
            rw [← moved_all] at hown
            have HO3 := Lib.hid hown
            clear hown hgr HOW1 c1 c2 HBT
            have kw : IntKind.i64.wrap (((R.length + 1 : Nat) : Int) - 1) = (R.length : Int) := by rw [show (((R.length + 1 : Nat) : Int) - 1) = (R.length : Int) by omega]; exact IntWalk.i64_in _ (by omega)
            go_wp2_with fail
            have hc0 : (0 : Int) ≤ (R.length : Int) := by omega
            go_loopw [7] (fun jv wr => ∃ j : Nat, jv = .int .i64 (j : Int) ∧ R.length ≤ j ∧ j ≤ R.length ∧ OwnPer wr w.heap.size (.slice (some ⟨g2, 0, none⟩) (R.length + 1) cap3) (moved R j) ∧ Below w.heap.size w wr) (fun jv _ => (intOf jv).toNat)
            case atStart => exact ⟨R.length, rfl, by omega, Nat.le_refl _, HO3.out, hb3⟩
            case round =>
              obtain ⟨j, rfl, hcj, hjR, hown, hb4⟩ := hrel
              have hjc : j = R.length := by omega
              subst hjc
              have hml := moved_len R R.length hjR
              have hdc : decide ((R.length : Int) < (R.length : Int)) = false := by simp
              obtain ⟨e1, e2, f1, f2⟩ := hown.at hml.symm R.length (by omega)
              have hown2 := hown.set hml.symm R.length (by omega) (f, u)
              rw [HMV.out] at hown2
              have HO4 := Lib.hid hown2
              obtain ⟨c1, c2⟩ := HAT.out wr hb4
              have i0 : (0 : Int) ≤ (R.length : Int) := by omega
              have i1 : (R.length : Int) < ((R.length + 1 : Nat) : Int) := by omega
              have hlf : (R.take R.length ++ (f, u) :: R.drop R.length).length = R.length + 1 := by simp
              clear hown hown2
              generalize ((moved R R.length)[R.length]'(by omega)).1 = yf at *
              generalize ((moved R R.length)[R.length]'(by omega)).2 = yu at *
              go_wp2_with fail
              go_roundw
              case rel => exact ⟨k + 1, R.take R.length ++ (f, u) :: R.drop R.length, by go_num, by omega, by have := HRK.out; omega, HO4.out, by rw [HTK.out]; exact HPS.out, set2_at hb4 hg2 (R.length * 2) (.int .i64 f) (.int .i64 u), HA2.out⟩
              case measure => simp [intOf]; omega
      · have HQ := Lib.hid (fun w => rproper_no l[k].1 l[k].2 hq w)
        have HN := Lib.hid (show ¬ ∀ p ∈ l, propP p from fun h => hq (h _ (List.getElem_mem hlt)))
        clear hc hq
        generalize l[k].1 = f at *
        generalize l[k].2 = u at *
        go_wp2_with fail
        refine (HQ.out _).mono ?_
        rintro r v3 ⟨rfl, hx3⟩
        have hb3 := hbel.trans (hx3.mono hbel.size)
        clear c1 c2
        go_wp2_with fail
        go_ret2
        exact Or.inr ⟨rfl, hb3, HN.out⟩
    · obtain rfl : k = l.length := by omega
      rw [List.take_length] at HSO
      have HAL := Lib.hid (show ∀ p ∈ l, propP p from fun p hpm => by
        obtain ⟨j, hj, rfl⟩ := List.getElem_of_mem hpm
        exact HA.out j hj hj)
      have HPL := Lib.hid (show ∀ p ∈ R, propP p from fun p hpm => HAL.out p (HSO.out.1.mem_iff.1 hpm))
      have HLl := HRK
      obtain ⟨a1, cap1, rfl⟩ := hown.form
      have HS2 := Lib.hid hown.sl
      clear hown HA HRK hlt
      rw [HLl.out] at HS2
      rw [HLl.out]
      generalize wr = w2 at *
      go_wp2_with fail
      go_loopw [8, 9] (fun v i wx => ∃ k : Nat, i = .int .i64 (k : Int) ∧ k ≤ l.length ∧ OwnPer wx w2.heap.size v (foldU (R.take k)) ∧ Below w2.heap.size w2 wx) (fun _ i _ => l.length - (intOf i).toNat)
      case atStart => exact ⟨0, rfl, Nat.zero_le _, OwnPer.nil _ _, Below.refl _ _⟩
      case round =>
        obtain ⟨k, rfl, hk, hown, hbl⟩ := hrel
        by_cases hlt : k < l.length
        · have hltR : k < R.length := by rw [HLl.out]; exact hlt
          obtain ⟨b, off, cap, hv, hb, hm, hc⟩ := HS2.out.at (by omega)
          rw [HLl.out] at hv
          simp only [Value.slice.injEq, true_and] at hv
          obtain ⟨rfl, rfl⟩ := hv
          obtain ⟨c1, c2⟩ := hc wr hbl k hltR
          have HT := Lib.hid (take_fold hltR)
          have hpp := HPL.out R[k] (List.getElem_mem hltR)
          have hX : ∀ q ∈ foldU (R.take k), propP q := (foldU_ok (R.take k).length (R.take k) rfl (fun p hp => HPL.out p (List.mem_of_mem_take hp)) (HSO.out.2.sublist (List.take_sublist _ _))).1.1.1
          have HAT := Lib.hid (show ∀ w', Below w2.heap.size w2 w' → w'.cell? ⟨b, off + k * 2, none⟩ = some (.int .i64 R[k].1) ∧ w'.cell? ⟨b, off + k * 2 + 1, none⟩ = some (.int .i64 R[k].2) from fun w' hb => hc w' hb k hltR)
          clear hc
          generalize R[k] = p at *
          clear hltR
          obtain ⟨f, u⟩ := p
          simp only at c1 c2 HAT
          have hlenU : (foldU (R.take k)).length ≤ 1000 := by
            have h1 := foldU_len (R.take k).length (R.take k) rfl
            rw [List.length_take] at h1
            omega
          generalize foldU (R.take k) = U at *
          rcases list_last U with rfl | ⟨V, x, rfl⟩
          · obtain ⟨a2, cap2, rfl⟩ := hown.form
            have HOW := Lib.hid hown
            have HT2 := Lib.hid (HT.out.trans (addU_nil (f, u)))
            clear hown HT hlenU hX hpp
            go_wp2_with fail
            go_quiet (fail)
            obtain ⟨c1, c2⟩ := HAT.out (wr.drewN nq) (hbl.trans (below_drewN _ _ _))
            go_wp2_with (at_builtin; refine list_append_per _ rfl _ _ rfl w2.heap.size _ _ [] [(f, u)] rfl rfl ((HOW.out.below (below_drewN _ _ nq)).below ((Below.refl _ _).alloc (Nat.le_refl _) _)) (PerSl.oneAt (by simp) f u) (by simp) (by have := hbl.size; simp; omega) ?_; intro v' w' hown hgr)
            have hb2 := ((hbl.trans (below_drewN _ _ nq)).alloc (by have := hbl.size; simp; omega) (.cells #[.int .i64 f, .int .i64 u] 35)).grown hgr (by have := hbl.size; simp; omega) (fun k hk => HOW.out.lt k hk)
            have HOW2 := Lib.hid hown
            clear hown hgr
            go_wp2_with fail
            go_roundw
            case rel => exact ⟨k + 1, by go_num, by omega, by rw [HT2.out]; exact HOW2.out, hb2⟩
            case measure => simp [intOf]; omega
          · obtain ⟨xf, xu⟩ := x
            obtain ⟨g, cap2, rfl, hg, hglt, hgc, hcm, hcx, hf1, hf2⟩ := hown.cells
            have hpx := hX (xf, xu) (by simp)
            have hV : V.length + 1 ≤ 1000 := by have := hlenU; simp at this; omega
            have HOW := Lib.hid hown
            have HJ := Lib.hid (btw_max hpx hpp)
            clear hown hlenU hX hpp hpx
            have E1 := Lib.hid (fun w => rend_any xf xu w)
            have E2 := Lib.hid (fun w => rend_any f u w)
            have k0 : (0 : Int) ≤ (V.length : Int) := by omega
            have k1 : (V.length : Int) < (V.length : Int) + 1 := by omega
            have k2 : (V.length : Int) < ((V.length + 1 : Nat) : Int) := by omega
            have k3 : decide ((0 : Int) < ((V.length + 1 : Nat) : Int)) = true := by simp
            have k5 : IntKind.i64.wrap (V.length : Int) = (V.length : Int) := IntWalk.i64_in _ (by omega)
            have k4 : IntKind.i64.wrap (((V.length + 1 : Nat) : Int) - 1) = (V.length : Int) := by rw [show (((V.length + 1 : Nat) : Int) - 1) = (V.length : Int) by omega]; exact IntWalk.i64_in _ (by omega)
            have hcells : ∀ w' : World, Below wr.heap.size wr w' → w'.cell? ⟨g, V.length * 2, none⟩ = some (.int .i64 xf) ∧ w'.cell? ⟨g, V.length * 2 + 1, none⟩ = some (.int .i64 xu) ∧ w'.cell? ⟨b, off + k * 2, none⟩ = some (.int .i64 f) ∧ w'.cell? ⟨b, off + k * 2 + 1, none⟩ = some (.int .i64 u) ∧ w'.frozen? ⟨g, V.length * 2, none⟩ = false ∧ w'.frozen? ⟨g, V.length * 2 + 1, none⟩ = false := fun w' hb => by
              obtain ⟨g2, cap3, e, -, -, -, -, hx, hfz1, hfz2⟩ := (HOW.out.below hb).cells
              simp only [Value.slice.injEq, Option.some.injEq, Addr.mk.injEq, true_and, and_true] at e
              obtain ⟨rfl, rfl⟩ := e
              obtain ⟨a, b⟩ := HAT.out w' (hbl.trans (hb.mono hbl.size))
              exact ⟨hx.1, hx.2, a, b, hfz1, hfz2⟩
            have hr := Below.refl wr.heap.size wr
            clear c1 c2 hcx hf1 hf2
            go_wp2_with fail
            go_region_held3 (fun w' => w'.cell? ⟨g, V.length * 2, none⟩ = some (.int .i64 xf) ∧ w'.cell? ⟨g, V.length * 2 + 1, none⟩ = some (.int .i64 xu) ∧ w'.cell? ⟨b, off + k * 2, none⟩ = some (.int .i64 f) ∧ w'.cell? ⟨b, off + k * 2 + 1, none⟩ = some (.int .i64 u) ∧ w'.frozen? ⟨g, V.length * 2, none⟩ = false ∧ w'.frozen? ⟨g, V.length * 2 + 1, none⟩ = false)
              (first | exact hcells _ hr.drew | exact hcells _ (by assumption))
              (first
                | (go_at_call 49; refine (E1.out _).mono ?_; rintro r x1 ⟨rfl, hx1'⟩; have hx1 : Below wr.heap.size wr x1 := hr.drew.trans hx1'))
            all_goals
              have hb3 := hbl.trans (hx1.mono hbl.size)
              have HO1 := Lib.hid (HOW.out.below hx1)
              by_cases hn : f ≤ endP (xf, xu)
              · have hnB : decide (f ≤ endP (xf, xu)) = true := decide_eq_true hn
                have HT2 := Lib.hid (HT.out.trans ((addU_join (V := V) (x := (xf, xu)) (p := (f, u)) hn).trans (congrArg (fun y => V ++ [y]) HJ.out)))
                have hcells1 : ∀ w' : World, Below x1.heap.size x1 w' → w'.cell? ⟨g, V.length * 2, none⟩ = some (.int .i64 xf) ∧ w'.cell? ⟨g, V.length * 2 + 1, none⟩ = some (.int .i64 xu) ∧ w'.cell? ⟨b, off + k * 2, none⟩ = some (.int .i64 f) ∧ w'.cell? ⟨b, off + k * 2 + 1, none⟩ = some (.int .i64 u) ∧ w'.frozen? ⟨g, V.length * 2, none⟩ = false ∧ w'.frozen? ⟨g, V.length * 2 + 1, none⟩ = false := fun w' hb => hcells w' (hx1.trans (hb.mono hx1.size))
                have hr1 := Below.refl x1.heap.size x1
                clear HJ HT
                go_wp2_with fail
                go_region_held3 (fun w' => w'.cell? ⟨g, V.length * 2, none⟩ = some (.int .i64 xf) ∧ w'.cell? ⟨g, V.length * 2 + 1, none⟩ = some (.int .i64 xu) ∧ w'.cell? ⟨b, off + k * 2, none⟩ = some (.int .i64 f) ∧ w'.cell? ⟨b, off + k * 2 + 1, none⟩ = some (.int .i64 u) ∧ w'.frozen? ⟨g, V.length * 2, none⟩ = false ∧ w'.frozen? ⟨g, V.length * 2 + 1, none⟩ = false)
                  (first | exact hcells1 _ hr1.drew | exact hcells1 _ (by assumption))
                  (first
                    | (go_at_call 49; refine (E2.out _).mono ?_; rintro r y1 ⟨rfl, hy1'⟩; have hy1 : Below x1.heap.size x1 y1 := hr1.drew.trans hy1')
                    | (go_at_call 49; refine (E1.out _).mono ?_; rintro r y2 ⟨rfl, hy2'⟩; have hy2 : Below x1.heap.size x1 y2 := hy1.trans (hy2'.mono hy1.size)))
                all_goals
                  have hb5 := hb3.trans (hy2.mono hb3.size)
                  obtain ⟨o1, o2, o3, o4, o5, o6⟩ := hcells1 _ hy2
                  have HO2 := Lib.hid (HO1.out.below hy2)
                  by_cases hm2 : endP (xf, xu) < endP (f, u)
                  · have hmB : decide (endP (xf, xu) < endP (f, u)) = true := decide_eq_true hm2
                    rw [if_pos hm2] at HT2
                    have HO3 := Lib.hid (HO2.out.setUntil u)
                    go_wp2_with fail
                    go_roundw
                    case rel => exact ⟨k + 1, by go_num, by omega, by rw [HT2.out]; exact HO3.out, hb5.setCell (p := ⟨g, V.length * 2 + 1, none⟩) hg _⟩
                    case measure => simp [intOf]; omega
                  · have hmB : decide (endP (xf, xu) < endP (f, u)) = false := decide_eq_false hm2
                    rw [if_neg hm2] at HT2
                    go_wp2_with fail
                    go_roundw
                    case rel => exact ⟨k + 1, by go_num, by omega, by rw [HT2.out]; exact HO2.out, hb5⟩
                    case measure => simp [intOf]; omega
              · have hnB : decide (f ≤ endP (xf, xu)) = false := decide_eq_false hn
                have HT2 := Lib.hid (HT.out.trans (addU_new (V := V) (x := (xf, xu)) (p := (f, u)) (Int.not_le.1 hn)))
                obtain ⟨o1, o2, o3, o4, o5, o6⟩ := hcells _ hx1
                clear HJ HT
                go_wp2_with (at_builtin; refine list_append_per _ rfl _ _ rfl w2.heap.size _ _ (V ++ [(xf, xu)]) [(f, u)] rfl rfl (HO1.out.below ((Below.refl _ _).alloc (Nat.le_refl _) _)) (PerSl.oneAt (by simp) f u) (by simp; omega) (by have := hb3.size; simp; omega) ?_; intro v' w' hown hgr)
                have hb4 := (hb3.alloc hb3.size (.cells #[.int .i64 f, .int .i64 u] 35)).grown hgr (by have := hb3.size; simp; omega) (fun k hk => HO1.out.lt k hk)
                have HOW2 := Lib.hid hown
                clear hown hgr
                go_wp2_with fail
                go_roundw
                case rel => exact ⟨k + 1, by go_num, by omega, by rw [HT2.out]; exact HOW2.out, hb4⟩
                case measure => simp [intOf]; omega
        · obtain rfl : k = l.length := by omega
          have hfull : R.take l.length = R := List.take_of_length_le (by rw [HLl.out]; exact Nat.le_refl _)
          rw [hfull] at hown
          have hF := foldU_ok R.length R rfl HPL.out HSO.out.2
          have hlenF := foldU_len R.length R rfl
          rw [HLl.out] at hlenF
          have hIs : IsU (foldU R) (cov l) := ⟨hF.1.1, fun x => (hF.1.2 x).trans (cov_mem (fun p => HSO.out.1.mem_iff) x)⟩
          have HI := Lib.hid hIs
          have HF := Lib.hid hlenF
          have HS := Lib.hid hown.sl
          have hbz := hbel.trans (hbl.mono hbel.size)
          clear hfull hF hlenF hIs hown hlt
          go_wp2_with fail
          go_ret2
          exact Or.inl ⟨⟨_, _, rfl, HI.out, HF.out, HS.out, hbz⟩, HAL.out⟩
end Go.Proofs.YtdbffhcckmmgfaaDoor.Dt
