/- Walks over layer 3's program: the digits of a message, which are ranged over. -/
import Derived.Test.YteapfoadfjjicaaDoorSlmW3
import Derived.RangeFuncNested
import Derived.RangeFuncBound
import Derived.RangeFuncCalls
import Derived.RangeFuncLeaves
import Derived.Shelf.Abstract
import Derived.Shelf.RegionOpen
import Derived.WalkKit
import Derived.OwnWalkIn
import Derived.TacticsInMore
import Derived.LoopNIn
import Derived.LoopIn
import Derived.Maps.AppendAt
namespace Go.Proofs.YteapfoadfjjicaaDoor.Dig
set_option linter.unusedVariables false
set_option linter.unusedSimpArgs false
open Go.RowKit Go.Shelf
attribute [local go_sem] Oper.semAt_some

theorem sdigits_any (m : ByteArray) (w : World) :
    Calls Tryd.prog 50 #[.string m] w fun e w' => e = .returned (.func (.func 87) #[] #[.pointer (some ⟨w.heap.size, 0, none⟩)]) ∧ w' = w.alloc (.cells #[.string m] 9) := by
  go_enter Tryd.func50, Tryd.ntmps50
  go_wp2_with fail
  go_ret
  exact ⟨rfl, rfl⟩

theorem idx_valFin : ∀ n : Fin 256, isHex (UInt8.ofNat n.val) = true → Lib.indexByte hexL (UInt8.ofNat n.val) = ((hexVal (UInt8.ofNat n.val) : Nat) : Int) := by decide +kernel
theorem idx_val (c : UInt8) (hc : isHex c = true) : Lib.indexByte hexL c = ((hexVal c : Nat) : Int) := by
  have h := idx_valFin ⟨c.toNat, UInt8.toNat_lt c⟩
  simp only [UInt8.ofNat_toNat] at h
  exact h hc
theorem hexIdx_is (c : UInt8) (hc : isHex c = true) (w : World) :
    Calls Tryd.prog 89 #[.string { data := #[48, 49, 50, 51, 52, 53, 54, 55, 56, 57, 97, 98, 99, 100, 101, 102] }, .int .u8 (c.toNat : Int)] w fun e w' => e = .returned (.int .i64 ((hexVal c : Nat) : Int)) ∧ w = w' :=
  (Tryd.strings_IndexByte _ _ w).mono fun e w' ⟨he, hw⟩ => by
    refine ⟨?_, hw.symm⟩
    rw [he, ← idx_val c hc]
    simp [hexL]

theorem sumB_at (m : ByteArray) (S : ByteArray) (hS : (⟨(dsum m.data.toList).toArray⟩ : ByteArray) = S) (k : Nat) (hk : k < 16) (h : k < S.size) : isHex S[k] = true ∧ hexVal S[k] = digAt m k := by
  subst hS
  have hl : k < (dsum (bl m)).length := by rw [dsum_length]; exact hk
  have e : (⟨(dsum m.data.toList).toArray⟩ : ByteArray)[k] = (dsum (bl m))[k] := rfl
  rw [e]
  refine ⟨dsum_hex m _ (List.getElem_mem hl), ?_⟩
  rw [digAt_hex m k hk]
  unfold hexD
  simp [hl]
theorem chk_snoc (l : List Nat) (k : Nat) (hl : k < l.length) : chkN (l.take (k + 1)) = chkN (l.take k) + (15 - l.getD k 0) := by
  rw [List.take_succ_eq_append_getElem hl, chkN_append, getD_lt _ _ _ hl]
  simp [chkN]
theorem chk_take (m : ByteArray) (k : Nat) (hk : k < 16) : chkN ((hexD m).take (k + 1)) = chkN ((hexD m).take k) + (15 - digAt m k) := by
  rw [digAt_hex m k hk]
  exact chk_snoc _ k (by rw [hexD_length]; exact hk)

/-- what comes: the number of the chain, its digit -/
abbrev Pr := { x : Nat × Nat // x.1 < 18 ∧ x.2 ≤ 15 }
def mkPr (k d : Nat) (h1 : k < 18) (h2 : d ≤ 15) : Pr := ⟨(k, d), h1, h2⟩
theorem mkPr_val (k d : Nat) (h1 : k < 18) (h2 : d ≤ 15) : (mkPr k d h1 h2).1 = (k, d) := rfl
def prAt (m : ByteArray) (k : Nat) : Pr := if h : k < 18 then mkPr k (digAt m k) h (digAt_le m k) else mkPr 0 0 (by decide) (by decide)
theorem prAt_val (m : ByteArray) (k : Nat) (h : k < 18) : (prAt m k).1 = (k, digAt m k) := by unfold prAt; rw [dif_pos h]; exact mkPr_val _ _ _ _
def pairs (m : ByteArray) (n : Nat) : List Pr := (List.range n).map (prAt m)
abbrev encP (x : Pr) : Array Value := #[.int .i64 (x.1.1 : Int), .int .i64 (x.1.2 : Int)]
theorem pairs_succ (m : ByteArray) (n : Nat) : pairs m (n + 1) = pairs m n ++ [prAt m n] := by unfold pairs; rw [List.range_succ, List.map_append]; rfl
theorem pairs_length (m : ByteArray) (n : Nat) : (pairs m n).length = n := by simp [pairs]

set_option maxRecDepth 100000 in
set_option maxHeartbeats 1000000 in
theorem digits_gen (n : Nat) (hn : 1 ≤ n) (l B n₀ : Nat) (m S : ByteArray) (hm : m.size ≤ 1000) (hS : (⟨(dsum m.data.toList).toArray⟩ : ByteArray) = S) (hsz : S.size = 16) (D C : Nat → Nat) (E : Nat → Pr) (hE : ∀ k, k < 18 → (E k).1 = (k, D k)) (P : Nat → List Pr)
    (hx : ∀ k, k < 16 → ∀ h : k < S.size, isHex S[k] = true) (hv : ∀ k, k < 16 → ∀ h : k < S.size, hexVal S[k] = D k) (hD : ∀ k, D k ≤ 15) (hC0 : C 0 = 0) (hC : ∀ k, k < 16 → C (k + 1) = C k + (15 - D k)) (hCle : ∀ k, C k ≤ 240)
    (hD16 : D 16 = C 16 / 16) (hD17 : D 17 = C 16 % 16) (hP0 : P 0 = []) (hP : ∀ k, P (k + 1) = P k ++ [E k]) (hPl : ∀ k, (P k).length = k) (J Jx : List Pr → World → Prop)
    (hJ : ∀ s (X Y : World), J s X → Below X.heap.size X Y → J s Y)
    (hY : ∀ pre x W, J pre W → pre.length < 18 → YieldAt Fence.wide (n - 1) Tryd.prog l (encP x) W fun e W' =>
      (e = .returned (.bool true) ∧ J (pre ++ [x]) W' ∧ Below n₀ W W') ∨ (e = .returned (.bool false) ∧ Jx (pre ++ [x]) W'))
    (W : World) (hB : W.cell? ⟨B, 0, none⟩ = some (.string m)) (h0 : J [] W) :
    CallsIn Fence.wide n Tryd.prog 87 #[.func (.yield l) #[] #[], .pointer (some ⟨B, 0, none⟩)] W fun e W' => (∃ v, e = .returned v) ∧
      ((∃ ys, ys = P 18 ∧ J ys W') ∨ (∃ pre : List Pr, True ∧ Jx pre W')) := by
  refine callsIn_of_wp Tryd.func87 rfl trivial ?_ rfl
  simp only [Tryd.ntmps87, List.size_toArray, List.length_cons, List.length_nil, Nat.reduceAdd, Nat.reduceSub, Array.replicate_succ, Array.replicate_zero, List.push_toArray, List.append_toArray, List.nil_append, List.cons_append]
  gi_wp2_with (refine ⟨trivial, ?_⟩; gi_at_call 88; refine (callsIn_wide.2 (sum_any m (by omega) _)).mono ?_; rintro e w1 ⟨rfl, hb1⟩; rw [hS])
  have hin := hJ _ _ _ h0 hb1
  rw [← hP0] at hin
  clear hS h0 hB hJ hb1 hm hP0
  gi_loopw [4, 11] (fun s c wr => ∃ k : Nat, k ≤ 16 ∧ c = .int .i64 (k : Int) ∧ s = .int .i64 ((C k : Nat) : Int) ∧ J (P k) wr) (fun _ c _ => 16 - (intOf c).toNat)
  case atStart => exact ⟨0, by omega, rfl, by rw [hC0]; rfl, hin⟩
  case round =>
    obtain ⟨k, hk, rfl, rfl, hj⟩ := hrel
    by_cases hlt : k < 16
    · have hks : k < S.size := by rw [hsz]; exact hlt
      have Hx := Lib.hid (hx k hlt hks)
      have Hv := Lib.hid (hv k hlt hks)
      have Ht := Lib.hid (hC k hlt)
      have Hp := Lib.hid (hP k)
      have hd := hD k
      have hc := hCle k
      obtain ⟨fn, tmps, assign, body, hy, hR⟩ := hY (P k) (E k) wr hj (by rw [hPl]; omega)
      have hEk := hE k (by omega)
      dsimp only [encP] at hy
      rw [hEk] at hy
      dsimp only at hy
      clear hEk hE
      clear hx hv hC hD hP hPl hD16 hD17 hY hC0 hCle hin
      generalize C k = c at *
      generalize D k = d at *
      generalize E k = x at *
      gi_wp2_with (refine ⟨trivial, ?_⟩; gi_at_call 89; refine (callsIn_wide.2 (hexIdx_is _ Hx.out _)).mono ?_; rintro e w1 ⟨rfl, rfl⟩; rw [Hv.out])
      refine hR.mono ?_
      rintro e W3 (⟨rfl, hJ3, hk3⟩ | ⟨rfl, hJx3⟩)
      · gi_wp2
        go_roundw
        case rel => exact ⟨k + 1, by omega, by go_num, by rw [Ht.out]; go_num, by rw [Hp.out]; exact hJ3⟩
        case measure => simp [intOf]; omega
      · gi_wp2
        refine bodyPost_ret (results_none rfl _ _ _) rfl ?_
        exact ⟨⟨_, rfl⟩, .inr ⟨_, trivial, hJx3⟩⟩
    · obtain rfl : k = 16 := by omega
      have hc := hCle 16
      have Hp16 := Lib.hid (hP 16)
      have Hp17 := Lib.hid (hP 17)
      have H16 := Lib.hid hD16
      have H17 := Lib.hid hD17
      have hl16 := hPl 16
      have hl17 := hPl 17
      obtain ⟨fn, tmps, assign, body, hy, hR⟩ := hY (P 16) (E 16) wr hj (by rw [hl16]; omega)
      have hE16 := hE 16 (by omega)
      have HE17 := Lib.hid (hE 17 (by omega))
      dsimp only [encP] at hy
      rw [hE16] at hy
      dsimp only at hy
      clear hE hE16
      have e1 : ((D 16 : Nat) : Int) = ((C 16 : Nat) : Int) / 16 := by rw [hD16]; omega
      have e2 : ((D 17 : Nat) : Int) = ((C 16 : Nat) : Int) % 16 := by rw [hD17]; omega
      rw [e1, show ((16 : Nat) : Int) = 16 from rfl] at hy
      have HY := Lib.hid hY
      have E2 := Lib.hid e2
      clear hx hv hC hD hP hPl hC0 hCle hin hD16 hD17 hY e1 e2
      generalize hc16 : C 16 = c at *
      clear hc16
      gi_wp2_with fail
      refine hR.mono ?_
      rintro e W3 (⟨rfl, hJ3, hk3⟩ | ⟨rfl, hJx3⟩)
      · obtain ⟨fn2, tmps2, assign2, body2, hy2, hR2⟩ := HY.out (P 16 ++ [E 16]) (E 17) W3 hJ3 (by rw [List.length_append, hl16, List.length_singleton]; decide)
        dsimp only [encP] at hy2
        rw [HE17.out] at hy2
        dsimp only at hy2
        rw [E2.out, show ((17 : Nat) : Int) = 17 from rfl] at hy2
        gi_wp2_with fail
        refine hR2.mono ?_
        rintro e W4 (⟨rfl, hJ4, hk4⟩ | ⟨rfl, hJx4⟩)
        · gi_wp2
          go_end0
          exact ⟨⟨_, rfl⟩, .inl ⟨_, rfl, by rw [Hp17.out, Hp16.out]; exact hJ4⟩⟩
        · gi_wp2
          go_end0
          exact ⟨⟨_, rfl⟩, .inr ⟨_, trivial, hJx4⟩⟩
      · gi_wp2
        go_end0
        exact ⟨⟨_, rfl⟩, .inr ⟨_, trivial, hJx3⟩⟩

theorem digits_stops (n : Nat) (hn : 1 ≤ n) (B n₀ : Nat) (m : ByteArray) (hm : m.size ≤ 1000) (w : World) (hB : B < w.heap.size) (hc : w.cell? ⟨B, 0, none⟩ = some (.string m)) :
    SeqStopsK Fence.wide n Tryd.prog 87 #[.pointer (some ⟨B, 0, none⟩)] encP (Below n₀) (fun ys => ys = pairs m 18) (fun _ => True) 18 w := fun l J Jx W hW hJ _ hY h0 =>
  digits_gen n hn l B n₀ m _ hm rfl (by rw [size_mk]; exact dsum_length _) (digAt m) (fun k => chkN ((hexD m).take k)) (prAt m) (prAt_val m) (pairs m) (fun k hk h => (sumB_at m _ rfl k hk h).1) (fun k hk h => (sumB_at m _ rfl k hk h).2) (digAt_le m) rfl (fun k hk => chk_take m k hk)
    (fun k => by have h1 := chkN_le ((hexD m).take k); have h2 : ((hexD m).take k).length ≤ 16 := by rw [List.length_take, hexD_length]; omega
                 omega)
    (by rw [digAt_16, List.take_of_length_le (by rw [hexD_length]; exact Nat.le_refl _)]) (by rw [digAt_17, List.take_of_length_le (by rw [hexD_length]; exact Nat.le_refl _)]) rfl (pairs_succ m) (pairs_length m) J Jx
    (fun s X Y hs hb => hJ s X Y none hs (grown_of_below hb none) (fun r e => by cases e)) hY W ((hW.cell (p := ⟨B, 0, none⟩) hB).trans hc) h0

end Go.Proofs.YteapfoadfjjicaaDoor.Dig
