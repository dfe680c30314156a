/- Walks over package polygon: the corners of a ring that are on a side of another one. -/
import Derived.Test.YtohkmkkcblbemaaPolW9
namespace Go.Proofs.Ytohkmkkcblbemaa.Ge
set_option linter.unusedVariables false
set_option linter.unusedSimpArgs false
open Go.RowKit
open Go.Proofs.Ytohkmkkcblbemaa.Fr (Two)

theorem filter_take {f : Pt → Bool} (r : List Pt) (k : Nat) (h : k < r.length) : (r.take (k + 1)).filter f = (r.take k).filter f ++ (if f r[k] = true then [r[k]] else []) := by
  rw [List.take_succ_eq_append_getElem h, List.filter_append]
  congr 1
  cases hf : f r[k] <;> simp [hf]
theorem filter_len {f : Pt → Bool} (r : List Pt) (k : Nat) : ((r.take k).filter f).length ≤ r.length := by
  have h1 := List.length_filter_le f (r.take k)
  have h2 : (r.take k).length ≤ r.length := by rw [List.length_take]; omega
  omega

set_option maxRecDepth 100000 in
set_option maxHeartbeats 4000000 in
theorem corners_any (v : Value) (r : List Pt) (hlen : 1 ≤ r.length ∧ r.length ≤ 1000) (ax ay bx bz : Int) (w : World) (hv : Ring w v r) :
    Calls Try.prog 87 #[v, .func (.func 88) #[.agg #[.int .i64 ax, .int .i64 ay, .int .i64 bx, .int .i64 bz]] #[]] w
      fun e w' => ∃ u, e = .returned u ∧ OwnPt w' w.heap.size u (r.filter (partedB ((ax, ay), bx, bz))) ∧ Below w.heap.size w w' := by
  obtain ⟨b, off, cap, rfl, hbw, hcells⟩ := hv
  obtain ⟨hl1, hl2⟩ := hlen
  have HC := Lib.hid (fun (w' : World) (hw : Below w.heap.size w w') i (hi : i < r.length) => (hcells i hi).below hw hbw)
  have HF := Lib.hid (fun k h => filter_take (f := partedB ((ax, ay), bx, bz)) r k h)
  have HL := Lib.hid (fun k => filter_len (f := partedB ((ax, ay), bx, bz)) r k)
  have HE := Lib.hid (show (r.take r.length).filter (partedB ((ax, ay), bx, bz)) = r.filter (partedB ((ax, ay), bx, bz)) from by rw [List.take_length])
  have HP := Lib.hid (fun cx cy w => parted_any ax ay bx bz cx cy w)
  have HPV := Lib.hid (fun c : Pt => show partedB ((ax, ay), bx, bz) c = ptB c.1 c.2 ax ay bx bz from rfl)
  clear hcells
  go_enter Try.func87, Try.ntmps87
  go_wp2_with fail
  go_loopw [5, 10] (fun s i wr => ∃ k : Nat, i = .int .i64 (k : Int) ∧ k ≤ r.length ∧ OwnPt wr w.heap.size s ((r.take k).filter (partedB ((ax, ay), bx, bz))) ∧ Below w.heap.size w wr) (fun _ i _ => r.length - (intOf i).toNat)
  case atStart => exact ⟨0, rfl, Nat.zero_le _, OwnPt.nil _ _, Below.refl _ _⟩
  case round =>
    obtain ⟨k, rfl, hk, hs, hbel⟩ := hrel
    by_cases hlt : k < r.length
    · obtain ⟨c1, c2⟩ := HC.out wr hbel k hlt
      have hz := hbel.size
      have hf := HF.out k hlt
      have hl := HL.out k
      have hpv := HPV.out r[k]
      rw [hpv] at hf
      obtain ⟨⟨px, py⟩, ep⟩ : ∃ p : Pt, r[k] = p := ⟨_, rfl⟩
      rw [ep] at c1 c2 hf
      dsimp only at c1 c2 hf
      clear ep hpv
      have HPC := Lib.hid (fun w => HP.out px py w)
      obtain ⟨L0, hL0⟩ : ∃ L0, (r.take k).filter (partedB ((ax, ay), bx, bz)) = L0 := ⟨_, rfl⟩
      rw [hL0] at hs hf hl
      clear hL0
      obtain ⟨L1, hL1⟩ : ∃ L1, (r.take (k + 1)).filter (partedB ((ax, ay), bx, bz)) = L1 := ⟨_, rfl⟩
      rw [hL1] at hf
      have HL1 := Lib.hid hL1
      clear hL1
      have hbA := hbel.alloc hz (.cells #[.int .i64 px, .int .i64 py] 23)
      have tP := Two.new wr 23 (.int .i64 px) (.int .i64 py)
      have hsA := hs.below ((Below.refl wr.heap.size wr).alloc (Nat.le_refl _) (.cells #[.int .i64 px, .int .i64 py] 23))
      cases hpt : ptB px py ax ay bx bz with
      | true =>
        rw [hpt] at HPC
        rw [hpt, if_pos rfl] at hf
        have HFF := Lib.hid hf
        have HSA := Lib.hid hsA
        clear hf hs hsA hpt
        go_wp2_with fail
        refine (HPC.out _).mono ?_
        rintro e w1 ⟨rfl, hb1⟩
        have hb2 := hbA.trans (hb1.mono hbA.size)
        have hz2 := hb2.size
        obtain ⟨d1, d2, -, -⟩ := (tP.below hb1 tP.lt).facts
        clear c1 c2
        go_upto_region 7 with (at_builtin; refine list_append_pt _ rfl _ _ rfl w.heap.size _ _ L0 [(px, py)] rfl rfl ((HSA.out.below hb1).below ((Below.refl _ _).alloc (Nat.le_refl _) _)) (PtSl.one _ (px, py)) (by rw [List.length_singleton]; omega) (by simp only [World.size_alloc]; omega) ?_; intro v' w2 own2 grow2 at2; have hb3 : Below w.heap.size w w2 := (hb2.alloc hb2.size _).grown grow2 (by simp only [World.size_alloc]; omega) (fun k hk => HSA.out.lt k hk); have HO2 := Lib.hid own2; clear own2 grow2 at2)
        go_wp2_with fail
        go_roundw
        case rel => exact ⟨k + 1, by go_num, by omega, by rw [HL1.out, HFF.out]; exact HO2.out, hb3⟩
        case measure => simp [intOf]; omega
      | false =>
        rw [hpt] at HPC
        rw [hpt, if_neg (by simp), List.append_nil] at hf
        have HFF := Lib.hid hf
        have HSA := Lib.hid hsA
        clear hf hs hsA hpt
        go_wp2_with fail
        refine (HPC.out _).mono ?_
        rintro e w1 ⟨rfl, hb1⟩
        have hb2 := hbA.trans (hb1.mono hbA.size)
        clear c1 c2
        go_wp2_with fail
        go_roundw
        case rel => exact ⟨k + 1, by go_num, by omega, by rw [HL1.out, HFF.out]; exact HSA.out.below hb1, hb2⟩
        case measure => simp [intOf]; omega
    · obtain rfl : k = r.length := by omega
      rw [HE.out] at hs
      go_wp2_with fail
      go_ret
      exact ⟨_, rfl, hs, hbel⟩
end Go.Proofs.Ytohkmkkcblbemaa.Ge
