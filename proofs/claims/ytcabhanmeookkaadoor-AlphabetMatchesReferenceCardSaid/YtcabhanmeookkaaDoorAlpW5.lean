/- Walks over package alphabet: scriptOf. -/
import Derived.Test.YtcabhanmeookkaaDoorAlpW4
import Derived.Test.YtcabhanmeookkaaDoorAlpCel
import Derived.BigRegion
import Derived.Laws.ResultCell
import Derived.Carry
import Derived.Deep.DeepCutAuto
namespace Go.Proofs.YtcabhanmeookkaaDoor.Al
set_option linter.unusedVariables false
set_option linter.unusedSimpArgs false
open Go.RowKit

/-- what scriptOf comes to -/
def Scr (V : Bool) (L : List Bs) (v : Value) (w : World) (e : Ending) (w' : World) : Prop :=
  ∃ a m c r, e = .returned (.tuple #[.agg #[.slice a m c, .map r], .bool V]) ∧ Below w.heap.size w w' ∧ (V = true → .slice a m c = v ∧ ∃ Bm n, r = some Bm ∧ w.heap.size ≤ Bm ∧ IxMap w' L Bm n L.length)
/-- what the making of the script leaves -/
def MadeAt (L : List Bs) (w1 : World) (vl p : Value) (wx : World) : Prop :=
  ∃ Bs Bm, p = .pointer (some ⟨Bs, 0, none⟩) ∧ w1.heap.size ≤ Bs ∧ w1.heap.size ≤ Bm ∧ Blk wx Bs 44 #[vl, .map (some Bm)] ∧ IxMap wx L Bm 0 0 ∧ Below w1.heap.size w1 wx
theorem mk_map (n : Nat) (h : n ≤ 1000) (w : World) : (Instr.makeMap 42 (some (.int .i64 (n : Int)))).run Tryd.prog w = .ok (.map (some w.heap.size)) (w.alloc (.map #[] 0)) := by
  simp [Instr.makeMap, go_sem]

set_option maxRecDepth 100000 in
set_option maxHeartbeats 4000000 in
theorem scriptOf_any (nm : ByteArray) (vl vs : Value) (L : List ByteArray) (S : List Int) (hnm : nm.size ≤ 5000) (hll : L.length ≤ 1000) (hlz : ∀ l ∈ L, l.size ≤ 1000) (w : World) (hL : StrSl w vl L) (hS : IntSl w vs S) :
    Calls Tryd.prog 26 #[.agg #[.string nm, vl, vs]] w (Scr (validA (bl nm) (bls L) S) (bls L) vl w) := by
  have HV := Lib.hid (show validA (bl nm) (bls L) S = ((decide (1 ≤ L.length) && (decide (L.length ≤ 64) && ((bls L).all propB && (nodupB (bls L) && faithB (bls L))))) && (foldS S L.length && nameB (bl nm))) by unfold validA lettersB; rw [bls_len])
  generalize validA (bl nm) (bls L) S = R at *
  have Hend : Hid (∀ a m c r w', R = false → Below w.heap.size w w' → Scr R (bls L) vl w (.returned (.tuple #[.agg #[.slice a m c, .map r], .bool false])) w') :=
    Lib.hid fun a m c r w' hR hb => ⟨a, m, c, r, by rw [hR], hb, fun h => by rw [hR] at h; cases h⟩
  obtain ⟨al, cl, rfl⟩ := hL.form
  have HL := Lib.hid hL
  have HS := Lib.hid hS
  clear hL hS
  have k1 : Blk ((w.alloc (.cells #[.string nm, .slice al L.length cl, vs] 25)).alloc (.cells #[.slice none 0 0, .map none] 44)) w.heap.size 25 #[.string nm, .slice al L.length cl, vs] := (Blk.new w _ _).alloc _
  have k2 : Blk ((w.alloc (.cells #[.string nm, .slice al L.length cl, vs] 25)).alloc (.cells #[.slice none 0 0, .map none] 44)) (w.heap.size + 1) 44 #[.slice none 0 0, .map none] := Blk.at (by simp) _ _
  have hb0 : Below w.heap.size w ((w.alloc (.cells #[.string nm, .slice al L.length cl, vs] 25)).alloc (.cells #[.slice none 0 0, .map none] 44)) := ((Below.refl _ _).alloc (Nat.le_refl _) _).alloc (by simp) _
  by_cases h0 : L.length = 0
  · have hR : R = false := by rw [HV.out, h0]; rfl
    have hz : ((L.length : Int) == 0) = true := by simp [h0]
    go_enter Tryd.func26, Tryd.ntmps26
    go_wp2_with fail
    refine bodyPost_ret (v := .tuple #[.agg #[.slice none 0 0, .map none], .bool false]) ?_ rfl (Hend.out _ _ _ _ _ hR ?_)
    · simp [results, Tryd.results26, go_sem]
    · simpa [h0] using hb0
  · have hz : ((L.length : Int) == 0) = false := by rw [beq_eq_false_iff_ne]; omega
    by_cases h64 : (64 : Int) < (L.length : Int)
    · have hR : R = false := by
        rw [HV.out]
        have : decide (L.length ≤ 64) = false := by simp; omega
        rw [this]; simp
      clear k1 k2
      go_enter Tryd.func26, Tryd.ntmps26
      go_wp2_with fail
      refine bodyPost_ret (v := .tuple #[.agg #[.slice none 0 0, .map none], .bool false]) ?_ rfl (Hend.out _ _ _ _ _ hR hb0)
      simp [results, Tryd.results26, go_sem]
    · have hfold := fun w' h => folding_any vs S L.length (by omega) w' (HS.out.below (w' := w') h)
      have HF := Lib.hid hfold
      clear hfold
      cases hf : foldS S L.length with
      | false =>
        have hR : R = false := by rw [HV.out, hf]; simp
        rw [hf] at HF
        go_enter Tryd.func26, Tryd.ntmps26
        go_wp2_with fail
        refine (HF.out _ hb0).mono ?_
        rintro e w1 ⟨rfl, hw⟩
        obtain rfl := hw
        go_wp2_with fail
        refine bodyPost_ret (v := .tuple #[.agg #[.slice none 0 0, .map none], .bool false]) ?_ rfl (Hend.out _ _ _ _ _ hR hb0)
        simp [results, Tryd.results26, go_sem]
      | true =>
        rw [hf] at HF
        have HN := Lib.hid (fun w' => identifier_any nm hnm w')
        cases hn : nameB (bl nm) with
        | false =>
          have hR : R = false := by rw [HV.out, hn]; simp
          rw [hn] at HN
          clear hf hn
          go_enter Tryd.func26, Tryd.ntmps26
          go_wp2_with fail
          refine (HF.out _ hb0).mono ?_
          rintro e w1 ⟨rfl, hw⟩
          obtain rfl := hw
          go_wp2_with fail
          refine (HN.out _).mono ?_
          rintro e w1 ⟨rfl, hb1⟩
          have k2' := k2.below hb1 k2.lt
          have c0 := k2'.cell 0
          have c1 := k2'.cell 1
          have f0 := k2'.frozen 0
          have f1 := k2'.frozen 1
          have hb := hb0.trans (hb1.mono hb0.size)
          go_wp2_with fail
          have k3 := (k2'.set 0 (.slice none 0 0)).set 1 (.map none)
          have d0 := k3.cell 0
          have d1 := k3.cell 1
          refine bodyPost_ret (v := .tuple #[.agg #[.slice none 0 0, .map none], .bool false]) ?_ rfl (Hend.out _ _ _ _ _ hR (set_below (set_below hb (by omega) _) (by omega) _))
          simp at d0 d1
          simp [results, Tryd.results26, go_sem, d0, d1]
        | true =>
          rw [hn] at HN
          have HV2 := Lib.hid (show R = ((bls L).all propB && (nodupB (bls L) && faithB (bls L))) by
            rw [HV.out, hf, hn, decide_eq_true (show 1 ≤ L.length by omega), decide_eq_true (show L.length ≤ 64 by omega)]; simp)
          clear HV hf hn
          have hmm := mk_map L.length (by omega)
          go_enter Tryd.func26, Tryd.ntmps26
          go_wp2_with fail
          refine (HF.out _ hb0).mono ?_
          rintro e w1 ⟨rfl, hw⟩
          obtain rfl := hw
          go_wp2_with fail
          refine (HN.out _).mono ?_
          rintro e w1 ⟨rfl, hb1⟩
          have k1' := k1.below hb1 k1.lt
          have k2' := k2.below hb1 k2.lt
          have a1 : w1.cell? ⟨w.heap.size, 1, none⟩ = some (.slice al L.length cl) := k1'.cell 1
          have hs1 : w.heap.size + 1 + 1 ≤ w1.heap.size := by simpa using hb1.size
          have hs2 : w.heap.size < w1.heap.size := by omega
          have hb := hb0.trans (hb1.mono hb0.size)
          go_upto_region 4 with fail
          go_cut [5] (fun p wx => MadeAt (bls L) w1 (.slice al L.length cl) p wx)
          case first =>
            go_region
            · go_wp2_with fail
              go_meet
              exact ⟨_, _, rfl, by omega, Nat.le_refl _, Blk.at (w := w1.alloc (.map #[] 0)) (by simp) _ _, (World.ownsMap_made w1 _ _ _).alloc _, (((Below.refl _ w1).alloc (Nat.le_refl _) _).alloc (by simp) _).drew⟩
            · go_wp2_with fail
              go_meet
              refine ⟨_, _, rfl, Nat.le_refl _, by omega, (Blk.new w1 _ _).alloc _, ?_, (((Below.refl _ w1).alloc (Nat.le_refl _) _).alloc (by simp) _).drew⟩
              have h := World.ownsMap_made (H := Unit) (w1.alloc (.cells #[.slice al L.length cl, .map (some (w1.heap.size + 1))] 44)) Tryd.prog 9 (plainElem (H := Unit) Tryd.prog 3)
              rw [World.size_alloc] at h
              exact h
          case rest =>
            obtain ⟨Bs, Bm, rfl, hBs, hBm, ks, hM, hbc⟩ := hcut
            have j1 := k1'.below hbc k1'.lt
            have j2 := k2'.below hbc k2'.lt
            have hb2 := hb.trans (hbc.mono hb.size)
            have a1' : wc.cell? ⟨w.heap.size, 1, none⟩ = some (.slice al L.length cl) := j1.cell 1
            have hck := HL.out.open h0
            obtain ⟨b, off, cap, hsl, hlt, hm, hcell⟩ := hck
            obtain ⟨rfl, rfl⟩ : al = some ⟨b, off, none⟩ ∧ cl = cap := by simpa using hsl
            unfold maxLen at hm
            clear hsl HF HN hb1 hbc k1 k2 k1' k2' a1 hb0
            go_wp2_with fail
            go_loopw [39] (fun i wr => ∃ k : Nat, k ≤ L.length ∧ i = .int .i64 k ∧ Hid (∀ j (h : j < L.length), j < k → propB (bl L[j]) = true) ∧ IxMap wr (bls L) Bm k k ∧ Blk wr Bs 44 #[.slice (some ⟨b, off, none⟩) L.length cl, .map (some Bm)] ∧ Blk wr (w.heap.size + 1) 44 #[.slice none 0 0, .map none] ∧ Below w.heap.size w wr) (fun i _ => L.length - (intOf i).toNat)
            case atStart => exact ⟨0, by omega, rfl, Lib.hid (fun j _ h => by omega), hM, ks, j2, hb2⟩
            case round =>
              obtain ⟨k, hk, rfl, Hall, hM2, ks2, j22, hbr⟩ := hrel
              by_cases hlk : k < L.length
              · have hck : wr.cell? ⟨b, off + k, none⟩ = some (.string L[k]) := (hbr.cell (p := ⟨b, off + k, none⟩) hlt).trans (hcell k hlk)
                have hmem : L[k] ∈ L := List.getElem_mem hlk
                have hprop := proper_any L[k] (by have := hlz _ hmem; omega) wr
                have Hcell := Lib.hid hcell
                clear hcell
                cases hx : propB (bl L[k]) with
                | false =>
                  have hR : R = false := by
                    rw [HV2.out]
                    have : (bls L).all propB = false := by rw [List.all_eq_false]; exact ⟨bl L[k], List.mem_map.2 ⟨_, hmem, rfl⟩, by rw [hx]; simp⟩
                    rw [this]; simp
                  rw [hx] at hprop
                  have c0 : wr.cell? ⟨w.heap.size + 1, 0, none⟩ = some (.slice none 0 0) := j22.cell 0
                  have c1 : wr.cell? ⟨w.heap.size + 1, 1, none⟩ = some (.map none) := j22.cell 1
                  have f0 := j22.frozen 0
                  have f1 := j22.frozen 1
                  clear hx
                  go_wp2_with fail
                  refine hprop.mono ?_
                  rintro e w2 ⟨rfl, hw⟩
                  obtain rfl := hw
                  go_wp2_with fail
                  have k3 := (j22.set 0 (.slice none 0 0)).set 1 (.map none)
                  have d0 := k3.cell 0
                  have d1 := k3.cell 1
                  refine bodyPost_ret (v := .tuple #[.agg #[.slice none 0 0, .map none], .bool false]) ?_ rfl (Hend.out _ _ _ _ _ hR (set_below (set_below hbr (by omega) _) (by omega) _))
                  simp at d0 d1
                  simp [results, Tryd.results26, go_sem, d0, d1]
                | true =>
                  have Hx := Lib.hid hx
                  rw [hx] at hprop
                  have c1 : wr.cell? ⟨Bs, 1, none⟩ = some (.map (some Bm)) := ks2.cell 1
                  have hown : wr.ownsMap Tryd.prog 9 (plainElem (H := Unit) Tryd.prog 3) Bm k (dm Unit (bls L) k) := hM2
                  have hsz := hlz _ hmem
                  have hkey := WideMaps.keyOf_string_mk (P := Tryd.prog) Tryd.underlying9 (s := L[k]) (by unfold maxLen; omega)
                  have HD := Lib.hid (show (dm Unit (bls L) k).put (.string L[k].data.toList) (.lit (.int .i64 (k : Int))) = dm Unit (bls L) (k + 1) by rw [← show ltA (bls L) k = L[k].data.toList from bls_get L k hlk]; rfl)
                  have hlb := hM2.lt
                  clear hx
                  go_wp2_with fail
                  refine hprop.mono ?_
                  rintro e w2 ⟨rfl, hw⟩
                  obtain rfl := hw
                  go_wp2_with (first | (at_mapUpdate; refine wpList_mapUpdate_own _ rfl _ _ _ 42 rfl 9 3 (Maps.string_keyed Tryd.underlying9) Tryd.underlying42 _ Bm k _ rfl hown ?m1 _ _ _ rfl rfl hkey _ [] (plainElem_int Tryd.underlying3 ?m2) ?_))
                  case m1 => unfold maxLen; omega
                  case m2 => exact WalkArith.wf_i64 (by omega)
                  intro w3 hown3 hg3
                  rw [HD.out] at hown3
                  have hne1 : Bs ≠ Bm := by rintro rfl; obtain ⟨es, cl, h1, _⟩ := hM2; rw [ks2] at h1; cases h1
                  have ks3 := ks2.grown hg3 (by simpa using hne1)
                  have j3 := j22.grown hg3 (by simp; omega)
                  have hb3 := hbr.grown hg3 hbr.size (fun q e => by cases e; omega)
                  go_wp2_with fail
                  go_roundw
                  case rel =>
                    refine ⟨k + 1, by omega, by go_num, Lib.hid fun j h hj => ?_, hown3, ks3, j3, hb3⟩
                    rcases Nat.lt_succ_iff_lt_or_eq.1 hj with h2 | rfl
                    · exact Hall.out j h h2
                    · exact Hx.out
                  case measure => simp [intOf]; omega
              · obtain rfl : k = L.length := by omega
                clear hcell
                have hall : (bls L).all propB = true := by
                  rw [List.all_eq_true]
                  intro x hx
                  obtain ⟨s, hs, rfl⟩ := List.mem_map.1 hx
                  obtain ⟨j, hj, rfl⟩ := List.mem_iff_getElem.1 hs
                  exact Hall.out j hj hj
                have hp : ∀ l ∈ L, 1 ≤ l.size ∧ l.size ≤ 1000 := fun l hl => by
                  have h1 := prop_of (List.all_eq_true.1 hall (bl l) (List.mem_map.2 ⟨l, hl, rfl⟩))
                  rw [bl_len] at h1
                  omega
                have HR := Lib.hid (show R = (nodupB (bls L) && faithB (bls L)) by rw [HV2.out, hall]; rfl)
                have hsz := dm_nodup Unit (bls L)
                rw [bls_len] at hsz
                have s0 : wr.cell? ⟨Bs, 0, none⟩ = some (.slice (some ⟨b, off, none⟩) L.length cl) := ks2.cell 0
                have s1 : wr.cell? ⟨Bs, 1, none⟩ = some (.map (some Bm)) := ks2.cell 1
                have c0 : wr.cell? ⟨w.heap.size + 1, 0, none⟩ = some (.slice none 0 0) := j22.cell 0
                have c1 : wr.cell? ⟨w.heap.size + 1, 1, none⟩ = some (.map none) := j22.cell 1
                have f0 := j22.frozen 0
                have f1 := j22.frozen 1
                have hlen : ∀ ty, (Builtin.len_ #[42] ty #[.map (some Bm)]).run Tryd.prog wr.drew = .ok (.int .i64 (Maps.size (dm Unit (bls L) L.length))) wr.drew := fun ty => World.ownsMap.len (w := wr.drew) hM2 Tryd.underlying42 ty
                clear hall
                cases hd : nodupB (bls L) with
                | false =>
                  rw [hd] at hsz
                  have hR : R = false := by rw [HR.out, hd]; rfl
                  have hne : (((Maps.size (dm Unit (bls L) L.length) : Nat) : Int) == (L.length : Int)) = false := by
                    rw [beq_eq_false_iff_ne]; have := of_decide_eq_false hsz; omega
                  clear hd hsz
                  generalize Maps.size (dm Unit (bls L) L.length) = m at *
                  go_wp2_with fail
                  go_region
                  have k3 := (j22.set 0 (.slice (some ⟨b, off, none⟩) L.length cl)).set 1 (.map (some Bm))
                  have d0 := k3.cell 0
                  have d1 := k3.cell 1
                  simp at d0 d1
                  go_wp2_with fail
                  refine bodyPost_ret (v := .tuple #[.agg #[.slice (some ⟨b, off, none⟩) L.length cl, .map (some Bm)], .bool false]) ?_ rfl (Hend.out _ _ _ _ _ hR ((set_below (set_below hbr (by omega) _) (by omega) _).drew))
                  simp [results, Tryd.results26, go_sem, d0, d1]
                | true =>
                  rw [hd] at hsz
                  have hnd := (nodup_iff _).1 hd
                  have hR : Hid (R = faithB (bls L)) := Lib.hid (by rw [HR.out, hd]; rfl)
                  have HSz := Lib.hid (of_decide_eq_true hsz)
                  clear hlen
                  have heq : ((L.length : Int) == (L.length : Int)) = true := by simp
                  have hL3 : StrSl wr (.slice (some ⟨b, off, none⟩) L.length cl) L := HL.out.below hbr
                  have HFth := Lib.hid (fun w' (h : Below wr.heap.size wr w') => faithful_any L hp hnd (.slice (some ⟨b, off, none⟩) L.length cl) Bm L.length w' (hL3.below h) (by rw [bls_len]; exact hM2.below h hM2.lt))
                  clear hd hsz hnd hL3
                  generalize faithB (bls L) = r at *
                  have hr := (Below.refl wr.heap.size wr).drew
                  have hS : ∀ w', Below wr.heap.size wr w' → (w'.cell? ⟨Bs, 0, none⟩ = some (.slice (some ⟨b, off, none⟩) L.length cl) ∧ w'.cell? ⟨Bs, 1, none⟩ = some (.map (some Bm))) ∧ (Builtin.len_ #[42] 3 #[.map (some Bm)]).run Tryd.prog w' = .ok (.int .i64 (L.length : Int)) w' := fun w' hw =>
                    ⟨⟨(hw.cell (p := ⟨Bs, 0, none⟩) ks2.lt).trans s0, (hw.cell (p := ⟨Bs, 1, none⟩) ks2.lt).trans s1⟩, by have h := World.ownsMap.len (hM2.below hw hM2.lt) Tryd.underlying42 3; rw [HSz.out] at h; exact h⟩
                  have Hset : ∀ (w' : World) x y, Below wr.heap.size wr w' → Hid ((((w'.setCell ⟨w.heap.size + 1, 0, none⟩ x).setCell ⟨w.heap.size + 1, 1, none⟩ y).cell? ⟨Bs, 0, none⟩ = some (.slice (some ⟨b, off, none⟩) L.length cl) ∧ ((w'.setCell ⟨w.heap.size + 1, 0, none⟩ x).setCell ⟨w.heap.size + 1, 1, none⟩ y).cell? ⟨Bs, 1, none⟩ = some (.map (some Bm))) ∧ (Builtin.len_ #[42] 3 #[.map (some Bm)]).run Tryd.prog ((w'.setCell ⟨w.heap.size + 1, 0, none⟩ x).setCell ⟨w.heap.size + 1, 1, none⟩ y) = .ok (.int .i64 (L.length : Int)) ((w'.setCell ⟨w.heap.size + 1, 0, none⟩ x).setCell ⟨w.heap.size + 1, 1, none⟩ y)) := fun w' x y hw => Lib.hid (by
                    have hne : Bs ≠ w.heap.size + 1 := by omega
                    have kk := ((ks2.below hw ks2.lt).other 0 x hne).other 1 y hne
                    have hm' : IxMap ((w'.setCell ⟨w.heap.size + 1, 0, none⟩ x).setCell ⟨w.heap.size + 1, 1, none⟩ y) (bls L) Bm L.length L.length :=
                      World.ownsMap.setCell (World.ownsMap.setCell (hM2.below hw hM2.lt) (a := ⟨w.heap.size + 1, 0, none⟩) (show Bm ≠ w.heap.size + 1 by omega) x) (a := ⟨w.heap.size + 1, 1, none⟩) (show Bm ≠ w.heap.size + 1 by omega) y
                    have h := World.ownsMap.len hm' Tryd.underlying42 3
                    rw [HSz.out] at h
                    exact ⟨⟨kk.cell 0, kk.cell 1⟩, h⟩)
                  go_wp2_with fail
                  go_region_held3 (fun w' => (w'.cell? ⟨Bs, 0, none⟩ = some (.slice (some ⟨b, off, none⟩) L.length cl) ∧ w'.cell? ⟨Bs, 1, none⟩ = some (.map (some Bm))) ∧ (Builtin.len_ #[42] 3 #[.map (some Bm)]).run Tryd.prog w' = .ok (.int .i64 (L.length : Int)) w')
                    (first | exact hS _ hr | exact hS _ (by assumption) | exact (Hset _ _ _ (by assumption)).out)
                    (first
                      | (go_at_call 36; refine (HFth.out _ hr).mono ?_; rintro e w5 ⟨rfl, hb5'⟩; have hb5 := hr.trans hb5'; have j5 := j22.below hb5 j22.lt; have x0 : w5.cell? ⟨w.heap.size + 1, 0, none⟩ = some (.slice none 0 0) := j5.cell 0; have x1 : w5.cell? ⟨w.heap.size + 1, 1, none⟩ = some (.map none) := j5.cell 1; have y0 := j5.frozen 0; have y1 := j5.frozen 1))
                  have k5 := (j5.set 0 (.slice (some ⟨b, off, none⟩) L.length cl)).set 1 (.map (some Bm))
                  have d0 := k5.cell 0
                  have d1 := k5.cell 1
                  simp at d0 d1
                  have hbE := hbr.trans (hb5.mono hbr.size)
                  have hM5 := hM2.below hb5 hM2.lt
                  go_wp2_with fail
                  refine bodyPost_ret (v := .tuple #[.agg #[.slice (some ⟨b, off, none⟩) L.length cl, .map (some Bm)], .bool r]) ?_ rfl ⟨_, _, _, _, by rw [hR.out], set_below (set_below hbE (by omega) _) (by omega) _, fun _ => ⟨rfl, Bm, L.length, rfl, by have := hb.size; omega, ?_⟩⟩
                  · simp [results, Tryd.results26, go_sem, d0, d1]
                  · rw [bls_len]
                    exact World.ownsMap.setCell (World.ownsMap.setCell hM5 (a := ⟨w.heap.size + 1, 0, none⟩) (show Bm ≠ w.heap.size + 1 by omega) _) (a := ⟨w.heap.size + 1, 1, none⟩) (show Bm ≠ w.heap.size + 1 by omega) _
end Go.Proofs.YtcabhanmeookkaaDoor.Al
