/- Walks over packages gazetteerref04 and gazetteerlaw04: tokens' bytes, lists of tokens. -/
import Derived.Test.YtkgkejphifkpkaaDoorLexR1
namespace Go.Proofs.YtkgkejphifkpkaaDoor.Lx
set_option linter.unusedVariables false
set_option linter.unusedSimpArgs false
open Go.RowKit

/-- a token's bytes, and their number -/
def wrT (t : Tok) : List UInt8 := wr t.kind t.text
def wid (t : Tok) : Nat := (wrT t).length
theorem wid_eq (t : Tok) : wid t = if t.kind = 3 then t.text.length + 2 else t.text.length := by
  unfold wid wrT wr
  split
  · simp
  · rfl

theorem width_any (t : Tok) (h : t.text.length ≤ 100000) (w : World) :
    Calls Tryd.prog 30 #[.agg #[.int .i64 (t.kind : Int), .int .i64 (t.pos : Int), .int .i64 (t.n : Int), .string ⟨t.text.toArray⟩]] w fun e w' => e = .returned (.int .i64 (wid t : Int)) ∧ Below w.heap.size w w' := by
  rw [wid_eq]
  have hsz : (ByteArray.mk t.text.toArray).size = t.text.length := by rw [Lib.size_eq]
  generalize ByteArray.mk t.text.toArray = s at *
  by_cases hk : t.kind = 3
  · rw [if_pos hk, ← hsz]
    have hI : ((t.kind : Int) == 3) = true := by rw [hk]; rfl
    rw [← hsz] at h
    have hI2 : (s.size : Int) ≤ 100000 := by omega
    clear hsz hk
    go_enter Tryd.func30, Tryd.ntmps30
    go_wp2_with fail
    go_ret
    exact ⟨rfl, (Below.refl _ w).alloc (Nat.le_refl _) _⟩
  · rw [if_neg hk, ← hsz]
    have hI : ((t.kind : Int) == 3) = false := by simp; omega
    rw [← hsz] at h
    clear hsz hk
    go_enter Tryd.func30, Tryd.ntmps30
    go_wp2_with fail
    go_ret
    exact ⟨rfl, (Below.refl _ w).alloc (Nat.le_refl _) _⟩

theorem written_any (t : Tok) (h : t.text.length ≤ 100000) (w : World) :
    Calls Tryd.prog 31 #[.agg #[.int .i64 (t.kind : Int), .int .i64 (t.pos : Int), .int .i64 (t.n : Int), .string ⟨t.text.toArray⟩]] w fun e w' => e = .returned (.string ⟨(wrT t).toArray⟩) ∧ Below w.heap.size w w' := by
  unfold wrT wr
  have hsz : (ByteArray.mk t.text.toArray).size = t.text.length := by rw [Lib.size_eq]
  by_cases hk : t.kind = 3
  · rw [if_pos hk]
    have hI : ((t.kind : Int) == 3) = true := by rw [hk]; rfl
    have he : (ByteArray.mk #[34] ++ ByteArray.mk t.text.toArray) ++ ByteArray.mk #[34] = ⟨(34 :: (t.text ++ [34])).toArray⟩ := by
      apply ByteArray.ext
      apply Array.toList_inj.1
      simp
    have He := Lib.hid he
    generalize ByteArray.mk t.text.toArray = s at *
    have hI2 : (s.size : Int) ≤ 100000 := by omega
    clear hsz hk he
    go_enter Tryd.func31, Tryd.ntmps31
    go_wp2_with fail
    go_ret
    rw [← He.out]
    exact ⟨rfl, (Below.refl _ w).alloc (Nat.le_refl _) _⟩
  · rw [if_neg hk]
    have hI : ((t.kind : Int) == 3) = false := by simp; omega
    clear hsz hk
    go_enter Tryd.func31, Tryd.ntmps31
    go_wp2_with fail
    go_ret
    exact ⟨rfl, (Below.refl _ w).alloc (Nat.le_refl _) _⟩

/-- tokens, with one blank after each -/
def allL (ts : List Tok) : List UInt8 := ts.flatMap fun t => wrT t ++ [32]
theorem allL_nil : allL [] = [] := rfl
theorem allL_cons (t : Tok) (ts : List Tok) : allL (t :: ts) = wrT t ++ 32 :: allL ts := by
  unfold allL
  rw [List.flatMap_cons, List.append_assoc]
  rfl
theorem allL_append (a b : List Tok) : allL (a ++ b) = allL a ++ allL b := List.flatMap_append
theorem allL_take (ts : List Tok) (i : Nat) (h : i < ts.length) : allL (ts.take (i + 1)) = allL (ts.take i) ++ (wrT ts[i] ++ [32]) := by
  rw [List.take_succ_eq_append_getElem h, allL_append]
  rw [allL_cons, allL_nil]
theorem allL_take_le (ts : List Tok) (i : Nat) : (allL (ts.take i)).length ≤ (allL ts).length := by
  conv => rhs; rw [← List.take_append_drop i ts, allL_append, List.length_append]
  omega

/-- texts of tokens are not too long -/
def Short (ts : List Tok) : Prop := ∀ t ∈ ts, t.text.length ≤ 100000

set_option maxHeartbeats 1000000 in
theorem all_some (ts : List Tok) (hsh : Short ts) (hall : (allL ts).length ≤ 1000000) (b off cap : Nat) (w : World) (h0 : 0 < ts.length) (hb : b < w.heap.size) (hm : ts.length ≤ maxLen)
    (hc : ∀ i (h : i < ts.length), Cells4 w b (off + i * 4) ts[i]) :
    Calls Tryd.prog 33 #[.slice (some ⟨b, off, none⟩) ts.length cap] w fun e w' => e = .returned (.string ⟨(allL ts).toArray⟩) ∧ Below w.heap.size w w' := by
  unfold maxLen at hm
  have Hc := Lib.hid hc
  clear hc
  go_enter Tryd.func33, Tryd.ntmps33
  go_wp2_with fail
  go_loopw [3, 4] (fun v i wr => ∃ k : Nat, k ≤ ts.length ∧ i = .int .i64 k ∧ v = .string ⟨(allL (ts.take k)).toArray⟩ ∧ Below w.heap.size w wr) (fun _ i _ => ts.length - (intOf i).toNat)
  case atStart => exact ⟨0, by omega, rfl, rfl, Below.refl _ _⟩
  case round =>
    obtain ⟨k, hk, rfl, rfl, hbel⟩ := hrel
    by_cases hlt : k < ts.length
    · obtain ⟨c0, c1, c2, c3⟩ := (Hc.out k hlt).below hbel hb
      have Hw := Lib.hid (written_any ts[k] (hsh _ (List.getElem_mem hlt)) wr)
      have hl1 : (allL (ts.take (k + 1))).length = (allL (ts.take k)).length + ((wrT ts[k]).length + 1) := by rw [allL_take ts k hlt]; simp
      have hl2 := allL_take_le ts (k + 1)
      have hs1 : (ByteArray.mk (allL (ts.take k)).toArray).size = (allL (ts.take k)).length := by rw [Lib.size_eq]
      have hs2 : (ByteArray.mk (wrT ts[k]).toArray).size = (wrT ts[k]).length := by rw [Lib.size_eq]
      have He := Lib.hid (show ByteArray.mk (allL (ts.take k)).toArray ++ (ByteArray.mk (wrT ts[k]).toArray ++ ByteArray.mk #[32]) = ⟨(allL (ts.take (k + 1))).toArray⟩ by
        apply ByteArray.ext
        apply Array.toList_inj.1
        rw [allL_take ts k hlt]
        simp)
      have hb1 : (ByteArray.mk (allL (ts.take k)).toArray).size ≤ 1000000 := by omega
      have hb2 : (ByteArray.mk (wrT ts[k]).toArray).size ≤ 1000000 := by omega
      clear hl1 hl2 hs1 hs2
      generalize ByteArray.mk (allL (ts.take k)).toArray = s1 at *
      generalize ByteArray.mk (wrT ts[k]).toArray = s2 at *
      go_wp2_with fail
      refine Hw.out.mono ?_
      rintro e w1 ⟨rfl, hb3⟩
      have hbel1 := hbel.trans (hb3.mono hbel.size)
      clear hb3 c0 c1 c2 c3
      go_wp2_with fail
      go_roundw
      case rel => exact ⟨k + 1, by omega, by go_num, by rw [← He.out], hbel1⟩
      case measure => simp [intOf]; omega
    · obtain rfl : k = ts.length := by omega
      rw [List.take_length]
      go_wp2_with fail
      go_ret
      exact ⟨rfl, hbel⟩

theorem all_none (a : Option Addr) (cap : Nat) (w : World) :
    Calls Tryd.prog 33 #[.slice a 0 cap] w fun e w' => e = .returned (.string ⟨#[]⟩) ∧ Below w.heap.size w w' := by
  go_enter Tryd.func33, Tryd.ntmps33
  go_wp2_with fail
  refine wp_loop_rounds 1 ?_
  rw [rounds_succ]
  go_wp2_with fail
  go_ret
  exact ⟨rfl, Below.refl _ _⟩
theorem all_any (ts : List Tok) (hsh : Short ts) (hall : (allL ts).length ≤ 1000000) (v : Value) (w : World) (hv : TokSl w v ts) :
    Calls Tryd.prog 33 #[v] w fun e w' => e = .returned (.string ⟨(allL ts).toArray⟩) ∧ Below w.heap.size w w' := by
  rcases hv with ⟨rfl, a, cap, rfl⟩ | ⟨b, off, cap, rfl, h0, hlt, hm, hc⟩
  · exact all_none a cap w
  · exact all_some ts hsh hall b off cap w h0 hlt (Nat.le_trans hm.1 hm.2) hc

/-- equal apart from their places -/
def SameBare (a b : Tok) : Prop := a.kind = b.kind ∧ a.text = b.text ∧ a.n = b.n
def AlikeL (a b : List Tok) : Prop := a.length = b.length ∧ ∀ i (h1 : i < a.length) (h2 : i < b.length), SameBare a[i] b[i]

set_option maxHeartbeats 1000000 in
theorem alike_some (ts us : List Tok) (hal : AlikeL ts us) (b off cap b2 off2 cap2 : Nat) (w : World) (h0 : 0 < ts.length) (hb : b < w.heap.size) (hb2 : b2 < w.heap.size) (hm : ts.length ≤ maxLen)
    (hc : ∀ i (h : i < ts.length), Cells4 w b (off + i * 4) ts[i]) (hc2 : ∀ i (h : i < us.length), Cells4 w b2 (off2 + i * 4) us[i]) :
    Calls Tryd.prog 34 #[.slice (some ⟨b, off, none⟩) ts.length cap, .slice (some ⟨b2, off2, none⟩) us.length cap2] w fun e w' => e = .returned (.bool true) ∧ Below w.heap.size w w' := by
  unfold maxLen at hm
  have Hc := Lib.hid hc
  have Hc2 := Lib.hid hc2
  rw [← hal.1]
  have Hal := Lib.hid hal
  clear hc hc2 hal
  go_enter Tryd.func34, Tryd.ntmps34
  go_wp2_with fail
  go_loopw [5] (fun i wr => ∃ k : Nat, k ≤ ts.length ∧ i = .int .i64 k ∧ Below w.heap.size w wr) (fun i _ => ts.length - (intOf i).toNat)
  case atStart => exact ⟨0, by omega, rfl, Below.refl _ _⟩
  case round =>
    obtain ⟨k, hk, rfl, hbel⟩ := hrel
    by_cases hlt : k < ts.length
    · have hltu : k < us.length := by rw [← Hal.out.1]; exact hlt
      obtain ⟨c0, c1, c2, c3⟩ := (Hc.out k hlt).below hbel hb
      obtain ⟨d0, d1, d2, d3⟩ := (Hc2.out k hltu).below hbel hb2
      obtain ⟨e1, e2, e3⟩ := Hal.out.2 k hlt hltu
      rw [← e1] at d0
      rw [← e2] at d3
      rw [← e3] at d2
      clear e1 e2 e3 c1 d1
      generalize ByteArray.mk ts[k].text.toArray = sx at *
      generalize ts[k].kind = kx at *
      generalize ts[k].n = nx at *
      go_wp2_with fail
      go_quiet (fail)
      go_wp2_with fail
      go_roundw
      case rel => exact ⟨k + 1, by omega, by go_num, hbel.trans ((below_drewN _ _ _).mono hbel.size)⟩
      case measure => simp [intOf]; omega
    · obtain rfl : k = ts.length := by omega
      go_wp2_with fail
      go_ret
      exact ⟨rfl, hbel⟩
theorem alike_none (a a2 : Option Addr) (cap cap2 : Nat) (w : World) :
    Calls Tryd.prog 34 #[.slice a 0 cap, .slice a2 0 cap2] w fun e w' => e = .returned (.bool true) ∧ Below w.heap.size w w' := by
  go_enter Tryd.func34, Tryd.ntmps34
  go_wp2_with fail
  refine wp_loop_rounds 1 ?_
  rw [rounds_succ]
  go_wp2_with fail
  go_ret
  exact ⟨rfl, Below.refl _ _⟩
theorem alike_any (ts us : List Tok) (hal : AlikeL ts us) (v u : Value) (w : World) (hv : TokSl w v ts) (hu : TokSl w u us) :
    Calls Tryd.prog 34 #[v, u] w fun e w' => e = .returned (.bool true) ∧ Below w.heap.size w w' := by
  rcases hv with ⟨rfl, a, cap, rfl⟩ | ⟨b, off, cap, rfl, h0, hlt, hm, hc⟩
  · rcases hu with ⟨rfl, a2, cap2, rfl⟩ | ⟨b2, off2, cap2, rfl, h02, hlt2, hm2, hc2⟩
    · exact alike_none a a2 cap cap2 w
    · have := hal.1
      simp at this
      omega
  · rcases hu with ⟨rfl, a2, cap2, rfl⟩ | ⟨b2, off2, cap2, rfl, h02, hlt2, hm2, hc2⟩
    · have := hal.1
      simp at this
      subst this
      simp at h0
    · exact alike_some ts us hal b off cap b2 off2 cap2 w h0 hlt hlt2 (Nat.le_trans hm.1 hm.2) hc hc2

/-- equal, the places of the second ones being greater -/
def ShiftL (a : List Tok) (d : Nat) (b : List Tok) : Prop := a.length = b.length ∧ ∀ i (h1 : i < a.length) (h2 : i < b.length), SameBare a[i] b[i] ∧ b[i].pos = a[i].pos + d

set_option maxHeartbeats 1000000 in
theorem same_some (ts us : List Tok) (d : Nat) (hd : d ≤ 1000000) (hp : ∀ t ∈ ts, t.pos ≤ 1000000) (hal : ShiftL ts d us) (b off cap b2 off2 cap2 : Nat) (w : World) (h0 : 0 < ts.length) (hb : b < w.heap.size) (hb2 : b2 < w.heap.size) (hm : ts.length ≤ maxLen)
    (hc : ∀ i (h : i < ts.length), Cells4 w b (off + i * 4) ts[i]) (hc2 : ∀ i (h : i < us.length), Cells4 w b2 (off2 + i * 4) us[i]) :
    Calls Tryd.prog 29 #[.slice (some ⟨b, off, none⟩) ts.length cap, .int .i64 (d : Int), .slice (some ⟨b2, off2, none⟩) us.length cap2] w fun e w' => e = .returned (.bool true) ∧ Below w.heap.size w w' := by
  unfold maxLen at hm
  have Hc := Lib.hid hc
  have Hc2 := Lib.hid hc2
  rw [← hal.1]
  have Hal := Lib.hid hal
  have hdI : (d : Int) ≤ 1000000 := by omega
  clear hc hc2 hal
  go_enter Tryd.func29, Tryd.ntmps29
  go_wp2_with fail
  go_loopw [7] (fun i wr => ∃ k : Nat, k ≤ ts.length ∧ i = .int .i64 k ∧ Below w.heap.size w wr) (fun i _ => ts.length - (intOf i).toNat)
  case atStart => exact ⟨0, by omega, rfl, Below.refl _ _⟩
  case round =>
    obtain ⟨k, hk, rfl, hbel⟩ := hrel
    by_cases hlt : k < ts.length
    · have hltu : k < us.length := by rw [← Hal.out.1]; exact hlt
      obtain ⟨c0, c1, c2, c3⟩ := (Hc.out k hlt).below hbel hb
      obtain ⟨d0, d1, d2, d3⟩ := (Hc2.out k hltu).below hbel hb2
      obtain ⟨⟨e1, e2, e3⟩, e4⟩ := Hal.out.2 k hlt hltu
      have hpk := hp _ (List.getElem_mem hlt)
      have hpI : (ts[k].pos : Int) ≤ 1000000 := by omega
      rw [← e1] at d0
      rw [← e2] at d3
      rw [← e3] at d2
      rw [e4] at d1
      have hsum : ((ts[k].pos + d : Nat) : Int) = (ts[k].pos : Int) + (d : Int) := by omega
      rw [hsum] at d1
      have hbs := hbel.size
      have hb' : b < wr.heap.size := by omega
      have hb2' : b2 < wr.heap.size := by omega
      clear e1 e2 e3 e4 hpk hsum hbs
      generalize ByteArray.mk ts[k].text.toArray = sx at *
      generalize ts[k].kind = kx at *
      generalize ts[k].n = nx at *
      generalize ts[k].pos = px at *
      go_wp2_with fail
      obtain ⟨w2, hw2⟩ : ∃ w2, wr.alloc (.cells #[.int .i64 (kx : Int), .int .i64 ((px : Int) + (d : Int)), .int .i64 (nx : Int), .string sx] 46) = w2 := ⟨_, rfl⟩
      rw [hw2]
      have hN : w2.heap[wr.heap.size]? = some (.cells #[.int .i64 (kx : Int), .int .i64 ((px : Int) + (d : Int)), .int .i64 (nx : Int), .string sx] 46 (0, 0)) := by rw [← hw2]; exact heap_alloc_new wr _
      have hb2w : Below wr.heap.size wr w2 := by rw [← hw2]; exact (Below.refl _ _).alloc (Nat.le_refl _) _
      have n0 : w2.cell? ⟨wr.heap.size, 0, none⟩ = some (.int .i64 (kx : Int)) := by rw [cell_of_row _ _ _ _ _ _ hN]; rfl
      have n1 : w2.cell? ⟨wr.heap.size, 1, none⟩ = some (.int .i64 ((px : Int) + (d : Int))) := by rw [cell_of_row _ _ _ _ _ _ hN]; rfl
      have n2 : w2.cell? ⟨wr.heap.size, 2, none⟩ = some (.int .i64 (nx : Int)) := by rw [cell_of_row _ _ _ _ _ _ hN]; rfl
      have n3 : w2.cell? ⟨wr.heap.size, 3, none⟩ = some (.string sx) := by rw [cell_of_row _ _ _ _ _ _ hN]; rfl
      have f0 := (hb2w.cell (p := ⟨b2, off2 + k * 4, none⟩) hb2').trans d0
      have f1 := (hb2w.cell (p := ⟨b2, off2 + k * 4 + 1, none⟩) hb2').trans d1
      have f2 := (hb2w.cell (p := ⟨b2, off2 + k * 4 + 2, none⟩) hb2').trans d2
      have f3 := (hb2w.cell (p := ⟨b2, off2 + k * 4 + 3, none⟩) hb2').trans d3
      have hbel2 := hbel.trans (hb2w.mono hbel.size)
      clear hw2 hN hb2w c0 c1 c2 c3 d0 d1 d2 d3
      go_quiet (fail)
      go_wp2_with fail
      go_roundw
      case rel => exact ⟨k + 1, by omega, by go_num, hbel2.trans ((below_drewN _ _ _).mono hbel2.size)⟩
      case measure => simp [intOf]; omega
    · obtain rfl : k = ts.length := by omega
      go_wp2_with fail
      go_ret
      exact ⟨rfl, hbel⟩
theorem same_none (a a2 : Option Addr) (cap cap2 : Nat) (d : Nat) (w : World) :
    Calls Tryd.prog 29 #[.slice a 0 cap, .int .i64 (d : Int), .slice a2 0 cap2] w fun e w' => e = .returned (.bool true) ∧ Below w.heap.size w w' := by
  go_enter Tryd.func29, Tryd.ntmps29
  go_wp2_with fail
  refine wp_loop_rounds 1 ?_
  rw [rounds_succ]
  go_wp2_with fail
  go_ret
  exact ⟨rfl, Below.refl _ _⟩
theorem same_any (ts us : List Tok) (d : Nat) (hd : d ≤ 1000000) (hp : ∀ t ∈ ts, t.pos ≤ 1000000) (hal : ShiftL ts d us) (v u : Value) (w : World) (hv : TokSl w v ts) (hu : TokSl w u us) :
    Calls Tryd.prog 29 #[v, .int .i64 (d : Int), u] w fun e w' => e = .returned (.bool true) ∧ Below w.heap.size w w' := by
  rcases hv with ⟨rfl, a, cap, rfl⟩ | ⟨b, off, cap, rfl, h0, hlt, hm, hc⟩
  · rcases hu with ⟨rfl, a2, cap2, rfl⟩ | ⟨b2, off2, cap2, rfl, h02, hlt2, hm2, hc2⟩
    · exact same_none a a2 cap cap2 d w
    · have := hal.1
      simp at this
      omega
  · rcases hu with ⟨rfl, a2, cap2, rfl⟩ | ⟨b2, off2, cap2, rfl, h02, hlt2, hm2, hc2⟩
    · have := hal.1
      simp at this
      subst this
      simp at h0
    · exact same_some ts us d hd hp hal b off cap b2 off2 cap2 w h0 hlt hlt2 (Nat.le_trans hm.1 hm.2) hc hc2

end Go.Proofs.YtkgkejphifkpkaaDoor.Lx
