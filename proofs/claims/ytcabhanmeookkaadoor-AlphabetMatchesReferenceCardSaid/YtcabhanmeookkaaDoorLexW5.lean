/- Walks over package lexer: one token, of whatever kind. -/
import Derived.Test.YtcabhanmeookkaaDoorLexW4
namespace Go.Proofs.YtcabhanmeookkaaDoor.Lx
set_option linter.unusedVariables false
set_option linter.unusedSimpArgs false
open Go.RowKit

theorem rest_cons (s : ByteArray) (p : Nat) (h : p < s.size) : rest s p = s[p] :: rest s (p + 1) := by
  unfold rest
  rw [List.drop_eq_getElem_cons (by rw [← Lib.size_eq]; exact h)]
  rfl

theorem tok_name {s : ByteArray} {p : Nat} (h : p < s.size) (hc : isLet s[p] = true) : tokB (rest s p) = if 24 < tw isWord (rest s p) then .bad 2 else .good 1 0 (tw isWord (rest s p)) ((rest s p).take (tw isWord (rest s p))) := by
  have hw : isWord s[p] = true := by unfold isWord; rw [hc]; rfl
  rw [rest_cons s p h, tw_cons, hw]
  simp only [tokB, hc, if_true, List.take_succ_cons]
theorem tok_number {s : ByteArray} {p : Nat} (h : p < s.size) (hc : isNum s[p] = true) : 0 < tw isNum (rest s p) ∧ tokB (rest s p) = if 13 < tw isNum (rest s p) ∨ nextWord ((rest s p).drop (tw isNum (rest s p))) = true then .bad 4 else .good 2 (val ((rest s p).take (tw isNum (rest s p)))) (tw isNum (rest s p)) ((rest s p).take (tw isNum (rest s p))) := by
  have hl := (num_facts _ hc).2.1
  rw [rest_cons s p h, tw_cons, hc]
  simp only [tokB, hc, hl, if_true, List.take_succ_cons, List.drop_succ_cons, Bool.false_eq_true, if_false]
  exact ⟨by omega, trivial⟩
theorem tok_quoted {s : ByteArray} {p : Nat} (h : p < s.size) (hc : s[p].toNat = 34) : tokB (rest s p) = if nextIs ((rest s (p + 1)).drop (tw isIn (rest s (p + 1)))) 34 = true then (if 400 < tw isIn (rest s (p + 1)) then .bad 2 else .good 3 0 (tw isIn (rest s (p + 1)) + 2) ((rest s (p + 1)).take (tw isIn (rest s (p + 1))))) else .bad 6 := by
  have h34 : s[p] = 34 := UInt8.toNat_inj.1 (by rw [hc]; rfl)
  rw [rest_cons s p h, h34]
  rfl
theorem tok_two {s : ByteArray} {p : Nat} (h : p < s.size) (hc : isTwo s[p] = true) (hn : nextIs (rest s (p + 1)) 61 = true) : tokB (rest s p) = .good 4 0 2 ((rest s p).take 2) := by
  obtain ⟨h1, h2, h3, h4⟩ := two_facts _ hc
  have h5 : rest s (p + 1) = 61 :: rest s (p + 1 + 1) := by
    have := nextIs_drop (l := rest s (p + 1)) (n := 0) hn
    rw [List.drop_zero, rest_drop] at this
    exact this
  rw [rest_cons s p h]
  simp only [tokB, h2, h3, h4, if_false, Bool.false_eq_true, hc, hn, Bool.and_self, if_true]
  rw [h5]
  rfl
theorem tok_one {s : ByteArray} {p : Nat} (h : p < s.size) (hc : isSym s[p] = true) (hn : isTwo s[p] = false ∨ nextIs (rest s (p + 1)) 61 = false) : tokB (rest s p) = .good 4 0 1 ((rest s p).take 1) := by
  obtain ⟨h1, h2, h3, h4⟩ := sym_facts _ hc
  have h5 : (isTwo s[p] && nextIs (rest s (p + 1)) 61) = false := by
    rcases hn with hn | hn
    · rw [hn]; rfl
    · rw [hn, Bool.and_false]
  rw [rest_cons s p h]
  simp only [tokB, h2, h3, h4, if_false, Bool.false_eq_true, hc, h5, if_true]
  rfl
theorem tok_none {s : ByteArray} {p : Nat} (h : p < s.size) (h1 : isLet s[p] = false) (h2 : isNum s[p] = false) (h3 : s[p].toNat ≠ 34) (h4 : isSym s[p] = false) (hn : isTwo s[p] = false ∨ nextIs (rest s (p + 1)) 61 = false) : tokB (rest s p) = .bad 3 := by
  have h5 : (isTwo s[p] && nextIs (rest s (p + 1)) 61) = false := by
    rcases hn with hn | hn
    · rw [hn]; rfl
    · rw [hn, Bool.and_false]
  rw [rest_cons s p h]
  simp only [tokB, h1, h2, h3, h4, h5, if_false, Bool.false_eq_true]

/-- the classes, as tokens ask for them -/
theorem cls_cases : ∀ c : UInt8, (clsOf c = 4 ∧ isLet c = true) ∨ (clsOf c = 5 ∧ isNum c = true) ∨ (clsOf c = 7 ∧ c.toNat = 34) ∨ (clsOf c = 8 ∧ isTwo c = true ∧ isSym c = false ∧ isLet c = false ∧ isNum c = false ∧ c.toNat ≠ 34)
    ∨ (clsOf c = 9 ∧ isTwo c = true ∧ isSym c = true) ∨ (clsOf c = 10 ∧ isTwo c = false ∧ isSym c = true) ∨ (clsOf c = 11 ∧ isTwo c = false ∧ isSym c = true)
    ∨ (clsOf c ≠ 4 ∧ clsOf c ≠ 5 ∧ clsOf c ≠ 7 ∧ clsOf c ≠ 8 ∧ clsOf c ≠ 9 ∧ clsOf c ≠ 10 ∧ clsOf c ≠ 11 ∧ isTwo c = false ∧ isSym c = false ∧ isLet c = false ∧ isNum c = false ∧ c.toNat ≠ 34) := by
  refine byte_all ?_
  decide +kernel

theorem Read.of_only {o : One} {B p : Nat} {s : ByteArray} {w w1 : World} {e : Ending} {w' : World} (h : Read o B p s w1 e w') (hb : w.grownBy w1 (some B)) : Read o B p s w e w' := by
  cases o with
  | good k v n t => exact ⟨h.1, h.2.1, only_trans hb h.2.2⟩
  | bad c => exact ⟨h.1, h.2.1, only_trans hb h.2.2⟩

set_option maxHeartbeats 2000000 in
theorem token_name (B p : Nat) (s : ByteArray) (hs : s.size ≤ 100000) (hp : p < s.size) (w : World) (hr : Rd w B s p) (hc : isLet s[p] = true) (hK : clsOf s[p] = 4) :
    Calls Tryd.prog 49 #[.pointer (some ⟨B, 0, none⟩)] w (Read (tokB (rest s p)) B p s w) := by
  have hb0 : Below w.heap.size w (w.alloc (.cells zeroA 69)) := (Below.refl _ w).alloc (Nat.le_refl _) _
  have hr0 := hr.kept hb0
  have hat0 := hr0.at
  have hBlt := hr.lt
  have hne : B ≠ w.heap.size := by omega
  have Hr0 := Lib.hid hr0
  have HT0 := Lib.hid (TokAt.new w)
  have hzero : zeroA = #[.int .i64 0, .int .i64 0, .int .i64 0, .string ⟨#[]⟩] := rfl
  rw [hzero] at hat0
  have Hnx := Lib.hid (next_equals s (p + 1))
  have hpI : (p : Int) < (s.size : Int) := by omega
  have hcb : s[p].toNat < 256 := UInt8.toNat_lt _
  have hcI : (s[p].toNat : Int) < 256 := by omega
  have ho := tok_name hp hc
  have HO := Lib.hid ho
  clear ho hc
  generalize hO : tokB (rest s p) = o at *
  obtain ⟨p1, hp1⟩ : ∃ p1, p + 1 = p1 := ⟨_, rfl⟩
  rw [hp1] at Hnx
  have hpI1 : (p : Int) + 1 = (p1 : Int) := by omega
  have hp1s : p1 ≤ s.size := by omega
  have Hp1 := Lib.hid hp1
  clear hr hr0 hzero hp1 hO
  go_enter Tryd.func49, Tryd.ntmps49
  go_wp2_with fail
  refine (is_new B p s p1 (by omega) [10] (by decide) _ 1 _ rfl rfl (w.alloc (.cells zeroA 69)) (by simp) Hr0.out).mono ?_
  rintro e w1 ⟨rfl, hb1⟩
  rw [Hnx.out]
  have hr1 := Hr0.out.kept hb1
  have hT1 := HT0.out.below hb1
  have hb01 : Below w.heap.size w w1 := hb0.trans (hb1.mono hb0.size)
  have hat1 := hr1.at
  have h0 := hr1.text
  have hcl := hr1.cls s[p]
  rw [hK] at hcl
  have hcl2 : w1.cell? ⟨B, 1 + s[p].toNat, none⟩ = some (.int .i64 4) := hcl
  clear hcl
  have Hr1 := Lib.hid hr1
  have HT1 := Lib.hid hT1
  clear hr1 hT1 hat0 hb1 hb0 hK
  generalize nextIs (rest s p1) 61 = nx
  go_wp2_with fail
  go_quiet (fail)
  obtain ⟨w2, hw2⟩ : ∃ w2, w1.drewN nq = w2 := ⟨_, rfl⟩
  rw [hw2]
  have hb12 : Below w1.heap.size w1 w2 := by rw [← hw2]; exact below_drewN _ _ _
  have hr2 := Hr1.out.kept hb12
  have hT2 := HT1.out.below hb12
  have hb02 := hb01.trans (hb12.mono hb01.size)
  have hat2 := hr2.at
  have Hr2 := Lib.hid hr2
  have HT2 := Lib.hid hT2
  clear hr2 hT2 hb12 hat1 h0 hw2 hb01 Hr1 HT1 Hr0 HT0
  go_wp2_with fail
  refine (name_any B p s hs (Nat.le_of_lt hp) w2 Hr2.out o HO.out).mono ?_
  intro e w3 hread
  have Hread := Lib.hid hread
  clear hread
  cases o with
  | good k v n t =>
    obtain ⟨he, hr3, hon3⟩ := Hread.out
    subst he
    have hT3 := HT2.out.kept hon3 (fun h => hne (Option.some.inj h).symm)
    have HT3 := Lib.hid hT3
    have Hr3 := Lib.hid hr3
    clear hT3 hr3 Hread
    go_wp2_with (first | (refine wpList_store_row rfl 69 (.tmp 2) (.tmp 42) rfl w.heap.size (tokA k p v ⟨t.toArray⟩) rfl rfl 69 zeroA HT3.out (by kernel_rfl) rfl (tokA_one _ _ _ _) ?_))
    refine bodyPost_ret (results_tok2 Tryd.results49 _ _ w.heap.size _ rfl rfl (HT3.out.row _)) rfl ?_
    exact ⟨rfl, Hr3.out.only (only_row _ _ _) hne, only_new (only_trans (only_below B hb02) hon3) (only_row _ _ _) (Nat.le_refl _)⟩
  | bad c =>
    obtain ⟨he, hr3, hon3⟩ := Hread.out
    subst he
    have hT3 := HT2.out.kept hon3 (fun h => hne (Option.some.inj h).symm)
    have HT3 := Lib.hid hT3
    have Hr3 := Lib.hid hr3
    clear hT3 hr3 Hread
    go_wp2_with (first | (refine wpList_store_row rfl 69 (.tmp 2) (.tmp 42) rfl w.heap.size zeroA rfl rfl 69 zeroA HT3.out (by kernel_rfl) rfl zeroA_one ?_))
    refine bodyPost_ret (results_tok2 Tryd.results49 _ _ w.heap.size _ rfl rfl (HT3.out.row _)) rfl ?_
    exact ⟨rfl, Hr3.out.only (only_row _ _ _) hne, only_new (only_trans (only_below B hb02) hon3) (only_row _ _ _) (Nat.le_refl _)⟩

set_option maxHeartbeats 2000000 in
theorem token_number (B p : Nat) (s : ByteArray) (hs : s.size ≤ 100000) (hp : p < s.size) (w : World) (hr : Rd w B s p) (hc : isNum s[p] = true) (hK : clsOf s[p] = 5) :
    Calls Tryd.prog 49 #[.pointer (some ⟨B, 0, none⟩)] w (Read (tokB (rest s p)) B p s w) := by
  have hb0 : Below w.heap.size w (w.alloc (.cells zeroA 69)) := (Below.refl _ w).alloc (Nat.le_refl _) _
  have hr0 := hr.kept hb0
  have hat0 := hr0.at
  have hBlt := hr.lt
  have hne : B ≠ w.heap.size := by omega
  have Hr0 := Lib.hid hr0
  have HT0 := Lib.hid (TokAt.new w)
  have hzero : zeroA = #[.int .i64 0, .int .i64 0, .int .i64 0, .string ⟨#[]⟩] := rfl
  rw [hzero] at hat0
  have Hnx := Lib.hid (next_equals s (p + 1))
  have hpI : (p : Int) < (s.size : Int) := by omega
  have hcb : s[p].toNat < 256 := UInt8.toNat_lt _
  have hcI : (s[p].toNat : Int) < 256 := by omega
  obtain ⟨hn1, ho⟩ := tok_number hp hc
  have HN := Lib.hid hn1
  clear hn1
  have HO := Lib.hid ho
  clear ho hc
  generalize hO : tokB (rest s p) = o at *
  obtain ⟨p1, hp1⟩ : ∃ p1, p + 1 = p1 := ⟨_, rfl⟩
  rw [hp1] at Hnx
  have hpI1 : (p : Int) + 1 = (p1 : Int) := by omega
  have hp1s : p1 ≤ s.size := by omega
  have Hp1 := Lib.hid hp1
  clear hr hr0 hzero hp1 hO
  go_enter Tryd.func49, Tryd.ntmps49
  go_wp2_with fail
  refine (is_new B p s p1 (by omega) [10] (by decide) _ 1 _ rfl rfl (w.alloc (.cells zeroA 69)) (by simp) Hr0.out).mono ?_
  rintro e w1 ⟨rfl, hb1⟩
  rw [Hnx.out]
  have hr1 := Hr0.out.kept hb1
  have hT1 := HT0.out.below hb1
  have hb01 : Below w.heap.size w w1 := hb0.trans (hb1.mono hb0.size)
  have hat1 := hr1.at
  have h0 := hr1.text
  have hcl := hr1.cls s[p]
  rw [hK] at hcl
  have hcl2 : w1.cell? ⟨B, 1 + s[p].toNat, none⟩ = some (.int .i64 5) := hcl
  clear hcl
  have Hr1 := Lib.hid hr1
  have HT1 := Lib.hid hT1
  clear hr1 hT1 hat0 hb1 hb0 hK
  generalize nextIs (rest s p1) 61 = nx
  go_wp2_with fail
  go_quiet (fail)
  obtain ⟨w2, hw2⟩ : ∃ w2, w1.drewN nq = w2 := ⟨_, rfl⟩
  rw [hw2]
  have hb12 : Below w1.heap.size w1 w2 := by rw [← hw2]; exact below_drewN _ _ _
  have hr2 := Hr1.out.kept hb12
  have hT2 := HT1.out.below hb12
  have hb02 := hb01.trans (hb12.mono hb01.size)
  have hat2 := hr2.at
  have Hr2 := Lib.hid hr2
  have HT2 := Lib.hid hT2
  clear hr2 hT2 hb12 hat1 h0 hw2 hb01 Hr1 HT1 Hr0 HT0
  go_wp2_with fail
  refine (number_any B p s hs (Nat.le_of_lt hp) HN.out w2 Hr2.out o HO.out).mono ?_
  intro e w3 hread
  have Hread := Lib.hid hread
  clear hread
  cases o with
  | good k v n t =>
    obtain ⟨he, hr3, hon3⟩ := Hread.out
    subst he
    have hT3 := HT2.out.kept hon3 (fun h => hne (Option.some.inj h).symm)
    have HT3 := Lib.hid hT3
    have Hr3 := Lib.hid hr3
    clear hT3 hr3 Hread
    go_wp2_with (first | (refine wpList_store_row rfl 69 (.tmp 2) (.tmp 46) rfl w.heap.size (tokA k p v ⟨t.toArray⟩) rfl rfl 69 zeroA HT3.out (by kernel_rfl) rfl (tokA_one _ _ _ _) ?_))
    refine bodyPost_ret (results_tok2 Tryd.results49 _ _ w.heap.size _ rfl rfl (HT3.out.row _)) rfl ?_
    exact ⟨rfl, Hr3.out.only (only_row _ _ _) hne, only_new (only_trans (only_below B hb02) hon3) (only_row _ _ _) (Nat.le_refl _)⟩
  | bad c =>
    obtain ⟨he, hr3, hon3⟩ := Hread.out
    subst he
    have hT3 := HT2.out.kept hon3 (fun h => hne (Option.some.inj h).symm)
    have HT3 := Lib.hid hT3
    have Hr3 := Lib.hid hr3
    clear hT3 hr3 Hread
    go_wp2_with (first | (refine wpList_store_row rfl 69 (.tmp 2) (.tmp 46) rfl w.heap.size zeroA rfl rfl 69 zeroA HT3.out (by kernel_rfl) rfl zeroA_one ?_))
    refine bodyPost_ret (results_tok2 Tryd.results49 _ _ w.heap.size _ rfl rfl (HT3.out.row _)) rfl ?_
    exact ⟨rfl, Hr3.out.only (only_row _ _ _) hne, only_new (only_trans (only_below B hb02) hon3) (only_row _ _ _) (Nat.le_refl _)⟩

set_option maxHeartbeats 2000000 in
theorem token_quoted (B p : Nat) (s : ByteArray) (hs : s.size ≤ 100000) (hp : p < s.size) (w : World) (hr : Rd w B s p) (hc : s[p].toNat = 34) (hK : clsOf s[p] = 7) :
    Calls Tryd.prog 49 #[.pointer (some ⟨B, 0, none⟩)] w (Read (tokB (rest s p)) B p s w) := by
  have hb0 : Below w.heap.size w (w.alloc (.cells zeroA 69)) := (Below.refl _ w).alloc (Nat.le_refl _) _
  have hr0 := hr.kept hb0
  have hat0 := hr0.at
  have hBlt := hr.lt
  have hne : B ≠ w.heap.size := by omega
  have Hr0 := Lib.hid hr0
  have HT0 := Lib.hid (TokAt.new w)
  have hzero : zeroA = #[.int .i64 0, .int .i64 0, .int .i64 0, .string ⟨#[]⟩] := rfl
  rw [hzero] at hat0
  have Hnx := Lib.hid (next_equals s (p + 1))
  have hpI : (p : Int) < (s.size : Int) := by omega
  have hcb : s[p].toNat < 256 := UInt8.toNat_lt _
  have hcI : (s[p].toNat : Int) < 256 := by omega
  have ho := tok_quoted hp hc
  have HO := Lib.hid ho
  clear ho hc
  generalize hO : tokB (rest s p) = o at *
  obtain ⟨p1, hp1⟩ : ∃ p1, p + 1 = p1 := ⟨_, rfl⟩
  rw [hp1] at Hnx
  have hpI1 : (p : Int) + 1 = (p1 : Int) := by omega
  have hp1s : p1 ≤ s.size := by omega
  have Hp1 := Lib.hid hp1
  clear hr hr0 hzero hp1 hO
  go_enter Tryd.func49, Tryd.ntmps49
  go_wp2_with fail
  refine (is_new B p s p1 (by omega) [10] (by decide) _ 1 _ rfl rfl (w.alloc (.cells zeroA 69)) (by simp) Hr0.out).mono ?_
  rintro e w1 ⟨rfl, hb1⟩
  rw [Hnx.out]
  have hr1 := Hr0.out.kept hb1
  have hT1 := HT0.out.below hb1
  have hb01 : Below w.heap.size w w1 := hb0.trans (hb1.mono hb0.size)
  have hat1 := hr1.at
  have h0 := hr1.text
  have hcl := hr1.cls s[p]
  rw [hK] at hcl
  have hcl2 : w1.cell? ⟨B, 1 + s[p].toNat, none⟩ = some (.int .i64 7) := hcl
  clear hcl
  have Hr1 := Lib.hid hr1
  have HT1 := Lib.hid hT1
  clear hr1 hT1 hat0 hb1 hb0 hK
  generalize nextIs (rest s p1) 61 = nx
  go_wp2_with fail
  go_quiet (fail)
  obtain ⟨w2, hw2⟩ : ∃ w2, w1.drewN nq = w2 := ⟨_, rfl⟩
  rw [hw2]
  have hb12 : Below w1.heap.size w1 w2 := by rw [← hw2]; exact below_drewN _ _ _
  have hr2 := Hr1.out.kept hb12
  have hT2 := HT1.out.below hb12
  have hb02 := hb01.trans (hb12.mono hb01.size)
  have hat2 := hr2.at
  have Hr2 := Lib.hid hr2
  have HT2 := Lib.hid hT2
  clear hr2 hT2 hb12 hat1 h0 hw2 hb01 Hr1 HT1 Hr0 HT0
  go_wp2_with fail
  refine (quoted_any B p s hs hp w2 Hr2.out o HO.out).mono ?_
  intro e w3 hread
  have Hread := Lib.hid hread
  clear hread
  cases o with
  | good k v n t =>
    obtain ⟨he, hr3, hon3⟩ := Hread.out
    subst he
    have hT3 := HT2.out.kept hon3 (fun h => hne (Option.some.inj h).symm)
    have HT3 := Lib.hid hT3
    have Hr3 := Lib.hid hr3
    clear hT3 hr3 Hread
    go_wp2_with (first | (refine wpList_store_row rfl 69 (.tmp 2) (.tmp 50) rfl w.heap.size (tokA k p v ⟨t.toArray⟩) rfl rfl 69 zeroA HT3.out (by kernel_rfl) rfl (tokA_one _ _ _ _) ?_))
    refine bodyPost_ret (results_tok2 Tryd.results49 _ _ w.heap.size _ rfl rfl (HT3.out.row _)) rfl ?_
    exact ⟨rfl, Hr3.out.only (only_row _ _ _) hne, only_new (only_trans (only_below B hb02) hon3) (only_row _ _ _) (Nat.le_refl _)⟩
  | bad c =>
    obtain ⟨he, hr3, hon3⟩ := Hread.out
    subst he
    have hT3 := HT2.out.kept hon3 (fun h => hne (Option.some.inj h).symm)
    have HT3 := Lib.hid hT3
    have Hr3 := Lib.hid hr3
    clear hT3 hr3 Hread
    go_wp2_with (first | (refine wpList_store_row rfl 69 (.tmp 2) (.tmp 50) rfl w.heap.size zeroA rfl rfl 69 zeroA HT3.out (by kernel_rfl) rfl zeroA_one ?_))
    refine bodyPost_ret (results_tok2 Tryd.results49 _ _ w.heap.size _ rfl rfl (HT3.out.row _)) rfl ?_
    exact ⟨rfl, Hr3.out.only (only_row _ _ _) hne, only_new (only_trans (only_below B hb02) hon3) (only_row _ _ _) (Nat.le_refl _)⟩

set_option maxHeartbeats 2000000 in
theorem token_bang2 (B p : Nat) (s : ByteArray) (hs : s.size ≤ 100000) (hp : p < s.size) (w : World) (hr : Rd w B s p) (hc : isTwo s[p] = true) (hn : nextIs (rest s (p + 1)) 61 = true) (hK : clsOf s[p] = 8) :
    Calls Tryd.prog 49 #[.pointer (some ⟨B, 0, none⟩)] w (Read (tokB (rest s p)) B p s w) := by
  have hb0 : Below w.heap.size w (w.alloc (.cells zeroA 69)) := (Below.refl _ w).alloc (Nat.le_refl _) _
  have hr0 := hr.kept hb0
  have hat0 := hr0.at
  have hBlt := hr.lt
  have hne : B ≠ w.heap.size := by omega
  have Hr0 := Lib.hid hr0
  have HT0 := Lib.hid (TokAt.new w)
  have hzero : zeroA = #[.int .i64 0, .int .i64 0, .int .i64 0, .string ⟨#[]⟩] := rfl
  rw [hzero] at hat0
  have Hnx := Lib.hid (next_equals s (p + 1))
  have hpI : (p : Int) < (s.size : Int) := by omega
  have hcb : s[p].toNat < 256 := UInt8.toNat_lt _
  have hcI : (s[p].toNat : Int) < 256 := by omega
  have HO := Lib.hid (tok_two hp hc hn)
  have Hq2s := Lib.hid (show p + 2 ≤ s.size by
    have h5 := nextIs_drop (l := rest s (p + 1)) (n := 0) hn
    have h6 := congrArg List.length h5
    rw [List.drop_zero, rest_length] at h6
    simp at h6
    omega)
  have Hnb := Lib.hid hn
  clear hn hc
  generalize hO : tokB (rest s p) = o at *
  obtain ⟨p1, hp1⟩ : ∃ p1, p + 1 = p1 := ⟨_, rfl⟩
  rw [hp1] at Hnx
  have hpI1 : (p : Int) + 1 = (p1 : Int) := by omega
  have hp1s : p1 ≤ s.size := by omega
  have Hp1 := Lib.hid hp1
  clear hr hr0 hzero hp1 hO
  go_enter Tryd.func49, Tryd.ntmps49
  go_wp2_with fail
  refine (is_new B p s p1 (by omega) [10] (by decide) _ 1 _ rfl rfl (w.alloc (.cells zeroA 69)) (by simp) Hr0.out).mono ?_
  rintro e w1 ⟨rfl, hb1⟩
  rw [Hnx.out]
  have hr1 := Hr0.out.kept hb1
  have hT1 := HT0.out.below hb1
  have hb01 : Below w.heap.size w w1 := hb0.trans (hb1.mono hb0.size)
  have hat1 := hr1.at
  have h0 := hr1.text
  have hcl := hr1.cls s[p]
  rw [hK] at hcl
  have hcl2 : w1.cell? ⟨B, 1 + s[p].toNat, none⟩ = some (.int .i64 8) := hcl
  clear hcl
  have Hr1 := Lib.hid hr1
  have HT1 := Lib.hid hT1
  clear hr1 hT1 hat0 hb1 hb0 hK
  obtain ⟨q, hq⟩ : ∃ q, p + 2 = q := ⟨_, rfl⟩
  have Hpq := Lib.hid hq
  have hqI : (p : Int) + 2 = (q : Int) := by omega
  have hq1 : p ≤ q := by omega
  have hq2 : q ≤ s.size := by have := Hq2s.out; omega
  have Hq := Lib.hid (show s.extract p q = ⟨((rest s p).take 2).toArray⟩ by rw [← hq]; exact ext_rest s p 2)
  clear hq
  rw [show nextIs (rest s p1) 61 = true from by have := Hnb.out; rw [Hp1.out] at this; exact this]
  go_wp2_with fail
  go_quiet (fail)
  obtain ⟨w2, hw2⟩ : ∃ w2, w1.drewN nq = w2 := ⟨_, rfl⟩
  rw [hw2]
  have hb12 : Below w1.heap.size w1 w2 := by rw [← hw2]; exact below_drewN _ _ _
  have hr2 := Hr1.out.kept hb12
  have hT2 := HT1.out.below hb12
  have hb02 := hb01.trans (hb12.mono hb01.size)
  have hat2 := hr2.at
  have Hr2 := Lib.hid hr2
  have HT2 := Lib.hid hT2
  clear hr2 hT2 hb12 hat1 h0 hw2 hb01 Hr1 HT1 Hr0 HT0
  go_wp2_with fail
  refine (take_any B p s hs 4 q (by decide) hq1 hq2 w2 Hr2.out).mono ?_
  rintro e w3 ⟨rfl, hr3, hon3⟩
  have hT3 := HT2.out.kept hon3 (fun h => hne (Option.some.inj h).symm)
  have HT3 := Lib.hid hT3
  have Hr3 := Lib.hid hr3
  clear hT3 hr3
  go_wp2_with (first | (refine wpList_store_row rfl 69 (.tmp 2) (.tmp 59) rfl w.heap.size (tokA 4 p 0 (s.extract p q)) rfl rfl 69 zeroA HT3.out (by kernel_rfl) rfl (tokA_one _ _ _ _) ?_))
  refine bodyPost_ret (results_tok2 Tryd.results49 _ _ w.heap.size _ rfl rfl (HT3.out.row _)) rfl ?_
  rw [HO.out]
  refine ⟨by show Ending.returned (.tuple #[tokV 4 p 0 (s.extract p q), .int .i64 0]) = _; rw [Hq.out], ?_, only_new (only_trans (only_below B hb02) hon3) (only_row _ _ _) (Nat.le_refl _)⟩
  rw [Hpq.out]
  exact Hr3.out.only (only_row _ _ _) hne

set_option maxHeartbeats 2000000 in
theorem token_angle2 (B p : Nat) (s : ByteArray) (hs : s.size ≤ 100000) (hp : p < s.size) (w : World) (hr : Rd w B s p) (hc : isTwo s[p] = true) (hn : nextIs (rest s (p + 1)) 61 = true) (hK : clsOf s[p] = 9) :
    Calls Tryd.prog 49 #[.pointer (some ⟨B, 0, none⟩)] w (Read (tokB (rest s p)) B p s w) := by
  have hb0 : Below w.heap.size w (w.alloc (.cells zeroA 69)) := (Below.refl _ w).alloc (Nat.le_refl _) _
  have hr0 := hr.kept hb0
  have hat0 := hr0.at
  have hBlt := hr.lt
  have hne : B ≠ w.heap.size := by omega
  have Hr0 := Lib.hid hr0
  have HT0 := Lib.hid (TokAt.new w)
  have hzero : zeroA = #[.int .i64 0, .int .i64 0, .int .i64 0, .string ⟨#[]⟩] := rfl
  rw [hzero] at hat0
  have Hnx := Lib.hid (next_equals s (p + 1))
  have hpI : (p : Int) < (s.size : Int) := by omega
  have hcb : s[p].toNat < 256 := UInt8.toNat_lt _
  have hcI : (s[p].toNat : Int) < 256 := by omega
  have HO := Lib.hid (tok_two hp hc hn)
  have Hq2s := Lib.hid (show p + 2 ≤ s.size by
    have h5 := nextIs_drop (l := rest s (p + 1)) (n := 0) hn
    have h6 := congrArg List.length h5
    rw [List.drop_zero, rest_length] at h6
    simp at h6
    omega)
  have Hnb := Lib.hid hn
  clear hn hc
  generalize hO : tokB (rest s p) = o at *
  obtain ⟨p1, hp1⟩ : ∃ p1, p + 1 = p1 := ⟨_, rfl⟩
  rw [hp1] at Hnx
  have hpI1 : (p : Int) + 1 = (p1 : Int) := by omega
  have hp1s : p1 ≤ s.size := by omega
  have Hp1 := Lib.hid hp1
  clear hr hr0 hzero hp1 hO
  go_enter Tryd.func49, Tryd.ntmps49
  go_wp2_with fail
  refine (is_new B p s p1 (by omega) [10] (by decide) _ 1 _ rfl rfl (w.alloc (.cells zeroA 69)) (by simp) Hr0.out).mono ?_
  rintro e w1 ⟨rfl, hb1⟩
  rw [Hnx.out]
  have hr1 := Hr0.out.kept hb1
  have hT1 := HT0.out.below hb1
  have hb01 : Below w.heap.size w w1 := hb0.trans (hb1.mono hb0.size)
  have hat1 := hr1.at
  have h0 := hr1.text
  have hcl := hr1.cls s[p]
  rw [hK] at hcl
  have hcl2 : w1.cell? ⟨B, 1 + s[p].toNat, none⟩ = some (.int .i64 9) := hcl
  clear hcl
  have Hr1 := Lib.hid hr1
  have HT1 := Lib.hid hT1
  clear hr1 hT1 hat0 hb1 hb0 hK
  obtain ⟨q, hq⟩ : ∃ q, p + 2 = q := ⟨_, rfl⟩
  have Hpq := Lib.hid hq
  have hqI : (p : Int) + 2 = (q : Int) := by omega
  have hq1 : p ≤ q := by omega
  have hq2 : q ≤ s.size := by have := Hq2s.out; omega
  have Hq := Lib.hid (show s.extract p q = ⟨((rest s p).take 2).toArray⟩ by rw [← hq]; exact ext_rest s p 2)
  clear hq
  rw [show nextIs (rest s p1) 61 = true from by have := Hnb.out; rw [Hp1.out] at this; exact this]
  go_wp2_with fail
  go_quiet (fail)
  obtain ⟨w2, hw2⟩ : ∃ w2, w1.drewN nq = w2 := ⟨_, rfl⟩
  rw [hw2]
  have hb12 : Below w1.heap.size w1 w2 := by rw [← hw2]; exact below_drewN _ _ _
  have hr2 := Hr1.out.kept hb12
  have hT2 := HT1.out.below hb12
  have hb02 := hb01.trans (hb12.mono hb01.size)
  have hat2 := hr2.at
  have Hr2 := Lib.hid hr2
  have HT2 := Lib.hid hT2
  clear hr2 hT2 hb12 hat1 h0 hw2 hb01 Hr1 HT1 Hr0 HT0
  go_wp2_with fail
  refine (take_any B p s hs 4 q (by decide) hq1 hq2 w2 Hr2.out).mono ?_
  rintro e w3 ⟨rfl, hr3, hon3⟩
  have hT3 := HT2.out.kept hon3 (fun h => hne (Option.some.inj h).symm)
  have HT3 := Lib.hid hT3
  have Hr3 := Lib.hid hr3
  clear hT3 hr3
  go_wp2_with (first | (refine wpList_store_row rfl 69 (.tmp 2) (.tmp 67) rfl w.heap.size (tokA 4 p 0 (s.extract p q)) rfl rfl 69 zeroA HT3.out (by kernel_rfl) rfl (tokA_one _ _ _ _) ?_))
  refine bodyPost_ret (results_tok2 Tryd.results49 _ _ w.heap.size _ rfl rfl (HT3.out.row _)) rfl ?_
  rw [HO.out]
  refine ⟨by show Ending.returned (.tuple #[tokV 4 p 0 (s.extract p q), .int .i64 0]) = _; rw [Hq.out], ?_, only_new (only_trans (only_below B hb02) hon3) (only_row _ _ _) (Nat.le_refl _)⟩
  rw [Hpq.out]
  exact Hr3.out.only (only_row _ _ _) hne

set_option maxHeartbeats 2000000 in
theorem token_angle1 (B p : Nat) (s : ByteArray) (hs : s.size ≤ 100000) (hp : p < s.size) (w : World) (hr : Rd w B s p) (hc : isSym s[p] = true) (hn : nextIs (rest s (p + 1)) 61 = false) (hK : clsOf s[p] = 9) :
    Calls Tryd.prog 49 #[.pointer (some ⟨B, 0, none⟩)] w (Read (tokB (rest s p)) B p s w) := by
  have hb0 : Below w.heap.size w (w.alloc (.cells zeroA 69)) := (Below.refl _ w).alloc (Nat.le_refl _) _
  have hr0 := hr.kept hb0
  have hat0 := hr0.at
  have hBlt := hr.lt
  have hne : B ≠ w.heap.size := by omega
  have Hr0 := Lib.hid hr0
  have HT0 := Lib.hid (TokAt.new w)
  have hzero : zeroA = #[.int .i64 0, .int .i64 0, .int .i64 0, .string ⟨#[]⟩] := rfl
  rw [hzero] at hat0
  have Hnx := Lib.hid (next_equals s (p + 1))
  have hpI : (p : Int) < (s.size : Int) := by omega
  have hcb : s[p].toNat < 256 := UInt8.toNat_lt _
  have hcI : (s[p].toNat : Int) < 256 := by omega
  have HO := Lib.hid (tok_one hp hc (.inr hn))
  have Hnb := Lib.hid hn
  clear hn hc
  generalize hO : tokB (rest s p) = o at *
  obtain ⟨p1, hp1⟩ : ∃ p1, p + 1 = p1 := ⟨_, rfl⟩
  rw [hp1] at Hnx
  have hpI1 : (p : Int) + 1 = (p1 : Int) := by omega
  have hp1s : p1 ≤ s.size := by omega
  have Hp1 := Lib.hid hp1
  clear hr hr0 hzero hp1 hO
  go_enter Tryd.func49, Tryd.ntmps49
  go_wp2_with fail
  refine (is_new B p s p1 (by omega) [10] (by decide) _ 1 _ rfl rfl (w.alloc (.cells zeroA 69)) (by simp) Hr0.out).mono ?_
  rintro e w1 ⟨rfl, hb1⟩
  rw [Hnx.out]
  have hr1 := Hr0.out.kept hb1
  have hT1 := HT0.out.below hb1
  have hb01 : Below w.heap.size w w1 := hb0.trans (hb1.mono hb0.size)
  have hat1 := hr1.at
  have h0 := hr1.text
  have hcl := hr1.cls s[p]
  rw [hK] at hcl
  have hcl2 : w1.cell? ⟨B, 1 + s[p].toNat, none⟩ = some (.int .i64 9) := hcl
  clear hcl
  have Hr1 := Lib.hid hr1
  have HT1 := Lib.hid hT1
  clear hr1 hT1 hat0 hb1 hb0 hK
  have hq1 : p ≤ p1 := by omega
  have Hpq := Hp1
  have Hq := Lib.hid (show s.extract p p1 = ⟨((rest s p).take 1).toArray⟩ by rw [← Hp1.out]; exact ext_rest s p 1)
  rw [show nextIs (rest s p1) 61 = false from by have := Hnb.out; rw [Hp1.out] at this; exact this]
  go_wp2_with fail
  go_quiet (fail)
  obtain ⟨w2, hw2⟩ : ∃ w2, w1.drewN nq = w2 := ⟨_, rfl⟩
  rw [hw2]
  have hb12 : Below w1.heap.size w1 w2 := by rw [← hw2]; exact below_drewN _ _ _
  have hr2 := Hr1.out.kept hb12
  have hT2 := HT1.out.below hb12
  have hb02 := hb01.trans (hb12.mono hb01.size)
  have hat2 := hr2.at
  have Hr2 := Lib.hid hr2
  have HT2 := Lib.hid hT2
  clear hr2 hT2 hb12 hat1 h0 hw2 hb01 Hr1 HT1 Hr0 HT0
  go_wp2_with fail
  refine (take_any B p s hs 4 p1 (by decide) hq1 hp1s w2 Hr2.out).mono ?_
  rintro e w3 ⟨rfl, hr3, hon3⟩
  have hT3 := HT2.out.kept hon3 (fun h => hne (Option.some.inj h).symm)
  have HT3 := Lib.hid hT3
  have Hr3 := Lib.hid hr3
  clear hT3 hr3
  go_wp2_with (first | (refine wpList_store_row rfl 69 (.tmp 2) (.tmp 74) rfl w.heap.size (tokA 4 p 0 (s.extract p p1)) rfl rfl 69 zeroA HT3.out (by kernel_rfl) rfl (tokA_one _ _ _ _) ?_))
  refine bodyPost_ret (results_tok2 Tryd.results49 _ _ w.heap.size _ rfl rfl (HT3.out.row _)) rfl ?_
  rw [HO.out]
  refine ⟨by show Ending.returned (.tuple #[tokV 4 p 0 (s.extract p p1), .int .i64 0]) = _; rw [Hq.out], ?_, only_new (only_trans (only_below B hb02) hon3) (only_row _ _ _) (Nat.le_refl _)⟩
  rw [Hpq.out]
  exact Hr3.out.only (only_row _ _ _) hne

set_option maxHeartbeats 2000000 in
theorem token_equals (B p : Nat) (s : ByteArray) (hs : s.size ≤ 100000) (hp : p < s.size) (w : World) (hr : Rd w B s p) (hc : isSym s[p] = true) (hn : isTwo s[p] = false ∨ nextIs (rest s (p + 1)) 61 = false) (hK : clsOf s[p] = 10) :
    Calls Tryd.prog 49 #[.pointer (some ⟨B, 0, none⟩)] w (Read (tokB (rest s p)) B p s w) := by
  have hb0 : Below w.heap.size w (w.alloc (.cells zeroA 69)) := (Below.refl _ w).alloc (Nat.le_refl _) _
  have hr0 := hr.kept hb0
  have hat0 := hr0.at
  have hBlt := hr.lt
  have hne : B ≠ w.heap.size := by omega
  have Hr0 := Lib.hid hr0
  have HT0 := Lib.hid (TokAt.new w)
  have hzero : zeroA = #[.int .i64 0, .int .i64 0, .int .i64 0, .string ⟨#[]⟩] := rfl
  rw [hzero] at hat0
  have Hnx := Lib.hid (next_equals s (p + 1))
  have hpI : (p : Int) < (s.size : Int) := by omega
  have hcb : s[p].toNat < 256 := UInt8.toNat_lt _
  have hcI : (s[p].toNat : Int) < 256 := by omega
  have HO := Lib.hid (tok_one hp hc hn)
  clear hn hc
  generalize hO : tokB (rest s p) = o at *
  obtain ⟨p1, hp1⟩ : ∃ p1, p + 1 = p1 := ⟨_, rfl⟩
  rw [hp1] at Hnx
  have hpI1 : (p : Int) + 1 = (p1 : Int) := by omega
  have hp1s : p1 ≤ s.size := by omega
  have Hp1 := Lib.hid hp1
  clear hr hr0 hzero hp1 hO
  go_enter Tryd.func49, Tryd.ntmps49
  go_wp2_with fail
  refine (is_new B p s p1 (by omega) [10] (by decide) _ 1 _ rfl rfl (w.alloc (.cells zeroA 69)) (by simp) Hr0.out).mono ?_
  rintro e w1 ⟨rfl, hb1⟩
  rw [Hnx.out]
  have hr1 := Hr0.out.kept hb1
  have hT1 := HT0.out.below hb1
  have hb01 : Below w.heap.size w w1 := hb0.trans (hb1.mono hb0.size)
  have hat1 := hr1.at
  have h0 := hr1.text
  have hcl := hr1.cls s[p]
  rw [hK] at hcl
  have hcl2 : w1.cell? ⟨B, 1 + s[p].toNat, none⟩ = some (.int .i64 10) := hcl
  clear hcl
  have Hr1 := Lib.hid hr1
  have HT1 := Lib.hid hT1
  clear hr1 hT1 hat0 hb1 hb0 hK
  have hq1 : p ≤ p1 := by omega
  have Hpq := Hp1
  have Hq := Lib.hid (show s.extract p p1 = ⟨((rest s p).take 1).toArray⟩ by rw [← Hp1.out]; exact ext_rest s p 1)
  generalize nextIs (rest s p1) 61 = nx
  go_wp2_with fail
  go_quiet (fail)
  obtain ⟨w2, hw2⟩ : ∃ w2, w1.drewN nq = w2 := ⟨_, rfl⟩
  rw [hw2]
  have hb12 : Below w1.heap.size w1 w2 := by rw [← hw2]; exact below_drewN _ _ _
  have hr2 := Hr1.out.kept hb12
  have hT2 := HT1.out.below hb12
  have hb02 := hb01.trans (hb12.mono hb01.size)
  have hat2 := hr2.at
  have Hr2 := Lib.hid hr2
  have HT2 := Lib.hid hT2
  clear hr2 hT2 hb12 hat1 h0 hw2 hb01 Hr1 HT1 Hr0 HT0
  go_wp2_with fail
  refine (take_any B p s hs 4 p1 (by decide) hq1 hp1s w2 Hr2.out).mono ?_
  rintro e w3 ⟨rfl, hr3, hon3⟩
  have hT3 := HT2.out.kept hon3 (fun h => hne (Option.some.inj h).symm)
  have HT3 := Lib.hid hT3
  have Hr3 := Lib.hid hr3
  clear hT3 hr3
  go_wp2_with (first | (refine wpList_store_row rfl 69 (.tmp 2) (.tmp 74) rfl w.heap.size (tokA 4 p 0 (s.extract p p1)) rfl rfl 69 zeroA HT3.out (by kernel_rfl) rfl (tokA_one _ _ _ _) ?_))
  refine bodyPost_ret (results_tok2 Tryd.results49 _ _ w.heap.size _ rfl rfl (HT3.out.row _)) rfl ?_
  rw [HO.out]
  refine ⟨by show Ending.returned (.tuple #[tokV 4 p 0 (s.extract p p1), .int .i64 0]) = _; rw [Hq.out], ?_, only_new (only_trans (only_below B hb02) hon3) (only_row _ _ _) (Nat.le_refl _)⟩
  rw [Hpq.out]
  exact Hr3.out.only (only_row _ _ _) hne

set_option maxHeartbeats 2000000 in
theorem token_symbol (B p : Nat) (s : ByteArray) (hs : s.size ≤ 100000) (hp : p < s.size) (w : World) (hr : Rd w B s p) (hc : isSym s[p] = true) (hn : isTwo s[p] = false ∨ nextIs (rest s (p + 1)) 61 = false) (hK : clsOf s[p] = 11) :
    Calls Tryd.prog 49 #[.pointer (some ⟨B, 0, none⟩)] w (Read (tokB (rest s p)) B p s w) := by
  have hb0 : Below w.heap.size w (w.alloc (.cells zeroA 69)) := (Below.refl _ w).alloc (Nat.le_refl _) _
  have hr0 := hr.kept hb0
  have hat0 := hr0.at
  have hBlt := hr.lt
  have hne : B ≠ w.heap.size := by omega
  have Hr0 := Lib.hid hr0
  have HT0 := Lib.hid (TokAt.new w)
  have hzero : zeroA = #[.int .i64 0, .int .i64 0, .int .i64 0, .string ⟨#[]⟩] := rfl
  rw [hzero] at hat0
  have Hnx := Lib.hid (next_equals s (p + 1))
  have hpI : (p : Int) < (s.size : Int) := by omega
  have hcb : s[p].toNat < 256 := UInt8.toNat_lt _
  have hcI : (s[p].toNat : Int) < 256 := by omega
  have HO := Lib.hid (tok_one hp hc hn)
  clear hn hc
  generalize hO : tokB (rest s p) = o at *
  obtain ⟨p1, hp1⟩ : ∃ p1, p + 1 = p1 := ⟨_, rfl⟩
  rw [hp1] at Hnx
  have hpI1 : (p : Int) + 1 = (p1 : Int) := by omega
  have hp1s : p1 ≤ s.size := by omega
  have Hp1 := Lib.hid hp1
  clear hr hr0 hzero hp1 hO
  go_enter Tryd.func49, Tryd.ntmps49
  go_wp2_with fail
  refine (is_new B p s p1 (by omega) [10] (by decide) _ 1 _ rfl rfl (w.alloc (.cells zeroA 69)) (by simp) Hr0.out).mono ?_
  rintro e w1 ⟨rfl, hb1⟩
  rw [Hnx.out]
  have hr1 := Hr0.out.kept hb1
  have hT1 := HT0.out.below hb1
  have hb01 : Below w.heap.size w w1 := hb0.trans (hb1.mono hb0.size)
  have hat1 := hr1.at
  have h0 := hr1.text
  have hcl := hr1.cls s[p]
  rw [hK] at hcl
  have hcl2 : w1.cell? ⟨B, 1 + s[p].toNat, none⟩ = some (.int .i64 11) := hcl
  clear hcl
  have Hr1 := Lib.hid hr1
  have HT1 := Lib.hid hT1
  clear hr1 hT1 hat0 hb1 hb0 hK
  have hq1 : p ≤ p1 := by omega
  have Hpq := Hp1
  have Hq := Lib.hid (show s.extract p p1 = ⟨((rest s p).take 1).toArray⟩ by rw [← Hp1.out]; exact ext_rest s p 1)
  generalize nextIs (rest s p1) 61 = nx
  go_wp2_with fail
  go_quiet (fail)
  obtain ⟨w2, hw2⟩ : ∃ w2, w1.drewN nq = w2 := ⟨_, rfl⟩
  rw [hw2]
  have hb12 : Below w1.heap.size w1 w2 := by rw [← hw2]; exact below_drewN _ _ _
  have hr2 := Hr1.out.kept hb12
  have hT2 := HT1.out.below hb12
  have hb02 := hb01.trans (hb12.mono hb01.size)
  have hat2 := hr2.at
  have Hr2 := Lib.hid hr2
  have HT2 := Lib.hid hT2
  clear hr2 hT2 hb12 hat1 h0 hw2 hb01 Hr1 HT1 Hr0 HT0
  go_wp2_with fail
  refine (take_any B p s hs 4 p1 (by decide) hq1 hp1s w2 Hr2.out).mono ?_
  rintro e w3 ⟨rfl, hr3, hon3⟩
  have hT3 := HT2.out.kept hon3 (fun h => hne (Option.some.inj h).symm)
  have HT3 := Lib.hid hT3
  have Hr3 := Lib.hid hr3
  clear hT3 hr3
  go_wp2_with (first | (refine wpList_store_row rfl 69 (.tmp 2) (.tmp 74) rfl w.heap.size (tokA 4 p 0 (s.extract p p1)) rfl rfl 69 zeroA HT3.out (by kernel_rfl) rfl (tokA_one _ _ _ _) ?_))
  refine bodyPost_ret (results_tok2 Tryd.results49 _ _ w.heap.size _ rfl rfl (HT3.out.row _)) rfl ?_
  rw [HO.out]
  refine ⟨by show Ending.returned (.tuple #[tokV 4 p 0 (s.extract p p1), .int .i64 0]) = _; rw [Hq.out], ?_, only_new (only_trans (only_below B hb02) hon3) (only_row _ _ _) (Nat.le_refl _)⟩
  rw [Hpq.out]
  exact Hr3.out.only (only_row _ _ _) hne

set_option maxHeartbeats 2000000 in
theorem token_bang1 (B p : Nat) (s : ByteArray) (hs : s.size ≤ 100000) (hp : p < s.size) (w : World) (hr : Rd w B s p) (h1 : isLet s[p] = false) (h2 : isNum s[p] = false) (h3 : s[p].toNat ≠ 34) (h4 : isSym s[p] = false) (hn : nextIs (rest s (p + 1)) 61 = false) (hK : clsOf s[p] = 8) :
    Calls Tryd.prog 49 #[.pointer (some ⟨B, 0, none⟩)] w (Read (tokB (rest s p)) B p s w) := by
  have hb0 : Below w.heap.size w (w.alloc (.cells zeroA 69)) := (Below.refl _ w).alloc (Nat.le_refl _) _
  have hr0 := hr.kept hb0
  have hat0 := hr0.at
  have hBlt := hr.lt
  have hne : B ≠ w.heap.size := by omega
  have Hr0 := Lib.hid hr0
  have HT0 := Lib.hid (TokAt.new w)
  have hzero : zeroA = #[.int .i64 0, .int .i64 0, .int .i64 0, .string ⟨#[]⟩] := rfl
  rw [hzero] at hat0
  have Hnx := Lib.hid (next_equals s (p + 1))
  have hpI : (p : Int) < (s.size : Int) := by omega
  have hcb : s[p].toNat < 256 := UInt8.toNat_lt _
  have hcI : (s[p].toNat : Int) < 256 := by omega
  have HO := Lib.hid (tok_none hp h1 h2 h3 h4 (.inr hn))
  have Hnb := Lib.hid hn
  clear hn h1 h2 h3 h4
  generalize hO : tokB (rest s p) = o at *
  obtain ⟨p1, hp1⟩ : ∃ p1, p + 1 = p1 := ⟨_, rfl⟩
  rw [hp1] at Hnx
  have hpI1 : (p : Int) + 1 = (p1 : Int) := by omega
  have hp1s : p1 ≤ s.size := by omega
  have Hp1 := Lib.hid hp1
  clear hr hr0 hzero hp1 hO
  go_enter Tryd.func49, Tryd.ntmps49
  go_wp2_with fail
  refine (is_new B p s p1 (by omega) [10] (by decide) _ 1 _ rfl rfl (w.alloc (.cells zeroA 69)) (by simp) Hr0.out).mono ?_
  rintro e w1 ⟨rfl, hb1⟩
  rw [Hnx.out]
  have hr1 := Hr0.out.kept hb1
  have hT1 := HT0.out.below hb1
  have hb01 : Below w.heap.size w w1 := hb0.trans (hb1.mono hb0.size)
  have hat1 := hr1.at
  have h0 := hr1.text
  have hcl := hr1.cls s[p]
  rw [hK] at hcl
  have hcl2 : w1.cell? ⟨B, 1 + s[p].toNat, none⟩ = some (.int .i64 8) := hcl
  clear hcl
  have Hr1 := Lib.hid hr1
  have HT1 := Lib.hid hT1
  clear hr1 hT1 hat0 hb1 hb0 hK
  rw [show nextIs (rest s p1) 61 = false from by have := Hnb.out; rw [Hp1.out] at this; exact this]
  go_wp2_with fail
  go_quiet (fail)
  obtain ⟨w2, hw2⟩ : ∃ w2, w1.drewN nq = w2 := ⟨_, rfl⟩
  rw [hw2]
  have hb12 : Below w1.heap.size w1 w2 := by rw [← hw2]; exact below_drewN _ _ _
  have hr2 := Hr1.out.kept hb12
  have hT2 := HT1.out.below hb12
  have hb02 := hb01.trans (hb12.mono hb01.size)
  have hat2 := hr2.at
  have Hr2 := Lib.hid hr2
  have HT2 := Lib.hid hT2
  clear hr2 hT2 hb12 hat1 h0 hw2 hb01 Hr1 HT1 Hr0 HT0
  go_wp2_with (first | (refine wpList_store_row rfl 69 (.tmp 2) (.tmp 75) rfl w.heap.size zeroA rfl rfl 69 zeroA HT2.out (by kernel_rfl) rfl zeroA_one ?_))
  refine bodyPost_ret (results_tok2 Tryd.results49 _ _ w.heap.size _ rfl rfl (HT2.out.row _)) rfl ?_
  rw [HO.out]
  exact ⟨rfl, Hr2.out.only (only_row _ _ _) hne, only_new (only_below B hb02) (only_row _ _ _) (Nat.le_refl _)⟩

set_option maxHeartbeats 2000000 in
theorem token_none (B p : Nat) (s : ByteArray) (hs : s.size ≤ 100000) (hp : p < s.size) (w : World) (hr : Rd w B s p) (h1 : isLet s[p] = false) (h2 : isNum s[p] = false) (h3 : s[p].toNat ≠ 34) (h4 : isSym s[p] = false) (hn : isTwo s[p] = false ∨ nextIs (rest s (p + 1)) 61 = false) (k4 : clsOf s[p] ≠ 4) (k5 : clsOf s[p] ≠ 5) (k7 : clsOf s[p] ≠ 7) (k8 : clsOf s[p] ≠ 8) (k9 : clsOf s[p] ≠ 9) (k10 : clsOf s[p] ≠ 10) (k11 : clsOf s[p] ≠ 11) :
    Calls Tryd.prog 49 #[.pointer (some ⟨B, 0, none⟩)] w (Read (tokB (rest s p)) B p s w) := by
  have hb0 : Below w.heap.size w (w.alloc (.cells zeroA 69)) := (Below.refl _ w).alloc (Nat.le_refl _) _
  have hr0 := hr.kept hb0
  have hat0 := hr0.at
  have hBlt := hr.lt
  have hne : B ≠ w.heap.size := by omega
  have Hr0 := Lib.hid hr0
  have HT0 := Lib.hid (TokAt.new w)
  have hzero : zeroA = #[.int .i64 0, .int .i64 0, .int .i64 0, .string ⟨#[]⟩] := rfl
  rw [hzero] at hat0
  have Hnx := Lib.hid (next_equals s (p + 1))
  have hpI : (p : Int) < (s.size : Int) := by omega
  have hcb : s[p].toNat < 256 := UInt8.toNat_lt _
  have hcI : (s[p].toNat : Int) < 256 := by omega
  have HO := Lib.hid (tok_none hp h1 h2 h3 h4 hn)
  clear hn h1 h2 h3 h4
  generalize hO : tokB (rest s p) = o at *
  obtain ⟨p1, hp1⟩ : ∃ p1, p + 1 = p1 := ⟨_, rfl⟩
  rw [hp1] at Hnx
  have hpI1 : (p : Int) + 1 = (p1 : Int) := by omega
  have hp1s : p1 ≤ s.size := by omega
  have Hp1 := Lib.hid hp1
  clear hr hr0 hzero hp1 hO
  go_enter Tryd.func49, Tryd.ntmps49
  go_wp2_with fail
  refine (is_new B p s p1 (by omega) [10] (by decide) _ 1 _ rfl rfl (w.alloc (.cells zeroA 69)) (by simp) Hr0.out).mono ?_
  rintro e w1 ⟨rfl, hb1⟩
  rw [Hnx.out]
  have hr1 := Hr0.out.kept hb1
  have hT1 := HT0.out.below hb1
  have hb01 : Below w.heap.size w w1 := hb0.trans (hb1.mono hb0.size)
  have hat1 := hr1.at
  have h0 := hr1.text
  have hcl := hr1.cls s[p]
  generalize clsOf s[p] = K at *
  have Hr1 := Lib.hid hr1
  have HT1 := Lib.hid hT1
  clear hr1 hT1 hat0 hb1 hb0 
  generalize nextIs (rest s p1) 61 = nx
  have j4 : ((K : Int) == 4) = false := by simp; omega
  have j5 : ((K : Int) == 5) = false := by simp; omega
  have j7 : ((K : Int) == 7) = false := by simp; omega
  have j8 : ((K : Int) == 8) = false := by simp; omega
  have j9 : ((K : Int) == 9) = false := by simp; omega
  have j10 : ((K : Int) == 10) = false := by simp; omega
  have j11 : ((K : Int) == 11) = false := by simp; omega
  go_wp2_with fail
  go_quiet (fail)
  obtain ⟨w2, hw2⟩ : ∃ w2, w1.drewN nq = w2 := ⟨_, rfl⟩
  rw [hw2]
  have hb12 : Below w1.heap.size w1 w2 := by rw [← hw2]; exact below_drewN _ _ _
  have hr2 := Hr1.out.kept hb12
  have hT2 := HT1.out.below hb12
  have hb02 := hb01.trans (hb12.mono hb01.size)
  have hat2 := hr2.at
  have Hr2 := Lib.hid hr2
  have HT2 := Lib.hid hT2
  clear hr2 hT2 hb12 hat1 h0 hw2 hb01 Hr1 HT1 Hr0 HT0
  go_wp2_with (first | (refine wpList_store_row rfl 69 (.tmp 2) (.tmp 75) rfl w.heap.size zeroA rfl rfl 69 zeroA HT2.out (by kernel_rfl) rfl zeroA_one ?_))
  refine bodyPost_ret (results_tok2 Tryd.results49 _ _ w.heap.size _ rfl rfl (HT2.out.row _)) rfl ?_
  rw [HO.out]
  exact ⟨rfl, Hr2.out.only (only_row _ _ _) hne, only_new (only_below B hb02) (only_row _ _ _) (Nat.le_refl _)⟩

theorem token_any (B p : Nat) (s : ByteArray) (hs : s.size ≤ 100000) (hp : p < s.size) (w : World) (hr : Rd w B s p) :
    Calls Tryd.prog 49 #[.pointer (some ⟨B, 0, none⟩)] w (Read (tokB (rest s p)) B p s w) := by
  rcases cls_cases s[p] with ⟨hK, hc⟩ | ⟨hK, hc⟩ | ⟨hK, hc⟩ | ⟨hK, hc, h4, h1, h2, h3⟩ | ⟨hK, hc, hsy⟩ | ⟨hK, hc, hsy⟩ | ⟨hK, hc, hsy⟩ | ⟨k4, k5, k7, k8, k9, k10, k11, hc, h4, h1, h2, h3⟩
  · exact token_name B p s hs hp w hr hc hK
  · exact token_number B p s hs hp w hr hc hK
  · exact token_quoted B p s hs hp w hr hc hK
  · cases hn : nextIs (rest s (p + 1)) 61 with
    | true => exact token_bang2 B p s hs hp w hr hc hn hK
    | false => exact token_bang1 B p s hs hp w hr h1 h2 h3 h4 hn hK
  · cases hn : nextIs (rest s (p + 1)) 61 with
    | true => exact token_angle2 B p s hs hp w hr hc hn hK
    | false => exact token_angle1 B p s hs hp w hr hsy hn hK
  · exact token_equals B p s hs hp w hr hsy (.inl hc) hK
  · exact token_symbol B p s hs hp w hr hsy (.inl hc) hK
  · exact token_none B p s hs hp w hr h1 h2 h3 h4 (.inl hc) k4 k5 k7 k8 k9 k10 k11

end Go.Proofs.YtcabhanmeookkaaDoor.Lx
