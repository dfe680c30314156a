/- Walks over gazetteerref04 (Name) and gazetteerref10 (At). -/
import Derived.Test.YtcabhanmeookkaaDoorAlpW10
namespace Go.Proofs.YtcabhanmeookkaaDoor.Al
set_option linter.unusedVariables false
set_option linter.unusedSimpArgs false
open Go.RowKit
open Lx (isLet isNum isWord)

theorem rletter_any (c : UInt8) (w : World) :
    Calls Tryd.prog 46 #[.int .u8 (c.toNat : Int)] w fun e w' => e = .returned (.bool (isLet c)) ∧ w = w' := by
  have key : isLet c = (decide ((97 : Int) ≤ (c.toNat : Int)) && decide ((c.toNat : Int) ≤ 122) || decide ((65 : Int) ≤ (c.toNat : Int)) && decide ((c.toNat : Int) ≤ 90)) := by
    unfold isLet
    congr 2 <;> · congr 1; apply propext; omega
  rw [key]
  clear key
  have hc : c.toNat < 256 := UInt8.toNat_lt c
  generalize c.toNat = n at *
  by_cases h1 : (97 : Int) ≤ (n : Int)
  · by_cases h2 : (n : Int) ≤ 122
    · go_enter Tryd.func46, Tryd.ntmps46
      go_wp2_with fail
      go_ret
      first | (simp [*]; done) | (simp [*]; omega)
    · have h3 : (65 : Int) ≤ (n : Int) := by omega
      have h4 : ¬ (n : Int) ≤ 90 := by omega
      go_enter Tryd.func46, Tryd.ntmps46
      go_wp2_with fail
      go_ret
      first | (simp [*]; done) | (simp [*]; omega)
  · by_cases h3 : (65 : Int) ≤ (n : Int)
    · by_cases h4 : (n : Int) ≤ 90
      · go_enter Tryd.func46, Tryd.ntmps46
        go_wp2_with fail
        go_ret
        first | (simp [*]; done) | (simp [*]; omega)
      · go_enter Tryd.func46, Tryd.ntmps46
        go_wp2_with fail
        go_ret
        first | (simp [*]; done) | (simp [*]; omega)
    · go_enter Tryd.func46, Tryd.ntmps46
      go_wp2_with fail
      go_ret
      first | (simp [*]; done) | (simp [*]; omega)

theorem rdigit_any (c : UInt8) (w : World) :
    Calls Tryd.prog 53 #[.int .u8 (c.toNat : Int)] w fun e w' => e = .returned (.bool (isNum c)) ∧ w = w' := by
  have key : isNum c = (decide ((48 : Int) ≤ (c.toNat : Int)) && decide ((c.toNat : Int) ≤ 57)) := by
    unfold isNum
    congr 1 <;> · congr 1; apply propext; omega
  rw [key]
  clear key
  have hc : c.toNat < 256 := UInt8.toNat_lt c
  generalize c.toNat = n at *
  by_cases h1 : (48 : Int) ≤ (n : Int)
  · by_cases h2 : (n : Int) ≤ 57
    · go_enter Tryd.func53, Tryd.ntmps53
      go_wp2_with fail
      go_ret
      first | (simp [*]; done) | (simp [*]; omega)
    · go_enter Tryd.func53, Tryd.ntmps53
      go_wp2_with fail
      go_ret
      first | (simp [*]; done) | (simp [*]; omega)
  · go_enter Tryd.func53, Tryd.ntmps53
    go_wp2_with fail
    go_ret
    first | (simp [*]; done) | (simp [*]; omega)

theorem rword_any (c : UInt8) (w : World) :
    Calls Tryd.prog 45 #[.int .u8 (c.toNat : Int)] w fun e w' => e = .returned (.bool (isWord c)) ∧ w = w' := by
  unfold isWord
  have key : decide (c.toNat = 95) = ((c.toNat : Int) == 95) := by
    by_cases h : c.toNat = 95
    · simp [h]
    · simp [h]
      omega
  rw [key]
  clear key
  have HL := rletter_any c w
  have HD := rdigit_any c w
  generalize isLet c = a at *
  generalize isNum c = b at *
  go_enter Tryd.func45, Tryd.ntmps45
  go_wp2_with fail
  refine HL.mono ?_
  rintro e w1 ⟨rfl, rfl⟩
  cases a with
  | true =>
    go_wp2_with fail
    go_ret
    exact ⟨rfl, rfl⟩
  | false =>
    go_wp2_with fail
    refine HD.mono ?_
    rintro e w1 ⟨rfl, rfl⟩
    cases b with
    | true =>
      go_wp2_with fail
      go_ret
      exact ⟨rfl, rfl⟩
    | false =>
      go_wp2_with fail
      go_ret
      exact ⟨rfl, rfl⟩

/-- whether a text is a name -/
def refName (s : ByteArray) : Bool := s.data.toList.all isWord && (decide (0 < s.size) && decide (s.size ≤ 24) && (match s.data.toList.head? with | some c => isLet c | none => false))

set_option maxHeartbeats 1000000 in
theorem rName_ref (s : ByteArray) (hs : s.size ≤ maxLen) (w : World) :
    Calls Tryd.prog 41 #[.string s] w fun e w' => e = .returned (.bool (refName s)) ∧ w = w' := by
  unfold maxLen at hs
  generalize hN : refName s = N
  have HN := Lib.hid hN
  clear hN
  go_enter Tryd.func41, Tryd.ntmps41
  go_wp2_with fail
  go_loop [3] (fun i => ∃ k : Nat, k ≤ s.size ∧ i = .int .i64 k ∧ Hid ((s.data.toList.take k).all isWord = true)) (fun i => s.size - (intOf i).toNat)
  case atStart => exact ⟨0, by omega, rfl, Lib.hid (by simp)⟩
  case round =>
    obtain ⟨k, hk, rfl, Hall⟩ := hrel
    by_cases hlt : k < s.size
    · have hl : k < s.data.toList.length := by rw [← Lib.size_eq]; exact hlt
      have Hsucc := Lib.hid (show s.data.toList.take (k + 1) = s.data.toList.take k ++ [s[k]] from List.take_succ_eq_append_getElem hl)
      have Hmem := Lib.hid (show s[k] ∈ s.data.toList from List.getElem_mem hl)
      have hw := rword_any s[k] w
      cases hx : isWord s[k] with
      | true =>
        rw [hx] at hw
        have Hw := Lib.hid hw
        have Hx := Lib.hid hx
        clear hx hw
        go_wp2_with fail
        refine Hw.out.mono ?_
        rintro e w1 ⟨rfl, rfl⟩
        go_wp2_with fail
        go_round
        case rel =>
          refine ⟨k + 1, by omega, by go_num, ?_⟩
          show (s.data.toList.take (k + 1)).all isWord = true
          rw [Hsucc.out, List.all_append, Hall.out]
          simp [Hx.out]
        case measure => simp [intOf]; omega
      | false =>
        rw [hx] at hw
        have Hw := Lib.hid hw
        have Hx := Lib.hid hx
        clear hx hw
        go_wp2_with fail
        refine Hw.out.mono ?_
        rintro e w1 ⟨rfl, rfl⟩
        go_wp2_with fail
        go_ret
        have h1 : s.data.toList.all isWord = false := by
          rw [List.all_eq_false]
          exact ⟨s[k], Hmem.out, by simp [Hx.out]⟩
        obtain rfl : N = false := HN.out.symm.trans (by unfold refName; rw [h1]; rfl)
        exact ⟨rfl, rfl⟩
    · obtain rfl : k = s.size := by omega
      have hall := Hall.out
      rw [List.take_of_length_le (by rw [← Lib.size_eq]; omega)] at hall
      have Hall2 := Lib.hid hall
      clear hall
      by_cases h0 : 0 < s.size
      · by_cases h24 : s.size ≤ 24
        · have hlen : 0 < s.data.toList.length := by rw [← Lib.size_eq]; exact h0
          have hhead : s.data.toList.head? = some s[0] := by rw [List.head?_eq_getElem?, List.getElem?_eq_getElem hlen]; rfl
          have HH := Lib.hid hhead
          have HL := Lib.hid (rletter_any s[0] w)
          have h0I : (0 : Int) < (s.size : Int) := by omega
          have h24I : (s.size : Int) ≤ 24 := by omega
          clear hhead
          go_wp2_with fail
          refine HL.out.mono ?_
          rintro e w1 ⟨rfl, rfl⟩
          go_wp2_with fail
          go_ret
          obtain rfl : N = isLet s[0] := HN.out.symm.trans (by unfold refName; rw [Hall2.out, HH.out, decide_eq_true h0, decide_eq_true h24]; rfl)
          exact ⟨rfl, rfl⟩
        · have h0I : (0 : Int) < (s.size : Int) := by omega
          have h24I : ¬ (s.size : Int) ≤ 24 := by omega
          have h24d : decide (s.size ≤ 24) = false := decide_eq_false h24
          go_wp2_with fail
          go_ret
          obtain rfl : N = false := HN.out.symm.trans (by unfold refName; rw [decide_eq_false h24]; simp)
          exact ⟨rfl, rfl⟩
      · have h0d : decide (0 < s.size) = false := decide_eq_false h0
        have h0I : ¬ (0 : Int) < (s.size : Int) := by omega
        go_wp2_with fail
        go_ret
        obtain rfl : N = false := HN.out.symm.trans (by unfold refName; rw [decide_eq_false h0]; simp)
        exact ⟨rfl, rfl⟩


theorem refName_eq (s : ByteArray) : refName s = nameB (bl s) := by
  unfold refName
  rw [Lib.size_eq]
  show ((bl s).all isWord && (decide (0 < (bl s).length) && decide ((bl s).length ≤ 24) && (match (bl s).head? with | some c => isLet c | none => false))) = _
  cases bl s with
  | nil => rfl
  | cons c r =>
    unfold nameB
    simp only [List.all_cons, List.head?_cons, List.length_cons]
    cases hl : isLet c with
    | false => simp
    | true =>
      have : isWord c = true := by unfold Lx.isWord; rw [hl]; rfl
      rw [this]; simp
theorem rName_any (s : ByteArray) (hs : s.size ≤ maxLen) (w : World) :
    Calls Tryd.prog 41 #[.string s] w fun e w' => e = .returned (.bool (nameB (bl s))) ∧ w = w' := by
  rw [← refName_eq]; exact rName_ref s hs w

/-! ### The longest letter at a place -/

theorem rext_le2 (x : ByteArray) (i : Nat) : (x.extract i x.size).size ≤ x.size := by rw [ByteArray.size_extract]; omega
theorem rbl_rest (x : ByteArray) (i : Nat) : bl (x.extract i x.size) = (bl x).drop i := by
  rw [bl_ext, List.take_of_length_le]; rw [List.length_drop, bl_len]; omega
theorem rbegins_quiet (s p : ByteArray) (hs : s.size ≤ 1000000) (hp : p.size ≤ 1000000) (R : Bool) (hR : (bl p).isPrefixOf (bl s) = R) (w : World) (n : Nat) :
    Calls Tryd.prog 31 #[.string s, .string p] (w.drewN n) fun e w' => e = .returned (.bool R) ∧ ∃ m, w' = w.drewN m :=
  (rbegins_any s p hs hp _).mono fun e w' ⟨he, hw⟩ => ⟨by rw [← hR]; exact he, n, hw.symm⟩

/-- the longest of the first k letters at the beginning of a text -/
def Best (L : List Bs) (t : Bs) (k : Nat) (v : Int) : Prop :=
  (v = -1 ∧ ∀ j, j < k → (ltA L j).isPrefixOf t = false) ∨
  ∃ i : Nat, v = (i : Int) ∧ i < k ∧ (ltA L i).isPrefixOf t = true ∧ ∀ j, j < k → (ltA L j).isPrefixOf t = true → (ltA L j).length ≤ (ltA L i).length
theorem Best.start (L : List Bs) (t : Bs) : Best L t 0 (-1) := .inl ⟨rfl, fun j h => absurd h (Nat.not_lt_zero _)⟩
theorem Best.skip {L : List Bs} {t : Bs} {k : Nat} {v : Int} (h : Best L t k v) (hn : (ltA L k).isPrefixOf t = false) : Best L t (k + 1) v := by
  rcases h with ⟨rfl, h⟩ | ⟨i, rfl, hi, hp, h⟩
  · refine .inl ⟨rfl, fun j hj => ?_⟩
    rcases Nat.lt_succ_iff_lt_or_eq.1 hj with h1 | rfl
    · exact h j h1
    · exact hn
  · refine .inr ⟨i, rfl, by omega, hp, fun j hj hjp => ?_⟩
    rcases Nat.lt_succ_iff_lt_or_eq.1 hj with h1 | rfl
    · exact h j h1 hjp
    · rw [hn] at hjp; cases hjp
theorem Best.first {L : List Bs} {t : Bs} {k : Nat} (h : ∀ j, j < k → (ltA L j).isPrefixOf t = false) (hp : (ltA L k).isPrefixOf t = true) : Best L t (k + 1) (k : Int) := by
  refine .inr ⟨k, rfl, by omega, hp, fun j hj hjp => ?_⟩
  rcases Nat.lt_succ_iff_lt_or_eq.1 hj with h1 | rfl
  · rw [h j h1] at hjp; cases hjp
  · exact Nat.le_refl _
theorem Best.take {L : List Bs} {t : Bs} {k i : Nat} (h : ∀ j, j < k → (ltA L j).isPrefixOf t = true → (ltA L j).length ≤ (ltA L i).length) (hp : (ltA L k).isPrefixOf t = true) (hl : (ltA L i).length < (ltA L k).length) : Best L t (k + 1) (k : Int) := by
  refine .inr ⟨k, rfl, by omega, hp, fun j hj hjp => ?_⟩
  rcases Nat.lt_succ_iff_lt_or_eq.1 hj with h1 | rfl
  · have := h j h1 hjp; omega
  · exact Nat.le_refl _
theorem Best.stay {L : List Bs} {t : Bs} {k i : Nat} (hi : i < k) (hpi : (ltA L i).isPrefixOf t = true) (h : ∀ j, j < k → (ltA L j).isPrefixOf t = true → (ltA L j).length ≤ (ltA L i).length) (hl : (ltA L k).length ≤ (ltA L i).length) : Best L t (k + 1) (i : Int) := by
  refine .inr ⟨i, rfl, by omega, hpi, fun j hj hjp => ?_⟩
  rcases Nat.lt_succ_iff_lt_or_eq.1 hj with h1 | rfl
  · exact h j h1 hjp
  · exact hl
def atI (o : Option Nat) : Int := match o with | some i => (i : Int) | none => -1
theorem best_at1 {L : List Bs} (F : Fine L) {t : Bs} {v : Int} (h : Best L t L.length v) : v = atI (at1 L t) := by
  rcases h with ⟨rfl, h⟩ | ⟨i, rfl, hi, hp, h⟩
  · cases hq : at1 L t with
    | none => rfl
    | some i =>
      obtain ⟨_, _, p3, _, _⟩ := hit_spec 3 hq
      have := h i (at1_lt hq)
      have hpre : (ltA L i).isPrefixOf t = true := by
        rw [List.isPrefixOf_iff_prefix]
        conv => lhs; rw [← p3]
        exact List.take_prefix _ _
      rw [hpre] at this; cases this
  · have h1 := F.prop _ (ltA_mem hi)
    have := hit_of F.nodup hi (by omega) hp (fun m hm hl hmp => by
      obtain ⟨j, hj, rfl⟩ := List.mem_iff_getElem.1 hm
      have := h j hj (by rw [ltA_get hj]; exact hmp)
      rw [ltA_get hj] at this
      omega) 3 h1.2
    unfold at1
    rw [this]
    rfl

set_option maxHeartbeats 2000000 in
theorem At_any (nm : ByteArray) (vl vs : Value) (L : List ByteArray) (S : List Int) (F : Fine (bls L)) (x : ByteArray) (hx : x.size ≤ 100000) (p : Nat) (hp : p ≤ x.size) (w : World) (hA : Alp nm vl vs L S w) :
    Calls Tryd.prog 38 #[.agg #[.string nm, vl, vs], .string x, .int .i64 (p : Int)] w fun e w' => e = .returned (.int .i64 (atI (at1 (bls L) ((bl x).drop p)))) ∧ Below w.heap.size w w' := by
  have hb0 : Below w.heap.size w (w.alloc (.cells #[.string nm, vl, vs] 25)) := (Below.refl _ _).alloc (Nat.le_refl _) _
  have k0 := Blk.new w 25 #[.string nm, vl, vs]
  have hlen := hA.len
  obtain ⟨al, cl, rfl⟩ := hA.sl.form
  have HA := Lib.hid hA
  have HE := Lib.hid (fun v (h : Best (bls L) ((bl x).drop p) L.length v) => best_at1 F (v := v) (by rw [bls_len]; exact h))
  clear hA
  generalize atI (at1 (bls L) ((bl x).drop p)) = R at *
  have qp : (p : Int) ≤ (x.size : Int) := by omega
  have hpo : ¬ (p : Int) < 0 := by omega
  go_enter Tryd.func38, Tryd.ntmps38
  go_wp2_with fail
  go_loopw [7, 8] (fun v i wr => ∃ (o : Int) (k : Nat), k ≤ L.length ∧ v = .int .i64 o ∧ i = .int .i64 k ∧ Below (w.alloc (.cells #[.string nm, .slice al L.length cl, vs] 25)).heap.size (w.alloc (.cells #[.string nm, .slice al L.length cl, vs] 25)) wr ∧ Hid (Best (bls L) ((bl x).drop p) k o)) (fun _ i _ => L.length - (intOf i).toNat)
  case atStart => exact ⟨-1, 0, by omega, rfl, rfl, Below.refl _ _, Lib.hid (Best.start _ _)⟩
  case round =>
    obtain ⟨o, k, hk, rfl, rfl, hbr, HB⟩ := hrel
    have hbw := hb0.trans (hbr.mono hb0.size)
    have kr := k0.below hbr k0.lt
    have z0 : wr.cell? ⟨w.heap.size, 0, none⟩ = some (.string nm) := kr.cell 0
    have z1 : wr.cell? ⟨w.heap.size, 1, none⟩ = some (.slice al L.length cl) := kr.cell 1
    have z2 : wr.cell? ⟨w.heap.size, 2, none⟩ = some vs := kr.cell 2
    by_cases hlk : k < L.length
    · obtain ⟨b, off, cap, hsl, hbb, hmm, hcell⟩ := HA.out.sl.open (by omega)
      obtain ⟨rfl, rfl⟩ : al = some ⟨b, off, none⟩ ∧ cl = cap := by simpa using hsl
      have ck : wr.cell? ⟨b, off + k, none⟩ = some (.string L[k]) := (hbw.cell (p := ⟨b, off + k, none⟩) hbb).trans (hcell _ hlk)
      have hz := HA.out.lz L[k] (List.getElem_mem hlk)
      have ek := Lib.hid (bls_get L k hlk)
      have q1 : (k : Int) < (L.length : Int) := by omega
      have Hcell := Lib.hid hcell
      clear hsl hcell
      generalize L[k] = lk at *
      cases hR : (bl lk).isPrefixOf (bl (x.extract p x.size)) with
      | false =>
        have HN := Lib.hid (HB.out.skip (by rw [ek.out, ← rbl_rest]; exact hR))
        have HR := Lib.hid hR
        clear hR
        go_wp2_with fail
        go_quiet (first | (go_at_call 31; exact rbegins_quiet _ _ (by have := rext_le2 x p; omega) (by omega) false HR.out _ _))
        go_wp2_with fail
        go_roundw
        case rel => exact ⟨o, k + 1, by omega, rfl, by go_num, hbr.trans (below_drewN wr nq _), HN⟩
        case measure => simp [intOf]; omega
      | true =>
        have hpk : (ltA (bls L) k).isPrefixOf ((bl x).drop p) = true := by rw [ek.out, ← rbl_rest]; exact hR
        have HR := Lib.hid hR
        clear hR
        rcases HB.out with ⟨rfl, hno⟩ | ⟨i, rfl, hi, hpi, hmax⟩
        · have HN := Lib.hid (Best.first hno hpk)
          clear hno hpk
          go_wp2_with fail
          go_quiet (first | (go_at_call 31; exact rbegins_quiet _ _ (by have := rext_le2 x p; omega) (by omega) true HR.out _ _))
          go_wp2_with fail
          go_roundw
          case rel => exact ⟨_, k + 1, by omega, rfl, by go_num, hbr.trans (below_drewN wr nq _), HN⟩
          case measure => simp [intOf]; omega
        · have hiL : i < L.length := by omega
          have ci : wr.cell? ⟨b, off + i, none⟩ = some (.string L[i]) := (hbw.cell (p := ⟨b, off + i, none⟩) hbb).trans (Hcell.out _ hiL)
          have ei := Lib.hid (bls_get L i hiL)
          generalize L[i] = li at *
          have q2 : (i : Int) < (L.length : Int) := by omega
          have q3 : decide ((i : Int) < 0) = false := by simp
          by_cases hgt : li.size < lk.size
          · have q4 : (li.size : Int) < (lk.size : Int) := by omega
            have HN := Lib.hid (Best.take hmax hpk (by rw [ei.out, ek.out, bl_len, bl_len]; exact hgt))
            clear hmax hpk hpi
            go_wp2_with fail
            go_quiet (first | (go_at_call 31; exact rbegins_quiet _ _ (by have := rext_le2 x p; omega) (by omega) true HR.out _ _))
            go_wp2_with fail
            go_roundw
            case rel => exact ⟨_, k + 1, by omega, rfl, by go_num, hbr.trans (below_drewN wr nq _), HN⟩
            case measure => simp [intOf]; omega
          · have q4 : decide ((li.size : Int) < (lk.size : Int)) = false := by simp; omega
            have HN := Lib.hid (Best.stay hi hpi hmax (by rw [ei.out, ek.out, bl_len, bl_len]; omega))
            clear hmax hpk hpi
            go_wp2_with fail
            go_quiet (first | (go_at_call 31; exact rbegins_quiet _ _ (by have := rext_le2 x p; omega) (by omega) true HR.out _ _))
            go_wp2_with fail
            go_roundw
            case rel => exact ⟨_, k + 1, by omega, rfl, by go_num, hbr.trans (below_drewN wr nq _), HN⟩
            case measure => simp [intOf]; omega
    · obtain rfl : k = L.length := by omega
      have hR := HE.out o HB.out
      subst hR
      go_wp2_with fail
      go_ret
      exact ⟨rfl, hbw⟩
end Go.Proofs.YtcabhanmeookkaaDoor.Al
