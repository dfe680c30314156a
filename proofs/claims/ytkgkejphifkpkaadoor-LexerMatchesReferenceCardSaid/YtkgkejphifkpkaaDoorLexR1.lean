/- Walks over package gazetteerref04: letters, digits, gaps. -/
import Derived.Test.YtkgkejphifkpkaaDoorLexW6
namespace Go.Proofs.YtkgkejphifkpkaaDoor.Lx
set_option linter.unusedVariables false
set_option linter.unusedSimpArgs false
open Go.RowKit

theorem letter_any (c : UInt8) (w : World) :
    Calls Tryd.prog 70 #[.int .u8 (c.toNat : Int)] w fun e w' => e = .returned (.bool (isLet c)) ∧ w = w' := by
  have key : isLet c = (decide ((97 : Int) ≤ (c.toNat : Int)) && decide ((c.toNat : Int) ≤ 122) || decide ((65 : Int) ≤ (c.toNat : Int)) && decide ((c.toNat : Int) ≤ 90)) := by
    unfold isLet
    congr 2 <;> · congr 1; apply propext; omega
  rw [key]
  clear key
  have hc : c.toNat < 256 := UInt8.toNat_lt c
  generalize c.toNat = n at *
  by_cases h1 : (97 : Int) ≤ (n : Int)
  · by_cases h2 : (n : Int) ≤ 122
    · go_enter Tryd.func70, Tryd.ntmps70
      go_wp2_with fail
      go_ret
      first | (simp [*]; done) | (simp [*]; omega)
    · have h3 : (65 : Int) ≤ (n : Int) := by omega
      have h4 : ¬ (n : Int) ≤ 90 := by omega
      go_enter Tryd.func70, Tryd.ntmps70
      go_wp2_with fail
      go_ret
      first | (simp [*]; done) | (simp [*]; omega)
  · by_cases h3 : (65 : Int) ≤ (n : Int)
    · by_cases h4 : (n : Int) ≤ 90
      · go_enter Tryd.func70, Tryd.ntmps70
        go_wp2_with fail
        go_ret
        first | (simp [*]; done) | (simp [*]; omega)
      · go_enter Tryd.func70, Tryd.ntmps70
        go_wp2_with fail
        go_ret
        first | (simp [*]; done) | (simp [*]; omega)
    · go_enter Tryd.func70, Tryd.ntmps70
      go_wp2_with fail
      go_ret
      first | (simp [*]; done) | (simp [*]; omega)

theorem digit_any (c : UInt8) (w : World) :
    Calls Tryd.prog 101 #[.int .u8 (c.toNat : Int)] w fun e w' => e = .returned (.bool (isNum c)) ∧ w = w' := by
  have key : isNum c = (decide ((48 : Int) ≤ (c.toNat : Int)) && decide ((c.toNat : Int) ≤ 57)) := by
    unfold isNum
    congr 1 <;> · congr 1; apply propext; omega
  rw [key]
  clear key
  have hc : c.toNat < 256 := UInt8.toNat_lt c
  generalize c.toNat = n at *
  by_cases h1 : (48 : Int) ≤ (n : Int)
  · by_cases h2 : (n : Int) ≤ 57
    · go_enter Tryd.func101, Tryd.ntmps101
      go_wp2_with fail
      go_ret
      first | (simp [*]; done) | (simp [*]; omega)
    · go_enter Tryd.func101, Tryd.ntmps101
      go_wp2_with fail
      go_ret
      first | (simp [*]; done) | (simp [*]; omega)
  · go_enter Tryd.func101, Tryd.ntmps101
    go_wp2_with fail
    go_ret
    first | (simp [*]; done) | (simp [*]; omega)

theorem word_any (c : UInt8) (w : World) :
    Calls Tryd.prog 69 #[.int .u8 (c.toNat : Int)] w fun e w' => e = .returned (.bool (isWord c)) ∧ w = w' := by
  unfold isWord
  have key : decide (c.toNat = 95) = ((c.toNat : Int) == 95) := by
    by_cases h : c.toNat = 95
    · simp [h]
    · simp [h]
      omega
  rw [key]
  clear key
  have HL := letter_any c w
  have HD := digit_any c w
  generalize isLet c = a at *
  generalize isNum c = b at *
  go_enter Tryd.func69, Tryd.ntmps69
  go_wp2_with fail
  refine HL.mono ?_
  rintro e w1 ⟨rfl, rfl⟩
  cases a with
  | true =>
    go_wp2_with fail
    go_ret
    exact ⟨rfl, rfl⟩
  | false =>
    go_wp2_with fail
    refine HD.mono ?_
    rintro e w1 ⟨rfl, rfl⟩
    cases b with
    | true =>
      go_wp2_with fail
      go_ret
      exact ⟨rfl, rfl⟩
    | false =>
      go_wp2_with fail
      go_ret
      exact ⟨rfl, rfl⟩

theorem rest_zero (s : ByteArray) : rest s 0 = s.data.toList := List.drop_zero
theorem byte_eq (a b : UInt8) : ((a.toNat : Int) == (b.toNat : Int)) = (a == b) := by
  by_cases h : a = b
  · subst h; simp
  · have h2 : a.toNat ≠ b.toNat := fun e => h (UInt8.toNat_inj.1 e)
    rw [beq_eq_false_iff_ne.2 h, beq_eq_false_iff_ne]
    omega

theorem has_any' (s : ByteArray) (hs : s.size ≤ 100000) (c : UInt8) (w : World) :
    Calls Tryd.prog 100 #[.string s, .int .u8 (c.toNat : Int)] w fun e w' => e = .returned (.bool (s.data.toList.contains c)) ∧ w = w' := by
  generalize hR : s.data.toList.contains c = R
  have HR := Lib.hid hR
  clear hR
  go_enter Tryd.func100, Tryd.ntmps100
  go_wp2_with fail
  go_loop [5] (fun i => ∃ k : Nat, k ≤ s.size ∧ i = .int .i64 k ∧ Hid ((s.data.toList.take k).contains c = false)) (fun i => s.size - (intOf i).toNat)
  case atStart => exact ⟨0, by omega, rfl, Lib.hid (by simp)⟩
  case round =>
    obtain ⟨k, hk, rfl, Hno⟩ := hrel
    by_cases hlt : k < s.size
    · have hl : k < s.data.toList.length := by rw [← Lib.size_eq]; exact hlt
      have Hsucc := Lib.hid (show s.data.toList.take (k + 1) = s.data.toList.take k ++ [s[k]] from List.take_succ_eq_append_getElem hl)
      have Hmem := Lib.hid (show s[k] ∈ s.data.toList from List.getElem_mem hl)
      have hbe := byte_eq s[k] c
      cases hx : (s[k] == c) with
      | true =>
        rw [hx] at hbe
        have Hx := Lib.hid hx
        clear hx
        go_wp2_with fail
        go_ret
        have he := beq_iff_eq.1 Hx.out
        have hm := Hmem.out
        rw [he] at hm
        obtain rfl : R = true := HR.out.symm.trans (List.contains_iff_mem.2 hm)
        exact ⟨rfl, rfl⟩
      | false =>
        rw [hx] at hbe
        have Hx := Lib.hid hx
        clear hx
        go_wp2_with fail
        go_round
        case rel =>
          refine ⟨k + 1, by omega, by go_num, ?_⟩
          show (s.data.toList.take (k + 1)).contains c = false
          rw [Hsucc.out]
          have h1 := Hno.out
          have h2 := Hx.out
          simp at h1 h2 ⊢
          exact ⟨h1, fun e => h2 e.symm⟩
        case measure => simp [intOf]; omega
    · obtain rfl : k = s.size := by omega
      have Hall := Lib.hid (show s.data.toList.take s.size = s.data.toList from List.take_of_length_le (by rw [← Lib.size_eq]; omega))
      go_wp2_with fail
      go_ret
      have h1 := Hno.out
      rw [Hall.out] at h1
      obtain rfl : R = false := HR.out.symm.trans h1
      exact ⟨rfl, rfl⟩

theorem blank_has : ∀ c : UInt8, ([32, 9, 10] : List UInt8).contains c = isBlank c := by
  refine byte_all ?_
  decide +kernel
theorem two_has : ∀ c : UInt8, ([33, 60, 62] : List UInt8).contains c = isTwo c := by
  refine byte_all ?_
  decide +kernel

set_option maxHeartbeats 1000000 in
theorem gap_any (s : ByteArray) (hs : s.size ≤ 100000) (p : Nat) (hp : p ≤ s.size) (w : World) :
    Calls Tryd.prog 67 #[.string s, .int .i64 (p : Int)] w fun e w' => e = .returned (.int .i64 ((p + gp false (rest s p) : Nat) : Int)) ∧ w = w' := by
  generalize hG : p + gp false (rest s p) = G
  have HG := Lib.hid hG
  clear hG
  go_enter Tryd.func67, Tryd.ntmps67
  go_wp2_with fail
  go_loop [1] (fun i => ∃ q : Nat, q ≤ s.size ∧ i = .int .i64 q ∧ Hid (q + gp false (rest s q) = G)) (fun i => s.size - (intOf i).toNat)
  case atStart => exact ⟨p, hp, rfl, HG⟩
  case round =>
    obtain ⟨q, hq, rfl, Hq⟩ := hrel
    by_cases hlt : q < s.size
    · have Hc := Lib.hid (rest_cons s q hlt)
      have hh := has_any' ⟨#[32, 9, 10]⟩ (by decide) s[q] w
      rw [show (ByteArray.mk #[32, 9, 10]).data.toList.contains s[q] = isBlank s[q] from blank_has s[q]] at hh
      cases hx : isBlank s[q] with
      | true =>
        rw [hx] at hh
        have Hx := Lib.hid hx
        clear hx
        go_wp2_with fail
        refine hh.mono ?_
        rintro e w1 ⟨rfl, rfl⟩
        go_wp2_with fail
        go_round
        case rel =>
          refine ⟨q + 1, by omega, by go_num, ?_⟩
          have h1 := Hq.out
          rw [Hc.out] at h1
          simp only [gp, Hx.out, if_true] at h1
          show _ = _
          omega
        case measure => simp [intOf]; omega
      | false =>
        rw [hx] at hh
        have Hx := Lib.hid hx
        clear hx
        by_cases h35 : s[q].toNat = 35
        · have hI : ((s[q].toNat : Int) == 35) = true := by rw [h35]; rfl
          have H35 := Lib.hid h35
          have Hgh := Lib.hid (gp_hash (rest s q) s[q] (by rw [Hc.out]; rfl) h35)
          have Hne := Lib.hid (show 0 < tw (fun c => !decide (c.toNat = 10)) (rest s q) by rw [Hc.out, tw_cons]; simp [h35])
          have Htl := Lib.hid (tw_le (fun c => !decide (c.toNat = 10)) (rest s q))
          clear h35
          go_wp2_with fail
          refine hh.mono ?_
          rintro e w1 ⟨rfl, rfl⟩
          go_wp2_with fail
          go_loop [1] (fun i => ∃ k : Nat, k ≤ tw (fun c => !decide (c.toNat = 10)) (rest s q) ∧ i = .int .i64 ((q + k : Nat) : Int)) (fun i => s.size - (intOf i).toNat)
          case atStart => exact ⟨0, by omega, rfl⟩
          case round =>
            obtain ⟨k, hk, rfl⟩ := hrel
            have hkl : k ≤ s.size - q := by have := Htl.out; rw [rest_length] at this; omega
            have Hk := Lib.hid hk
            clear hk
            have HR := Lib.hid (rest_get s q k)
            have HL := Lib.hid (rest_length s q)
            by_cases hlt2 : q + k < s.size
            · have hl : k < (rest s q).length := by have := HL.out; omega
              have hR := HR.out hl hlt2
              have HE := Lib.hid (tw_eq_of (fun c => !decide (c.toNat = 10)) (rest s q) k Hk.out)
              have HG := Lib.hid (tw_ge_succ (fun c => !decide (c.toNat = 10)) (rest s q) k Hk.out hl)
              have HRR := Lib.hid hR
              clear hR
              by_cases h10 : s[q + k].toNat = 10
              · have hI2 : ((s[q + k].toNat : Int) != 10) = false := by rw [h10]; rfl
                have H10 := Lib.hid h10
                clear h10
                go_wp2_with fail
                go_round
                case rel =>
                  refine ⟨q + k, by omega, rfl, ?_⟩
                  have h1 := HE.out (fun h => by rw [HRR.out]; simp [H10.out])
                  have h2 := Hgh.out
                  have h3 := Hq.out
                  rw [h1, rest_drop] at h2
                  show _ = _
                  omega
                case measure =>
                  have h1 := HE.out (fun h => by rw [HRR.out]; simp [H10.out])
                  have h2 := Hne.out
                  simp [intOf]
                  omega
              · have hI2 : ((s[q + k].toNat : Int) != 10) = true := by simp; omega
                have H10 := Lib.hid h10
                clear h10
                go_wp2_with fail
                go_round
                case rel => exact ⟨k + 1, HG.out (by rw [HRR.out]; simp [H10.out]), by go_num⟩
                case measure => simp [intOf]; omega
            · have hd : decide (q + k < s.size) = false := by simp; omega
              have hqk : q + k = s.size := by omega
              have h1 := tw_eq_of (fun c => !decide (c.toNat = 10)) (rest s q) k Hk.out (fun h => by have := HL.out; omega)
              have H1 := Lib.hid h1
              have Hqk := Lib.hid hqk
              clear h1 hqk
              go_wp2_with fail
              go_round
              case rel =>
                refine ⟨q + k, by omega, rfl, ?_⟩
                have h2 := Hgh.out
                have h3 := Hq.out
                rw [H1.out, rest_drop] at h2
                show _ = _
                omega
              case measure =>
                have h2 := Hne.out
                have h3 := H1.out
                simp [intOf]
                omega
        · have hI : ((s[q].toNat : Int) == 35) = false := by simp; omega
          have H0 := Lib.hid (gp_none (rest s q) (fun c hc => by rw [Hc.out] at hc; cases hc; exact Hx.out) (fun c hc => by rw [Hc.out] at hc; cases hc; exact h35))
          clear h35
          go_wp2_with fail
          refine hh.mono ?_
          rintro e w1 ⟨rfl, rfl⟩
          go_wp2_with fail
          go_ret
          have h1 := Hq.out
          rw [H0.out, Nat.add_zero] at h1
          subst h1
          exact ⟨rfl, rfl⟩
    · obtain rfl : q = s.size := by omega
      have H0 := Lib.hid (show gp false (rest s s.size) = 0 by
        have := gp_le (rest s s.size) false
        rw [rest_length] at this
        omega)
      go_wp2_with fail
      go_ret
      have h1 := Hq.out
      rw [H0.out, Nat.add_zero] at h1
      subst h1
      exact ⟨rfl, rfl⟩

/-- whether a text consists of gaps -/
def gapsB (s : ByteArray) : Bool := decide (gp false s.data.toList = s.data.toList.length)
theorem gaps_any (s : ByteArray) (hs : s.size ≤ 100000) (w : World) :
    Calls Tryd.prog 32 #[.string s] w fun e w' => e = .returned (.bool (gapsB s)) ∧ w = w' := by
  have hg := gap_any s hs 0 (Nat.zero_le _) w
  rw [rest_zero, Nat.zero_add] at hg
  have key : gapsB s = (((gp false s.data.toList : Nat) : Int) == (s.size : Int)) := by
    unfold gapsB
    rw [← Lib.size_eq]
    by_cases h : gp false s.data.toList = s.size
    · rw [h]; simp
    · rw [decide_eq_false h]
      symm
      rw [beq_eq_false_iff_ne]
      omega
  rw [key]
  clear key
  generalize gp false s.data.toList = g at *
  have Hg := Lib.hid hg
  clear hg
  go_enter Tryd.func32, Tryd.ntmps32
  go_wp2_with fail
  refine Hg.out.mono ?_
  rintro e w1 ⟨rfl, rfl⟩
  go_wp2_with fail
  go_ret
  exact ⟨rfl, rfl⟩

end Go.Proofs.YtkgkejphifkpkaaDoor.Lx
