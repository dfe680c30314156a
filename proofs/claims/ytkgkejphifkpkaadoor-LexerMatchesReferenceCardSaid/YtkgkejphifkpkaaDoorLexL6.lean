/- Walks of layer 4's laws: LexerWords. -/
import Derived.Test.YtkgkejphifkpkaaDoorLexL5
import Derived.Test.YtkgkejphifkpkaaDoorLexMath4
namespace Go.Proofs.YtkgkejphifkpkaaDoor.Lx
set_option linter.unusedVariables false
set_option linter.unusedSimpArgs false
open Go.RowKit

/-- whether a text is a name -/
def nameB (s : ByteArray) : Bool := s.data.toList.all isWord && (decide (0 < s.size) && decide (s.size ≤ 24) && (match s.data.toList.head? with | some c => isLet c | none => false))

set_option maxHeartbeats 1000000 in
theorem name_ref (s : ByteArray) (hs : s.size ≤ maxLen) (w : World) :
    Calls Tryd.prog 35 #[.string s] w fun e w' => e = .returned (.bool (nameB s)) ∧ w = w' := by
  unfold maxLen at hs
  generalize hN : nameB s = N
  have HN := Lib.hid hN
  clear hN
  go_enter Tryd.func35, Tryd.ntmps35
  go_wp2_with fail
  go_loop [3] (fun i => ∃ k : Nat, k ≤ s.size ∧ i = .int .i64 k ∧ Hid ((s.data.toList.take k).all isWord = true)) (fun i => s.size - (intOf i).toNat)
  case atStart => exact ⟨0, by omega, rfl, Lib.hid (by simp)⟩
  case round =>
    obtain ⟨k, hk, rfl, Hall⟩ := hrel
    by_cases hlt : k < s.size
    · have hl : k < s.data.toList.length := by rw [← Lib.size_eq]; exact hlt
      have Hsucc := Lib.hid (show s.data.toList.take (k + 1) = s.data.toList.take k ++ [s[k]] from List.take_succ_eq_append_getElem hl)
      have Hmem := Lib.hid (show s[k] ∈ s.data.toList from List.getElem_mem hl)
      have hw := word_any s[k] w
      cases hx : isWord s[k] with
      | true =>
        rw [hx] at hw
        have Hw := Lib.hid hw
        have Hx := Lib.hid hx
        clear hx hw
        go_wp2_with fail
        refine Hw.out.mono ?_
        rintro e w1 ⟨rfl, rfl⟩
        go_wp2_with fail
        go_round
        case rel =>
          refine ⟨k + 1, by omega, by go_num, ?_⟩
          show (s.data.toList.take (k + 1)).all isWord = true
          rw [Hsucc.out, List.all_append, Hall.out]
          simp [Hx.out]
        case measure => simp [intOf]; omega
      | false =>
        rw [hx] at hw
        have Hw := Lib.hid hw
        have Hx := Lib.hid hx
        clear hx hw
        go_wp2_with fail
        refine Hw.out.mono ?_
        rintro e w1 ⟨rfl, rfl⟩
        go_wp2_with fail
        go_ret
        have h1 : s.data.toList.all isWord = false := by
          rw [List.all_eq_false]
          exact ⟨s[k], Hmem.out, by simp [Hx.out]⟩
        obtain rfl : N = false := HN.out.symm.trans (by unfold nameB; rw [h1]; rfl)
        exact ⟨rfl, rfl⟩
    · obtain rfl : k = s.size := by omega
      have hall := Hall.out
      rw [List.take_of_length_le (by rw [← Lib.size_eq]; omega)] at hall
      have Hall2 := Lib.hid hall
      clear hall
      by_cases h0 : 0 < s.size
      · by_cases h24 : s.size ≤ 24
        · have hlen : 0 < s.data.toList.length := by rw [← Lib.size_eq]; exact h0
          have hhead : s.data.toList.head? = some s[0] := by rw [List.head?_eq_getElem?, List.getElem?_eq_getElem hlen]; rfl
          have HH := Lib.hid hhead
          have HL := Lib.hid (letter_any s[0] w)
          have h0I : (0 : Int) < (s.size : Int) := by omega
          have h24I : (s.size : Int) ≤ 24 := by omega
          clear hhead
          go_wp2_with fail
          refine HL.out.mono ?_
          rintro e w1 ⟨rfl, rfl⟩
          go_wp2_with fail
          go_ret
          obtain rfl : N = isLet s[0] := HN.out.symm.trans (by unfold nameB; rw [Hall2.out, HH.out, decide_eq_true h0, decide_eq_true h24]; rfl)
          exact ⟨rfl, rfl⟩
        · have h0I : (0 : Int) < (s.size : Int) := by omega
          have h24I : ¬ (s.size : Int) ≤ 24 := by omega
          have h24d : decide (s.size ≤ 24) = false := decide_eq_false h24
          go_wp2_with fail
          go_ret
          obtain rfl : N = false := HN.out.symm.trans (by unfold nameB; rw [decide_eq_false h24]; simp)
          exact ⟨rfl, rfl⟩
      · have h0d : decide (0 < s.size) = false := decide_eq_false h0
        have h0I : ¬ (0 : Int) < (s.size : Int) := by omega
        go_wp2_with fail
        go_ret
        obtain rfl : N = false := HN.out.symm.trans (by unfold nameB; rw [decide_eq_false h0]; simp)
        exact ⟨rfl, rfl⟩

theorem digit_ext (n : Nat) (h : n < 10) : (ByteArray.mk #[48, 49, 50, 51, 52, 53, 54, 55, 56, 57]).extract n (n + 1) = ⟨#[UInt8.ofNat (48 + n)]⟩ := by
  obtain rfl | rfl | rfl | rfl | rfl | rfl | rfl | rfl | rfl | rfl : n = 0 ∨ n = 1 ∨ n = 2 ∨ n = 3 ∨ n = 4 ∨ n = 5 ∨ n = 6 ∨ n = 7 ∨ n = 8 ∨ n = 9 := by omega
  all_goals rfl

set_option maxRecDepth 100000 in
set_option maxHeartbeats 1000000 in
theorem decimal_one (n : Nat) (h : n < 10) (w : World) : Calls Tryd.prog 36 #[.int .i64 (n : Int)] w fun e w' => e = .returned (.string ⟨#[UInt8.ofNat (48 + n)]⟩) ∧ w = w' := by
  have hx := digit_ext n h
  have hI : (n : Int) < 10 := by omega
  have g0 : (0 : Int) ≤ (n : Int) := by omega
  have g1 : (n : Int) ≤ (n : Int) + 1 := by omega
  have g2 : (n : Int) + 1 ≤ 10 := by omega
  generalize ByteArray.mk #[UInt8.ofNat (48 + n)] = Y at *
  go_enter Tryd.func36, Tryd.ntmps36
  go_wp2_with fail
  go_ret
  exact ⟨rfl, rfl⟩
set_option maxRecDepth 100000 in
set_option maxHeartbeats 1000000 in
theorem decimal_any : ∀ (k n : Nat), k ≤ 20 → n < 10 ^ (k + 1) → n ≤ 10000000000000 → ∀ (w : World), Calls Tryd.prog 36 #[.int .i64 (n : Int)] w fun e w' => e = .returned (.string ⟨(decF (k + 1) n).toArray⟩) ∧ w = w' := by
  intro k
  induction k with
  | zero =>
    intro n hk hn hb w
    rw [Nat.zero_add, Nat.pow_one] at hn
    rw [show decF (0 + 1) n = [UInt8.ofNat (48 + n)] by simp [decF, hn]]
    exact decimal_one n hn w
  | succ k ih =>
    intro n hk hn hb w
    by_cases h : n < 10
    · rw [show decF (k + 1 + 1) n = [UInt8.ofNat (48 + n)] by rw [decF, if_pos h]]
      exact decimal_one n h w
    · have hd : decF (k + 1 + 1) n = decF (k + 1) (n / 10) ++ [UInt8.ofNat (48 + n % 10)] := by rw [decF, if_neg h]
      have h1 := ih (n / 10) (by omega) (by rw [Nat.pow_succ] at hn; exact Nat.div_lt_of_lt_mul (by omega)) (by omega) w
      have h2 := decimal_one (n % 10) (Nat.mod_lt _ (by decide)) w
      have hbytes : ByteArray.mk (decF (k + 1) (n / 10)).toArray ++ ByteArray.mk #[UInt8.ofNat (48 + n % 10)] = ⟨(decF (k + 1 + 1) n).toArray⟩ := by
        apply ByteArray.ext
        apply Array.toList_inj.1
        rw [hd]
        simp
      have hs1 : (ByteArray.mk (decF (k + 1) (n / 10)).toArray).size ≤ 22 := by rw [Lib.size_eq]; have := decF_len (k + 1) (n / 10); simp only [List.toList_toArray]; omega
      have hs2 : (ByteArray.mk #[UInt8.ofNat (48 + n % 10)]).size = 1 := rfl
      generalize ByteArray.mk (decF (k + 1) (n / 10)).toArray = x1 at *
      generalize ByteArray.mk #[UInt8.ofNat (48 + n % 10)] = x2 at *
      have H1 := Lib.hid h1
      have H2 := Lib.hid h2
      have Hb := Lib.hid hbytes
      have hI : ¬ (n : Int) < 10 := by omega
      clear h1 h2 hbytes hd ih
      go_enter Tryd.func36, Tryd.ntmps36
      go_wp2_with fail
      refine H1.out.mono ?_
      rintro e w1 ⟨rfl, rfl⟩
      go_wp2_with fail
      refine H2.out.mono ?_
      rintro e w1 ⟨rfl, rfl⟩
      go_wp2_with fail
      go_ret
      rw [← Hb.out]
      exact ⟨rfl, rfl⟩

end Go.Proofs.YtkgkejphifkpkaaDoor.Lx
