/- Walks of layer 4's laws: LexerWords, the law itself. -/
import Derived.Test.YtkgkejphifkpkaaDoorLexL6
namespace Go.Proofs.YtkgkejphifkpkaaDoor.Lx
set_option linter.unusedVariables false
set_option linter.unusedSimpArgs false
open Go.RowKit

def symA : ByteArray := { data := #[61, 59, 60, 62, 40, 41, 123, 125, 91, 93, 44, 46, 58, 43, 45] }
def symB (k : Nat) : UInt8 := [61, 59, 60, 62, 40, 41, 123, 125, 91, 93, 44, 46, 58, 43, 45].getD k 61
theorem sym_ext (k : Nat) (h : k < 15) : (ByteArray.mk #[61, 59, 60, 62, 40, 41, 123, 125, 91, 93, 44, 46, 58, 43, 45]).extract k (k + 1) = ⟨#[symB k]⟩ := by
  obtain rfl | rfl | rfl | rfl | rfl | rfl | rfl | rfl | rfl | rfl | rfl | rfl | rfl | rfl | rfl : k = 0 ∨ k = 1 ∨ k = 2 ∨ k = 3 ∨ k = 4 ∨ k = 5 ∨ k = 6 ∨ k = 7 ∨ k = 8 ∨ k = 9 ∨ k = 10 ∨ k = 11 ∨ k = 12 ∨ k = 13 ∨ k = 14 := by omega
  all_goals rfl
theorem sym_is (k : Nat) (h : k < 15) : isSym (symB k) = true := by
  revert h
  revert k
  decide

theorem name_true {s : ByteArray} (h : nameB s = true) : ∃ c a, s.data.toList = c :: a ∧ isLet c = true ∧ (∀ x ∈ a, isWord x = true) ∧ a.length + 1 ≤ 24 ∧ s.size = a.length + 1 := by
  unfold nameB at h
  simp only [Bool.and_eq_true, decide_eq_true_eq] at h
  obtain ⟨h1, ⟨h2, h3⟩, h4⟩ := h
  rw [Lib.size_eq] at h2 h3 ⊢
  cases hd : s.data.toList with
  | nil => rw [hd] at h2; simp at h2
  | cons c a =>
    rw [hd] at h1 h3 h4
    rw [List.all_cons, Bool.and_eq_true, List.all_eq_true] at h1
    exact ⟨c, a, rfl, h4, h1.2, by simpa using h3, by simp⟩

set_option maxRecDepth 100000 in
set_option maxHeartbeats 2000000 in
theorem words_walk (s t : ByteArray) (hs : s.size ≤ maxLen) (ht : t.size ≤ maxLen) (N K : Nat) (hN : N ≤ 18446744073709551615) (hK : K ≤ 255) (w : World) :
    Calls Tryd.prog 12 #[.string s, .int .u64 (N : Int), .int .u8 (K : Int), .string t] w fun e w' => e = .returned (.bool true) ∧ Below w.heap.size w w' := by
  have hname := name_ref s hs
  unfold maxLen at hs ht
  have Hname := Lib.hid hname
  clear hname
  go_enter Tryd.func12, Tryd.ntmps12
  go_wp2_with fail
  refine (head_any _).mono ?_
  rintro e w1 ⟨rfl, hb1⟩
  go_wp2_with fail
  refine (Hname.out _).mono ?_
  rintro e w2 ⟨rfl, rfl⟩
  cases hnb : nameB s with
  | false =>
    clear hnb Hname
    go_wp2_with fail
    go_ret
    exact ⟨rfl, hb1⟩
  | true =>
    have Hnb := Lib.hid hnb
    clear hnb
    by_cases hlong : 400 < t.size
    · have hI : (400 : Int) < (t.size : Int) := by omega
      go_wp2_with fail
      go_ret
      exact ⟨rfl, hb1⟩
    · have hI : ¬ (400 : Int) < (t.size : Int) := by omega
      have htz : t.size ≤ 400 := by omega
      clear hlong ht
      go_wp2_with fail
      go_loop [10] (fun i => ∃ k : Nat, k ≤ t.size ∧ i = .int .i64 k ∧ Hid (∀ x ∈ t.data.toList.take k, isIn x = true)) (fun i => t.size - (intOf i).toNat)
      case atStart => exact ⟨0, by omega, rfl, Lib.hid (fun x hx => by simp at hx)⟩
      case round =>
        obtain ⟨k, hk, rfl, Hin⟩ := hrel
        by_cases hlt : k < t.size
        · have hl : k < t.data.toList.length := by rw [← Lib.size_eq]; exact hlt
          have Hsucc := Lib.hid (show t.data.toList.take (k + 1) = t.data.toList.take k ++ [t[k]] from List.take_succ_eq_append_getElem hl)
          by_cases h34 : t[k].toNat = 34
          · have hI2 : ((t[k].toNat : Int) == 34) = true := by rw [h34]; rfl
            clear h34
            go_wp2_with fail
            go_ret
            exact ⟨rfl, hb1⟩
          · have hI2 : ((t[k].toNat : Int) == 34) = false := by rw [beq_eq_false_iff_ne]; omega
            by_cases h10 : t[k].toNat = 10
            · have hI3 : ((t[k].toNat : Int) == 10) = true := by rw [h10]; rfl
              clear h34 h10
              go_wp2_with fail
              go_ret
              exact ⟨rfl, hb1⟩
            · have hI3 : ((t[k].toNat : Int) == 10) = false := by rw [beq_eq_false_iff_ne]; omega
              have Hck := Lib.hid (show isIn t[k] = true by unfold isIn; simp [h34, h10])
              clear h34 h10
              go_wp2_with fail
              go_round
              case rel =>
                refine ⟨k + 1, by omega, by go_num, fun x hx => ?_⟩
                rw [Hsucc.out] at hx
                rcases List.mem_append.1 hx with hx | hx
                · exact Hin.out x hx
                · rw [List.mem_singleton] at hx
                  subst hx
                  exact Hck.out
              case measure => simp [intOf]; omega
        · obtain rfl : k = t.size := by omega
          have hin := Hin.out
          rw [List.take_of_length_le (by rw [← Lib.size_eq]; omega)] at hin
          have Hin2 := Lib.hid hin
          clear hin Hin
          obtain ⟨c, a, hsl, hc, ha, hal, hsz⟩ := name_true Hnb.out
          obtain ⟨n, hn⟩ : ∃ n, N % 10000000000000 = n := ⟨_, rfl⟩
          obtain ⟨k, hk'⟩ : ∃ k, K % 15 = k := ⟨_, rfl⟩
          have hnI : (N : Int) % 10000000000000 = (n : Int) := by omega
          have hkI : (K : Int) % 15 = (k : Int) := by omega
          have hn13 : n < 10 ^ 13 := by have := Nat.mod_lt N (show 0 < 10000000000000 by decide); omega
          have hk15 : k < 15 := by have := Nat.mod_lt K (show 0 < 15 by decide); omega
          have hdec := decimal_any 12 n (by decide) hn13 (by omega)
          have hsx := sym_ext k hk15
          obtain ⟨d, b, hdl⟩ : ∃ d b, decF 13 n = d :: b := by
            cases h : decF 13 n with
            | nil => exact absurd h (decF_ne 12 n)
            | cons d b => exact ⟨d, b, rfl⟩
          have hnum := decF_num 13 n
          have hlen := decF_len 13 n
          have hval := decF_val 12 n hn13
          rw [hdl] at hdec hnum hlen hval
          have hwl := words_law c d a b t.data.toList (symB k) hc ha hal (sym_is k hk15) (hnum d (List.mem_cons_self ..)) (fun x hx => hnum x (List.mem_cons_of_mem _ hx)) (by simpa using hlen) Hin2.out (by rw [← Lib.size_eq]; exact htz)
          rw [hval] at hwl
          have e1 : ByteArray.mk (c :: a).toArray = s := by
            apply ByteArray.ext
            apply Array.toList_inj.1
            rw [hsl]
          have hdz : (ByteArray.mk (d :: b).toArray).size = b.length + 1 := by rw [Lib.size_eq]; simp
          have hbl : b.length + 1 ≤ 13 := by simpa using hlen
          have HT := Lib.hid (show lexU (((((s ++ ByteArray.mk #[symB k]) ++ ByteArray.mk (d :: b).toArray) ++ ByteArray.mk #[34]) ++ t) ++ ByteArray.mk #[34]).data.toList 0 = .toks [⟨1, 0, 0, c :: a⟩, ⟨4, a.length + 1, 0, [symB k]⟩, ⟨2, a.length + 1 + 1, n, d :: b⟩, ⟨3, a.length + 1 + 1 + (b.length + 1), 0, t.data.toList⟩] by
            rw [← hwl]
            congr 1
            simp [hsl])
          have E1 := Lib.hid e1
          have hz1 : (ByteArray.mk #[symB k]).size = 1 := rfl
          clear hwl hval hnum hlen hdl e1 hsl hc ha hn hk' Hnb Hname
          rw [hsz.symm] at hal
          generalize hsyE : ByteArray.mk #[symB k] = sy at *
          have Esy := Lib.hid hsyE
          generalize hddE : ByteArray.mk (d :: b).toArray = dd at *
          have Edd := Lib.hid hddE
          clear hsyE hddE
          have z4 : (s ++ sy).size ≤ 25 := by rw [ByteArray.size_append]; omega
          generalize hy1 : s ++ sy = y1 at *
          have z5 : (y1 ++ dd).size ≤ 38 := by rw [ByteArray.size_append]; omega
          generalize hy2 : y1 ++ dd = y2 at *
          have z6 : (y2 ++ ByteArray.mk #[34]).size ≤ 39 := by rw [ByteArray.size_append, show (ByteArray.mk #[34]).size = 1 from rfl]; omega
          generalize hy3 : y2 ++ ByteArray.mk #[34] = y3 at *
          have z7 : (y3 ++ t).size ≤ 439 := by rw [ByteArray.size_append]; omega
          generalize hy4 : y3 ++ t = y4 at *
          have z8 : (y4 ++ ByteArray.mk #[34]).size ≤ 440 := by rw [ByteArray.size_append, show (ByteArray.mk #[34]).size = 1 from rfl]; omega
          generalize hy5 : y4 ++ ByteArray.mk #[34] = y5 at *
          have HL := Lib.hid (fun w => lex_u y5 (by omega) w _ HT.out)
          have Hdec := Lib.hid hdec
          have g0 : (0 : Int) ≤ (k : Int) := by omega
          have g1 : (k : Int) ≤ (k : Int) + 1 := by omega
          have g2 : (k : Int) + 1 ≤ 15 := by omega
          clear hdec
          go_wp2_with fail
          refine (Hdec.out _).mono ?_
          rintro e w2 ⟨rfl, rfl⟩
          go_wp2_with fail
          refine (HL.out _).mono ?_
          rintro e w3 ⟨v, rfl, hv, hb3⟩
          have hb03 := hb1.trans (hb3.mono hb1.size)
          obtain ⟨b', off, cap, rfl, hbw, hm, hcell⟩ := hv.open (by simp)
          have k0 := hcell 0 (by simp)
          have k1 := hcell 1 (by simp)
          have k2 := hcell 2 (by simp)
          have k3 := hcell 3 (by simp)
          obtain ⟨k00, k01, k02, k03⟩ := k0
          obtain ⟨k10, k11, k12, k13⟩ := k1
          obtain ⟨k20, k21, k22, k23⟩ := k2
          obtain ⟨k30, k31, k32, k33⟩ := k3
          simp only [List.getElem_cons_succ, List.getElem_cons_zero, Nat.reduceMul, Nat.add_assoc, Nat.reduceAdd, Nat.add_zero, List.length_cons, List.length_nil] at k00 k01 k02 k03 k10 k11 k12 k13 k20 k21 k22 k23 k30 k31 k32 k33
          have p11 : ((a.length + 1 : Nat) : Int) = (s.size : Int) := by omega
          have p21 : ((a.length + 2 : Nat) : Int) = (s.size : Int) + 1 := by omega
          have p31 : ((a.length + (2 + (b.length + 1)) : Nat) : Int) = (s.size : Int) + 1 + (dd.size : Int) := by omega
          rw [E1.out] at k03
          rw [p11] at k11
          rw [Esy.out] at k13
          rw [p21] at k21
          rw [Edd.out] at k23
          rw [p31] at k31
          replace k33 : w3.cell? ⟨b', off + 15, none⟩ = some (.string t) := k33
          have hs24 : (s.size : Int) ≤ 24 := by omega
          have hd13 : (dd.size : Int) ≤ 13 := by omega
          clear hcell hv p11 p21 p31 hy1 hy2 hy3 hy4 hy5 z4 z5 z6 z7 z8 hsz hdz hsx
          simp only [List.length_cons, List.length_nil, Nat.zero_add, Nat.reduceAdd]
          go_wp2_with fail
          go_ret
          exact ⟨rfl, hb03⟩

end Go.Proofs.YtkgkejphifkpkaaDoor.Lx
