/- Walks over layer 6's reference: value, Parse. -/
import Derived.Test.YtdbffhcckmmgfaaDoorDatR2
namespace Go.Proofs.YtdbffhcckmmgfaaDoor.Dt
set_option linter.unusedVariables false
set_option linter.unusedSimpArgs false
open Go.RowKit

theorem valL_snoc (l : List UInt8) (c : UInt8) : valL (l ++ [c]) = 10 * valL l + (c.toNat - 48) := by
  unfold valL
  rw [List.foldl_append]
  rfl
theorem valL_lt : ∀ (n : Nat) (l : List UInt8), l.length = n → l.all isD = true → valL l < 10 ^ n
  | 0, l, h, _ => by
    obtain rfl := List.eq_nil_of_length_eq_zero h
    decide
  | n + 1, l, h, ha => by
    rcases List.eq_nil_or_concat l with e | ⟨V, x, e⟩
    · rw [e] at h; simp at h
    · rw [List.concat_eq_append] at e
      subst e
      rw [List.all_append] at ha
      simp only [Bool.and_eq_true] at ha
      have ih := valL_lt n V (by simpa using h) ha.1
      have hx : isD x = true := by simpa using ha.2
      rw [isD_iff] at hx
      rw [valL_snoc, Nat.pow_succ]
      omega
theorem take_snoc (s : ByteArray) (k : Nat) (h : k < s.size) : s.data.toList.take (k + 1) = s.data.toList.take k ++ [s[k]] := by
  rw [List.take_succ_eq_append_getElem (by simpa using h)]; rfl

set_option maxRecDepth 100000 in
set_option maxHeartbeats 1000000 in
theorem rvalue_any (s : ByteArray) (hs : s.size ≤ 4) (w : World) :
    Calls Tryd.prog 46 #[.string s] w fun e w' => e = .returned (.int .i64 (valI s.data.toList)) ∧ w = w' := by
  generalize hV : valI s.data.toList = V
  have HV := Lib.hid hV
  clear hV
  go_enter Tryd.func46, Tryd.ntmps46
  go_wp2_with fail
  go_loop [3, 4] (fun n i => ∃ k m : Nat, i = .int .i64 (k : Int) ∧ n = .int .i64 (m : Int) ∧ k ≤ s.size ∧ m < 10000 ∧ (s.data.toList.take k).all isD = true ∧ valL (s.data.toList.take k) = m) (fun _ i => s.size - (intOf i).toNat)
  case atStart => exact ⟨0, 0, rfl, rfl, Nat.zero_le _, by omega, rfl, rfl⟩
  case round =>
    obtain ⟨k, m, rfl, rfl, hk, hm, ha, hv⟩ := hrel
    have HA := Lib.hid ha
    have HVL := Lib.hid hv
    have hmI : (m : Int) < 10000 := by omega
    clear ha hv hm
    by_cases hlt : k < s.size
    · by_cases hd : isD s[k] = true
      · have hall : (s.data.toList.take (k + 1)).all isD = true := by
          rw [take_snoc s k hlt, List.all_append, HA.out]
          simpa using hd
        have hval : valL (s.data.toList.take (k + 1)) = 10 * m + (s[k].toNat - 48) := by rw [take_snoc s k hlt, valL_snoc, HVL.out]
        have hlim : valL (s.data.toList.take (k + 1)) < 10 ^ (k + 1) := by
          refine valL_lt _ _ ?_ hall
          rw [List.length_take, ← Lib.size_eq]
          omega
        have hlim2 : 10 * m + (s[k].toNat - 48) < 10000 := by
          have : 10 ^ (k + 1) ≤ 10 ^ 4 := Nat.pow_le_pow_right (by decide) (by omega)
          omega
        have HALL := Lib.hid hall
        have HVAL := Lib.hid hval
        rw [isD_iff] at hd
        obtain ⟨d1, d2⟩ := hd
        have hlt2 := hlt
        clear hall hval hlim
        go_wp2_with fail
        go_round
        case rel => exact ⟨k + 1, 10 * m + (s[k].toNat - 48), by go_num, (by congr 1; omega), by omega, hlim2, HALL.out, HVAL.out⟩
        case measure => simp [intOf]; omega
      · have hno : ¬ (s.data.toList.all isD = true) := by
          intro h
          have hmem : s[k] ∈ s.data.toList := List.getElem_mem (l := s.data.toList) (n := k) (by rw [← Lib.size_eq]; exact hlt)
          exact hd (List.all_eq_true.1 h _ hmem)
        have hV := HV.out
        unfold valI at hV
        rw [if_neg hno] at hV
        subst hV
        clear hno HA HVL HV
        rw [isD_iff] at hd
        by_cases d1 : s[k].toNat < 48
        · clear hd
          go_wp2_with fail
          go_ret
          exact ⟨rfl, rfl⟩
        · have d2 : 57 < s[k].toNat := by omega
          have d3 : decide ((s[k].toNat : Int) < 48) = false := by simp; omega
          have d4 : decide (s[k].toNat < 48) = false := by simp; omega
          have d5 : 48 ≤ s[k].toNat := by omega
          clear hd d1
          go_wp2_with fail
          go_ret
          exact ⟨rfl, rfl⟩
    · obtain rfl : k = s.size := by omega
      have hV := HV.out
      have ha := HA.out
      have hv := HVL.out
      rw [List.take_of_length_le (by rw [← Lib.size_eq]; omega)] at ha hv
      unfold valI at hV
      rw [if_pos ha, hv] at hV
      subst hV
      clear ha hv HA HVL HV
      go_wp2_with fail
      go_ret
      exact ⟨rfl, rfl⟩

theorem valI_four (s : ByteArray) : valI (s.extract 0 4).data.toList = valI (s.data.toList.take 4) := by rw [ext_list, List.drop_zero]
set_option maxRecDepth 100000 in
set_option maxHeartbeats 2000000 in
theorem rparse_ten (s : ByteArray) (hs : s.size = 10) (w : World) :
    Calls Tryd.prog 24 #[.string s] w fun e w' => e = .returned (.tuple #[.int .i64 (parD s.data.toList).1, .int .i64 (parD s.data.toList).2]) ∧ w = w' := by
  have hlen : s.data.toList.length = 10 := by rw [← Lib.size_eq]; exact hs
  have hp := par_ref hlen
  have q1 : (s.extract 0 4).data.toList = s.data.toList.take 4 := by rw [ext_list, List.drop_zero]
  have q2 : (s.extract 5 7).data.toList = (s.data.toList.drop 5).take 2 := by rw [ext_list, List.drop_take]
  have q3 : (s.extract 8 10).data.toList = s.data.toList.drop 8 := by rw [ext_list, List.take_of_length_le (by omega)]
  have g4 : s.data.toList[4]? = some (s[4]'(by omega)) := by rw [List.getElem?_eq_getElem (by omega)]; rfl
  have g7 : s.data.toList[7]? = some (s[7]'(by omega)) := by rw [List.getElem?_eq_getElem (by omega)]; rfl
  rw [g4, g7, ← q1, ← q2, ← q3] at hp
  simp only [Option.some.injEq] at hp
  have N1 := Lib.hid (fun w => rvalue_any (s.extract 0 4) (by simp; omega) w)
  have N2 := Lib.hid (fun w => rvalue_any (s.extract 5 7) (by simp; omega) w)
  have N3 := Lib.hid (fun w => rvalue_any (s.extract 8 10) (by simp; omega) w)
  clear q1 q2 q3 hlen g4 g7
  generalize valI (s.extract 0 4).data.toList = a at *
  generalize valI (s.extract 5 7).data.toList = b at *
  generalize valI (s.extract 8 10).data.toList = c at *
  have hM := fun w => rmake_any a b c w
  generalize mkV a b c = M at *
  obtain ⟨n, er⟩ := M
  simp only at hM hp
  generalize parD s.data.toList = R at *
  have HM := Lib.hid hM
  have HR := Lib.hid hp
  clear hM hp
  have hs4 : 4 < s.size := by omega
  have hs7 : 7 < s.size := by omega
  by_cases h4 : s[4] = 45
  · have e4 : s[4].toNat = 45 := by rw [h4]; rfl
    by_cases h7 : s[7] = 45
    · have e7 : s[7].toNat = 45 := by rw [h7]; rfl
      by_cases ha : a < 0
      · have hR := HR.out
        rw [if_neg (by omega)] at hR
        subst hR
        clear HR h4 h7
        go_enter Tryd.func24, Tryd.ntmps24
        go_wp2_with fail
        refine (N1.out _).mono ?_
        rintro r w' ⟨rfl, rfl⟩
        go_wp2_with fail
        refine (N2.out _).mono ?_
        rintro r w' ⟨rfl, rfl⟩
        go_wp2_with fail
        refine (N3.out _).mono ?_
        rintro r w' ⟨rfl, rfl⟩
        go_wp2_with fail
        go_ret2
        exact ⟨rfl, rfl⟩
      · have ha0 : 0 ≤ a := by omega
        have ha1 : decide (a < 0) = false := by simpa using ha
        by_cases hb : b < 0
        · have hR := HR.out
          rw [if_neg (by omega)] at hR
          subst hR
          clear HR h4 h7 ha
          go_enter Tryd.func24, Tryd.ntmps24
          go_wp2_with fail
          refine (N1.out _).mono ?_
          rintro r w' ⟨rfl, rfl⟩
          go_wp2_with fail
          refine (N2.out _).mono ?_
          rintro r w' ⟨rfl, rfl⟩
          go_wp2_with fail
          refine (N3.out _).mono ?_
          rintro r w' ⟨rfl, rfl⟩
          go_wp2_with fail
          go_ret2
          exact ⟨rfl, rfl⟩
        · have hb0 : 0 ≤ b := by omega
          have hb1 : decide (b < 0) = false := by simpa using hb
          by_cases hc : c < 0
          · have hR := HR.out
            rw [if_neg (by omega)] at hR
            subst hR
            clear HR h4 h7 ha hb
            go_enter Tryd.func24, Tryd.ntmps24
            go_wp2_with fail
            refine (N1.out _).mono ?_
            rintro r w' ⟨rfl, rfl⟩
            go_wp2_with fail
            refine (N2.out _).mono ?_
            rintro r w' ⟨rfl, rfl⟩
            go_wp2_with fail
            refine (N3.out _).mono ?_
            rintro r w' ⟨rfl, rfl⟩
            go_wp2_with fail
            go_ret2
            exact ⟨rfl, rfl⟩
          · have hc0 : 0 ≤ c := by omega
            have hc1 : decide (c < 0) = false := by simpa using hc
            by_cases he : er = 0
            · have hR := HR.out
              rw [if_pos ⟨⟨h4, h7⟩, ⟨ha0, hb0, hc0⟩, he⟩] at hR
              subst hR
              subst he
              clear HR h4 h7 ha hb hc
              go_enter Tryd.func24, Tryd.ntmps24
              go_wp2_with fail
              refine (N1.out _).mono ?_
              rintro r w' ⟨rfl, rfl⟩
              go_wp2_with fail
              refine (N2.out _).mono ?_
              rintro r w' ⟨rfl, rfl⟩
              go_wp2_with fail
              refine (N3.out _).mono ?_
              rintro r w' ⟨rfl, rfl⟩
              go_wp2_with fail
              refine (HM.out _).mono ?_
              rintro r w' ⟨rfl, rfl⟩
              go_wp2_with fail
              go_ret2
              exact ⟨rfl, rfl⟩
            · have hR := HR.out
              rw [if_neg (fun k => he k.2.2)] at hR
              subst hR
              have hef : (er == 0) = false := by simpa using he
              have hef2 : (er != 0) = true := by simpa using he
              clear HR h4 h7 ha hb hc he
              go_enter Tryd.func24, Tryd.ntmps24
              go_wp2_with fail
              refine (N1.out _).mono ?_
              rintro r w' ⟨rfl, rfl⟩
              go_wp2_with fail
              refine (N2.out _).mono ?_
              rintro r w' ⟨rfl, rfl⟩
              go_wp2_with fail
              refine (N3.out _).mono ?_
              rintro r w' ⟨rfl, rfl⟩
              go_wp2_with fail
              refine (HM.out _).mono ?_
              rintro r w' ⟨rfl, rfl⟩
              go_wp2_with fail
              go_ret2
              exact ⟨rfl, rfl⟩
    · have hR := HR.out
      rw [if_neg (fun k => h7 k.1.2)] at hR
      subst hR
      have e7 : s[7].toNat ≠ 45 := fun k => h7 (UInt8.toNat_inj.1 k)
      have e7b : ((s[7].toNat : Int) == 45) = false := by simp; omega
      have e7c : ((s[7].toNat : Int) != 45) = true := by simp; omega
      clear HR h4 h7
      go_enter Tryd.func24, Tryd.ntmps24
      go_wp2_with fail
      go_ret2
      exact ⟨rfl, rfl⟩
  · have hR := HR.out
    rw [if_neg (fun k => h4 k.1.1)] at hR
    subst hR
    have e4 : s[4].toNat ≠ 45 := fun k => h4 (UInt8.toNat_inj.1 k)
    have e4b : ((s[4].toNat : Int) == 45) = false := by simp; omega
    have e4c : ((s[4].toNat : Int) != 45) = true := by simp; omega
    clear HR h4
    go_enter Tryd.func24, Tryd.ntmps24
    go_wp2_with fail
    go_ret2
    exact ⟨rfl, rfl⟩
theorem rparse_any (s : ByteArray) (hs : s.size ≤ 1000000) (w : World) :
    Calls Tryd.prog 24 #[.string s] w fun e w' => e = .returned (.tuple #[.int .i64 (parD s.data.toList).1, .int .i64 (parD s.data.toList).2]) ∧ w = w' := by
  by_cases h : s.size = 10
  · exact rparse_ten s h w
  · have hl : s.data.toList.length ≠ 10 := by rw [← Lib.size_eq]; exact h
    rw [par_len hl]
    have k1 : ((s.size : Int) == 10) = false := by simp; omega
    have k2 : ((s.size : Int) != 10) = true := by simp; omega
    clear hl h
    go_enter Tryd.func24, Tryd.ntmps24
    go_wp2_with fail
    go_ret2
    exact ⟨rfl, rfl⟩
end Go.Proofs.YtdbffhcckmmgfaaDoor.Dt
