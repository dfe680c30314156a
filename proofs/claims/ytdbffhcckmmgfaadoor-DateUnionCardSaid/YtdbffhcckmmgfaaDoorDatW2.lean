/- Walks over package date: Make, Split, Weekday, Months. -/
import Derived.Test.YtdbffhcckmmgfaaDoorDatW1
namespace Go.Proofs.YtdbffhcckmmgfaaDoor.Dt
set_option linter.unusedVariables false
set_option linter.unusedSimpArgs false
open Go.RowKit

theorem first_bd {y : Int} (h0 : 1800 ≤ y) (h1 : y ≤ 2074) : 0 ≤ firstN y ∧ firstN y ≤ 100077 := by
  unfold firstN
  omega
theorem year_iff {n y m d : Int} (h : Date n y m d) (z : Int) : firstN (z + 1) ≤ n ↔ z + 1 ≤ y := by
  obtain ⟨h1, h2, h3, h4, h5, rfl⟩ := h
  obtain ⟨-, -, a, b⟩ := num_bd h2 h3 h4 h5
  constructor
  · intro hz
    refine Int.not_lt.1 fun hl => ?_
    have := first_mono (y := y) (z := z + 1) (by omega)
    omega
  · intro hz
    have := first_mono hz
    omega
theorem year_start {n y m d : Int} (h : Date n y m d) : 1800 + n / 366 ≤ y := by
  obtain ⟨h1, h2, h3, h4, h5, rfl⟩ := h
  obtain ⟨-, -, a, b⟩ := num_bd h2 h3 h4 h5
  generalize numB y m d = n at *
  unfold firstN at b
  omega

theorem yearOf_any {n y m d : Int} (h : Date n y m d) (hn : n ≤ 100000) (w : World) :
    Calls Tryd.prog 39 #[.int .i64 n] w fun e w' => e = .returned (.int .i64 y) ∧ w = w' := by
  have h0 := date_ge h
  have hy := date_year h hn
  have hs := year_start h
  have hi := Lib.hid (year_iff h)
  go_enter Tryd.func39, Tryd.ntmps39
  go_wp2_with fail
  go_loop [3] (fun v => ∃ z : Int, v = .int .i64 z ∧ 1800 ≤ z ∧ z ≤ y) (fun v => (2073 - intOf v).toNat)
  case atStart => exact ⟨_, rfl, by omega, hs⟩
  case round =>
    obtain ⟨z, rfl, hz1, hz2⟩ := hrel
    have hc := fun w => newYear_any (z + 1) (by omega) (by omega) w
    have hk := hi.out z
    generalize firstN (z + 1) = f at hc hk
    have HC := Lib.hid hc
    clear hc
    by_cases hlt : z + 1 ≤ y
    · have hf := hk.2 hlt
      clear hk
      go_wp2_with fail
      refine (HC.out _).mono ?_
      rintro r w' ⟨rfl, rfl⟩
      go_wp2_with fail
      go_round
      case rel => exact ⟨_, rfl, by omega, by omega⟩
      case measure => simp [intOf]; omega
    · have hf : n < f := Int.not_le.1 (fun k => hlt (hk.1 k))
      obtain rfl : z = y := by omega
      clear hk
      go_wp2_with fail
      refine (HC.out _).mono ?_
      rintro r w' ⟨rfl, rfl⟩
      go_wp2_with fail
      go_ret
      exact ⟨rfl, rfl⟩

theorem make_any (y m d : Int) (w : World) (hl : Lay w) :
    Calls Tryd.prog 13 #[.int .i64 y, .int .i64 m, .int .i64 d] w fun e w' => e = .returned (.tuple #[.int .i64 (mkV y m d).1, .int .i64 (mkV y m d).2]) ∧ w = w' := by
  by_cases hy : y < 1800
  · have e : mkV y m d = (0, 9) := by unfold mkV; rw [if_pos (.inl hy)]
    rw [e]
    clear e
    go_enter Tryd.func13, Tryd.ntmps13
    go_wp2_with fail
    go_ret2
    exact ⟨rfl, rfl⟩
  by_cases hy2 : 2073 < y
  · have e : mkV y m d = (0, 9) := by unfold mkV; rw [if_pos (.inr hy2)]
    rw [e]
    clear e
    have k1 : decide (y < 1800) = false := by simpa using hy
    go_enter Tryd.func13, Tryd.ntmps13
    go_wp2_with fail
    go_ret2
    exact ⟨rfl, rfl⟩
  have y1 : 1800 ≤ y := by omega
  have y2 : y ≤ 2073 := by omega
  clear hy hy2
  by_cases hm : m < 1
  · have e : mkV y m d = (0, 1) := by unfold mkV; rw [if_neg (by omega), if_pos (.inl hm)]
    rw [e]
    clear e
    go_enter Tryd.func13, Tryd.ntmps13
    go_wp2_with fail
    go_ret2
    exact ⟨rfl, rfl⟩
  by_cases hm2 : 12 < m
  · have e : mkV y m d = (0, 1) := by unfold mkV; rw [if_neg (by omega), if_pos (.inr (.inl hm2))]
    rw [e]
    clear e
    have k1 : decide (m < 1) = false := by simpa using hm
    go_enter Tryd.func13, Tryd.ntmps13
    go_wp2_with fail
    go_ret2
    exact ⟨rfl, rfl⟩
  have m1 : 1 ≤ m := by omega
  have m2 : m ≤ 12 := by omega
  clear hm hm2
  by_cases hd : d < 1
  · have e : mkV y m d = (0, 1) := by unfold mkV; rw [if_neg (by omega), if_pos (.inr (.inr (.inl hd)))]
    rw [e]
    clear e
    go_enter Tryd.func13, Tryd.ntmps13
    go_wp2_with fail
    go_ret2
    exact ⟨rfl, rfl⟩
  have d1 : 1 ≤ d := by omega
  clear hd
  have hlen := fun w hl => length_any y m (by omega) (by omega) m1 m2 w hl
  have hb := len_bd y m
  by_cases hd2 : lenM y m < d
  · have e : mkV y m d = (0, 1) := by unfold mkV; rw [if_neg (by omega), if_pos (.inr (.inr (.inr hd2)))]
    rw [e]
    clear e hb
    generalize lenM y m = L at *
    have HL := Lib.hid hlen
    clear hlen
    go_enter Tryd.func13, Tryd.ntmps13
    go_wp2_with fail
    refine (HL.out _ hl).mono ?_
    rintro r w' ⟨rfl, rfl⟩
    go_wp2_with fail
    go_ret2
    exact ⟨rfl, rfl⟩
  have hnb := num_bd (y := y) m1 m2 d1 (by omega)
  have hfb := first_bd (y := y) (by omega) (by omega)
  have HNB := Lib.hid hnb
  have d2 : d ≤ lenM y m := by omega
  have hd31 : d ≤ 31 := by omega
  have HMK := Lib.hid (show mkV y m d = if 100000 < numB y m d then (0, 9) else (numB y m d, 0) by unfold mkV; rw [if_neg (by omega), if_neg (by omega)])
  clear hnb hd2 hb
  generalize lenM y m = L at *
  have HL := Lib.hid hlen
  clear hlen
  generalize hMM : mkV y m d = M at *
  clear hMM
  obtain ⟨f1, f2⟩ := hfb
  go_enter Tryd.func13, Tryd.ntmps13
  go_wp2_with fail
  refine (HL.out _ hl).mono ?_
  rintro r w' ⟨rfl, rfl⟩
  go_wp2_with fail
  refine (newYear_any _ (by omega) (by omega) _).mono ?_
  rintro r w' ⟨rfl, rfl⟩
  go_wp2_with fail
  go_loop [8, 9] (fun n b => ∃ k : Int, b = .int .i64 k ∧ n = .int .i64 (firstN y + d - 1 + cum y k) ∧ 1 ≤ k ∧ k ≤ m) (fun _ b => (12 - intOf b).toNat)
  case atStart => exact ⟨1, rfl, by rw [cum_one, Int.add_zero], by omega, m1⟩
  case round =>
    obtain ⟨k, rfl, rfl, hk1, hk2⟩ := hrel
    have hcb := cum_bd y hk1 (by omega)
    obtain ⟨c1, c2⟩ := hcb
    by_cases hlt : k < m
    · have hcs := cum_succ y hk1 (by omega)
      have hlk := fun w hl => length_any y k (by omega) (by omega) hk1 (by omega) w hl
      have hlb := len_bd y k
      obtain ⟨l1, l2⟩ := hlb
      have HCS := Lib.hid hcs
      have HLK := Lib.hid hlk
      clear hcs hlk
      go_wp2_with fail
      refine (HLK.out _ hl).mono ?_
      rintro r w' ⟨rfl, rfl⟩
      go_wp2_with fail
      go_round
      case rel => exact ⟨k + 1, rfl, by rw [HCS.out]; congr 1; omega, by omega, by omega⟩
      case measure => simp [intOf]; omega
    · obtain rfl : k = m := by omega
      have hnn : firstN y + d - 1 + cum y k = numB y k d := by unfold numB; omega
      have hge := HNB.out
      have hM := HMK.out
      clear HNB HMK
      have HNN := Lib.hid hnn
      clear hnn
      by_cases hbig : 100000 < numB y k d
      · rw [if_pos hbig] at hM
        subst hM
        have hno := fun w => isDay_no (firstN y + d - 1 + cum y k) (by rw [HNN.out]; omega) w
        have HNO := Lib.hid hno
        clear hno hbig hge HNN
        go_wp2_with fail
        refine (HNO.out _).mono ?_
        rintro r w' ⟨rfl, rfl⟩
        go_wp2_with fail
        go_ret2
        exact ⟨rfl, rfl⟩
      · rw [if_neg hbig, ← HNN.out] at hM
        have hyes := fun w => isDay_yes (firstN y + d - 1 + cum y k) (by rw [HNN.out]; omega) (by rw [HNN.out]; omega) w
        have HYES := Lib.hid hyes
        clear hyes hbig hge HNN
        subst hM
        go_wp2_with fail
        refine (HYES.out _).mono ?_
        rintro r w' ⟨rfl, rfl⟩
        go_wp2_with fail
        go_ret2
        exact ⟨rfl, rfl⟩

theorem split_no (n : Int) (h : ¬ (0 ≤ n ∧ n ≤ 100000)) (w : World) :
    Calls Tryd.prog 15 #[.int .i64 n] w fun e w' => e = .returned (.tuple #[.int .i64 0, .int .i64 0, .int .i64 0, .int .i64 1]) ∧ w = w' := by
  have HN := Lib.hid (fun w => isDay_no n h w)
  clear h
  go_enter Tryd.func15, Tryd.ntmps15
  go_wp2_with fail
  refine (HN.out _).mono ?_
  rintro r w' ⟨rfl, rfl⟩
  go_wp2_with fail
  refine bodyPost_ret (v := .tuple #[.int .i64 0, .int .i64 0, .int .i64 0, .int .i64 1]) ?_ rfl ⟨rfl, rfl⟩
  simp [results, Tryd.results15, go_sem]

theorem rest_next {n y m d k : Int} (h : Date n y m d) (hk : 1 ≤ k) (hlt : k < m) : lenM y k ≤ n - firstN y - cum y k ∧ n - firstN y - cum y k ≤ 366 := by
  obtain ⟨h1, h2, h3, h4, h5, rfl⟩ := h
  obtain ⟨a, b, c, d⟩ := num_bd h2 h3 h4 h5
  have e := cum_succ y hk (show k ≤ 12 by omega)
  have f := cum_mono y (m := k) (k := m) hk (by omega) (by omega)
  have g := first_succ y
  have i := leapI_bd y
  have j := cum_bd y hk (by omega)
  omega

theorem split_any {n y m d : Int} (h : Date n y m d) (hn : n ≤ 100000) (w : World) (hl : Lay w) :
    Calls Tryd.prog 15 #[.int .i64 n] w fun e w' => e = .returned (.tuple #[.int .i64 y, .int .i64 m, .int .i64 d, .int .i64 0]) ∧ w = w' := by
  have h0 := date_ge h
  have hy := date_year h hn
  obtain ⟨h1, h2, h3, h4, h5, h6⟩ := id h
  have HN := Lib.hid (fun w => isDay_yes n h0 hn w)
  have HY := Lib.hid (fun w => yearOf_any h hn w)
  have hfb := first_bd (y := y) (by omega) (by omega)
  have HR := Lib.hid (fun k hk hlt => rest_next (k := k) h hk hlt)
  have H6 := Lib.hid h6
  have H5 := Lib.hid h5
  obtain ⟨f1, f2⟩ := hfb
  clear h6 h5 h
  go_enter Tryd.func15, Tryd.ntmps15
  go_wp2_with fail
  refine (HN.out _).mono ?_
  rintro r w' ⟨rfl, rfl⟩
  go_wp2_with fail
  refine (HY.out _).mono ?_
  rintro r w' ⟨rfl, rfl⟩
  go_wp2_with fail
  refine (newYear_any _ (by omega) (by omega) _).mono ?_
  rintro r w' ⟨rfl, rfl⟩
  go_wp2_with fail
  go_loop [7, 8] (fun b r => ∃ k : Int, b = .int .i64 k ∧ r = .int .i64 (n - firstN y - cum y k) ∧ 1 ≤ k ∧ k ≤ m) (fun b _ => (12 - intOf b).toNat)
  case atStart => exact ⟨1, rfl, by rw [cum_one, Int.sub_zero], by omega, h2⟩
  case round =>
    obtain ⟨k, rfl, rfl, hk1, hk2⟩ := hrel
    obtain ⟨c1, c2⟩ := cum_bd y hk1 (by omega)
    obtain ⟨l1, l2⟩ := len_bd y k
    have HLK := Lib.hid (fun w hl => length_any y k (by omega) (by omega) hk1 (by omega) w hl)
    by_cases hlt : k < m
    · obtain ⟨r1, r2⟩ := HR.out k hk1 hlt
      have HCS := Lib.hid (cum_succ y hk1 (by omega))
      go_wp2_with fail
      refine (HLK.out _ hl).mono ?_
      rintro r w' ⟨rfl, rfl⟩
      go_wp2_with fail
      refine (HLK.out _ hl).mono ?_
      rintro r w' ⟨rfl, rfl⟩
      go_wp2_with fail
      go_round
      case rel => exact ⟨k + 1, rfl, by rw [HCS.out]; congr 1; omega, by omega, by omega⟩
      case measure => simp [intOf]; omega
    · obtain rfl : k = m := by omega
      have e := H6.out
      have e5 := H5.out
      unfold numB at e
      have r1 : n - firstN y - cum y k < lenM y k := by omega
      have e2 : n - firstN y - cum y k + 1 = d := by omega
      have r0 : 0 ≤ n - firstN y - cum y k := by omega
      clear e e5 HR
      have E2 := Lib.hid e2
      clear e2
      go_wp2_with fail
      refine (HLK.out _ hl).mono ?_
      rintro r w' ⟨rfl, rfl⟩
      go_wp2_with fail
      refine bodyPost_ret (v := .tuple #[.int .i64 y, .int .i64 k, .int .i64 (n - firstN y - cum y k + 1), .int .i64 0]) ?_ rfl ⟨by rw [E2.out], rfl⟩
      simp [results, Tryd.results15, go_sem]

theorem weekday_no (n : Int) (h : ¬ (0 ≤ n ∧ n ≤ 100000)) (w : World) :
    Calls Tryd.prog 17 #[.int .i64 n] w fun e w' => e = .returned (.tuple #[.int .i64 0, .int .i64 1]) ∧ w = w' := by
  have HN := Lib.hid (fun w => isDay_no n h w)
  clear h
  go_enter Tryd.func17, Tryd.ntmps17
  go_wp2_with fail
  refine (HN.out _).mono ?_
  rintro r w' ⟨rfl, rfl⟩
  go_wp2_with fail
  go_ret2
  exact ⟨rfl, rfl⟩
theorem weekday_any (n : Int) (h0 : 0 ≤ n) (hn : n ≤ 100000) (w : World) :
    Calls Tryd.prog 17 #[.int .i64 n] w fun e w' => e = .returned (.tuple #[.int .i64 (wkV n), .int .i64 0]) ∧ w = w' := by
  unfold wkV
  go_enter Tryd.func17, Tryd.ntmps17
  go_wp2_with fail
  refine (isDay_yes n h0 hn _).mono ?_
  rintro r w' ⟨rfl, rfl⟩
  go_wp2_with fail
  go_ret2
  exact ⟨rfl, rfl⟩

theorem months_no (n k : Int) (h : ¬ (0 ≤ n ∧ n ≤ 100000)) (w : World) :
    Calls Tryd.prog 19 #[.int .i64 n, .int .i64 k] w fun e w' => e = .returned (.tuple #[.int .i64 0, .int .i64 1]) ∧ w = w' := by
  have HN := Lib.hid (fun w => split_no n h w)
  clear h
  go_enter Tryd.func19, Tryd.ntmps19
  go_wp2_with fail
  refine (HN.out _).mono ?_
  rintro r w' ⟨rfl, rfl⟩
  go_wp2_with fail
  go_ret2
  exact ⟨rfl, rfl⟩
theorem months_any {n y m d : Int} (h : Date n y m d) (hn : n ≤ 100000) (k : Int) (w : World) (hl : Lay w) :
    Calls Tryd.prog 19 #[.int .i64 n, .int .i64 k] w fun e w' => e = .returned (.tuple #[.int .i64 (moV y m d k).1, .int .i64 (moV y m d k).2]) ∧ w = w' := by
  have h0 := date_ge h
  have hy := date_year h hn
  obtain ⟨h1, h2, h3, h4, h5, h6⟩ := id h
  have HS := Lib.hid (fun w hl => split_any h hn w hl)
  have hlb := len_bd y m
  clear h h6
  by_cases hlow : 12 * y + m - 1 + k < 21600
  · have e : moV y m d k = (0, 9) := by unfold moV; rw [if_pos (.inl hlow)]
    rw [e]
    have hlow2 : k < -(12 * (y - 1800) + m - 1) := by omega
    clear e hlow
    go_enter Tryd.func19, Tryd.ntmps19
    go_wp2_with fail
    refine (HS.out _ hl).mono ?_
    rintro r w' ⟨rfl, rfl⟩
    go_wp2_with fail
    go_ret2
    exact ⟨rfl, rfl⟩
  by_cases hhigh : 24888 ≤ 12 * y + m - 1 + k
  · have e : moV y m d k = (0, 9) := by unfold moV; rw [if_pos (.inr hhigh)]
    rw [e]
    have hlow2 : -(12 * (y - 1800) + m - 1) ≤ k := by omega
    have hhigh2 : 3288 - (12 * (y - 1800) + m - 1) ≤ k := by omega
    clear e hhigh hlow
    go_enter Tryd.func19, Tryd.ntmps19
    go_wp2_with fail
    refine (HS.out _ hl).mono ?_
    rintro r w' ⟨rfl, rfl⟩
    go_wp2_with fail
    go_ret2
    exact ⟨rfl, rfl⟩
  have hlow2 : -(12 * (y - 1800) + m - 1) ≤ k := by omega
  have hhigh2 : k < 3288 - (12 * (y - 1800) + m - 1) := by omega
  have e : moV y m d k = mkV (1800 + (12 * (y - 1800) + m - 1 + k) / 12) ((12 * (y - 1800) + m - 1 + k) % 12 + 1) (min d (lenM (1800 + (12 * (y - 1800) + m - 1 + k) / 12) ((12 * (y - 1800) + m - 1 + k) % 12 + 1))) := by
    unfold moV
    rw [if_neg (by omega), show (12 * y + m - 1 + k) / 12 = 1800 + (12 * (y - 1800) + m - 1 + k) / 12 by omega, show (12 * y + m - 1 + k) % 12 = (12 * (y - 1800) + m - 1 + k) % 12 by omega]
  rw [e]
  clear e hlow hhigh
  go_enter Tryd.func19, Tryd.ntmps19
  go_wp2_with fail
  refine (HS.out _ hl).mono ?_
  rintro r w' ⟨rfl, rfl⟩
  go_wp2_with fail
  refine (length_any _ _ (by omega) (by omega) (by omega) (by omega) _ hl).mono ?_
  rintro r w' ⟨rfl, rfl⟩
  go_wp2_with fail
  refine (make_any _ _ _ _ hl).mono ?_
  rintro r w' ⟨rfl, rfl⟩
  go_wp2_with fail
  go_ret2
  exact ⟨rfl, rfl⟩
end Go.Proofs.YtdbffhcckmmgfaaDoor.Dt
