/- Walks over layer 6's reference: days. -/
import Derived.Test.YtdbffhcckmmgfaaDoorDatW2
namespace Go.Proofs.YtdbffhcckmmgfaaDoor.Dt
set_option linter.unusedVariables false
set_option linter.unusedSimpArgs false
open Go.RowKit

theorem rIs_yes (n : Int) (h1 : 0 ≤ n) (h2 : n ≤ 100000) (w : World) :
    Calls Tryd.prog 40 #[.int .i64 n] w fun e w' => e = .returned (.bool true) ∧ w = w' := by
  go_enter Tryd.func40, Tryd.ntmps40
  go_wp2_with fail
  go_ret
  exact ⟨rfl, rfl⟩
theorem rIs_no (n : Int) (h : ¬ (0 ≤ n ∧ n ≤ 100000)) (w : World) :
    Calls Tryd.prog 40 #[.int .i64 n] w fun e w' => e = .returned (.bool false) ∧ w = w' := by
  by_cases h1 : n < 0
  · have h2 : decide (0 ≤ n) = false := by simp; omega
    go_enter Tryd.func40, Tryd.ntmps40
    go_wp2_with fail
    go_ret
    exact ⟨rfl, rfl⟩
  · have h2 : 100000 < n := by omega
    have h3 : decide (0 ≤ n) = true := by simp; omega
    have h4 : decide (n ≤ 100000) = false := by simp; omega
    go_enter Tryd.func40, Tryd.ntmps40
    go_wp2_with fail
    go_ret
    exact ⟨rfl, rfl⟩

theorem rleap_any (y : Int) (h0 : 0 ≤ y) (h1 : y ≤ 100000) (w : World) :
    Calls Tryd.prog 55 #[.int .i64 y] w fun e w' => e = .returned (.bool (leapB y)) ∧ w = w' := by
  have hl := leapB_iff y
  generalize leapB y = B at *
  by_cases h4 : y % 4 = 0
  · have k4 : (y % 4 == 0) = true := by simpa using h4
    by_cases hh : y % 100 = 0
    · have kh : (y % 100 == 0) = true := by simpa using hh
      have kh2 : (y % 100 != 0) = false := by simpa using hh
      by_cases hf : y % 400 = 0
      · have kf : (y % 400 == 0) = true := by simpa using hf
        obtain rfl : B = true := hl.2 (.inr hf)
        clear hl h4 hh hf
        go_enter Tryd.func55, Tryd.ntmps55
        go_wp2_with fail
        go_ret
        exact ⟨rfl, rfl⟩
      · have kf : (y % 400 == 0) = false := by simpa using hf
        obtain rfl : B = false := by rw [Bool.eq_false_iff]; exact fun k => by have := hl.1 k; omega
        clear hl h4 hh hf
        go_enter Tryd.func55, Tryd.ntmps55
        go_wp2_with fail
        go_ret
        exact ⟨rfl, rfl⟩
    · have kh : (y % 100 == 0) = false := by simpa using hh
      have kh2 : (y % 100 != 0) = true := by simpa using hh
      obtain rfl : B = true := hl.2 (.inl ⟨h4, hh⟩)
      clear hl h4 hh
      go_enter Tryd.func55, Tryd.ntmps55
      go_wp2_with fail
      go_ret
      exact ⟨rfl, rfl⟩
  · have k4 : (y % 4 == 0) = false := by simpa using h4
    have kf : (y % 400 == 0) = false := by simp; omega
    obtain rfl : B = false := by rw [Bool.eq_false_iff]; exact fun k => by have := hl.1 k; omega
    clear hl h4
    go_enter Tryd.func55, Tryd.ntmps55
    go_wp2_with fail
    go_ret
    exact ⟨rfl, rfl⟩

theorem rlength_any (y m : Int) (h0 : 1 ≤ y) (h1 : y ≤ 10000) (hm : 1 ≤ m) (hm2 : m ≤ 12) (w : World) :
    Calls Tryd.prog 34 #[.int .i64 y, .int .i64 m] w fun e w' => e = .returned (.int .i64 (lenM y m)) ∧ w = w' := by
  have hl2 : lenM y 2 = if leapB y = true then 29 else 28 := by unfold lenM leapI; rw [if_pos rfl]; split <;> rfl
  have hcall := fun w => rleap_any y (by omega) (by omega) w
  have hx : m = 2 ∨ ((m = 1 ∨ m = 3 ∨ m = 4 ∨ m = 5 ∨ m = 6 ∨ m = 7 ∨ m = 8 ∨ m = 9 ∨ m = 10 ∨ m = 11 ∨ m = 12)) := by omega
  rcases hx with rfl | hx
  · rw [hl2]
    cases hb : leapB y with
    | true =>
      rw [hb] at hcall
      rw [if_pos rfl]
      have HC := Lib.hid hcall
      clear hcall hb hl2
      go_enter Tryd.func34, Tryd.ntmps34
      go_wp2_with fail
      refine (HC.out _).mono ?_
      rintro r w' ⟨rfl, rfl⟩
      go_wp2_with fail
      go_ret
      exact ⟨rfl, rfl⟩
    | false =>
      rw [hb] at hcall
      rw [if_neg (by decide)]
      have HC := Lib.hid hcall
      clear hcall hb hl2
      go_enter Tryd.func34, Tryd.ntmps34
      go_wp2_with fail
      refine (HC.out _).mono ?_
      rintro r w' ⟨rfl, rfl⟩
      go_wp2_with fail
      go_ret
      exact ⟨rfl, rfl⟩
  · clear hl2 hcall
    rcases hx with rfl | rfl | rfl | rfl | rfl | rfl | rfl | rfl | rfl | rfl | rfl
    all_goals
      go_enter Tryd.func34, Tryd.ntmps34
      go_wp2_with fail
      go_ret
      exact ⟨rfl, rfl⟩

theorem rfirst_any (y : Int) (h0 : 1800 ≤ y) (h1 : y ≤ 3000) (w : World) :
    Calls Tryd.prog 38 #[.int .i64 y] w fun e w' => e = .returned (.int .i64 (firstN y)) ∧ w = w' := by
  go_enter Tryd.func38, Tryd.ntmps38
  go_wp2_with fail
  go_loop [3, 4] (fun n v => ∃ z : Int, v = .int .i64 z ∧ n = .int .i64 (firstN z) ∧ 1800 ≤ z ∧ z ≤ y) (fun _ v => (3000 - intOf v).toNat)
  case atStart => exact ⟨1800, rfl, by rw [show firstN 1800 = 0 by decide], by omega, h0⟩
  case round =>
    obtain ⟨z, rfl, rfl, hz1, hz2⟩ := hrel
    by_cases hlt : z < y
    · have hb : 0 ≤ firstN z ∧ firstN z ≤ 1000000 := by unfold firstN; omega
      obtain ⟨b1, b2⟩ := hb
      have hcall := fun w => rleap_any z (by omega) (by omega) w
      have hs := first_succ z
      unfold leapI at hs
      cases hl : leapB z with
      | true =>
        rw [hl] at hcall
        rw [hl, if_pos rfl] at hs
        have HC := Lib.hid hcall
        have HS := Lib.hid hs
        clear hcall hs hl
        go_wp2_with fail
        refine (HC.out _).mono ?_
        rintro r w' ⟨rfl, rfl⟩
        go_wp2_with fail
        go_round
        case rel => exact ⟨_, rfl, by rw [HS.out], by omega, by omega⟩
        case measure => simp [intOf]; omega
      | false =>
        rw [hl] at hcall
        rw [hl, if_neg (by decide)] at hs
        have HC := Lib.hid hcall
        have HS := Lib.hid hs
        clear hcall hs hl
        go_wp2_with fail
        refine (HC.out _).mono ?_
        rintro r w' ⟨rfl, rfl⟩
        go_wp2_with fail
        go_round
        case rel => exact ⟨_, rfl, by rw [HS.out, Int.add_zero], by omega, by omega⟩
        case measure => simp [intOf]; omega
    · obtain rfl : z = y := by omega
      go_wp2_with fail
      go_ret
      exact ⟨rfl, rfl⟩

theorem rmake_any (y m d : Int) (w : World) :
    Calls Tryd.prog 14 #[.int .i64 y, .int .i64 m, .int .i64 d] w fun e w' => e = .returned (.tuple #[.int .i64 (mkV y m d).1, .int .i64 (mkV y m d).2]) ∧ w = w' := by
  by_cases hy : y < 1800
  · have e : mkV y m d = (0, 9) := by unfold mkV; rw [if_pos (.inl hy)]
    rw [e]
    clear e
    go_enter Tryd.func14, Tryd.ntmps14
    go_wp2_with fail
    go_ret2
    exact ⟨rfl, rfl⟩
  by_cases hy2 : 2073 < y
  · have e : mkV y m d = (0, 9) := by unfold mkV; rw [if_pos (.inr hy2)]
    rw [e]
    clear e
    have k1 : decide (y < 1800) = false := by simpa using hy
    go_enter Tryd.func14, Tryd.ntmps14
    go_wp2_with fail
    go_ret2
    exact ⟨rfl, rfl⟩
  have y1 : 1800 ≤ y := by omega
  have y2 : y ≤ 2073 := by omega
  clear hy hy2
  by_cases hm : m < 1
  · have e : mkV y m d = (0, 1) := by unfold mkV; rw [if_neg (by omega), if_pos (.inl hm)]
    rw [e]
    clear e
    go_enter Tryd.func14, Tryd.ntmps14
    go_wp2_with fail
    go_ret2
    exact ⟨rfl, rfl⟩
  by_cases hm2 : 12 < m
  · have e : mkV y m d = (0, 1) := by unfold mkV; rw [if_neg (by omega), if_pos (.inr (.inl hm2))]
    rw [e]
    clear e
    have k1 : decide (m < 1) = false := by simpa using hm
    go_enter Tryd.func14, Tryd.ntmps14
    go_wp2_with fail
    go_ret2
    exact ⟨rfl, rfl⟩
  have m1 : 1 ≤ m := by omega
  have m2 : m ≤ 12 := by omega
  clear hm hm2
  by_cases hd : d < 1
  · have e : mkV y m d = (0, 1) := by unfold mkV; rw [if_neg (by omega), if_pos (.inr (.inr (.inl hd)))]
    rw [e]
    clear e
    go_enter Tryd.func14, Tryd.ntmps14
    go_wp2_with fail
    go_ret2
    exact ⟨rfl, rfl⟩
  have d1 : 1 ≤ d := by omega
  clear hd
  have hlen := fun w => rlength_any y m (by omega) (by omega) m1 m2 w
  have hb := len_bd y m
  by_cases hd2 : lenM y m < d
  · have e : mkV y m d = (0, 1) := by unfold mkV; rw [if_neg (by omega), if_pos (.inr (.inr (.inr hd2)))]
    rw [e]
    clear e hb
    generalize lenM y m = L at *
    have HL := Lib.hid hlen
    clear hlen
    go_enter Tryd.func14, Tryd.ntmps14
    go_wp2_with fail
    refine (HL.out _).mono ?_
    rintro r w' ⟨rfl, rfl⟩
    go_wp2_with fail
    go_ret2
    exact ⟨rfl, rfl⟩
  have hfb := first_bd (y := y) (by omega) (by omega)
  have d2 : d ≤ lenM y m := by omega
  have hd31 : d ≤ 31 := by omega
  have HMK := Lib.hid (show mkV y m d = if 100000 < numB y m d then (0, 9) else (numB y m d, 0) by unfold mkV; rw [if_neg (by omega), if_neg (by omega)])
  clear hd2 hb
  generalize lenM y m = L at *
  have HL := Lib.hid hlen
  clear hlen
  generalize hMM : mkV y m d = M at *
  clear hMM
  obtain ⟨f1, f2⟩ := hfb
  go_enter Tryd.func14, Tryd.ntmps14
  go_wp2_with fail
  refine (HL.out _).mono ?_
  rintro r w' ⟨rfl, rfl⟩
  go_wp2_with fail
  refine (rfirst_any _ (by omega) (by omega) _).mono ?_
  rintro r w' ⟨rfl, rfl⟩
  go_wp2_with fail
  go_loop [8, 9] (fun n b => ∃ k : Int, b = .int .i64 k ∧ n = .int .i64 (firstN y + d - 1 + cum y k) ∧ 1 ≤ k ∧ k ≤ m) (fun _ b => (12 - intOf b).toNat)
  case atStart => exact ⟨1, rfl, by rw [cum_one, Int.add_zero], by omega, m1⟩
  case round =>
    obtain ⟨k, rfl, rfl, hk1, hk2⟩ := hrel
    have hcb := cum_bd y hk1 (by omega)
    obtain ⟨c1, c2⟩ := hcb
    by_cases hlt : k < m
    · have hcs := cum_succ y hk1 (by omega)
      have hlk := fun w => rlength_any y k (by omega) (by omega) hk1 (by omega) w
      have hlb := len_bd y k
      obtain ⟨l1, l2⟩ := hlb
      have HCS := Lib.hid hcs
      have HLK := Lib.hid hlk
      clear hcs hlk
      go_wp2_with fail
      refine (HLK.out _).mono ?_
      rintro r w' ⟨rfl, rfl⟩
      go_wp2_with fail
      go_round
      case rel => exact ⟨k + 1, rfl, by rw [HCS.out]; congr 1; omega, by omega, by omega⟩
      case measure => simp [intOf]; omega
    · obtain rfl : k = m := by omega
      have hnn : firstN y + d - 1 + cum y k = numB y k d := by unfold numB; omega
      have hM := HMK.out
      clear HMK
      by_cases hbig : 100000 < numB y k d
      · rw [if_pos hbig] at hM
        subst hM
        have hbig2 : 100000 < firstN y + d - 1 + cum y k := by omega
        clear hbig hnn
        go_wp2_with fail
        go_ret2
        exact ⟨rfl, rfl⟩
      · rw [if_neg hbig, ← hnn] at hM
        subst hM
        have hbig2 : firstN y + d - 1 + cum y k ≤ 100000 := by omega
        clear hbig hnn
        go_wp2_with fail
        go_ret2
        exact ⟨rfl, rfl⟩

theorem rsplit_no (n : Int) (h : ¬ (0 ≤ n ∧ n ≤ 100000)) (w : World) :
    Calls Tryd.prog 16 #[.int .i64 n] w fun e w' => e = .returned (.tuple #[.int .i64 0, .int .i64 0, .int .i64 0, .int .i64 1]) ∧ w = w' := by
  have HN := Lib.hid (fun w => rIs_no n h w)
  clear h
  go_enter Tryd.func16, Tryd.ntmps16
  go_wp2_with fail
  refine (HN.out _).mono ?_
  rintro r w' ⟨rfl, rfl⟩
  go_wp2_with fail
  refine bodyPost_ret (v := .tuple #[.int .i64 0, .int .i64 0, .int .i64 0, .int .i64 1]) ?_ rfl ⟨rfl, rfl⟩
  simp [results, Tryd.results16, go_sem]

theorem rsplit_any {n y m d : Int} (h : Date n y m d) (hn : n ≤ 100000) (w : World) :
    Calls Tryd.prog 16 #[.int .i64 n] w fun e w' => e = .returned (.tuple #[.int .i64 y, .int .i64 m, .int .i64 d, .int .i64 0]) ∧ w = w' := by
  have h0 := date_ge h
  have hy := date_year h hn
  obtain ⟨h1, h2, h3, h4, h5, h6⟩ := id h
  have HN := Lib.hid (fun w => rIs_yes n h0 hn w)
  have hi := Lib.hid (year_iff h)
  have hfb := first_bd (y := y) (by omega) (by omega)
  have HR := Lib.hid (fun k hk hlt => rest_next (k := k) h hk hlt)
  have H6 := Lib.hid h6
  have H5 := Lib.hid h5
  obtain ⟨f1, f2⟩ := hfb
  clear h6 h5 h
  go_enter Tryd.func16, Tryd.ntmps16
  go_wp2_with fail
  refine (HN.out _).mono ?_
  rintro r w' ⟨rfl, rfl⟩
  go_wp2_with fail
  go_loop [6] (fun v => ∃ z : Int, v = .int .i64 z ∧ 1800 ≤ z ∧ z ≤ y) (fun v => (2073 - intOf v).toNat)
  case atStart => exact ⟨_, rfl, by omega, h1⟩
  case round =>
    obtain ⟨z, rfl, hz1, hz2⟩ := hrel
    have hc := fun w => rfirst_any (z + 1) (by omega) (by omega) w
    have hk := hi.out z
    generalize firstN (z + 1) = f at hc hk
    have HC := Lib.hid hc
    clear hc
    by_cases hlt : z + 1 ≤ y
    · have hf := hk.2 hlt
      have hz74 : z < 2074 := by omega
      clear hk
      go_wp2_with fail
      refine (HC.out _).mono ?_
      rintro r w' ⟨rfl, rfl⟩
      go_wp2_with fail
      go_round
      case rel => exact ⟨_, rfl, by omega, by omega⟩
      case measure => simp [intOf]; omega
    · have hf : n < f := Int.not_le.1 (fun k => hlt (hk.1 k))
      have hf2 : decide (f ≤ n) = false := by simpa using hf
      obtain rfl : z = y := by omega
      clear hk
      go_wp2_with fail
      refine (HC.out _).mono ?_
      rintro r w' ⟨rfl, rfl⟩
      go_wp2_with fail
      refine (rfirst_any _ (by omega) (by omega) _).mono ?_
      rintro r w' ⟨rfl, rfl⟩
      go_wp2_with fail
      go_loop [7, 8] (fun r b => ∃ k : Int, b = .int .i64 k ∧ r = .int .i64 (n - firstN z - cum z k) ∧ 1 ≤ k ∧ k ≤ m) (fun _ b => (12 - intOf b).toNat)
      case atStart => exact ⟨1, rfl, by rw [cum_one, Int.sub_zero], by omega, h2⟩
      case round =>
        obtain ⟨k, rfl, rfl, hk1, hk2⟩ := hrel
        obtain ⟨c1, c2⟩ := cum_bd z hk1 (by omega)
        obtain ⟨l1, l2⟩ := len_bd z k
        have HLK := Lib.hid (fun w => rlength_any z k (by omega) (by omega) hk1 (by omega) w)
        by_cases hlt : k < m
        · obtain ⟨r1, r2⟩ := HR.out k hk1 hlt
          have HCS := Lib.hid (cum_succ z hk1 (by omega))
          go_wp2_with fail
          refine (HLK.out _).mono ?_
          rintro r w' ⟨rfl, rfl⟩
          go_wp2_with fail
          refine (HLK.out _).mono ?_
          rintro r w' ⟨rfl, rfl⟩
          go_wp2_with fail
          go_round
          case rel => exact ⟨k + 1, rfl, by rw [HCS.out]; congr 1; omega, by omega, by omega⟩
          case measure => simp [intOf]; omega
        · obtain rfl : k = m := by omega
          have e := H6.out
          have e5 := H5.out
          unfold numB at e
          have r1 : n - firstN z - cum z k < lenM z k := by omega
          have e2 : n - firstN z - cum z k + 1 = d := by omega
          have r0 : 0 ≤ n - firstN z - cum z k := by omega
          clear e e5 HR
          have E2 := Lib.hid e2
          clear e2
          go_wp2_with fail
          refine (HLK.out _).mono ?_
          rintro r w' ⟨rfl, rfl⟩
          go_wp2_with fail
          refine bodyPost_ret (v := .tuple #[.int .i64 z, .int .i64 k, .int .i64 (n - firstN z - cum z k + 1), .int .i64 0]) ?_ rfl ⟨by rw [E2.out], rfl⟩
          simp [results, Tryd.results16, go_sem]

theorem rweekday_no (n : Int) (h : ¬ (0 ≤ n ∧ n ≤ 100000)) (w : World) :
    Calls Tryd.prog 18 #[.int .i64 n] w fun e w' => e = .returned (.tuple #[.int .i64 0, .int .i64 1]) ∧ w = w' := by
  have HN := Lib.hid (fun w => rIs_no n h w)
  clear h
  go_enter Tryd.func18, Tryd.ntmps18
  go_wp2_with fail
  refine (HN.out _).mono ?_
  rintro r w' ⟨rfl, rfl⟩
  go_wp2_with fail
  go_ret2
  exact ⟨rfl, rfl⟩
theorem rweekday_any (n : Int) (h0 : 0 ≤ n) (hn : n ≤ 100000) (w : World) :
    Calls Tryd.prog 18 #[.int .i64 n] w fun e w' => e = .returned (.tuple #[.int .i64 (wkV n), .int .i64 0]) ∧ w = w' := by
  unfold wkV
  go_enter Tryd.func18, Tryd.ntmps18
  go_wp2_with fail
  refine (rIs_yes n h0 hn _).mono ?_
  rintro r w' ⟨rfl, rfl⟩
  go_wp2_with fail
  go_ret2
  exact ⟨rfl, rfl⟩

theorem rmonths_no (n k : Int) (h : ¬ (0 ≤ n ∧ n ≤ 100000)) (w : World) :
    Calls Tryd.prog 20 #[.int .i64 n, .int .i64 k] w fun e w' => e = .returned (.tuple #[.int .i64 0, .int .i64 1]) ∧ w = w' := by
  have HN := Lib.hid (fun w => rsplit_no n h w)
  clear h
  go_enter Tryd.func20, Tryd.ntmps20
  go_wp2_with fail
  refine (HN.out _).mono ?_
  rintro r w' ⟨rfl, rfl⟩
  go_wp2_with fail
  go_ret2
  exact ⟨rfl, rfl⟩
theorem moV_mk (y m d k : Int) (hd : 1 ≤ d) : moV y m d k = mkV ((12 * y + m - 1 + k) / 12) ((12 * y + m - 1 + k) % 12 + 1) (min d (lenM ((12 * y + m - 1 + k) / 12) ((12 * y + m - 1 + k) % 12 + 1))) := by
  unfold moV
  split
  · unfold mkV
    rw [if_pos (by omega)]
  · rfl
theorem rmonths_any {n y m d : Int} (h : Date n y m d) (hn : n ≤ 100000) (k : Int) (w : World) :
    Calls Tryd.prog 20 #[.int .i64 n, .int .i64 k] w fun e w' => e = .returned (.tuple #[.int .i64 (moV y m d k).1, .int .i64 (moV y m d k).2]) ∧ w = w' := by
  have h0 := date_ge h
  have hy := date_year h hn
  obtain ⟨h1, h2, h3, h4, h5, h6⟩ := id h
  have HS := Lib.hid (fun w => rsplit_any h hn w)
  have hlb := len_bd y m
  clear h h6
  by_cases hlow : k < -5000
  · have e : moV y m d k = (0, 9) := by unfold moV; rw [if_pos (by omega)]
    rw [e]
    clear e
    go_enter Tryd.func20, Tryd.ntmps20
    go_wp2_with fail
    refine (HS.out _).mono ?_
    rintro r w' ⟨rfl, rfl⟩
    go_wp2_with fail
    go_ret2
    exact ⟨rfl, rfl⟩
  by_cases hhigh : 5000 < k
  · have e : moV y m d k = (0, 9) := by unfold moV; rw [if_pos (by omega)]
    rw [e]
    have k1 : decide (k < -5000) = false := by simpa using hlow
    clear e hlow
    go_enter Tryd.func20, Tryd.ntmps20
    go_wp2_with fail
    refine (HS.out _).mono ?_
    rintro r w' ⟨rfl, rfl⟩
    go_wp2_with fail
    go_ret2
    exact ⟨rfl, rfl⟩
  have hlow2 : -5000 ≤ k := by omega
  have hhigh2 : k ≤ 5000 := by omega
  clear hlow hhigh
  rw [moV_mk y m d k h4]
  have hK1 : 12 ≤ 12 * y + m - 1 + k := by omega
  have hK2 : 12 * y + m - 1 + k ≤ 40000 := by omega
  have HL := Lib.hid (fun w => rlength_any ((12 * y + m - 1 + k) / 12) ((12 * y + m - 1 + k) % 12 + 1) (by omega) (by omega) (by omega) (by omega) w)
  have HM := Lib.hid (fun w => rmake_any ((12 * y + m - 1 + k) / 12) ((12 * y + m - 1 + k) % 12 + 1) (min d (lenM ((12 * y + m - 1 + k) / 12) ((12 * y + m - 1 + k) % 12 + 1))) w)
  by_cases hgt : lenM ((12 * y + m - 1 + k) / 12) ((12 * y + m - 1 + k) % 12 + 1) < d
  · have hmin : min d (lenM ((12 * y + m - 1 + k) / 12) ((12 * y + m - 1 + k) % 12 + 1)) = lenM ((12 * y + m - 1 + k) / 12) ((12 * y + m - 1 + k) % 12 + 1) := by omega
    rw [hmin] at HM ⊢
    clear hmin
    generalize lenM ((12 * y + m - 1 + k) / 12) ((12 * y + m - 1 + k) % 12 + 1) = L at *
    generalize mkV ((12 * y + m - 1 + k) / 12) ((12 * y + m - 1 + k) % 12 + 1) L = M at *
    go_enter Tryd.func20, Tryd.ntmps20
    go_wp2_with fail
    refine (HS.out _).mono ?_
    rintro r w' ⟨rfl, rfl⟩
    go_wp2_with fail
    refine (HL.out _).mono ?_
    rintro r w' ⟨rfl, rfl⟩
    go_wp2_with fail
    refine (HL.out _).mono ?_
    rintro r w' ⟨rfl, rfl⟩
    go_wp2_with fail
    refine (HM.out _).mono ?_
    rintro r w' ⟨rfl, rfl⟩
    go_wp2_with fail
    go_ret2
    exact ⟨rfl, rfl⟩
  · have hmin : min d (lenM ((12 * y + m - 1 + k) / 12) ((12 * y + m - 1 + k) % 12 + 1)) = d := by omega
    rw [hmin] at HM ⊢
    have hgt2 : d ≤ lenM ((12 * y + m - 1 + k) / 12) ((12 * y + m - 1 + k) % 12 + 1) := by omega
    clear hmin hgt
    generalize lenM ((12 * y + m - 1 + k) / 12) ((12 * y + m - 1 + k) % 12 + 1) = L at *
    generalize mkV ((12 * y + m - 1 + k) / 12) ((12 * y + m - 1 + k) % 12 + 1) d = M at *
    go_enter Tryd.func20, Tryd.ntmps20
    go_wp2_with fail
    refine (HS.out _).mono ?_
    rintro r w' ⟨rfl, rfl⟩
    go_wp2_with fail
    refine (HL.out _).mono ?_
    rintro r w' ⟨rfl, rfl⟩
    go_wp2_with fail
    refine (HM.out _).mono ?_
    rintro r w' ⟨rfl, rfl⟩
    go_wp2_with fail
    go_ret2
    exact ⟨rfl, rfl⟩
end Go.Proofs.YtdbffhcckmmgfaaDoor.Dt
