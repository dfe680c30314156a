/- The walk of DateMatchesReference. -/
import Derived.Test.YtdbffhcckmmgfaaDoorDatH
import Derived.Test.YtdbffhcckmmgfaaDoorDatR3
namespace Go.Proofs.YtdbffhcckmmgfaaDoor.Dt
set_option linter.unusedVariables false
set_option linter.unusedSimpArgs false
open Go.RowKit

set_option maxRecDepth 100000 in
set_option maxHeartbeats 4000000 in
theorem lawMatches (y m d n k : Int) (hy1 : -9223372036854775808 ≤ y) (hy2 : y ≤ 9223372036854775807) (hm1 : -9223372036854775808 ≤ m) (hm2 : m ≤ 9223372036854775807) (hd1 : -9223372036854775808 ≤ d) (hd2 : d ≤ 9223372036854775807) (hn1 : -9223372036854775808 ≤ n) (hn2 : n ≤ 9223372036854775807) (hk1 : -9223372036854775808 ≤ k) (hk2 : k ≤ 9223372036854775807) (s : ByteArray) (hs : s.size ≤ 9223372036854775807) (w : World) (hl : LayT w) :
    Calls Tryd.prog 3 #[.int .i64 y, .int .i64 m, .int .i64 d, .int .i64 n, .int .i64 k, .string s] w fun e w' => e = .returned (.bool true) ∧ Below w.heap.size w w' := by
  by_cases hbig : 40 < s.size
  · have hbI : (40 : Int) < (s.size : Int) := by omega
    have hb0 : Below w.heap.size w w := Below.refl _ _
    go_enter Tryd.func3, Tryd.ntmps3
    go_wp2_with fail
    refine (head_any _ hl.1).mono ?_
    rintro r v1 ⟨rfl, hx1⟩
    have hb1 := hb0.trans (hx1.mono hb0.size)
    go_wp2_with fail
    go_ret
    exact ⟨rfl, hb1⟩
  have hsm : s.size ≤ 40 := by omega
  clear hbig
  have M1 := Lib.hid (fun w hl => make_any y m d w hl)
  have M2 := Lib.hid (fun w => rmake_any y m d w)
  have P1 := Lib.hid (fun w hl => parse_any s (by omega) w hl)
  have P2 := Lib.hid (fun w => rparse_any s (by omega) w)
  generalize mkV y m d = A at *
  generalize parD s.data.toList = D at *
  obtain ⟨A1, A2⟩ := A
  obtain ⟨D1, D2⟩ := D
  by_cases hn : 0 ≤ n ∧ n ≤ 100000
  · obtain ⟨n0, n1⟩ := hn
    obtain ⟨z, o, c, h⟩ := date_of n0
    have S1 := Lib.hid (fun w hl => split_any h n1 w hl)
    have S2 := Lib.hid (fun w => rsplit_any h n1 w)
    have W1 := Lib.hid (fun w => weekday_any n n0 n1 w)
    have W2 := Lib.hid (fun w => rweekday_any n n0 n1 w)
    have K1 := Lib.hid (fun w hl => months_any h n1 k w hl)
    have K2 := Lib.hid (fun w => rmonths_any h n1 k w)
    have T1 := Lib.hid (fun w hl => text_any n n0 n1 w hl)
    have T2 := Lib.hid (fun w => rtext_any n n0 n1 w)
    generalize moV z o c k = B at *
    generalize wkV n = C at *
    generalize ByteArray.mk (txN n).toArray = T at *
    obtain ⟨B1, B2⟩ := B
    clear h
    have hb0 : Below w.heap.size w w := Below.refl _ _
    go_enter Tryd.func3, Tryd.ntmps3
    go_wp2_with fail
    refine (head_any _ hl.1).mono ?_
    rintro r v2 ⟨rfl, hx2⟩
    have hb2 := hb0.trans (hx2.mono hb0.size)
    go_wp2_with fail
    refine (M1.out _ (hl.below hb2).1).mono ?_
    rintro r w' ⟨rfl, rfl⟩
    go_wp2_with fail
    refine (M2.out _).mono ?_
    rintro r w' ⟨rfl, rfl⟩
    go_wp2_with fail
    refine (S1.out _ (hl.below hb2).1).mono ?_
    rintro r w' ⟨rfl, rfl⟩
    go_wp2_with fail
    refine (S2.out _).mono ?_
    rintro r w' ⟨rfl, rfl⟩
    go_wp2_with fail
    refine (W1.out _).mono ?_
    rintro r w' ⟨rfl, rfl⟩
    go_wp2_with fail
    refine (W2.out _).mono ?_
    rintro r w' ⟨rfl, rfl⟩
    go_wp2_with fail
    refine (K1.out _ (hl.below hb2).1).mono ?_
    rintro r w' ⟨rfl, rfl⟩
    go_wp2_with fail
    refine (K2.out _).mono ?_
    rintro r w' ⟨rfl, rfl⟩
    go_wp2_with fail
    refine (T1.out _ (hl.below hb2).1).mono ?_
    rintro r v3 ⟨rfl, hx3⟩
    have hb3 := hb2.trans (hx3.mono hb2.size)
    go_wp2_with fail
    refine (T2.out _).mono ?_
    rintro r w' ⟨rfl, rfl⟩
    go_wp2_with fail
    refine (P1.out _ (hl.below hb3)).mono ?_
    rintro r v4 ⟨rfl, hx4⟩
    have hb4 := hb3.trans (hx4.mono hb3.size)
    go_wp2_with fail
    refine (P2.out _).mono ?_
    rintro r w' ⟨rfl, rfl⟩
    go_wp2_with fail
    go_ret
    exact ⟨rfl, hb4⟩
  · have S1 := Lib.hid (fun w => split_no n hn w)
    have S2 := Lib.hid (fun w => rsplit_no n hn w)
    have W1 := Lib.hid (fun w => weekday_no n hn w)
    have W2 := Lib.hid (fun w => rweekday_no n hn w)
    have K1 := Lib.hid (fun w => months_no n k hn w)
    have K2 := Lib.hid (fun w => rmonths_no n k hn w)
    have T1 := Lib.hid (fun w => text_no n hn w)
    have T2 := Lib.hid (fun w => rtext_no n hn w)
    clear hn
    have hb0 : Below w.heap.size w w := Below.refl _ _
    go_enter Tryd.func3, Tryd.ntmps3
    go_wp2_with fail
    refine (head_any _ hl.1).mono ?_
    rintro r v5 ⟨rfl, hx5⟩
    have hb5 := hb0.trans (hx5.mono hb0.size)
    go_wp2_with fail
    refine (M1.out _ (hl.below hb5).1).mono ?_
    rintro r w' ⟨rfl, rfl⟩
    go_wp2_with fail
    refine (M2.out _).mono ?_
    rintro r w' ⟨rfl, rfl⟩
    go_wp2_with fail
    refine (S1.out _).mono ?_
    rintro r w' ⟨rfl, rfl⟩
    go_wp2_with fail
    refine (S2.out _).mono ?_
    rintro r w' ⟨rfl, rfl⟩
    go_wp2_with fail
    refine (W1.out _).mono ?_
    rintro r w' ⟨rfl, rfl⟩
    go_wp2_with fail
    refine (W2.out _).mono ?_
    rintro r w' ⟨rfl, rfl⟩
    go_wp2_with fail
    refine (K1.out _).mono ?_
    rintro r w' ⟨rfl, rfl⟩
    go_wp2_with fail
    refine (K2.out _).mono ?_
    rintro r w' ⟨rfl, rfl⟩
    go_wp2_with fail
    refine (T1.out _).mono ?_
    rintro r w' ⟨rfl, rfl⟩
    go_wp2_with fail
    refine (T2.out _).mono ?_
    rintro r w' ⟨rfl, rfl⟩
    go_wp2_with fail
    refine (P1.out _ (hl.below hb5)).mono ?_
    rintro r v6 ⟨rfl, hx6⟩
    have hb6 := hb5.trans (hx6.mono hb5.size)
    go_wp2_with fail
    refine (P2.out _).mono ?_
    rintro r w' ⟨rfl, rfl⟩
    go_wp2_with fail
    go_ret
    exact ⟨rfl, hb6⟩
end Go.Proofs.YtdbffhcckmmgfaaDoor.Dt
