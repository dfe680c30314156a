/- Walks over package date: Text, Parse. -/
import Derived.Test.YtdbffhcckmmgfaaDoorDatW2
import Derived.Test.YtdbffhcckmmgfaaDoorDatText
import Derived.Lib.BufferWrite
import Derived.Deep.RegionHeld3
namespace Go.Proofs.YtdbffhcckmmgfaaDoor.Dt
set_option linter.unusedVariables false
set_option linter.unusedSimpArgs false
open Go.RowKit

theorem below_grow {w : World} (k : Nat) (os : Array Obj) : Below w.heap.size w (Sort.grow (w.drewN k) os) := by
  refine ⟨rfl, rfl, rfl, ?_, ?_⟩
  · show w.heap.size ≤ (w.heap ++ os).size
    rw [Array.size_append]
    omega
  · intro i hi
    show (w.heap ++ os)[i]? = w.heap[i]?
    rw [Array.getElem?_append_left hi]
theorem below_drewN (B : Nat) (w : World) (n : Nat) : Below B w (w.drewN n) := ⟨rfl, rfl, rfl, Nat.le_refl _, fun _ _ => rfl⟩
theorem itoa_any (n : Int) (h0 : -9223372036854775808 ≤ n) (h1 : n ≤ 9223372036854775807) (w : World) (ht : Lay w) :
    Calls Tryd.prog 41 #[.int .i64 n] w fun e w' => e = .returned (.string ⟨(Lib.itoa n).toArray⟩) ∧ Below w.heap.size w w' :=
  (Tryd.strconv_Itoa n h0 h1 w ht.1).mono fun e w' ⟨he, k, os, hw⟩ => ⟨he, hw ▸ below_grow k os⟩
theorem itoa1_any (n : Int) (h0 : 0 ≤ n) (h1 : n ≤ 9) (w : World) (ht : Lay w) :
    Calls Tryd.prog 41 #[.int .i64 n] w fun e w' => e = .returned (.string ⟨#[dg n]⟩) ∧ Below w.heap.size w w' := by
  refine (itoa_any n (by omega) (by omega) w ht).mono ?_
  rintro e w' ⟨rfl, hb⟩
  rw [itoa_one h0 h1]
  exact ⟨rfl, hb⟩

theorem dashed_any (m : Int) (h0 : 0 ≤ m) (h1 : m ≤ 99) (w : World) (hl : Lay w) :
    Calls Tryd.prog 42 #[.int .i64 m] w fun e w' => e = .returned (.string ⟨#[45, dg (m / 10), dg m]⟩) ∧ Below w.heap.size w w' := by
  have e : dg (m % 10) = dg m := by unfold dg; rw [Int.emod_emod]
  rw [← e]
  clear e
  go_enter Tryd.func42, Tryd.ntmps42
  go_wp2_with fail
  refine (itoa1_any _ (by omega) (by omega) _ hl).mono ?_
  rintro e w1 ⟨rfl, hb1⟩
  go_wp2_with fail
  refine (itoa1_any _ (by omega) (by omega) _ (hl.below hb1)).mono ?_
  rintro e w2 ⟨rfl, hb2⟩
  go_wp2_with fail
  go_ret
  exact ⟨rfl, hb1.trans (hb2.mono hb1.size)⟩

theorem text_no (n : Int) (h : ¬ (0 ≤ n ∧ n ≤ 100000)) (w : World) :
    Calls Tryd.prog 21 #[.int .i64 n] w fun e w' => e = .returned (.tuple #[.string ⟨#[]⟩, .int .i64 1]) ∧ w = w' := by
  have HN := Lib.hid (fun w => split_no n h w)
  clear h
  go_enter Tryd.func21, Tryd.ntmps21
  go_wp2_with fail
  refine (HN.out _).mono ?_
  rintro r w' ⟨rfl, rfl⟩
  go_wp2_with fail
  go_ret2
  exact ⟨rfl, rfl⟩
theorem text_any (n : Int) (h0 : 0 ≤ n) (hn : n ≤ 100000) (w : World) (hl : Lay w) :
    Calls Tryd.prog 21 #[.int .i64 n] w fun e w' => e = .returned (.tuple #[.string ⟨(txN n).toArray⟩, .int .i64 0]) ∧ Below w.heap.size w w' := by
  obtain ⟨y, m, d, h⟩ := date_of h0
  have hy := date_year h hn
  obtain ⟨s1, s2, s3⟩ := date_small h hn
  have h18 := h.1
  rw [txN_eq h]
  have HS := Lib.hid (fun w hl => split_any h hn w hl)
  have HI := Lib.hid (itoa_four (y := y) (by omega) (by omega))
  clear h
  go_enter Tryd.func21, Tryd.ntmps21
  go_wp2_with fail
  refine (HS.out _ hl).mono ?_
  rintro r w' ⟨rfl, rfl⟩
  go_wp2_with fail
  refine (itoa_any y (by omega) (by omega) _ hl).mono ?_
  rintro r w1 ⟨rfl, hb1⟩
  rw [HI.out]
  go_wp2_with fail
  refine (dashed_any m s2.1 s2.2 _ (hl.below hb1)).mono ?_
  rintro r w2 ⟨rfl, hb2'⟩
  have hb2 := hb1.trans (hb2'.mono hb1.size)
  go_wp2_with fail
  refine (dashed_any d s3.1 s3.2 _ (hl.below hb2)).mono ?_
  rintro r w3 ⟨rfl, hb3'⟩
  have hb3 := hb2.trans (hb3'.mono hb2.size)
  go_wp2_with fail
  go_ret2
  exact ⟨rfl, hb3⟩

/-- the library's errors are as laid, too -/
def LayT (w : World) : Prop := Lay w ∧ (∃ tp p, w.cell? ⟨1, 0, none⟩ = some (.iface tp p)) ∧ (∃ tp p, w.cell? ⟨2, 0, none⟩ = some (.iface tp p))
theorem lt_of_cell {w : World} {b o : Nat} {v : Value} (h : w.cell? ⟨b, o, none⟩ = some v) : b < w.heap.size := by
  refine Nat.lt_of_not_le fun hk => ?_
  simp [World.cell?, Array.getElem?_eq_none hk] at h
theorem LayT.below {w w' : World} (h : LayT w) (hb : Below w.heap.size w w') : LayT w' := by
  obtain ⟨h1, ⟨t1, p1, h2⟩, ⟨t2, p2, h3⟩⟩ := h
  exact ⟨h1.below hb, ⟨t1, p1, (hb.cell (lt_of_cell h2)).trans h2⟩, ⟨t2, p2, (hb.cell (lt_of_cell h3)).trans h3⟩⟩
/-- what Atoi returns as the number, whatever the text -/
def numF (l : List UInt8) : Int := match Lib.atoiAll l with | .ok v => v | Lib.NumEnd.syntax => 0 | .range => Lib.atoiSat l
theorem numF_ok {l : List UInt8} (k : Int) (h : Lib.atoiAll l = .ok k) : numF l = k := by unfold numF; rw [h]
theorem atoi_any (s : ByteArray) (hs : s.size ≤ 1000000) (w : World) (hl : LayT w) :
    Calls Tryd.prog 45 #[.string s] w fun e w' => ∃ (v : Value), e = .returned (.tuple #[.int .i64 (numF s.data.toList), v]) ∧ Below w.heap.size w w' := by
  obtain ⟨-, ⟨t1, p1, h2⟩, ⟨t2, p2, h3⟩⟩ := hl
  unfold numF
  rcases h : Lib.atoiAll s.data.toList with v | _ | _
  · refine (Tryd.strconv_Atoi_ok s (by omega) v h w).mono ?_
    rintro e w' ⟨rfl, hw⟩
    refine ⟨_, rfl, ?_⟩
    rcases hw with rfl | ⟨t, rfl⟩
    · exact Below.refl _ _
    · exact Go.Joins.below_bytesWorld _ _ _ _ (Nat.le_refl _)
  · refine (Tryd.strconv_Atoi_syntax s (by omega) h _ w h2 (.inr ⟨_, _, rfl⟩)).mono ?_
    rintro e w' ⟨N, rfl, -, -, hb⟩
    exact ⟨_, rfl, hb⟩
  · refine (Tryd.strconv_Atoi_range s (by omega) h _ w h3 (.inr ⟨_, _, rfl⟩)).mono ?_
    rintro e w' ⟨N, rfl, -, -, hb⟩
    exact ⟨_, rfl, hb⟩
theorem number_any (s : ByteArray) (hs : s.size ≤ 1000000) (w : World) (hl : LayT w) :
    Calls Tryd.prog 44 #[.string s] w fun e w' => e = .returned (.int .i64 (numF s.data.toList)) ∧ Below w.heap.size w w' := by
  go_enter Tryd.func44, Tryd.ntmps44
  go_wp2_with fail
  refine (atoi_any s hs _ hl).mono ?_
  rintro r w1 ⟨v, rfl, hb⟩
  go_wp2_with fail
  go_ret
  exact ⟨rfl, hb⟩

theorem ext_list (s : ByteArray) (a b : Nat) : (s.extract a b).data.toList = (s.data.toList.take b).drop a := by
  simp [List.drop_take]
theorem bytes_eq {l : List UInt8} {s : ByteArray} : (ByteArray.mk l.toArray = s) ↔ l = s.data.toList := by
  constructor
  · rintro rfl
    simp
  · intro h
    apply ByteArray.ext
    simp [h]
theorem mk_eq (s : ByteArray) : ByteArray.mk s.data.toList.toArray = s := by
  apply ByteArray.ext
  simp
theorem mkV_bd (a b c : Int) : 0 ≤ (mkV a b c).1 ∧ (mkV a b c).1 ≤ 100000 := by
  rcases mkV_ok a b c with ⟨-, h, h2⟩ | h | h
  · exact ⟨date_ge h, h2⟩
  · rw [h]; decide
  · rw [h]; decide

theorem parse_len (s : ByteArray) (hs : s.size ≤ 1000000) (h : s.size ≠ 10) (w : World) :
    Calls Tryd.prog 23 #[.string s] w fun e w' => e = .returned (.tuple #[.int .i64 (parD s.data.toList).1, .int .i64 (parD s.data.toList).2]) ∧ Below w.heap.size w w' := by
  have hl : s.data.toList.length ≠ 10 := by rw [← Lib.size_eq]; exact h
  rw [par_len hl]
  have k1 : ((s.size : Int) == 10) = false := by simp; omega
  have k2 : ((s.size : Int) != 10) = true := by simp; omega
  clear hl h
  go_enter Tryd.func23, Tryd.ntmps23
  go_wp2_with fail
  go_ret2
  exact ⟨rfl, Below.refl _ _⟩

set_option maxHeartbeats 2000000 in
theorem parse_ten (s : ByteArray) (hs : s.size = 10) (w : World) (hl : LayT w) :
    Calls Tryd.prog 23 #[.string s] w fun e w' => e = .returned (.tuple #[.int .i64 (parD s.data.toList).1, .int .i64 (parD s.data.toList).2]) ∧ Below w.heap.size w w' := by
  have hlen : s.data.toList.length = 10 := by rw [← Lib.size_eq]; exact hs
  have q1 : (s.extract 0 4).data.toList = s.data.toList.take 4 := by rw [ext_list, List.drop_zero]
  have q2 : (s.extract 5 7).data.toList = (s.data.toList.drop 5).take 2 := by rw [ext_list, List.drop_take]
  have q3 : (s.extract 8 10).data.toList = s.data.toList.drop 8 := by rw [ext_list, List.take_of_length_le (by omega)]
  have hp := par_make (l := s.data.toList) (a := numF (s.extract 0 4).data.toList) (b := numF (s.extract 5 7).data.toList) (c := numF (s.extract 8 10).data.toList) (by rw [q1]; exact numF_ok) (by rw [q2]; exact numF_ok) (by rw [q3]; exact numF_ok)
  have z1 : (s.extract 0 4).size ≤ 1000000 := by simp; omega
  have z2 : (s.extract 5 7).size ≤ 1000000 := by simp; omega
  have z3 : (s.extract 8 10).size ≤ 1000000 := by simp; omega
  clear q1 q2 q3 hlen
  rw [hp]
  clear hp
  have N1 := Lib.hid (fun w hl => number_any (s.extract 0 4) z1 w hl)
  have N2 := Lib.hid (fun w hl => number_any (s.extract 5 7) z2 w hl)
  have N3 := Lib.hid (fun w hl => number_any (s.extract 8 10) z3 w hl)
  clear z1 z2 z3
  generalize numF (s.extract 0 4).data.toList = a at *
  generalize numF (s.extract 5 7).data.toList = b at *
  generalize numF (s.extract 8 10).data.toList = c at *
  have hM := fun w hl => make_any a b c w hl
  have hbd := mkV_bd a b c
  generalize mkV a b c = M at *
  obtain ⟨n, er⟩ := M
  simp only at hM hbd ⊢
  generalize hR : (if er = 0 ∧ txN n = s.data.toList then (n, (0 : Int)) else (0, 5)) = R
  have HR := Lib.hid hR
  clear hR
  have HM := Lib.hid hM
  clear hM
  obtain ⟨n0, n1⟩ := hbd
  have hr := Below.refl w.heap.size w
  go_enter Tryd.func23, Tryd.ntmps23
  go_upto_region 4 with fail
  go_region_held3 (fun w' => True) (exact trivial) (first
    | (go_at_call 13; have hz := hx3; refine (HM.out _ (hl.1.below hx3)).mono ?_; rintro r x4 ⟨rfl, rfl⟩)
    | (go_at_call 44; have hz := hx2; refine (N3.out _ (hl.below hx2)).mono ?_; rintro r x3 ⟨rfl, hx3'⟩; have hx3 : Below w.heap.size w x3 := hx2.trans (hx3'.mono hx2.size))
    | (go_at_call 44; have hz := hx1; refine (N2.out _ (hl.below hx1)).mono ?_; rintro r x2 ⟨rfl, hx2'⟩; have hx2 : Below w.heap.size w x2 := hx1.trans (hx2'.mono hx1.size))
    | (go_at_call 44; refine (N1.out _ (hl.below hr.drew)).mono ?_; rintro r x1 ⟨rfl, hx1'⟩; have hx1 : Below w.heap.size w x1 := hr.drew.trans hx1'))
  have hb3 := hx3
  have hl3 := hl.1.below hx3
  by_cases he : er = 0
  · subst he
    by_cases ht : txN n = s.data.toList
    · have hR := HR.out
      rw [if_pos ⟨rfl, ht⟩] at hR
      subst hR
      have hteq := bytes_eq.2 ht
      clear ht
      go_wp2_with fail
      refine (text_any n n0 n1 _ hl3).mono ?_
      rintro r x5 ⟨rfl, hb5⟩
      rw [hteq]
      clear hteq
      go_wp2_with fail
      go_ret2
      exact ⟨rfl, hb3.trans (hb5.mono hb3.size)⟩
    · have hR := HR.out
      rw [if_neg (fun k => ht k.2)] at hR
      subst hR
      have htne : (txN n == s.toList) = false := by
        rw [beq_eq_false_iff_ne, ByteArray.toList_eq]
        exact ht
      clear ht
      go_wp2_with fail
      refine (text_any n n0 n1 _ hl3).mono ?_
      rintro r x5 ⟨rfl, hb5⟩
      go_wp2_with fail
      go_ret2
      exact ⟨rfl, hb3.trans (hb5.mono hb3.size)⟩
  · have hR := HR.out
    rw [if_neg (fun k => he k.1)] at hR
    subst hR
    have hef : (er == 0) = false := by simpa using he
    have hef2 : (er != 0) = true := by simpa using he
    clear he
    go_wp2_with fail
    refine (text_any n n0 n1 _ hl3).mono ?_
    rintro r x5 ⟨rfl, hb5⟩
    go_wp2_with fail
    go_ret2
    exact ⟨rfl, hb3.trans (hb5.mono hb3.size)⟩
theorem parse_any (s : ByteArray) (hs : s.size ≤ 1000000) (w : World) (hl : LayT w) :
    Calls Tryd.prog 23 #[.string s] w fun e w' => e = .returned (.tuple #[.int .i64 (parD s.data.toList).1, .int .i64 (parD s.data.toList).2]) ∧ Below w.heap.size w w' := by
  by_cases h : s.size = 10
  · exact parse_ten s h w hl
  · exact parse_len s hs h w
end Go.Proofs.YtdbffhcckmmgfaaDoor.Dt
