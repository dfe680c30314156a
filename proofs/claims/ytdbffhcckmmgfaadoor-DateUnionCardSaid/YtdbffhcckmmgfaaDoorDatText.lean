/- The texts of days: ten bytes, ordered like the days; what has a text, and what is none. -/
import Derived.Test.YtdbffhcckmmgfaaDoorDatMath
import Derived.Lib.ItoaMem
import Derived.Lib.AtoiAll
namespace Go.Proofs.YtdbffhcckmmgfaaDoor.Dt

/-- a digit -/
def dg (x : Int) : UInt8 := UInt8.ofNat (48 + (x % 10).toNat)
theorem dg_nat (x : Int) : (dg x).toNat = 48 + (x % 10).toNat := by
  unfold dg
  rw [UInt8.toNat_ofNat']
  omega
theorem dg_inj {x z : Int} (h : dg x = dg z) : x % 10 = z % 10 := by
  have e := congrArg UInt8.toNat h
  rw [dg_nat, dg_nat] at e
  omega
theorem dg_lt {x z : Int} : dg x < dg z ↔ x % 10 < z % 10 := by
  rw [UInt8.lt_iff_toNat_lt, dg_nat, dg_nat]
  omega
theorem dg_of {c : UInt8} (h1 : 48 ≤ c.toNat) (h2 : c.toNat ≤ 57) {x : Int} (h : x % 10 = (c.toNat : Int) - 48) : dg x = c := by
  apply UInt8.toNat_inj.1
  rw [dg_nat]
  omega
/-- the text of a date -/
def txL (y m d : Int) : List UInt8 := [dg (y / 1000), dg (y / 100), dg (y / 10), dg y, 45, dg (m / 10), dg m, 45, dg (d / 10), dg d]
theorem txL_len (y m d : Int) : (txL y m d).length = 10 := rfl
theorem dg_nat10 (k : Nat) : UInt8.ofNat (48 + k % 10) = dg (k : Int) := by
  unfold dg
  congr 2
theorem itoa_one {x : Int} (h0 : 0 ≤ x) (h1 : x ≤ 9) : Lib.itoa x = [dg x] := by
  obtain ⟨k, rfl⟩ := Int.eq_ofNat_of_zero_le h0
  rw [Lib.itoa_nonneg, Lib.decDigits_one (by omega), ← dg_nat10, Nat.mod_eq_of_lt (by omega)]
theorem dig_step {u : Nat} (h : 10 ≤ u) : Lib.decDigits u = Lib.decDigits (u / 10) ++ [dg (u : Int)] := by
  rw [Lib.decDigits, dif_neg (by omega), dg_nat10]
theorem itoa_four {y : Int} (h0 : 1000 ≤ y) (h1 : y ≤ 9999) : Lib.itoa y = [dg (y / 1000), dg (y / 100), dg (y / 10), dg y] := by
  obtain ⟨k, rfl⟩ := Int.eq_ofNat_of_zero_le (show 0 ≤ y by omega)
  rw [Lib.itoa_nonneg, dig_step (by omega), dig_step (by omega), dig_step (by omega), Lib.decDigits_one (by omega)]
  have e : UInt8.ofNat (48 + k / 10 / 10 / 10) = dg ((k : Int) / 1000) := by
    rw [show (k : Int) / 1000 = ((k / 10 / 10 / 10 : Nat) : Int) by omega, ← dg_nat10, Nat.mod_eq_of_lt (by omega)]
  rw [e, show ((k / 10 / 10 : Nat) : Int) = (k : Int) / 100 by omega, show ((k / 10 : Nat) : Int) = (k : Int) / 10 by omega]
  rfl
theorem txL_inj {y m d z o c : Int} (hy : 0 ≤ y ∧ y ≤ 9999) (hz : 0 ≤ z ∧ z ≤ 9999) (hm : 0 ≤ m ∧ m ≤ 99) (ho : 0 ≤ o ∧ o ≤ 99) (hd : 0 ≤ d ∧ d ≤ 99) (hc : 0 ≤ c ∧ c ≤ 99) (h : txL y m d = txL z o c) : y = z ∧ m = o ∧ d = c := by
  simp only [txL, List.cons.injEq, and_true, true_and] at h
  obtain ⟨a1, a2, a3, a4, a5, a6, a7, a8⟩ := h
  have b1 := dg_inj a1
  have b2 := dg_inj a2
  have b3 := dg_inj a3
  have b4 := dg_inj a4
  have b5 := dg_inj a5
  have b6 := dg_inj a6
  have b7 := dg_inj a7
  have b8 := dg_inj a8
  clear a1 a2 a3 a4 a5 a6 a7 a8
  refine ⟨?_, ?_, ?_⟩
  · clear b5 b6 b7 b8; omega
  · clear b1 b2 b3 b4 b7 b8; omega
  · clear b1 b2 b3 b4 b5 b6; omega

/-- the text of a day -/
noncomputable def txN (n : Int) : List UInt8 := open Classical in if h : ∃ p : Int × Int × Int, Date n p.1 p.2.1 p.2.2 then txL h.choose.1 h.choose.2.1 h.choose.2.2 else []
theorem txN_eq {n y m d : Int} (h : Date n y m d) : txN n = txL y m d := by
  have hx : ∃ p : Int × Int × Int, Date n p.1 p.2.1 p.2.2 := ⟨(y, m, d), h⟩
  unfold txN
  rw [dif_pos hx]
  obtain ⟨e1, e2, e3⟩ := date_inj hx.choose_spec h
  rw [e1, e2, e3]
theorem date_small {n y m d : Int} (h : Date n y m d) (hn : n ≤ 100000) : (0 ≤ y ∧ y ≤ 9999) ∧ (0 ≤ m ∧ m ≤ 99) ∧ (0 ≤ d ∧ d ≤ 99) := by
  have := date_year h hn
  obtain ⟨h1, h2, h3, h4, h5, -⟩ := h
  have := len_bd y m
  omega
theorem txN_len {n : Int} (h0 : 0 ≤ n) : (txN n).length = 10 := by
  obtain ⟨y, m, d, h⟩ := date_of h0
  rw [txN_eq h, txL_len]
theorem txN_inj {n k : Int} (h0 : 0 ≤ n) (hn : n ≤ 100000) (k0 : 0 ≤ k) (hk : k ≤ 100000) (h : txN n = txN k) : n = k := by
  obtain ⟨y, m, d, a⟩ := date_of h0
  obtain ⟨z, o, c, b⟩ := date_of k0
  rw [txN_eq a, txN_eq b] at h
  obtain ⟨a1, a2, a3⟩ := date_small a hn
  obtain ⟨b1, b2, b3⟩ := date_small b hk
  obtain ⟨rfl, rfl, rfl⟩ := txL_inj a1 b1 a2 b2 a3 b3 h
  exact a.2.2.2.2.2.symm.trans b.2.2.2.2.2
/-- what Parse returns -/
noncomputable def parD (l : List UInt8) : Int × Int := open Classical in if h : ∃ n : Int, (0 ≤ n ∧ n ≤ 100000) ∧ txN n = l then (h.choose, 0) else (0, 5)
theorem par_yes {n : Int} {l : List UInt8} (h0 : 0 ≤ n) (hn : n ≤ 100000) (h : txN n = l) : parD l = (n, 0) := by
  have hx : ∃ n : Int, (0 ≤ n ∧ n ≤ 100000) ∧ txN n = l := ⟨n, ⟨h0, hn⟩, h⟩
  unfold parD
  rw [dif_pos hx]
  have e := txN_inj hx.choose_spec.1.1 hx.choose_spec.1.2 h0 hn (hx.choose_spec.2.trans h.symm)
  rw [e]
theorem par_no {l : List UInt8} (h : ∀ n : Int, 0 ≤ n → n ≤ 100000 → txN n ≠ l) : parD l = (0, 5) := by
  unfold parD
  rw [dif_neg]
  rintro ⟨n, ⟨h0, hn⟩, e⟩
  exact h n h0 hn e
theorem par_cases (l : List UInt8) : (∃ n : Int, 0 ≤ n ∧ n ≤ 100000 ∧ txN n = l ∧ parD l = (n, 0)) ∨ parD l = (0, 5) := by
  by_cases h : ∃ n : Int, (0 ≤ n ∧ n ≤ 100000) ∧ txN n = l
  · obtain ⟨n, ⟨h0, hn⟩, e⟩ := h
    exact .inl ⟨n, h0, hn, e, par_yes h0 hn e⟩
  · exact .inr (par_no fun n h0 hn e => h ⟨n, ⟨h0, hn⟩, e⟩)
theorem par_len {l : List UInt8} (h : l.length ≠ 10) : parD l = (0, 5) := par_no fun n h0 _ e => h (by rw [← e, txN_len h0])

/-! ### the order of texts -/
theorem date_lex {n y m d k z o c : Int} (h : Date n y m d) (g : Date k z o c) : n < k ↔ y < z ∨ (y = z ∧ (m < o ∨ (m = o ∧ d < c))) := by
  obtain ⟨h1, h2, h3, h4, h5, rfl⟩ := h
  obtain ⟨g1, g2, g3, g4, g5, rfl⟩ := g
  obtain ⟨a1, a2, a3, a4⟩ := num_bd h2 h3 h4 h5
  obtain ⟨b1, b2, b3, b4⟩ := num_bd g2 g3 g4 g5
  by_cases hy : y < z
  · have := first_mono (y := y) (z := z) (by omega)
    omega
  · by_cases hy2 : z < y
    · have := first_mono (y := z) (z := y) (by omega)
      omega
    · obtain rfl : y = z := by omega
      by_cases hm : m < o
      · have := cum_mono y (m := m) (k := o) h2 (by omega) (by omega)
        omega
      · by_cases hm2 : o < m
        · have := cum_mono y (m := o) (k := m) g2 (by omega) (by omega)
          omega
        · obtain rfl : m = o := by omega
          unfold numB
          omega
theorem two_lex {m o : Int} (hm : 0 ≤ m ∧ m ≤ 99) (ho : 0 ≤ o ∧ o ≤ 99) (P Q : Prop) (hPQ : P ↔ Q) : (m < o ∨ (m = o ∧ P)) ↔ (m / 10 % 10 < o / 10 % 10 ∨ (m / 10 % 10 = o / 10 % 10 ∧ (m % 10 < o % 10 ∨ (m % 10 = o % 10 ∧ Q)))) := by
  by_cases hq : Q
  · have hp := hPQ.2 hq
    simp only [hp, hq, and_true]
    omega
  · have hp : ¬ P := fun h => hq (hPQ.1 h)
    simp only [hp, hq, and_false, or_false]
    omega
theorem one_lex {m o : Int} (P : Prop) : (m < o ∨ (m = o ∧ P)) ↔ (m / 10 < o / 10 ∨ (m / 10 = o / 10 ∧ (m % 10 < o % 10 ∨ (m % 10 = o % 10 ∧ P)))) := by
  by_cases hp : P
  · simp only [hp, and_true]
    omega
  · simp only [hp, and_false, or_false]
    omega
theorem four_lex {m o : Int} (hm : 0 ≤ m ∧ m ≤ 9999) (ho : 0 ≤ o ∧ o ≤ 9999) (P Q : Prop) (hPQ : P ↔ Q) : (m < o ∨ (m = o ∧ P)) ↔ (m / 1000 % 10 < o / 1000 % 10 ∨ (m / 1000 % 10 = o / 1000 % 10 ∧ (m / 100 % 10 < o / 100 % 10 ∨ (m / 100 % 10 = o / 100 % 10 ∧ (m / 10 % 10 < o / 10 % 10 ∨ (m / 10 % 10 = o / 10 % 10 ∧ (m % 10 < o % 10 ∨ (m % 10 = o % 10 ∧ Q)))))))) := by
  have a1 : m / 10 / 10 = m / 100 := by omega
  have a2 : o / 10 / 10 = o / 100 := by omega
  have a3 : m / 100 / 10 = m / 1000 := by omega
  have a4 : o / 100 / 10 = o / 1000 := by omega
  have a5 : m / 1000 % 10 = m / 1000 := by omega
  have a6 : o / 1000 % 10 = o / 1000 := by omega
  rw [hPQ, one_lex, one_lex (m := m / 10), a1, a2, one_lex (m := m / 100), a3, a4, a5, a6]
theorem dg_eq {x z : Int} : dg x = dg z ↔ x % 10 = z % 10 := ⟨dg_inj, fun h => by unfold dg; rw [h]⟩
theorem txL_lt {y m d z o c : Int} (hy : 0 ≤ y ∧ y ≤ 9999) (hz : 0 ≤ z ∧ z ≤ 9999) (hm : 0 ≤ m ∧ m ≤ 99) (ho : 0 ≤ o ∧ o ≤ 99) (hd : 0 ≤ d ∧ d ≤ 99) (hc : 0 ≤ c ∧ c ≤ 99) :
    txL y m d < txL z o c ↔ y < z ∨ (y = z ∧ (m < o ∨ (m = o ∧ d < c))) := by
  have e3 : d < c ↔ (d / 10 % 10 < c / 10 % 10 ∨ (d / 10 % 10 = c / 10 % 10 ∧ d % 10 < c % 10)) := by omega
  rw [four_lex hy hz _ _ (two_lex hm ho _ _ e3)]
  unfold txL
  simp only [List.cons_lt_cons_iff, dg_lt, dg_eq, UInt8.lt_irrefl, false_or, true_and, List.not_lt_nil, and_false, or_false]
theorem txN_lt {n k : Int} (h0 : 0 ≤ n) (hn : n ≤ 100000) (k0 : 0 ≤ k) (hk : k ≤ 100000) : txN n < txN k ↔ n < k := by
  obtain ⟨y, m, d, a⟩ := date_of h0
  obtain ⟨z, o, c, b⟩ := date_of k0
  obtain ⟨a1, a2, a3⟩ := date_small a hn
  obtain ⟨b1, b2, b3⟩ := date_small b hk
  rw [txN_eq a, txN_eq b, txL_lt a1 b1 a2 b2 a3 b3, date_lex a b]

/-! ### numbers read from digits -/
theorem mag_step {x : Int} {l : List UInt8} {acc : Nat} (h : acc < 100000) : Lib.parseUint10 acc (dg x :: l) = Lib.parseUint10 (acc * 10 + (x % 10).toNat) l := by
  have e := dg_nat x
  have e2 : (dg x).toNat - 48 = (x % 10).toNat := by omega
  rw [Lib.parseUint10, if_pos (by omega), if_neg (by omega), if_neg (by omega), e2]
theorem atoi_dg {x : Int} {l : List UInt8} : Lib.atoiAll (dg x :: l) = match Lib.parseUint10 0 (dg x :: l) with | Lib.NumEnd.syntax => Lib.NumEnd.syntax | .range => .range | .ok u => if 9223372036854775808 ≤ u then .range else .ok (u : Int) := by
  have e := dg_nat x
  have n1 : ¬ (dg x).toNat = 43 := by omega
  have n2 : ¬ (dg x).toNat = 45 := by omega
  unfold Lib.atoiAll Lib.parseMag
  simp only [n1, n2, or_self, if_false, reduceCtorEq, not_false_eq_true, true_and, false_and]
  cases Lib.parseUint10 0 (dg x :: l) <;> rfl
theorem atoi_four {y : Int} (h0 : 0 ≤ y) (h1 : y ≤ 9999) : Lib.atoiAll [dg (y / 1000), dg (y / 100), dg (y / 10), dg y] = .ok y := by
  rw [atoi_dg, mag_step (by omega), mag_step (by omega), mag_step (by omega), mag_step (by omega)]
  simp only [Lib.parseUint10]
  rw [if_neg (by omega)]
  congr 1
  omega
theorem atoi_two {m : Int} (h0 : 0 ≤ m) (h1 : m ≤ 99) : Lib.atoiAll [dg (m / 10), dg m] = .ok m := by
  rw [atoi_dg, mag_step (by omega), mag_step (by omega)]
  simp only [Lib.parseUint10]
  rw [if_neg (by omega)]
  congr 1
  omega
/-- what Parse comes to by the numbers of its parts, and the text of what Make returns -/
theorem par_make {l : List UInt8} {a b c : Int} (ha : ∀ k, Lib.atoiAll (l.take 4) = .ok k → a = k) (hb : ∀ k, Lib.atoiAll ((l.drop 5).take 2) = .ok k → b = k) (hc : ∀ k, Lib.atoiAll (l.drop 8) = .ok k → c = k) :
    parD l = if (mkV a b c).2 = 0 ∧ txN (mkV a b c).1 = l then ((mkV a b c).1, 0) else (0, 5) := by
  split
  · rename_i h
    rcases mkV_ok a b c with ⟨-, h1, h2⟩ | h1 | h1
    · exact par_yes (date_ge h1) h2 h.2
    · rw [h1] at h; simp at h
    · rw [h1] at h; simp at h
  · rename_i h
    refine par_no fun n h0 hn e => h ?_
    obtain ⟨y, m, d, hD⟩ := date_of h0
    obtain ⟨a1, a2, a3⟩ := date_small hD hn
    have e2 := e
    rw [txN_eq hD] at e
    subst e
    have f1 := ha y (atoi_four a1.1 a1.2)
    have f2 := hb m (atoi_two a2.1 a2.2)
    have f3 := hc d (atoi_two a3.1 a3.2)
    subst f1
    subst f2
    subst f3
    rw [mkV_date hD hn]
    exact ⟨rfl, e2⟩

/-! ### the reference's way -/
def isD (c : UInt8) : Bool := decide (48 ≤ c.toNat) && decide (c.toNat ≤ 57)
def valL (l : List UInt8) : Nat := l.foldl (fun n c => 10 * n + (c.toNat - 48)) 0
/-- the value of digits, -1 if they are none -/
def valI (l : List UInt8) : Int := if l.all isD = true then (valL l : Int) else -1
theorem isD_iff (c : UInt8) : isD c = true ↔ 48 ≤ c.toNat ∧ c.toNat ≤ 57 := by unfold isD; simp
theorem isD_dg (x : Int) : isD (dg x) = true := by rw [isD_iff, dg_nat]; omega
/-- digits, written again -/
theorem dg_back (c : UInt8) (h : isD c = true) : dg (((c.toNat - 48 : Nat) : Int)) = c := by
  rw [isD_iff] at h
  exact dg_of h.1 h.2 (by omega)
theorem par_ref {l : List UInt8} (hl : l.length = 10) :
    parD l = if (l[4]? = some 45 ∧ l[7]? = some 45) ∧ (0 ≤ valI (l.take 4) ∧ 0 ≤ valI ((l.drop 5).take 2) ∧ 0 ≤ valI (l.drop 8)) ∧ (mkV (valI (l.take 4)) (valI ((l.drop 5).take 2)) (valI (l.drop 8))).2 = 0
      then ((mkV (valI (l.take 4)) (valI ((l.drop 5).take 2)) (valI (l.drop 8))).1, 0) else (0, 5) := by
  match l, hl with
  | [c0, c1, c2, c3, c4, c5, c6, c7, c8, c9], _ =>
  have k1 : ([c0, c1, c2, c3, c4, c5, c6, c7, c8, c9] : List UInt8).take 4 = [c0, c1, c2, c3] := rfl
  have k2 : (([c0, c1, c2, c3, c4, c5, c6, c7, c8, c9] : List UInt8).drop 5).take 2 = [c5, c6] := rfl
  have k3 : ([c0, c1, c2, c3, c4, c5, c6, c7, c8, c9] : List UInt8).drop 8 = [c8, c9] := rfl
  rw [k1, k2, k3]
  have v4 : ∀ a b c d : UInt8, 0 ≤ valI [a, b, c, d] → (isD a = true ∧ isD b = true ∧ isD c = true ∧ isD d = true) ∧ valI [a, b, c, d] = 1000 * ((a.toNat - 48 : Nat) : Int) + 100 * ((b.toNat - 48 : Nat) : Int) + 10 * ((c.toNat - 48 : Nat) : Int) + ((d.toNat - 48 : Nat) : Int) := by
    intro a b c d h
    unfold valI at h ⊢
    split at h
    · rename_i hh
      rw [if_pos hh]
      simp at hh
      exact ⟨hh, by simp [valL] <;> omega⟩
    · omega
  have v2 : ∀ a b : UInt8, 0 ≤ valI [a, b] → (isD a = true ∧ isD b = true) ∧ valI [a, b] = 10 * ((a.toNat - 48 : Nat) : Int) + ((b.toNat - 48 : Nat) : Int) := by
    intro a b h
    unfold valI at h ⊢
    split at h
    · rename_i hh
      rw [if_pos hh]
      simp at hh
      exact ⟨hh, by simp [valL] <;> omega⟩
    · omega
  split
  · rename_i h
    obtain ⟨⟨h4, h7⟩, ⟨p1, p2, p3⟩, h8⟩ := h
    simp only [List.getElem?_cons_succ, List.getElem?_cons_zero, Option.some.injEq] at h4 h7
    subst h4
    subst h7
    obtain ⟨⟨a0, a1, a2, a3⟩, e1⟩ := v4 _ _ _ _ p1
    obtain ⟨⟨a5, a6⟩, e2⟩ := v2 _ _ p2
    obtain ⟨⟨a8, a9⟩, e3⟩ := v2 _ _ p3
    generalize valI [c0, c1, c2, c3] = y at *
    generalize valI [c5, c6] = m at *
    generalize valI [c8, c9] = d at *
    rcases mkV_ok y m d with ⟨-, g1, g2⟩ | g1 | g1
    · refine par_yes (date_ge g1) g2 ?_
      rw [txN_eq g1]
      unfold txL
      rw [isD_iff] at a0 a1 a2 a3 a5 a6 a8 a9
      rw [dg_of a0.1 a0.2 (x := y / 1000) (by omega), dg_of a1.1 a1.2 (x := y / 100) (by omega), dg_of a2.1 a2.2 (x := y / 10) (by omega), dg_of a3.1 a3.2 (x := y) (by omega),
        dg_of a5.1 a5.2 (x := m / 10) (by omega), dg_of a6.1 a6.2 (x := m) (by omega), dg_of a8.1 a8.2 (x := d / 10) (by omega), dg_of a9.1 a9.2 (x := d) (by omega)]
    · rw [g1] at h8; simp at h8
    · rw [g1] at h8; simp at h8
  · rename_i h
    refine par_no fun n h0 hn e => h ?_
    obtain ⟨y, m, d, hD⟩ := date_of h0
    obtain ⟨b1, b2, b3⟩ := date_small hD hn
    rw [txN_eq hD] at e
    unfold txL at e
    simp only [List.cons.injEq, and_true] at e
    obtain ⟨rfl, rfl, rfl, rfl, rfl, rfl, rfl, rfl, rfl, rfl⟩ := e
    have w1 : valI [dg (y / 1000), dg (y / 100), dg (y / 10), dg y] = y := by
      unfold valI
      rw [if_pos (by simp [isD_dg])]
      simp [valL, dg_nat]
      omega
    have w2 : ∀ x : Int, 0 ≤ x → x ≤ 99 → valI [dg (x / 10), dg x] = x := by
      intro x x0 x1
      unfold valI
      rw [if_pos (by simp [isD_dg])]
      simp [valL, dg_nat]
      omega
    rw [w1, w2 m b2.1 b2.2, w2 d b3.1 b3.2, mkV_date hD hn]
    exact ⟨⟨rfl, rfl⟩, ⟨b1.1, b2.1, b3.1⟩, rfl⟩
end Go.Proofs.YtdbffhcckmmgfaaDoor.Dt
