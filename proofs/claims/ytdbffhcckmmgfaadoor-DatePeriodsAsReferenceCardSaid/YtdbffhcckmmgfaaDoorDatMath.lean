/- The calendar: leap years, lengths of months, the days before a year and a month; each day has just one date, and the next day the next one. -/
namespace Go.Proofs.YtdbffhcckmmgfaaDoor.Dt

def leapB (y : Int) : Bool := (decide (y % 4 = 0) && !decide (y % 100 = 0)) || decide (y % 400 = 0)
def leapI (y : Int) : Int := if leapB y = true then 1 else 0
def lenM (y m : Int) : Int := if m = 2 then 28 + leapI y else if m = 4 ∨ m = 6 ∨ m = 9 ∨ m = 11 then 30 else 31
def firstN (y : Int) : Int := 365 * (y - 1800) + ((y - 1) / 4 - (y - 1) / 100 + (y - 1) / 400) - 436
/-- the days of a year before a month -/
def cum (y m : Int) : Int :=
  if m ≤ 1 then 0 else if m = 2 then 31 else leapI y + (if m = 3 then 59 else if m = 4 then 90 else if m = 5 then 120 else if m = 6 then 151 else if m = 7 then 181 else if m = 8 then 212 else if m = 9 then 243 else if m = 10 then 273 else if m = 11 then 304 else if m = 12 then 334 else 365)
/-- the number of a date -/
def numB (y m d : Int) : Int := firstN y + cum y m + d - 1
/-- a day and its date -/
def Date (n y m d : Int) : Prop := 1800 ≤ y ∧ 1 ≤ m ∧ m ≤ 12 ∧ 1 ≤ d ∧ d ≤ lenM y m ∧ numB y m d = n

theorem leapI_cases (y : Int) : leapI y = 0 ∨ leapI y = 1 := by
  unfold leapI
  split
  · exact .inr rfl
  · exact .inl rfl
theorem leapI_bd (y : Int) : 0 ≤ leapI y ∧ leapI y ≤ 1 := by
  rcases leapI_cases y with h | h <;> omega
theorem leapB_iff (y : Int) : leapB y = true ↔ (y % 4 = 0 ∧ y % 100 ≠ 0) ∨ y % 400 = 0 := by
  unfold leapB
  simp
theorem first_succ (y : Int) : firstN (y + 1) = firstN y + 365 + leapI y := by
  unfold firstN leapI
  split
  · rename_i h
    have h := (leapB_iff y).1 h
    omega
  · rename_i h
    have h : ¬ ((y % 4 = 0 ∧ y % 100 ≠ 0) ∨ y % 400 = 0) := fun k => h ((leapB_iff y).2 k)
    omega
theorem first_mono {y z : Int} (h : y + 1 ≤ z) : firstN (y + 1) ≤ firstN z := by
  unfold firstN
  omega
theorem first_ge {y : Int} (h : 1800 ≤ y) : 0 ≤ firstN y := by
  unfold firstN
  omega
theorem month_cases {m : Int} (h1 : 1 ≤ m) (h2 : m ≤ 12) : m = 1 ∨ m = 2 ∨ m = 3 ∨ m = 4 ∨ m = 5 ∨ m = 6 ∨ m = 7 ∨ m = 8 ∨ m = 9 ∨ m = 10 ∨ m = 11 ∨ m = 12 := by omega
theorem cum_one (y : Int) : cum y 1 = 0 := rfl
theorem cum_end (y : Int) : cum y 13 = 365 + leapI y := by
  unfold cum
  simp
  omega
theorem cum_succ (y : Int) {m : Int} (h1 : 1 ≤ m) (h2 : m ≤ 12) : cum y (m + 1) = cum y m + lenM y m := by
  unfold cum lenM
  obtain rfl | rfl | rfl | rfl | rfl | rfl | rfl | rfl | rfl | rfl | rfl | rfl := month_cases h1 h2 <;> simp <;> omega
theorem len_bd (y m : Int) : 28 ≤ lenM y m ∧ lenM y m ≤ 31 := by
  have h := leapI_bd y
  unfold lenM
  split
  · omega
  · split <;> omega
theorem cum_mono (y : Int) {m k : Int} (h1 : 1 ≤ m) (h2 : m + 1 ≤ k) (h3 : k ≤ 13) : cum y (m + 1) ≤ cum y k := by
  have hl := leapI_bd y
  unfold cum
  obtain rfl | rfl | rfl | rfl | rfl | rfl | rfl | rfl | rfl | rfl | rfl | rfl := month_cases h1 (by omega)
  all_goals
    obtain rfl | rfl | rfl | rfl | rfl | rfl | rfl | rfl | rfl | rfl | rfl | rfl : k = 2 ∨ k = 3 ∨ k = 4 ∨ k = 5 ∨ k = 6 ∨ k = 7 ∨ k = 8 ∨ k = 9 ∨ k = 10 ∨ k = 11 ∨ k = 12 ∨ k = 13 := by omega
    all_goals first | omega | (simp; omega) | simp
theorem cum_bd (y : Int) {m : Int} (h1 : 1 ≤ m) (h2 : m ≤ 12) : 0 ≤ cum y m ∧ cum y m ≤ 335 := by
  have hl := leapI_bd y
  unfold cum
  obtain rfl | rfl | rfl | rfl | rfl | rfl | rfl | rfl | rfl | rfl | rfl | rfl := month_cases h1 h2 <;> simp <;> omega
/-- a date is a day of its month, and of its year -/
theorem num_bd {y m d : Int} (h1 : 1 ≤ m) (h2 : m ≤ 12) (h3 : 1 ≤ d) (h4 : d ≤ lenM y m) :
    firstN y + cum y m ≤ numB y m d ∧ numB y m d < firstN y + cum y (m + 1) ∧ firstN y ≤ numB y m d ∧ numB y m d < firstN (y + 1) := by
  have e := cum_succ y h1 h2
  have c := cum_bd y h1 h2
  have f := first_succ y
  have g : cum y (m + 1) ≤ cum y 13 := by
    by_cases h : m = 12
    · subst h; exact Int.le_refl _
    · have := cum_mono y (m := m) (k := 13) h1 (by omega) (by omega)
      exact this
  rw [cum_end] at g
  unfold numB
  omega
theorem date_year {n y m d : Int} (h : Date n y m d) (hn : n ≤ 100000) : y ≤ 2073 := by
  obtain ⟨h1, h2, h3, h4, h5, rfl⟩ := h
  obtain ⟨-, -, k, -⟩ := num_bd h2 h3 h4 h5
  refine Int.not_lt.1 fun hy => ?_
  have := first_mono (y := 2073) (z := y) (by omega)
  have e : firstN (2073 + 1) = 100077 := by decide
  omega
theorem date_ge {n y m d : Int} (h : Date n y m d) : 0 ≤ n := by
  obtain ⟨h1, h2, h3, h4, h5, rfl⟩ := h
  obtain ⟨-, -, k, -⟩ := num_bd h2 h3 h4 h5
  have := first_ge h1
  omega
theorem date_inj {n y m d z k e : Int} (h : Date n y m d) (g : Date n z k e) : y = z ∧ m = k ∧ d = e := by
  obtain ⟨h1, h2, h3, h4, h5, h6⟩ := h
  obtain ⟨g1, g2, g3, g4, g5, g6⟩ := g
  obtain ⟨a1, a2, a3, a4⟩ := num_bd h2 h3 h4 h5
  obtain ⟨b1, b2, b3, b4⟩ := num_bd g2 g3 g4 g5
  have hy : y = z := by
    refine Int.le_antisymm (Int.not_lt.1 fun hl => ?_) (Int.not_lt.1 fun hl => ?_)
    · have := first_mono (y := z) (z := y) (by omega)
      omega
    · have := first_mono (y := y) (z := z) (by omega)
      omega
  subst hy
  have hm : m = k := by
    refine Int.le_antisymm (Int.not_lt.1 fun hl => ?_) (Int.not_lt.1 fun hl => ?_)
    · have := cum_mono y (m := k) (k := m) g2 (by omega) (by omega)
      omega
    · have := cum_mono y (m := m) (k := k) h2 (by omega) (by omega)
      omega
  subst hm
  refine ⟨rfl, rfl, ?_⟩
  unfold numB at h6 g6
  omega
/-- the date of the next day -/
theorem date_next {n y m d : Int} (h : Date n y m d) :
    (d < lenM y m ∧ Date (n + 1) y m (d + 1)) ∨ (d = lenM y m ∧ m < 12 ∧ Date (n + 1) y (m + 1) 1) ∨ (d = lenM y m ∧ m = 12 ∧ Date (n + 1) (y + 1) 1 1) := by
  obtain ⟨h1, h2, h3, h4, h5, h6⟩ := h
  by_cases hd : d < lenM y m
  · refine .inl ⟨hd, h1, h2, h3, by omega, by omega, ?_⟩
    unfold numB at *
    omega
  · have hd : d = lenM y m := by omega
    have e := cum_succ y h2 h3
    by_cases hm : m < 12
    · refine .inr (.inl ⟨hd, hm, h1, by omega, by omega, by omega, by have := len_bd y (m + 1); omega, ?_⟩)
      unfold numB at *
      omega
    · obtain rfl : m = 12 := by omega
      refine .inr (.inr ⟨hd, rfl, by omega, by omega, by omega, by omega, by have := len_bd (y + 1) 1; omega, ?_⟩)
      have f := first_succ y
      have g := cum_end y
      have k : (12 : Int) + 1 = 13 := rfl
      rw [k] at e
      unfold numB at *
      rw [cum_one]
      omega
theorem date_nat : ∀ k : Nat, ∃ y m d, Date (k : Int) y m d
  | 0 => ⟨1800, 1, 1, by unfold Date; decide⟩
  | k + 1 => by
    obtain ⟨y, m, d, h⟩ := date_nat k
    have e : ((k + 1 : Nat) : Int) = (k : Int) + 1 := by omega
    rw [e]
    rcases date_next h with ⟨-, h⟩ | ⟨-, -, h⟩ | ⟨-, -, h⟩
    · exact ⟨_, _, _, h⟩
    · exact ⟨_, _, _, h⟩
    · exact ⟨_, _, _, h⟩
theorem date_of {n : Int} (h : 0 ≤ n) : ∃ y m d, Date n y m d := by
  obtain ⟨k, rfl⟩ := Int.eq_ofNat_of_zero_le h
  exact date_nat k

/-- what Make returns -/
def mkV (y m d : Int) : Int × Int :=
  if y < 1800 ∨ 2073 < y then (0, 9) else if m < 1 ∨ 12 < m ∨ d < 1 ∨ lenM y m < d then (0, 1) else if 100000 < numB y m d then (0, 9) else (numB y m d, 0)
theorem mkV_date {n y m d : Int} (h : Date n y m d) (hn : n ≤ 100000) : mkV y m d = (n, 0) := by
  have hy := date_year h hn
  obtain ⟨h1, h2, h3, h4, h5, rfl⟩ := h
  unfold mkV
  rw [if_neg (by omega), if_neg (by omega), if_neg (by omega)]
/-- Make has no error just for the date of a day -/
theorem mkV_ok (y m d : Int) : ((mkV y m d).2 = 0 ∧ Date (mkV y m d).1 y m d ∧ (mkV y m d).1 ≤ 100000) ∨ (mkV y m d = (0, 9) ∨ mkV y m d = (0, 1)) := by
  unfold mkV
  split
  · exact .inr (.inl rfl)
  · split
    · exact .inr (.inr rfl)
    · split
      · exact .inr (.inl rfl)
      · exact .inl ⟨rfl, ⟨by omega, by omega, by omega, by omega, by omega, rfl⟩, by omega⟩

/-- the month that comes k months after one -/
def moV (y m d k : Int) : Int × Int :=
  if 12 * y + m - 1 + k < 21600 ∨ 24888 ≤ 12 * y + m - 1 + k then (0, 9)
  else mkV ((12 * y + m - 1 + k) / 12) ((12 * y + m - 1 + k) % 12 + 1) (min d (lenM ((12 * y + m - 1 + k) / 12) ((12 * y + m - 1 + k) % 12 + 1)))
theorem moV_ok {y m d k : Int} (hd : 1 ≤ d) :
    (∃ n z o c, moV y m d k = (n, 0) ∧ Date n z o c ∧ n ≤ 100000 ∧ 12 * z + o = 12 * y + m + k ∧ c = min d (lenM z o)) ∨ (moV y m d k = (0, 9) ∧ (12 * y + m - 1 + k < 21600 ∨ 24885 ≤ 12 * y + m - 1 + k)) := by
  unfold moV
  split
  · exact .inr ⟨rfl, by omega⟩
  · generalize hz : (12 * y + m - 1 + k) / 12 = z
    generalize ho : (12 * y + m - 1 + k) % 12 + 1 = o
    have hl := len_bd z o
    unfold mkV
    rw [if_neg (by omega), if_neg (by omega)]
    split
    · rename_i hn
      refine .inr ⟨rfl, .inr ?_⟩
      refine Int.not_lt.1 fun hlt => ?_
      by_cases hz2 : z ≤ 2072
      · obtain ⟨-, -, -, b⟩ := num_bd (y := z) (m := o) (d := min d (lenM z o)) (by omega) (by omega) (by omega) (by omega)
        have c := first_mono (y := z) (z := 2073) (by omega)
        have e : firstN 2073 = 99712 := by decide
        omega
      · obtain rfl : z = 2073 := by omega
        obtain ⟨-, b, -, -⟩ := num_bd (y := 2073) (m := o) (d := min d (lenM 2073 o)) (by omega) (by omega) (by omega) (by omega)
        have c := cum_mono 2073 (m := o) (k := 10) (by omega) (by omega) (by omega)
        have e : firstN 2073 = 99712 := by decide
        have f : cum 2073 10 = 273 := by decide
        omega
    · rename_i hn
      exact .inl ⟨_, z, o, _, rfl, ⟨by omega, by omega, by omega, by omega, by omega, rfl⟩, by omega, by omega, rfl⟩
/-- months add up for the days up to 28 -/
theorem moV_add {y m d a b n z o c : Int} (hd : 1 ≤ d) (hd2 : d ≤ 28) (h : moV y m d a = (n, 0)) (hz : Date n z o c) (hn : n ≤ 100000) : moV z o c b = moV y m d (a + b) := by
  rcases moV_ok (y := y) (m := m) (k := a) hd with ⟨n', z', o', c', e, hD, hN, hs, hc⟩ | ⟨e, -⟩
  · rw [e] at h
    obtain rfl : n' = n := by simpa using h
    obtain ⟨rfl, rfl, rfl⟩ := date_inj hD hz
    have hl := len_bd z' o'
    obtain rfl : c' = d := by omega
    unfold moV
    rw [show 12 * z' + o' - 1 + b = 12 * y + m - 1 + (a + b) by omega]
  · rw [e] at h
    simp at h

/-- the day of the week -/
def wkV (n : Int) : Int := (n + 2) % 7
end Go.Proofs.YtdbffhcckmmgfaaDoor.Dt
