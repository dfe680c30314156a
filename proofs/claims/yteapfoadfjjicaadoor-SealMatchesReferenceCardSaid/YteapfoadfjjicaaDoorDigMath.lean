/- Plain mathematics of layer 1 (digest): mixing is one to one, the digest of a text as a list of bytes, digits are one to one. No Go, no program. -/
namespace Go.Proofs.YteapfoadfjjicaaDoor.Dig
set_option linter.unusedVariables false
set_option linter.unusedSimpArgs false

/-! ### Mixing -/

theorem xorShift_inj (s : Nat) (hs : 0 < s) (x y : Nat) (h : x ^^^ x / 2 ^ s = y ^^^ y / 2 ^ s) : x = y := by
  have hz : (x ^^^ y) = (x ^^^ y) >>> s := by
    rw [Nat.shiftRight_xor_distrib, Nat.shiftRight_eq_div_pow, Nat.shiftRight_eq_div_pow]
    have h2 : (x ^^^ x / 2 ^ s) ^^^ (x / 2 ^ s ^^^ y) = (y ^^^ y / 2 ^ s) ^^^ (x / 2 ^ s ^^^ y) := by rw [h]
    have e1 : (x ^^^ x / 2 ^ s) ^^^ (x / 2 ^ s ^^^ y) = x ^^^ y := by
      rw [Nat.xor_assoc, ← Nat.xor_assoc (x / 2 ^ s), Nat.xor_self, Nat.zero_xor]
    have e2 : (y ^^^ y / 2 ^ s) ^^^ (x / 2 ^ s ^^^ y) = x / 2 ^ s ^^^ y / 2 ^ s := by
      rw [Nat.xor_comm y, Nat.xor_comm (x / 2 ^ s) y, Nat.xor_assoc, ← Nat.xor_assoc y, Nat.xor_self, Nat.zero_xor, Nat.xor_comm]
    rw [e1, e2] at h2
    exact h2
  rw [Nat.shiftRight_eq_div_pow] at hz
  have h0 : x ^^^ y = 0 := by
    have hp : 2 ≤ 2 ^ s := by
      have := Nat.pow_le_pow_right (n := 2) (by decide) hs
      simpa using this
    by_cases h : x ^^^ y = 0
    · exact h
    · have hlt : (x ^^^ y) / 2 ^ s < x ^^^ y := Nat.div_lt_self (by omega) (by omega)
      omega
  have h3 : (x ^^^ y) ^^^ y = y := by rw [h0, Nat.zero_xor]
  rw [Nat.xor_assoc, Nat.xor_self, Nat.xor_zero] at h3
  exact h3

theorem mul_inj (C D : Nat) (hC : C * D % 18446744073709551616 = 1) (x y : Nat) (hx : x < 18446744073709551616) (hy : y < 18446744073709551616)
    (h : x * C % 18446744073709551616 = y * C % 18446744073709551616) : x = y := by
  have back : ∀ z, z < 18446744073709551616 → z * C % 18446744073709551616 * D % 18446744073709551616 = z := by
    intro z hz
    rw [Nat.mod_mul_mod, Nat.mul_assoc, Nat.mul_mod, hC]
    omega
  rw [← back x hx, ← back y hy, h]

def mixN (x : Nat) : Nat :=
  ((((x ^^^ x / 2147483648) * 11400714819323198485 % 18446744073709551616) ^^^ ((x ^^^ x / 2147483648) * 11400714819323198485 % 18446744073709551616) / 134217728) * 15074714826142052245 % 18446744073709551616)
    ^^^ ((((x ^^^ x / 2147483648) * 11400714819323198485 % 18446744073709551616) ^^^ ((x ^^^ x / 2147483648) * 11400714819323198485 % 18446744073709551616) / 134217728) * 15074714826142052245 % 18446744073709551616) / 8589934592

theorem xorShift_lt (x s : Nat) (hx : x < 18446744073709551616) : x ^^^ x / s < 18446744073709551616 :=
  Nat.xor_lt_two_pow (n := 64) hx (Nat.lt_of_le_of_lt (Nat.div_le_self _ _) hx)

theorem mixN_lt (x : Nat) : mixN x < 18446744073709551616 := xorShift_lt _ _ (Nat.mod_lt _ (by decide))

theorem mixN_inj (x y : Nat) (hx : x < 18446744073709551616) (hy : y < 18446744073709551616) (h : mixN x = mixN y) : x = y := by
  have h1 := xorShift_inj 33 (by decide) _ _ h
  have h2 := mul_inj 15074714826142052245 6281218453581128637 (by decide) _ _ (xorShift_lt _ _ (Nat.mod_lt _ (by decide))) (xorShift_lt _ _ (Nat.mod_lt _ (by decide))) h1
  have h3 := xorShift_inj 27 (by decide) _ _ h2
  have h4 := mul_inj 11400714819323198485 17428512612931826493 (by decide) _ _ (xorShift_lt _ _ hx) (xorShift_lt _ _ hy) h3
  exact xorShift_inj 31 (by decide) _ _ h4

/-! ### Blocks -/

/-- byte i of a text that bytes 0 follow -/
def byteAt (l : List UInt8) (i : Nat) : Nat := (l.getD i 0).toNat
theorem byteAt_lt (l : List UInt8) (i : Nat) : byteAt l i < 256 := UInt8.toNat_lt _

/-- the number of the j bytes from place p on -/
def numTo (l : List UInt8) (p : Nat) : Nat → Nat
  | 0 => 0
  | j + 1 => numTo l p j * 256 + byteAt l (p + j)

theorem numTo_lt (l : List UInt8) (p j : Nat) : numTo l p j < 256 ^ j := by
  induction j with
  | zero => simp [numTo]
  | succ j ih =>
    have := byteAt_lt l (p + j)
    rw [numTo, Nat.pow_succ]
    omega

def blk (l : List UInt8) (k : Nat) : Nat := numTo l (8 * k) 8
theorem blk_lt (l : List UInt8) (k : Nat) : blk l k < 18446744073709551616 := numTo_lt l _ 8

theorem numTo_congr (l m : List UInt8) (p q : Nat) : ∀ j, (∀ i, i < j → byteAt l (p + i) = byteAt m (q + i)) → numTo l p j = numTo m q j
  | 0, _ => rfl
  | j + 1, h => by rw [numTo, numTo, numTo_congr l m p q j (fun i hi => h i (by omega)), h j (by omega)]

theorem numTo_inj (l m : List UInt8) (p : Nat) : ∀ j, numTo l p j = numTo m p j → ∀ i, i < j → byteAt l (p + i) = byteAt m (p + i)
  | 0, _, i, hi => by omega
  | j + 1, h, i, hi => by
    have a := byteAt_lt l (p + j)
    have b := byteAt_lt m (p + j)
    rw [numTo, numTo] at h
    by_cases hj : i = j
    · subst hj; omega
    · exact numTo_inj l m p j (by omega) i (by omega)

/-! ### The state, and the digest -/

/-- the state after k blocks -/
def stN (l : List UInt8) : Nat → Nat
  | 0 => 7640891576956012809 ^^^ l.length
  | k + 1 => mixN (stN l k ^^^ blk l k)

theorem stN_lt (l : List UInt8) (hl : l.length < 18446744073709551616) : ∀ k, stN l k < 18446744073709551616
  | 0 => Nat.xor_lt_two_pow (n := 64) (by decide) hl
  | _ + 1 => mixN_lt _

def hexDigit (n : Nat) : UInt8 := if n < 10 then (48 + n).toUInt8 else (87 + n).toUInt8

/-- the last k hexadecimal digits of a number, the most significant one first -/
def hexTo (x : Nat) : Nat → List UInt8
  | 0 => []
  | k + 1 => hexTo (x / 16) k ++ [hexDigit (x % 16)]

theorem hexTo_length (x k : Nat) : (hexTo x k).length = k := by
  induction k generalizing x with
  | zero => rfl
  | succ k ih => simp [hexTo, ih]

theorem hexTo_cons (k : Nat) : ∀ x, hexTo x (k + 1) = hexDigit (x / 16 ^ k % 16) :: hexTo x k := by
  induction k with
  | zero => intro x; simp [hexTo]
  | succ k ih =>
    intro x
    rw [hexTo, ih (x / 16), hexTo, Nat.div_div_eq_div_mul, Nat.pow_succ, Nat.mul_comm 16]
    rfl

def hexN (x : Nat) : List UInt8 := hexTo x 16
theorem hexN_length (x : Nat) : (hexN x).length = 16 := hexTo_length x 16

theorem hexDigit_toNat (n : Nat) (h : n < 16) : (hexDigit n).toNat = if n < 10 then 48 + n else 87 + n := by
  unfold hexDigit
  split <;> simp [Nat.toUInt8] <;> omega

theorem hexDigit_inj (a b : Nat) (ha : a < 16) (hb : b < 16) (h : hexDigit a = hexDigit b) : a = b := by
  have h1 := congrArg UInt8.toNat h
  rw [hexDigit_toNat a ha, hexDigit_toNat b hb] at h1
  split at h1 <;> split at h1 <;> omega

theorem hexTo_inj (k : Nat) : ∀ x y, x < 16 ^ k → y < 16 ^ k → hexTo x k = hexTo y k → x = y := by
  induction k with
  | zero => intro x y hx hy _; simp at hx hy; omega
  | succ k ih =>
    intro x y hx hy h
    have hl : (hexTo (x / 16) k).length = (hexTo (y / 16) k).length := by rw [hexTo_length, hexTo_length]
    obtain ⟨h1, h2⟩ := List.append_inj h hl
    have e1 := ih (x / 16) (y / 16) (by rw [Nat.pow_succ] at hx; omega) (by rw [Nat.pow_succ] at hy; omega) h1
    have e2 := hexDigit_inj _ _ (Nat.mod_lt _ (by decide)) (Nat.mod_lt _ (by decide)) (List.cons.inj h2).1
    omega

theorem hexN_inj (x y : Nat) (hx : x < 18446744073709551616) (hy : y < 18446744073709551616) (h : hexN x = hexN y) : x = y := hexTo_inj 16 x y hx hy h

/-- the digest of a text -/
def dsum (l : List UInt8) : List UInt8 := hexN (stN l (l.length / 8 + 1))
theorem dsum_length (l : List UInt8) : (dsum l).length = 16 := hexN_length _

/-- the digests one after the other -/
def dchain (l : List UInt8) : Nat → List UInt8
  | 0 => l
  | n + 1 => dsum (dchain l n)

theorem dchain_add (l : List UInt8) (a : Nat) : ∀ b, dchain (dchain l a) b = dchain l (a + b)
  | 0 => rfl
  | b + 1 => by show dsum (dchain (dchain l a) b) = dsum (dchain l (a + b)); rw [dchain_add l a b]

theorem dchain_size (l : List UInt8) (n : Nat) : (dchain l n).length ≤ max l.length 16 := by
  cases n with
  | zero => exact Nat.le_max_left _ _
  | succ n => show (dsum _).length ≤ _; rw [dsum_length]; exact Nat.le_max_right _ _

/-- a text is a digest -/
def isHex (c : UInt8) : Bool := (48 ≤ c.toNat && c.toNat ≤ 57) || (97 ≤ c.toNat && c.toNat ≤ 102)
def isDig (l : List UInt8) : Bool := l.length == 16 && l.all isHex

theorem hexDigit_isHex (n : Nat) (h : n < 16) : isHex (hexDigit n) = true := by
  unfold isHex
  rw [hexDigit_toNat n h]
  split <;> simp <;> omega

theorem hexTo_isHex (k : Nat) : ∀ x, (hexTo x k).all isHex = true := by
  induction k with
  | zero => intro x; rfl
  | succ k ih =>
    intro x
    rw [hexTo, List.all_append, ih, Bool.true_and]
    simp [hexDigit_isHex _ (Nat.mod_lt x (by decide : 16 > 0))]

theorem dsum_isDig (l : List UInt8) : isDig (dsum l) = true := by
  unfold isDig
  rw [dsum_length]
  simp only [beq_self_eq_true, Bool.true_and]
  exact hexTo_isHex 16 _

end Go.Proofs.YteapfoadfjjicaaDoor.Dig
