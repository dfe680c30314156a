/- Plain mathematics of layer 5's reference: binary digits, the least one first. -/
namespace Go.Proofs.YtflnhjfmlminoaaDoor.Fr

/-- the binary digits of a number, the least one first -/
def bin (n : Nat) : List Nat := if h : n = 0 then [] else n % 2 :: bin (n / 2)
termination_by n
decreasing_by omega
theorem bin_zero : bin 0 = [] := by rw [bin]; simp
theorem bin_step {n : Nat} (h : n ≠ 0) : bin n = n % 2 :: bin (n / 2) := by rw [bin, dif_neg h]

/-- the value of digits -/
def bv : List Nat → Nat
  | [] => 0
  | b :: l => b + 2 * bv l
/-- are all digits 0 or 1? -/
def Bits (l : List Nat) : Prop := ∀ x ∈ l, x ≤ 1
theorem Bits.nil : Bits [] := fun _ h => by cases h
theorem Bits.cons {x : Nat} {l : List Nat} (hx : x ≤ 1) (h : Bits l) : Bits (x :: l) := fun y hy => by
  rcases List.mem_cons.1 hy with rfl | hy
  · exact hx
  · exact h y hy
theorem Bits.append {a b : List Nat} (h : Bits a) (k : Bits b) : Bits (a ++ b) := fun y hy => by
  rcases List.mem_append.1 hy with hy | hy
  · exact h y hy
  · exact k y hy
theorem Bits.take {l : List Nat} (h : Bits l) (n : Nat) : Bits (l.take n) := fun y hy => h y (List.mem_of_mem_take hy)
theorem Bits.drop {l : List Nat} (h : Bits l) (n : Nat) : Bits (l.drop n) := fun y hy => h y (List.mem_of_mem_drop hy)
theorem Bits.tail {x : Nat} {l : List Nat} (h : Bits (x :: l)) : x ≤ 1 ∧ Bits l := ⟨h x (List.mem_cons_self ..), fun y hy => h y (List.mem_cons_of_mem _ hy)⟩
theorem Bits.get {l : List Nat} (h : Bits l) (i : Nat) (hi : i < l.length) : l[i] ≤ 1 := h _ (List.getElem_mem hi)
theorem Bits.set {l : List Nat} (h : Bits l) (i x : Nat) (hx : x ≤ 1) : Bits (l.set i x) := fun y hy => by
  rcases List.mem_or_eq_of_mem_set hy with hy | rfl
  · exact h y hy
  · exact hx

theorem bin_bits (n : Nat) : Bits (bin n) := by
  induction n using Nat.strongRecOn with
  | _ n ih =>
    by_cases h : n = 0
    · subst h; rw [bin_zero]; exact Bits.nil
    · rw [bin_step h]
      exact Bits.cons (by omega) (ih _ (by omega))
theorem bv_bin (n : Nat) : bv (bin n) = n := by
  induction n using Nat.strongRecOn with
  | _ n ih =>
    by_cases h : n = 0
    · subst h; rw [bin_zero]; rfl
    · rw [bin_step h]
      show n % 2 + 2 * bv (bin (n / 2)) = n
      rw [ih _ (by omega)]
      omega
theorem bin_inj {a b : Nat} (h : bin a = bin b) : a = b := by rw [← bv_bin a, ← bv_bin b, h]
theorem bv_lt : ∀ (l : List Nat), Bits l → bv l < 2 ^ l.length
  | [], _ => by simp [bv]
  | x :: l, h => by
    have := bv_lt l h.tail.2
    have := h.tail.1
    rw [List.length_cons, Nat.pow_succ]
    show x + 2 * bv l < _
    omega
theorem bv_append : ∀ (a b : List Nat), bv (a ++ b) = bv a + 2 ^ a.length * bv b
  | [], b => by simp [bv]
  | x :: a, b => by
    show x + 2 * bv (a ++ b) = x + 2 * bv a + 2 ^ (a.length + 1) * bv b
    rw [bv_append a b, Nat.pow_succ, Nat.mul_add, Nat.mul_comm (2 ^ a.length) 2, Nat.mul_assoc, Nat.add_assoc]
theorem bv_snoc (a : List Nat) (x : Nat) : bv (a ++ [x]) = bv a + 2 ^ a.length * x := by
  rw [bv_append]
  simp [bv]
theorem bv_zeros (k : Nat) : bv (List.replicate k 0) = 0 := by
  induction k with
  | zero => rfl
  | succ k ih =>
    show 0 + 2 * bv (List.replicate k 0) = 0
    rw [ih]
/-- digits without a zero at the end are those of their value -/
theorem canon : ∀ (l : List Nat), Bits l → (l = [] ∨ 2 ^ (l.length - 1) ≤ bv l) → l = bin (bv l)
  | [], _, _ => by rw [show bv [] = 0 from rfl, bin_zero]
  | x :: l, hb, hn => by
    have hx := hb.tail.1
    have hl := hb.tail.2
    have hv : bv (x :: l) = x + 2 * bv l := rfl
    have hn' : 2 ^ l.length ≤ x + 2 * bv l := by
      rcases hn with h | h
      · cases h
      · simpa [hv] using h
    have hne : bv (x :: l) ≠ 0 := by
      have := Nat.two_pow_pos l.length
      omega
    rw [bin_step hne, hv, show (x + 2 * bv l) % 2 = x by omega, show (x + 2 * bv l) / 2 = bv l by omega]
    congr 1
    refine canon l hl ?_
    cases l with
    | nil => exact .inl rfl
    | cons y l' =>
      right
      rw [List.length_cons, Nat.pow_succ] at hn'
      rw [List.length_cons, Nat.add_sub_cancel]
      omega
theorem bin_length_pos {n : Nat} (h : n ≠ 0) : 0 < (bin n).length := by rw [bin_step h]; simp
theorem bin_lt (n : Nat) : n < 2 ^ (bin n).length := by
  have := bv_lt _ (bin_bits n)
  rwa [bv_bin] at this
theorem bin_ge (n : Nat) : n ≠ 0 → 2 ^ ((bin n).length - 1) ≤ n := by
  induction n using Nat.strongRecOn with
  | _ n ih =>
    intro h
    rw [bin_step h, List.length_cons, Nat.add_sub_cancel]
    by_cases h2 : n / 2 = 0
    · rw [h2, bin_zero]
      simp
      omega
    · have := ih (n / 2) (by omega) h2
      have hp := bin_length_pos h2
      have e : 2 ^ (bin (n / 2)).length = 2 ^ ((bin (n / 2)).length - 1) * 2 := by
        rw [← Nat.pow_succ]
        congr 1
        omega
      omega
theorem bin_length_le {n k : Nat} (h : n < 2 ^ k) : (bin n).length ≤ k := by
  by_cases h0 : n = 0
  · subst h0; rw [bin_zero]; exact Nat.zero_le _
  · refine Nat.le_of_not_lt fun hk => ?_
    have h1 := bin_ge n h0
    have h2 : 2 ^ k ≤ 2 ^ ((bin n).length - 1) := Nat.pow_le_pow_right (by decide) (by omega)
    omega
theorem bin_nil {n : Nat} : bin n = [] ↔ n = 0 := by
  constructor
  · intro h
    rw [← bv_bin n, h]
    rfl
  · rintro rfl
    exact bin_zero

/-! ### what is below a place -/
/-- the i first digits of a number -/
theorem bv_take : ∀ (n i : Nat), bv ((bin n).take i) = n % 2 ^ i
  | n, 0 => by simp [bv, Nat.mod_one]
  | n, i + 1 => by
    by_cases h : n = 0
    · subst h; rw [bin_zero]; simp [bv]
    · rw [bin_step h, List.take_succ_cons]
      show n % 2 + 2 * bv ((bin (n / 2)).take i) = _
      rw [bv_take (n / 2) i, Nat.pow_succ, Nat.mul_comm (2 ^ i) 2, Nat.mod_mul]
/-- digit i -/
theorem bin_get (n i : Nat) (h : i < (bin n).length) : (bin n)[i] = n / 2 ^ i % 2 := by
  induction i generalizing n with
  | zero =>
    by_cases h0 : n = 0
    · subst h0; rw [bin_zero] at h; simp at h
    · have := bin_step h0
      simp [this]
  | succ i ih =>
    by_cases h0 : n = 0
    · subst h0; rw [bin_zero] at h; simp at h
    · have hs := bin_step h0
      have h' : i < (bin (n / 2)).length := by
        rw [hs] at h
        simpa using h
      simp only [hs, List.getElem_cons_succ]
      rw [ih (n / 2) h', Nat.div_div_eq_div_mul, Nat.pow_succ, Nat.mul_comm 2]
theorem bin_drop (n i : Nat) : (bin n).drop i = bin (n / 2 ^ i) := by
  induction i generalizing n with
  | zero => simp
  | succ i ih =>
    by_cases h0 : n = 0
    · subst h0; rw [bin_zero]; simp [bin_zero]
    · rw [bin_step h0, List.drop_succ_cons, ih, Nat.div_div_eq_div_mul, Nat.pow_succ, Nat.mul_comm 2]

/-! ### trim -/
theorem take_bin (l : List Nat) (n : Nat) (hb : Bits l) (hn : n ≤ l.length) (hz : ∀ i (h : i < l.length), n ≤ i → l[i] = 0) (hl : n = 0 ∨ ∃ h : n - 1 < l.length, l[n - 1] ≠ 0) : l.take n = bin (bv l) := by
  have hd : bv (l.drop n) = 0 := by
    have : l.drop n = List.replicate (l.length - n) 0 := by
      apply List.ext_getElem
      · simp
      · intro i h1 h2
        simp at h1
        simp [hz (n + i) (by omega) (by omega)]
    rw [this, bv_zeros]
  have he : bv l = bv (l.take n) := by
    conv => lhs; rw [← List.take_append_drop n l]
    rw [bv_append, hd]
    simp
  rw [he]
  refine canon _ (hb.take n) ?_
  rcases hl with rfl | ⟨h, hne⟩
  · left; simp
  · right
    have hlen : (l.take n).length = n := by rw [List.length_take]; omega
    by_cases h0 : n = 0
    · subst h0
      simp [bv] at *
      exact absurd (hz 0 h) hne
    · have hs : l.take n = l.take (n - 1) ++ [l[n - 1]] := by
        have := List.take_succ_eq_append_getElem (i := n - 1) (l := l) h
        rwa [show n - 1 + 1 = n by omega] at this
      have hx := hb.get (n - 1) h
      rw [hlen, hs, bv_snoc, List.length_take]
      rw [show min (n - 1) l.length = n - 1 by omega, show l[n - 1] = 1 by omega]
      omega
end Go.Proofs.YtflnhjfmlminoaaDoor.Fr
