/- Different lists have different joined texts; the digests of lists: plain. -/
import Derived.Test.YteapfoadfjjicaaDoorDigJoin
import Derived.Test.YteapfoadfjjicaaDoorDigInj
import Derived.Test.YteapfoadfjjicaaDoorRefW5
namespace Go.Proofs.YteapfoadfjjicaaDoor.Dig
set_option linter.unusedVariables false
set_option linter.unusedSimpArgs false

theorem ofNat_ne (d : Nat) (h : d < 10) : UInt8.ofNat (48 + d) ≠ 58 := by
  intro h2
  have h3 := congrArg UInt8.toNat h2
  simp at h3
  omega

theorem dec_ne (n : Nat) : ∀ c ∈ Lib.decDigits n, c ≠ 58 := by
  induction n using Nat.strongRecOn with
  | _ n ih =>
    intro c hc
    by_cases h : n < 10
    · rw [Lib.decDigits_one h] at hc
      simp only [List.mem_singleton] at hc
      subst hc
      exact ofNat_ne n h
    · rw [Lib.decDigits, dif_neg h, List.mem_append] at hc
      rcases hc with hc | hc
      · exact ih (n / 10) (by omega) c hc
      · simp only [List.mem_singleton] at hc
        subst hc
        exact ofNat_ne _ (Nat.mod_lt _ (by decide))

def valD (l : List UInt8) : Nat := l.foldl (fun a c => a * 10 + (c.toNat - 48)) 0
theorem valD_snoc (l : List UInt8) (c : UInt8) : valD (l ++ [c]) = valD l * 10 + (c.toNat - 48) := by simp [valD]
theorem valD_digit (d : Nat) (h : d < 10) : (UInt8.ofNat (48 + d)).toNat - 48 = d := by
  simp
  omega

theorem valD_dec (n : Nat) : valD (Lib.decDigits n) = n := by
  induction n using Nat.strongRecOn with
  | _ n ih =>
    by_cases h : n < 10
    · rw [Lib.decDigits_one h]
      have := valD_snoc [] (UInt8.ofNat (48 + n))
      rw [List.nil_append, valD_digit n h] at this
      rw [this]
      simp [valD]
    · rw [Lib.decDigits, dif_neg h, valD_snoc, ih (n / 10) (by omega), valD_digit _ (Nat.mod_lt _ (by decide))]
      omega

theorem itoa_ne (n : Nat) : ∀ c ∈ Lib.itoa (n : Int), c ≠ 58 := by rw [Lib.itoa_nonneg]; exact dec_ne n
theorem itoa_inj (a b : Nat) (h : Lib.itoa (a : Int) = Lib.itoa (b : Int)) : a = b := by
  rw [Lib.itoa_nonneg, Lib.itoa_nonneg] at h
  rw [← valD_dec a, ← valD_dec b, h]

theorem split_colon : ∀ (A B X Y : List UInt8), (∀ c ∈ A, c ≠ 58) → (∀ c ∈ B, c ≠ 58) → A ++ 58 :: X = B ++ 58 :: Y → A = B ∧ X = Y
  | [], [], X, Y, _, _, h => ⟨rfl, (List.cons.inj h).2⟩
  | [], b :: B, X, Y, _, hB, h => absurd (List.cons.inj h).1.symm (hB b List.mem_cons_self)
  | a :: A, [], X, Y, hA, _, h => absurd (List.cons.inj h).1 (hA a List.mem_cons_self)
  | a :: A, b :: B, X, Y, hA, hB, h => by
    obtain ⟨h1, h2⟩ := List.cons.inj h
    obtain ⟨h3, h4⟩ := split_colon A B X Y (fun c hc => hA c (List.mem_cons_of_mem _ hc)) (fun c hc => hB c (List.mem_cons_of_mem _ hc)) h2
    exact ⟨by rw [h1, h3], h4⟩

theorem joinB_inj : ∀ l m : List ByteArray, joinB l = joinB m → l.map bl = m.map bl
  | [], [], _ => rfl
  | [], s :: r, h => by simp [joinB, encS] at h
  | s :: r, [], h => by simp [joinB, encS] at h
  | s :: r, t :: q, h => by
    simp only [joinB, encS, List.append_assoc, List.cons_append] at h
    obtain ⟨h1, h2⟩ := split_colon _ _ _ _ (itoa_ne s.size) (itoa_ne t.size) h
    have h3 := itoa_inj _ _ h1
    obtain ⟨h4, h5⟩ := List.append_inj h2 (by rw [← Lib.size_eq, ← Lib.size_eq]; exact h3)
    have h6 := joinB_inj r q h5
    simp [h4, h6]

theorem joinB_congr : ∀ l m : List ByteArray, l.map bl = m.map bl → joinB l = joinB m
  | [], [], _ => rfl
  | [], s :: r, h => by simp at h
  | s :: r, [], h => by simp at h
  | s :: r, t :: q, h => by
    simp only [List.map_cons, List.cons.injEq] at h
    have hs : s.size = t.size := by rw [Lib.size_eq, Lib.size_eq]; exact congrArg List.length h.1
    simp only [joinB, encS, hs, h.1, joinB_congr r q h.2]

theorem joinB_same (l m : List ByteArray) : (joinB l == joinB m) = sameB l m := by
  unfold sameB
  rw [Bool.eq_iff_iff]
  simp only [beq_iff_eq, decide_eq_true_eq]
  exact ⟨joinB_inj l m, joinB_congr l m⟩

theorem short_same (l m : List ByteArray) (hl : (joinB l).length ≤ 7) (hm : (joinB m).length ≤ 7) : (dsum (joinB l) == dsum (joinB m)) = sameB l m := by
  rw [← joinB_same, Bool.eq_iff_iff]
  simp only [beq_iff_eq]
  exact ⟨dsum_short _ _ hl hm, fun h => by rw [h]⟩

theorem one_inj (A B : ByteArray) (n : Nat) (hA : A.size = n) (hB : B.size = n) (h9 : n ≤ 9) (hag : (bl A).take (min n 6) = (bl B).take (min n 6)) (h : dsum (joinB [A]) = dsum (joinB [B])) : bl A = bl B := by
  have la : (bl A).length = n := by rw [← Lib.size_eq]; exact hA
  have lb : (bl B).length = n := by rw [← Lib.size_eq]; exact hB
  by_cases h6 : n ≤ 6
  · rw [Nat.min_eq_left h6, List.take_of_length_le (by omega), List.take_of_length_le (by omega)] at hag
    exact hag
  · rw [Nat.min_eq_right (by omega)] at hag
    have e : ∀ S : ByteArray, S.size = n → joinB [S] = UInt8.ofNat (48 + n) :: 58 :: bl S := fun S hS => by
      simp only [joinB, encS, hS, Lib.itoa_nonneg, Lib.decDigits_one (show n < 10 by omega)]
      simp
    rw [e A hA, e B hB] at h
    have h2 := dsum_block (UInt8.ofNat (48 + n) :: 58 :: bl A) (UInt8.ofNat (48 + n) :: 58 :: bl B) (by simp [la, lb]) (by simp [la]; omega) 1 (by simp [la]; omega) (fun i hi => by
      rcases hi with hi | hi
      · match i, hi with
        | 0, _ => rfl
        | 1, _ => rfl
        | j + 2, hj =>
          have h3 := congrArg (·[j]?) hag
          simp only [List.getElem?_take] at h3
          rw [if_pos (by omega), if_pos (by omega)] at h3
          simp only [List.getD_eq_getElem?_getD, List.getElem?_cons_succ]
          rw [h3]
      · rw [getD_far _ _ (by simp [la]; omega), getD_far _ _ (by simp [lb]; omega)]) h
    exact (List.cons.inj (List.cons.inj h2).2).2

end Go.Proofs.YteapfoadfjjicaaDoor.Dig
