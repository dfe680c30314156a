/- Plain mathematics of layer 4 (lexer): the tokens of a text, and what the promises say of them. No Go, no program. -/
import Derived.Test.YtcabhanmeookkaaDoorLexMath
namespace Go.Proofs.YtcabhanmeookkaaDoor.Lx
set_option linter.unusedVariables false
set_option linter.unusedSimpArgs false

structure Tok where
  kind : Nat
  pos : Nat
  n : Nat
  text : List UInt8

inductive Res where
  | err (e p : Nat)
  | toks (l : List Tok)

def Res.pre (ts : List Tok) : Res → Res
  | .err e p => .err e p
  | .toks us => .toks (ts ++ us)
theorem Res.pre_nil (r : Res) : r.pre [] = r := by cases r <;> rfl
theorem Res.pre_pre (a b : List Tok) (r : Res) : (r.pre b).pre a = r.pre (a ++ b) := by
  cases r
  · rfl
  · simp [Res.pre]

/-- the tokens of what is left of a text, which begins at p; 'left' is how many more there may be -/
def lexF : Nat → Nat → List UInt8 → Nat → Res
  | 0, _, _, p => .err 0 p
  | n + 1, left, l, p =>
    if gp false l = l.length then .toks []
    else match tokB (l.drop (gp false l)) with
      | .bad e => .err e (p + gp false l)
      | .good k v w t => if left = 0 then .err 2 (p + gp false l) else (lexF n (left - 1) (l.drop (gp false l + w)) (p + gp false l + w)).pre [⟨k, p + gp false l, v, t⟩]

theorem lexF_fuel : ∀ (n m left : Nat) (l : List UInt8) (p : Nat), l.length < n → l.length < m → lexF n left l p = lexF m left l p
  | 0, _, _, l, _, h, _ => by omega
  | _ + 1, 0, _, l, _, _, h => by omega
  | n + 1, m + 1, left, l, p, h1, h2 => by
    simp only [lexF]
    split
    · rfl
    · split
      · rfl
      · rename_i k v w t ht
        have hw := tok_width ht
        rw [List.length_drop] at hw
        rw [lexF_fuel n m (left - 1) (l.drop (gp false l + w)) _ (by rw [List.length_drop]; omega) (by rw [List.length_drop]; omega)]

def lexL (left : Nat) (l : List UInt8) (p : Nat) : Res := lexF (l.length + 1) left l p
theorem lexL_eq (left : Nat) (l : List UInt8) (p : Nat) : lexL left l p =
    if gp false l = l.length then .toks []
    else match tokB (l.drop (gp false l)) with
      | .bad e => .err e (p + gp false l)
      | .good k v w t => if left = 0 then .err 2 (p + gp false l) else (lexL (left - 1) (l.drop (gp false l + w)) (p + gp false l + w)).pre [⟨k, p + gp false l, v, t⟩] := by
  unfold lexL
  conv => lhs; simp only [lexF]
  split
  · rfl
  · split
    · rfl
    · rename_i k v w t ht
      have hw := tok_width ht
      rw [List.length_drop] at hw
      rw [lexF_fuel l.length _ (left - 1) (l.drop (gp false l + w)) _ (by rw [List.length_drop]; omega) (Nat.lt_succ_self _)]

theorem lexL_gap {left : Nat} {l : List UInt8} {p : Nat} (h : gp false l = l.length) : lexL left l p = .toks [] := by rw [lexL_eq, if_pos h]
theorem lexL_bad {left : Nat} {l : List UInt8} {p e : Nat} (h : gp false l < l.length) (ht : tokB (l.drop (gp false l)) = .bad e) : lexL left l p = .err e (p + gp false l) := by
  rw [lexL_eq, if_neg (by omega), ht]
theorem lexL_full {l : List UInt8} {p k v w : Nat} {t : List UInt8} (ht : tokB (l.drop (gp false l)) = .good k v w t) : lexL 0 l p = .err 2 (p + gp false l) := by
  have hw := tok_width ht
  rw [List.length_drop] at hw
  rw [lexL_eq, if_neg (by omega), ht]
  rfl
theorem lexL_good {left : Nat} {l : List UInt8} {p k v w : Nat} {t : List UInt8} (ht : tokB (l.drop (gp false l)) = .good k v w t) (hl : 0 < left) :
    lexL left l p = (lexL (left - 1) (l.drop (gp false l + w)) (p + gp false l + w)).pre [⟨k, p + gp false l, v, t⟩] := by
  have hw := tok_width ht
  rw [List.length_drop] at hw
  conv => lhs; rw [lexL_eq, if_neg (by omega), ht]
  simp only
  rw [if_neg (by omega)]

/-- gaps that are passed over change nothing -/
theorem lexL_skip {left : Nat} {l : List UInt8} {p : Nat} (a : Nat) (ha : gp false l = a + gp false (l.drop a)) : lexL left l p = lexL left (l.drop a) (p + a) := by
  have hle := gp_le (l.drop a) false
  rw [lexL_eq left l, lexL_eq left (l.drop a), List.drop_drop, ← ha, List.length_drop]
  rw [List.length_drop] at hle
  have hgl := gp_le l false
  have e : p + a + gp false (l.drop a) = p + gp false l := by omega
  by_cases h : gp false l = l.length
  · rw [if_pos h, if_pos (by omega)]
  · rw [if_neg h, if_neg (by omega), e]
    cases tokB (l.drop (gp false l)) with
    | bad c => rfl
    | good k v w t =>
      simp only
      rw [List.drop_drop, show a + (gp false (l.drop a) + w) = gp false l + w by omega]
theorem lexL_skip_gap (left : Nat) (l : List UInt8) (p : Nat) : lexL left l p = lexL left (l.drop (gp false l)) (p + gp false l) :=
  lexL_skip (gp false l) (by rw [gp_drop, Nat.add_zero])

theorem tok_code {l : List UInt8} {c : Nat} (h : tokB l = .bad c) : c = 2 ∨ c = 3 ∨ c = 4 ∨ c = 6 := by
  cases l with
  | nil => cases h; omega
  | cons d r =>
    simp only [tokB] at h
    split at h
    · split at h
      · cases h; omega
      · cases h
    · split at h
      · split at h
        · cases h; omega
        · cases h
      · split at h
        · split at h
          · split at h
            · cases h; omega
            · cases h
          · cases h; omega
        · split at h
          · cases h
          · split at h
            · cases h
            · cases h; omega
theorem tok_kind {l : List UInt8} {k v w : Nat} {t : List UInt8} (h : tokB l = .good k v w t) : 1 ≤ k ∧ k ≤ 4 := by
  cases l with
  | nil => cases h
  | cons d r =>
    simp only [tokB] at h
    split at h
    · split at h
      · cases h
      · cases h; omega
    · split at h
      · split at h
        · cases h
        · cases h; omega
      · split at h
        · split at h
          · split at h
            · cases h
            · cases h; omega
          · cases h
        · split at h
          · cases h; omega
          · split at h
            · cases h; omega
            · cases h

end Go.Proofs.YtcabhanmeookkaaDoor.Lx
