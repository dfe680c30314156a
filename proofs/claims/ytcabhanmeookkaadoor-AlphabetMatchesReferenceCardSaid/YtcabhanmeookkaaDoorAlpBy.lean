/- Plain mathematics of layer 10's law AlphabetBytes, and the walk over its closure. -/
import Derived.Test.YtcabhanmeookkaaDoorAlpL5
import Derived.Deep.Cut
import Derived.Deep.CutRange
import Derived.Deep.DeepCutAuto
namespace Go.Proofs.YtcabhanmeookkaaDoor.Al
set_option linter.unusedVariables false
set_option linter.unusedSimpArgs false
open Go.RowKit

/-- a letter of m bytes, as the law asks -/
def okA (m : Nat) (l : Bs) : Prop := (l.length = m ∧ 1 ≤ l.length ∧ l.length ≤ 3) ∧ l.all byteB = true
theorem bytes_letters {L : List Bs} {m : Nat} (hok : ∀ j, j < L.length → okA m (ltA L j)) : lettersB L = true ↔ 1 ≤ L.length ∧ L.length ≤ 64 ∧ Apart L L.length := by
  have hall : ∀ l ∈ L, okA m l := fun l hl => by
    obtain ⟨j, hj, rfl⟩ := List.mem_iff_getElem.1 hl
    have := hok j hj
    rwa [ltA_get hj] at this
  have hp : L.all propB = true := by
    rw [List.all_eq_true]
    intro l hl
    obtain ⟨⟨_, h1, h2⟩, h3⟩ := hall l hl
    unfold propB
    rw [h3]; simp; omega
  have hf : faithB L = true := faith_same m fun l hl => (hall l hl).1.1
  unfold lettersB
  rw [hp, hf, apart_iff, ← nodup_iff]
  simp only [Bool.and_eq_true, decide_eq_true_eq, and_true, true_and]
theorem bytes_fold {S : List Int} {n : Nat} : foldS S n = true ↔ S.length = n ∧ (∀ j, j < S.length → 0 ≤ S.getD j 0 ∧ S.getD j 0 < (S.length : Int)) ∧ ∀ j, j < S.length → S.getD (S.getD j 0).toNat 0 = S.getD j 0 := by
  unfold foldS
  simp only [Bool.and_eq_true, decide_eq_true_eq, List.all_eq_true]
  constructor
  · rintro ⟨rfl, h⟩
    have h' : ∀ j, j < S.length → _ := fun j hj => h (S.getD j 0) (by rw [getD_of hj]; exact List.getElem_mem hj)
    exact ⟨rfl, fun j hj => ⟨(h' j hj).1, (h' j hj).2.1⟩, fun j hj => (h' j hj).2.2⟩
  · rintro ⟨rfl, h1, h2⟩
    refine ⟨rfl, fun s hs => ?_⟩
    obtain ⟨j, hj, rfl⟩ := List.mem_iff_getElem.1 hs
    rw [← getD_of hj]
    exact ⟨(h1 j hj).1, (h1 j hj).2, h2 j hj⟩
theorem bytes_name (t : Bs) : nameB t = true ↔ (1 ≤ t.length ∧ t.length ≤ 24 ∧ Lx.isLet (t.getD 0 0) = true) ∧ ∀ j, j < t.length → Lx.isWord (t.getD j 0) = true := by
  cases t with
  | nil => simp [nameB]
  | cons c r =>
    simp only [nameB, Bool.and_eq_true, decide_eq_true_eq, List.all_eq_true, List.length_cons, List.getD_cons_zero]
    constructor
    · rintro ⟨h1, h2, h3⟩
      refine ⟨⟨by omega, h3, h1⟩, fun j hj => ?_⟩
      cases j with
      | zero => simp only [List.getD_cons_zero]; unfold Lx.isWord; rw [h1]; simp
      | succ j =>
        rw [List.getD_cons_succ, List.getD_eq_getElem?_getD, List.getElem?_eq_getElem (by omega : j < r.length)]
        exact h2 _ (List.getElem_mem _)
    · rintro ⟨⟨_, h3, h1⟩, h2⟩
      refine ⟨h1, fun x hx => ?_, h3⟩
      obtain ⟨j, hj, rfl⟩ := List.mem_iff_getElem.1 hx
      have := h2 (j + 1) (by omega)
      rwa [List.getD_cons_succ, List.getD_eq_getElem?_getD, List.getElem?_eq_getElem hj] at this
theorem bytes_law (nm : Bs) (L : List Bs) (S : List Int) (m : Nat) (hok : ∀ j, j < L.length → okA m (ltA L j)) (g1 g2 g3 n1 nb : Bool)
    (h1 : g1 = true ↔ (1 ≤ L.length ∧ L.length ≤ 64 ∧ S.length = L.length) ∧ Apart L L.length)
    (h2 : g2 = true ↔ g1 = true ∧ ∀ j, j < S.length → 0 ≤ S.getD j 0 ∧ S.getD j 0 < (S.length : Int))
    (h3 : g3 = true ↔ g2 = true ∧ ∀ j, j < S.length → S.getD (S.getD j 0).toNat 0 = S.getD j 0)
    (h4 : n1 = true ↔ 1 ≤ nm.length ∧ nm.length ≤ 24 ∧ Lx.isLet (nm.getD 0 0) = true)
    (h5 : nb = true ↔ n1 = true ∧ ∀ j, j < nm.length → Lx.isWord (nm.getD j 0) = true) : validA nm L S = (g3 && nb) := by
  rw [Bool.eq_iff_iff]
  unfold validA
  simp only [Bool.and_eq_true, bytes_letters hok, bytes_fold, bytes_name, h1, h2, h3, h4, h5]
  constructor
  · rintro ⟨⟨a, b, c⟩, ⟨d, e, f⟩, h⟩; exact ⟨⟨⟨⟨⟨a, b, d⟩, c⟩, e⟩, f⟩, h⟩
  · rintro ⟨⟨⟨⟨⟨a, b, d⟩, c⟩, e⟩, f⟩, h⟩; exact ⟨⟨a, b, c⟩, ⟨d, e, f⟩, h⟩
theorem apart_zero (L : List Bs) : Apart L 0 := fun i j _ h => absurd h (Nat.not_lt_zero _)
theorem apart_succ (L : List Bs) (k : Nat) : Apart L (k + 1) ↔ Apart L k ∧ ∀ q, q < k → ltA L q ≠ ltA L k := by
  constructor
  · intro h
    exact ⟨fun i j h1 h2 => h i j h1 (by omega), fun q hq => h q k hq (by omega)⟩
  · rintro ⟨h1, h2⟩ i j hij hj
    rcases Nat.lt_succ_iff_lt_or_eq.1 hj with h | rfl
    · exact h1 i j hij h
    · exact h2 i hij
theorem getD_bl (s : ByteArray) (k : Nat) (h : k < s.size) : (bl s).getD k 0 = s[k] := by
  rw [List.getD_eq_getElem?_getD, bl_get s k h]; rfl
theorem iff_true_step {p : Nat → Prop} {g g0 : Bool} {k : Nat} (h : g = true ↔ g0 = true ∧ ∀ j, j < k → p j) (v : Bool) (hv : v = true ↔ g = true ∧ p k) : v = true ↔ g0 = true ∧ ∀ j, j < k + 1 → p j := by
  rw [hv, h]
  constructor
  · rintro ⟨⟨a, b⟩, c⟩
    refine ⟨a, fun j hj => ?_⟩
    rcases Nat.lt_succ_iff_lt_or_eq.1 hj with h | rfl
    · exact b j h
    · exact c
  · rintro ⟨a, b⟩
    exact ⟨⟨a, fun j hj => b j (by omega)⟩, b k (by omega)⟩

theorem let_cases (c : UInt8) (h : c.toNat < 256) : (Lx.isLet c = true ∧ ((97 : Int) ≤ c.toNat ∧ (c.toNat : Int) ≤ 122)) ∨
    (Lx.isLet c = true ∧ (¬ (97 : Int) ≤ c.toNat ∧ (65 : Int) ≤ c.toNat ∧ (c.toNat : Int) ≤ 90)) ∨
    (Lx.isLet c = false ∧ ((97 : Int) ≤ c.toNat ∧ ¬ (c.toNat : Int) ≤ 122 ∧ (65 : Int) ≤ c.toNat ∧ ¬ (c.toNat : Int) ≤ 90)) ∨
    (Lx.isLet c = false ∧ (¬ (97 : Int) ≤ c.toNat ∧ (65 : Int) ≤ c.toNat ∧ ¬ (c.toNat : Int) ≤ 90)) ∨
    (Lx.isLet c = false ∧ (¬ (97 : Int) ≤ c.toNat ∧ ¬ (65 : Int) ≤ c.toNat)) := by
  unfold Lx.isLet
  simp only [Bool.or_eq_true, Bool.and_eq_true, decide_eq_true_eq, Bool.or_eq_false_iff, Bool.and_eq_false_iff, decide_eq_false_iff_not]
  omega
theorem word_cases (c : UInt8) (h : c.toNat < 256) (hl : Lx.isLet c = false) : (Lx.isWord c = true ∧ ((48 : Int) ≤ c.toNat ∧ (c.toNat : Int) ≤ 57)) ∨
    (Lx.isWord c = true ∧ ((48 : Int) ≤ c.toNat ∧ ¬ (c.toNat : Int) ≤ 57 ∧ ((c.toNat : Int) == 95) = true)) ∨
    (Lx.isWord c = false ∧ ((48 : Int) ≤ c.toNat ∧ ¬ (c.toNat : Int) ≤ 57 ∧ ((c.toNat : Int) == 95) = false)) ∨
    (Lx.isWord c = false ∧ (¬ (48 : Int) ≤ c.toNat ∧ ((c.toNat : Int) == 95) = false)) := by
  unfold Lx.isWord Lx.isNum
  rw [hl]
  simp only [Bool.false_or, Bool.or_eq_true, Bool.and_eq_true, decide_eq_true_eq, Bool.or_eq_false_iff, Bool.and_eq_false_iff, decide_eq_false_iff_not, beq_iff_eq, beq_eq_false_iff_ne, ne_eq]
  omega

set_option maxHeartbeats 1000000 in
theorem letter_any (c : UInt8) (w : World) :
    Calls Tryd.prog 23 #[.int .u8 (c.toNat : Int)] w fun e w' => e = .returned (.bool (Lx.isLet c)) ∧ w = w' := by
  have hc : c.toNat < 256 := UInt8.toNat_lt c
  rcases let_cases c hc with ⟨h, h1, h2⟩ | ⟨h, h1, h2, h3⟩ | ⟨h, h1, h2, h3, h4⟩ | ⟨h, h1, h2, h3⟩ | ⟨h, h1, h2⟩ <;> rw [h] <;> clear h
  all_goals
    go_enter Tryd.func23, Tryd.ntmps23
    go_wp2_with fail
    go_ret
    exact ⟨rfl, rfl⟩
end Go.Proofs.YtcabhanmeookkaaDoor.Al
