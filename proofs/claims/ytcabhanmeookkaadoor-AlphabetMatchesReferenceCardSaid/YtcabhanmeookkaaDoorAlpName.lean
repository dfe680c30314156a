/- Plain mathematics of layer 10 (alphabet): a text is a name exactly if it is its own only token, a name. No Go, no program. -/
import Derived.Test.YtcabhanmeookkaaDoorAlpMath2
import Derived.Test.YtcabhanmeookkaaDoorLexMath4
namespace Go.Proofs.YtcabhanmeookkaaDoor.Al
set_option linter.unusedVariables false
set_option linter.unusedSimpArgs false

/-- a text is the only token, a name, of what was read -/
def soleB (r : Lx.Res) (t : Bs) : Bool := match r with | .toks [k] => decide (k.kind = 1) && (k.text == t) | _ => false
theorem tok_isName {l t : Bs} {v w : Nat} (h : Lx.tokB l = .good 1 v w t) : nameB t = true := by
  cases l with
  | nil => cases h
  | cons c r =>
    simp only [Lx.tokB] at h
    by_cases hc : Lx.isLet c = true
    · rw [if_pos hc] at h
      split at h
      · cases h
      · rename_i hl
        simp only [Lx.One.good.injEq] at h
        obtain ⟨_, _, _, rfl⟩ := h
        have hle := Lx.tw_le Lx.isWord r
        simp only [nameB, hc, Bool.true_and, Bool.and_eq_true, List.all_eq_true, decide_eq_true_eq, List.length_take]
        refine ⟨fun d hd => ?_, by omega⟩
        obtain ⟨i, hi, rfl⟩ := List.mem_iff_getElem.1 hd
        rw [List.length_take] at hi
        rw [List.getElem_take]
        exact Lx.tw_all Lx.isWord r i (by omega)
    · rw [if_neg hc] at h
      split at h
      · split at h <;> cases h
      · split at h
        · split at h
          · split at h <;> cases h
          · cases h
        · split at h
          · cases h
          · split at h <;> cases h
theorem name_sole {t : Bs} (h : nameB t = true) (p : Nat) : Lx.lexU t p = .toks [⟨1, p, 0, t⟩] := by
  cases t with
  | nil => cases h
  | cons c r =>
    simp only [nameB, Bool.and_eq_true, List.all_eq_true, decide_eq_true_eq] at h
    have h1 := Lx.tok_aName c r [] h.1 h.2.1 h.2.2 (fun d hd => by cases hd)
    rw [List.append_nil] at h1
    have h2 := Lx.lexU_one (y := []) h1 (by simp) p
    rw [h2, Lx.lexU_gap (by rfl)]
    rfl
theorem sole_name (t : Bs) (h : t.length ≤ 5000) : soleB (Lx.lexL 5000 t 0) t = nameB t := by
  rw [Lx.lexL_U h]
  rw [Bool.eq_iff_iff]
  constructor
  · intro hs
    cases hr : Lx.lexU t 0 with
    | err e q => rw [hr] at hs; cases hs
    | toks ts =>
      rw [hr] at hs
      match ts, hr, hs with
      | [], hr, hs => cases hs
      | [k], hr, hs =>
        simp only [soleB, Bool.and_eq_true, decide_eq_true_eq, beq_iff_eq] at hs
        obtain ⟨w, h1, _⟩ := Lx.lex_first hr
        rw [hs.1, hs.2] at h1
        exact tok_isName h1
      | _ :: _ :: _, hr, hs => cases hs
  · intro hn
    rw [name_sole hn 0]
    simp [soleB]
end Go.Proofs.YtcabhanmeookkaaDoor.Al
