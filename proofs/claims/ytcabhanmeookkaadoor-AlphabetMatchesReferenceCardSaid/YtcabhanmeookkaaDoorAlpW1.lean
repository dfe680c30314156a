/- Walks over package alphabet: identifier, proper, folding; slices of strings and of ints. -/
import Derived.Test.YtcabhanmeookkaaDoorAlpName
import Derived.Test.YtcabhanmeookkaaDoorLexW6
import Derived.Test.YtcabhanmeookkaaDoorBld
import Derived.Test.YtcabhanmeookkaaDoorShelf
namespace Go.Proofs.YtcabhanmeookkaaDoor.Al
set_option linter.unusedVariables false
set_option linter.unusedSimpArgs false
open Go.RowKit

def bl (s : ByteArray) : Bs := s.data.toList
theorem bl_len (s : ByteArray) : (bl s).length = s.size := (Lib.size_eq s).symm
theorem bl_mk (l : Bs) : bl ⟨l.toArray⟩ = l := by simp [bl]
theorem bl_ext (s : ByteArray) (i j : Nat) : bl (s.extract i j) = ((bl s).drop i).take (j - i) := Lib.extract_data ..
theorem bl_inj {a b : ByteArray} (h : bl a = bl b) : a = b := by
  cases a with | mk a => cases b with | mk b => simp only [bl] at h; congr 1; exact Array.toList_inj.1 h
theorem toList_bl (s : ByteArray) : s.toList = bl s := ByteArray.toList_eq s
theorem bl_get (s : ByteArray) (k : Nat) (h : k < s.size) : (bl s)[k]? = some s[k] := by
  have hl : k < s.data.toList.length := by rw [← Lib.size_eq]; exact h
  show s.data.toList[k]? = _
  rw [List.getElem?_eq_getElem hl]; rfl
def bls (l : List ByteArray) : List Bs := l.map bl
theorem bls_len (l : List ByteArray) : (bls l).length = l.length := by simp [bls]
theorem bls_get (l : List ByteArray) (i : Nat) (h : i < l.length) : ltA (bls l) i = bl l[i] := by
  unfold ltA bls; rw [List.getD_eq_getElem?_getD, List.getElem?_map, List.getElem?_eq_getElem h]; rfl

/-- the value v is a slice of strings, which has just these elements -/
def StrSl (w : World) (v : Value) (l : List ByteArray) : Prop :=
  (l = [] ∧ ∃ a cap, v = .slice a 0 cap) ∨
  ∃ b off cap, v = .slice (some ⟨b, off, none⟩) l.length cap ∧ 0 < l.length ∧ b < w.heap.size ∧ (l.length ≤ cap ∧ cap ≤ maxLen) ∧ ∀ i (h : i < l.length), w.cell? ⟨b, off + i, none⟩ = some (.string l[i])
theorem StrSl.below {w w' : World} {v : Value} {l : List ByteArray} (h : StrSl w v l) (hb : Below w.heap.size w w') : StrSl w' v l := by
  rcases h with h | ⟨b, off, cap, hv, h0, hlt, hm, hc⟩
  · exact .inl h
  · exact .inr ⟨b, off, cap, hv, h0, Nat.lt_of_lt_of_le hlt hb.size, hm, fun i hi => (hb.cell (p := ⟨b, off + i, none⟩) hlt).trans (hc i hi)⟩
theorem StrSl.form {w : World} {v : Value} {l : List ByteArray} (h : StrSl w v l) : ∃ a cap, v = .slice a l.length cap := by
  rcases h with ⟨rfl, a, cap, rfl⟩ | ⟨b, off, cap, rfl, _⟩
  · exact ⟨a, cap, rfl⟩
  · exact ⟨_, cap, rfl⟩
/-- a slice of ints -/
def IntSl (w : World) (v : Value) (l : List Int) : Prop :=
  (l = [] ∧ ∃ a cap, v = .slice a 0 cap) ∨
  ∃ b off cap, v = .slice (some ⟨b, off, none⟩) l.length cap ∧ 0 < l.length ∧ b < w.heap.size ∧ (l.length ≤ cap ∧ cap ≤ maxLen) ∧ ∀ i (h : i < l.length), w.cell? ⟨b, off + i, none⟩ = some (.int .i64 l[i])
theorem IntSl.below {w w' : World} {v : Value} {l : List Int} (h : IntSl w v l) (hb : Below w.heap.size w w') : IntSl w' v l := by
  rcases h with h | ⟨b, off, cap, hv, h0, hlt, hm, hc⟩
  · exact .inl h
  · exact .inr ⟨b, off, cap, hv, h0, Nat.lt_of_lt_of_le hlt hb.size, hm, fun i hi => (hb.cell (p := ⟨b, off + i, none⟩) hlt).trans (hc i hi)⟩
theorem IntSl.form {w : World} {v : Value} {l : List Int} (h : IntSl w v l) : ∃ a cap, v = .slice a l.length cap := by
  rcases h with ⟨rfl, a, cap, rfl⟩ | ⟨b, off, cap, rfl, _⟩
  · exact ⟨a, cap, rfl⟩
  · exact ⟨_, cap, rfl⟩
theorem StrSl.open {w : World} {v : Value} {l : List ByteArray} (h : StrSl w v l) (h0 : l.length ≠ 0) : ∃ b off cap, v = .slice (some ⟨b, off, none⟩) l.length cap ∧ b < w.heap.size ∧ (l.length ≤ cap ∧ cap ≤ maxLen) ∧ ∀ i (h : i < l.length), w.cell? ⟨b, off + i, none⟩ = some (.string l[i]) := by
  rcases h with ⟨rfl, _⟩ | ⟨b, off, cap, hv, _, hlt, hm, hc⟩
  · exact absurd rfl h0
  · exact ⟨b, off, cap, hv, hlt, hm, hc⟩
theorem IntSl.open {w : World} {v : Value} {l : List Int} (h : IntSl w v l) (h0 : l.length ≠ 0) : ∃ b off cap, v = .slice (some ⟨b, off, none⟩) l.length cap ∧ b < w.heap.size ∧ (l.length ≤ cap ∧ cap ≤ maxLen) ∧ ∀ i (h : i < l.length), w.cell? ⟨b, off + i, none⟩ = some (.int .i64 l[i]) := by
  rcases h with ⟨rfl, _⟩ | ⟨b, off, cap, hv, _, hlt, hm, hc⟩
  · exact absurd rfl h0
  · exact ⟨b, off, cap, hv, hlt, hm, hc⟩

/-! ### A name -/

set_option maxHeartbeats 1000000 in
theorem identifier_any (s : ByteArray) (hs : s.size ≤ 5000) (w : World) :
    Calls Tryd.prog 34 #[.string s] w fun e w' => e = .returned (.bool (nameB (bl s))) ∧ Below w.heap.size w w' := by
  have Hn := Lib.hid (sole_name (bl s) (by rw [bl_len]; exact hs))
  cases hr : Lx.lexL 5000 (Lx.rest s 0) 0 with
  | err c p =>
    have Hs := Lib.hid (show nameB (bl s) = false by rw [← Hn.out, show bl s = Lx.rest s 0 from rfl, hr]; rfl)
    have hc := Lx.lex_any s (by omega) w _ hr
    clear hr Hn
    generalize nameB (bl s) = R at *
    obtain rfl := Hs.out
    go_enter Tryd.func34, Tryd.ntmps34
    go_wp2_with fail
    refine hc.mono ?_
    rintro e w1 ⟨rfl, hb⟩
    go_wp2_with fail
    go_ret
    exact ⟨rfl, hb⟩
  | toks ts =>
    have hc := Lx.lex_any s (by omega) w _ hr
    have Hs := Lib.hid (show nameB (bl s) = soleB (.toks ts) (bl s) by rw [← Hn.out]; congr 1)
    clear hr Hn
    generalize nameB (bl s) = R at *
    by_cases h1 : ts.length = 1
    · obtain ⟨t, rfl⟩ := List.length_eq_one_iff.1 h1
      go_enter Tryd.func34, Tryd.ntmps34
      go_wp2_with fail
      refine hc.mono ?_
      rintro e w1 ⟨v, rfl, htk, hb⟩
      rcases htk with ⟨hnil, _⟩ | ⟨b, off, cap, rfl, _, hlt, hm, hcell⟩
      · cases hnil
      obtain ⟨c0, c1, c2, c3⟩ := hcell 0 (by simp)
      simp only [Nat.zero_mul, Nat.add_zero, List.getElem_cons_zero] at c0 c1 c2 c3
      have Hs2 := Lib.hid (show R = (decide (t.kind = 1) && (t.text == bl s)) from Hs.out)
      by_cases hk : t.kind = 1
      · have hk1 : ((t.kind : Int) == 1) = true := by simp [hk]
        cases hq : ((ByteArray.mk t.text.toArray).toList == s.toList) with
        | true =>
          go_wp2_with fail
          go_ret
          refine ⟨?_, hb⟩
          rw [Hs2.out]
          rw [toList_bl, toList_bl, bl_mk] at hq
          rw [hq]
          simp only [beq_iff_eq] at hq
          simp [hk, toList_bl, hq]
        | false =>
          go_wp2_with fail
          go_ret
          refine ⟨?_, hb⟩
          rw [Hs2.out]
          rw [toList_bl, toList_bl, bl_mk] at hq
          rw [hq]
          simp only [beq_eq_false_iff_ne, ne_eq] at hq
          simp [hk, toList_bl, hq]
      · have hk1 : ((t.kind : Int) == 1) = false := by simp; omega
        go_wp2_with fail
        go_ret
        refine ⟨?_, hb⟩
        rw [Hs2.out]
        simp [hk]
    · have h2 : ((ts.length : Int) == 1) = false := by simp; omega
      go_enter Tryd.func34, Tryd.ntmps34
      go_wp2_with fail
      refine hc.mono ?_
      rintro e w1 ⟨v, rfl, htk, hb⟩
      obtain ⟨a, cap, rfl⟩ : ∃ a cap, v = .slice a ts.length cap := by
        rcases htk with ⟨rfl, a, cap, rfl⟩ | ⟨b, off, cap, rfl, _⟩
        · exact ⟨a, cap, rfl⟩
        · exact ⟨_, cap, rfl⟩
      go_wp2_with fail
      go_ret
      refine ⟨?_, hb⟩
      rw [Hs.out]
      match ts, h1 with
      | [], _ => rfl
      | [_], h => exact absurd rfl h
      | _ :: _ :: _, _ => rfl
end Go.Proofs.YtcabhanmeookkaaDoor.Al
