/- The head of layer 4's laws: fixed examples. -/
import Derived.Test.YtkgkejphifkpkaaDoorLexR2
namespace Go.Proofs.YtkgkejphifkpkaaDoor.Lx
set_option linter.unusedVariables false
set_option linter.unusedSimpArgs false
open Go.RowKit

def hd1 : ByteArray := { data := #[114, 111, 119, 32, 97, 49, 32, 97, 116, 32, 55, 62, 61, 120, 35, 32, 121] }
def hd2 : ByteArray := { data := #[97, 32, 33, 98] }
def hd3 : ByteArray := { data := #[55, 120] }
def hd4 : ByteArray := { data := #[49, 50, 51, 52, 53, 54, 55, 56, 57, 48, 49, 50, 51, 52] }
def hd5 : ByteArray := { data := #[10, 97, 98, 99, 100, 101, 102, 103, 104, 105, 106, 107, 108, 109, 110, 111, 112, 113, 114, 115, 116, 117, 118, 119, 120, 121] }
def hd6 : ByteArray := { data := #[116, 111, 32, 34, 34, 32, 34, 97, 32, 98, 34, 59] }
def hd7 : ByteArray := { data := #[97, 32, 34, 98] }
def hk1 : List Tok := [⟨1, 0, 0, [114, 111, 119]⟩, ⟨1, 4, 0, [97, 49]⟩, ⟨1, 7, 0, [97, 116]⟩, ⟨2, 10, 7, [55]⟩, ⟨4, 11, 0, [62, 61]⟩, ⟨1, 13, 0, [120]⟩]
def hk6 : List Tok := [⟨1, 0, 0, [116, 111]⟩, ⟨3, 3, 0, []⟩, ⟨3, 6, 0, [97, 32, 98]⟩, ⟨4, 11, 0, [59]⟩]
theorem he1 : lexL 5000 (rest hd1 0) 0 = .toks hk1 := by kernel_rfl
theorem he2 : lexL 5000 (rest hd2 0) 0 = .err 3 2 := by kernel_rfl
theorem he3 : lexL 5000 (rest hd3 0) 0 = .err 4 0 := by kernel_rfl
theorem he4 : lexL 5000 (rest hd4 0) 0 = .err 4 0 := by kernel_rfl
theorem he5 : lexL 5000 (rest hd5 0) 0 = .err 2 1 := by kernel_rfl
theorem he6 : lexL 5000 (rest hd6 0) 0 = .toks hk6 := by kernel_rfl
theorem he7 : lexL 5000 (rest hd7 0) 0 = .err 6 2 := by kernel_rfl

/-- a list of tokens, opened -/
theorem TokSl.open {w : World} {v : Value} {ts : List Tok} (h : TokSl w v ts) (h0 : ts.length ≠ 0) : ∃ b off cap, v = .slice (some ⟨b, off, none⟩) ts.length cap ∧ b < w.heap.size ∧ (ts.length ≤ cap ∧ cap ≤ maxLen) ∧ ∀ i (h : i < ts.length), Cells4 w b (off + i * 4) ts[i] := by
  rcases h with ⟨rfl, _⟩ | ⟨b, off, cap, hv, _, hlt, hm, hc⟩
  · exact absurd rfl h0
  · exact ⟨b, off, cap, hv, hlt, hm, hc⟩

set_option maxRecDepth 100000 in
set_option maxHeartbeats 2000000 in
theorem head_any (w : World) : Calls Tryd.prog 26 #[] w fun e w' => e = .returned (.bool true) ∧ Below w.heap.size w w' := by
  go_enter Tryd.func26, Tryd.ntmps26
  go_wp2_with fail
  refine (lex_any hd1 (by decide) w _ he1).mono ?_
  rintro e w1 ⟨v1, rfl, ht1, hb1⟩
  go_wp2_with fail
  refine (lex_any hd2 (by decide) w1 _ he2).mono ?_
  rintro e w2 ⟨rfl, hb2⟩
  have ht2 := ht1.below hb2
  have hb2 := hb1.trans (hb2.mono hb1.size)
  clear ht1 hb1
  go_wp2_with fail
  refine (lex_any hd3 (by decide) w2 _ he3).mono ?_
  rintro e w3 ⟨rfl, hb3⟩
  have ht3 := ht2.below hb3
  have hb3 := hb2.trans (hb3.mono hb2.size)
  clear ht2 hb2
  go_wp2_with fail
  refine (lex_any hd4 (by decide) w3 _ he4).mono ?_
  rintro e w4 ⟨rfl, hb4⟩
  have ht4 := ht3.below hb4
  have hb4 := hb3.trans (hb4.mono hb3.size)
  clear ht3 hb3
  go_wp2_with fail
  refine (lex_any hd5 (by decide) w4 _ he5).mono ?_
  rintro e w5 ⟨rfl, hb5⟩
  have ht5 := ht4.below hb5
  have hb5 := hb4.trans (hb5.mono hb4.size)
  clear ht4 hb4
  go_wp2_with fail
  refine (lex_any hd6 (by decide) w5 _ he6).mono ?_
  rintro e w6 ⟨v6, rfl, hu6, hb6⟩
  have ht6 := ht5.below hb6
  have hb6 := hb5.trans (hb6.mono hb5.size)
  clear ht5 hb5
  go_wp2_with fail
  refine (lex_any hd7 (by decide) w6 _ he7).mono ?_
  rintro e w7 ⟨rfl, hb7⟩
  have ht7 := ht6.below hb7
  have hu7 := hu6.below hb7
  have hb7 := hb6.trans (hb7.mono hb6.size)
  clear ht6 hu6 hb6
  obtain ⟨b, off, cap, rfl, _, _, hc⟩ := ht7.open (by decide)
  obtain ⟨b', off', cap', rfl, _, _, hd⟩ := hu7.open (by decide)
  have c1 := hc 1 (by decide)
  have c3 := hc 3 (by decide)
  have c4 := hc 4 (by decide)
  have c5 := (hc 5 (by decide)).2.1
  have d1 := hd 1 (by decide)
  have d2 := hd 2 (by decide)
  have d3 := (hd 3 (by decide)).2.1
  obtain ⟨c10, c11, c12, c13⟩ := c1
  obtain ⟨c30, c31, c32, c33⟩ := c3
  obtain ⟨c40, c41, c42, c43⟩ := c4
  obtain ⟨d10, d11, d12, d13⟩ := d1
  obtain ⟨d20, d21, d22, d23⟩ := d2
  simp only [hk1, hk6, List.getElem_cons_succ, List.getElem_cons_zero, Nat.reduceMul, Nat.add_assoc, Nat.reduceAdd, List.length_cons, List.length_nil] at c10 c11 c12 c13 c30 c31 c32 c33 c40 c41 c42 c43 c5 d10 d11 d12 d13 d20 d21 d22 d23 d3
  have l1 : hk1.length = 6 := rfl
  have l6 : hk6.length = 4 := rfl
  rw [l1, l6]
  clear hc hd ht7 hu7
  go_wp2_with fail
  go_ret
  exact ⟨rfl, hb7⟩

end Go.Proofs.YtkgkejphifkpkaaDoor.Lx
