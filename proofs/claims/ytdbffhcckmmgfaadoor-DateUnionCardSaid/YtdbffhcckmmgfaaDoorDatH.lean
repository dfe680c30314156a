/- The head of layer 6's laws: the chapter's examples. -/
import Derived.Test.YtdbffhcckmmgfaaDoorDatW3
import Derived.Test.YtdbffhcckmmgfaaDoorDatW8
import Derived.Test.YtdbffhcckmmgfaaDoorDatR5
namespace Go.Proofs.YtdbffhcckmmgfaaDoor.Dt
set_option linter.unusedVariables false
set_option linter.unusedSimpArgs false
open Go.RowKit

theorem PerSl.lit (w : World) (B : Nat) (l : List Per) (cs : Array Value) (hcs : cs = (flatP l).toArray) (hlen : l.length ≤ 1000) (hB : B = w.heap.size) (n : Nat) (hn : n = l.length) : PerSl (w.alloc (.cells cs 35)) (.slice (some ⟨B, 0, none⟩) n n) l := by
  subst hcs
  subst hB
  subst hn
  have h : OwnPer (w.alloc (.cells (flatP l).toArray 35)) w.heap.size (.slice (some ⟨w.heap.size, 0, none⟩) l.length l.length) l := by
    have := World.ownsRow_lit (base := w.heap.size) (e := 35) (size := 2) w (flatP l).toArray l.length (Nat.le_refl _) (by unfold maxLen; omega) (by simp [flatP_length])
    simpa [OwnPer] using this
  exact h.sl
theorem x_make : mkV 2000 1 1 = (73048, 0) ∧ mkV 1900 2 29 = (0, 1) ∧ mkV 2073 10 17 = (0, 9) ∧ mkV 2073 10 16 = (100000, 0) := by decide +kernel
theorem x_months : moV 2000 1 31 1 = (73107, 0) ∧ moV 2000 1 31 (-1) = (73047, 0) := by decide +kernel
theorem x_week : wkV 73048 = 5 := by decide +kernel
theorem x_d1 : Date 73107 2000 2 29 := by unfold Date; decide +kernel
theorem x_d2 : Date 73078 2000 1 31 := by unfold Date; decide +kernel
theorem x_d3 : Date 0 1800 1 1 := by unfold Date; decide +kernel
theorem x_text : txN 0 = [49, 56, 48, 48, 45, 48, 49, 45, 48, 49] := by
  rw [txN_eq x_d3]
  decide +kernel
def exL : List Per := [(5, 9), (9, 12), (1, 3)]
theorem x_prop : ∀ p ∈ exL, propP p := by
  intro p hp
  simp [exL] at hp
  rcases hp with rfl | rfl | rfl <;> decide
theorem x_union {U : List Per} (h : IsU U (cov exL)) : decide (U = [(1, 3), (5, 12)]) = true := by
  rw [decide_eq_true_iff]
  refine h.unique (IsU.self ⟨?_, ?_⟩) fun x => ?_
  · intro p hp
    simp at hp
    rcases hp with rfl | rfl <;> decide
  · simp [endP]
  · unfold exL
    simp only [cov_cons]
    have hn := cov_nil x
    unfold inP propP endP
    simp [hn]
    omega

set_option maxRecDepth 100000 in
set_option maxHeartbeats 2000000 in
theorem head_any (w : World) (hl : Lay w) :
    Calls Tryd.prog 12 #[] w fun e w' => e = .returned (.bool true) ∧ Below w.heap.size w w' := by
  have h1 := fun w hl => make_any 2000 1 1 w hl
  have h2 := fun w => weekday_any 73048 (by omega) (by omega) w
  have h3 := fun w hl => split_any x_d1 (by omega) w hl
  have h4 := fun w hl => months_any x_d2 (by omega) 1 w hl
  have h5 := fun w hl => months_any x_d2 (by omega) (-1) w hl
  have h6 := fun w hl => make_any 1900 2 29 w hl
  have h7 := fun w hl => make_any 2073 10 17 w hl
  have h8 := fun w hl => make_any 2073 10 16 w hl
  have h9 := fun w hl => text_any 0 (by omega) (by omega) w hl
  rw [x_make.1] at h1
  rw [x_week] at h2
  rw [x_months.1] at h4
  rw [x_months.2] at h5
  rw [x_make.2.1] at h6
  rw [x_make.2.2.1] at h7
  rw [x_make.2.2.2] at h8
  rw [x_text] at h9
  have H1 := Lib.hid h1
  have H2 := Lib.hid h2
  have H3 := Lib.hid h3
  have H4 := Lib.hid h4
  have H5 := Lib.hid h5
  have H6 := Lib.hid h6
  have H7 := Lib.hid h7
  have H8 := Lib.hid h8
  have H9 := Lib.hid h9
  clear h1 h2 h3 h4 h5 h6 h7 h8 h9
  go_enter Tryd.func12, Tryd.ntmps12
  go_wp2_with fail
  refine (H1.out _ hl).mono ?_
  rintro r w' ⟨rfl, rfl⟩
  go_wp2_with fail
  refine (H2.out _).mono ?_
  rintro r w' ⟨rfl, rfl⟩
  go_wp2_with fail
  refine (H3.out _ hl).mono ?_
  rintro r w' ⟨rfl, rfl⟩
  go_wp2_with fail
  refine (H4.out _ hl).mono ?_
  rintro r w' ⟨rfl, rfl⟩
  go_wp2_with fail
  refine (H5.out _ hl).mono ?_
  rintro r w' ⟨rfl, rfl⟩
  go_wp2_with fail
  refine (H6.out _ hl).mono ?_
  rintro r w' ⟨rfl, rfl⟩
  go_wp2_with fail
  refine (H7.out _ hl).mono ?_
  rintro r w' ⟨rfl, rfl⟩
  go_wp2_with fail
  refine (H8.out _ hl).mono ?_
  rintro r w' ⟨rfl, rfl⟩
  go_wp2_with fail
  refine (H9.out _ hl).mono ?_
  rintro r w1 ⟨rfl, hb1⟩
  go_wp2_with fail
  refine (union_ok _ _ exL (PerSl.lit w1 _ exL _ rfl (by decide) rfl 3 rfl) (by decide) x_prop).mono ?_
  rintro r w2 ⟨u, U, rfl, hU, hlU, hsU, hb2'⟩
  have hb2 : Below w.heap.size w w2 := (hb1.alloc hb1.size (.cells (flatP exL).toArray 35)).trans (hb2'.mono (by have := hb1.size; simp; omega))
  have HX := Lib.hid (x_union hU)
  have HLU := Lib.hid hlU
  have HSU := Lib.hid hsU
  obtain ⟨a1, c1, rfl⟩ := hsU.form
  clear hU hlU hsU hb2'
  go_wp2_with fail
  refine (rsame_any _ _ _ U [(1, 3), (5, 12)] (HSU.out.below ((Below.refl _ _).alloc (Nat.le_refl _) _)) (PerSl.lit w2 _ [(1, 3), (5, 12)] _ rfl (by decide) rfl 2 rfl) (by have := HLU.out; simp [exL] at this; omega) (by decide)).mono ?_
  rintro r w3 ⟨rfl, hb3⟩
  rw [HX.out]
  have hb4 : Below w.heap.size w w3 := (hb2.alloc hb2.size (.cells (flatP [(1, 3), (5, 12)]).toArray 35)).trans (hb3.mono (by have := hb2.size; simp; omega))
  go_wp2_with fail
  go_ret
  exact ⟨rfl, hb4⟩
end Go.Proofs.YtdbffhcckmmgfaaDoor.Dt
