/- Walks over package polygon: does a ring bend at each point? -/
import Derived.Test.YtohkmkkcblbemaaPolW4
namespace Go.Proofs.Ytohkmkkcblbemaa.Ge
set_option linter.unusedVariables false
set_option linter.unusedSimpArgs false
open Go.RowKit
open Go.Proofs.Ytohkmkkcblbemaa.Fr (Two)

theorem Pt_mod {k n : Nat} (hn : 0 < n) (i : Nat) : (((k + i) % n : Nat) : Int) = ((k : Int) + (i : Int)).tmod (n : Int) := by
  rw [Int.tmod_eq_emod_of_nonneg (by omega), Int.natCast_emod]
  rfl
theorem bends_yes {r : List Pt} (h : ∀ j, j < r.length → turnAt r j ≠ 0) : bendsB r = true := by
  unfold bendsB
  rw [List.all_eq_true]
  intro j hj
  simpa using h j (List.mem_range.1 hj)
theorem bends_no {r : List Pt} {k : Nat} (hk : k < r.length) (h : turnAt r k = 0) : bendsB r = false := by
  rw [Bool.eq_false_iff]
  intro hb
  unfold bendsB at hb
  rw [List.all_eq_true] at hb
  have := hb k (List.mem_range.2 hk)
  rw [h] at this
  cases this
theorem Ring.nth {w : World} {b off cap : Nat} {r : List Pt} (h : ∀ i (h : i < r.length), Cells2 w b (off + i * 2) r[i]) (hl : 0 < r.length) (i : Nat) : Cells2 w b (off + i % r.length * 2) (nth r i) := by
  have hm := Nat.mod_lt i hl
  have e : Ge.nth r i = r[i % r.length] := by rw [← nth_mod]; exact nth_lt hm
  rw [e]
  exact h _ hm

set_option maxRecDepth 100000 in
set_option maxHeartbeats 4000000 in
theorem bends_any (v : Value) (r : List Pt) (hlen : 1 ≤ r.length ∧ r.length ≤ 1000) (w : World) (hv : Ring w v r) :
    Calls Try.prog 49 #[v] w fun e w' => e = .returned (.bool (bendsB r)) ∧ Below w.heap.size w w' := by
  obtain ⟨b, off, cap, rfl, hbw, hcells⟩ := hv
  obtain ⟨hl1, hl2⟩ := hlen
  have HC := Lib.hid (fun (w' : World) (hw : Below w.heap.size w w') => Ring.nth (cap := cap) (fun i hi => (hcells i hi).below hw hbw) (by omega))
  clear hcells
  have HY := Lib.hid (@bends_yes r)
  have HN := Lib.hid (fun k => bends_no (r := r) (k := k))
  have hrn : ¬ r = [] := fun e => by rw [e] at hl1; simp at hl1
  go_enter Try.func49, Try.ntmps49
  go_wp2_with fail
  go_loopw [7] (fun i wr => ∃ k : Nat, i = .int .i64 (k : Int) ∧ k ≤ r.length ∧ (∀ j, j < k → turnAt r j ≠ 0) ∧ Below w.heap.size w wr) (fun i _ => r.length - (intOf i).toNat)
  case atStart => exact ⟨0, rfl, Nat.zero_le _, fun j hj => by omega, Below.refl _ _⟩
  case round =>
    obtain ⟨k, rfl, hk, hall, hbel⟩ := hrel
    have HL := Lib.hid hall
    clear hall
    by_cases hlt : k < r.length
    · have hz := hbel.size
      have C0 := HC.out wr hbel k
      have C1 := HC.out wr hbel (k + 1)
      have C2 := HC.out wr hbel (k + 2)
      have m1 := Pt_mod (k := k) (n := r.length) (by omega) 1
      have m2 := Pt_mod (k := k) (n := r.length) (by omega) 2
      have l1 : (k + 1) % r.length < r.length := Nat.mod_lt _ (by omega)
      have l2 : (k + 2) % r.length < r.length := Nat.mod_lt _ (by omega)
      have HT := Lib.hid (fun w => Turn_any (nth r k).1 (nth r k).2 (nth r (k + 1)).1 (nth r (k + 1)).2 (nth r (k + 2)).1 (nth r (k + 2)).2 w)
      have HTA := Lib.hid (show turnAt r k = turnV (nth r k).1 (nth r k).2 (nth r (k + 1)).1 (nth r (k + 1)).2 (nth r (k + 2)).1 (nth r (k + 2)).2 from rfl)
      have n0 : ((k : Int) + 1).tmod r.length = (((k + 1) % r.length : Nat) : Int) := m1.symm
      have n2 : ((k : Int) + 2).tmod r.length = (((k + 2) % r.length : Nat) : Int) := m2.symm
      rw [Nat.mod_eq_of_lt hlt] at C0
      clear m1 m2
      generalize (k + 1) % r.length = i1 at *
      generalize (k + 2) % r.length = i2 at *
      generalize nth r k = P at *
      generalize nth r (k + 1) = Q at *
      generalize nth r (k + 2) = R at *
      obtain ⟨p1, p2⟩ := P
      obtain ⟨q1, q2⟩ := Q
      obtain ⟨r1, r2⟩ := R
      obtain ⟨c1, c2⟩ := C0
      dsimp only at c1 c2 HT HTA
      have w1 : IntKind.i64.wrap ((k : Int) + 1) = (k : Int) + 1 := by rw [IntKind.wrap_i64]; omega
      have w2 : IntKind.i64.wrap ((k : Int) + 2) = (k : Int) + 2 := by rw [IntKind.wrap_i64]; omega
      have hbA := hbel.alloc hz (.cells #[.int .i64 p1, .int .i64 p2] 23)
      have tP := Two.new wr 23 (.int .i64 p1) (.int .i64 p2)
      have hb0 : b < (wr.alloc (.cells #[.int .i64 p1, .int .i64 p2] 23)).heap.size := by simp only [World.size_alloc]; omega
      have D1 := C1.below ((Below.refl wr.heap.size wr).alloc (Nat.le_refl _) (.cells #[.int .i64 p1, .int .i64 p2] 23)) (show b < wr.heap.size by omega)
      have D2 := C2.below ((Below.refl wr.heap.size wr).alloc (Nat.le_refl _) (.cells #[.int .i64 p1, .int .i64 p2] 23)) (show b < wr.heap.size by omega)
      go_upto_region 4 with fail
      generalize hV : wr.alloc (.cells #[.int .i64 p1, .int .i64 p2] 23) = V at *
      have hS : ∀ w' : World, Below V.heap.size V w' → (w'.cell? ⟨wr.heap.size, 0, none⟩ = some (.int .i64 p1) ∧ w'.cell? ⟨wr.heap.size, 1, none⟩ = some (.int .i64 p2)) ∧ (w'.cell? ⟨b, off + i1 * 2, none⟩ = some (.int .i64 q1) ∧ w'.cell? ⟨b, off + i1 * 2 + 1, none⟩ = some (.int .i64 q2)) ∧ (w'.cell? ⟨b, off + i2 * 2, none⟩ = some (.int .i64 r1) ∧ w'.cell? ⟨b, off + i2 * 2 + 1, none⟩ = some (.int .i64 r2)) := fun w' hb => ⟨two_of tP hb, D1.below hb hb0, D2.below hb hb0⟩
      have hr := Below.refl V.heap.size V
      clear C1 C2 D1 D2 c1 c2 hV
      generalize turnV p1 p2 q1 q2 r1 r2 = T at *
      have HK := Lib.hid (HN.out k hlt)
      rw [HTA.out] at HK
      have HTB := Lib.hid (show T ≠ 0 → ∀ j, j < k + 1 → turnAt r j ≠ 0 from fun h j hj => by
        by_cases e : j = k
        · rw [e, HTA.out]; exact h
        · exact HL.out j (by omega))
      clear HTA
      by_cases hT : T = 0
      · have e1 : (T == 0) = true := by simpa using hT
        go_region_held3 (fun w' => (w'.cell? ⟨wr.heap.size, 0, none⟩ = some (.int .i64 p1) ∧ w'.cell? ⟨wr.heap.size, 1, none⟩ = some (.int .i64 p2)) ∧ (w'.cell? ⟨b, off + i1 * 2, none⟩ = some (.int .i64 q1) ∧ w'.cell? ⟨b, off + i1 * 2 + 1, none⟩ = some (.int .i64 q2)) ∧ (w'.cell? ⟨b, off + i2 * 2, none⟩ = some (.int .i64 r1) ∧ w'.cell? ⟨b, off + i2 * 2 + 1, none⟩ = some (.int .i64 r2)))
          (first | exact hS _ hr.drew | exact hS _ (by assumption))
          (first
            | (go_at_call 16; refine (HT.out _).mono ?_; rintro r x1 ⟨rfl, hx1'⟩; have hx1 : Below V.heap.size V x1 := hr.drew.trans hx1'))
        all_goals
          have hbB := hbA.trans (hx1.mono hbA.size)
          clear hS hr
          go_wp2_with fail
          go_ret
          exact ⟨by rw [HK.out hT]; rfl, hbB⟩
      · have e1 : (T == 0) = false := by simpa using hT
        have HTC := Lib.hid (HTB.out hT)
        clear hT
        go_region_held3 (fun w' => (w'.cell? ⟨wr.heap.size, 0, none⟩ = some (.int .i64 p1) ∧ w'.cell? ⟨wr.heap.size, 1, none⟩ = some (.int .i64 p2)) ∧ (w'.cell? ⟨b, off + i1 * 2, none⟩ = some (.int .i64 q1) ∧ w'.cell? ⟨b, off + i1 * 2 + 1, none⟩ = some (.int .i64 q2)) ∧ (w'.cell? ⟨b, off + i2 * 2, none⟩ = some (.int .i64 r1) ∧ w'.cell? ⟨b, off + i2 * 2 + 1, none⟩ = some (.int .i64 r2)))
          (first | exact hS _ hr.drew | exact hS _ (by assumption))
          (first
            | (go_at_call 16; refine (HT.out _).mono ?_; rintro r x1 ⟨rfl, hx1'⟩; have hx1 : Below V.heap.size V x1 := hr.drew.trans hx1'))
        all_goals
          have hbB := hbA.trans (hx1.mono hbA.size)
          clear hS hr
          go_wp2_with fail
          go_roundw
          case rel => exact ⟨k + 1, by go_num, by omega, HTC.out, hbB⟩
          case measure => simp [intOf]; omega
    · obtain rfl : k = r.length := by omega
      go_wp2_with fail
      go_ret
      exact ⟨by rw [HY.out (fun j hj => HL.out j hj)]; rfl, hbel⟩
end Go.Proofs.Ytohkmkkcblbemaa.Ge
