/- Walks over packages tree, gazetteerref02 and the law's own: valid, digests, few, good. -/
import Derived.Test.YteapfoadfjjicaaDoorTreeW1
namespace Go.Proofs.YteapfoadfjjicaaDoor.Dig
set_option linter.unusedVariables false
set_option linter.unusedSimpArgs false
open Go.RowKit

def small (l : List ByteArray) : Prop := ∀ s ∈ l, s.size ≤ 1000
theorem small.take {l : List ByteArray} (h : small l) (k : Nat) : small (l.take k) := fun s hs => h s (List.mem_of_mem_take hs)
theorem small.drop {l : List ByteArray} (h : small l) (k : Nat) : small (l.drop k) := fun s hs => h s (List.mem_of_mem_drop hs)
theorem small.get {l : List ByteArray} (h : small l) (i : Nat) (hi : i < l.length) : l[i].size ≤ 1000 := h _ (List.getElem_mem hi)
theorem small_dig {l : List ByteArray} (h : l.all digB = true) : small l := fun s hs => by
  rw [List.all_eq_true] at h
  rw [digB_size (h s hs)]
  decide

set_option maxHeartbeats 1000000 in
theorem valid_none (a : Option Addr) (cap : Nat) (w : World) :
    Calls Tryd.prog 80 #[.slice a 0 cap] w fun e w' => e = .returned (.bool true) ∧ w = w' := by
  go_enter Tryd.func80, Tryd.ntmps80
  go_wp2_with fail
  refine wp_loop_rounds 1 ?_
  rw [rounds_succ]
  go_wp2_with fail
  go_ret
  exact ⟨rfl, rfl⟩

set_option maxHeartbeats 1000000 in
theorem valid_some (l : List ByteArray) (b off cap : Nat) (w : World) (h0 : 0 < l.length) (hm : l.length ≤ maxLen)
    (hc : ∀ i (h : i < l.length), w.cell? ⟨b, off + i, none⟩ = some (.string l[i])) :
    Calls Tryd.prog 80 #[.slice (some ⟨b, off, none⟩) l.length cap] w fun e w' => e = .returned (.bool (l.all digB)) ∧ w = w' := by
  unfold maxLen at hm
  go_enter Tryd.func80, Tryd.ntmps80
  go_wp2_with fail
  go_loop [7] (fun i => ∃ k : Nat, k ≤ l.length ∧ i = .int .i64 k ∧ Hid ((l.take k).all digB = true)) (fun i => l.length - (intOf i).toNat)
  case atStart => exact ⟨0, by omega, rfl, Lib.hid (by simp)⟩
  case round =>
    obtain ⟨k, hk, rfl, Hall⟩ := hrel
    by_cases hlt : k < l.length
    · have hck := hc k hlt
      have Hs := Lib.hid (all_snoc digB l k hlt)
      have Hf := Lib.hid (all_false digB l k hlt)
      clear hc
      cases hd : digB l[k] with
      | true =>
        have Hd := Lib.hid hd
        have Hd' := Lib.hid (show isDig (bl l[k]) = true from hd)
        clear hd
        go_wp2_with fail
        refine (is_any l[k] _).mono ?_
        rintro e w1 ⟨rfl, rfl⟩
        rw [Hd'.out]
        go_wp2_with fail
        go_round
        case rel => exact ⟨k + 1, by omega, by go_num, Lib.hid (by rw [Hs.out, Hall.out, Hd.out]; rfl)⟩
        case measure => simp [intOf]; omega
      | false =>
        have HF := Lib.hid (Hf.out hd)
        have Hd' := Lib.hid (show isDig (bl l[k]) = false from hd)
        clear hd
        go_wp2_with fail
        refine (is_any l[k] _).mono ?_
        rintro e w1 ⟨rfl, rfl⟩
        rw [Hd'.out]
        go_wp2_with fail
        go_ret
        rw [HF.out]
        exact ⟨rfl, rfl⟩
    · obtain rfl : k = l.length := by omega
      rw [List.take_length] at Hall
      clear hc
      go_wp2_with fail
      go_ret
      rw [Hall.out]
      exact ⟨rfl, rfl⟩

theorem valid_any (v : Value) (l : List ByteArray) (w : World) (hl : StrSl w v l) :
    Calls Tryd.prog 80 #[v] w fun e w' => e = .returned (.bool (l.all digB)) ∧ w = w' := by
  rcases hl with ⟨rfl, a, cap, rfl⟩ | ⟨b, off, cap, rfl, h0, hb, hm, hc⟩
  · exact valid_none a cap w
  · exact valid_some l b off cap w h0 (capLen hm) hc

set_option maxHeartbeats 1000000 in
theorem rdigests_none (a : Option Addr) (cap : Nat) (w : World) :
    Calls Tryd.prog 83 #[.slice a 0 cap] w fun e w' => e = .returned (.bool true) ∧ w = w' := by
  go_enter Tryd.func83, Tryd.ntmps83
  go_wp2_with fail
  refine wp_loop_rounds 1 ?_
  rw [rounds_succ]
  go_wp2_with fail
  go_ret
  exact ⟨rfl, rfl⟩

set_option maxHeartbeats 1000000 in
theorem rdigests_some (l : List ByteArray) (hsm : small l) (b off cap : Nat) (w : World) (h0 : 0 < l.length) (hm : l.length ≤ maxLen)
    (hc : ∀ i (h : i < l.length), w.cell? ⟨b, off + i, none⟩ = some (.string l[i])) :
    Calls Tryd.prog 83 #[.slice (some ⟨b, off, none⟩) l.length cap] w fun e w' => e = .returned (.bool (l.all digB)) ∧ w = w' := by
  unfold maxLen at hm
  have Hsm := Lib.hid hsm
  clear hsm
  go_enter Tryd.func83, Tryd.ntmps83
  go_wp2_with fail
  go_loop [3] (fun i => ∃ k : Nat, k ≤ l.length ∧ i = .int .i64 k ∧ Hid ((l.take k).all digB = true)) (fun i => l.length - (intOf i).toNat)
  case atStart => exact ⟨0, by omega, rfl, Lib.hid (by simp)⟩
  case round =>
    obtain ⟨k, hk, rfl, Hall⟩ := hrel
    by_cases hlt : k < l.length
    · have hck := hc k hlt
      have Hs := Lib.hid (all_snoc digB l k hlt)
      have Hf := Lib.hid (all_false digB l k hlt)
      have hsz := small.get Hsm.out k hlt
      clear hc
      cases hd : digB l[k] with
      | true =>
        have Hd := Lib.hid hd
        have Hd' := Lib.hid (show isDig (bl l[k]) = true from hd)
        clear hd
        go_wp2_with fail
        refine (ris_any l[k] (by omega) _).mono ?_
        rintro e w1 ⟨rfl, rfl⟩
        rw [Hd'.out]
        go_wp2_with fail
        go_round
        case rel => exact ⟨k + 1, by omega, by go_num, Lib.hid (by rw [Hs.out, Hall.out, Hd.out]; rfl)⟩
        case measure => simp [intOf]; omega
      | false =>
        have HF := Lib.hid (Hf.out hd)
        have Hd' := Lib.hid (show isDig (bl l[k]) = false from hd)
        clear hd
        go_wp2_with fail
        refine (ris_any l[k] (by omega) _).mono ?_
        rintro e w1 ⟨rfl, rfl⟩
        rw [Hd'.out]
        go_wp2_with fail
        go_ret
        rw [HF.out]
        exact ⟨rfl, rfl⟩
    · obtain rfl : k = l.length := by omega
      rw [List.take_length] at Hall
      clear hc
      go_wp2_with fail
      go_ret
      rw [Hall.out]
      exact ⟨rfl, rfl⟩

theorem rdigests_any (v : Value) (l : List ByteArray) (hsm : small l) (w : World) (hl : StrSl w v l) :
    Calls Tryd.prog 83 #[v] w fun e w' => e = .returned (.bool (l.all digB)) ∧ w = w' := by
  rcases hl with ⟨rfl, a, cap, rfl⟩ | ⟨b, off, cap, rfl, h0, hb, hm, hc⟩
  · exact rdigests_none a cap w
  · exact rdigests_some l hsm b off cap w h0 (capLen hm) hc

/-! ### few, good -/

def few2 (l : List ByteArray) : Bool := decide (l.length ≤ 20) && l.all (fun s => decide (s.size ≤ 100))
theorem few2_of (l : List ByteArray) (h : l.length ≤ 20) (b : Bool) (hb : fewB l 100 = b) : few2 l = b := by
  unfold few2
  unfold fewB at hb
  rw [← hb, decide_eq_true h, decide_eq_true (show l.length ≤ 30 by omega)]
  simp
theorem few2_not (l : List ByteArray) (h : ¬ l.length ≤ 20) : few2 l = false := by
  unfold few2
  rw [decide_eq_false h]
  rfl
theorem few2_len {l : List ByteArray} (h : few2 l = true) : l.length ≤ 20 := by
  unfold few2 at h
  simp only [Bool.and_eq_true, decide_eq_true_eq] at h
  exact h.1
theorem few2_small {l : List ByteArray} (h : few2 l = true) : small l := fun s hs => by
  unfold few2 at h
  simp only [Bool.and_eq_true, List.all_eq_true, decide_eq_true_eq] at h
  have := h.2 s hs
  omega

theorem strSl_form {w : World} {v : Value} {l : List ByteArray} (h : StrSl w v l) : ∃ a cap, v = .slice a l.length cap ∧ l.length ≤ maxLen := by
  rcases h with ⟨rfl, a, cap, rfl⟩ | ⟨b, off, cap, rfl, h0, hb, hm, hc⟩
  · exact ⟨a, cap, rfl, by decide⟩
  · exact ⟨_, cap, rfl, capLen hm⟩

def goodB (l : List ByteArray) : Bool := l.all digB && few2 l

theorem goodB_all {l : List ByteArray} (h : goodB l = true) : l.all digB = true := by
  unfold goodB at h
  rw [Bool.and_eq_true] at h
  exact h.1
theorem goodB_len {l : List ByteArray} (h : goodB l = true) : l.length ≤ 20 := by
  unfold goodB at h
  rw [Bool.and_eq_true] at h
  exact few2_len h.2

end Go.Proofs.YteapfoadfjjicaaDoor.Dig
