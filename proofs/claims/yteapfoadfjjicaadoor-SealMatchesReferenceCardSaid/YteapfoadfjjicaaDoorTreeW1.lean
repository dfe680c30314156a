/- Walks over packages tree and gazetteerref02: split, Half; node, empty, Leaf in both. -/
import Derived.Test.YteapfoadfjjicaaDoorTreeBind
namespace Go.Proofs.YteapfoadfjjicaaDoor.Dig
set_option linter.unusedVariables false
set_option linter.unusedSimpArgs false
open Go.RowKit

theorem pow_next (j : Nat) : 2 ^ (j + 1) = 2 * 2 ^ j := by rw [Nat.pow_succ, Nat.mul_comm]

set_option maxHeartbeats 400000 in
theorem split_any (n : Int) (h2 : 2 ≤ n) (hn : n ≤ 9223372036854775807) (w : World) :
    Calls Tryd.prog 106 #[.int .i64 n] w fun e w' => e = .returned (.int .i64 ((half n.toNat : Nat) : Int)) ∧ w = w' := by
  have H0 := Lib.hid (half_of n.toNat)
  go_enter Tryd.func106, Tryd.ntmps106
  go_wp2_with fail
  go_loop [3] (fun v => ∃ j k : Nat, v = .int .i64 (k : Int) ∧ 0 < k ∧ (k : Int) < n ∧ Hid (k = 2 ^ j)) (fun v => (n - intOf v).toNat)
  case atStart => exact ⟨0, 1, rfl, by omega, by omega, Lib.hid rfl⟩
  case round =>
    obtain ⟨j, k, rfl, h0, hlt, Hk⟩ := hrel
    by_cases h : (k : Int) < n - (k : Int)
    · have Hn := Lib.hid (pow_next j)
      go_wp2_with fail
      go_round
      case rel => exact ⟨j + 1, 2 * k, by go_num, by omega, by omega, Lib.hid (by rw [Hn.out, Hk.out])⟩
      case measure => simp [intOf]; omega
    · have Hh := Lib.hid (show half n.toNat = k by have e := Hk.out; rw [H0.out j (by omega) (by omega), e])
      go_wp2_with fail
      go_ret
      rw [Hh.out]
      exact ⟨rfl, rfl⟩

set_option maxHeartbeats 400000 in
theorem half_any (n : Int) (h2 : 2 ≤ n) (hn : n ≤ 4611686018427387904) (w : World) :
    Calls Tryd.prog 109 #[.int .i64 n] w fun e w' => e = .returned (.int .i64 ((half n.toNat : Nat) : Int)) ∧ w = w' := by
  have H0 := Lib.hid (half_of n.toNat)
  go_enter Tryd.func109, Tryd.ntmps109
  go_wp2_with fail
  go_loop [3] (fun v => ∃ j k : Nat, v = .int .i64 (k : Int) ∧ 0 < k ∧ (k : Int) < n ∧ Hid (k = 2 ^ j)) (fun v => (n - intOf v).toNat)
  case atStart => exact ⟨0, 1, rfl, by omega, by omega, Lib.hid rfl⟩
  case round =>
    obtain ⟨j, k, rfl, h0, hlt, Hk⟩ := hrel
    by_cases h : 2 * (k : Int) < n
    · have Hn := Lib.hid (pow_next j)
      go_wp2_with fail
      go_round
      case rel => exact ⟨j + 1, 2 * k, by go_num, by omega, by omega, Lib.hid (by rw [Hn.out, Hk.out])⟩
      case measure => simp [intOf]; omega
    · have Hh := Lib.hid (show half n.toNat = k by have e := Hk.out; rw [H0.out j (by omega) (by omega), e])
      go_wp2_with fail
      go_ret
      rw [Hh.out]
      exact ⟨rfl, rfl⟩

/-! ### Lists that are written out -/

theorem joinB_len' (m : Nat) (hm : m ≤ 9223372036854775807) : ∀ l : List ByteArray, (∀ s ∈ l, s.size ≤ m) → (joinB l).length ≤ l.length * (m + 22)
  | [], _ => by simp [joinB]
  | s :: r, h => by
    have h1 := joinB_len' m hm r (fun x hx => h x (List.mem_cons_of_mem _ hx))
    have h2 := h s List.mem_cons_self
    have h3 := Lib.itoa_length_le (s.size : Int) (by omega) (by omega)
    have h4 := Lib.size_eq s
    rw [joinB, List.length_append, encS, List.length_append, List.length_cons, List.length_cons, Nat.add_mul, ← h4]
    omega

theorem sumB_len' (m : Nat) : ∀ l : List ByteArray, (∀ s ∈ l, s.size ≤ m) → sumB l ≤ l.length * (m + 21)
  | [], _ => by simp [sumB]
  | s :: r, h => by
    have h1 := sumB_len' m r (fun x hx => h x (List.mem_cons_of_mem _ hx))
    have h2 := h s List.mem_cons_self
    rw [sumB, List.length_cons, Nat.add_mul]
    omega

theorem mem3 {a b c : ByteArray} {P : ByteArray → Prop} (h1 : P a) (h2 : P b) (h3 : P c) : ∀ s ∈ [a, b, c], P s := by
  intro s hs
  simp only [List.mem_cons, List.not_mem_nil, or_false] at hs
  rcases hs with rfl | rfl | rfl
  · exact h1
  · exact h2
  · exact h3

theorem sl3 (a b c : ByteArray) (w : World) : StrSl (w.alloc (.cells #[.string a, .string b, .string c] 9)) (.slice (some ⟨w.heap.size, 0, none⟩) 3 3) [a, b, c] :=
  .inr ⟨w.heap.size, 0, 3, rfl, by simp, by simp, ⟨by simp, by simp [maxLen]⟩, by
    intro i hi
    match i, hi with
    | 0, _ => simp
    | 1, _ => simp
    | 2, _ => simp⟩
theorem sl2 (a b : ByteArray) (w : World) : StrSl (w.alloc (.cells #[.string a, .string b] 9)) (.slice (some ⟨w.heap.size, 0, none⟩) 2 2) [a, b] :=
  .inr ⟨w.heap.size, 0, 2, rfl, by simp, by simp, ⟨by simp, by simp [maxLen]⟩, by
    intro i hi
    match i, hi with
    | 0, _ => simp
    | 1, _ => simp⟩
theorem sl1 (a : ByteArray) (w : World) : StrSl (w.alloc (.cells #[.string a] 9)) (.slice (some ⟨w.heap.size, 0, none⟩) 1 1) [a] :=
  .inr ⟨w.heap.size, 0, 1, rfl, by simp, by simp, ⟨by simp, by simp [maxLen]⟩, by
    intro i hi
    match i, hi with
    | 0, _ => simp⟩

theorem new_below (w : World) (o : Obj) : Below w.heap.size w (w.alloc o) := (Below.refl _ _).alloc (Nat.le_refl _) _

theorem list3 (a b c : ByteArray) (h1 : a.size ≤ 1000) (h2 : b.size ≤ 1000) (h3 : c.size ≤ 1000) (w : World) (ht : Tab w) :
    Calls Tryd.prog 90 #[.slice (some ⟨w.heap.size, 0, none⟩) 3 3] (w.alloc (.cells #[.string a, .string b, .string c] 9)) fun e w' => e = .returned (.string (lsum [a, b, c])) ∧ Below w.heap.size w w' :=
  (list_any _ [a, b, c] _ (ht.below (new_below w _)) (sl3 a b c w) (by have := joinB_len' 1000 (by decide) [a, b, c] (mem3 h1 h2 h3); simp at this; omega)).mono
    fun e w' ⟨he, hw⟩ => ⟨he, (new_below w _).trans (hw.mono (by simp))⟩
theorem rlist3 (a b c : ByteArray) (h1 : a.size ≤ 1000) (h2 : b.size ≤ 1000) (h3 : c.size ≤ 1000) (w : World) :
    Calls Tryd.prog 65 #[.slice (some ⟨w.heap.size, 0, none⟩) 3 3] (w.alloc (.cells #[.string a, .string b, .string c] 9)) fun e w' => e = .returned (.string (lsum [a, b, c])) ∧ Below w.heap.size w w' :=
  (rlist_any _ [a, b, c] _ (sl3 a b c w) (by have := joinB_len' 1000 (by decide) [a, b, c] (mem3 h1 h2 h3); simp at this; omega) (by have := sumB_len' 1000 [a, b, c] (mem3 h1 h2 h3); simp at this; omega)).mono
    fun e w' ⟨he, hw⟩ => ⟨he, (new_below w _).trans (hw.mono (by simp))⟩
theorem rjoined3 (a b c : ByteArray) (h1 : a.size ≤ 1000) (h2 : b.size ≤ 1000) (h3 : c.size ≤ 1000) (w : World) :
    Calls Tryd.prog 67 #[.slice (some ⟨w.heap.size, 0, none⟩) 3 3] (w.alloc (.cells #[.string a, .string b, .string c] 9)) fun e w' => e = .returned (.string (joinT [a, b, c])) ∧ Below w.heap.size w w' :=
  (rjoined_any _ [a, b, c] _ (sl3 a b c w) (by have := joinB_len' 1000 (by decide) [a, b, c] (mem3 h1 h2 h3); simp at this; omega) (by have := sumB_len' 1000 [a, b, c] (mem3 h1 h2 h3); simp at this; omega)).mono
    fun e w' ⟨he, hw⟩ => ⟨he, (new_below w _).trans (hw.mono (by simp))⟩

theorem mem2 {a b : ByteArray} {P : ByteArray → Prop} (h1 : P a) (h2 : P b) : ∀ s ∈ [a, b], P s := by
  intro s hs
  simp only [List.mem_cons, List.not_mem_nil, or_false] at hs
  rcases hs with rfl | rfl
  · exact h1
  · exact h2
theorem mem1 {a : ByteArray} {P : ByteArray → Prop} (h1 : P a) : ∀ s ∈ [a], P s := by
  intro s hs
  simp only [List.mem_cons, List.not_mem_nil, or_false] at hs
  exact hs ▸ h1
theorem list2 (a b : ByteArray) (h1 : a.size ≤ 1000) (h2 : b.size ≤ 1000) (w : World) (ht : Tab w) :
    Calls Tryd.prog 90 #[.slice (some ⟨w.heap.size, 0, none⟩) 2 2] (w.alloc (.cells #[.string a, .string b] 9)) fun e w' => e = .returned (.string (lsum [a, b])) ∧ Below w.heap.size w w' :=
  (list_any _ [a, b] _ (ht.below (new_below w _)) (sl2 a b w) (by have := joinB_len' 1000 (by decide) [a, b] (mem2 h1 h2); simp at this; omega)).mono
    fun e w' ⟨he, hw⟩ => ⟨he, (new_below w _).trans (hw.mono (by simp))⟩
theorem rlist2 (a b : ByteArray) (h1 : a.size ≤ 1000) (h2 : b.size ≤ 1000) (w : World) :
    Calls Tryd.prog 65 #[.slice (some ⟨w.heap.size, 0, none⟩) 2 2] (w.alloc (.cells #[.string a, .string b] 9)) fun e w' => e = .returned (.string (lsum [a, b])) ∧ Below w.heap.size w w' :=
  (rlist_any _ [a, b] _ (sl2 a b w) (by have := joinB_len' 1000 (by decide) [a, b] (mem2 h1 h2); simp at this; omega) (by have := sumB_len' 1000 [a, b] (mem2 h1 h2); simp at this; omega)).mono
    fun e w' ⟨he, hw⟩ => ⟨he, (new_below w _).trans (hw.mono (by simp))⟩
theorem list1 (a : ByteArray) (h1 : a.size ≤ 1000) (w : World) (ht : Tab w) :
    Calls Tryd.prog 90 #[.slice (some ⟨w.heap.size, 0, none⟩) 1 1] (w.alloc (.cells #[.string a] 9)) fun e w' => e = .returned (.string (lsum [a])) ∧ Below w.heap.size w w' :=
  (list_any _ [a] _ (ht.below (new_below w _)) (sl1 a w) (by have := joinB_len' 1000 (by decide) [a] (mem1 h1); simp at this; omega)).mono
    fun e w' ⟨he, hw⟩ => ⟨he, (new_below w _).trans (hw.mono (by simp))⟩
theorem rlist1 (a : ByteArray) (h1 : a.size ≤ 1000) (w : World) :
    Calls Tryd.prog 65 #[.slice (some ⟨w.heap.size, 0, none⟩) 1 1] (w.alloc (.cells #[.string a] 9)) fun e w' => e = .returned (.string (lsum [a])) ∧ Below w.heap.size w w' :=
  (rlist_any _ [a] _ (sl1 a w) (by have := joinB_len' 1000 (by decide) [a] (mem1 h1); simp at this; omega) (by have := sumB_len' 1000 [a] (mem1 h1); simp at this; omega)).mono
    fun e w' ⟨he, hw⟩ => ⟨he, (new_below w _).trans (hw.mono (by simp))⟩
theorem rjoined1 (a : ByteArray) (h1 : a.size ≤ 1000) (w : World) :
    Calls Tryd.prog 67 #[.slice (some ⟨w.heap.size, 0, none⟩) 1 1] (w.alloc (.cells #[.string a] 9)) fun e w' => e = .returned (.string (joinT [a])) ∧ Below w.heap.size w w' :=
  (rjoined_any _ [a] _ (sl1 a w) (by have := joinB_len' 1000 (by decide) [a] (mem1 h1); simp at this; omega) (by have := sumB_len' 1000 [a] (mem1 h1); simp at this; omega)).mono
    fun e w' ⟨he, hw⟩ => ⟨he, (new_below w _).trans (hw.mono (by simp))⟩

/-! ### node, empty, Leaf -/

theorem wNode_le : wNode.size ≤ 1000 := by decide
theorem wEmpty_le : wEmpty.size ≤ 1000 := by decide
theorem wLeaf_le : wLeaf.size ≤ 1000 := by decide

set_option maxHeartbeats 400000 in
theorem node_any (a b : ByteArray) (h1 : a.size ≤ 1000) (h2 : b.size ≤ 1000) (w : World) (ht : Tab w) :
    Calls Tryd.prog 107 #[.string a, .string b] w fun e w' => e = .returned (.string (nodeB a b)) ∧ Below w.heap.size w w' := by
  go_enter Tryd.func107, Tryd.ntmps107
  go_wp2_with fail
  refine (list3 wNode a b wNode_le h1 h2 w ht).mono ?_
  rintro e w1 ⟨rfl, hb1⟩
  go_wp2_with fail
  go_ret
  exact ⟨rfl, hb1⟩

set_option maxHeartbeats 400000 in
theorem rnode_any (a b : ByteArray) (h1 : a.size ≤ 1000) (h2 : b.size ≤ 1000) (w : World) :
    Calls Tryd.prog 110 #[.string a, .string b] w fun e w' => e = .returned (.string (nodeB a b)) ∧ Below w.heap.size w w' := by
  go_enter Tryd.func110, Tryd.ntmps110
  go_wp2_with fail
  refine (rlist3 wNode a b wNode_le h1 h2 w).mono ?_
  rintro e w1 ⟨rfl, hb1⟩
  go_wp2_with fail
  go_ret
  exact ⟨rfl, hb1⟩

set_option maxHeartbeats 400000 in
theorem empty_any (w : World) (ht : Tab w) :
    Calls Tryd.prog 104 #[] w fun e w' => e = .returned (.string emptyB) ∧ Below w.heap.size w w' := by
  go_enter Tryd.func104, Tryd.ntmps104
  go_wp2_with fail
  refine (list1 wEmpty wEmpty_le w ht).mono ?_
  rintro e w1 ⟨rfl, hb1⟩
  go_wp2_with fail
  go_ret
  exact ⟨rfl, hb1⟩

set_option maxHeartbeats 400000 in
theorem rempty_any (w : World) :
    Calls Tryd.prog 108 #[] w fun e w' => e = .returned (.string emptyB) ∧ Below w.heap.size w w' := by
  go_enter Tryd.func108, Tryd.ntmps108
  go_wp2_with fail
  refine (rlist1 wEmpty wEmpty_le w).mono ?_
  rintro e w1 ⟨rfl, hb1⟩
  go_wp2_with fail
  go_ret
  exact ⟨rfl, hb1⟩

set_option maxHeartbeats 400000 in
theorem leaf_any (s : ByteArray) (h1 : s.size ≤ 1000) (w : World) (ht : Tab w) :
    Calls Tryd.prog 97 #[.string s] w fun e w' => e = .returned (.string (leafB s)) ∧ Below w.heap.size w w' := by
  go_enter Tryd.func97, Tryd.ntmps97
  go_wp2_with fail
  refine (list2 wLeaf s wLeaf_le h1 w ht).mono ?_
  rintro e w1 ⟨rfl, hb1⟩
  go_wp2_with fail
  go_ret
  exact ⟨rfl, hb1⟩

set_option maxHeartbeats 400000 in
theorem rleaf_any (s : ByteArray) (h1 : s.size ≤ 1000) (w : World) :
    Calls Tryd.prog 64 #[.string s] w fun e w' => e = .returned (.string (leafB s)) ∧ Below w.heap.size w w' := by
  go_enter Tryd.func64, Tryd.ntmps64
  go_wp2_with fail
  refine (rlist2 wLeaf s wLeaf_le h1 w).mono ?_
  rintro e w1 ⟨rfl, hb1⟩
  go_wp2_with fail
  go_ret
  exact ⟨rfl, hb1⟩

end Go.Proofs.YteapfoadfjjicaaDoor.Dig
