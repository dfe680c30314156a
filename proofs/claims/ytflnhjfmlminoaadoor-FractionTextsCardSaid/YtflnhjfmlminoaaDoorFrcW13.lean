/- Walks over package fraction: Cut, Parse. -/
import Derived.Test.YtflnhjfmlminoaaDoorFrcW12
import Derived.Lib.SmallJoins
namespace Go.Proofs.YtflnhjfmlminoaaDoor.Fr
set_option linter.unusedVariables false
set_option linter.unusedSimpArgs false
open Go.RowKit

theorem index_lt : ∀ (l : List UInt8) (c : UInt8), Lib.indexByte l c < (l.length : Int)
  | [], _ => by simp [Lib.indexByte]
  | b :: l, c => by
    have := index_lt l c
    simp only [Lib.indexByte]
    rw [List.length_cons]
    split
    · omega
    · split
      · omega
      · omega

theorem lcut_no (s : ByteArray) (h : Lib.indexByte s.data.toList 47 < 0) (w : World) :
    Calls Tryd.prog 59 #[.string s, .string ⟨#[47]⟩] w fun e w' => e = .returned (.tuple #[.string s, .string ⟨#[]⟩, .bool false]) ∧ Below w.heap.size w w' := by
  have hh := Lib.indexByte_ge s.data.toList 47
  have hi : Lib.indexByte s.data.toList 47 = -1 := by omega
  clear h hh
  go_enter Tryd.func59, Tryd.ntmps59
  go_wp2_with (go_at_call 65; refine (Tryd.stringslite_Index_one s 47 _).mono ?_; rintro e w1 ⟨rfl, rfl⟩)
  go_ret3
  exact ⟨rfl, Below.refl _ _⟩
theorem lcut_yes (s : ByteArray) (i : Nat) (h : Lib.indexByte s.data.toList 47 = (i : Int)) (hs : s.size ≤ 1000000) (w : World) :
    Calls Tryd.prog 59 #[.string s, .string ⟨#[47]⟩] w fun e w' => e = .returned (.tuple #[.string (s.extract 0 i), .string (s.extract (i + 1) s.size), .bool true]) ∧ Below w.heap.size w w' := by
  have hlt := index_lt s.data.toList 47
  rw [h, ← Lib.size_eq] at hlt
  have hlt2 : i < s.size := by omega
  have k1 : IntKind.i64.wrap ((i : Int) + 1) = (i : Int) + 1 := IntWalk.i64_in _ (by omega)
  go_enter Tryd.func59, Tryd.ntmps59
  go_wp2_with (go_at_call 65; refine (Tryd.stringslite_Index_one s 47 _).mono ?_; rintro e w1 ⟨rfl, rfl⟩; rw [h])
  go_quiet (fail)
  go_wp2_with fail
  go_ret3
  exact ⟨rfl, below_drewN _ _ _⟩
theorem cut_no (s : ByteArray) (h : Lib.indexByte s.data.toList 47 < 0) (w : World) :
    Calls Tryd.prog 46 #[.string s, .string ⟨#[47]⟩] w fun e w' => e = .returned (.tuple #[.string s, .string ⟨#[]⟩, .bool false]) ∧ Below w.heap.size w w' := by
  go_enter Tryd.func46, Tryd.ntmps46
  go_wp2_with (go_at_call 59; refine (lcut_no s h _).mono ?_; rintro e w1 ⟨rfl, hb1⟩)
  go_ret3
  exact ⟨rfl, hb1⟩
theorem cut_yes (s : ByteArray) (i : Nat) (h : Lib.indexByte s.data.toList 47 = (i : Int)) (hs : s.size ≤ 1000000) (w : World) :
    Calls Tryd.prog 46 #[.string s, .string ⟨#[47]⟩] w fun e w' => e = .returned (.tuple #[.string (s.extract 0 i), .string (s.extract (i + 1) s.size), .bool true]) ∧ Below w.heap.size w w' := by
  have HC := Lib.hid (fun w => lcut_yes s i h hs w)
  clear h
  go_enter Tryd.func46, Tryd.ntmps46
  go_wp2_with (go_at_call 59; refine (HC.out _).mono ?_; rintro e w1 ⟨rfl, hb1⟩)
  go_ret3
  exact ⟨rfl, hb1⟩

/-- a number, or an error -/
def AtoiPost (l : List UInt8) (w : World) (e : Ending) (w' : World) : Prop :=
  ∃ (n : Int) (v : Value), e = .returned (.tuple #[.int .i64 n, v]) ∧ ((v = .nilIface ∧ Lib.atoiAll l = .ok n) ∨ (∃ p : Value, v = .iface 84 p ∧ ∀ k, Lib.atoiAll l ≠ .ok k)) ∧ Below w.heap.size w w'
theorem atoi_any (s : ByteArray) (hs : s.size ≤ 1000000) (w : World) (hl : Lay w) :
    Calls Tryd.prog 47 #[.string s] w (AtoiPost s.data.toList w) := by
  obtain ⟨-, ⟨t1, p1, h2⟩, ⟨t2, p2, h3⟩⟩ := hl
  rcases h : Lib.atoiAll s.data.toList with v | _ | _
  · refine (Tryd.strconv_Atoi_ok s (by omega) v h w).mono ?_
    rintro e w' ⟨rfl, hw⟩
    refine ⟨v, _, rfl, .inl ⟨rfl, h⟩, ?_⟩
    rcases hw with rfl | ⟨t, rfl⟩
    · exact Below.refl _ _
    · exact Go.Joins.below_bytesWorld _ _ _ _ (Nat.le_refl _)
  · refine (Tryd.strconv_Atoi_syntax s (by omega) h _ w h2 (.inr ⟨_, _, rfl⟩)).mono ?_
    rintro e w' ⟨N, rfl, -, -, hb⟩
    exact ⟨_, _, rfl, .inr ⟨_, rfl, fun k hk => by rw [h] at hk; cases hk⟩, hb⟩
  · refine (Tryd.strconv_Atoi_range s (by omega) h _ w h3 (.inr ⟨_, _, rfl⟩)).mono ?_
    rintro e w' ⟨N, rfl, -, -, hb⟩
    exact ⟨_, _, rfl, .inr ⟨_, rfl, fun k hk => by rw [h] at hk; cases hk⟩, hb⟩

theorem cut_lists (s : ByteArray) : ∃ F G : ByteArray, F.data.toList = cutF s.data.toList ∧ G.data.toList = cutG s.data.toList ∧ F.size ≤ s.size ∧ G.size ≤ s.size + 1 ∧
    ((Lib.indexByte s.data.toList 47 < 0 ∧ F = s ∧ G = ⟨#[49]⟩) ∨ (∃ i : Nat, Lib.indexByte s.data.toList 47 = (i : Int) ∧ F = s.extract 0 i ∧ G = s.extract (i + 1) s.size)) := by
  unfold cutF cutG
  by_cases h : Lib.indexByte s.data.toList 47 < 0
  · rw [if_pos h, if_pos h]
    exact ⟨s, ⟨#[49]⟩, rfl, rfl, Nat.le_refl _, Nat.le_add_left _ _, .inl ⟨h, rfl, rfl⟩⟩
  · rw [if_neg h, if_neg h]
    obtain ⟨i, hi⟩ := Int.eq_ofNat_of_zero_le (show 0 ≤ Lib.indexByte s.data.toList 47 by omega)
    refine ⟨s.extract 0 i, s.extract (i + 1) s.size, ?_, ?_, ?_, ?_, .inr ⟨i, hi, rfl, rfl⟩⟩
    · rw [hi]
      simp
    · rw [hi, Lib.extract_to_end]
      rfl
    · simp
      omega
    · simp
      omega
end Go.Proofs.YtflnhjfmlminoaaDoor.Fr
