/- Walks over layer 3's reference and laws: Few; the examples. -/
import Derived.Test.YtohhkgnddeeomaaDoorSlmW7
namespace Go.Proofs.YtohhkgnddeeomaaDoor.Dig
set_option linter.unusedVariables false
set_option linter.unusedSimpArgs false
open Go.RowKit

theorem StrSl.any {w : World} {v : Value} {l : List ByteArray} (h : StrSl w v l) : ∃ a cap, v = .slice a l.length cap ∧ l.length ≤ maxLen ∧ ∀ k (hk : k < l.length), ∃ b off, a = some ⟨b, off, none⟩ ∧ w.cell? ⟨b, off + k, none⟩ = some (.string l[k]) := by
  rcases h with ⟨rfl, a, cap, rfl⟩ | ⟨b, off, cap, rfl, h0, hb, hm, hc⟩
  · exact ⟨a, cap, rfl, Nat.zero_le _, fun k hk => by simp at hk⟩
  · exact ⟨_, cap, rfl, capLen hm, fun k hk => ⟨b, off, rfl, hc k hk⟩⟩

/-- what Few tells -/
def FewS (sig path : List ByteArray) : Prop := sig.length ≤ 30 ∧ path.length ≤ 30 ∧ (∀ s ∈ sig, s.size ≤ 100) ∧ ∀ s ∈ path, s.size ≤ 100

theorem take_snoc_all {P : ByteArray → Prop} {l : List ByteArray} {k : Nat} (hlt : k < l.length) (h : ∀ s ∈ l.take k, P s) (hk : P l[k]) : ∀ s ∈ l.take (k + 1), P s := by
  intro s hs
  rw [List.take_succ_eq_append_getElem hlt] at hs
  rcases List.mem_append.1 hs with hs | hs
  · exact h s hs
  · rw [List.mem_singleton] at hs; rw [hs]; exact hk

set_option maxRecDepth 100000 in
set_option maxHeartbeats 2000000 in
theorem Few_any (i : Int) (vs vp : Value) (sig path : List ByteArray) (w : World) (h1 : StrSl w vs sig) (h2 : StrSl w vp path) :
    Calls Tryd.prog 12 #[.agg #[.int .i64 i, vs, vp]] w fun e w' => RetB (FewS sig path) e ∧ Below w.heap.size w w' := by
  obtain ⟨a1, c1, rfl, hm1, g1⟩ := h1.any
  obtain ⟨a2, c2, rfl, hm2, g2⟩ := h2.any
  have hb := new_below w (.cells #[.int .i64 i, .slice a1 sig.length c1, .slice a2 path.length c2] 24)
  have hH := Held.new w (.int .i64 i) (.slice a1 sig.length c1) (.slice a2 path.length c2)
  have k1 : ∀ k (hk : k < sig.length), ∃ b off, a1 = some ⟨b, off, none⟩ ∧ (w.alloc (.cells #[.int .i64 i, .slice a1 sig.length c1, .slice a2 path.length c2] 24)).cell? ⟨b, off + k, none⟩ = some (.string sig[k]) := fun k hk => by
    obtain ⟨b, off, h, hc⟩ := g1 k hk
    exact ⟨b, off, h, (hb.cell (p := ⟨b, off + k, none⟩) (World.block_lt_of_cell? _ _ hc)).trans hc⟩
  have k2 : ∀ k (hk : k < path.length), ∃ b off, a2 = some ⟨b, off, none⟩ ∧ (w.alloc (.cells #[.int .i64 i, .slice a1 sig.length c1, .slice a2 path.length c2] 24)).cell? ⟨b, off + k, none⟩ = some (.string path[k]) := fun k hk => by
    obtain ⟨b, off, h, hc⟩ := g2 k hk
    exact ⟨b, off, h, (hb.cell (p := ⟨b, off + k, none⟩) (World.block_lt_of_cell? _ _ hc)).trans hc⟩
  unfold maxLen at hm1 hm2
  clear g1 g2 h1 h2
  go_enter Tryd.func12, Tryd.ntmps12
  go_wp2_with fail
  obtain ⟨W, hW⟩ : ∃ W, w.alloc (.cells #[.int .i64 i, .slice a1 sig.length c1, .slice a2 path.length c2] 24) = W := ⟨_, rfl⟩
  rw [hW] at hb hH k1 k2 ⊢
  clear hW
  have x1 := hH.cell
  have x2 := hH.cell2
  have K1 := Lib.hid k1
  have K2 := Lib.hid k2
  clear k1 k2
  go_loop [3] (fun c => ∃ k : Nat, k ≤ sig.length ∧ k ≤ 30 ∧ c = .int .i64 (k : Int) ∧ Hid (∀ s ∈ sig.take k, s.size ≤ 100)) (fun c => 30 - (intOf c).toNat)
  case atStart => exact ⟨0, by omega, by omega, rfl, Lib.hid (by simp)⟩
  case round =>
    obtain ⟨k, hk, hk30, rfl, Hall⟩ := hrel
    by_cases hlt : k < sig.length
    · by_cases h30 : k < 30
      · obtain ⟨b, off, rfl, hc⟩ := K1.out k hlt
        have Hs := Lib.hid (take_snoc_all (P := fun s => s.size ≤ 100) hlt Hall.out)
        by_cases h100 : sig[k].size ≤ 100
        · have q : (sig[k].size : Int) ≤ 100 := by omega
          go_wp2_with fail
          go_round
          case rel => exact ⟨k + 1, by omega, by omega, by go_num, Lib.hid (Hs.out h100)⟩
          case measure => simp [intOf]; omega
        · have q : (100 : Int) < (sig[k].size : Int) := by omega
          go_wp2_with fail
          go_ret
          exact ⟨⟨false, rfl, fun h => by cases h⟩, hb⟩
      · obtain rfl : k = 30 := by omega
        have q : (30 : Int) < (sig.length : Int) := by omega
        have H30 := Lib.hid hlt
        go_wp2_with fail
        go_loop [4] (fun c => ∃ k : Nat, k ≤ path.length ∧ k ≤ 30 ∧ c = .int .i64 (k : Int)) (fun c => 30 - (intOf c).toNat)
        case atStart => exact ⟨0, by omega, by omega, rfl⟩
        case round =>
          obtain ⟨k, hk, hk30, rfl⟩ := hrel
          by_cases hlt2 : k < path.length
          · by_cases h302 : k < 30
            · obtain ⟨b, off, rfl, hc⟩ := K2.out k hlt2
              by_cases h100 : path[k].size ≤ 100
              · have q : (path[k].size : Int) ≤ 100 := by omega
                go_wp2_with fail
                go_round
                case rel => exact ⟨k + 1, by omega, by omega, by go_num⟩
                case measure => simp [intOf]; omega
              · have q : (100 : Int) < (path[k].size : Int) := by omega
                go_wp2_with fail
                go_ret
                exact ⟨⟨false, rfl, fun h => by cases h⟩, hb⟩
            · obtain rfl : k = 30 := by omega
              go_wp2_with fail
              go_ret
              exact ⟨⟨false, rfl, fun h => by cases h⟩, hb⟩
          · obtain rfl : k = path.length := by omega
            go_wp2_with fail
            go_ret
            exact ⟨⟨false, rfl, fun h => by cases h⟩, hb⟩
    · obtain rfl : k = sig.length := by omega
      rw [List.take_length] at Hall
      have q30 : (sig.length : Int) ≤ 30 := by omega
      go_wp2_with fail
      go_loop [4] (fun c => ∃ k : Nat, k ≤ path.length ∧ k ≤ 30 ∧ c = .int .i64 (k : Int) ∧ Hid (∀ s ∈ path.take k, s.size ≤ 100)) (fun c => 30 - (intOf c).toNat)
      case atStart => exact ⟨0, by omega, by omega, rfl, Lib.hid (by simp)⟩
      case round =>
        obtain ⟨k, hk, hk30', rfl, Hall2⟩ := hrel
        by_cases hlt2 : k < path.length
        · by_cases h302 : k < 30
          · obtain ⟨b, off, rfl, hc⟩ := K2.out k hlt2
            have Hs := Lib.hid (take_snoc_all (P := fun s => s.size ≤ 100) hlt2 Hall2.out)
            by_cases h100 : path[k].size ≤ 100
            · have q : (path[k].size : Int) ≤ 100 := by omega
              go_wp2_with fail
              go_round
              case rel => exact ⟨k + 1, by omega, by omega, by go_num, Lib.hid (Hs.out h100)⟩
              case measure => simp [intOf]; omega
            · have q : (100 : Int) < (path[k].size : Int) := by omega
              go_wp2_with fail
              go_ret
              exact ⟨⟨false, rfl, fun h => by cases h⟩, hb⟩
          · obtain rfl : k = 30 := by omega
            have q : (30 : Int) < (path.length : Int) := by omega
            go_wp2_with fail
            go_ret
            exact ⟨⟨_, rfl, fun h => absurd (of_decide_eq_true h) (by omega)⟩, hb⟩
        · obtain rfl : k = path.length := by omega
          rw [List.take_length] at Hall2
          have q : (path.length : Int) ≤ 30 := by omega
          go_wp2_with fail
          go_ret
          exact ⟨⟨true, rfl, fun _ => ⟨by omega, by omega, Hall.out, Hall2.out⟩⟩, hb⟩

end Go.Proofs.YtohhkgnddeeomaaDoor.Dig
