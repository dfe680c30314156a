/- Walks over package gazetteerref01: Few, mix, Digit. -/
import Derived.Test.YtgclcomjojpkgaaDoorDigW6
import Derived.RegionTactic
import Derived.ChangeAlike
namespace Go.Proofs.YtgclcomjojpkgaaDoor.Dig
set_option linter.unusedVariables false
set_option linter.unusedSimpArgs false
open Go.RowKit

def fewB (l : List ByteArray) (m : Nat) : Bool := l.all (fun s => decide (s.size ≤ m)) && decide (l.length ≤ 30)

theorem all_snoc {α : Type} (f : α → Bool) (l : List α) (k : Nat) (h : k < l.length) : (l.take (k + 1)).all f = ((l.take k).all f && f l[k]) := by
  rw [List.take_succ_eq_append_getElem h, List.all_append]
  simp
theorem all_false {α : Type} (f : α → Bool) (l : List α) (k : Nat) (h : k < l.length) (hf : f l[k] = false) : l.all f = false := by
  rw [List.all_eq_false]
  exact ⟨l[k], List.getElem_mem h, by simp [hf]⟩

set_option maxHeartbeats 1000000 in
theorem few_none (a : Option Addr) (cap : Nat) (m : Nat) (w : World) :
    Calls Tryd.prog 31 #[.slice a 0 cap, .int .i64 (m : Int)] w fun e w' => e = .returned (.bool true) ∧ w = w' := by
  go_enter Tryd.func31, Tryd.ntmps31
  go_wp2_with fail
  refine wp_loop_rounds 1 ?_
  rw [rounds_succ]
  go_wp2_with fail
  go_ret
  exact ⟨rfl, rfl⟩

set_option maxHeartbeats 1000000 in
theorem few_some (l : List ByteArray) (b off cap m : Nat) (w : World) (h0 : 0 < l.length) (hm : l.length ≤ maxLen)
    (hc : ∀ i (h : i < l.length), w.cell? ⟨b, off + i, none⟩ = some (.string l[i])) :
    Calls Tryd.prog 31 #[.slice (some ⟨b, off, none⟩) l.length cap, .int .i64 (m : Int)] w fun e w' => e = .returned (.bool (fewB l m)) ∧ w = w' := by
  unfold maxLen at hm
  go_enter Tryd.func31, Tryd.ntmps31
  go_wp2_with fail
  go_loop [5] (fun i => ∃ k : Nat, k ≤ l.length ∧ i = .int .i64 k ∧ Hid ((l.take k).all (fun s => decide (s.size ≤ m)) = true)) (fun i => l.length - (intOf i).toNat)
  case atStart => exact ⟨0, by omega, rfl, Lib.hid (by simp)⟩
  case round =>
    obtain ⟨k, hk, rfl, Hall⟩ := hrel
    by_cases hlt : k < l.length
    · have hck := hc k hlt
      have Hs := Lib.hid (all_snoc (fun s : ByteArray => decide (s.size ≤ m)) l k hlt)
      have Hf := Lib.hid (all_false (fun s : ByteArray => decide (s.size ≤ m)) l k hlt)
      clear hc
      by_cases hsz : l[k].size ≤ m
      · go_wp2_with fail
        go_round
        case rel => exact ⟨k + 1, by omega, by go_num, Lib.hid (by rw [Hs.out, Hall.out]; simpa using hsz)⟩
        case measure => simp [intOf]; omega
      · have HF := Lib.hid (show fewB l m = false by unfold fewB; rw [Hf.out (by simpa using hsz)]; rfl)
        go_wp2_with fail
        go_ret
        rw [HF.out]
        exact ⟨rfl, rfl⟩
    · obtain rfl : k = l.length := by omega
      rw [List.take_length] at Hall
      have HF := Lib.hid (show fewB l m = decide (l.length ≤ 30) by unfold fewB; rw [Hall.out]; rfl)
      clear hc
      go_wp2_with fail
      go_ret
      rw [HF.out]
      refine ⟨?_, rfl⟩
      simp
      omega

theorem few_any (v : Value) (l : List ByteArray) (m : Nat) (w : World) (hl : StrSl w v l) :
    Calls Tryd.prog 31 #[v, .int .i64 (m : Int)] w fun e w' => e = .returned (.bool (fewB l m)) ∧ w = w' := by
  rcases hl with ⟨rfl, a, cap, rfl⟩ | ⟨b, off, cap, rfl, h0, hb, hm, hc⟩
  · exact few_none a cap m w
  · exact few_some l b off cap m w h0 (capLen hm) hc

set_option maxHeartbeats 400000 in
theorem rmix_any (x : Nat) (w : World) (hx : x < 18446744073709551616) :
    Calls Tryd.prog 64 #[.int .u64 (x : Int)] w fun e w' => e = .returned (.int .u64 (mixN x : Int)) ∧ w = w' := by
  go_enter Tryd.func64, Tryd.ntmps64
  go_wp2
  go_ret
  exact ⟨ret_int (mix_int x hx _ _ rfl rfl), rfl⟩

end Go.Proofs.YtgclcomjojpkgaaDoor.Dig
