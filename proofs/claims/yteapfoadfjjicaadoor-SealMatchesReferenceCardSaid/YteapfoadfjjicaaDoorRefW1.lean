/- Walks over package gazetteerref01: Few, mix, Digit. -/
import Derived.Test.YteapfoadfjjicaaDoorDigW6
import Derived.RegionTactic
import Derived.ChangeAlike
namespace Go.Proofs.YteapfoadfjjicaaDoor.Dig
set_option linter.unusedVariables false
set_option linter.unusedSimpArgs false
open Go.RowKit

def fewB (l : List ByteArray) (m : Nat) : Bool := l.all (fun s => decide (s.size ≤ m)) && decide (l.length ≤ 30)

theorem all_snoc {α : Type} (f : α → Bool) (l : List α) (k : Nat) (h : k < l.length) : (l.take (k + 1)).all f = ((l.take k).all f && f l[k]) := by
  rw [List.take_succ_eq_append_getElem h, List.all_append]
  simp
theorem all_false {α : Type} (f : α → Bool) (l : List α) (k : Nat) (h : k < l.length) (hf : f l[k] = false) : l.all f = false := by
  rw [List.all_eq_false]
  exact ⟨l[k], List.getElem_mem h, by simp [hf]⟩

set_option maxHeartbeats 400000 in
theorem rmix_any (x : Nat) (w : World) (hx : x < 18446744073709551616) :
    Calls Tryd.prog 100 #[.int .u64 (x : Int)] w fun e w' => e = .returned (.int .u64 (mixN x : Int)) ∧ w = w' := by
  go_enter Tryd.func100, Tryd.ntmps100
  go_wp2
  go_ret
  exact ⟨ret_int (mix_int x hx _ _ rfl rfl), rfl⟩

end Go.Proofs.YteapfoadfjjicaaDoor.Dig
