/- The walk of the law's function same. -/
import Derived.Test.YtcpcmlonbpccnaaBdP15
import Derived.Test.YtcpcmlonbpccnaaPolSame2
namespace Go.Proofs.Ytcpcmlonbpccnaa.Ge
set_option linter.unusedVariables false
set_option linter.unusedSimpArgs false
open Go.RowKit
open Go.Proofs.Ytcpcmlonbpccnaa.Fr (Two)

set_option maxRecDepth 100000 in
set_option maxHeartbeats 4000000 in
theorem same_len (va vb : Value) (a b : List Pt) (w : World) (ha : PtSl w va a) (hb : PtSl w vb b) (h1 : a.length ≤ 1000) (hne : a.length ≠ b.length) :
    Calls Try.prog 47 #[va, vb] w fun e w' => e = .returned (.bool false) ∧ Below w.heap.size w w' := by
  obtain ⟨aa, ca, rfl⟩ := ha.form
  obtain ⟨ab, cb, rfl⟩ := hb.form
  have hne2 : ¬ ((a.length : Int) = (b.length : Int)) := by omega
  have hne3 : ((a.length : Int) == (b.length : Int)) = false := by rw [beq_eq_false_iff_ne]; exact hne2
  clear ha hb
  obtain ⟨n, hn⟩ : ∃ n, a.length = n := ⟨_, rfl⟩
  obtain ⟨m, hm⟩ : ∃ m, b.length = m := ⟨_, rfl⟩
  rw [hn] at h1 hne hne2 hne3 ⊢
  rw [hm] at hne hne2 hne3 ⊢
  clear hn hm
  go_enter Try.func47, Try.ntmps47
  go_wp2_with fail
  go_loopw [5] (fun kv wr => ∃ k : Nat, kv = .int .i64 (k : Int) ∧ k ≤ n ∧ Below w.heap.size w wr) (fun kv _ => n - (intOf kv).toNat)
  case atStart => exact ⟨0, rfl, Nat.zero_le _, Below.refl _ _⟩
  case round =>
    obtain ⟨k, rfl, hk, hbel⟩ := hrel
    by_cases hlt : k < n
    · generalize wr = w9 at *
      have r3 : IntKind.i64.wrap ((k : Int) + 1) = (k : Int) + 1 := by rw [IntKind.wrap_i64]; omega
      go_wp2_with fail
      go_loopw [6, 7] (fun av iv wr => av = .bool false ∧ iv = .int .i64 0 ∧ wr = w9) (fun _ _ _ => 0)
      case atStart => exact ⟨rfl, rfl, rfl⟩
      case round =>
        obtain ⟨rfl, rfl, rfl⟩ := hrel
        have hp : (0 : Int) < (n : Int) := by omega
        go_wp2_with fail
        go_roundw
        case rel => exact ⟨k + 1, by go_num, by omega, hbel⟩
        case measure => simp [intOf]; omega
    · go_wp2_with fail
      go_ret
      exact ⟨rfl, hbel⟩
set_option maxRecDepth 100000 in
theorem same_nil (va vb : Value) (b : List Pt) (w : World) (ha : PtSl w va []) (hb : PtSl w vb b) :
    Calls Try.prog 47 #[va, vb] w fun e w' => e = .returned (.bool false) ∧ Below w.heap.size w w' := by
  obtain ⟨aa, ca, rfl⟩ := ha.form
  obtain ⟨ab, cb, rfl⟩ := hb.form
  rw [List.length_nil]
  clear ha hb
  have hr := Below.refl w.heap.size w
  go_enter Try.func47, Try.ntmps47
  go_wp2_with fail
  go_loopw [5] (fun kv wr => kv = .int .i64 0 ∧ wr = w) (fun _ _ => 0)
  case atStart => exact ⟨rfl, rfl⟩
  case round =>
    obtain ⟨rfl, rfl⟩ := hrel
    go_wp2_with fail
    go_ret
    exact ⟨rfl, hr⟩
/-- the answer says whether it is so -/
def SaysE (P : Prop) (e : Ending) : Prop := ∃ f : Bool, (f = true ↔ P) ∧ e = .returned (.bool f)
/-- have both rings the same points when the one begins at k? -/
def eqFrom (a b : List Pt) (k : Nat) : Prop := ∀ i, i < a.length → nth a (i + k) = nth b i
set_option maxRecDepth 100000 in
set_option maxHeartbeats 8000000 in
theorem same_eq (va vb : Value) (a b : List Pt) (w : World) (ha : PtSl w va a) (hb : PtSl w vb b) (h0 : 1 ≤ a.length) (h1 : a.length ≤ 1000) (he : a.length = b.length) :
    Calls Try.prog 47 #[va, vb] w fun e w' => SaysE (∃ k, k < a.length ∧ eqFrom a b k) e ∧ Below w.heap.size w w' := by
  obtain ⟨A, oa, ca, rfl, hwa, hca⟩ := ha.ring h0
  obtain ⟨B, ob, cb, rfl, hwb, hcb⟩ := hb.ring (by omega)
  have HA := Lib.hid (fun (w' : World) (hw : Below w.heap.size w w') => Ring.nth (cap := ca) (fun i hi => (hca i hi).below hw hwa) (by omega))
  have HB := Lib.hid (fun (w' : World) (hw : Below w.heap.size w w') => Ring.nth (cap := cb) (fun i hi => (hcb i hi).below hw hwb) (by omega))
  clear hca hcb ha hb
  rw [← he] at HB ⊢
  have HE := Lib.hid (show ∀ k, eqFrom a b k ↔ ∀ i, i < a.length → nth a (i + k) = nth b i from fun k => Iff.rfl)
  generalize eqFrom a b = EQ at *
  generalize Ge.nth a = fa at *
  generalize Ge.nth b = fb at *
  obtain ⟨n, hn⟩ : ∃ n, a.length = n := ⟨_, rfl⟩
  rw [hn] at h0 h1 HA HB HE ⊢
  clear hn he
  go_enter Try.func47, Try.ntmps47
  go_wp2_with fail
  go_loopw [5] (fun kv wr => ∃ k : Nat, kv = .int .i64 (k : Int) ∧ k ≤ n ∧ (∀ j, j < k → ¬ EQ j) ∧ Below w.heap.size w wr) (fun kv _ => n - (intOf kv).toNat)
  case atStart => exact ⟨0, rfl, Nat.zero_le _, fun j hj => by omega, Below.refl _ _⟩
  case round =>
    obtain ⟨k, rfl, hk, hall, hbel⟩ := hrel
    have HL := Lib.hid hall
    clear hall
    by_cases hlt : k < n
    · generalize wr = w9 at *
      have r3 : IntKind.i64.wrap ((k : Int) + 1) = (k : Int) + 1 := by rw [IntKind.wrap_i64]; omega
      have HN := Lib.hid (show (∃ j, j < n ∧ fa (j + k) ≠ fb j) → ∀ j, j < k + 1 → ¬ EQ j from fun ⟨j, hj, hd⟩ i hi => by
        by_cases e : i = k
        · subst e; exact fun h => hd ((HE.out i).1 h j hj)
        · exact HL.out i (by omega))
      go_wp2_with fail
      go_loopw [6, 7] (fun av iv wr => ∃ (f : Bool) (i : Nat), av = .bool f ∧ iv = .int .i64 (i : Int) ∧ i ≤ n ∧ (f = true → ∀ j, j < i → fa (j + k) = fb j) ∧ (f = false → ∃ j, j < n ∧ fa (j + k) ≠ fb j) ∧ Below w.heap.size w wr) (fun _ iv _ => n - (intOf iv).toNat)
      case atStart => exact ⟨true, 0, rfl, rfl, Nat.zero_le _, fun _ j hj => by omega, fun h => (by cases h), hbel⟩
      case round =>
        obtain ⟨f, i, rfl, rfl, hi, hf1, hf2, hbes⟩ := hrel
        have HF1 := Lib.hid hf1
        have HF2 := Lib.hid hf2
        clear hf1 hf2
        by_cases hls : i < n
        · cases f with
          | false =>
            go_wp2_with fail
            go_roundw
            case rel => exact ⟨k + 1, by go_num, by omega, HN.out (HF2.out rfl), hbes⟩
            case measure => simp [intOf]; omega
          | true =>
            have C1 := HA.out wr hbes (i + k)
            have C2 := HB.out wr hbes i
            have m1 : ((i : Int) + (k : Int)).tmod n = (((i + k) % n : Nat) : Int) := (Pt_mod (k := i) (n := n) (by omega) k).symm
            have l1 : (i + k) % n < n := Nat.mod_lt _ (by omega)
            rw [Nat.mod_eq_of_lt hls] at C2
            have w1 : IntKind.i64.wrap ((i : Int) + (k : Int)) = (i : Int) + (k : Int) := by rw [IntKind.wrap_i64]; omega
            have w2 : IntKind.i64.wrap ((i : Int) + 1) = (i : Int) + 1 := by rw [IntKind.wrap_i64]; omega
            have HP := Lib.hid (show fa (i + k) = fb i → ∀ j, j < i + 1 → fa (j + k) = fb j from fun h j hj => by
              by_cases e : j = i
              · subst e; exact h
              · exact HF1.out rfl j (by omega))
            have HQ := Lib.hid (show fa (i + k) ≠ fb i → ∃ j, j < n ∧ fa (j + k) ≠ fb j from fun h => ⟨i, hls, h⟩)
            generalize (i + k) % n = i1 at *
            generalize fa (i + k) = P at C1 HP HQ
            generalize fb i = Q at C2 HP HQ
            obtain ⟨p1, p2⟩ := P
            obtain ⟨q1, q2⟩ := Q
            obtain ⟨c1, c2⟩ := C1
            obtain ⟨d1, d2⟩ := C2
            dsimp only at c1 c2 d1 d2
            have hz := hbes.size
            have hdr := hbes.drew
            by_cases e1 : p1 = q1
            · by_cases e2 : p2 = q2
              · subst e1 e2
                go_upto_region 8 with fail
                go_region
                go_wp2_with fail
                go_roundw
                case rel => exact ⟨true, i + 1, rfl, by go_num, by omega, fun _ => HP.out rfl, fun h => (by cases h), hdr⟩
                case measure => simp [intOf]; omega
              · have HQ2 := Lib.hid (HQ.out fun h => e2 (congrArg Prod.snd h))
                go_upto_region 8 with fail
                go_region
                go_wp2_with fail
                go_roundw
                case rel => exact ⟨false, i + 1, rfl, by go_num, by omega, fun h => (by cases h), fun _ => HQ2.out, hdr⟩
                case measure => simp [intOf]; omega
            · have HQ2 := Lib.hid (HQ.out fun h => e1 (congrArg Prod.fst h))
              go_upto_region 8 with fail
              go_region
              go_wp2_with fail
              go_roundw
              case rel => exact ⟨false, i + 1, rfl, by go_num, by omega, fun h => (by cases h), fun _ => HQ2.out, hdr⟩
              case measure => simp [intOf]; omega
        · obtain rfl : i = n := by omega
          cases f with
          | false =>
            go_wp2_with fail
            go_roundw
            case rel => exact ⟨k + 1, by go_num, by omega, HN.out (HF2.out rfl), hbes⟩
            case measure => simp [intOf]; omega
          | true =>
            go_wp2_with fail
            go_ret
            exact ⟨⟨true, ⟨fun _ => ⟨k, hlt, (HE.out k).2 (HF1.out (by first | trivial | rfl))⟩, fun _ => rfl⟩, rfl⟩, hbes⟩
    · obtain rfl : k = n := by omega
      go_wp2_with fail
      go_ret
      exact ⟨⟨false, ⟨fun h => (by cases h), fun ⟨j, hj, h⟩ => absurd h (HL.out j hj)⟩, rfl⟩, hbel⟩
theorem same_any (va vb : Value) (a b : List Pt) (w : World) (ha : PtSl w va a) (hb : PtSl w vb b) (h1 : a.length ≤ 1000) :
    Calls Try.prog 47 #[va, vb] w fun e w' => SaysE (sameP a b) e ∧ Below w.heap.size w w' := by
  by_cases he : a.length = b.length
  · by_cases h0 : 1 ≤ a.length
    · refine (same_eq va vb a b w ha hb h0 h1 he).mono ?_
      rintro e w' ⟨⟨f, hf, rfl⟩, hw⟩
      refine ⟨⟨f, hf.trans ⟨fun ⟨k, hk, h⟩ => ⟨k, hk, he, h⟩, fun ⟨k, hk, _, h⟩ => ⟨k, hk, h⟩⟩, rfl⟩, hw⟩
    · obtain rfl : a = [] := List.eq_nil_of_length_eq_zero (by omega)
      refine (same_nil va vb b w ha hb).mono ?_
      rintro e w' ⟨rfl, hw⟩
      exact ⟨⟨false, ⟨fun h => (by cases h), fun ⟨k, hk, _⟩ => absurd hk (Nat.not_lt_zero k)⟩, rfl⟩, hw⟩
  · refine (same_len va vb a b w ha hb h1 he).mono ?_
    rintro e w' ⟨rfl, hw⟩
    exact ⟨⟨false, ⟨fun h => (by cases h), fun ⟨k, _, e, _⟩ => absurd e he⟩, rfl⟩, hw⟩
end Go.Proofs.Ytcpcmlonbpccnaa.Ge
