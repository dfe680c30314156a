/- Walks over layer 3's reference: digits, powers, chains. -/
import Derived.Test.YteapfoadfjjicaaDoorSlmW9
namespace Go.Proofs.YteapfoadfjjicaaDoor.Dig
set_option linter.unusedVariables false
set_option linter.unusedSimpArgs false
open Go.RowKit

set_option maxHeartbeats 400000 in
theorem digit_is (c : UInt8) (h : isHex c = true) (w : World) :
    Calls Tryd.prog 92 #[.int .u8 (c.toNat : Int)] w fun e w' => e = .returned (.int .i64 ((hexVal c : Nat) : Int)) ∧ w = w' := by
  have hc := UInt8.toNat_lt c
  have hi := (isHex_iff c).1 h
  have Hv : Hid (((hexVal c : Nat) : Int) = if (c.toNat : Int) ≤ 57 then (c.toNat : Int) - 48 else (c.toNat : Int) - 97 + 10) := Lib.hid (by
    unfold hexVal
    rcases hi with ⟨h1, h2⟩ | ⟨h1, h2⟩
    · rw [if_pos (by omega), if_pos h2]; omega
    · rw [if_neg (by omega), if_neg (by omega)]; omega)
  clear h
  generalize (c.toNat : Int) = x at *
  rcases hi with ⟨h1, h2⟩ | ⟨h1, h2⟩
  · rw [if_pos h2] at Hv
    have h0 : IntKind.u8.wrap (x - 48) = x - 48 := IntWalk.u8_in _ (by omega)
    go_enter Tryd.func92, Tryd.ntmps92
    go_wp2
    go_ret
    rw [Hv.out]
    exact ⟨rfl, rfl⟩
  · have h3 : ¬ x ≤ 57 := by omega
    rw [if_neg h3] at Hv
    have h0 : IntKind.u8.wrap (x - 97) = x - 97 := IntWalk.u8_in _ (by omega)
    go_enter Tryd.func92, Tryd.ntmps92
    go_wp2
    go_ret
    rw [Hv.out]
    refine ⟨?_, rfl⟩
    first | rfl | (congr 2; go_num)

set_option maxRecDepth 100000 in
set_option maxHeartbeats 400000 in
theorem Power_any (n : Nat) (hn : n ≤ 8) (w : World) :
    Calls Tryd.prog 52 #[.int .i64 (n : Int)] w fun e w' => e = .returned (.int .i64 ((2 ^ n : Nat) : Int)) ∧ w = w' := by
  go_enter Tryd.func52, Tryd.ntmps52
  go_wp2_with fail
  go_loopw [3, 4] (fun v c wr => ∃ k q : Nat, k ≤ n ∧ c = .int .i64 (k : Int) ∧ v = .int .i64 (q : Int) ∧ Hid (2 ^ k = q) ∧ w = wr) (fun _ c _ => n - (intOf c).toNat)
  case atStart => exact ⟨0, 1, by omega, rfl, rfl, Lib.hid rfl, by simp⟩
  case round =>
    obtain ⟨k, q, hk, rfl, rfl, Hq, rfl⟩ := hrel
    have hq : q ≤ 256 := by rw [← Hq.out]; exact pow_le k (by omega)
    by_cases hlt : k < n
    · go_wp2_with fail
      go_roundw
      case rel => exact ⟨k + 1, 2 * q, by omega, by go_num, by go_num, Lib.hid (by rw [two_pow_next, Hq.out]), by simp⟩
      case measure => simp [intOf]; omega
    · obtain rfl : k = n := by omega
      go_wp2_with fail
      go_ret
      rw [Hq.out]
      exact ⟨rfl, rfl⟩

/-! ### Lists of numbers -/

theorem infoI : (Tryd.prog.info? 3).map (fun i => (i.zero, i.size, i.bytes)) = some (some (.int .i64 0), 1, 8) := by kernel_rfl
def ival (d : Nat) : Value := .int .i64 (d : Int)
def OwnInt (w : World) (B : Nat) (v : Value) (l : List Nat) : Prop := w.ownsRow B 3 1 v l.length (l.map ival)
theorem OwnInt.below {w w' : World} {B : Nat} {v : Value} {l : List Nat} (h : OwnInt w B v l) (hb : Below w.heap.size w w') : OwnInt w' B v l := by
  have hg := grown_of_below hb (some w.heap.size)
  refine World.ownsRow.kept h hg ?_
  right
  intro he
  have := (World.ownsRow.lt h _ he).2
  omega
theorem OwnInt.nil (w : World) (B : Nat) : OwnInt w B (.slice none 0 0) [] := World.ownsRow_nil w B _ 1
theorem OwnInt.ofAlloc {w : World} {B : Nat} {v : Value} {l : List Nat} (h : OwnInt w B v l) (o : Obj) : OwnInt (w.alloc o) B v l := World.ownsRow.alloc h o

theorem list_int (w : World) {ops : Array Oper} {rest : List Oper} {o : Oper} {a : Act} {Q : Exit → Act → World → Prop} (hw : Region.wanted o (yielded ops a.tmps) = true) (s x : Operand)
    (ho : o.op = .call { callee := .builtin .append, args := #[s, x], argTypes := #[79, 79] })
    (B : Nat) (v : Value) (ad : Addr) (n c : Nat) (p q : List Nat) (hs : a.eval s = v) (hx : a.eval x = .slice (some ad) n c) (hn : n = q.length) (own : OwnInt w B v p) (hcells : ∀ j x, (q.map ival)[j]? = some x → w.cell? (ad.add j) = some x) (hlen : p.length + q.length ≤ 1000000) (hB : B ≤ w.heap.size)
    (h : ∀ v' w', OwnInt w' B v' (p ++ q) → w.grownBy w' v.ownBlock → wpList Tryd.prog ops Q rest (a.put o.dst v') w') : wpList Tryd.prog ops Q (o :: rest) a w :=
  wpList_step fun K hK => by
    rw [if_pos hw]
    obtain ⟨i0, hi, hz0, hz1, hz2⟩ := info_parts infoI
    subst hn
    obtain ⟨v', w', hr, h2, h3, _, h5⟩ := run_append_own_at (P := Tryd.prog) w B 79 o.type 3 i0 _ 1 8 Tryd.underlying79 hi hz0 hz1 hz2 rfl (by decide) v p.length (p.map ival) own ad q.length c (q.map ival)
      (by simp) hcells (by intro x hx; obtain ⟨s, _, rfl⟩ := List.mem_map.1 hx; rfl) (by unfold maxLen; omega) (by omega) hB
    unfold Oper.wp execOp
    simp only [ho, resolve, invoke, builtin, Sem.run_bind, Sem.run_pure, Result.andThen_ok, List.map_toArray, List.map_cons, List.map_nil, hs, hx, hr]
    refine hK _ _ (h v' w' ?_ h3)
    unfold OwnInt
    rw [List.length_append, List.map_append]
    exact h2

theorem cells1 (w : World) (d : Nat) : ∀ j x, (([d] : List Nat).map ival)[j]? = some x → (w.alloc (.cells #[.int .i64 (d : Int)] 3)).cell? ((⟨w.heap.size, 0, none⟩ : Addr).add j) = some x := by
  intro j x hx
  match j with
  | 0 => simp [ival] at hx; subst hx; simp [Addr.add]
  | j + 1 => simp at hx
theorem cells2 (w : World) (d e : Nat) : ∀ j x, (([d, e] : List Nat).map ival)[j]? = some x → (w.alloc (.cells #[.int .i64 (d : Int), .int .i64 (e : Int)] 3)).cell? ((⟨w.heap.size, 0, none⟩ : Addr).add j) = some x := by
  intro j x hx
  match j with
  | 0 => simp [ival] at hx; subst hx; simp [Addr.add]
  | 1 => simp [ival] at hx; subst hx; simp [Addr.add]
  | j + 2 => simp at hx

/-- what Digits hands back: eighteen numbers -/
def DigSl (w : World) (v : Value) (m : ByteArray) : Prop := ∃ g cap, v = .slice (some ⟨g, 0, none⟩) 18 cap ∧ ∀ k, k < 18 → w.cell? ⟨g, k, none⟩ = some (.int .i64 ((digAt m k : Nat) : Int))
theorem DigSl.below {w w' : World} {v : Value} {m : ByteArray} (h : DigSl w v m) (hb : Below w.heap.size w w') : DigSl w' v m := by
  obtain ⟨g, cap, rfl, hc⟩ := h
  exact ⟨g, cap, rfl, fun k hk => (hb.cell (p := ⟨g, k, none⟩) (World.block_lt_of_cell? _ _ (hc k hk))).trans (hc k hk)⟩

set_option maxRecDepth 100000 in
set_option maxHeartbeats 1000000 in
theorem Digits_gen (m S : ByteArray) (hm : m.size ≤ 1000) (hS : (⟨(dsum m.data.toList).toArray⟩ : ByteArray) = S) (hsz : S.size = 16) (D C : Nat → Nat) (L : Nat → List Nat)
    (hx : ∀ k, k < 16 → ∀ h : k < S.size, isHex S[k] = true) (hv : ∀ k, k < 16 → ∀ h : k < S.size, hexVal S[k] = D k) (hD : ∀ k, D k ≤ 15) (hC0 : C 0 = 0) (hC : ∀ k, k < 16 → C (k + 1) = C k + (15 - D k)) (hCle : ∀ k, C k ≤ 240)
    (hL0 : L 0 = []) (hL : ∀ k, L (k + 1) = L k ++ [D k]) (hLl : ∀ k, (L k).length = k) (w : World) :
    Calls Tryd.prog 53 #[.string m] w fun e w' => ∃ v, e = .returned v ∧ OwnInt w' w.heap.size v (L 16 ++ [C 16 / 16, C 16 % 16]) ∧ Below w.heap.size w w' := by
  go_enter Tryd.func53, Tryd.ntmps53
  go_wp2_with fail
  refine (rsum_any m (by omega) _).mono ?_
  rintro e w1 ⟨rfl, rfl⟩
  have hS' : (⟨(dsum (bl m)).toArray⟩ : ByteArray) = S := hS
  rw [hS']
  clear hS hS' hm
  go_wp2_with fail
  have hl16 := hLl 16
  go_loopw [4, 5, 6] (fun v s c wr => ∃ k : Nat, k ≤ 16 ∧ c = .int .i64 (k : Int) ∧ s = .int .i64 ((C k : Nat) : Int) ∧ OwnInt wr w.heap.size v (L k) ∧ Below w.heap.size w wr) (fun _ _ c _ => 16 - (intOf c).toNat)
  case atStart => exact ⟨0, by omega, rfl, by rw [hC0]; rfl, by rw [hL0]; exact OwnInt.nil _ _, Below.refl _ _⟩
  case round =>
    obtain ⟨k, hk, rfl, rfl, own, hb⟩ := hrel
    by_cases hlt : k < 16
    · have hks : k < S.size := by rw [hsz]; exact hlt
      have Hx := Lib.hid (hx k hlt hks)
      have Hv := Lib.hid (hv k hlt hks)
      have Ht := Lib.hid (hC k hlt)
      have Hp := Lib.hid (hL k)
      have hd := hD k
      have hc := hCle k
      have hl := hLl k
      clear hx hv hC hD hL hLl hC0 hCle hL0 hl16
      generalize C k = c at *
      generalize D k = d at *
      go_wp2_with (first
        | (go_at_call 92; refine (digit_is _ Hx.out _).mono ?_; rintro e w1 ⟨rfl, rfl⟩; rw [Hv.out])
        | (at_builtin; refine list_int _ (by rfl) _ _ rfl w.heap.size _ ⟨wr.heap.size, 0, none⟩ 1 1 (L k) [d] rfl rfl rfl (own.ofAlloc _) (cells1 wr d) (by rw [hl, List.length_singleton]; omega) (by have := hb.size; simp; omega) ?_; intro v2 w2 own2 grow2; have hb2 := (hb.alloc hb.size (.cells #[.int .i64 (d : Int)] 3)).grown grow2 (by have := hb.size; simp; omega) (fun k hk => (World.ownsRow.lt own k hk).1)))
      go_roundw
      case rel => exact ⟨k + 1, by omega, by go_num, by rw [Ht.out]; go_num, by rw [Hp.out]; exact own2, hb2⟩
      case measure => simp [intOf]; omega
    · obtain rfl : k = 16 := by omega
      have hc := hCle 16
      clear hx hv hC hD hL hLl hC0 hCle hL0
      obtain ⟨c, hcc⟩ : ∃ c, C 16 = c := ⟨_, rfl⟩
      have HC := Lib.hid hcc
      rw [hcc] at hc ⊢
      clear hcc
      have E1 := Lib.hid (show (c : Int) / 16 = ((c / 16 : Nat) : Int) by omega)
      have E2 := Lib.hid (show (c : Int) % 16 = ((c % 16 : Nat) : Int) by omega)
      go_wp2_with (at_builtin; rw [E1.out, E2.out]; refine list_int _ (by rfl) _ _ rfl w.heap.size _ ⟨wr.heap.size, 0, none⟩ 2 2 (L 16) [c / 16, c % 16] rfl rfl rfl (own.ofAlloc _) (cells2 wr _ _) (by rw [hl16]; simp) (by have := hb.size; simp; omega) ?_; intro v2 w2 own2 grow2; have hb2 := (hb.alloc hb.size (.cells #[.int .i64 ((c / 16 : Nat) : Int), .int .i64 ((c % 16 : Nat) : Int)] 3)).grown grow2 (by have := hb.size; simp; omega) (fun k hk => (World.ownsRow.lt own k hk).1))
      go_ret
      rw [HC.out]
      exact ⟨_, rfl, own2, hb2⟩

theorem ownInt_dig {w : World} {B : Nat} {v : Value} {l : List Nat} {m : ByteArray} (h : OwnInt w B v l) (hl : l.length = 18) (hd : ∀ k, k < 18 → l.getD k 0 = digAt m k) : DigSl w v m := by
  have h' := h
  rcases h.2 with ⟨rfl, hn⟩ | ⟨g, cap, cur, rfl, _, _, _, _, _, _⟩
  · rw [hl] at hn; cases hn
  · rw [hl]
    refine ⟨g, cap, rfl, fun k hk => ?_⟩
    have hc := World.ownsRow.cellAt h' k (by omega)
    rw [hc, ← hd k hk, getD_lt _ _ _ (by omega)]
    simp [ival, show k < l.length by omega]

theorem Digits_any (m : ByteArray) (hm : m.size ≤ 1000) (w : World) :
    Calls Tryd.prog 53 #[.string m] w fun e w' => ∃ v, e = .returned v ∧ DigSl w' v m ∧ Below w.heap.size w w' := by
  refine (Digits_gen m _ hm rfl (by rw [size_mk]; exact dsum_length _) (digAt m) (fun k => chkN ((hexD m).take k)) (fun k => (List.range k).map (digAt m)) (fun k hk h => (sumB_at m _ rfl k hk h).1) (fun k hk h => (sumB_at m _ rfl k hk h).2) (digAt_le m) rfl (fun k hk => chk_take m k hk)
    (fun k => by have h1 := chkN_le ((hexD m).take k); have h2 : ((hexD m).take k).length ≤ 16 := by rw [List.length_take, hexD_length]; omega
                 omega)
    rfl (fun k => by rw [List.range_succ, List.map_append]; rfl) (fun k => by simp) w).mono ?_
  rintro e w' ⟨v, rfl, own, hb⟩
  refine ⟨v, rfl, ownInt_dig own (by simp) (fun k hk => ?_), hb⟩
  have hl : ((List.range 16).map (digAt m)).length = 16 := by simp
  obtain ⟨a1, a2, a3⟩ := snoc2_at ((List.range 16).map (digAt m)) (chkN ((hexD m).take 16) / 16) (chkN ((hexD m).take 16) % 16) hl
  have ht : (hexD m).take 16 = hexD m := List.take_of_length_le (by rw [hexD_length]; exact Nat.le_refl _)
  rw [ht] at a1 a2 a3
  rcases Nat.lt_or_ge k 16 with h | h
  · rw [ht, a3 k h]
    simp [List.getD_eq_getElem?_getD, h]
  · rcases Nat.lt_or_ge k 17 with h2 | h2
    · obtain rfl : k = 16 := by omega
      rw [ht, a1, digAt_16]
    · obtain rfl : k = 17 := by omega
      rw [ht, a2, digAt_17]

end Go.Proofs.YteapfoadfjjicaaDoor.Dig

/- Walks over layer 3's reference: the texts of a chain, of a node. -/
namespace Go.Proofs.YteapfoadfjjicaaDoor.Dig
set_option linter.unusedVariables false
set_option linter.unusedSimpArgs false
open Go.RowKit

theorem sumT_eq (s : ByteArray) : (⟨(dsum (bl s)).toArray⟩ : ByteArray) = sumT s := rfl
theorem sumT_size (s : ByteArray) : (sumT s).size = 16 := by unfold sumT; rw [size_mk, dsum_length]
theorem rsum_t (s : ByteArray) (hs : s.size ≤ 100000) (w : World) :
    Calls Tryd.prog 66 #[.string s] w fun e w' => e = .returned (.string (sumT s)) ∧ w = w' := rsum_any s (by omega) w
theorem chainL_succ (x : ByteArray) (k : Nat) : chainL x (k + 1) = chainL x k ++ [chainB x (k + 1)] := snoc_map_range (chainB x) (k + 1)

set_option maxRecDepth 100000 in
set_option maxHeartbeats 1000000 in
theorem chained_any (x : ByteArray) (hx : x.size ≤ 1000) (n : Nat) (hn : n ≤ 1000) (w : World) :
    Calls Tryd.prog 69 #[.string x, .int .i64 (n : Int)] w (RetOwn w (chainL x n)) := by
  have H0 := Lib.hid (show chainL x 0 = [x] from by unfold chainL; simp [chainB_zero])
  have hlit := OwnStr.lit w w.heap.size x (Nat.le_refl _)
  have hb0 := new_below w (.cells #[.string x] 9)
  go_enter Tryd.func69, Tryd.ntmps69
  go_wp2_with fail
  go_loopw [0, 5, 6] (fun t v c wr => ∃ k : Nat, k ≤ n ∧ c = .int .i64 (k : Int) ∧ t = .string (chainB x k) ∧ OwnStr wr w.heap.size v (chainL x k) ∧ Below w.heap.size w wr) (fun _ _ c _ => n - (intOf c).toNat)
  case atStart => exact ⟨0, by omega, rfl, by rw [chainB_zero], by rw [H0.out]; exact hlit, hb0⟩
  case round =>
    obtain ⟨k, hk, rfl, rfl, own, hb⟩ := hrel
    by_cases hlt : k < n
    · have Hn := Lib.hid (chainL_succ x k)
      have Hs := Lib.hid (chainB_succ x k)
      have hsz := chainB_size x k 1000 (by decide) hx
      have hlen := chainL_length x k
      go_wp2_with (first
        | (go_at_call 66; refine (rsum_t _ (by omega) _).mono ?_; rintro e w1 ⟨rfl, rfl⟩; rw [← Hs.out])
        | (at_builtin; refine list_app _ (by rfl) _ _ rfl w.heap.size _ _ _ [chainB x (k + 1)] rfl rfl (own.ofAlloc _) (sl1' _ wr) (by rw [hlen, List.length_singleton]; omega) (by have := hb.size; simp; omega) ?_; intro v2 w2 own2 grow2 at2; have hb2 := below_grow' (own.ofAlloc _) (hb.alloc hb.size _) grow2))
      go_roundw
      case rel => exact ⟨k + 1, by omega, by go_num, rfl, by rw [Hn.out]; exact own2, hb2⟩
      case measure => simp [intOf]; omega
    · obtain rfl : k = n := by omega
      go_wp2_with fail
      go_ret
      exact ⟨_, rfl, own, hb⟩

theorem nodeT_any (a b : ByteArray) (h1 : a.size ≤ 1000) (h2 : b.size ≤ 1000) (w : World) :
    Calls Tryd.prog 70 #[.string a, .string b] w fun e w' => e = .returned (.string (joinT [wNode, a, b])) ∧ Below w.heap.size w w' := by
  go_enter Tryd.func70, Tryd.ntmps70
  go_wp2_with fail
  refine (rjoined3 wNode a b wNode_le h1 h2 w).mono ?_
  rintro e w1 ⟨rfl, hb1⟩
  go_wp2_with fail
  go_ret
  exact ⟨rfl, hb1⟩

theorem joined_all (v : Value) (l : List ByteArray) (hs : small l) (hn : l.length ≤ 1000) (w : World) (hl : StrSl w v l) :
    Calls Tryd.prog 67 #[v] w fun e w' => e = .returned (.string (joinT l)) ∧ Below w.heap.size w w' := by
  refine rjoined_any v l w hl (join_lim l hs hn) ?_
  have h1 := sumB_len' 1000 l hs
  have h2 : l.length * (1000 + 21) ≤ 1000 * (1000 + 21) := Nat.mul_le_mul_right _ hn
  omega

/-! ### Several lists of the call's own -/

/-- two values do not share a block -/
def Apart (u v : Value) : Prop := ∀ g, u.ownBlock = some g → v.ownBlock ≠ some g
theorem Apart.symm {u v : Value} (h : Apart u v) : Apart v u := fun g hg hu => h g hu hg
theorem apart_nil (u : Value) : Apart u (.slice none 0 0) := fun g _ h => by simp [Value.ownBlock] at h
theorem OwnStr.keep {w w' : World} {B : Nat} {u v : Value} {q : List ByteArray} (h : OwnStr w B u q) (hg : w.grownBy w' v.ownBlock) (ha : Apart u v) : OwnStr w' B u q := by
  refine World.ownsRow.kept h hg ?_
  rcases h.2 with ⟨rfl, _⟩ | ⟨g, cap, cur, rfl, _, _, _⟩
  · exact .inl rfl
  · exact .inr fun e => ha g (by simp [Value.ownBlock]) (by have e' := e.symm; simpa [Value.ownBlock] using e')
theorem Apart.app {w : World} {B : Nat} {u v v' : Value} {q : List ByteArray} (ha : Apart u v) (h : OwnStr w B u q) (hv : v'.ownBlock = v.ownBlock ∨ v'.ownBlock = some w.heap.size) : Apart u v' := fun g hg he => by
  rcases hv with hv | hv
  · exact ha g hg (hv ▸ he)
  · rw [hv] at he
    have := (World.ownsRow.lt h g hg).2
    simp only [Option.some.injEq] at he
    omega
/-- a list that lay before, and one that a call has made since -/
theorem apart_later {w w' : World} {B B' : Nat} {u v : Value} {p q : List ByteArray} (h : OwnStr w B u p) (k : OwnStr w' B' v q) (hB : w.heap.size ≤ B') : Apart u v := fun g hg he => by
  have h1 := (World.ownsRow.lt h g hg).2
  have h2 := (World.ownsRow.lt k g he).1
  omega

end Go.Proofs.YteapfoadfjjicaaDoor.Dig

/- Walks over layer 3's reference: Made, the keys. -/
namespace Go.Proofs.YteapfoadfjjicaaDoor.Dig
set_option linter.unusedVariables false
set_option linter.unusedSimpArgs false
open Go.RowKit

def outI (s : ByteArray) (n i : Nat) : List ByteArray := (List.range i).flatMap (fun i => keyTs s i n)
def outK (s : ByteArray) (n i k : Nat) : List ByteArray := outI s n i ++ (List.range k).flatMap (fun k => startT s i k :: chainL (startB s i k) n)
def endsK (s : ByteArray) (i k : Nat) : List ByteArray := (List.range k).map (fun k => chainB (startB s i k) 15)
def levI (s : ByteArray) (i : Nat) : List ByteArray := (List.range i).map (keyL s)
theorem flat_succ {α : Type} (f : Nat → List α) (k : Nat) : (List.range (k + 1)).flatMap f = (List.range k).flatMap f ++ f k := by
  rw [List.range_succ, List.flatMap_append]; simp
theorem outK_zero (s : ByteArray) (n i : Nat) : outK s n i 0 = outI s n i := by unfold outK; simp
theorem outK_succ (s : ByteArray) (n i k : Nat) : outK s n i (k + 1) = (outK s n i k ++ [startT s i k]) ++ chainL (startB s i k) n := by
  unfold outK
  rw [flat_succ]
  simp
theorem outI_succ (s : ByteArray) (n i : Nat) : outI s n (i + 1) = outK s n i 18 ++ [joinT (endsB s i), leafT (endsB s i)] := by
  unfold outI outK keyTs
  rw [flat_succ]
  simp [outI, keyTs]
theorem outK_len (s : ByteArray) (n i k : Nat) (hn : n ≤ 30) (hi : i ≤ 4) (hk : k ≤ 18) : (outK s n i k).length ≤ 4000 := by
  have h1 := flatMap_len (fun i => keyTs s i n) (18 * (n + 2) + 2) (List.range i) (fun i _ => keyTs_len s i n)
  have h2 := flatMap_len (fun k => startT s i k :: chainL (startB s i k) n) (n + 2) (List.range k) (fun k _ => by rw [List.length_cons, chainL_length]; omega)
  rw [List.length_range] at h1 h2
  have h3 : i * (18 * (n + 2) + 2) ≤ 4 * 578 := Nat.mul_le_mul hi (by omega)
  have h4 : k * (n + 2) ≤ 18 * 32 := Nat.mul_le_mul hk (by omega)
  unfold outK outI
  rw [List.length_append]
  omega
theorem endsK_all (s : ByteArray) (i : Nat) : endsK s i 18 = endsB s i := rfl
theorem endsK_succ (s : ByteArray) (i k : Nat) : endsK s i (k + 1) = endsK s i k ++ [chainB (startB s i k) 15] := snoc_map_range _ _
theorem endsK_len (s : ByteArray) (i k : Nat) : (endsK s i k).length = k := by simp [endsK]
theorem levI_succ (s : ByteArray) (i : Nat) : levI s (i + 1) = levI s i ++ [keyL s i] := snoc_map_range _ _
theorem levI_len (s : ByteArray) (i : Nat) : (levI s i).length = i := by simp [levI]
theorem startT_size (s : ByteArray) (hs : s.size ≤ 1000) (i k : Nat) (hi : i ≤ 1000) (hk : k ≤ 1000) : (startT s i k).size ≤ 4000 := joinT_size _ (mem3 hs (decB_size i (by omega)) (decB_size k (by omega))) (by simp)
theorem ends_small (s : ByteArray) (i : Nat) : small (endsB s i) := fun x hx => by
  unfold endsB at hx
  obtain ⟨j, _, rfl⟩ := List.mem_map.1 hx
  exact endsB_size s i j
theorem joinT_len (l : List ByteArray) (h : ∀ x ∈ l, x.size ≤ 16) (h3 : l.length ≤ 18) : (joinT l).size ≤ 4000 := by
  unfold joinT
  rw [size_mk]
  have h1 := joinB_len' 16 (by decide) l h
  have h2 : l.length * 38 ≤ 18 * 38 := Nat.mul_le_mul_right _ h3
  omega
theorem endsB_16 (s : ByteArray) (i : Nat) : ∀ x ∈ endsB s i, x.size ≤ 16 := fun x hx => by
  unfold endsB at hx
  obtain ⟨j, _, rfl⟩ := List.mem_map.1 hx
  exact chainB_size _ _ _ (Nat.le_refl _) (by rw [startB, lsum_size]; exact Nat.le_refl _)
theorem endsB_len (s : ByteArray) (i : Nat) : (endsB s i).length = 18 := by simp [endsB]
theorem leafT_size (l : List ByteArray) : (leafT l).size ≤ 4000 := joinT_size _ (mem2 wLeaf_le (by rw [lsum_size]; decide)) (by simp)

theorem rjoined2 (a b : ByteArray) (h1 : a.size ≤ 1000) (h2 : b.size ≤ 1000) (w : World) :
    Calls Tryd.prog 67 #[.slice (some ⟨w.heap.size, 0, none⟩) 2 2] (w.alloc (.cells #[.string a, .string b] 9)) fun e w' => e = .returned (.string (joinT [a, b])) ∧ Below w.heap.size w w' :=
  (joined_all _ [a, b] (mem2 h1 h2) (by simp) _ (sl2 a b w)).mono fun e w' ⟨he, hb⟩ => ⟨he, (new_below w _).trans (hb.mono (by simp))⟩

theorem chainL_at (x : ByteArray) (n j : Nat) (h : j < (chainL x n).length) : (chainL x n)[j] = chainB x j := by
  have h2 : (chainL x n)[j]? = some (chainB x j) := by
    unfold chainL
    rw [List.getElem?_map, List.getElem?_range (by rw [chainL_length] at h; exact h)]
    rfl
  rw [List.getElem?_eq_getElem h] at h2
  exact Option.some.inj h2

/-! ### Levels -/

theorem pair_at : ∀ (L : List ByteArray) (j : Nat) (h : 2 * j + 1 < L.length), (pairT L).take (j + 1) = (pairT L).take j ++ [joinT [wNode, L[2 * j], L[2 * j + 1]]] ∧ (pairN L).take (j + 1) = (pairN L).take j ++ [nodeB L[2 * j] L[2 * j + 1]]
  | [], j, h => by simp at h
  | [_], j, h => by simp at h
  | a :: b :: r, 0, h => by simp [pairT, pairN]
  | a :: b :: r, j + 1, h => by
    obtain ⟨h1, h2⟩ := pair_at r j (by simp at h; omega)
    simp only [pairT, pairN, List.take_succ_cons, h1, h2, List.cons_append]
    exact ⟨rfl, rfl⟩
theorem pair_all (L : List ByteArray) (j : Nat) (h : L.length ≤ 2 * j + 1) : (pairT L).take j = pairT L ∧ (pairN L).take j = pairN L := by
  have h2 := pair_len L
  exact ⟨List.take_of_length_le (by rw [h2.1]; omega), List.take_of_length_le (by rw [h2.2]; omega)⟩
theorem pairN_16 : ∀ L : List ByteArray, ∀ x ∈ pairN L, x.size ≤ 16
  | [], x, h => by simp [pairN] at h
  | [_], x, h => by simp [pairN] at h
  | a :: b :: r, x, h => by
    simp only [pairN, List.mem_cons] at h
    rcases h with rfl | h
    · rw [nodeB_size]; exact Nat.le_refl _
    · exact pairN_16 r x h
theorem lvlT_one (f : Nat) (L : List ByteArray) (h : L.length ≤ 1) : lvlT f L = [] := by
  cases f with
  | zero => rfl
  | succ f => unfold lvlT; rw [if_pos h]
theorem lvlT_more (f : Nat) (L : List ByteArray) (h : ¬ L.length ≤ 1) : lvlT (f + 1) L = pairT L ++ lvlT f (pairN L) := by
  rw [lvlT, if_neg h]
theorem keyL_16 (s : ByteArray) (i : Nat) : (keyL s i).size ≤ 16 := by unfold keyL leafOf leafB; rw [lsum_size]; exact Nat.le_refl _

def lenV : Value → Nat
  | .slice _ n _ => n
  | _ => 0

set_option maxRecDepth 100000 in
set_option maxHeartbeats 4000000 in
theorem Made_any (s : ByteArray) (hs : s.size ≤ 1000) (h n : Nat) (hh : h ≤ 2) (hn : 15 ≤ n) (hn2 : n ≤ 30) (w : World) :
    Calls Tryd.prog 35 #[.string s, .int .i64 (h : Int), .int .i64 (n : Int)] w (RetOwn w (madeB s h n)) := by
  have hpw : 2 ^ h ≤ 4 := Nat.pow_le_pow_right (n := 2) (by decide) hh
  go_enter Tryd.func35, Tryd.ntmps35
  go_wp2_with fail
  go_loopw [7, 8, 9] (fun vo vl c wr => ∃ i : Nat, i ≤ 2 ^ h ∧ c = .int .i64 (i : Int) ∧ OwnStr wr w.heap.size vo (outI s n i) ∧ OwnStr wr w.heap.size vl (levI s i) ∧ Apart vo vl ∧ Below w.heap.size w wr) (fun _ _ c _ => 2 ^ h - (intOf c).toNat)
  case atStart => exact ⟨0, Nat.zero_le _, rfl, OwnStr.nil _ _, OwnStr.nil _ _, apart_nil _, Below.refl _ _⟩
  case round =>
    obtain ⟨i, hi, rfl, oo, ol, apl, hb⟩ := hrel
    by_cases hlt : i < 2 ^ h
    · have hltI : (i : Int) < (2 : Int) ^ h := by
        have e : (2 : Int) ^ h = ((2 ^ h : Nat) : Int) := by simp
        rw [e]; omega
      have hi1 : i ≤ 1000 := by omega
      have hi4 : i ≤ 4 := by omega
      have HI := Lib.hid (outI_succ s n i)
      have HL := Lib.hid (levI_succ s i)
      have H0 := Lib.hid (outK_zero s n i)
      have hdi := decB_size i (by omega)
      go_wp2_with (go_at_call 52; refine (Power_any h (by omega) _).mono ?_; rintro e w1 ⟨rfl, rfl⟩)
      go_loopw [7, 10, 11] (fun vo ve c wr => ∃ k : Nat, k ≤ 18 ∧ c = .int .i64 (k : Int) ∧ OwnStr wr w.heap.size vo (outK s n i k) ∧ OwnStr wr w.heap.size ve (endsK s i k) ∧ OwnStr wr w.heap.size u8 (levI s i) ∧ Apart u8 vo ∧ Apart ve vo ∧ Apart u8 ve ∧ Below w.heap.size w wr) (fun _ _ c _ => 18 - (intOf c).toNat)
      case atStart => exact ⟨0, by omega, rfl, by rw [H0.out]; exact oo, OwnStr.nil _ _, ol, apl.symm, (apart_nil _).symm, apart_nil _, hb⟩
      case round =>
        clear oo ol apl hb
        obtain ⟨k, hk, rfl, oo, oe, ol, alo, aeo, ale, hb⟩ := hrel
        by_cases hlt18 : k < 18
        · have HK := Lib.hid (outK_succ s n i k)
          have HE := Lib.hid (endsK_succ s i k)
          have hdk := decB_size k (by omega)
          have Hst := Lib.hid (show joinT [s, ⟨(Lib.itoa (i : Int)).toArray⟩, ⟨(Lib.itoa (k : Int)).toArray⟩] = startT s i k from rfl)
          have Hsb := Lib.hid (show sumT (startT s i k) = startB s i k from rfl)
          have hsz := startT_size s hs i k hi1 (by omega)
          have hlen := outK_len s n i k hn2 hi4 hk
          have hlen2 := chainL_length (startB s i k) n
          unfold decB at hdi hdk
          have g15 : (15 : Int) < (n : Int) + 1 := by omega
          go_wp2_with fail
          refine (decimal_any i (by omega) _).mono ?_
          rintro e w1 ⟨rfl, rfl⟩
          go_wp2_with fail
          refine (decimal_any k (by omega) _).mono ?_
          rintro e w1 ⟨rfl, rfl⟩
          go_wp2_with fail
          refine (rjoined3 s _ _ hs hdi hdk wr).mono ?_
          rintro e w1 ⟨rfl, hb1'⟩
          rw [Hst.out]
          have hb1 := hb.trans (hb1'.mono hb.size)
          have oo1 := oo.below hb1'
          have oe1 := oe.below hb1'
          have ol1 := ol.below hb1'
          go_wp2_with (at_builtin; refine list_app _ (by rfl) _ _ rfl w.heap.size u7 _ (outK s n i k) [startT s i k] rfl rfl (oo1.ofAlloc _) (sl1' _ w1) (by rw [List.length_singleton]; omega) (by have := hb1.size; simp; omega) ?_; intro v2 w2 own2 grow2 at2; have hb2 := below_grow' (oo1.ofAlloc _) (hb1.alloc hb1.size _) grow2; have oe2 := (oe1.ofAlloc _).keep grow2 aeo; have ol2 := (ol1.ofAlloc _).keep grow2 alo; have ae2 := aeo.app (oe1.ofAlloc _) at2; have al2 := alo.app (ol1.ofAlloc _) at2)
          refine (rsum_t (startT s i k) (by omega) _).mono ?_
          rintro e w2' ⟨rfl, rfl⟩
          rw [Hsb.out]
          go_wp2_with fail
          refine (chained_any (startB s i k) (by rw [startB, lsum_size]; decide) n (by omega) w2).mono ?_
          rintro e w3 ⟨vL, rfl, own3, hb3'⟩
          have own3' := own3
          unfold OwnStr at own3'
          rw [hlen2] at own3'
          obtain ⟨g3, c3, rfl⟩ := ownsRow_succ own3'
          have hb3 := hb2.trans (hb3'.mono hb2.size)
          have own2b := own2.below hb3'
          have oe3 := oe2.below hb3'
          have ol3 := ol2.below hb3'
          have ap2 := (apart_later own2 own3 (Nat.le_refl _)).symm
          go_wp2_with (first
            | (at_builtin; refine list_app _ (by rfl) _ _ rfl w.heap.size v2 _ (outK s n i k ++ [startT s i k]) (chainL (startB s i k) n) rfl rfl own2b own3.sl (by rw [List.length_append, List.length_singleton, hlen2]; omega) hb3.size ?_; intro v4 w4 own4 grow4 at4; have hb4 := below_grow' own2b hb3 grow4; have oe4 := oe3.keep grow4 ae2; have ol4 := ol3.keep grow4 al2; have own3b := own3.keep grow4 ap2; have ae4 := ae2.app oe3 at4; have al4 := al2.app ol3 at4; have hc15 : w4.cell? ⟨g3, 0 + 15, none⟩ = some (.string (chainL (startB s i k) n)[15]) := StrSl.get (c := c3) (by rw [hlen2]; have h := own3b.sl; exact h) 15 (by omega); rw [chainL_at, Nat.zero_add] at hc15)
            | (at_builtin; refine list_app _ (by rfl) _ _ rfl w.heap.size u10 _ (endsK s i k) [chainB (startB s i k) 15] rfl rfl (oe4.ofAlloc _) (sl1' _ w4) (by rw [endsK_len, List.length_singleton]; omega) (by have := hb4.size; simp; omega) ?_; intro v5 w5 own5 grow5 at5; have hb5 := below_grow' (oe4.ofAlloc _) (hb4.alloc hb4.size _) grow5; have oo5 := (own4.ofAlloc _).keep grow5 ae4.symm; have ol5 := (ol4.ofAlloc _).keep grow5 ale; have ale5 := ale.app (ol4.ofAlloc _) at5; have aeo5 := (ae4.symm.app (own4.ofAlloc _) at5).symm))
          go_roundw
          case rel => exact ⟨k + 1, by omega, by go_num, by rw [HK.out]; exact oo5, by rw [HE.out]; exact own5, ol5, al4, aeo5, ale5, hb5⟩
          case measure => simp [intOf]; omega
        · obtain rfl : k = 18 := by omega
          have hse := ends_small s i
          have hel := endsB_len s i
          have Hls := Lib.hid (show sumT (joinT (endsB s i)) = lsum (endsB s i) from rfl)
          have Hlf := Lib.hid (show joinT [wLeaf, lsum (endsB s i)] = leafT (endsB s i) from rfl)
          have Hky := Lib.hid (show sumT (leafT (endsB s i)) = keyL s i from rfl)
          have hz1 := joinT_len (endsB s i) (endsB_16 s i) (by rw [hel]; exact Nat.le_refl _)
          have hz2 := leafT_size (endsB s i)
          have hlen := outK_len s n i 18 hn2 hi4 (Nat.le_refl _)
          rw [endsK_all] at oe
          go_wp2_with fail
          refine (joined_all u10 (endsB s i) hse (by rw [hel]; omega) wr oe.sl).mono ?_
          rintro e w1 ⟨rfl, hb1'⟩
          have hb1 := hb.trans (hb1'.mono hb.size)
          have oo1 := oo.below hb1'
          have ol1 := ol.below hb1'
          go_wp2_with fail
          refine (rsum_t (joinT (endsB s i)) (by omega) _).mono ?_
          rintro e w1' ⟨rfl, rfl⟩
          rw [Hls.out]
          go_wp2_with fail
          refine (rjoined2 wLeaf (lsum (endsB s i)) wLeaf_le (by rw [lsum_size]; decide) w1).mono ?_
          rintro e w2 ⟨rfl, hb2'⟩
          rw [Hlf.out]
          have hb2 := hb1.trans (hb2'.mono hb1.size)
          have oo2 := oo1.below hb2'
          have ol2 := ol1.below hb2'
          go_wp2_with (at_builtin; refine list_app _ (by rfl) _ _ rfl w.heap.size u7 _ (outK s n i 18) [joinT (endsB s i), leafT (endsB s i)] rfl rfl (oo2.ofAlloc _) (sl2 _ _ w2) (by simp; omega) (by have := hb2.size; simp; omega) ?_; intro v3 w3 own3 grow3 at3; have hb3 := below_grow' (oo2.ofAlloc _) (hb2.alloc hb2.size _) grow3; have ol3 := (ol2.ofAlloc _).keep grow3 alo; have al3 := alo.app (ol2.ofAlloc _) at3)
          refine (rsum_t (leafT (endsB s i)) (by omega) _).mono ?_
          rintro e w3' ⟨rfl, rfl⟩
          rw [Hky.out]
          go_wp2_with (at_builtin; refine list_app _ (by rfl) _ _ rfl w.heap.size u8 _ (levI s i) [keyL s i] rfl rfl (ol3.ofAlloc _) (sl1' _ w3) (by rw [levI_len, List.length_singleton]; omega) (by have := hb3.size; simp; omega) ?_; intro v4 w4 own4 grow4 at4; have hb4 := below_grow' (ol3.ofAlloc _) (hb3.alloc hb3.size _) grow4; have oo4 := (own3.ofAlloc _).keep grow4 al3.symm; have ao4 := al3.symm.app (own3.ofAlloc _) at4)
          go_roundw
          case rel => exact ⟨i + 1, by omega, by go_num, by rw [HI.out]; exact oo4, by rw [HL.out]; exact own4, ao4, hb4⟩
          case measure => simp [intOf]; omega
    · obtain rfl : i = 2 ^ h := by omega
      have hltI : ¬ (((2 ^ h : Nat) : Int) < (2 : Int) ^ h) := by
        have e : (2 : Int) ^ h = ((2 ^ h : Nat) : Int) := by simp
        rw [e]; omega
      go_wp2_with (go_at_call 52; refine (Power_any h (by omega) _).mono ?_; rintro e w1 ⟨rfl, rfl⟩)
      have Hfin := Lib.hid (show madeB s h n = outI s n (2 ^ h) ++ lvlT (2 ^ h) (leavesB s h) from rfl)
      have Hlv := Lib.hid (show levI s (2 ^ h) = leavesB s h from rfl)
      have hol := outK_len s n (2 ^ h) 0 hn2 hpw (by omega)
      rw [outK_zero] at hol
      rw [Hlv.out] at ol
      have h16 : ∀ x ∈ leavesB s h, x.size ≤ 16 := fun x hx => by
        unfold leavesB at hx
        obtain ⟨j, _, rfl⟩ := List.mem_map.1 hx
        exact keyL_16 s j
      have hll := leavesB_length s h
      obtain ⟨la, lc, rfl, _⟩ := strSl_form ol.sl
      go_loopw [7, 8] (fun vo vl wr => ∃ (L T : List ByteArray) (f : Nat) (a : Option Addr) (c : Nat), vl = .slice a L.length c ∧ OwnStr wr w.heap.size vl L ∧ OwnStr wr w.heap.size vo (outI s n (2 ^ h) ++ T) ∧ Apart vl vo ∧ Below w.heap.size w wr ∧ Hid (lvlT (2 ^ h) (leavesB s h) = T ++ lvlT f L) ∧ L.length ≤ f ∧ Hid (∀ x ∈ L, x.size ≤ 16) ∧ T.length + L.length ≤ 4) (fun _ vl _ => lenV vl)
      case atStart => exact ⟨leavesB s h, [], 2 ^ h, la, lc, rfl, ol, by rw [List.append_nil]; exact oo, apl.symm, hb, Lib.hid rfl, by rw [hll]; exact Nat.le_refl _, Lib.hid h16, by rw [hll, List.length_nil]; omega⟩
      case round =>
        clear oo ol apl hb h16 hll
        obtain ⟨L, T, f, a, c, rfl, ol, oo, apl, hb, HT, hf, H16, hTL⟩ := hrel
        by_cases hone : L.length ≤ 1
        · have HZ := Lib.hid (lvlT_one f L hone)
          have g1 : (L.length : Int) ≤ 1 := by omega
          go_wp2_with fail
          go_ret
          exact ⟨_, rfl, by rw [Hfin.out, HT.out, HZ.out, List.append_nil]; exact oo, hb⟩
        · obtain ⟨f, rfl⟩ : ∃ f', f = f' + 1 := ⟨f - 1, by omega⟩
          have HZ := Lib.hid (lvlT_more f L hone)
          have g1 : (1 : Int) < (L.length : Int) := by omega
          have hpl := pair_len L
          have hform : ∃ g, a = some ⟨g, 0, none⟩ := by
            rcases ol.2 with ⟨_, h0⟩ | ⟨g, cap, cur, he, _⟩
            · omega
            · simp only [Value.slice.injEq] at he
              exact ⟨g, he.1⟩
          obtain ⟨g, rfl⟩ := hform
          have Hol := Lib.hid hol
          clear hol hone
          go_wp2_with fail
          go_loopw [7, 16, 17] (fun vo vn cc wr => ∃ j p : Nat, Hid (p = 2 * j) ∧ j ≤ 4 ∧ cc = .int .i64 (p : Int) ∧ p ≤ L.length ∧ OwnStr wr w.heap.size vo ((outI s n (2 ^ h) ++ T) ++ (pairT L).take j) ∧ OwnStr wr w.heap.size vn ((pairN L).take j) ∧ OwnStr wr w.heap.size (.slice (some ⟨g, 0, none⟩) L.length c) L ∧ Apart (.slice (some ⟨g, 0, none⟩) L.length c) vo ∧ Apart (.slice (some ⟨g, 0, none⟩) L.length c) vn ∧ Apart vo vn ∧ Below w.heap.size w wr) (fun _ _ cc _ => L.length - (intOf cc).toNat)
          case atStart => exact ⟨0, 0, Lib.hid rfl, by omega, rfl, by omega, by simpa using oo, OwnStr.nil _ _, ol, apl, apart_nil _, apart_nil _, hb⟩
          case round =>
            clear oo ol apl hb
            obtain ⟨j, p, Hp, hj, rfl, hpL, oo, on, ol, alo, aln, aon, hb⟩ := hrel
            by_cases hlt2 : p + 1 < L.length
            · have hL1 : p < L.length := by omega
              have HPT : Hid ((pairT L).take (j + 1) = (pairT L).take j ++ [joinT [wNode, L[p], L[p + 1]]] ∧ (pairN L).take (j + 1) = (pairN L).take j ++ [nodeB L[p] L[p + 1]]) := Lib.hid (by
                have h := pair_at L j (by have := Hp.out; omega)
                simpa only [← Hp.out] using h)
              have Hnb := Lib.hid (show sumT (joinT [wNode, L[p], L[p + 1]]) = nodeB L[p] L[p + 1] from rfl)
              have z1 : L[p].size ≤ 1000 := Nat.le_trans (H16.out _ (List.getElem_mem hL1)) (by decide)
              have z2 : L[p + 1].size ≤ 1000 := Nat.le_trans (H16.out _ (List.getElem_mem hlt2)) (by decide)
              have zj := joinT_size [wNode, L[p], L[p + 1]] (mem3 wNode_le z1 z2) (by simp)
              have hS : ∀ w', OwnStr w' w.heap.size (.slice (some ⟨g, 0, none⟩) L.length c) L → w'.cell? ⟨g, p, none⟩ = some (.string L[p]) ∧ w'.cell? ⟨g, p + 1, none⟩ = some (.string L[p + 1]) := fun w' hw => by
                have h1 := StrSl.get hw.sl p hL1
                have h2 := StrSl.get hw.sl (p + 1) hlt2
                rw [Nat.zero_add] at h1 h2
                exact ⟨h1, h2⟩
              have k1 : IntKind.i64.wrap ((p : Int) + 1) = (p : Int) + 1 := IntWalk.i64_in _ (by omega)
              have k2 : (p : Int) + 1 < (L.length : Int) := by omega
              have k3 : (p : Int) < (L.length : Int) := by omega
              have k4 : (0 : Int) ≤ (p : Int) := by omega
              have k5 : (0 : Int) ≤ (p : Int) + 1 := by omega
              have hPT := Lib.hid hpl
              have htk : ((pairT L).take j).length ≤ 4 := by rw [List.length_take]; omega
              have htk2 : ((pairN L).take j).length ≤ 4 := by rw [List.length_take]; omega
              have holn := Hol.out
              go_wp2_with fail
              go_region_held3 (fun w' => w'.cell? ⟨g, p, none⟩ = some (.string L[p]) ∧ w'.cell? ⟨g, p + 1, none⟩ = some (.string L[p + 1]))
                (first | exact hS _ (World.ownsRow.drew ol) | exact hS _ (by assumption) | exact hS _ (OwnStr.ofAlloc (by assumption) _))
                (first
                  | (go_at_call 70; refine (nodeT_any L[p] L[p + 1] z1 z2 _).mono ?_; rintro e w1 ⟨rfl, hb1'⟩; have hb1d : Below wr.heap.size wr w1 := (Below.refl _ _).drew.trans hb1'; have hb1 := hb.trans (hb1d.mono hb.size); have oo1 := oo.below hb1d; have on1 := on.below hb1d; have ol1 := ol.below hb1d)
                  | (refine step_app _ (by rfl) _ _ (by rfl) w.heap.size u7 _ ((outI s n (2 ^ h) ++ T) ++ (pairT L).take j) [joinT [wNode, L[p], L[p + 1]]] (by rfl) (by rfl) (oo1.ofAlloc _) (sl1' _ w1) (by simp only [List.length_append, List.length_singleton]; omega) (by have := hb1.size; simp; omega) ?_; intro v2 w2 own2 grow2 at2; have hb2 := below_grow' (oo1.ofAlloc _) (hb1.alloc hb1.size _) grow2; have on2 := (on1.ofAlloc _).keep grow2 aon.symm; have ol2 := (ol1.ofAlloc _).keep grow2 alo; have alo2 := alo.app (ol1.ofAlloc _) at2; have aon2 := (aon.symm.app (on1.ofAlloc _) at2).symm))
              go_wp2_with fail
              go_region_held3 (fun w' => w'.cell? ⟨g, p, none⟩ = some (.string L[p]) ∧ w'.cell? ⟨g, p + 1, none⟩ = some (.string L[p + 1]))
                (first | exact hS _ (World.ownsRow.drew ol2) | exact hS _ (by assumption) | exact hS _ (OwnStr.ofAlloc (by assumption) _))
                (first
                  | (go_at_call 70; refine (nodeT_any L[p] L[p + 1] z1 z2 _).mono ?_; rintro e w3 ⟨rfl, hb3'⟩; have hb3d : Below w2.heap.size w2 w3 := (Below.refl _ _).drew.trans hb3'; have hb3 := hb2.trans (hb3d.mono hb2.size); have oo3 := own2.below hb3d; have on3 := on2.below hb3d; have ol3 := ol2.below hb3d)
                  | (go_at_call 66; refine (rsum_t (joinT [wNode, L[p], L[p + 1]]) (by omega) _).mono ?_; rintro e w3' ⟨rfl, rfl⟩; rw [Hnb.out])
                  | (refine step_app _ (by rfl) _ _ (by rfl) w.heap.size u16 _ ((pairN L).take j) [nodeB L[p] L[p + 1]] (by rfl) (by rfl) (on3.ofAlloc _) (sl1' _ w3) (by simp only [List.length_singleton]; omega) (by have := hb3.size; simp; omega) ?_; intro v4 w4 own4 grow4 at4; have hb4 := below_grow' (on3.ofAlloc _) (hb3.alloc hb3.size _) grow4; have oo4 := (oo3.ofAlloc _).keep grow4 aon2; have ol4 := (ol3.ofAlloc _).keep grow4 aln; have aln4 := aln.app (ol3.ofAlloc _) at4; have aon4 := aon2.app (oo3.ofAlloc _) at4))
              go_wp2_with fail
              go_roundw
              case rel => exact ⟨j + 1, p + 2, Lib.hid (by have := Hp.out; omega), by have := Hp.out; omega, by go_num, by omega, by rw [HPT.out.1, ← List.append_assoc]; exact oo4, by rw [HPT.out.2]; exact own4, ol4, alo2, aln4, aon4, hb4⟩
              case measure => simp [intOf]; omega
            · have Hal := Lib.hid (pair_all L j (by have := Hp.out; omega))
              rw [Hal.out.1, List.append_assoc] at oo
              rw [Hal.out.2] at on
              obtain ⟨na, nc, rfl, _⟩ := strSl_form on.sl
              have k1 : IntKind.i64.wrap ((p : Int) + 1) = (p : Int) + 1 := IntWalk.i64_in _ (by omega)
              have k2 : ¬ (p : Int) + 1 < (L.length : Int) := by omega
              go_wp2_with fail
              go_roundw
              case rel => exact ⟨pairN L, T ++ pairT L, f, na, nc, rfl, on, oo, aon.symm, hb, Lib.hid (by rw [HT.out, HZ.out, List.append_assoc]), by rw [hpl.2]; omega, Lib.hid (pairN_16 L), by rw [List.length_append, hpl.1, hpl.2]; omega⟩
              case measure => simp only [lenV]; rw [hpl.2]; omega

end Go.Proofs.YteapfoadfjjicaaDoor.Dig

/- Walks over layer 3's reference: Checked. -/
namespace Go.Proofs.YteapfoadfjjicaaDoor.Dig
set_option linter.unusedVariables false
set_option linter.unusedSimpArgs false
open Go.RowKit

def outC (m : ByteArray) (sig : List ByteArray) (k : Nat) : List ByteArray := (List.range k).flatMap (fun k => chainL (sig.getD k ByteArray.empty) (15 - digAt m k))
def endsC (m : ByteArray) (sig : List ByteArray) (k : Nat) : List ByteArray := (List.range k).map (fun k => chainB (sig.getD k ByteArray.empty) (15 - digAt m k))
theorem outC_succ (m : ByteArray) (sig : List ByteArray) (k : Nat) : outC m sig (k + 1) = outC m sig k ++ chainL (sig.getD k ByteArray.empty) (15 - digAt m k) := flat_succ _ _
theorem endsC_succ (m : ByteArray) (sig : List ByteArray) (k : Nat) : endsC m sig (k + 1) = endsC m sig k ++ [chainB (sig.getD k ByteArray.empty) (15 - digAt m k)] := snoc_map_range _ _
theorem outC_len (m : ByteArray) (sig : List ByteArray) (k : Nat) (hk : k ≤ 18) : (outC m sig k).length ≤ 288 := by
  have h1 := flatMap_len (fun k => chainL (sig.getD k ByteArray.empty) (15 - digAt m k)) 16 (List.range k) (fun k _ => by rw [chainL_length]; omega)
  rw [List.length_range] at h1
  unfold outC
  omega
theorem endsC_len (m : ByteArray) (sig : List ByteArray) (k : Nat) : (endsC m sig k).length = k := by simp [endsC]
theorem endsC_16 (m : ByteArray) (sig : List ByteArray) (hs : ∀ x ∈ sig, x.size ≤ 16) (k : Nat) : ∀ x ∈ endsC m sig k, x.size ≤ 16 := fun x hx => by
  unfold endsC at hx
  obtain ⟨j, _, rfl⟩ := List.mem_map.1 hx
  refine chainB_size _ _ _ (Nat.le_refl _) ?_
  by_cases h : j < sig.length
  · rw [getD_lt _ _ _ h]; exact hs _ (List.getElem_mem h)
  · rw [List.getD_eq_getElem?_getD, List.getElem?_eq_none (by omega)]; decide
theorem up_drop (path : List ByteArray) (k : Nat) (h : k < path.length) (a : ByteArray) (i : Nat) : upTexts a i (path.drop k) = stepT i a path[k] :: upTexts (sumT (stepT i a path[k])) (i / 2) (path.drop (k + 1)) := by
  rw [List.drop_eq_getElem_cons h]
  rfl

set_option maxRecDepth 100000 in
set_option maxHeartbeats 4000000 in
theorem Checked_any (m : ByteArray) (hm : m.size ≤ 1000) (idx : Nat) (hidx : idx ≤ 1000) (vs vp : Value) (sig path : List ByteArray) (l18 : sig.length = 18) (l8 : path.length ≤ 8) (z1 : ∀ x ∈ sig, x.size ≤ 16) (z2 : ∀ x ∈ path, x.size ≤ 16) (w : World) (ss : StrSl w vs sig) (sp : StrSl w vp path) :
    Calls Tryd.prog 36 #[.string m, .agg #[.int .i64 (idx : Int), vs, vp]] w (RetOwn w (checkedB m sig idx path)) := by
  obtain ⟨b0, o0, c, rfl⟩ : ∃ b0 o0 c, vs = .slice (some ⟨b0, o0, none⟩) 18 c := by
    rcases ss with ⟨h, _⟩ | ⟨b0, o0, c, h, _⟩
    · rw [h] at l18; simp at l18
    · rw [l18] at h; exact ⟨b0, o0, c, h⟩
  have SP := Lib.hid sp
  have SS := Lib.hid ss
  obtain ⟨a', c', rfl, hm2, G2⟩ := sp.any
  have G2 := Lib.hid G2
  have Z1 := Lib.hid z1
  have Z2 := Lib.hid z2
  have hb0 := new_below w (.cells #[.int .i64 (idx : Int), .slice (some ⟨b0, o0, none⟩) 18 c, .slice a' path.length c'] 43)
  have hH := Held.new w (.int .i64 (idx : Int)) (.slice (some ⟨b0, o0, none⟩) 18 c) (.slice a' path.length c')
  clear ss sp z1 z2
  go_enter Tryd.func36, Tryd.ntmps36
  go_wp2_with fail
  refine (Digits_any m hm _).mono ?_
  rintro e w1 ⟨v, rfl, ⟨gd, cd, rfl, hdig⟩, hb1'⟩
  have hb1 := hb0.trans (hb1'.mono hb0.size)
  have hH1 := hH.below hb1'
  have Hdg := Lib.hid hdig
  have hs1 := hb1.size
  clear hH hdig
  go_wp2_with fail
  go_loopw [6, 7, 8] (fun vo ve cc wr => ∃ k : Nat, k ≤ 18 ∧ cc = .int .i64 (k : Int) ∧ OwnStr wr w1.heap.size vo (outC m sig k) ∧ OwnStr wr w1.heap.size ve (endsC m sig k) ∧ Apart ve vo ∧ Below w1.heap.size w1 wr) (fun _ _ cc _ => 18 - (intOf cc).toNat)
  case atStart => exact ⟨0, by omega, rfl, OwnStr.nil _ _, OwnStr.nil _ _, apart_nil _, Below.refl _ _⟩
  case round =>
    obtain ⟨k, hk, rfl, oo, oe, aeo, hb⟩ := hrel
    by_cases hlt : k < 18
    · have hks : k < sig.length := by omega
      have hS : ∀ w', Below w1.heap.size w1 w' → (w'.cell? ⟨w.heap.size, 1, none⟩ = some (.slice (some ⟨b0, o0, none⟩) 18 c) ∧ w'.cell? ⟨b0, o0 + k, none⟩ = some (.string sig[k])) ∧ w'.cell? ⟨gd, k, none⟩ = some (.int .i64 ((digAt m k : Nat) : Int)) := fun w' hw =>
        ⟨⟨(hH1.below hw).cell, StrSl.get (c := c) (by rw [l18]; exact SS.out.below (hb1.trans (hw.mono hb1.size))) k hks⟩, (hw.cell (p := ⟨gd, k, none⟩) (World.block_lt_of_cell? _ _ (Hdg.out k hlt))).trans (Hdg.out k hlt)⟩
      have hd15 := digAt_le m k
      have HO := Lib.hid (outC_succ m sig k)
      have HE := Lib.hid (endsC_succ m sig k)
      rw [getD_lt _ _ _ hks] at HO HE
      have hol := outC_len m sig k (by omega)
      have zs := Z1.out _ (List.getElem_mem hks)
      generalize digAt m k = d at *
      obtain ⟨e, hde⟩ : ∃ e : Nat, 15 - d = e := ⟨_, rfl⟩
      have gw : IntKind.i64.wrap (15 - (d : Int)) = (e : Int) := by rw [IntWalk.i64_in _ (by omega)]; omega
      have ge : (15 : Int) - (d : Int) = (e : Int) := by omega
      have gwe : IntKind.i64.wrap (e : Int) = (e : Int) := IntWalk.i64_in _ (by omega)
      rw [hde] at HO HE
      have hcl := chainL_length sig[k] e
      have g1 : (k : Int) < (sig.length : Int) := by omega
      have g2 : (k : Int) < 18 := by omega
      have g0 : (0 : Int) ≤ (k : Int) := by omega
      have ge0 : (0 : Int) ≤ (e : Int) := by omega
      have ge1 : (e : Int) < (e : Int) + 1 := by omega
      have he15 : e ≤ 15 := by omega
      have hx := hS _ hb
      have x1 := hx.1.1
      have x2 := hx.1.2
      have x3 := hx.2
      clear hde hx
      go_wp2_with fail
      have hr := (Below.refl wr.heap.size wr).drew
      go_region_held3 (fun w' => (w'.cell? ⟨w.heap.size, 1, none⟩ = some (.slice (some ⟨b0, o0, none⟩) 18 c) ∧ w'.cell? ⟨b0, o0 + k, none⟩ = some (.string sig[k])) ∧ w'.cell? ⟨gd, k, none⟩ = some (.int .i64 (d : Int)))
        (first | exact hS _ hb.drew | exact hS _ (by assumption))
        (first | (go_at_call 69; refine (chained_any sig[k] (by omega) e (by omega) _).mono ?_; rintro e2 w2 ⟨vL, rfl, own2, hb2'⟩; have hb2d : Below wr.heap.size wr w2 := hr.trans hb2'; have hb2 := hb.trans (hb2d.mono hb.size); have own2' := own2; unfold OwnStr at own2'; rw [hcl] at own2'; obtain ⟨g3, c3, rfl⟩ := ownsRow_succ own2'; have oo2 := oo.below hb2d; have oe2 := oe.below hb2d; have ap2 := (apart_later oo own2 (Nat.le_refl _)).symm; have aeL := apart_later oe own2 (Nat.le_refl _)))
      go_wp2_with (first
        | (at_builtin; refine list_app _ (by rfl) _ _ rfl w1.heap.size u6 _ (outC m sig k) (chainL sig[k] e) rfl rfl oo2 own2.sl (by rw [hcl]; omega) hb2.size ?_; intro v4 w4 own4 grow4 at4; have hb4 := below_grow' oo2 hb2 grow4; have oe4 := oe2.keep grow4 aeo; have own2b := own2.keep grow4 ap2; have ae4 := aeo.app oe2 at4; have hcE : w4.cell? ⟨g3, 0 + e, none⟩ = some (.string (chainL sig[k] e)[e]) := StrSl.get (c := c3) (by rw [hcl]; have h := own2b.sl; exact h) e (by omega); rw [chainL_at, Nat.zero_add] at hcE; have hx4 := hS _ hb4; have y3 := hx4.2)
        | (at_builtin; refine list_app _ (by rfl) _ _ rfl w1.heap.size u7 _ (endsC m sig k) [chainB sig[k] e] rfl rfl (oe4.ofAlloc _) (sl1' _ w4) (by rw [endsC_len, List.length_singleton]; omega) (by have := hb4.size; simp; omega) ?_; intro v5 w5 own5 grow5 at5; have hb5 := below_grow' (oe4.ofAlloc _) (hb4.alloc hb4.size _) grow5; have oo5 := (own4.ofAlloc _).keep grow5 ae4.symm; have aeo5 := (ae4.symm.app (own4.ofAlloc _) at5).symm))
      go_roundw
      case rel => exact ⟨k + 1, by omega, by go_num, by rw [HO.out]; exact oo5, by rw [HE.out]; exact own5, aeo5, hb5⟩
      case measure => simp [intOf]; omega
    · obtain rfl : k = 18 := by omega
      have Hend := Lib.hid (show endsC m sig 18 = upEnds m sig from rfl)
      have Hls := Lib.hid (show sumT (joinT (upEnds m sig)) = lsum (upEnds m sig) from rfl)
      have Hlf := Lib.hid (show joinT [wLeaf, lsum (upEnds m sig)] = leafT (upEnds m sig) from rfl)
      have Hky := Lib.hid (show sumT (leafT (upEnds m sig)) = leafOf (upEnds m sig) from rfl)
      have h16 := endsC_16 m sig Z1.out 18
      have hel := endsC_len m sig 18
      have hol := outC_len m sig 18 (Nat.le_refl _)
      rw [Hend.out] at oe h16 hel
      have hz1 := joinT_len (upEnds m sig) h16 (by rw [hel]; exact Nat.le_refl _)
      have hz2 := leafT_size (upEnds m sig)
      have hx := (hH1.below hb).cell
      clear aeo hlt hk
      have h16 := Lib.hid h16
      go_wp2_with fail
      refine (joined_all u7 (upEnds m sig) (fun x hx => Nat.le_trans (h16.out x hx) (by decide)) (by rw [hel]; decide) wr oe.sl).mono ?_
      rintro e w2 ⟨rfl, hb2'⟩
      have hb2 := hb.trans (hb2'.mono hb.size)
      have oo2 := oo.below hb2'
      go_wp2_with fail
      refine (rsum_t (joinT (upEnds m sig)) (by omega) _).mono ?_
      rintro e w2' ⟨rfl, rfl⟩
      rw [Hls.out]
      go_wp2_with fail
      refine (rjoined2 wLeaf (lsum (upEnds m sig)) wLeaf_le (by rw [lsum_size]; decide) w2).mono ?_
      rintro e w3 ⟨rfl, hb3'⟩
      rw [Hlf.out]
      have hb3 := hb2.trans (hb3'.mono hb2.size)
      have oo3 := oo2.below hb3'
      have hx3 := (hH1.below hb3).cell0
      go_wp2_with (at_builtin; refine list_app _ (by rfl) _ _ rfl w1.heap.size u6 _ (outC m sig 18) [joinT (upEnds m sig), leafT (upEnds m sig)] rfl rfl (oo3.ofAlloc _) (sl2 _ _ w3) (by simp; omega) (by have := hb3.size; simp; omega) ?_; intro v4 w4 own4 grow4 at4; have hb4 := below_grow' (oo3.ofAlloc _) (hb3.alloc hb3.size _) grow4; have hx4 := (hH1.below hb4).cell0)
      refine (rsum_t (leafT (upEnds m sig)) (by omega) _).mono ?_
      rintro e w4' ⟨rfl, rfl⟩
      rw [Hky.out]
      go_wp2_with fail
      go_loopw [6, 12, 13, 14] (fun vo va vi cc wr => ∃ (k iN : Nat) (t : ByteArray) (T : List ByteArray), k ≤ path.length ∧ va = .string t ∧ t.size ≤ 1000 ∧ vi = .int .i64 (iN : Int) ∧ iN ≤ 1000 ∧ cc = .int .i64 (k : Int) ∧ OwnStr wr w1.heap.size vo T ∧ T.length ≤ 290 + k ∧ Hid (checkedB m sig idx path = T ++ upTexts t iN (path.drop k)) ∧ Below w1.heap.size w1 wr) (fun _ _ _ cc _ => path.length - (intOf cc).toNat)
      case atStart => exact ⟨0, idx, _, _, Nat.zero_le _, rfl, by unfold leafOf leafB; rw [lsum_size]; decide, rfl, hidx, rfl, own4, by rw [List.length_append]; simp; omega, Lib.hid rfl, hb4⟩
      case round =>
        obtain ⟨k, iN, t, T, hk, rfl, z, rfl, hiN, rfl, oo, hT, HC, hb⟩ := hrel
        have hx := (hH1.below hb).cell2
        by_cases hlt : k < path.length
        · obtain ⟨pb, po, rfl, hpc⟩ := G2.out k hlt
          have hS : ∀ w', Below w1.heap.size w1 w' → w'.cell? ⟨w.heap.size, 2, none⟩ = some (.slice (some ⟨pb, po, none⟩) path.length c') ∧ w'.cell? ⟨pb, po + k, none⟩ = some (.string path[k]) := fun w' hw =>
            ⟨(hH1.below hw).cell2, ((hb1.trans (hw.mono hb1.size)).cell (p := ⟨pb, po + k, none⟩) (World.block_lt_of_cell? _ _ hpc)).trans hpc⟩
          have HU := up_drop path k hlt t iN
          have zp : path[k].size ≤ 1000 := Nat.le_trans (Z2.out _ (List.getElem_mem hlt)) (by decide)
          have q1 : (iN : Int).tdiv 2 = ((iN / 2 : Nat) : Int) := by rw [Int.tdiv_eq_ediv_of_nonneg (by omega)]; omega
          have g1 : (k : Int) < (path.length : Int) := by omega
          have g0 : (0 : Int) ≤ (k : Int) := by omega
          have hx1 := hS _ hb
          have hx11 := hx1.1
          have hx12 := hx1.2
          by_cases hodd : iN % 2 = 1
          · have hst : stepT iN t path[k] = joinT [wNode, path[k], t] := by unfold stepT; rw [if_pos hodd]
            rw [hst] at HU
            have HS := Lib.hid (show sumT (joinT [wNode, path[k], t]) = sumT (joinT [wNode, path[k], t]) from rfl)
            have zj := joinT_size [wNode, path[k], t] (mem3 wNode_le zp z) (by simp)
            have p1 : (iN : Int).tmod 2 = 1 := by rw [Int.tmod_eq_emod_of_nonneg (by omega)]; omega
            go_wp2_with fail
            refine (nodeT_any t path[k] z zp _).mono ?_
            rintro e w2 ⟨rfl, hb2'⟩
            have hb2 := hb.trans (hb2'.mono hb.size)
            have oo2 := oo.below hb2'
            have hx2 := hS _ hb2
            have hx21 := hx2.1
            have hx22 := hx2.2
            go_wp2_with fail
            refine (nodeT_any path[k] t zp z _).mono ?_
            rintro e w3 ⟨rfl, hb3'⟩
            have hb3 := hb2.trans (hb3'.mono hb2.size)
            have oo3 := oo2.below hb3'
            go_wp2_with (at_builtin; refine list_app _ (by rfl) _ _ rfl w1.heap.size u6 _ T [joinT [wNode, path[k], t]] rfl rfl (oo3.ofAlloc _) (sl1' _ w3) (by rw [List.length_singleton]; omega) (by have := hb3.size; simp; omega) ?_; intro v5 w5 own5 grow5 at5; have hb5 := below_grow' (oo3.ofAlloc _) (hb3.alloc hb3.size _) grow5)
            refine (rsum_t (joinT [wNode, path[k], t]) (by omega) _).mono ?_
            rintro e w5' ⟨rfl, rfl⟩
            go_wp2_with fail
            go_roundw
            case rel => exact ⟨k + 1, iN / 2, sumT (joinT [wNode, path[k], t]), T ++ [joinT [wNode, path[k], t]], by omega, rfl, by rw [sumT_size]; decide, by go_num, by omega, by go_num, own5, by rw [List.length_append, List.length_singleton]; omega, Lib.hid (by rw [HC.out, HU, List.append_assoc]; rfl), hb5⟩
            case measure => simp [intOf]; omega
          · have hst : stepT iN t path[k] = joinT [wNode, t, path[k]] := by unfold stepT; rw [if_neg hodd]
            rw [hst] at HU
            have HS := Lib.hid (show sumT (joinT [wNode, t, path[k]]) = sumT (joinT [wNode, t, path[k]]) from rfl)
            have zj := joinT_size [wNode, t, path[k]] (mem3 wNode_le z zp) (by simp)
            have p1 : (iN : Int).tmod 2 = 0 := by rw [Int.tmod_eq_emod_of_nonneg (by omega)]; omega
            go_wp2_with fail
            refine (nodeT_any t path[k] z zp _).mono ?_
            rintro e w2 ⟨rfl, hb2'⟩
            have hb2 := hb.trans (hb2'.mono hb.size)
            have oo2 := oo.below hb2'
            have hx2 := hS _ hb2
            have hx21 := hx2.1
            have hx22 := hx2.2
            go_wp2_with (at_builtin; refine list_app _ (by rfl) _ _ rfl w1.heap.size u6 _ T [joinT [wNode, t, path[k]]] rfl rfl (oo2.ofAlloc _) (sl1' _ w2) (by rw [List.length_singleton]; omega) (by have := hb2.size; simp; omega) ?_; intro v5 w5 own5 grow5 at5; have hb5 := below_grow' (oo2.ofAlloc _) (hb2.alloc hb2.size _) grow5)
            refine (rsum_t (joinT [wNode, t, path[k]]) (by omega) _).mono ?_
            rintro e w5' ⟨rfl, rfl⟩
            go_wp2_with fail
            go_roundw
            case rel => exact ⟨k + 1, iN / 2, sumT (joinT [wNode, t, path[k]]), T ++ [joinT [wNode, t, path[k]]], by omega, rfl, by rw [sumT_size]; decide, by go_num, by omega, by go_num, own5, by rw [List.length_append, List.length_singleton]; omega, Lib.hid (by rw [HC.out, HU, List.append_assoc]; rfl), hb5⟩
            case measure => simp [intOf]; omega
        · obtain rfl : k = path.length := by omega
          have g1 : ¬ (path.length : Int) < (path.length : Int) := by omega
          go_wp2_with fail
          go_ret
          exact ⟨_, rfl, by rw [HC.out, List.drop_length]; unfold upTexts; rw [List.append_nil]; exact oo.mono hs1, (hb1.trans (hb.mono hs1))⟩

end Go.Proofs.YteapfoadfjjicaaDoor.Dig

/- Layer 3's reference: the texts that are digested are short. -/
namespace Go.Proofs.YteapfoadfjjicaaDoor.Dig
set_option linter.unusedVariables false
set_option linter.unusedSimpArgs false
open Go.RowKit

theorem short_chain (x : ByteArray) (n : Nat) (hx : x.size ≤ 16) : short (chainL x n) := fun y hy => by
  unfold chainL at hy
  obtain ⟨j, _, rfl⟩ := List.mem_map.1 hy
  exact Nat.le_trans (chainB_size _ _ _ (Nat.le_refl _) hx) (by decide)
theorem short_key (s : ByteArray) (hs : s.size ≤ 1000) (i n : Nat) (hi : i ≤ 1000) : short (keyTs s i n) := fun y hy => by
  unfold keyTs at hy
  rcases List.mem_append.1 hy with h | h
  · obtain ⟨k, hk, h⟩ := List.mem_flatMap.1 h
    have hk := List.mem_range.1 hk
    rcases List.mem_cons.1 h with rfl | h
    · exact startT_size s hs i k hi (by omega)
    · exact short_chain _ n (by rw [startB, lsum_size]; exact Nat.le_refl _) y h
  · simp only [List.mem_cons, List.not_mem_nil, or_false] at h
    rcases h with rfl | rfl
    · exact joinT_len (endsB s i) (endsB_16 s i) (by rw [endsB_len]; exact Nat.le_refl _)
    · exact leafT_size _
theorem node_small (a b : ByteArray) (ha : a.size ≤ 16) (hb : b.size ≤ 16) : (joinT [wNode, a, b]).size ≤ 4000 :=
  joinT_size _ (mem3 wNode_le (Nat.le_trans ha (by decide)) (Nat.le_trans hb (by decide))) (by simp)
theorem short_pair : ∀ L : List ByteArray, (∀ x ∈ L, x.size ≤ 16) → short (pairT L)
  | [], _ => fun x h => by simp [pairT] at h
  | [_], _ => fun x h => by simp [pairT] at h
  | a :: b :: r, H => fun x h => by
    simp only [pairT, List.mem_cons] at h
    rcases h with rfl | h
    · exact node_small a b (H a (by simp)) (H b (by simp))
    · exact short_pair r (fun y hy => H y (by simp [hy])) x h
theorem short_lvl (f : Nat) : ∀ L : List ByteArray, (∀ x ∈ L, x.size ≤ 16) → short (lvlT f L) := by
  induction f with
  | zero => intro L _ x h; simp [lvlT] at h
  | succ f ih =>
    intro L H
    by_cases h1 : L.length ≤ 1
    · rw [lvlT_one _ _ h1]; intro x h; simp at h
    · rw [lvlT_more _ _ h1]
      exact (short_pair L H).append (ih _ (pairN_16 L))
theorem short_made (s : ByteArray) (hs : s.size ≤ 1000) (h n : Nat) (hh : h ≤ 2) : short (madeB s h n) := by
  have hpw : 2 ^ h ≤ 4 := Nat.pow_le_pow_right (n := 2) (by decide) hh
  unfold madeB
  refine short.append (fun x hx => ?_) (short_lvl _ _ fun x hx => ?_)
  · obtain ⟨i, hi, hx⟩ := List.mem_flatMap.1 hx
    have := List.mem_range.1 hi
    exact short_key s hs i n (by omega) x hx
  · unfold leavesB at hx
    obtain ⟨i, _, rfl⟩ := List.mem_map.1 hx
    exact keyL_16 s i
theorem short_up (p : List ByteArray) : ∀ (a : ByteArray) (i : Nat), a.size ≤ 16 → (∀ x ∈ p, x.size ≤ 16) → short (upTexts a i p) := by
  induction p with
  | nil => intro a i _ _ x h; simp [upTexts] at h
  | cons y p ih =>
    intro a i ha hp x h
    have hy := hp y List.mem_cons_self
    unfold upTexts at h
    rcases List.mem_cons.1 h with rfl | h
    · unfold stepT
      split
      · exact node_small _ _ hy ha
      · exact node_small _ _ ha hy
    · exact ih _ _ (by rw [sumT_size]; exact Nat.le_refl _) (fun z hz => hp z (List.mem_cons_of_mem _ hz)) x h
theorem short_checked (m : ByteArray) (sig : List ByteArray) (idx : Nat) (path : List ByteArray) (h1 : ∀ x ∈ sig, x.size ≤ 16) (h2 : ∀ x ∈ path, x.size ≤ 16) : short (checkedB m sig idx path) := by
  have hg : ∀ k, (sig.getD k ByteArray.empty).size ≤ 16 := fun k => by
    by_cases h : k < sig.length
    · rw [getD_lt _ _ _ h]; exact h1 _ (List.getElem_mem h)
    · rw [List.getD_eq_getElem?_getD, List.getElem?_eq_none (by omega)]; decide
  unfold checkedB
  refine short.append (short.append (fun x hx => ?_) (fun x hx => ?_)) (short_up _ _ _ (by unfold leafOf leafB; rw [lsum_size]; exact Nat.le_refl _) h2)
  · obtain ⟨k, _, hx⟩ := List.mem_flatMap.1 hx
    exact short_chain _ _ (hg k) x hx
  · simp only [List.mem_cons, List.not_mem_nil, or_false] at hx
    rcases hx with rfl | rfl
    · refine joinT_len _ (fun x hx => ?_) (by simp [upEnds])
      unfold upEnds at hx
      obtain ⟨k, _, rfl⟩ := List.mem_map.1 hx
      exact chainB_size _ _ _ (Nat.le_refl _) (hg k)
    · exact leafT_size _
theorem dig_16 {l : List ByteArray} (h : l.all digB = true) : ∀ x ∈ l, x.size ≤ 16 := fun x hx => by
  have h1 := List.all_eq_true.1 h x hx
  unfold digB isDig at h1
  rw [Bool.and_eq_true] at h1
  have h2 := h1.1
  rw [Lib.size_eq]
  have h3 : (bl x).length = 16 := by simpa using h2
  exact Nat.le_of_eq h3

end Go.Proofs.YteapfoadfjjicaaDoor.Dig
