/- Walks over layer 3's program: Verify. -/
import Derived.Test.YteapfoadfjjicaaDoorSlmW4
import Derived.Test.YteapfoadfjjicaaDoorRoundW
namespace Go.Proofs.YteapfoadfjjicaaDoor.Dig
set_option linter.unusedVariables false
set_option linter.unusedSimpArgs false
open Go.RowKit Go.Shelf
attribute [local go_sem] Oper.semAt_some

/-- append at a step of a region that draws its order -/
theorem step_app (w : World) {ops : Array Oper} {o : Oper} {a : Act} {K : Act → World → Prop} {Q : Exit → Act → World → Prop} {E : Prop} (hw : Region.wanted o (yielded ops a.tmps) = true) (s x : Operand)
    (ho : o.op = .call { callee := .builtin .append, args := #[s, x], argTypes := #[41, 41] })
    (B : Nat) (v u : Value) (p q : List ByteArray) (hs : a.eval s = v) (hx : a.eval x = u) (own : OwnStr w B v p) (hq : StrSl w u q) (hlen : p.length + q.length ≤ 1000000) (hB : B ≤ w.heap.size)
    (h : ∀ v' w', OwnStr w' B v' (p ++ q) → w.grownBy w' v.ownBlock → (v'.ownBlock = v.ownBlock ∨ v'.ownBlock = some w.heap.size) → K (a.put o.dst v') w') :
    if Region.wanted o (yielded ops a.tmps) = true then Oper.wp Tryd.prog o a w K Q else E := by
  rw [if_pos hw]
  exact wp_append_str w s x ho B v u p q hs hx own hq hlen hB h

/-- what a check of a signed message answers -/
def verB (pub m : ByteArray) (idx : Int) (sig path : List ByteArray) : Bool :=
  decide (sig.length = 18) && (sig.all digB && (decide (path.length ≤ 8) && checkB pub ((2 ^ path.length : Nat) : Int) idx (leafOf (upEnds m sig)) path))

set_option maxRecDepth 100000 in
set_option maxHeartbeats 1000000 in
theorem Verify_len (pub m : ByteArray) (idx : Int) (vs vp : Value) (sig path : List ByteArray) (hne : sig.length ≠ 18) (w : World) (hs : StrSl w vs sig) (hp : StrSl w vp path) :
    Calls Tryd.prog 32 #[.string pub, .string m, .agg #[.int .i64 idx, vs, vp]] w fun e w' => e = .returned (.bool false) ∧ Below w.heap.size w w' := by
  obtain ⟨a, c, rfl, hm1⟩ := strSl_form hs
  obtain ⟨a', c', rfl, hm2⟩ := strSl_form hp
  have hb := new_below w (.cells #[.int .i64 idx, .slice a sig.length c, .slice a' path.length c'] 43)
  have hn : ((sig.length : Int) != 18) = true := by simp; omega
  clear hs hp hne
  go_enter Tryd.func32, Tryd.ntmps32
  go_wp2_with fail
  go_ret
  exact ⟨rfl, hb⟩

set_option maxRecDepth 100000 in
set_option maxHeartbeats 1000000 in
theorem Verify_dig (pub m : ByteArray) (idx : Int) (vs vp : Value) (sig path : List ByteArray) (h18 : sig.length = 18) (hd : sig.all digB = false) (w : World) (hs : StrSl w vs sig) (hp : StrSl w vp path) :
    Calls Tryd.prog 32 #[.string pub, .string m, .agg #[.int .i64 idx, vs, vp]] w fun e w' => e = .returned (.bool false) ∧ Below w.heap.size w w' := by
  have Hs := Lib.hid hs
  have Hd := Lib.hid hd
  obtain ⟨a, c, rfl, hm1⟩ := strSl_form hs
  obtain ⟨a', c', rfl, hm2⟩ := strSl_form hp
  have hb := new_below w (.cells #[.int .i64 idx, .slice a sig.length c, .slice a' path.length c'] 43)
  have hn : ((sig.length : Int) != 18) = false := by simp; omega
  clear hs hp hd h18
  go_enter Tryd.func32, Tryd.ntmps32
  go_wp2_with fail
  refine (allDig_any _ sig _ (Hs.out.below hb)).mono ?_
  rintro e w1 ⟨rfl, rfl⟩
  rw [Hd.out]
  go_wp2_with fail
  go_ret
  exact ⟨rfl, hb⟩

set_option maxRecDepth 100000 in
set_option maxHeartbeats 1000000 in
theorem Verify_far (pub m : ByteArray) (idx : Int) (vs vp : Value) (sig path : List ByteArray) (h18 : sig.length = 18) (hd : sig.all digB = true) (h8 : ¬ path.length ≤ 8) (w : World) (hs : StrSl w vs sig) (hp : StrSl w vp path) :
    Calls Tryd.prog 32 #[.string pub, .string m, .agg #[.int .i64 idx, vs, vp]] w fun e w' => e = .returned (.bool false) ∧ Below w.heap.size w w' := by
  have Hs := Lib.hid hs
  have Hd := Lib.hid hd
  obtain ⟨a, c, rfl, hm1⟩ := strSl_form hs
  obtain ⟨a', c', rfl, hm2⟩ := strSl_form hp
  have hb := new_below w (.cells #[.int .i64 idx, .slice a sig.length c, .slice a' path.length c'] 43)
  have hn : ((sig.length : Int) != 18) = false := by simp; omega
  have hg : (8 : Int) < (path.length : Int) := by omega
  clear hs hp hd h18
  go_enter Tryd.func32, Tryd.ntmps32
  go_wp2_with fail
  refine (allDig_any _ sig _ (Hs.out.below hb)).mono ?_
  rintro e w1 ⟨rfl, rfl⟩
  rw [Hd.out]
  go_wp2_with fail
  go_ret
  exact ⟨rfl, hb⟩

theorem pow_wrap2 (h : Nat) (hh : h ≤ 8) : IntKind.i64.wrap ((2 : Int) ^ h) = ((2 ^ h : Nat) : Int) := by
  have e : ((2 : Int) ^ h) = ((2 ^ h : Nat) : Int) := by simp
  have h1 := pow_le h hh
  rw [e]
  generalize 2 ^ h = n at *
  exact IntWalk.i64_in _ (by omega)
theorem keeps_of_below {W w : World} (h : Below W.heap.size W w) : KeepsOthers W w := ⟨h.size, fun k o hk _ => (h.block k (Array.getElem?_eq_some_iff.1 hk).1).trans hk⟩
theorem StrSl.get {w : World} {l : List ByteArray} {b off c : Nat} (h : StrSl w (.slice (some ⟨b, off, none⟩) l.length c) l) (i : Nat) (hi : i < l.length) : w.cell? ⟨b, off + i, none⟩ = some (.string l[i]) := by
  rcases h with ⟨h, _⟩ | ⟨b', off', c', h, _, _, _, hc⟩
  · subst h; simp at hi
  · simp only [Value.slice.injEq, Option.some.injEq, Addr.mk.injEq, and_true, true_and] at h
    obtain ⟨⟨rfl, rfl⟩, _⟩ := h
    exact hc i hi

/-- the ends that have come -/
def gotV (sig : List ByteArray) (pre : List Pr) : List ByteArray := pre.map fun x => chainB (sig.getD x.1.1 ByteArray.empty) (15 - x.1.2)
theorem gotV_snoc (sig : List ByteArray) (pre : List Pr) (x : Pr) : gotV sig (pre ++ [x]) = gotV sig pre ++ [chainB (sig.getD x.1.1 ByteArray.empty) (15 - x.1.2)] := by simp [gotV]
theorem gotV_len (sig : List ByteArray) (pre : List Pr) : (gotV sig pre).length = pre.length := by simp [gotV]
theorem gotV_all (m : ByteArray) (sig : List ByteArray) : gotV sig (pairs m 18) = upEnds m sig := by
  unfold gotV pairs upEnds
  rw [List.map_map]
  refine List.map_congr_left fun k hk => ?_
  have hk' := List.mem_range.1 hk
  show chainB (sig.getD (prAt m k).1.1 ByteArray.empty) (15 - (prAt m k).1.2) = _
  rw [prAt_val m k hk']
theorem holds_own (n₀ B : Nat) (f : List Pr → List ByteArray) : Own (fun pre W => ∃ v, Boxed W B 41 v ∧ OwnStr W n₀ v (f pre)) := by
  intro s X Y row h hg hr
  obtain ⟨v, hv, ho⟩ := h
  obtain ⟨v2, hv2, ho2, _⟩ := holdsRow_own n₀ B 41 9 1 (fun pre => (f pre).length) (fun pre => (f pre).map Value.string) (fun _ _ => True) s X Y row ⟨v, hv, ho, trivial⟩ hg hr
  exact ⟨v2, hv2, ho2⟩

set_option maxRecDepth 100000 in
set_option maxHeartbeats 2000000 in
theorem Verify_near (pub m : ByteArray) (hmm : m.size ≤ 1000) (idx : Int) (vs vp : Value) (sig path : List ByteArray) (h18 : sig.length = 18) (hd : sig.all digB = true) (h8 : path.length ≤ 8) (w : World) (ht : Tab w) (hs : StrSl w vs sig) (hp : StrSl w vp path) :
    Calls Tryd.prog 32 #[.string pub, .string m, .agg #[.int .i64 idx, vs, vp]] w
      fun e w' => e = .returned (.bool (checkB pub ((2 ^ path.length : Nat) : Int) idx (leafOf (upEnds m sig)) path)) ∧ Below w.heap.size w w' := by
  have Hs := Lib.hid hs
  have Hp := Lib.hid hp
  have Hd := Lib.hid hd
  obtain ⟨b0, o0, c, rfl⟩ : ∃ b0 o0 c, vs = .slice (some ⟨b0, o0, none⟩) sig.length c := by
    rcases hs with ⟨h, _⟩ | ⟨b0, o0, c, h, _⟩
    · rw [h] at h18; simp at h18
    · exact ⟨b0, o0, c, h⟩
  obtain ⟨a', c', rfl, hm2⟩ := strSl_form hp
  have Hall := Lib.hid (small_dig hd)
  have H18 := Lib.hid h18
  have hb := new_below w (.cells #[.int .i64 idx, .slice (some ⟨b0, o0, none⟩) sig.length c, .slice a' path.length c'] 43)
  have hn : ((sig.length : Int) != 18) = false := by simp; omega
  have hg : (path.length : Int) ≤ 8 := by omega
  clear hs hp hd h18
  refine (callsIn_wide (n := 3)).1 ?_
  refine callsIn_of_wp_marks Tryd.func32 rfl trivial ?_ rfl
  simp only [Tryd.ntmps32, List.size_toArray, List.length_cons, List.length_nil, Nat.reduceAdd, Nat.reduceSub, Array.replicate_succ, Array.replicate_zero, List.push_toArray, List.append_toArray, List.nil_append, List.cons_append]
  refine wpIn_wide.2 ?_
  go_wp2_with fail
  refine (allDig_any _ sig _ (Hs.out.below hb)).mono ?_
  rintro e w1 ⟨rfl, rfl⟩
  rw [Hd.out]
  go_wp2_with (go_at_call 50; refine (sdigits_any m _).mono ?_; rintro e w2 ⟨rfl, rfl⟩)
  have bE0 := Boxed.new (w.alloc (.cells #[.int .i64 idx, .slice (some ⟨b0, o0, none⟩) sig.length c, .slice a' path.length c'] 43)) 41 (.slice none 0 0)
  have hsz : (w.alloc (.cells #[.int .i64 idx, .slice (some ⟨b0, o0, none⟩) sig.length c, .slice a' path.length c'] 43)).heap.size = w.heap.size + 1 := by simp
  have c0 : (w.alloc (.cells #[.int .i64 idx, .slice (some ⟨b0, o0, none⟩) sig.length c, .slice a' path.length c'] 43)).cell? ⟨w.heap.size, 0, none⟩ = some (.int .i64 idx) := by simp
  have c1 : (w.alloc (.cells #[.int .i64 idx, .slice (some ⟨b0, o0, none⟩) sig.length c, .slice a' path.length c'] 43)).cell? ⟨w.heap.size, 1, none⟩ = some (.slice (some ⟨b0, o0, none⟩) sig.length c) := by simp
  have c2 : (w.alloc (.cells #[.int .i64 idx, .slice (some ⟨b0, o0, none⟩) sig.length c, .slice a' path.length c'] 43)).cell? ⟨w.heap.size, 2, none⟩ = some (.slice a' path.length c') := by simp
  rw [hsz] at bE0
  obtain ⟨W0, hW0⟩ : ∃ W0, w.alloc (.cells #[.int .i64 idx, .slice (some ⟨b0, o0, none⟩) sig.length c, .slice a' path.length c'] 43) = W0 := ⟨_, rfl⟩
  rw [hW0] at hb hsz c0 c1 c2 bE0 ⊢
  have hb1 : Below W0.heap.size W0 ((W0.alloc (.cells #[.slice none 0 0] 41)).alloc (.cells #[.string m] 9)) := ((Below.refl _ W0).alloc (Nat.le_refl _) _).alloc (by simp) _
  have bM := Boxed.new (W0.alloc (.cells #[.slice none 0 0] 41)) 9 (.string m)
  rw [World.size_alloc, hsz] at bM
  have htW := ht.below hb
  have Hs0 := Lib.hid (Hs.out.below hb)
  have Hp0 := Lib.hid (Hp.out.below hb)
  refine (wpIn_wide (n := 3)).1 ?_
  refine wpIn_rangeFunc_ownG rfl (by decide) (gf := 87) (lb := #[.pointer (some ⟨w.heap.size + 1 + 1, 0, none⟩)]) rfl trivial (enters_of Tryd.func87 (by kernel_rfl) rfl)
    (digits_stops 2 (by decide) (w.heap.size + 1 + 1) W0.heap.size m hmm _ (by simp; omega) bM.cell) belowK_t (belowK_b (by simp; omega)) (Below.refl _ _) (fun _ => rfl)
    (fun pre W => (∃ v, Boxed W (w.heap.size + 1) 41 v ∧ OwnStr W W0.heap.size v (gotV sig pre)) ∧ Below W0.heap.size W0 W)
    (fun _ _ _ => False)
    (OwnFrom.and (Own.from (holds_own W0.heap.size (w.heap.size + 1) (gotV sig)) _) (ownFrom_below (Nat.le_refl _) (by simp; omega)))
    (fun _ _ _ _ _ hs _ _ => hs)
    ⟨⟨_, bE0.alloc _, OwnStr.nil _ _⟩, hb1⟩
    (fun x : Pr => { tmps := #[.string pub, .string m, .agg #[.int .i64 idx, .slice (some ⟨b0, o0, none⟩) sig.length c, .slice a' path.length c'], undef, undef, .pointer (some ⟨w.heap.size, 0, none⟩), .bool false, .pointer (some ⟨w.heap.size + 1, 0, none⟩), .int .i64 (x.1.1 : Int), .int .i64 (x.1.2 : Int),
          .pointer (some ⟨w.heap.size, 1, none⟩), .slice (some ⟨b0, o0, none⟩) sig.length c, .int .i64 (sig.length : Int), .bool false, .bool false, .pointer (some ⟨w.heap.size, 1, none⟩), .slice (some ⟨b0, o0, none⟩) sig.length c, .bool true,
          .bool false, .bool false, .bool false, .pointer (some ⟨w.heap.size, 2, none⟩), .slice a' path.length c', .int .i64 (path.length : Int), .bool (decide ((8 : Int) < (path.length : Int))),
          .bool (decide ((8 : Int) < (path.length : Int))), .string m, .func (.func 87) #[] #[.pointer (some ⟨w.heap.size + 1 + 1, 0, none⟩)], .int .i64 (x.1.1 : Int), .int .i64 (x.1.2 : Int),
          undef, undef, undef, undef, undef, undef, undef, undef, undef, undef, undef, undef, undef, undef, undef, undef, undef, undef, undef, undef, undef, undef, undef], defers := [] }) ?assign ?body ?done ?stop
  case assign =>
    intro l x W K hK
    gi_wp2
    exact hK
  case body =>
    rintro l pre x W ⟨⟨v, hv, hrow⟩, hB⟩ hlt
    have hc := hv.cell
    have hmx : Tryd.prog.follows .mixedOrders = true := by kernel_rfl
    obtain ⟨⟨k, d⟩, hk, hd⟩ := x
    dsimp only at hk hd ⊢
    have hks : k < sig.length := by rw [H18.out]; exact hk
    have hlt0 : w.heap.size < W0.heap.size := by omega
    have d1 := (hB.cell (p := ⟨w.heap.size, 1, none⟩) hlt0).trans c1
    have dk : W.cell? ⟨b0, o0 + k, none⟩ = some (.string sig[k]) := (Hs0.out.below hB).get k hks
    have Hch : ∀ W1, Calls Tryd.prog 59 #[.string sig[k], .int .i64 (15 - (d : Int))] W1 fun e w' => e = .returned (.string (chainB sig[k] (15 - d))) ∧ Below W1.heap.size W1 w' := fun W1 => by
      have h := chain_k sig[k] (Hall.out _ (List.getElem_mem hks)) (15 - d) (by omega) W1
      rw [show ((15 - d : Nat) : Int) = 15 - (d : Int) by omega] at h
      exact h
    clear c0 c2 bE0 hb1 bM hb
    gi_wp2
    have hS0 : ∀ w', Below W0.heap.size W0 w' → (w'.cell? ⟨w.heap.size, 1, none⟩ = some (.slice (some ⟨b0, o0, none⟩) sig.length c) ∧ w'.cell? ⟨b0, o0 + k, none⟩ = some (.string sig[k])) ∧ Below W0.heap.size W0 w' := fun w' hw =>
      ⟨⟨(hw.cell (p := ⟨w.heap.size, 1, none⟩) hlt0).trans c1, (Hs0.out.below hw).get k hks⟩, hw⟩
    have gw : IntKind.i64.wrap (15 - (d : Int)) = 15 - (d : Int) := IntWalk.i64_in _ (by omega)
    have hrd : Below W.heap.size W W.drew := (Below.refl _ _).drew
    have hcd0 : W.drew.cell? ⟨w.heap.size + 1, 0, none⟩ = some v := hc
    have hget : sig.getD k ByteArray.empty = sig[k] := getD_lt _ _ _ hks
    have g0 : (0 : Int) ≤ (k : Int) := by omega
    have g1 : (k : Int) < (sig.length : Int) := by omega
    refine region_round l 1 hmx (by kernel_rfl) (by rintro ⟨_, _, h⟩; exact h) (fun w' => (w'.cell? ⟨w.heap.size, 1, none⟩ = some (.slice (some ⟨b0, o0, none⟩) sig.length c) ∧ w'.cell? ⟨b0, o0 + k, none⟩ = some (.string sig[k])) ∧ Below W0.heap.size W0 w') (hS0 _ hB.drew) (fun hHeld => ?_)
    refine wpAnyH_take (i := 1) (oi := { dst := some 31, op := Op.fieldAddr 43 (Operand.tmp 5) 1, type := 0, pos := "seal.go:123", after := #[], guard := none }) (v := .pointer (some ⟨w.heap.size, 1, none⟩)) rfl (by kernel_rfl) (by kernel_rfl) (by kernel_rfl) (fun _ _ _ h => h) (Or.inl ⟨by rfl, ?_⟩) (by assumption) ?_
    · intro w' hS; have hS' := hS; (try dsimp only at hS'); obtain ⟨⟨s1, s2⟩, s3⟩ := hS'; go_simp
    simp only [Act.put, List.setIfInBounds_toArray, List.set_cons_zero, List.set_cons_succ]
    refine wpAnyH_take (i := 2) (oi := { dst := some 32, op := Op.load 41 (Operand.tmp 31), type := 41, pos := "seal.go:123", after := #[{ on := 1, ground := Ground.data }], guard := none }) (v := .slice (some ⟨b0, o0, none⟩) sig.length c) rfl (by kernel_rfl) (by kernel_rfl) (by kernel_rfl) (fun _ _ _ h => h) (Or.inl ⟨by rfl, ?_⟩) (by assumption) ?_
    · intro w' hS; have hS' := hS; (try dsimp only at hS'); obtain ⟨⟨s1, s2⟩, s3⟩ := hS'; go_simp
    simp only [Act.put, List.setIfInBounds_toArray, List.set_cons_zero, List.set_cons_succ]
    refine wpAnyH_take (i := 3) (oi := { dst := some 33, op := Op.move (Operand.tmp 8), type := 3, pos := "seal.go:123", after := #[], guard := none }) (v := .int .i64 (k : Int)) rfl (by kernel_rfl) (by kernel_rfl) (by kernel_rfl) (fun _ _ _ h => h) (Or.inl ⟨by rfl, ?_⟩) (by assumption) ?_
    · intro w' hS; have hS' := hS; (try dsimp only at hS'); obtain ⟨⟨s1, s2⟩, s3⟩ := hS'; go_simp
    simp only [Act.put, List.setIfInBounds_toArray, List.set_cons_zero, List.set_cons_succ]
    refine wpAnyH_take (i := 4) (oi := { dst := some 34, op := Op.indexAddr 41 (Operand.tmp 32) (Operand.tmp 33), type := 0, pos := "seal.go:123", after := #[{ on := 2, ground := Ground.data }, { on := 3, ground := Ground.data }], guard := none }) (v := .pointer (some ⟨b0, o0 + k, none⟩)) rfl (by kernel_rfl) (by kernel_rfl) (by kernel_rfl) (fun _ _ _ h => h) (Or.inl ⟨by rfl, ?_⟩) (by assumption) ?_
    · intro w' hS; have hS' := hS; (try dsimp only at hS'); obtain ⟨⟨s1, s2⟩, s3⟩ := hS'; go_simp
    simp only [Act.put, List.setIfInBounds_toArray, List.set_cons_zero, List.set_cons_succ]
    refine wpAnyH_take (i := 5) (oi := { dst := some 35, op := Op.load 9 (Operand.tmp 34), type := 9, pos := "seal.go:123", after := #[{ on := 4, ground := Ground.data }], guard := none }) (v := .string sig[k]) rfl (by kernel_rfl) (by kernel_rfl) (by kernel_rfl) (fun _ _ _ h => h) (Or.inl ⟨by rfl, ?_⟩) (by assumption) ?_
    · intro w' hS; have hS' := hS; (try dsimp only at hS'); obtain ⟨⟨s1, s2⟩, s3⟩ := hS'; go_simp
    simp only [Act.put, List.setIfInBounds_toArray, List.set_cons_zero, List.set_cons_succ]
    refine wpAnyH_take (i := 6) (oi := { dst := some 36, op := Op.move (Operand.tmp 9), type := 3, pos := "seal.go:123", after := #[], guard := none }) (v := .int .i64 (d : Int)) rfl (by kernel_rfl) (by kernel_rfl) (by kernel_rfl) (fun _ _ _ h => h) (Or.inl ⟨by rfl, ?_⟩) (by assumption) ?_
    · intro w' hS; have hS' := hS; (try dsimp only at hS'); obtain ⟨⟨s1, s2⟩, s3⟩ := hS'; go_simp
    simp only [Act.put, List.setIfInBounds_toArray, List.set_cons_zero, List.set_cons_succ]
    refine wpAnyH_take (i := 7) (oi := { dst := some 37, op := Op.binOp BinOp.sub 3 (Operand.const (Value.int IntKind.i64 15)) (Operand.tmp 36) 3, type := 3, pos := "seal.go:123", after := #[{ on := 6, ground := Ground.data }], guard := none }) (v := .int .i64 (15 - (d : Int))) rfl (by kernel_rfl) (by kernel_rfl) (by kernel_rfl) (fun _ _ _ h => h) (Or.inl ⟨by rfl, ?_⟩) (by assumption) ?_
    · intro w' hS; have hS' := hS; (try dsimp only at hS'); obtain ⟨⟨s1, s2⟩, s3⟩ := hS'; go_simp; all_goals exact gw
    simp only [Act.put, List.setIfInBounds_toArray, List.set_cons_zero, List.set_cons_succ]
    refine wpAnyH_ready (rs := [0, 8]) (by kernel_rfl) (by simp) ?_
    refine AllReadyH.cons (o := { dst := some 30, op := Op.load 41 (Operand.tmp 7), type := 41, pos := "seal.go:123", after := #[], guard := none }) rfl (fun K hK => ?_) (AllReadyH.cons (o := { dst := some 38, op := Op.call { callee := Callee.value (Operand.func 59), args := #[Operand.tmp 35, Operand.tmp 37], argTypes := #[9, 3] }, type := 9, pos := "seal.go:123", after := #[{ on := 5, ground := Ground.data }, { on := 7, ground := Ground.data }], guard := none }) rfl (fun K hK => ?_) AllReadyH.nil)
    · have hcd := hcd0
      go_simp
      refine hK.out _ _ (hS0 _ hB.drew) (fun hHeld => ?_)
      clear hK K
      try simp only [Act.put, List.setIfInBounds_toArray, List.set_cons_zero, List.set_cons_succ]
      refine wpAnyH_ready (rs := [8]) (by kernel_rfl) (by simp) ?_
      refine AllReadyH.cons (o := { dst := some 38, op := Op.call { callee := Callee.value (Operand.func 59), args := #[Operand.tmp 35, Operand.tmp 37], argTypes := #[9, 3] }, type := 9, pos := "seal.go:123", after := #[{ on := 5, ground := Ground.data }, { on := 7, ground := Ground.data }], guard := none }) rfl (fun K hK => ?_) AllReadyH.nil
      go_simp
      refine (Hch _).mono ?_
      rintro e w1 ⟨rfl, hb1⟩
      have hWw1 : Below W.heap.size W w1 := hrd.trans hb1
      have hB1 : Below W0.heap.size W0 w1 := hB.trans (hWw1.mono hB.size)
      have hvw1 : Boxed w1 (w.heap.size + 1) 41 v := (hWw1.block _ hv.lt).trans hv
      have hrow1 := hrow.below hWw1
      refine hK.out _ _ (hS0 _ hB1) (fun hHeld => ?_)
      clear hK K
      try simp only [Act.put, List.setIfInBounds_toArray, List.set_cons_zero, List.set_cons_succ]
      refine wpAnyH_ready (rs := [9]) (by kernel_rfl) (by simp) ?_
      refine AllReadyH.cons (o := { dst := some 39, op := Op.buildSlice 41 1 #[(0, Operand.tmp 38)], type := 41, pos := "seal.go:123", after := #[{ on := 8, ground := Ground.data }], guard := none }) rfl (fun K hK => ?_) AllReadyH.nil
      go_simp
      refine hK.out _ _ (hS0 _ (hB1.alloc hB1.size _)) (fun hHeld => ?_)
      clear hK K
      try simp only [Act.put, List.setIfInBounds_toArray, List.set_cons_zero, List.set_cons_succ]
      refine wpAnyH_ready (rs := [10]) (by kernel_rfl) (by simp) ?_
      refine AllReadyH.cons (o := { dst := some 40, op := Op.call { callee := Callee.builtin Builtin.append, args := #[Operand.tmp 30, Operand.tmp 39], argTypes := #[41, 41] }, type := 41, pos := "seal.go:123", after := #[{ on := 0, ground := Ground.data }, { on := 9, ground := Ground.data }, { on := 8, ground := Ground.chain }], guard := none }) rfl (fun K hK => ?_) AllReadyH.nil
      refine step_app _ (by rfl) _ _ (by rfl) W0.heap.size v _ (gotV sig pre) [chainB sig[k] (15 - d)] (by rfl) (by rfl) (hrow1.ofAlloc _) (sl1' _ w1) (by rw [gotV_len, List.length_singleton]; omega) (by have := hB1.size; simp; omega) ?_
      intro v2 w2 own2 grow2 at2
      have own3 := own2
      unfold OwnStr at own3
      rw [List.length_append, List.length_singleton] at own3
      obtain ⟨g', cap', rfl⟩ := ownsRow_succ own3
      obtain ⟨hv3, hv4, hr4, hk4, hb4⟩ := Boxed.appended (W := w1) hvw1 (by decide) hrow1 hB1.size (by omega) own2 grow2
      have hc3 := hv3.cell
      have hf3 := hv3.frozen
      refine hK.out _ _ (hS0 _ (below_grow' (hrow1.ofAlloc _) (hB1.alloc hB1.size _) grow2)) (fun hHeld => ?_)
      clear hK K
      try simp only [Act.put, List.setIfInBounds_toArray, List.set_cons_zero, List.set_cons_succ]
      refine wpAnyH_ready (rs := [11]) (by kernel_rfl) (by simp) ?_
      refine AllReadyH.cons (o := { dst := none, op := Op.store 41 (Operand.tmp 7) (Operand.tmp 40), type := 0, pos := "seal.go:123", after := #[{ on := 10, ground := Ground.data }, { on := 10, ground := Ground.chain }, { on := 0, ground := Ground.phase }, { on := 1, ground := Ground.phase }, { on := 2, ground := Ground.phase }, { on := 3, ground := Ground.phase }, { on := 4, ground := Ground.phase }, { on := 5, ground := Ground.phase }, { on := 6, ground := Ground.phase }, { on := 7, ground := Ground.phase }, { on := 8, ground := Ground.phase }, { on := 9, ground := Ground.phase }, { on := 10, ground := Ground.phase }], guard := none }) rfl (fun K hK => ?_) AllReadyH.nil
      go_simp
      refine hK.out _ _ (hS0 _ (hB1.trans hb4)) (fun hHeld => ?_)
      clear hK K
      try simp only [Act.put, List.setIfInBounds_toArray, List.set_cons_zero, List.set_cons_succ]
      refine wpAnyH_done (by kernel_rfl) ?_ _
      exact ⟨((keeps_of_below hWw1).trans hk4).from _, (hWw1.mono hB.size).trans hb4, ⟨_, hv4, by rw [gotV_snoc, hget]; exact hr4⟩, hB1.trans hb4⟩
    · go_simp
      refine (Hch _).mono ?_
      rintro e w1 ⟨rfl, hb1⟩
      have hWw1 : Below W.heap.size W w1 := hrd.trans hb1
      have hB1 : Below W0.heap.size W0 w1 := hB.trans (hWw1.mono hB.size)
      have hvw1 : Boxed w1 (w.heap.size + 1) 41 v := (hWw1.block _ hv.lt).trans hv
      have hrow1 := hrow.below hWw1
      refine hK.out _ _ (hS0 _ hB1) (fun hHeld => ?_)
      clear hK K
      try simp only [Act.put, List.setIfInBounds_toArray, List.set_cons_zero, List.set_cons_succ]
      refine wpAnyH_ready (rs := [0, 9]) (by kernel_rfl) (by simp) ?_
      refine AllReadyH.cons (o := { dst := some 30, op := Op.load 41 (Operand.tmp 7), type := 41, pos := "seal.go:123", after := #[], guard := none }) rfl (fun K hK => ?_) (AllReadyH.cons (o := { dst := some 39, op := Op.buildSlice 41 1 #[(0, Operand.tmp 38)], type := 41, pos := "seal.go:123", after := #[{ on := 8, ground := Ground.data }], guard := none }) rfl (fun K hK => ?_) AllReadyH.nil)
      · have hcd := hvw1.cell
        go_simp
        refine hK.out _ _ (hS0 _ hB1) (fun hHeld => ?_)
        clear hK K
        try simp only [Act.put, List.setIfInBounds_toArray, List.set_cons_zero, List.set_cons_succ]
        refine wpAnyH_ready (rs := [9]) (by kernel_rfl) (by simp) ?_
        refine AllReadyH.cons (o := { dst := some 39, op := Op.buildSlice 41 1 #[(0, Operand.tmp 38)], type := 41, pos := "seal.go:123", after := #[{ on := 8, ground := Ground.data }], guard := none }) rfl (fun K hK => ?_) AllReadyH.nil
        go_simp
        refine hK.out _ _ (hS0 _ (hB1.alloc hB1.size _)) (fun hHeld => ?_)
        clear hK K
        try simp only [Act.put, List.setIfInBounds_toArray, List.set_cons_zero, List.set_cons_succ]
        refine wpAnyH_ready (rs := [10]) (by kernel_rfl) (by simp) ?_
        refine AllReadyH.cons (o := { dst := some 40, op := Op.call { callee := Callee.builtin Builtin.append, args := #[Operand.tmp 30, Operand.tmp 39], argTypes := #[41, 41] }, type := 41, pos := "seal.go:123", after := #[{ on := 0, ground := Ground.data }, { on := 9, ground := Ground.data }, { on := 8, ground := Ground.chain }], guard := none }) rfl (fun K hK => ?_) AllReadyH.nil
        refine step_app _ (by rfl) _ _ (by rfl) W0.heap.size v _ (gotV sig pre) [chainB sig[k] (15 - d)] (by rfl) (by rfl) (hrow1.ofAlloc _) (sl1' _ w1) (by rw [gotV_len, List.length_singleton]; omega) (by have := hB1.size; simp; omega) ?_
        intro v2 w2 own2 grow2 at2
        have own3 := own2
        unfold OwnStr at own3
        rw [List.length_append, List.length_singleton] at own3
        obtain ⟨g', cap', rfl⟩ := ownsRow_succ own3
        obtain ⟨hv3, hv4, hr4, hk4, hb4⟩ := Boxed.appended (W := w1) hvw1 (by decide) hrow1 hB1.size (by omega) own2 grow2
        have hc3 := hv3.cell
        have hf3 := hv3.frozen
        refine hK.out _ _ (hS0 _ (below_grow' (hrow1.ofAlloc _) (hB1.alloc hB1.size _) grow2)) (fun hHeld => ?_)
        clear hK K
        try simp only [Act.put, List.setIfInBounds_toArray, List.set_cons_zero, List.set_cons_succ]
        refine wpAnyH_ready (rs := [11]) (by kernel_rfl) (by simp) ?_
        refine AllReadyH.cons (o := { dst := none, op := Op.store 41 (Operand.tmp 7) (Operand.tmp 40), type := 0, pos := "seal.go:123", after := #[{ on := 10, ground := Ground.data }, { on := 10, ground := Ground.chain }, { on := 0, ground := Ground.phase }, { on := 1, ground := Ground.phase }, { on := 2, ground := Ground.phase }, { on := 3, ground := Ground.phase }, { on := 4, ground := Ground.phase }, { on := 5, ground := Ground.phase }, { on := 6, ground := Ground.phase }, { on := 7, ground := Ground.phase }, { on := 8, ground := Ground.phase }, { on := 9, ground := Ground.phase }, { on := 10, ground := Ground.phase }], guard := none }) rfl (fun K hK => ?_) AllReadyH.nil
        go_simp
        refine hK.out _ _ (hS0 _ (hB1.trans hb4)) (fun hHeld => ?_)
        clear hK K
        try simp only [Act.put, List.setIfInBounds_toArray, List.set_cons_zero, List.set_cons_succ]
        refine wpAnyH_done (by kernel_rfl) ?_ _
        exact ⟨((keeps_of_below hWw1).trans hk4).from _, (hWw1.mono hB.size).trans hb4, ⟨_, hv4, by rw [gotV_snoc, hget]; exact hr4⟩, hB1.trans hb4⟩
      · go_simp
        refine hK.out _ _ (hS0 _ (hB1.alloc hB1.size _)) (fun hHeld => ?_)
        clear hK K
        try simp only [Act.put, List.setIfInBounds_toArray, List.set_cons_zero, List.set_cons_succ]
        refine wpAnyH_ready (rs := [0]) (by kernel_rfl) (by simp) ?_
        refine AllReadyH.cons (o := { dst := some 30, op := Op.load 41 (Operand.tmp 7), type := 41, pos := "seal.go:123", after := #[], guard := none }) rfl (fun K hK => ?_) AllReadyH.nil
        have hcd := (hvw1.alloc (.cells #[.string (chainB sig[k] (15 - d))] 9)).cell
        go_simp
        refine hK.out _ _ (hS0 _ (hB1.alloc hB1.size _)) (fun hHeld => ?_)
        clear hK K
        try simp only [Act.put, List.setIfInBounds_toArray, List.set_cons_zero, List.set_cons_succ]
        refine wpAnyH_ready (rs := [10]) (by kernel_rfl) (by simp) ?_
        refine AllReadyH.cons (o := { dst := some 40, op := Op.call { callee := Callee.builtin Builtin.append, args := #[Operand.tmp 30, Operand.tmp 39], argTypes := #[41, 41] }, type := 41, pos := "seal.go:123", after := #[{ on := 0, ground := Ground.data }, { on := 9, ground := Ground.data }, { on := 8, ground := Ground.chain }], guard := none }) rfl (fun K hK => ?_) AllReadyH.nil
        refine step_app _ (by rfl) _ _ (by rfl) W0.heap.size v _ (gotV sig pre) [chainB sig[k] (15 - d)] (by rfl) (by rfl) (hrow1.ofAlloc _) (sl1' _ w1) (by rw [gotV_len, List.length_singleton]; omega) (by have := hB1.size; simp; omega) ?_
        intro v2 w2 own2 grow2 at2
        have own3 := own2
        unfold OwnStr at own3
        rw [List.length_append, List.length_singleton] at own3
        obtain ⟨g', cap', rfl⟩ := ownsRow_succ own3
        obtain ⟨hv3, hv4, hr4, hk4, hb4⟩ := Boxed.appended (W := w1) hvw1 (by decide) hrow1 hB1.size (by omega) own2 grow2
        have hc3 := hv3.cell
        have hf3 := hv3.frozen
        refine hK.out _ _ (hS0 _ (below_grow' (hrow1.ofAlloc _) (hB1.alloc hB1.size _) grow2)) (fun hHeld => ?_)
        clear hK K
        try simp only [Act.put, List.setIfInBounds_toArray, List.set_cons_zero, List.set_cons_succ]
        refine wpAnyH_ready (rs := [11]) (by kernel_rfl) (by simp) ?_
        refine AllReadyH.cons (o := { dst := none, op := Op.store 41 (Operand.tmp 7) (Operand.tmp 40), type := 0, pos := "seal.go:123", after := #[{ on := 10, ground := Ground.data }, { on := 10, ground := Ground.chain }, { on := 0, ground := Ground.phase }, { on := 1, ground := Ground.phase }, { on := 2, ground := Ground.phase }, { on := 3, ground := Ground.phase }, { on := 4, ground := Ground.phase }, { on := 5, ground := Ground.phase }, { on := 6, ground := Ground.phase }, { on := 7, ground := Ground.phase }, { on := 8, ground := Ground.phase }, { on := 9, ground := Ground.phase }, { on := 10, ground := Ground.phase }], guard := none }) rfl (fun K hK => ?_) AllReadyH.nil
        go_simp
        refine hK.out _ _ (hS0 _ (hB1.trans hb4)) (fun hHeld => ?_)
        clear hK K
        try simp only [Act.put, List.setIfInBounds_toArray, List.set_cons_zero, List.set_cons_succ]
        refine wpAnyH_done (by kernel_rfl) ?_ _
        exact ⟨((keeps_of_below hWw1).trans hk4).from _, (hWw1.mono hB.size).trans hb4, ⟨_, hv4, by rw [gotV_snoc, hget]; exact hr4⟩, hB1.trans hb4⟩
  case done =>
    rintro D ys W hD rfl ⟨⟨v, hv, hrow⟩, hB⟩ hK
    rw [gotV_all] at hrow
    have hlt0 : w.heap.size < W0.heap.size := by omega
    have hDlt : D < W.heap.size := (Array.getElem?_eq_some_iff.1 hK).1
    have hvlt := hv.lt
    have d0 := (hB.cell (p := ⟨w.heap.size, 0, none⟩) hlt0).trans c0
    have d2 := (hB.cell (p := ⟨w.heap.size, 2, none⟩) hlt0).trans c2
    have hc := hv.cell
    have hlt1 : w.heap.size < W.heap.size := by have := hB.size; omega
    have hr := Below.refl W.heap.size W
    have htW1 := htW.below hB
    have Hsl := Lib.hid hrow.sl
    have Hpl := Lib.hid (Hp0.out.below hB)
    have Hw := Lib.hid (pow_wrap2 path.length h8)
    have Hsm := Lib.hid (show small (upEnds m sig) from fun x hx => by
      unfold upEnds at hx
      obtain ⟨j, hj, rfl⟩ := List.mem_map.1 hx
      rw [getD_lt _ _ _ (by rw [H18.out]; exact List.mem_range.1 hj)]
      exact chainB_size _ _ _ (by decide) (Hall.out _ (List.getElem_mem _)))
    have hlen : (upEnds m sig).length ≤ 1000 := by simp [upEnds]
    clear bE0 bM hv hrow c0 c1 c2 hb1
    obtain ⟨ends, hE⟩ : ∃ ends, upEnds m sig = ends := ⟨_, rfl⟩
    have HE := Lib.hid hE
    rw [hE] at Hsl Hsm hlen
    clear hE
    have hS0 : ∀ w', Below W.heap.size W w' → (w'.cell? ⟨w.heap.size, 0, none⟩ = some (.int .i64 idx) ∧ w'.cell? ⟨w.heap.size, 2, none⟩ = some (.slice a' path.length c') ∧ w'.cell? ⟨w.heap.size + 1, 0, none⟩ = some v) ∧ Below W.heap.size W w' := fun w' hw =>
      ⟨⟨(hw.cell (p := ⟨w.heap.size, 0, none⟩) hlt1).trans d0, (hw.cell (p := ⟨w.heap.size, 2, none⟩) hlt1).trans d2, (hw.cell (p := ⟨w.heap.size + 1, 0, none⟩) hvlt).trans hc⟩, hw⟩
    gi_wp2
    go_wp2_with fail
    go_region_held3 (fun w' => (w'.cell? ⟨w.heap.size, 0, none⟩ = some (.int .i64 idx) ∧ w'.cell? ⟨w.heap.size, 2, none⟩ = some (.slice a' path.length c') ∧ w'.cell? ⟨w.heap.size + 1, 0, none⟩ = some v) ∧ Below W.heap.size W w')
      (first | exact hS0 _ hr.drew | exact hS0 _ (by assumption))
      (first
        | (go_at_call 61; refine (leafOf_any v ends Hsm.out hlen _ (htW1.below hr.drew) (Hsl.out.below hr.drew)).mono ?_; rintro e w1 ⟨rfl, hb1'⟩; have hb1 := hr.drew.trans (hb1'.mono hr.drew.size))
        | (go_at_call 60; rw [Hw.out]; refine (Check_any pub _ idx (leafOf ends) _ path _ (htW1.below hb1) (Hpl.out.below hb1)).mono ?_; rintro e w2 ⟨rfl, hb2'⟩; have hb2 := hb1.trans (hb2'.mono hb1.size)))
    go_wp2_with fail
    have hK2 := (hb2.block D hDlt).trans hK
    refine ⟨by simp, .inl ⟨_, _, rfl, run_takeDeferred hK2, ?_⟩⟩
    have hW2 : Below w.heap.size w w2 := hb.trans ((hB.trans (hb2.mono hB.size)).mono hb.size)
    rw [World.size_alloc, World.size_alloc, hsz] at hD
    have hfin : Below w.heap.size w2 (w2.putObj D (.deferred none)) := belowK_b (w := w) (Nat.le_refl _) w2 D (.deferred (some [])) (.deferred none) (by omega) hK2 rfl rfl
    refine ⟨_, results_tmp rfl _ _ _, ?_, hW2.trans hfin⟩
    simp only [Array.getD_eq_getD_getElem?, List.getElem?_toArray, List.getElem?_cons_succ, List.getElem?_cons_zero, Option.getD_some]
    rw [HE.out, show ((2 ^ path.length : Nat) : Int) = (2 : Int) ^ path.length from by simp]
  case stop =>
    rintro D c pre W _ _ h _
    exact h.elim

theorem Verify_any (pub m : ByteArray) (hmm : m.size ≤ 1000) (idx : Int) (vs vp : Value) (sig path : List ByteArray) (w : World) (ht : Tab w) (hs : StrSl w vs sig) (hp : StrSl w vp path) :
    Calls Tryd.prog 32 #[.string pub, .string m, .agg #[.int .i64 idx, vs, vp]] w fun e w' => e = .returned (.bool (verB pub m idx sig path)) ∧ Below w.heap.size w w' := by
  unfold verB
  by_cases h18 : sig.length = 18
  · rw [decide_eq_true h18, Bool.true_and]
    cases hd : sig.all digB with
    | false => exact Verify_dig pub m idx vs vp sig path h18 hd w hs hp
    | true =>
      rw [Bool.true_and]
      by_cases h8 : path.length ≤ 8
      · rw [decide_eq_true h8, Bool.true_and]
        exact Verify_near pub m hmm idx vs vp sig path h18 hd h8 w ht hs hp
      · rw [decide_eq_false h8, Bool.false_and]
        exact Verify_far pub m idx vs vp sig path h18 hd h8 w hs hp
  · rw [decide_eq_false h18, Bool.false_and]
    exact Verify_len pub m idx vs vp sig path h18 w hs hp

end Go.Proofs.YteapfoadfjjicaaDoor.Dig
