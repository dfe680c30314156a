/- Walks over package lexer: Lex. -/
import Derived.Test.YtcabhanmeookkaaDoorLexW5
import Derived.Test.YtcabhanmeookkaaDoorLexMath2
import Derived.Great.Walk
import Derived.Great.BuildSlice
namespace Go.Proofs.YtcabhanmeookkaaDoor.Lx
set_option linter.unusedVariables false
set_option linter.unusedSimpArgs false
open Go.RowKit

def tokT (t : Tok) : Array Value := tokA t.kind t.pos t.n ⟨t.text.toArray⟩
def flat (ts : List Tok) : List Value := ts.flatMap fun t => (tokT t).toList
theorem flat_length : ∀ ts : List Tok, (flat ts).length = ts.length * 4
  | [] => rfl
  | t :: ts => by
    have h := flat_length ts
    unfold flat at h ⊢
    rw [List.flatMap_cons, List.length_append, h]
    simp [tokT, tokA]
    omega
theorem flat_append (a b : List Tok) : flat (a ++ b) = flat a ++ flat b := List.flatMap_append
theorem flat_get : ∀ (ts : List Tok) (i j : Nat) (h : i < ts.length), j < 4 → (flat ts)[i * 4 + j]? = (tokT ts[i])[j]?
  | [], i, j, h, _ => by simp at h
  | t :: ts, i, j, h, hj => by
    have hl : (tokT t).toList.length = 4 := rfl
    unfold flat
    rw [List.flatMap_cons]
    cases i with
    | zero =>
      rw [Nat.zero_mul, Nat.zero_add, List.getElem?_append_left (by omega), Array.getElem?_toList]
      rfl
    | succ i =>
      rw [List.getElem?_append_right (by omega), hl, show (i + 1) * 4 + j - 4 = i * 4 + j by omega]
      exact flat_get ts i j (by simpa using h) hj

/-- v is a list of tokens of the call's own, from block B on -/
def OwnTok (w : World) (B : Nat) (v : Value) (ts : List Tok) : Prop := w.ownsRow B 69 4 v ts.length (flat ts)
/-- the four cells of a token -/
def Cells4 (w : World) (b o : Nat) (t : Tok) : Prop :=
  w.cell? ⟨b, o, none⟩ = some (.int .i64 (t.kind : Int)) ∧ w.cell? ⟨b, o + 1, none⟩ = some (.int .i64 (t.pos : Int)) ∧ w.cell? ⟨b, o + 2, none⟩ = some (.int .i64 (t.n : Int)) ∧ w.cell? ⟨b, o + 3, none⟩ = some (.string ⟨t.text.toArray⟩)
theorem Cells4.below {w w' : World} {n b o : Nat} {t : Tok} (h : Cells4 w b o t) (hb : Below n w w') (hlt : b < n) : Cells4 w' b o t :=
  ⟨(hb.cell (p := ⟨b, o, none⟩) hlt).trans h.1, (hb.cell (p := ⟨b, o + 1, none⟩) hlt).trans h.2.1, (hb.cell (p := ⟨b, o + 2, none⟩) hlt).trans h.2.2.1, (hb.cell (p := ⟨b, o + 3, none⟩) hlt).trans h.2.2.2⟩
/-- v is a list of these tokens -/
def TokSl (w : World) (v : Value) (ts : List Tok) : Prop :=
  (ts = [] ∧ ∃ a cap, v = .slice a 0 cap) ∨
  ∃ b off cap, v = .slice (some ⟨b, off, none⟩) ts.length cap ∧ 0 < ts.length ∧ b < w.heap.size ∧ (ts.length ≤ cap ∧ cap ≤ maxLen) ∧ ∀ i (h : i < ts.length), Cells4 w b (off + i * 4) ts[i]
theorem TokSl.below {w w' : World} {v : Value} {ts : List Tok} (h : TokSl w v ts) (hb : Below w.heap.size w w') : TokSl w' v ts := by
  rcases h with h | ⟨b, off, cap, hv, h0, hlt, hm, hc⟩
  · exact .inl h
  · exact .inr ⟨b, off, cap, hv, h0, Nat.lt_of_lt_of_le hlt hb.size, hm, fun i hi => (hc i hi).below hb hlt⟩
theorem OwnTok.sl {w : World} {B : Nat} {v : Value} {ts : List Tok} (h : OwnTok w B v ts) : TokSl w v ts := by
  rcases h with ⟨hl, ⟨hv, h0⟩ | ⟨g, cap, cur, hv, _, hg, hc, hm, hsz, htk⟩⟩
  · exact .inl ⟨List.eq_nil_of_length_eq_zero h0, none, 0, by rw [hv]⟩
  · by_cases h0 : ts.length = 0
    · exact .inl ⟨List.eq_nil_of_length_eq_zero h0, _, cap, by rw [hv, h0]⟩
    · refine .inr ⟨g, 0, cap, hv, by omega, (Array.getElem?_eq_some_iff.1 hg).1, ⟨hc, hm⟩, fun i hi => ?_⟩
      have key : ∀ j, j < 4 → w.cell? ⟨g, 0 + i * 4 + j, none⟩ = (tokT ts[i])[j]? := fun j hj => by
        rw [cell_of_row _ _ _ _ _ _ hg, Nat.zero_add, ← flat_get ts i j hi hj, ← htk, List.getElem?_take, if_pos (by omega), Array.getElem?_toList]
      exact ⟨key 0 (by decide), key 1 (by decide), key 2 (by decide), key 3 (by decide)⟩
theorem OwnTok.kept {w w' : World} {B : Nat} {v : Value} {ts : List Tok} {row : Option Nat} (h : OwnTok w B v ts) (hg : w.grownBy w' row) (hne : v.ownBlock ≠ row) : OwnTok w' B v ts := World.ownsRow.kept h hg (.inr hne)
theorem OwnTok.apart {w : World} {B n p : Nat} {v : Value} {ts : List Tok} {s : ByteArray} (h : OwnTok w n v ts) (hr : Rd w B s p) : v.ownBlock ≠ some B := by
  rcases h.2 with ⟨rfl, _⟩ | ⟨g, cap, cur, rfl, _, hg, _⟩
  · simp [Value.ownBlock]
  · intro e
    obtain rfl : g = B := by simpa [Value.ownBlock] using e
    rw [hr] at hg
    simp at hg

theorem built_rd (s : ByteArray) : Tryd.prog.built 75 [(0, .string s), (1, .agg clsA)] = some (rdA s 0) := by kernel_rfl

theorem OwnTok.form {w : World} {B : Nat} {v : Value} {ts : List Tok} (h : OwnTok w B v ts) : ∃ a cap, v = .slice a ts.length cap := by
  rcases h.2 with ⟨rfl, h0⟩ | ⟨g, cap, cur, rfl, _⟩
  · exact ⟨none, 0, by rw [h0]⟩
  · exact ⟨_, _, rfl⟩
theorem OwnTok.nil (w : World) (B : Nat) : OwnTok w B (.slice none 0 0) [] := World.ownsRow_nil w B _ _
theorem tok_infoK : ((Tryd.prog.info? 69).bind fun i => i.zero.map fun z => (i.size, i.bytes, z.cells.size)) = some (4, 40, 4) := by kernel_rfl
theorem tok_info : ∃ i z, Tryd.prog.info? 69 = some i ∧ i.zero = some z ∧ i.size = 4 ∧ i.bytes = 40 ∧ z.cells.size = 4 := by
  have h := tok_infoK
  cases hi : Tryd.prog.info? 69 with
  | none => rw [hi] at h; cases h
  | some i =>
    rw [hi] at h
    cases hz : i.zero with
    | none => simp [hz] at h
    | some z =>
      simp [hz] at h
      exact ⟨i, z, rfl, hz, h.1, h.2.1, h.2.2⟩
theorem OwnTok.lt {w : World} {B : Nat} {v : Value} {ts : List Tok} (h : OwnTok w B v ts) : ∀ k, v.ownBlock = some k → B ≤ k := fun k hk => (World.ownsRow.lt h k hk).1

theorem cells_new (w : World) (cs : Array Value) (ty : TypeId) : ∀ j u, cs.toList[j]? = some u → (w.alloc (.cells cs ty)).cell? ((⟨w.heap.size, 0, none⟩ : Addr).add j) = some u := by
  intro j u hu
  have hadd : (⟨w.heap.size, 0, none⟩ : Addr).add j = ⟨w.heap.size, j, none⟩ := by unfold Addr.add; split <;> simp_all
  rw [hadd, cell_of_row _ _ _ _ _ _ (heap_alloc_new w _)]
  simpa using hu

/-- what Lex comes to -/
def Lexed (r : Res) (w : World) (e : Ending) (w' : World) : Prop :=
  match r with
  | .err c p => e = .returned (.tuple #[.slice none 0 0, .int .i64 (c : Int), .int .i64 (p : Int)]) ∧ Below w.heap.size w w'
  | .toks ts => ∃ v, e = .returned (.tuple #[v, .int .i64 0, .int .i64 0]) ∧ TokSl w' v ts ∧ Below w.heap.size w w'

set_option maxHeartbeats 1000000 in
theorem lex_long (s : ByteArray) (h : 20000 < s.size) (hs : s.size ≤ 1000000) (w : World) :
    Calls Tryd.prog 42 #[.string s] w fun e w' => e = .returned (.tuple #[.slice none 0 0, .int .i64 2, .int .i64 (-1)]) ∧ w = w' := by
  go_enter Tryd.func42, Tryd.ntmps42
  go_wp2_with fail
  go_ret3
  exact ⟨rfl, rfl⟩

set_option maxRecDepth 100000 in
set_option maxHeartbeats 2000000 in
theorem lex_any (s : ByteArray) (hs : s.size ≤ 20000) (w : World) (r : Res) (hres : lexL 5000 (rest s 0) 0 = r) :
    Calls Tryd.prog 42 #[.string s] w (Lexed r w) := by
  have Hres := Lib.hid hres
  have hn : ¬ (20000 : Int) < (s.size : Int) := by omega
  have hcl := classes_any w
  have hbt := built_rd s
  have hone := rdA_one s 0
  have hsz := rdA_size s 0
  have hrd : ∀ w1 : World, Rd ((w1.alloc (.cells Tryd.zeroCells75 75)).setRow w1.heap.size (rdA s 0)) w1.heap.size s 0 := fun w1 => setRow_heap _ _ _ _ _ _ (heap_alloc_new w1 _)
  have Hrd := Lib.hid hrd
  have hz : Tryd.zeroCells75.size = 258 := by kernel_rfl
  clear hres hrd
  generalize rdA s 0 = R at hbt hone hsz Hrd
  generalize clsA = C at hbt hcl
  have Hbt := Lib.hid hbt
  have Hone := Lib.hid hone
  have Hsz := Lib.hid hsz
  have Hz := Lib.hid hz
  clear hbt hone hsz hz
  go_enter Tryd.func42, Tryd.ntmps42
  go_wp2_with fail
  refine hcl.mono ?_
  rintro e w1 ⟨rfl, hb1⟩
  go_wp2_with (first | (refine wpList_buildTo rfl 75 #[(0, .tmp 13), (1, .tmp 14)] rfl (some 15) rfl R ?_ ?_; (simpa [Act.eval] using Hbt.out)) | (refine wpList_store_row rfl 75 (.tmp 5) (.tmp 15) rfl w1.heap.size R rfl rfl 75 Tryd.zeroCells75 (heap_alloc_new w1 _) (by rw [Hsz.out]; kernel_rfl) (by rw [Hsz.out, Hz.out]) Hone.out ?_))
  obtain ⟨w2, hw2⟩ : ∃ w2, (w1.alloc (.cells Tryd.zeroCells75 75)).setRow w1.heap.size R = w2 := ⟨_, rfl⟩
  rw [hw2]
  have hr2 : Rd w2 w1.heap.size s 0 := by rw [← hw2]; exact Hrd.out w1
  have hb2 : Below w.heap.size w w2 := by rw [← hw2]; exact below_setRow (hb1.alloc hb1.size _) hb1.size _
  have hBn := hb1.size
  generalize w1.heap.size = B at *
  clear hw2 Hrd Hbt Hone Hsz Hz hcl hb1
  obtain ⟨i0, z0, hi, hz0, hz1, hz2, hz3⟩ := tok_info
  have Hi := Lib.hid hi
  have Hz0 := Lib.hid hz0
  have Hz1 := Lib.hid hz1
  have Hz2 := Lib.hid hz2
  have Hz3 := Lib.hid hz3
  clear hi hz0 hz1 hz2 hz3
  refine (skip_any B 0 s (by omega) (Nat.zero_le _) w2 hr2).mono ?_
  rintro e w3 ⟨rfl, hr3, hon3⟩
  have hb3 := hb2.grown hon3 hb2.size (fun k e => by cases e; exact hBn)
  have Hr3 := Lib.hid hr3
  clear hr2 hb2 hr3 hon3
  go_wp2_with fail
  go_loopw [6] (fun v wr => ∃ (q : Nat) (ts : List Tok), q ≤ s.size ∧ Rd wr B s q ∧ OwnTok wr w.heap.size v ts ∧ Below w.heap.size w wr ∧ gp false (rest s q) = 0 ∧ ts.length ≤ 5000 ∧ lexL 5000 (rest s 0) 0 = (lexL (5000 - ts.length) (rest s q) q).pre ts) (fun _ wr => s.size - atOf wr B)
  case atStart =>
    have hg := gp_le (rest s 0) false
    rw [rest_length] at hg
    refine ⟨gp false (rest s 0), [], by omega, ?_, OwnTok.nil _ _, hb3, ?_, by simp, ?_⟩
    · have := Hr3.out
      rw [Nat.zero_add] at this
      exact this
    · have := gp_drop (rest s 0) false
      rw [rest_drop, Nat.zero_add] at this
      exact this
    · rw [Res.pre_nil, lexL_skip_gap, rest_drop, Nat.zero_add]
      rfl
  case round =>
    clear Hr3 hb3
    obtain ⟨q, ts, hq, hr, hown, hbel, hgp, hlen, hlex⟩ := hrel
    obtain ⟨a0, cap0, rfl⟩ := hown.form
    have hat := hr.at
    have hap := hown.apart hr
    have Hr := Lib.hid hr
    have Hown := Lib.hid hown
    have Hgp := Lib.hid hgp
    have Hlex := Lib.hid (hlex.symm.trans Hres.out)
    have Hlex0 := Lib.hid hlex
    have Hme := Lib.hid hr.atOf
    have Hap := Lib.hid hap
    clear hr hown hgp hlex hap
    by_cases hlt : q < s.size
    · have hltI : (q : Int) < (s.size : Int) := by omega
      go_wp2_with fail
      refine (token_any B q s (by omega) hlt wr Hr.out).mono ?_
      intro e w4 hread
      cases ho : tokB (rest s q) with
      | bad c =>
        rw [ho] at hread
        obtain ⟨rfl, hr4, hon4⟩ := hread
        have hb4 := hbel.grown hon4 hbel.size (fun k e => by cases e; exact hBn)
        have hb5 : Below w.heap.size w ((w4.alloc (.cells zeroA 69)).setRow w4.heap.size zeroA) := below_setRow (hb4.alloc hb4.size _) hb4.size _
        have Hb5 := Lib.hid hb5
        have hr5 : r = .err c q := by
          rw [← Hlex.out, lexL_bad (by rw [Hgp.out, rest_length]; omega) (by rw [Hgp.out]; exact ho), Hgp.out]
          rfl
        have Hr5 := Lib.hid hr5
        have hcode := tok_code ho
        clear ho hr4 hon4 hb4 hb5 hr5
        rcases hcode with rfl | rfl | rfl | rfl
        all_goals
          go_wp2_with (first | (refine wpList_store_row rfl 69 (.tmp 8) (.tmp 27) rfl w4.heap.size zeroA rfl rfl 69 zeroA (TokAt.new w4) (by kernel_rfl) rfl zeroA_one ?_))
          go_ret3
          rw [Hr5.out]
          exact ⟨rfl, Hb5.out⟩
      | good k v n t =>
        rw [ho] at hread
        obtain ⟨rfl, hr4, hon4⟩ := hread
        have hb4 := hbel.grown hon4 hbel.size (fun k e => by cases e; exact hBn)
        have hown4 := Hown.out.kept hon4 Hap.out
        have hB4 := hr4.lt
        have hb45 : Below w4.heap.size w4 ((w4.alloc (.cells zeroA 69)).setRow w4.heap.size (tokA k q v ⟨t.toArray⟩)) := below_setRow ((Below.refl _ _).alloc (Nat.le_refl _) _) (Nat.le_refl _) _
        have hb5 := hb4.trans (hb45.mono hb4.size)
        have hr5 := hr4.kept hb45
        have hown5 := hown4.kept (only_below w4.heap.size hb45) (fun h => by
          have := (World.ownsRow.lt hown4 _ h).2
          omega)
        have hN5 : TokAt ((w4.alloc (.cells zeroA 69)).setRow w4.heap.size (tokA k q v ⟨t.toArray⟩)) w4.heap.size (tokA k q v ⟨t.toArray⟩) := (TokAt.new w4).row _
        have hw := tok_width ho
        rw [rest_length] at hw
        have Hb5 := Lib.hid hb5
        have Hown5 := Lib.hid hown5
        have Hr5 := Lib.hid hr5
        have HN5 := Lib.hid hN5
        have Ho := Lib.hid ho
        clear ho hr4 hon4 hb4 hb5 hr5 hown4 hown5 hb45 hN5
        by_cases hfull : ts.length = 5000
        · have hF : ((ts.length : Int) == 5000) = true := by rw [hfull]; rfl
          have hr6 : r = .err 2 q := by
            rw [← Hlex.out, hfull, lexL_full (by rw [Hgp.out]; exact Ho.out), Hgp.out]
            rfl
          have Hr6 := Lib.hid hr6
          clear hr6 hfull
          go_wp2_with (first | (refine wpList_store_row rfl 69 (.tmp 8) (.tmp 27) rfl w4.heap.size (tokA k q v ⟨t.toArray⟩) rfl rfl 69 zeroA (TokAt.new w4) (by kernel_rfl) rfl (tokA_one _ _ _ _) ?_))
          go_ret3
          rw [Hr6.out]
          exact ⟨rfl, Hb5.out⟩
        · have hF : ((ts.length : Int) == 5000) = false := by simp; omega
          have Hlex2 := Lib.hid (show lexL 5000 (rest s 0) 0 = (lexL (5000 - (ts.length + 1)) (rest s (q + n)) (q + n)).pre (ts ++ [⟨k, q, v, t⟩]) by
            rw [Hlex0.out, lexL_good (by rw [Hgp.out]; exact Ho.out) (by omega), Hgp.out, Res.pre_pre, Nat.zero_add, rest_drop, Nat.add_zero]
            rfl)
          have hlen1 : ts.length + 1 ≤ 5000 := by omega
          clear hfull
          obtain ⟨w5, hw5⟩ : ∃ w5, (w4.alloc (.cells zeroA 69)).setRow w4.heap.size (tokA k q v ⟨t.toArray⟩) = w5 := ⟨_, rfl⟩
          rw [hw5] at Hb5 Hown5 Hr5 HN5
          have hw5' : (w4.alloc (.cells #[.int .i64 0, .int .i64 0, .int .i64 0, .string ⟨#[]⟩] 69)).setRow w4.heap.size (tokA k q v ⟨t.toArray⟩) = w5 := hw5
          clear hw5
          go_wp2_with (first | (refine wpList_store_row rfl 69 (.tmp 8) (.tmp 27) rfl w4.heap.size (tokA k q v ⟨t.toArray⟩) rfl rfl 69 zeroA (TokAt.new w4) (by kernel_rfl) rfl (tokA_one _ _ _ _) ?_) | (refine wpList_load_row rfl 69 (.tmp 8) rfl w4.heap.size rfl 69 #[.int .i64 (k : Int), .int .i64 (q : Int), .int .i64 (v : Int), .string ⟨t.toArray⟩] _ _ HN5.out Tryd.underlying69 rfl (by kernel_rfl) ?_) | (at_builtin; refine wpList_append_own _ rfl _ _ 65 rfl w.heap.size 69 i0 z0 4 40 Tryd.underlying65 Hi.out Hz0.out Hz1.out Hz2.out Hz3.out (by decide) _ ts.length (flat ts) rfl (World.ownsRow.alloc Hown5.out _) ⟨w5.heap.size, 0, none⟩ 1 1 [.int .i64 (k : Int), .int .i64 (q : Int), .int .i64 (v : Int), .string ⟨t.toArray⟩] rfl rfl ?c1 ?c2 ?c3 ?c4 ?c5 ?_))
          case c1 => exact cells_new w5 #[.int .i64 (k : Int), .int .i64 (q : Int), .int .i64 (v : Int), .string ⟨t.toArray⟩] _
          case c2 => simp [Value.oneCell']
          case c3 => unfold maxLen; omega
          case c4 => omega
          case c5 => have := Hb5.out.size; simp; omega
          intro v6 w6 hown6 hgrow6 _
          have hb5a := (Below.refl w5.heap.size w5).alloc (Nat.le_refl _) (.cells #[.int .i64 (k : Int), .int .i64 (q : Int), .int .i64 (v : Int), .string ⟨t.toArray⟩] 69)
          have hr6 : Rd w6 B s (q + n) := (hgrow6.block B (Hr5.out.kept hb5a).lt (fun h => Hap.out h.symm)).trans (Hr5.out.kept hb5a)
          have hb6 : Below w.heap.size w w6 := (Hb5.out.trans (hb5a.mono Hb5.out.size)).grown hgrow6 (by have := Hb5.out.size; simp; omega) (fun k hk => Hown5.out.lt k hk.symm.symm)
          have hown6' : OwnTok w6 w.heap.size v6 (ts ++ [⟨k, q, v, t⟩]) := by
            unfold OwnTok
            rw [flat_append, List.length_append]
            exact hown6
          have Hr6 := Lib.hid hr6
          have Hb6 := Lib.hid hb6
          have Hown6 := Lib.hid hown6'
          clear hown6 hgrow6 hb5a hr6 hb6 hown6' Hr5 Hb5 Hown5 HN5 hw5'
          go_wp2_with fail
          refine (skip_any B (q + n) s (by omega) (by omega) w6 Hr6.out).mono ?_
          rintro e w7 ⟨rfl, hr7, hon7⟩
          have hb7 := Hb6.out.grown hon7 Hb6.out.size (fun k e => by cases e; exact hBn)
          have hown7 := Hown6.out.kept hon7 (Hown6.out.apart Hr6.out)
          have Hr7 := Lib.hid hr7
          have Hb7 := Lib.hid hb7
          have Hown7 := Lib.hid hown7
          clear hr7 hb7 hown7 hon7
          have hg7 := gp_le (rest s (q + n)) false
          rw [rest_length] at hg7
          go_wp2_with fail
          go_roundw
          case rel =>
            refine ⟨q + n + gp false (rest s (q + n)), ts ++ [⟨k, q, v, t⟩], by omega, Hr7.out, Hown7.out, Hb7.out, ?_, by simp; omega, ?_⟩
            · have := gp_drop (rest s (q + n)) false
              rw [rest_drop] at this
              exact this
            · rw [Hlex2.out, lexL_skip_gap, rest_drop, List.length_append]
              rfl
          case measure =>
            rw [Hr7.out.atOf, Hme.out]
            omega
    · obtain rfl : q = s.size := by omega
      have hF : decide ((s.size : Int) < (s.size : Int)) = false := by simp
      have hr6 : r = .toks ts := by
        rw [← Hlex.out, lexL_gap (by rw [Hgp.out, rest_length]; omega)]
        simp [Res.pre]
      have Hr6 := Lib.hid hr6
      clear hr6
      go_wp2_with fail
      go_ret3
      rw [Hr6.out]
      exact ⟨_, rfl, Hown.out.sl, hbel⟩

end Go.Proofs.YtcabhanmeookkaaDoor.Lx
