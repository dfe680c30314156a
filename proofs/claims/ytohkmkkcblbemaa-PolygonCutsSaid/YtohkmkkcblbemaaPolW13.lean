/- Walks over package polygon: the middles of the parts of a ring's sides, which are ranged over. -/
import Derived.Test.YtohkmkkcblbemaaPolW12
import Derived.Test.YtohkmkkcblbemaaRangeB
import Derived.Test.YtohkmkkcblbemaaRegInv
namespace Go.Proofs.Ytohkmkkcblbemaa.Ge
set_option linter.unusedVariables false
set_option linter.unusedSimpArgs false
open Go.RowKit Go.Shelf
open Go.Proofs.Ytohkmkkcblbemaa.Fr (Two)
open Go.Proofs.Ytohkmkkcblbemaa.Rb (KB Shuts SeqB endB)
attribute [local go_sem] Oper.semAt_some

theorem middles_any (a a' : Option Addr) (k c k' c' : Nat) (w : World) :
    Calls Try.prog 77 #[.slice a k c, .slice a' k' c'] w fun e w' => e = .returned (.func (.func 86) #[] #[.pointer (some ⟨w.heap.size, 0, none⟩), .pointer (some ⟨w.heap.size + 1, 0, none⟩)]) ∧ w' = (w.alloc (.cells #[.slice a k c] 27)).alloc (.cells #[.slice a' k' c'] 27) := by
  go_enter Try.func77, Try.ntmps77
  go_wp2_with fail
  go_ret
  exact ⟨rfl, rfl⟩

/-- the places within the grid -/
abbrev OPl := { p : Int × Int // onQ p.1 p.2 }
abbrev encQ (x : OPl) : Array Value := #[.agg #[.int .i64 x.1.1, .int .i64 x.1.2]]
instance (x y : Int) : Decidable (onQ x y) := inferInstanceAs (Decidable (_ ∧ _))
def oPl (p : Int × Int) : OPl := if h : onQ p.1 p.2 then ⟨p, h⟩ else ⟨(0, 0), by decide⟩
theorem oPl_val {p : Int × Int} (h : onQ p.1 p.2) : (oPl p).1 = p := by unfold oPl; rw [dif_pos h]
/-- the middles between the points of a list -/
def midK (e : List (Int × Int)) (k : Nat) : Int × Int := midP (e.getD k (0, 0)) (e.getD (k + 1) (0, 0))
def oMidsK (e : List (Int × Int)) (k : Nat) : List OPl := (List.range k).map fun j => oPl (midK e j)
def oMidsS (b : List (Int × Int)) (s : Sd) : List OPl := oMidsK (endsS b s) ((endsS b s).length - 1)
def oMidsU (b : List (Int × Int)) (pre : List OSd) : List OPl := pre.flatMap fun x => oMidsS b x.1
theorem oMidsK_succ (e : List (Int × Int)) (k : Nat) : oMidsK e (k + 1) = oMidsK e k ++ [oPl (midK e k)] := by unfold oMidsK; rw [List.range_succ, List.map_append]; rfl
theorem oMidsK_sub {e : List (Int × Int)} {k n : Nat} (h : k ≤ n) {z : OPl} (hz : z ∈ oMidsK e k) : z ∈ oMidsK e n := by
  obtain ⟨j, hj, rfl⟩ := List.mem_map.1 hz
  have hj := List.mem_range.1 hj
  exact List.mem_map.2 ⟨j, List.mem_range.2 (by omega), rfl⟩
theorem oMidsU_snoc (b : List (Int × Int)) (pre : List OSd) (x : OSd) : oMidsU b (pre ++ [x]) = oMidsU b pre ++ oMidsS b x.1 := by simp [oMidsU]
theorem mids_range (e : List (Int × Int)) : ((e.zip e.tail).map fun x => midP x.1 x.2) = (List.range (e.length - 1)).map (midK e) := by
  apply List.ext_getElem
  · simp
  · intro i h1 h2
    simp only [List.length_map, List.length_zip, List.length_tail, List.length_range] at h1 h2
    have hi : i < e.length := by omega
    have hi2 : i + 1 < e.length := by omega
    simp only [List.getElem_map, List.getElem_zip, List.getElem_tail, List.getElem_range]
    unfold midK
    rw [List.getD_eq_getElem?_getD, List.getD_eq_getElem?_getD, List.getElem?_eq_getElem hi, List.getElem?_eq_getElem hi2]
    rfl
theorem midQ {p q : Int × Int} (hp : onP p.1 p.2) (hq : onP q.1 q.2) : onQ (midP p q).1 (midP p q).2 := by
  obtain ⟨⟨h1, h2⟩, h3, h4⟩ := hp
  obtain ⟨⟨k1, k2⟩, k3, k4⟩ := hq
  unfold onQ midP
  dsimp only
  omega
theorem midK_on {e : List (Int × Int)} (he : ∀ p ∈ e, onP p.1 p.2) {k : Nat} (hk : k + 1 < e.length) : onQ (midK e k).1 (midK e k).2 := by
  unfold midK
  rw [List.getD_eq_getElem?_getD, List.getD_eq_getElem?_getD, List.getElem?_eq_getElem (show k < e.length by omega), List.getElem?_eq_getElem hk]
  exact midQ (he _ (List.getElem_mem _)) (he _ (List.getElem_mem _))
theorem oMidsS_val {b : List (Int × Int)} (hb : onL b) {s : Sd} (hs : onS s) : (oMidsS b s).map (·.1) = midsS b s := by
  unfold oMidsS oMidsK midsS
  rw [mids_range, List.map_map]
  refine List.map_congr_left fun k hk => ?_
  have hk := List.mem_range.1 hk
  exact oPl_val (midK_on (ends_on hb hs) (by omega))
theorem oMidsU_val {b : List (Int × Int)} (hb : onL b) : ∀ pre : List OSd, (oMidsU b pre).map (·.1) = (pre.map (·.1)).flatMap (midsS b)
  | [] => rfl
  | x :: pre => by
    have h := oMidsU_val hb pre
    have e : oMidsU b (x :: pre) = oMidsS b x.1 ++ oMidsU b pre := rfl
    rw [e, List.map_append, h, oMidsS_val hb x.2]
    rfl
theorem PtSl.two (w : World) (p q : Pt) : PtSl (w.alloc (.cells #[.int .i64 p.1, .int .i64 p.2, .int .i64 q.1, .int .i64 q.2] 23)) (.slice (some ⟨w.heap.size, 0, none⟩) 2 2) [p, q] := by
  refine .inr ⟨w.heap.size, 0, 2, rfl, by simp, by simp, ⟨by simp, by unfold maxLen; omega⟩, fun i hi => ?_⟩
  have h := (pts2 (w := w) rfl 23 p.1 p.2 q.1 q.2).2 i hi
  unfold Cells2
  rw [Nat.zero_add]
  simp only [List.length_cons, List.length_nil] at hi
  obtain rfl | rfl : i = 0 ∨ i = 1 := by omega
  · exact h
  · exact h
theorem grown_to_below {X Y : World} {row : Option Nat} {N : Nat} (hg : X.grownBy Y row) (hN : N ≤ X.heap.size) (hr : ∀ r, row = some r → N ≤ r) : Below N X Y :=
  ⟨hg.os, hg.tape, hg.output, hg.size, fun k hk => hg.block k (by omega) (fun e => by have := hr k e.symm; omega)⟩

theorem OwnPt.mono {w : World} {B B' : Nat} {v : Value} {l : List Pt} (h : OwnPt w B' v l) (hB : B ≤ B') : OwnPt w B v l := by
  obtain ⟨hl, h⟩ := h
  refine ⟨hl, h.imp id ?_⟩
  rintro ⟨g, cap, cur, h1, h2, h3⟩
  exact ⟨g, cap, cur, h1, Nat.le_trans hB h2, h3⟩
theorem OwnPt.some {w : World} {B : Nat} {v : Value} {l : List Pt} (h : OwnPt w B v l) (h1 : 1 ≤ l.length) : ∃ g cap, v = .slice (some ⟨g, 0, none⟩) l.length cap ∧ B ≤ g ∧ l.length ≤ cap := by
  rcases h.2 with ⟨_, h0⟩ | ⟨g, cap, cur, hv, hb, _, hc, _⟩
  · omega
  · exact ⟨g, cap, hv, hb, hc⟩
theorem PtSl.some {w : World} {v : Value} {l : List Pt} (h : PtSl w v l) (h1 : 1 ≤ l.length) : ∃ b off cap, v = .slice (some ⟨b, off, none⟩) l.length cap ∧ 0 < l.length ∧ b < w.heap.size ∧ (l.length ≤ cap ∧ cap ≤ maxLen) ∧ ∀ i (h : i < l.length), Cells2 w b (off + i * 2) l[i] := by
  rcases h with ⟨rfl, _⟩ | h
  · simp at h1
  · exact h

set_option maxRecDepth 100000 in
set_option maxHeartbeats 8000000 in
theorem mids_seq (Ba Bb n₀ R ba oa ca bb ob cb : Nat) (ra rb : List Pt) (ha : onL ra) (hb : onL rb) (hla : 1 ≤ ra.length ∧ ra.length ≤ 1000) (hlb : 1 ≤ rb.length ∧ rb.length ≤ 1000) (w : World) (hBa : Ba < w.heap.size) (hBb : Bb < w.heap.size) (hRa : Ba ≠ R) (hRb : Bb ≠ R) (hR : R < w.heap.size)
    (hba : ba < n₀) (hbb : bb < n₀) (hn : n₀ ≤ w.heap.size) (hca : w.cell? ⟨Ba, 0, none⟩ = some (.slice (some ⟨ba, oa, none⟩) ra.length ca)) (hcb : w.cell? ⟨Bb, 0, none⟩ = some (.slice (some ⟨bb, ob, none⟩) rb.length cb))
    (hsa : ∀ i (h : i < ra.length), Cells2 w ba (oa + i * 2) ra[i]) (hsb : ∀ i (h : i < rb.length), Cells2 w bb (ob + i * 2) rb[i]) :
    SeqB 9 Try.prog 86 #[.pointer (some ⟨Ba, 0, none⟩), .pointer (some ⟨Bb, 0, none⟩)] encQ R n₀ (fun xs => xs = oMidsU rb (oSides ra)) (fun pre => ∀ x ∈ pre, x ∈ oMidsU rb (oSides ra)) w := by
  intro l J Jx W hW hl1 hl2 hJ hJx hY h0
  have hca' := (hW.cell (p := ⟨Ba, 0, none⟩) hBa).trans hca
  have hcb' := (hW.cell (p := ⟨Bb, 0, none⟩) hBb).trans hcb
  have hsW := hW.size
  have HSA := Lib.hid (fun i (h : i < ra.length) => (hsa i h).below hW (show ba < w.heap.size by omega))
  have HSB := Lib.hid (fun (W' : World) (hk : Below n₀ W W') i (h : i < rb.length) => ((hsb i h).below hW (show bb < w.heap.size by omega)).below hk hbb)
  have HY := Lib.hid hY
  clear hca hcb hsa hsb hY
  have hca2 := (((Below.refl W.heap.size W).alloc (Nat.le_refl _) (.cells #[.func (.yield l) #[] #[]] 89)).cell (p := ⟨Ba, 0, none⟩) (show Ba < W.heap.size by omega)).trans hca'
  refine callsIn_of_wp_marks Try.func86 rfl trivial ?_ rfl
  simp only [Try.ntmps86, List.size_toArray, List.length_cons, List.length_nil, Nat.reduceAdd, Nat.reduceSub, Array.replicate_succ, Array.replicate_zero, List.push_toArray, List.append_toArray, List.nil_append, List.cons_append]
  gi_wp2_with (refine ⟨trivial, ?_⟩; gi_at_call 68; refine (callsIn_wide.2 (sides_any _ _ _ _)).mono ?_; rintro e w' ⟨rfl, rfl⟩)
  have hBA := ((Below.refl W.heap.size W).alloc (Nat.le_refl _) (.cells #[.func (.yield l) #[] #[]] 89)).alloc (by simp) (.cells #[.slice (some ⟨ba, oa, none⟩) ra.length ca] 27)
  have bY := (Boxed.new W 89 (.func (.yield l) #[] #[])).alloc (.cells #[.slice (some ⟨ba, oa, none⟩) ra.length ca] 27)
  have bA := Boxed.new (W.alloc (.cells #[.func (.yield l) #[] #[]] 89)) 27 (.slice (some ⟨ba, oa, none⟩) ra.length ca)
  have hsz : ((W.alloc (.cells #[.func (.yield l) #[] #[]] 89)).alloc (.cells #[.slice (some ⟨ba, oa, none⟩) ra.length ca] 27)).heap.size = W.heap.size + 2 := by simp
  simp only [World.size_alloc] at bA
  obtain ⟨V, hV⟩ : ∃ V, (W.alloc (.cells #[.func (.yield l) #[] #[]] 89)).alloc (.cells #[.slice (some ⟨ba, oa, none⟩) ra.length ca] 27) = V := ⟨_, rfl⟩
  rw [hV] at hBA bY bA hsz ⊢
  clear hV hca2
  have hbV := (hBA.cell (p := ⟨Bb, 0, none⟩) (show Bb < W.heap.size by omega)).trans hcb'
  have upJ : ∀ s X Y (row : Option Nat), J s X → X.grownBy Y row → W.heap.size ≤ X.heap.size → (∀ r, row = some r → W.heap.size ≤ r) → J s Y := fun s X Y row h hg hx hr => hJ s X Y h (grown_to_below hg hx hr)
  have ownI : OwnFrom V.heap.size (fun (pre : List OSd) W' => J (oMidsU rb pre) W' ∧ KB R l n₀ V W') := fun s X Y row h hg hr => by
    have hz := h.2.below.size
    have hb := grown_to_below (N := V.heap.size) hg (by omega) (fun r e => (hr r e).1)
    exact ⟨hJ _ _ _ h.1 (hb.mono (by omega)), h.2.below.trans (hb.mono (by omega)), fun k h1 h2 h3 => (hb.block k (by omega)).trans (h.2.block k h1 h2 h3)⟩
  have ownX : ∀ c : Code, OwnFrom V.heap.size (fun (pre : List OSd) W' => (c = .ret ∧ ∃ ys, (∀ y ∈ ys, y ∈ oMidsU rb pre) ∧ Jx ys W') ∧ V.heap.size ≤ W'.heap.size) := fun c s X Y row h hg hr => by
    have hz := h.2
    have hb := grown_to_below (N := V.heap.size) hg (by omega) (fun r e => (hr r e).1)
    obtain ⟨⟨e, ys, h1, h2⟩, h3⟩ := h
    exact ⟨⟨e, ys, h1, hJx _ _ _ h2 (hb.mono (by omega))⟩, Nat.le_trans h3 hb.size⟩
  refine wpIn_rangeFunc_ownH rfl (by decide) (gf := 83) (lb := #[.pointer (some ⟨W.heap.size + 1, 0, none⟩)]) rfl trivial (enters_of Try.func83 (by kernel_rfl) rfl)
    (sides_stops 8 (by decide) (W.heap.size + 1) n₀ ba oa ca ra ha hla V (by omega) hba (by omega) bA.cell (fun i hi => (HSA.out i hi).below hBA (show ba < W.heap.size by omega))) (fun h k => h.trans k) (KpB.bk (by omega) (by omega)) (Below.refl _ _) (fun _ => rfl)
    (fun pre W' => J (oMidsU rb pre) W' ∧ KB R l n₀ V W')
    (fun c pre W' => (c = .ret ∧ ∃ ys, (∀ y ∈ ys, y ∈ oMidsU rb pre) ∧ Jx ys W') ∧ V.heap.size ≤ W'.heap.size)
    ownI ownX
    ⟨hJ _ _ _ h0 hBA, KB.refl _ _ _ _⟩
    (fun x a' W' => ∃ Bx, V.heap.size ≤ Bx ∧ SdAt W' Bx x.1 ∧ a' = { tmps := #[.func (.yield l) #[] #[], .pointer (some ⟨Ba, 0, none⟩), .pointer (some ⟨Bb, 0, none⟩), .pointer (some ⟨W.heap.size, 0, none⟩), .pointer (some ⟨Bx, 0, none⟩), undef, undef, undef, .slice (some ⟨ba, oa, none⟩) ra.length ca, .func (.func 83) #[] #[.pointer (some ⟨W.heap.size + 1, 0, none⟩)], .agg #[.int .i64 x.1.1.1, .int .i64 x.1.1.2, .int .i64 x.1.2.1, .int .i64 x.1.2.2], undef, undef, undef, undef, undef, undef, undef, undef, undef, undef, undef, undef, undef, undef, undef, undef, undef, undef, undef, undef, undef, undef, undef, undef, undef, undef, undef, undef, undef, undef, undef], defers := [] })
    (fun x a' _ X Y row hs hg hr => by obtain ⟨Bx, h1, h2, h3⟩ := hs; exact ⟨Bx, h1, sd_own Bx (fun (_ : Unit) => x.1) () X Y row h2 hg (fun r e => (hr r e).2), h3⟩)
    ?assign ?body ?done ?stop
  case assign =>
    rintro l2 pre x W1 K ⟨hj, hk⟩ hK
    gi_wp2
    have hz := hk.below.size
    have hbz := (Below.refl W1.heap.size W1).alloc (Nat.le_refl _) (.cells #[.int .i64 x.1.1.1, .int .i64 x.1.1.2, .int .i64 x.1.2.1, .int .i64 x.1.2.2] 83)
    exact hK _ _ ((KeepsOthers.alloc _ _).from _) ((KpB.refl _ _ _).alloc (by omega) (by omega) _) ⟨hJ _ _ _ hj (hbz.mono (by omega)), hk.trans (KB.of_below hbz (by omega) (Nat.le_refl _))⟩ ⟨W1.heap.size, by omega, SdAt.new W1 x.1, rfl⟩
  case body =>
    rintro l2 pre x a' W1 hl3 - ⟨hj, hk⟩ ⟨Bx, hBx, bX, rfl⟩ hlt
    have hz := hk.below.size
    have kbk : ∀ i, i < V.heap.size → i ≠ R → i ≠ l → W1.heap[i]? = V.heap[i]? := fun i h1 h2 h3 => hk.block i h2 h3 h1
    have cB : W1.cell? ⟨Bb, 0, none⟩ = some (.slice (some ⟨bb, ob, none⟩) rb.length cb) := by
      have e := kbk Bb (by omega) hRb (by omega)
      have h := hbV
      unfold World.cell? at h ⊢
      rw [e]
      exact h
    have bY1 : Boxed W1 W.heap.size 89 (.func (.yield l) #[] #[]) := (kbk W.heap.size (by omega) (by omega) (by omega)).trans bY
    have hbn : Below n₀ W W1 := (hBA.mono (by omega)).trans hk.below
    have hR1 : Ring W1 (.slice (some ⟨bb, ob, none⟩) rb.length cb) rb := ⟨bb, ob, cb, rfl, by omega, fun i hi => HSB.out W1 hbn i hi⟩
    have HCN := Lib.hid (fun (w' : World) (h : Below W1.heap.size W1 w') => corners_any _ rb hlb x.1.1.1 x.1.1.2 x.1.2.1 x.1.2.2 w' (hR1.below h))
    have HEND := Lib.hid (fun l hp hs => ends_settled (b := rb) (s := x.1) x.2 (l := l) hp hs)
    have HEL := Lib.hid (ends_len rb x.1)
    have HEO := Lib.hid (ends_on hb x.2)
    have HSN := Lib.hid (oMidsU_snoc rb pre x)
    have hfl := filter_len (f := partedB x.1) rb rb.length
    rw [List.take_length] at hfl
    have hbx := bX.lt
    have hS : ∀ w' : World, Below W1.heap.size W1 w' → (w'.cell? ⟨Bb, 0, none⟩ = some (.slice (some ⟨bb, ob, none⟩) rb.length cb) ∧ w'.cell? ⟨Bx, 0, none⟩ = some (.int .i64 x.1.1.1) ∧ w'.cell? ⟨Bx, 1, none⟩ = some (.int .i64 x.1.1.2) ∧ w'.cell? ⟨Bx, 2, none⟩ = some (.int .i64 x.1.2.1) ∧ w'.cell? ⟨Bx, 3, none⟩ = some (.int .i64 x.1.2.2)) := fun w' hb => ⟨(hb.cell (p := ⟨Bb, 0, none⟩) (show Bb < W1.heap.size by omega)).trans cB, (bX.below hb hbx).facts⟩
    have hr := Below.refl W1.heap.size W1
    have hS0 := hS _ hr.drew
    gi_wp2
    refine Rl.region_round l2 _ (by kernel_rfl) (by kernel_rfl) (by rintro ⟨_, _, h⟩; exact h) (fun w' => (w'.cell? ⟨Bb, 0, none⟩ = some (.slice (some ⟨bb, ob, none⟩) rb.length cb) ∧ w'.cell? ⟨Bx, 0, none⟩ = some (.int .i64 x.1.1.1) ∧ w'.cell? ⟨Bx, 1, none⟩ = some (.int .i64 x.1.1.2) ∧ w'.cell? ⟨Bx, 2, none⟩ = some (.int .i64 x.1.2.1) ∧ w'.cell? ⟨Bx, 3, none⟩ = some (.int .i64 x.1.2.2))) hS0 (fun _ => ?_)
    refine Ri.take_d (i := 0) (v := .slice (some ⟨bb, ob, none⟩) rb.length cb) (some 11) rfl rfl (by kernel_rfl) (by kernel_rfl) (by kernel_rfl) (fun _ _ _ h => h) (Or.inl ⟨by kernel_rfl, ?_⟩) hS0 ?_
    · intro w' hSw; obtain ⟨z0, z1, z2, z3, z4⟩ := hSw; go_simp
    simp only [Act.put, List.setIfInBounds_toArray, List.set_cons_zero, List.set_cons_succ]
    refine Ri.take_d (i := 1) (v := .agg #[.int .i64 x.1.1.1, .int .i64 x.1.1.2, .int .i64 x.1.2.1, .int .i64 x.1.2.2]) (some 12) rfl rfl (by kernel_rfl) (by kernel_rfl) (by kernel_rfl) (fun _ _ _ h => h) (Or.inl ⟨by kernel_rfl, ?_⟩) hS0 ?_
    · intro w' hSw; obtain ⟨z0, z1, z2, z3, z4⟩ := hSw; go_simp
    simp only [Act.put, List.setIfInBounds_toArray, List.set_cons_zero, List.set_cons_succ]
    refine Ri.take_d (i := 2) (v := .func (.func 88) #[.agg #[.int .i64 x.1.1.1, .int .i64 x.1.1.2, .int .i64 x.1.2.1, .int .i64 x.1.2.2]] #[]) (some 13) rfl rfl (by kernel_rfl) (by kernel_rfl) (by kernel_rfl) (fun _ _ _ h => h) (Or.inl ⟨by kernel_rfl, ?_⟩) hS0 ?_
    · intro w' hSw; obtain ⟨z0, z1, z2, z3, z4⟩ := hSw; go_simp
    simp only [Act.put, List.setIfInBounds_toArray, List.set_cons_zero, List.set_cons_succ]
    refine Ri.take_d (i := 4) (v := .pointer (some ⟨Bx, 0, none⟩)) (some 15) rfl rfl (by kernel_rfl) (by kernel_rfl) (by kernel_rfl) (fun _ _ _ h => h) (Or.inl ⟨by kernel_rfl, ?_⟩) hS0 ?_
    · intro w' hSw; obtain ⟨z0, z1, z2, z3, z4⟩ := hSw; go_simp
    simp only [Act.put, List.setIfInBounds_toArray, List.set_cons_zero, List.set_cons_succ]
    refine Ri.take_d (i := 5) (v := .agg #[.int .i64 x.1.1.1, .int .i64 x.1.1.2]) (some 16) rfl rfl (by kernel_rfl) (by kernel_rfl) (by kernel_rfl) (fun _ _ _ h => h) (Or.inl ⟨by kernel_rfl, ?_⟩) hS0 ?_
    · intro w' hSw; obtain ⟨z0, z1, z2, z3, z4⟩ := hSw; go_simp
    simp only [Act.put, List.setIfInBounds_toArray, List.set_cons_zero, List.set_cons_succ]
    refine Ri.take_d (i := 6) (v := .pointer (some ⟨Bx, 2, none⟩)) (some 17) rfl rfl (by kernel_rfl) (by kernel_rfl) (by kernel_rfl) (fun _ _ _ h => h) (Or.inl ⟨by kernel_rfl, ?_⟩) hS0 ?_
    · intro w' hSw; obtain ⟨z0, z1, z2, z3, z4⟩ := hSw; go_simp
    simp only [Act.put, List.setIfInBounds_toArray, List.set_cons_zero, List.set_cons_succ]
    refine Ri.take_d (i := 7) (v := .agg #[.int .i64 x.1.2.1, .int .i64 x.1.2.2]) (some 18) rfl rfl (by kernel_rfl) (by kernel_rfl) (by kernel_rfl) (fun _ _ _ h => h) (Or.inl ⟨by kernel_rfl, ?_⟩) hS0 ?_
    · intro w' hSw; obtain ⟨z0, z1, z2, z3, z4⟩ := hSw; go_simp
    simp only [Act.put, List.setIfInBounds_toArray, List.set_cons_zero, List.set_cons_succ]
    refine wpAnyH_ready (rs := [3, 8]) (by kernel_rfl) (by simp) ?_
    refine AllReadyH.cons rfl (fun K hK => ?c1) (AllReadyH.cons rfl (fun K hK => ?c2) AllReadyH.nil)
    case' c1 =>
      rw [if_pos (by rfl)]
      go_simp
      go_at_call 87
      refine (HCN.out _ hr.drew).mono ?_
      rintro e w2 ⟨u, rfl, ou, hb2'⟩
      have hb2 : Below W1.heap.size W1 w2 := hr.drew.trans (hb2'.mono (hr.drew).size)
      refine hK.out _ _ (hS _ hb2) (fun _ => ?_)
      clear hK K
      try simp only [Act.put, List.setIfInBounds_toArray, List.set_cons_zero, List.set_cons_succ]
      have own2 : OwnPt w2 W1.heap.size u (rb.filter (partedB x.1)) := ou.mono (Nat.le_refl _)
      refine wpAnyH_ready (rs := [8]) (by kernel_rfl) (by simp) ?_
      refine AllReadyH.cons rfl (fun K hK => ?_) AllReadyH.nil
      go_simp
      have hb2a := (hb2).alloc (hb2).size (.cells #[.int .i64 x.1.1.1, .int .i64 x.1.1.2, .int .i64 x.1.2.1, .int .i64 x.1.2.2] 23)
      refine hK.out _ _ (hS _ hb2a) (fun _ => ?_)
      clear hK K
      try simp only [Act.put, List.setIfInBounds_toArray, List.set_cons_zero, List.set_cons_succ]
      refine wpAnyH_ready (rs := [9]) (by kernel_rfl) (by simp) ?_
      refine AllReadyH.cons rfl (fun K hK => ?_) AllReadyH.nil
      refine step_append_pt _ rfl _ _ rfl W1.heap.size u _ (rb.filter (partedB x.1)) [x.1.1, x.1.2] rfl rfl (own2.below ((Below.refl _ _).alloc (Nat.le_refl _) (.cells #[.int .i64 x.1.1.1, .int .i64 x.1.1.2, .int .i64 x.1.2.1, .int .i64 x.1.2.2] 23))) (PtSl.two w2 x.1.1 x.1.2) (by simp only [List.length_cons, List.length_nil]; omega) (by have := (hb2a).size; omega) ?_
      intro v' w3 own3 grow3 at3
      have hb3 : Below W1.heap.size W1 w3 := (hb2a).grown grow3 (by have := (hb2a).size; omega) (fun k hk => ((own2.below ((Below.refl _ _).alloc (Nat.le_refl _) (.cells #[.int .i64 x.1.1.1, .int .i64 x.1.1.2, .int .i64 x.1.2.1, .int .i64 x.1.2.2] 23)))).lt k hk)
      refine hK.out _ _ (hS _ hb3) (fun _ => ?_)
      clear hK K at3 grow3
      try simp only [Act.put, List.setIfInBounds_toArray, List.set_cons_zero, List.set_cons_succ]
      refine wpAnyH_ready (rs := [10]) (by kernel_rfl) (by simp) ?_
      refine AllReadyH.cons rfl (fun K hK => ?_) AllReadyH.nil
      go_simp
      refine hK.out _ _ (hS _ hb3) (fun _ => ?_)
      clear hK K
      try simp only [Act.put, List.setIfInBounds_toArray, List.set_cons_zero, List.set_cons_succ]
      refine wpAnyH_done (by kernel_rfl) ?_ _
    case' c2 =>
      go_simp
      have hb1a := hr.drew.alloc hr.drew.size (.cells #[.int .i64 x.1.1.1, .int .i64 x.1.1.2, .int .i64 x.1.2.1, .int .i64 x.1.2.2] 23)
      have sl1 := PtSl.two W1.drew x.1.1 x.1.2
      refine hK.out _ _ (hS _ hb1a) (fun _ => ?_)
      clear hK K
      try simp only [Act.put, List.setIfInBounds_toArray, List.set_cons_zero, List.set_cons_succ]
      refine wpAnyH_ready (rs := [3]) (by kernel_rfl) (by simp) ?_
      refine AllReadyH.cons rfl (fun K hK => ?_) AllReadyH.nil
      rw [if_pos (by rfl)]
      go_simp
      go_at_call 87
      refine (HCN.out _ hb1a).mono ?_
      rintro e w2 ⟨u, rfl, ou, hb2'⟩
      have hb2 : Below W1.heap.size W1 w2 := hb1a.trans (hb2'.mono (hb1a).size)
      refine hK.out _ _ (hS _ hb2) (fun _ => ?_)
      clear hK K
      try simp only [Act.put, List.setIfInBounds_toArray, List.set_cons_zero, List.set_cons_succ]
      have own2 : OwnPt w2 W1.heap.size u (rb.filter (partedB x.1)) := ou.mono (by simp)
      refine wpAnyH_ready (rs := [9]) (by kernel_rfl) (by simp) ?_
      refine AllReadyH.cons rfl (fun K hK => ?_) AllReadyH.nil
      refine step_append_pt _ rfl _ _ rfl W1.heap.size u _ (rb.filter (partedB x.1)) [x.1.1, x.1.2] rfl rfl own2 (sl1.below hb2') (by simp only [List.length_cons, List.length_nil]; omega) (by have := (hb2).size; omega) ?_
      intro v' w3 own3 grow3 at3
      have hb3 : Below W1.heap.size W1 w3 := (hb2).grown grow3 (by have := (hb2).size; omega) (fun k hk => (own2).lt k hk)
      refine hK.out _ _ (hS _ hb3) (fun _ => ?_)
      clear hK K at3 grow3
      try simp only [Act.put, List.setIfInBounds_toArray, List.set_cons_zero, List.set_cons_succ]
      refine wpAnyH_ready (rs := [10]) (by kernel_rfl) (by simp) ?_
      refine AllReadyH.cons rfl (fun K hK => ?_) AllReadyH.nil
      go_simp
      refine hK.out _ _ (hS _ hb3) (fun _ => ?_)
      clear hK K
      try simp only [Act.put, List.setIfInBounds_toArray, List.set_cons_zero, List.set_cons_succ]
      refine wpAnyH_done (by kernel_rfl) ?_ _
    all_goals
      clear HCN hS0 cB
      have hz3 := hb3.size
      obtain ⟨M, hM⟩ : ∃ M, rb.filter (partedB x.1) ++ [x.1.1, x.1.2] = M := ⟨_, rfl⟩
      have hML : M.length = (endsS rb x.1).length := by rw [← hM, HEL.out, List.length_append]; rfl
      rw [hM] at own3 HEND
      have hM2 : 2 ≤ M.length := by rw [hML, HEL.out]; omega
      have hM3 : M.length ≤ 1000000 := by rw [hML, HEL.out]; omega
      have HML := Lib.hid hML
      clear hML
      have HMM := Lib.hid hM
      clear hM
      obtain ⟨g, cp, rfl, hg, hcp⟩ := own3.some (by omega)
      have bX3 := bX.below hb3 hbx
      obtain ⟨f0, f1, -, -⟩ := bX3.facts
      have HSO := Lib.hid (sortD_any x.1.1 Bx w3 W1.heap.size _ _ own3 (by omega) (by omega) hz3 hbx f0 f1)
      clear f0 f1 own3
      gi_wp2
      refine ⟨trivial, (CallsIn.inRound l2 (callsIn_wide.2 HSO.out)).mono ?_⟩
      rintro e w4 ⟨rfl, ⟨M', ⟨hp, hs⟩, hsl⟩, hb4'⟩
      have hb4 := hb3.trans hb4'
      have hz4 := hb4.size
      rw [HEND.out M' hp hs] at hsl
      have hE2 : 2 ≤ (endsS rb x.1).length := by rw [← HML.out]; exact hM2
      have hE3 : (endsS rb x.1).length ≤ 1000000 := by rw [← HML.out]; exact hM3
      rw [HML.out] at hsl ⊢
      obtain ⟨E, hE⟩ : ∃ E, endsS rb x.1 = E := ⟨_, rfl⟩
      have hMS : oMidsS rb x.1 = oMidsK E (E.length - 1) := by rw [← hE]; rfl
      rw [hMS] at HSN
      rw [hE] at hsl hE2 hE3 HEO ⊢
      clear hMS hE HEL HEND hp hs HML HMM hM2 hM3
      obtain ⟨b', off', cap', he, hE0, hgw, hcap, hcE⟩ := hsl.some (by omega)
      simp only [Value.slice.injEq, Option.some.injEq, Addr.mk.injEq, and_true, true_and] at he
      obtain ⟨⟨rfl, rfl⟩, rfl⟩ := he
      have HCE := Lib.hid hcE
      clear hcE hsl
      have hj4 := hJ _ _ _ hj (hb4.mono (by omega))
      obtain ⟨N, hN⟩ : ∃ N, E.length = N + 1 := ⟨E.length - 1, by omega⟩
      have hN1 : 1 ≤ N := by omega
      have hN8 : N ≤ 1000000 := by omega
      have hcN : N + 1 ≤ cp ∧ cp ≤ maxLen := by rw [← hN]; exact hcap
      rw [show E.length - 1 = N by omega] at HSN
      rw [hN] at ⊢
      have HN := Lib.hid hN
      clear hN hE2 hE3 hE0 hcap hcp
      have g1 : (1 : Int) ≤ ((N + 1 : Nat) : Int) := by omega
      gi_wp2
      gi_loopw [27] (fun c wr => ∃ k : Nat, k ≤ N ∧ c = .int .i64 (k : Int) ∧ J (oMidsU rb pre ++ oMidsK E k) wr ∧ KB R l n₀ w4 wr) (fun c _ => N - (intOf c).toNat)
      case atStart => exact ⟨0, by omega, rfl, (List.append_nil (oMidsU rb pre)).symm ▸ hj4, KB.refl _ _ _ _⟩
      case round =>
        obtain ⟨k, hkN, rfl, hjk, hkb⟩ := hrel
        have hzr := hkb.below.size
        by_cases hlt2 : k < N
        · have hk1 : k < E.length := by rw [HN.out]; omega
          have hk2 : k + 1 < E.length := by rw [HN.out]; omega
          have eg : wr.heap[g]? = w4.heap[g]? := hkb.block g (by omega) (by omega) hgw
          have bY5 : Boxed wr W.heap.size 89 (.func (.yield l) #[] #[]) := (hkb.block W.heap.size (by omega) (by omega) (by omega)).trans ((hb4.block W.heap.size (by omega)).trans bY1)
          have c1 := HCE.out k hk1
          have c2 := HCE.out (k + 1) hk2
          rw [Nat.zero_add] at c1
          rw [show 0 + (k + 1) * 2 = 2 + k * 2 by omega] at c2
          have op := HEO.out _ (List.getElem_mem hk1)
          have oq := HEO.out _ (List.getElem_mem hk2)
          have hy0 : (oPl (midK E k)).1 = midP E[k] E[k + 1] := by
            rw [oPl_val (midK_on HEO.out hk2)]
            unfold midK
            rw [List.getD_eq_getElem?_getD, List.getD_eq_getElem?_getD, List.getElem?_eq_getElem hk1, List.getElem?_eq_getElem hk2]
            rfl
          have HSU := Lib.hid (oMidsK_succ E k)
          obtain ⟨y, hy⟩ : ∃ y, oPl (midK E k) = y := ⟨_, rfl⟩
          rw [hy] at hy0 HSU
          obtain ⟨⟨px, py⟩, ep⟩ : ∃ p, E[k] = p := ⟨_, rfl⟩
          obtain ⟨⟨qx, qy⟩, eq⟩ : ∃ p, E[k + 1] = p := ⟨_, rfl⟩
          rw [ep] at c1 op hy0
          rw [eq] at c2 oq hy0
          dsimp only at op oq
          clear hy ep eq
          obtain ⟨c1a, c1b⟩ : wr.cell? ⟨g, k * 2, none⟩ = some (.int .i64 px) ∧ wr.cell? ⟨g, k * 2 + 1, none⟩ = some (.int .i64 py) := by unfold Cells2 World.cell? at c1; unfold World.cell?; rw [eg]; exact c1
          obtain ⟨c2a, c2b⟩ : wr.cell? ⟨g, 2 + k * 2, none⟩ = some (.int .i64 qx) ∧ wr.cell? ⟨g, 2 + k * 2 + 1, none⟩ = some (.int .i64 qy) := by unfold Cells2 World.cell? at c2; unfold World.cell?; rw [eg]; exact c2
          clear c1 c2 eg
          have hgr : g < wr.heap.size := by omega
          gi_wp2
          have tE := (Two.new wr 23 (.int .i64 qx) (.int .i64 qy)).facts
          have hbE : Below wr.heap.size wr (wr.alloc (.cells #[.int .i64 qx, .int .i64 qy] 23)) := (Below.refl wr.heap.size wr).alloc (Nat.le_refl _) _
          have yE := (bY5.alloc (.cells #[.int .i64 qx, .int .i64 qy] 23)).cell
          have d1 := (hbE.cell (p := ⟨g, k * 2, none⟩) hgr).trans c1a
          have d2 := (hbE.cell (p := ⟨g, k * 2 + 1, none⟩) hgr).trans c1b
          have hsE : (wr.alloc (.cells #[.int .i64 qx, .int .i64 qy] 23)).heap.size = wr.heap.size + 1 := by simp
          have hS2 : ∀ w' : World, Below (wr.heap.size + 1) (wr.alloc (.cells #[.int .i64 qx, .int .i64 qy] 23)) w' → (w'.cell? ⟨W.heap.size, 0, none⟩ = some (.func (.yield l) #[] #[]) ∧ (w'.cell? ⟨g, k * 2, none⟩ = some (.int .i64 px) ∧ w'.cell? ⟨g, k * 2 + 1, none⟩ = some (.int .i64 py)) ∧ w'.cell? ⟨wr.heap.size, 0, none⟩ = some (.int .i64 qx) ∧ w'.cell? ⟨wr.heap.size, 1, none⟩ = some (.int .i64 qy)) := fun w' hb => ⟨(hb.cell (p := ⟨W.heap.size, 0, none⟩) (show W.heap.size < wr.heap.size + 1 by omega)).trans yE, ⟨(hb.cell (p := ⟨g, k * 2, none⟩) (show g < wr.heap.size + 1 by omega)).trans d1, (hb.cell (p := ⟨g, k * 2 + 1, none⟩) (show g < wr.heap.size + 1 by omega)).trans d2⟩, (hb.cell (p := ⟨wr.heap.size, 0, none⟩) (show wr.heap.size < wr.heap.size + 1 by omega)).trans tE.1, (hb.cell (p := ⟨wr.heap.size, 1, none⟩) (show wr.heap.size < wr.heap.size + 1 by omega)).trans tE.2.1⟩
          clear tE yE d1 d2 c1a c1b c2a c2b bY5
          have hrE := (Below.refl (wr.heap.size + 1) (wr.alloc (.cells #[.int .i64 qx, .int .i64 qy] 23))).drew
          have hSE := hS2 _ hrE
          refine Rl.start_in 7 (fun w' => (w'.cell? ⟨W.heap.size, 0, none⟩ = some (.func (.yield l) #[] #[]) ∧ (w'.cell? ⟨g, k * 2, none⟩ = some (.int .i64 px) ∧ w'.cell? ⟨g, k * 2 + 1, none⟩ = some (.int .i64 py)) ∧ w'.cell? ⟨wr.heap.size, 0, none⟩ = some (.int .i64 qx) ∧ w'.cell? ⟨wr.heap.size, 1, none⟩ = some (.int .i64 qy))) (by kernel_rfl) ?_
          refine Rl.take_in (i := 0) (v := .func (.yield l) #[] #[]) 0 [] (by kernel_rfl) rfl (by decide) (by kernel_rfl) (by kernel_rfl) (by kernel_rfl) (by kernel_rfl) (by kernel_rfl) (by kernel_rfl) (by kernel_rfl) (fun _ _ _ h => h) ⟨Or.inl ⟨by rfl, ?_⟩, fun _ => rfl⟩ hSE ?_
          · intro w' hSw
            obtain ⟨s0, ⟨s1, s2⟩, s3, s4⟩ := hSw
            go_simp
          simp only [Act.put, List.setIfInBounds_toArray, List.set_cons_zero, List.set_cons_succ]
          refine Rl.take_in (i := 1) (v := .slice (some ⟨g, 0, none⟩) (N + 1) cp) 6 [4, 3, 1] (by kernel_rfl) rfl (by decide) (by kernel_rfl) (by kernel_rfl) (by kernel_rfl) (by kernel_rfl) (by kernel_rfl) (by kernel_rfl) (by kernel_rfl) (fun _ _ _ h => h) ⟨Or.inl ⟨by rfl, ?_⟩, fun _ => rfl⟩ hSE ?_
          · intro w' hSw
            obtain ⟨s0, ⟨s1, s2⟩, s3, s4⟩ := hSw
            go_simp
          simp only [Act.put, List.setIfInBounds_toArray, List.set_cons_zero, List.set_cons_succ]
          refine Rl.take_in (i := 2) (v := .int .i64 k) 6 [4, 3, 2] (by kernel_rfl) rfl (by decide) (by kernel_rfl) (by kernel_rfl) (by kernel_rfl) (by kernel_rfl) (by kernel_rfl) (by kernel_rfl) (by kernel_rfl) (fun _ _ _ h => h) ⟨Or.inl ⟨by rfl, ?_⟩, fun _ => rfl⟩ hSE ?_
          · intro w' hSw
            obtain ⟨s0, ⟨s1, s2⟩, s3, s4⟩ := hSw
            go_simp
          simp only [Act.put, List.setIfInBounds_toArray, List.set_cons_zero, List.set_cons_succ]
          refine Rl.take_in (i := 3) (v := .pointer (some ⟨g, k * 2, none⟩)) 6 [4, 3] (by kernel_rfl) rfl (by decide) (by kernel_rfl) (by kernel_rfl) (by kernel_rfl) (by kernel_rfl) (by kernel_rfl) (by kernel_rfl) (by kernel_rfl) (fun _ _ _ h => h) ⟨Or.inl ⟨by rfl, ?_⟩, fun _ => rfl⟩ hSE ?_
          · intro w' hSw
            obtain ⟨s0, ⟨s1, s2⟩, s3, s4⟩ := hSw
            go_simp
            exact fun h => absurd h (by omega)
          simp only [Act.put, List.setIfInBounds_toArray, List.set_cons_zero, List.set_cons_succ]
          refine Rl.take_in (i := 4) (v := .agg #[.int .i64 px, .int .i64 py]) 6 [4] (by kernel_rfl) rfl (by decide) (by kernel_rfl) (by kernel_rfl) (by kernel_rfl) (by kernel_rfl) (by kernel_rfl) (by kernel_rfl) (by kernel_rfl) (fun _ _ _ h => h) ⟨Or.inl ⟨by rfl, ?_⟩, fun _ => rfl⟩ hSE ?_
          · intro w' hSw
            obtain ⟨s0, ⟨s1, s2⟩, s3, s4⟩ := hSw
            go_simp
          simp only [Act.put, List.setIfInBounds_toArray, List.set_cons_zero, List.set_cons_succ]
          refine Rl.take_in (i := 5) (v := .agg #[.int .i64 qx, .int .i64 qy]) 6 [5] (by kernel_rfl) rfl (by decide) (by kernel_rfl) (by kernel_rfl) (by kernel_rfl) (by kernel_rfl) (by kernel_rfl) (by kernel_rfl) (by kernel_rfl) (fun _ _ _ h => h) ⟨Or.inl ⟨by rfl, ?_⟩, fun _ => rfl⟩ hSE ?_
          · intro w' hSw
            obtain ⟨s0, ⟨s1, s2⟩, s3, s4⟩ := hSw
            go_simp
          simp only [Act.put, List.setIfInBounds_toArray, List.set_cons_zero, List.set_cons_succ]
          refine Rl.one_in (i := 6) rfl (by kernel_rfl) (fun K hK => ?_)
          rw [if_pos (by rfl)]
          unfold Oper.wpIn
          refine ⟨fun _ _ => trivial, ?_⟩
          go_simp
          refine (CallsIn.inRound l2 (callsIn_wide.2 (middle_any px py qx qy op oq _))).mono ?_
          rintro e w5 ⟨rfl, hb5'⟩
          have hb5 : Below (wr.heap.size + 1) (wr.alloc (.cells #[.int .i64 qx, .int .i64 qy] 23)) w5 := hrE.trans (hb5'.mono (Nat.le_of_eq hsE.symm))
          refine hK.out _ _ (fun _ => hS2 _ hb5) ?_
          clear hK K
          try simp only [Act.put, List.setIfInBounds_toArray, List.set_cons_zero, List.set_cons_succ]
          have hbw : Below wr.heap.size wr w5 := hbE.trans (hb5.mono (Nat.le_succ _))
          have hj5 := hJ _ _ _ hjk (hbw.mono (by omega))
          obtain ⟨fn, tmps, assign, body, hy, hR⟩ := HY.out _ y w5 hj5
          dsimp only [encQ] at hy
          rw [hy0] at hy
          dsimp only [midP] at hy
          have hR2 : RoundIn (Fence.wide.inRound l2) 6 Try.prog l fn tmps assign body w5 _ := ⟨hR.1, fun c cs _ => hR.2 c cs (room_wide _)⟩
          clear hR
          refine Rl.one_in (i := 7) rfl (by kernel_rfl) (fun K hK => ?_)
          rw [if_pos (by rfl)]
          unfold Oper.wpIn
          refine ⟨fun _ _ => trivial, ?_⟩
          go_simp
          have hkc : KB R l n₀ W1 w5 := (KB.of_below hb4 (by omega) (Nat.le_refl _)).trans (hkb.trans (KB.of_below hbw (by omega) (Nat.le_refl _)))
          refine hR2.mono ?_
          rintro e W3 (⟨rfl, hJ3, hk3⟩ | ⟨rfl, hJx3, hk3⟩)
          · skip
            refine hK.out _ _ (fun h => Bool.noConfusion (show true = false from h)) ?_
            clear hK K
            try simp only [Act.put, List.setIfInBounds_toArray, List.set_cons_zero, List.set_cons_succ]
            refine Rl.one_in (i := 8) rfl (by kernel_rfl) (fun K hK => ?_)
            rw [if_pos (by rfl)]
            unfold Oper.wpIn
            refine ⟨fun _ _ => trivial, ?_⟩
            go_simp
            refine hK.out _ _ (fun h => Bool.noConfusion (show true = false from h)) ?_
            clear hK K
            try simp only [Act.put, List.setIfInBounds_toArray, List.set_cons_zero, List.set_cons_succ]
            refine Rl.done_in (by kernel_rfl) ?_ _
            gi_wp2
            go_roundw
            case rel => exact ⟨k + 1, by omega, by go_num, by rw [HSU.out, ← List.append_assoc]; exact hJ3, hkb.trans ((KB.of_below hbw (by omega) (Nat.le_refl _)).trans hk3)⟩
            case measure => simp [intOf]; omega
          · skip
            refine hK.out _ _ (fun h => Bool.noConfusion (show true = false from h)) ?_
            clear hK K
            try simp only [Act.put, List.setIfInBounds_toArray, List.set_cons_zero, List.set_cons_succ]
            refine Rl.one_in (i := 8) rfl (by kernel_rfl) (fun K hK => ?_)
            rw [if_pos (by rfl)]
            unfold Oper.wpIn
            refine ⟨fun _ _ => trivial, ?_⟩
            go_simp
            refine hK.out _ _ (fun h => Bool.noConfusion (show true = false from h)) ?_
            clear hK K
            try simp only [Act.put, List.setIfInBounds_toArray, List.set_cons_zero, List.set_cons_succ]
            refine Rl.done_in (by kernel_rfl) ?_ _
            gi_wp2
            have hkd := hkc.trans hk3
            refine ⟨hkd.from (by omega) (by omega), ⟨rfl, _, fun z hz => ?_, hJx3⟩, by have := hkd.below.size; omega⟩
            rw [List.append_assoc, ← HSU.out] at hz
            rw [HSN.out]
            exact (List.mem_append.1 hz).elim (fun h => List.mem_append.2 (.inl h)) (fun h => List.mem_append.2 (.inr (oMidsK_sub (by omega) h)))
        · obtain rfl : k = N := by omega
          gi_wp2
          have hkd : KB R l n₀ W1 wr := (KB.of_below hb4 (by omega) (Nat.le_refl _)).trans hkb
          exact ⟨hkd.from (by omega) (by omega), ⟨hkd.below, hkd.block (W.heap.size + 1) (by omega) (by omega) (by omega)⟩, by rw [HSN.out]; exact hjk, hk.trans hkd⟩
  case done =>
    rintro D ys W2 hD rfl ⟨hj, hk⟩ hKD
    have hz := hk.below.size
    gi_wp2
    refine ⟨by simp, .inl ⟨_, _, rfl, run_takeDeferred hKD, ?_⟩⟩
    exact ⟨_, results_none rfl _ _ _, ⟨_, rfl⟩, .inl ⟨_, rfl, hJ _ _ _ hj (Rb.put_below _ _ _ (by omega))⟩⟩
  case stop =>
    rintro D c pre W2 hD ⟨k, hk, rfl⟩ ⟨⟨rfl, ys, hys, hj⟩, hz⟩ hKD
    gi_wp2
    refine ⟨by simp, .inl ⟨_, _, rfl, run_takeDeferred hKD, ?_⟩⟩
    refine ⟨_, results_none rfl _ _ _, ⟨_, rfl⟩, .inr ⟨ys, fun y hy => ?_, hJx _ _ _ hj (Rb.put_below _ _ _ (by omega))⟩⟩
    obtain ⟨x, hx, hy⟩ := List.mem_flatMap.1 (hys y hy)
    refine List.mem_flatMap.2 ⟨x, ?_, hy⟩
    obtain ⟨i, hi, rfl⟩ := List.mem_map.1 hx
    have hi := List.mem_range.1 hi
    exact List.mem_map.2 ⟨i, List.mem_range.2 (by omega), rfl⟩
end Go.Proofs.Ytohkmkkcblbemaa.Ge
