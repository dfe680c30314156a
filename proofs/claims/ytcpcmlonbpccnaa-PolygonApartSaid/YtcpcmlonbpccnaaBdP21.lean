/- Walks over package polygon: the middles of the parts of a ring's sides, which are ranged over. -/
import Derived.Test.YtcpcmlonbpccnaaPolW12
import Derived.Test.YtcpcmlonbpccnaaRangeB
import Derived.Test.YtcpcmlonbpccnaaRegInv
import Derived.Deep.DeepCutAuto
import Derived.Test.YtcpcmlonbpccnaaBdP6
namespace Go.Proofs.Ytcpcmlonbpccnaa.Ge
set_option linter.unusedVariables false
set_option linter.unusedSimpArgs false
open Go.RowKit Go.Shelf
open Go.Proofs.Ytcpcmlonbpccnaa.Fr (Two)
open Go.Proofs.Ytcpcmlonbpccnaa.Rb (KB Shuts SeqB endB)
attribute [local go_sem] Oper.semAt_some

theorem middles_any (a a' : Option Addr) (k c k' c' : Nat) (w : World) :
    Calls Try.prog 120 #[.slice a k c, .slice a' k' c'] w fun e w' => e = .returned (.func (.func 131) #[] #[.pointer (some ⟨w.heap.size, 0, none⟩), .pointer (some ⟨w.heap.size + 1, 0, none⟩)]) ∧ w' = (w.alloc (.cells #[.slice a k c] 22)).alloc (.cells #[.slice a' k' c'] 22) := by
  go_enter Try.func120, Try.ntmps120
  go_wp2_with fail
  go_ret
  exact ⟨rfl, rfl⟩

/-- the places within the grid -/
abbrev OPl := { p : Int × Int // onQ p.1 p.2 }
abbrev encQ (x : OPl) : Array Value := #[.agg #[.int .i64 x.1.1, .int .i64 x.1.2]]
instance (x y : Int) : Decidable (onQ x y) := inferInstanceAs (Decidable (_ ∧ _))
def oPl (p : Int × Int) : OPl := if h : onQ p.1 p.2 then ⟨p, h⟩ else ⟨(0, 0), by decide⟩
theorem oPl_val {p : Int × Int} (h : onQ p.1 p.2) : (oPl p).1 = p := by unfold oPl; rw [dif_pos h]
/-- the middles between the points of a list -/
def midK (e : List (Int × Int)) (k : Nat) : Int × Int := midP (e.getD k (0, 0)) (e.getD (k + 1) (0, 0))
def oMidsK (e : List (Int × Int)) (k : Nat) : List OPl := (List.range k).map fun j => oPl (midK e j)
def oMidsS (b : List (Int × Int)) (s : Sd) : List OPl := oMidsK (endsS b s) ((endsS b s).length - 1)
def oMidsU (b : List (Int × Int)) (pre : List OSd) : List OPl := pre.flatMap fun x => oMidsS b x.1
theorem oMidsK_succ (e : List (Int × Int)) (k : Nat) : oMidsK e (k + 1) = oMidsK e k ++ [oPl (midK e k)] := by unfold oMidsK; rw [List.range_succ, List.map_append]; rfl
theorem oMidsK_sub {e : List (Int × Int)} {k n : Nat} (h : k ≤ n) {z : OPl} (hz : z ∈ oMidsK e k) : z ∈ oMidsK e n := by
  obtain ⟨j, hj, rfl⟩ := List.mem_map.1 hz
  have hj := List.mem_range.1 hj
  exact List.mem_map.2 ⟨j, List.mem_range.2 (by omega), rfl⟩
theorem oMidsU_snoc (b : List (Int × Int)) (pre : List OSd) (x : OSd) : oMidsU b (pre ++ [x]) = oMidsU b pre ++ oMidsS b x.1 := by simp [oMidsU]
theorem mids_range (e : List (Int × Int)) : ((e.zip e.tail).map fun x => midP x.1 x.2) = (List.range (e.length - 1)).map (midK e) := by
  apply List.ext_getElem
  · simp
  · intro i h1 h2
    simp only [List.length_map, List.length_zip, List.length_tail, List.length_range] at h1 h2
    have hi : i < e.length := by omega
    have hi2 : i + 1 < e.length := by omega
    simp only [List.getElem_map, List.getElem_zip, List.getElem_tail, List.getElem_range]
    unfold midK
    rw [List.getD_eq_getElem?_getD, List.getD_eq_getElem?_getD, List.getElem?_eq_getElem hi, List.getElem?_eq_getElem hi2]
    rfl
theorem midQ {p q : Int × Int} (hp : onP p.1 p.2) (hq : onP q.1 q.2) : onQ (midP p q).1 (midP p q).2 := by
  obtain ⟨⟨h1, h2⟩, h3, h4⟩ := hp
  obtain ⟨⟨k1, k2⟩, k3, k4⟩ := hq
  unfold onQ midP
  dsimp only
  omega
theorem midK_on {e : List (Int × Int)} (he : ∀ p ∈ e, onP p.1 p.2) {k : Nat} (hk : k + 1 < e.length) : onQ (midK e k).1 (midK e k).2 := by
  unfold midK
  rw [List.getD_eq_getElem?_getD, List.getD_eq_getElem?_getD, List.getElem?_eq_getElem (show k < e.length by omega), List.getElem?_eq_getElem hk]
  exact midQ (he _ (List.getElem_mem _)) (he _ (List.getElem_mem _))
theorem oMidsS_val {b : List (Int × Int)} (hb : onL b) {s : Sd} (hs : onS s) : (oMidsS b s).map (·.1) = midsS b s := by
  unfold oMidsS oMidsK midsS
  rw [mids_range, List.map_map]
  refine List.map_congr_left fun k hk => ?_
  have hk := List.mem_range.1 hk
  exact oPl_val (midK_on (ends_on hb hs) (by omega))
theorem oMidsU_val {b : List (Int × Int)} (hb : onL b) : ∀ pre : List OSd, (oMidsU b pre).map (·.1) = (pre.map (·.1)).flatMap (midsS b)
  | [] => rfl
  | x :: pre => by
    have h := oMidsU_val hb pre
    have e : oMidsU b (x :: pre) = oMidsS b x.1 ++ oMidsU b pre := rfl
    rw [e, List.map_append, h, oMidsS_val hb x.2]
    rfl
theorem PtSl.two (w : World) (p q : Pt) : PtSl (w.alloc (.cells #[.int .i64 p.1, .int .i64 p.2, .int .i64 q.1, .int .i64 q.2] 24)) (.slice (some ⟨w.heap.size, 0, none⟩) 2 2) [p, q] := by
  refine .inr ⟨w.heap.size, 0, 2, rfl, by simp, by simp, ⟨by simp, by unfold maxLen; omega⟩, fun i hi => ?_⟩
  have h := (pts2 (w := w) rfl 24 p.1 p.2 q.1 q.2).2 i hi
  unfold Cells2
  rw [Nat.zero_add]
  simp only [List.length_cons, List.length_nil] at hi
  obtain rfl | rfl : i = 0 ∨ i = 1 := by omega
  · exact h
  · exact h
theorem grown_to_below {X Y : World} {row : Option Nat} {N : Nat} (hg : X.grownBy Y row) (hN : N ≤ X.heap.size) (hr : ∀ r, row = some r → N ≤ r) : Below N X Y :=
  ⟨hg.os, hg.tape, hg.output, hg.size, fun k hk => hg.block k (by omega) (fun e => by have := hr k e.symm; omega)⟩

theorem OwnPt.mono {w : World} {B B' : Nat} {v : Value} {l : List Pt} (h : OwnPt w B' v l) (hB : B ≤ B') : OwnPt w B v l := by
  obtain ⟨hl, h⟩ := h
  refine ⟨hl, h.imp id ?_⟩
  rintro ⟨g, cap, cur, h1, h2, h3⟩
  exact ⟨g, cap, cur, h1, Nat.le_trans hB h2, h3⟩
theorem OwnPt.some {w : World} {B : Nat} {v : Value} {l : List Pt} (h : OwnPt w B v l) (h1 : 1 ≤ l.length) : ∃ g cap, v = .slice (some ⟨g, 0, none⟩) l.length cap ∧ B ≤ g ∧ l.length ≤ cap := by
  rcases h.2 with ⟨_, h0⟩ | ⟨g, cap, cur, hv, hb, _, hc, _⟩
  · omega
  · exact ⟨g, cap, hv, hb, hc⟩
theorem PtSl.some {w : World} {v : Value} {l : List Pt} (h : PtSl w v l) (h1 : 1 ≤ l.length) : ∃ b off cap, v = .slice (some ⟨b, off, none⟩) l.length cap ∧ 0 < l.length ∧ b < w.heap.size ∧ (l.length ≤ cap ∧ cap ≤ maxLen) ∧ ∀ i (h : i < l.length), Cells2 w b (off + i * 2) l[i] := by
  rcases h with ⟨rfl, _⟩ | h
  · simp at h1
  · exact h

set_option maxRecDepth 100000 in
set_option maxHeartbeats 8000000 in
theorem mids_seq (Ba Bb n₀ R ba oa ca bb ob cb : Nat) (ra rb : List Pt) (ha : onL ra) (hb : onL rb) (hla : 1 ≤ ra.length ∧ ra.length ≤ 1000) (hlb : 1 ≤ rb.length ∧ rb.length ≤ 1000) (w : World) (hBa : Ba < w.heap.size) (hBb : Bb < w.heap.size) (hRa : Ba ≠ R) (hRb : Bb ≠ R) (hR : R < w.heap.size)
    (hba : ba < n₀) (hbb : bb < n₀) (hn : n₀ ≤ w.heap.size) (hca : w.cell? ⟨Ba, 0, none⟩ = some (.slice (some ⟨ba, oa, none⟩) ra.length ca)) (hcb : w.cell? ⟨Bb, 0, none⟩ = some (.slice (some ⟨bb, ob, none⟩) rb.length cb))
    (hsa : ∀ i (h : i < ra.length), Cells2 w ba (oa + i * 2) ra[i]) (hsb : ∀ i (h : i < rb.length), Cells2 w bb (ob + i * 2) rb[i]) :
    SeqB 9 Try.prog 131 #[.pointer (some ⟨Ba, 0, none⟩), .pointer (some ⟨Bb, 0, none⟩)] encQ R n₀ (fun xs => xs = oMidsU rb (oSides ra)) (fun pre => ∀ x ∈ pre, x ∈ oMidsU rb (oSides ra)) w := by
  intro l J Jx W hW hl1 hl2 hJ hJx hY h0
  have hca' := (hW.cell (p := ⟨Ba, 0, none⟩) hBa).trans hca
  have hcb' := (hW.cell (p := ⟨Bb, 0, none⟩) hBb).trans hcb
  have hsW := hW.size
  have HSA := Lib.hid (fun i (h : i < ra.length) => (hsa i h).below hW (show ba < w.heap.size by omega))
  have HSB := Lib.hid (fun (W' : World) (hk : Below n₀ W W') i (h : i < rb.length) => ((hsb i h).below hW (show bb < w.heap.size by omega)).below hk hbb)
  have HY := Lib.hid hY
  clear hca hcb hsa hsb hY
  have hca2 := (((Below.refl W.heap.size W).alloc (Nat.le_refl _) (.cells #[.func (.yield l) #[] #[]] 136)).cell (p := ⟨Ba, 0, none⟩) (show Ba < W.heap.size by omega)).trans hca'
  refine callsIn_of_wp_marks Try.func131 rfl trivial ?_ rfl
  simp only [Try.ntmps131, List.size_toArray, List.length_cons, List.length_nil, Nat.reduceAdd, Nat.reduceSub, Array.replicate_succ, Array.replicate_zero, List.push_toArray, List.append_toArray, List.nil_append, List.cons_append]
  gi_wp2_with (refine ⟨trivial, ?_⟩; gi_at_call 113; refine (callsIn_wide.2 (sides_any _ _ _ _)).mono ?_; rintro e w' ⟨rfl, rfl⟩)
  have hBA := ((Below.refl W.heap.size W).alloc (Nat.le_refl _) (.cells #[.func (.yield l) #[] #[]] 136)).alloc (by simp) (.cells #[.slice (some ⟨ba, oa, none⟩) ra.length ca] 22)
  have bY := (Boxed.new W 136 (.func (.yield l) #[] #[])).alloc (.cells #[.slice (some ⟨ba, oa, none⟩) ra.length ca] 22)
  have bA := Boxed.new (W.alloc (.cells #[.func (.yield l) #[] #[]] 136)) 22 (.slice (some ⟨ba, oa, none⟩) ra.length ca)
  have hsz : ((W.alloc (.cells #[.func (.yield l) #[] #[]] 136)).alloc (.cells #[.slice (some ⟨ba, oa, none⟩) ra.length ca] 22)).heap.size = W.heap.size + 2 := by simp
  simp only [World.size_alloc] at bA
  obtain ⟨V, hV⟩ : ∃ V, (W.alloc (.cells #[.func (.yield l) #[] #[]] 136)).alloc (.cells #[.slice (some ⟨ba, oa, none⟩) ra.length ca] 22) = V := ⟨_, rfl⟩
  rw [hV] at hBA bY bA hsz ⊢
  clear hV hca2
  have hbV := (hBA.cell (p := ⟨Bb, 0, none⟩) (show Bb < W.heap.size by omega)).trans hcb'
  have upJ : ∀ s X Y (row : Option Nat), J s X → X.grownBy Y row → W.heap.size ≤ X.heap.size → (∀ r, row = some r → W.heap.size ≤ r) → J s Y := fun s X Y row h hg hx hr => hJ s X Y h (grown_to_below hg hx hr)
  have ownI : OwnFrom V.heap.size (fun (pre : List OSd) W' => J (oMidsU rb pre) W' ∧ KB R l n₀ V W') := fun s X Y row h hg hr => by
    have hz := h.2.below.size
    have hb := grown_to_below (N := V.heap.size) hg (by omega) (fun r e => (hr r e).1)
    exact ⟨hJ _ _ _ h.1 (hb.mono (by omega)), h.2.below.trans (hb.mono (by omega)), fun k h1 h2 h3 => (hb.block k (by omega)).trans (h.2.block k h1 h2 h3)⟩
  have ownX : ∀ c : Code, OwnFrom V.heap.size (fun (pre : List OSd) W' => (c = .ret ∧ ∃ ys, (∀ y ∈ ys, y ∈ oMidsU rb pre) ∧ Jx ys W') ∧ V.heap.size ≤ W'.heap.size) := fun c s X Y row h hg hr => by
    have hz := h.2
    have hb := grown_to_below (N := V.heap.size) hg (by omega) (fun r e => (hr r e).1)
    obtain ⟨⟨e, ys, h1, h2⟩, h3⟩ := h
    exact ⟨⟨e, ys, h1, hJx _ _ _ h2 (hb.mono (by omega))⟩, Nat.le_trans h3 hb.size⟩
  refine wpIn_rangeFunc_ownH rfl (by decide) (gf := 127) (lb := #[.pointer (some ⟨W.heap.size + 1, 0, none⟩)]) rfl trivial (enters_of Try.func127 (by kernel_rfl) rfl)
    (sides_stops 8 (by decide) (W.heap.size + 1) n₀ ba oa ca ra ha hla V (by omega) hba (by omega) bA.cell (fun i hi => (HSA.out i hi).below hBA (show ba < W.heap.size by omega))) (fun h k => h.trans k) (KpB.bk (by omega) (by omega)) (Below.refl _ _) (fun _ => rfl)
    (fun pre W' => J (oMidsU rb pre) W' ∧ KB R l n₀ V W')
    (fun c pre W' => (c = .ret ∧ ∃ ys, (∀ y ∈ ys, y ∈ oMidsU rb pre) ∧ Jx ys W') ∧ V.heap.size ≤ W'.heap.size)
    ownI ownX
    ⟨hJ _ _ _ h0 hBA, KB.refl _ _ _ _⟩
    (fun x a' W' => ∃ Bx, V.heap.size ≤ Bx ∧ SdAt W' Bx x.1 ∧ a' = { tmps := #[.func (.yield l) #[] #[], .pointer (some ⟨Ba, 0, none⟩), .pointer (some ⟨Bb, 0, none⟩), .pointer (some ⟨W.heap.size, 0, none⟩), .pointer (some ⟨Bx, 0, none⟩), undef, undef, undef, .slice (some ⟨ba, oa, none⟩) ra.length ca, .func (.func 127) #[] #[.pointer (some ⟨W.heap.size + 1, 0, none⟩)], .agg #[.int .i64 x.1.1.1, .int .i64 x.1.1.2, .int .i64 x.1.2.1, .int .i64 x.1.2.2], undef, undef, undef, undef, undef, undef, undef, undef, undef, undef, undef, undef, undef, undef, undef, undef, undef, undef, undef, undef, undef, undef, undef, undef, undef, undef, undef, undef, undef, undef, undef], defers := [] })
    (fun x a' _ X Y row hs hg hr => by obtain ⟨Bx, h1, h2, h3⟩ := hs; exact ⟨Bx, h1, sd_own Bx (fun (_ : Unit) => x.1) () X Y row h2 hg (fun r e => (hr r e).2), h3⟩)
    ?assign ?body ?done ?stop
  case assign =>
    rintro l2 pre x W1 K ⟨hj, hk⟩ hK
    gi_wp2
    have hz := hk.below.size
    have hbz := (Below.refl W1.heap.size W1).alloc (Nat.le_refl _) (.cells #[.int .i64 x.1.1.1, .int .i64 x.1.1.2, .int .i64 x.1.2.1, .int .i64 x.1.2.2] 131)
    exact hK _ _ ((KeepsOthers.alloc _ _).from _) ((KpB.refl _ _ _).alloc (by omega) (by omega) _) ⟨hJ _ _ _ hj (hbz.mono (by omega)), hk.trans (KB.of_below hbz (by omega) (Nat.le_refl _))⟩ ⟨W1.heap.size, by omega, SdAt.new W1 x.1, rfl⟩
  case body =>
    rintro l2 pre x a' W1 hl3 - ⟨hj, hk⟩ ⟨Bx, hBx, bX, rfl⟩ hlt
    have hz := hk.below.size
    have kbk : ∀ i, i < V.heap.size → i ≠ R → i ≠ l → W1.heap[i]? = V.heap[i]? := fun i h1 h2 h3 => hk.block i h2 h3 h1
    have cB : W1.cell? ⟨Bb, 0, none⟩ = some (.slice (some ⟨bb, ob, none⟩) rb.length cb) := by
      have e := kbk Bb (by omega) hRb (by omega)
      have h := hbV
      unfold World.cell? at h ⊢
      rw [e]
      exact h
    have bY1 : Boxed W1 W.heap.size 136 (.func (.yield l) #[] #[]) := (kbk W.heap.size (by omega) (by omega) (by omega)).trans bY
    have hbn : Below n₀ W W1 := (hBA.mono (by omega)).trans hk.below
    have hR1 : Ring W1 (.slice (some ⟨bb, ob, none⟩) rb.length cb) rb := ⟨bb, ob, cb, rfl, by omega, fun i hi => HSB.out W1 hbn i hi⟩
    have HCN := Lib.hid (fun (w' : World) (h : Below W1.heap.size W1 w') => corners_any _ rb hlb x.1.1.1 x.1.1.2 x.1.2.1 x.1.2.2 w' (hR1.below h))
    have HEND := Lib.hid (fun l hp hs => ends_settled (b := rb) (s := x.1) x.2 (l := l) hp hs)
    have HEL := Lib.hid (ends_len rb x.1)
    have HEO := Lib.hid (ends_on hb x.2)
    have HSN := Lib.hid (oMidsU_snoc rb pre x)
    have hfl := filter_len (f := partedB x.1) rb rb.length
    rw [List.take_length] at hfl
    have hbx := bX.lt
    have hS : ∀ w' : World, Below W1.heap.size W1 w' → (w'.cell? ⟨Bb, 0, none⟩ = some (.slice (some ⟨bb, ob, none⟩) rb.length cb) ∧ w'.cell? ⟨Bx, 0, none⟩ = some (.int .i64 x.1.1.1) ∧ w'.cell? ⟨Bx, 1, none⟩ = some (.int .i64 x.1.1.2) ∧ w'.cell? ⟨Bx, 2, none⟩ = some (.int .i64 x.1.2.1) ∧ w'.cell? ⟨Bx, 3, none⟩ = some (.int .i64 x.1.2.2)) := fun w' hb => ⟨(hb.cell (p := ⟨Bb, 0, none⟩) (show Bb < W1.heap.size by omega)).trans cB, (bX.below hb hbx).facts⟩
    have hr := Below.refl W1.heap.size W1
    have hS0 := hS _ hr.drew
    gi_wp2
    refine Rl.region_round l2 _ (by kernel_rfl) (by kernel_rfl) (by rintro ⟨_, _, h⟩; exact h) (fun w' => (w'.cell? ⟨Bb, 0, none⟩ = some (.slice (some ⟨bb, ob, none⟩) rb.length cb) ∧ w'.cell? ⟨Bx, 0, none⟩ = some (.int .i64 x.1.1.1) ∧ w'.cell? ⟨Bx, 1, none⟩ = some (.int .i64 x.1.1.2) ∧ w'.cell? ⟨Bx, 2, none⟩ = some (.int .i64 x.1.2.1) ∧ w'.cell? ⟨Bx, 3, none⟩ = some (.int .i64 x.1.2.2))) hS0 (fun _ => ?_)
    refine Ri.take_d (i := 0) (v := .slice (some ⟨bb, ob, none⟩) rb.length cb) (some 11) rfl rfl (by kernel_rfl) (by kernel_rfl) (by kernel_rfl) (fun _ _ _ h => h) (Or.inl ⟨by kernel_rfl, ?_⟩) hS0 ?_
    · intro w' hSw; obtain ⟨z0, z1, z2, z3, z4⟩ := hSw; go_simp
    simp only [Act.put, List.setIfInBounds_toArray, List.set_cons_zero, List.set_cons_succ]
    refine Ri.take_d (i := 1) (v := .agg #[.int .i64 x.1.1.1, .int .i64 x.1.1.2, .int .i64 x.1.2.1, .int .i64 x.1.2.2]) (some 12) rfl rfl (by kernel_rfl) (by kernel_rfl) (by kernel_rfl) (fun _ _ _ h => h) (Or.inl ⟨by kernel_rfl, ?_⟩) hS0 ?_
    · intro w' hSw; obtain ⟨z0, z1, z2, z3, z4⟩ := hSw; go_simp
    simp only [Act.put, List.setIfInBounds_toArray, List.set_cons_zero, List.set_cons_succ]
    refine Ri.take_d (i := 2) (v := .func (.func 133) #[.agg #[.int .i64 x.1.1.1, .int .i64 x.1.1.2, .int .i64 x.1.2.1, .int .i64 x.1.2.2]] #[]) (some 13) rfl rfl (by kernel_rfl) (by kernel_rfl) (by kernel_rfl) (fun _ _ _ h => h) (Or.inl ⟨by kernel_rfl, ?_⟩) hS0 ?_
    · intro w' hSw; obtain ⟨z0, z1, z2, z3, z4⟩ := hSw; go_simp
    simp only [Act.put, List.setIfInBounds_toArray, List.set_cons_zero, List.set_cons_succ]
    refine Ri.take_d (i := 4) (v := .pointer (some ⟨Bx, 0, none⟩)) (some 15) rfl rfl (by kernel_rfl) (by kernel_rfl) (by kernel_rfl) (fun _ _ _ h => h) (Or.inl ⟨by kernel_rfl, ?_⟩) hS0 ?_
    · intro w' hSw; obtain ⟨z0, z1, z2, z3, z4⟩ := hSw; go_simp
    simp only [Act.put, List.setIfInBounds_toArray, List.set_cons_zero, List.set_cons_succ]
    refine Ri.take_d (i := 5) (v := .agg #[.int .i64 x.1.1.1, .int .i64 x.1.1.2]) (some 16) rfl rfl (by kernel_rfl) (by kernel_rfl) (by kernel_rfl) (fun _ _ _ h => h) (Or.inl ⟨by kernel_rfl, ?_⟩) hS0 ?_
    · intro w' hSw; obtain ⟨z0, z1, z2, z3, z4⟩ := hSw; go_simp
    simp only [Act.put, List.setIfInBounds_toArray, List.set_cons_zero, List.set_cons_succ]
    refine Ri.take_d (i := 6) (v := .pointer (some ⟨Bx, 2, none⟩)) (some 17) rfl rfl (by kernel_rfl) (by kernel_rfl) (by kernel_rfl) (fun _ _ _ h => h) (Or.inl ⟨by kernel_rfl, ?_⟩) hS0 ?_
    · intro w' hSw; obtain ⟨z0, z1, z2, z3, z4⟩ := hSw; go_simp
    simp only [Act.put, List.setIfInBounds_toArray, List.set_cons_zero, List.set_cons_succ]
    refine Ri.take_d (i := 7) (v := .agg #[.int .i64 x.1.2.1, .int .i64 x.1.2.2]) (some 18) rfl rfl (by kernel_rfl) (by kernel_rfl) (by kernel_rfl) (fun _ _ _ h => h) (Or.inl ⟨by kernel_rfl, ?_⟩) hS0 ?_
    · intro w' hSw; obtain ⟨z0, z1, z2, z3, z4⟩ := hSw; go_simp
    simp only [Act.put, List.setIfInBounds_toArray, List.set_cons_zero, List.set_cons_succ]
    refine wpAnyH_ready (rs := [3, 8]) (by kernel_rfl) (by simp) ?_
    refine AllReadyH.cons rfl (fun K hK => ?c1) (AllReadyH.cons rfl (fun K hK => ?c2) AllReadyH.nil)
    case' c1 =>
      rw [if_pos (by rfl)]
      go_simp
      go_at_call 132
      refine (HCN.out _ hr.drew).mono ?_
      rintro e w2 ⟨u, rfl, ou, hb2'⟩
      have hb2 : Below W1.heap.size W1 w2 := hr.drew.trans (hb2'.mono (hr.drew).size)
      refine hK.out _ _ (hS _ hb2) (fun _ => ?_)
      clear hK K
      try simp only [Act.put, List.setIfInBounds_toArray, List.set_cons_zero, List.set_cons_succ]
      have own2 : OwnPt w2 W1.heap.size u (rb.filter (partedB x.1)) := ou.mono (Nat.le_refl _)
      refine wpAnyH_ready (rs := [8]) (by kernel_rfl) (by simp) ?_
      refine AllReadyH.cons rfl (fun K hK => ?_) AllReadyH.nil
      go_simp
      have hb2a := (hb2).alloc (hb2).size (.cells #[.int .i64 x.1.1.1, .int .i64 x.1.1.2, .int .i64 x.1.2.1, .int .i64 x.1.2.2] 24)
      refine hK.out _ _ (hS _ hb2a) (fun _ => ?_)
      clear hK K
      try simp only [Act.put, List.setIfInBounds_toArray, List.set_cons_zero, List.set_cons_succ]
      refine wpAnyH_ready (rs := [9]) (by kernel_rfl) (by simp) ?_
      refine AllReadyH.cons rfl (fun K hK => ?_) AllReadyH.nil
      refine step_append_pt _ rfl _ _ rfl W1.heap.size u _ (rb.filter (partedB x.1)) [x.1.1, x.1.2] rfl rfl (own2.below ((Below.refl _ _).alloc (Nat.le_refl _) (.cells #[.int .i64 x.1.1.1, .int .i64 x.1.1.2, .int .i64 x.1.2.1, .int .i64 x.1.2.2] 24))) (PtSl.two w2 x.1.1 x.1.2) (by simp only [List.length_cons, List.length_nil]; omega) (by have := (hb2a).size; omega) ?_
      intro v' w3 own3 grow3 at3
      have hb3 : Below W1.heap.size W1 w3 := (hb2a).grown grow3 (by have := (hb2a).size; omega) (fun k hk => ((own2.below ((Below.refl _ _).alloc (Nat.le_refl _) (.cells #[.int .i64 x.1.1.1, .int .i64 x.1.1.2, .int .i64 x.1.2.1, .int .i64 x.1.2.2] 24)))).lt k hk)
      refine hK.out _ _ (hS _ hb3) (fun _ => ?_)
      clear hK K at3 grow3
      try simp only [Act.put, List.setIfInBounds_toArray, List.set_cons_zero, List.set_cons_succ]
      refine wpAnyH_ready (rs := [10]) (by kernel_rfl) (by simp) ?_
      refine AllReadyH.cons rfl (fun K hK => ?_) AllReadyH.nil
      go_simp
      refine hK.out _ _ (hS _ hb3) (fun _ => ?_)
      clear hK K
      try simp only [Act.put, List.setIfInBounds_toArray, List.set_cons_zero, List.set_cons_succ]
      refine wpAnyH_done (by kernel_rfl) ?_ _
    case' c2 =>
      go_simp
      have hb1a := hr.drew.alloc hr.drew.size (.cells #[.int .i64 x.1.1.1, .int .i64 x.1.1.2, .int .i64 x.1.2.1, .int .i64 x.1.2.2] 24)
      have sl1 := PtSl.two W1.drew x.1.1 x.1.2
      refine hK.out _ _ (hS _ hb1a) (fun _ => ?_)
      clear hK K
      try simp only [Act.put, List.setIfInBounds_toArray, List.set_cons_zero, List.set_cons_succ]
      refine wpAnyH_ready (rs := [3]) (by kernel_rfl) (by simp) ?_
      refine AllReadyH.cons rfl (fun K hK => ?_) AllReadyH.nil
      rw [if_pos (by rfl)]
      go_simp
      go_at_call 132
      refine (HCN.out _ hb1a).mono ?_
      rintro e w2 ⟨u, rfl, ou, hb2'⟩
      have hb2 : Below W1.heap.size W1 w2 := hb1a.trans (hb2'.mono (hb1a).size)
      refine hK.out _ _ (hS _ hb2) (fun _ => ?_)
      clear hK K
      try simp only [Act.put, List.setIfInBounds_toArray, List.set_cons_zero, List.set_cons_succ]
      have own2 : OwnPt w2 W1.heap.size u (rb.filter (partedB x.1)) := ou.mono (by simp)
      refine wpAnyH_ready (rs := [9]) (by kernel_rfl) (by simp) ?_
      refine AllReadyH.cons rfl (fun K hK => ?_) AllReadyH.nil
      refine step_append_pt _ rfl _ _ rfl W1.heap.size u _ (rb.filter (partedB x.1)) [x.1.1, x.1.2] rfl rfl own2 (sl1.below hb2') (by simp only [List.length_cons, List.length_nil]; omega) (by have := (hb2).size; omega) ?_
      intro v' w3 own3 grow3 at3
      have hb3 : Below W1.heap.size W1 w3 := (hb2).grown grow3 (by have := (hb2).size; omega) (fun k hk => (own2).lt k hk)
      refine hK.out _ _ (hS _ hb3) (fun _ => ?_)
      clear hK K at3 grow3
      try simp only [Act.put, List.setIfInBounds_toArray, List.set_cons_zero, List.set_cons_succ]
      refine wpAnyH_ready (rs := [10]) (by kernel_rfl) (by simp) ?_
      refine AllReadyH.cons rfl (fun K hK => ?_) AllReadyH.nil
      go_simp
      refine hK.out _ _ (hS _ hb3) (fun _ => ?_)
      clear hK K
      try simp only [Act.put, List.setIfInBounds_toArray, List.set_cons_zero, List.set_cons_succ]
      refine wpAnyH_done (by kernel_rfl) ?_ _
    all_goals
      clear HCN hS0 cB
      have hz3 := hb3.size
      obtain ⟨M, hM⟩ : ∃ M, rb.filter (partedB x.1) ++ [x.1.1, x.1.2] = M := ⟨_, rfl⟩
      have hML : M.length = (endsS rb x.1).length := by rw [← hM, HEL.out, List.length_append]; rfl
      rw [hM] at own3 HEND
      have hM2 : 2 ≤ M.length := by rw [hML, HEL.out]; omega
      have hM3 : M.length ≤ 1000000 := by rw [hML, HEL.out]; omega
      have HML := Lib.hid hML
      clear hML
      have HMM := Lib.hid hM
      clear hM
      obtain ⟨g, cp, rfl, hg, hcp⟩ := own3.some (by omega)
      have bX3 := bX.below hb3 hbx
      obtain ⟨f0, f1, -, -⟩ := bX3.facts
      have HSO := Lib.hid (sortD_any x.1.1 Bx w3 W1.heap.size _ _ own3 (by omega) (by omega) hz3 hbx f0 f1)
      clear f0 f1 own3
      gi_wp2
      refine ⟨trivial, (CallsIn.inRound l2 (callsIn_wide.2 HSO.out)).mono ?_⟩
      rintro e w4 ⟨rfl, ⟨M', ⟨hp, hs⟩, hsl⟩, hb4'⟩
      have hb4 := hb3.trans hb4'
      have hz4 := hb4.size
      rw [HEND.out M' hp hs] at hsl
      have hE2 : 2 ≤ (endsS rb x.1).length := by rw [← HML.out]; exact hM2
      have hE3 : (endsS rb x.1).length ≤ 1000000 := by rw [← HML.out]; exact hM3
      rw [HML.out] at hsl ⊢
      obtain ⟨E, hE⟩ : ∃ E, endsS rb x.1 = E := ⟨_, rfl⟩
      have hMS : oMidsS rb x.1 = oMidsK E (E.length - 1) := by rw [← hE]; rfl
      rw [hMS] at HSN
      rw [hE] at hsl hE2 hE3 HEO ⊢
      clear hMS hE HEL HEND hp hs HML HMM hM2 hM3
      obtain ⟨b', off', cap', he, hE0, hgw, hcap, hcE⟩ := hsl.some (by omega)
      simp only [Value.slice.injEq, Option.some.injEq, Addr.mk.injEq, and_true, true_and] at he
      obtain ⟨⟨rfl, rfl⟩, rfl⟩ := he
      have HCE := Lib.hid hcE
      clear hcE hsl
      have hj4 := hJ _ _ _ hj (hb4.mono (by omega))
      obtain ⟨N, hN⟩ : ∃ N, E.length = N + 1 := ⟨E.length - 1, by omega⟩
      have hN1 : 1 ≤ N := by omega
      have hN8 : N ≤ 1000000 := by omega
      have hcN : N + 1 ≤ cp ∧ cp ≤ maxLen := by rw [← hN]; exact hcap
      rw [show E.length - 1 = N by omega] at HSN
      rw [hN] at ⊢
      have HN := Lib.hid hN
      clear hN hE2 hE3 hE0 hcap hcp
      have g1 : (1 : Int) ≤ ((N + 1 : Nat) : Int) := by omega
      gi_wp2
      gi_loopw [27] (fun c wr => ∃ k : Nat, k ≤ N ∧ c = .int .i64 (k : Int) ∧ J (oMidsU rb pre ++ oMidsK E k) wr ∧ KB R l n₀ w4 wr) (fun c _ => N - (intOf c).toNat)
      case atStart => exact ⟨0, by omega, rfl, (List.append_nil (oMidsU rb pre)).symm ▸ hj4, KB.refl _ _ _ _⟩
      case round =>
        obtain ⟨k, hkN, rfl, hjk, hkb⟩ := hrel
        have hzr := hkb.below.size
        by_cases hlt2 : k < N
        · have hk1 : k < E.length := by rw [HN.out]; omega
          have hk2 : k + 1 < E.length := by rw [HN.out]; omega
          have eg : wr.heap[g]? = w4.heap[g]? := hkb.block g (by omega) (by omega) hgw
          have bY5 : Boxed wr W.heap.size 136 (.func (.yield l) #[] #[]) := (hkb.block W.heap.size (by omega) (by omega) (by omega)).trans ((hb4.block W.heap.size (by omega)).trans bY1)
          have c1 := HCE.out k hk1
          have c2 := HCE.out (k + 1) hk2
          rw [Nat.zero_add] at c1
          rw [show 0 + (k + 1) * 2 = 2 + k * 2 by omega] at c2
          have op := HEO.out _ (List.getElem_mem hk1)
          have oq := HEO.out _ (List.getElem_mem hk2)
          have hy0 : (oPl (midK E k)).1 = midP E[k] E[k + 1] := by
            rw [oPl_val (midK_on HEO.out hk2)]
            unfold midK
            rw [List.getD_eq_getElem?_getD, List.getD_eq_getElem?_getD, List.getElem?_eq_getElem hk1, List.getElem?_eq_getElem hk2]
            rfl
          have HSU := Lib.hid (oMidsK_succ E k)
          obtain ⟨y, hy⟩ : ∃ y, oPl (midK E k) = y := ⟨_, rfl⟩
          rw [hy] at hy0 HSU
          obtain ⟨⟨px, py⟩, ep⟩ : ∃ p, E[k] = p := ⟨_, rfl⟩
          obtain ⟨⟨qx, qy⟩, eq⟩ : ∃ p, E[k + 1] = p := ⟨_, rfl⟩
          rw [ep] at c1 op hy0
          rw [eq] at c2 oq hy0
          dsimp only at op oq
          clear hy ep eq
          obtain ⟨c1a, c1b⟩ : wr.cell? ⟨g, k * 2, none⟩ = some (.int .i64 px) ∧ wr.cell? ⟨g, k * 2 + 1, none⟩ = some (.int .i64 py) := by unfold Cells2 World.cell? at c1; unfold World.cell?; rw [eg]; exact c1
          obtain ⟨c2a, c2b⟩ : wr.cell? ⟨g, 2 + k * 2, none⟩ = some (.int .i64 qx) ∧ wr.cell? ⟨g, 2 + k * 2 + 1, none⟩ = some (.int .i64 qy) := by unfold Cells2 World.cell? at c2; unfold World.cell?; rw [eg]; exact c2
          clear c1 c2 eg
          have hgr : g < wr.heap.size := by omega
          gi_wp2
          have tE := (Two.new wr 24 (.int .i64 qx) (.int .i64 qy)).facts
          have hbE : Below wr.heap.size wr (wr.alloc (.cells #[.int .i64 qx, .int .i64 qy] 24)) := (Below.refl wr.heap.size wr).alloc (Nat.le_refl _) _
          have yE := (bY5.alloc (.cells #[.int .i64 qx, .int .i64 qy] 24)).cell
          have d1 := (hbE.cell (p := ⟨g, k * 2, none⟩) hgr).trans c1a
          have d2 := (hbE.cell (p := ⟨g, k * 2 + 1, none⟩) hgr).trans c1b
          have hsE : (wr.alloc (.cells #[.int .i64 qx, .int .i64 qy] 24)).heap.size = wr.heap.size + 1 := by simp
          have hS2 : ∀ w' : World, Below (wr.heap.size + 1) (wr.alloc (.cells #[.int .i64 qx, .int .i64 qy] 24)) w' → (w'.cell? ⟨W.heap.size, 0, none⟩ = some (.func (.yield l) #[] #[]) ∧ (w'.cell? ⟨g, k * 2, none⟩ = some (.int .i64 px) ∧ w'.cell? ⟨g, k * 2 + 1, none⟩ = some (.int .i64 py)) ∧ w'.cell? ⟨wr.heap.size, 0, none⟩ = some (.int .i64 qx) ∧ w'.cell? ⟨wr.heap.size, 1, none⟩ = some (.int .i64 qy)) := fun w' hb => ⟨(hb.cell (p := ⟨W.heap.size, 0, none⟩) (show W.heap.size < wr.heap.size + 1 by omega)).trans yE, ⟨(hb.cell (p := ⟨g, k * 2, none⟩) (show g < wr.heap.size + 1 by omega)).trans d1, (hb.cell (p := ⟨g, k * 2 + 1, none⟩) (show g < wr.heap.size + 1 by omega)).trans d2⟩, (hb.cell (p := ⟨wr.heap.size, 0, none⟩) (show wr.heap.size < wr.heap.size + 1 by omega)).trans tE.1, (hb.cell (p := ⟨wr.heap.size, 1, none⟩) (show wr.heap.size < wr.heap.size + 1 by omega)).trans tE.2.1⟩
          clear tE yE d1 d2 c1a c1b c2a c2b bY5
          have hrE := (Below.refl (wr.heap.size + 1) (wr.alloc (.cells #[.int .i64 qx, .int .i64 qy] 24))).drew
          have hSE := hS2 _ hrE
          refine Rl.start_in 7 (fun w' => (w'.cell? ⟨W.heap.size, 0, none⟩ = some (.func (.yield l) #[] #[]) ∧ (w'.cell? ⟨g, k * 2, none⟩ = some (.int .i64 px) ∧ w'.cell? ⟨g, k * 2 + 1, none⟩ = some (.int .i64 py)) ∧ w'.cell? ⟨wr.heap.size, 0, none⟩ = some (.int .i64 qx) ∧ w'.cell? ⟨wr.heap.size, 1, none⟩ = some (.int .i64 qy))) (by kernel_rfl) ?_
          refine Rl.take_in (i := 0) (v := .func (.yield l) #[] #[]) 0 [] (by kernel_rfl) rfl (by decide) (by kernel_rfl) (by kernel_rfl) (by kernel_rfl) (by kernel_rfl) (by kernel_rfl) (by kernel_rfl) (by kernel_rfl) (fun _ _ _ h => h) ⟨Or.inl ⟨by rfl, ?_⟩, fun _ => rfl⟩ hSE ?_
          · intro w' hSw
            obtain ⟨s0, ⟨s1, s2⟩, s3, s4⟩ := hSw
            go_simp
          simp only [Act.put, List.setIfInBounds_toArray, List.set_cons_zero, List.set_cons_succ]
          refine Rl.take_in (i := 1) (v := .slice (some ⟨g, 0, none⟩) (N + 1) cp) 6 [4, 3, 1] (by kernel_rfl) rfl (by decide) (by kernel_rfl) (by kernel_rfl) (by kernel_rfl) (by kernel_rfl) (by kernel_rfl) (by kernel_rfl) (by kernel_rfl) (fun _ _ _ h => h) ⟨Or.inl ⟨by rfl, ?_⟩, fun _ => rfl⟩ hSE ?_
          · intro w' hSw
            obtain ⟨s0, ⟨s1, s2⟩, s3, s4⟩ := hSw
            go_simp
          simp only [Act.put, List.setIfInBounds_toArray, List.set_cons_zero, List.set_cons_succ]
          refine Rl.take_in (i := 2) (v := .int .i64 k) 6 [4, 3, 2] (by kernel_rfl) rfl (by decide) (by kernel_rfl) (by kernel_rfl) (by kernel_rfl) (by kernel_rfl) (by kernel_rfl) (by kernel_rfl) (by kernel_rfl) (fun _ _ _ h => h) ⟨Or.inl ⟨by rfl, ?_⟩, fun _ => rfl⟩ hSE ?_
          · intro w' hSw
            obtain ⟨s0, ⟨s1, s2⟩, s3, s4⟩ := hSw
            go_simp
          simp only [Act.put, List.setIfInBounds_toArray, List.set_cons_zero, List.set_cons_succ]
          refine Rl.take_in (i := 3) (v := .pointer (some ⟨g, k * 2, none⟩)) 6 [4, 3] (by kernel_rfl) rfl (by decide) (by kernel_rfl) (by kernel_rfl) (by kernel_rfl) (by kernel_rfl) (by kernel_rfl) (by kernel_rfl) (by kernel_rfl) (fun _ _ _ h => h) ⟨Or.inl ⟨by rfl, ?_⟩, fun _ => rfl⟩ hSE ?_
          · intro w' hSw
            obtain ⟨s0, ⟨s1, s2⟩, s3, s4⟩ := hSw
            go_simp
            exact fun h => absurd h (by omega)
          simp only [Act.put, List.setIfInBounds_toArray, List.set_cons_zero, List.set_cons_succ]
          refine Rl.take_in (i := 4) (v := .agg #[.int .i64 px, .int .i64 py]) 6 [4] (by kernel_rfl) rfl (by decide) (by kernel_rfl) (by kernel_rfl) (by kernel_rfl) (by kernel_rfl) (by kernel_rfl) (by kernel_rfl) (by kernel_rfl) (fun _ _ _ h => h) ⟨Or.inl ⟨by rfl, ?_⟩, fun _ => rfl⟩ hSE ?_
          · intro w' hSw
            obtain ⟨s0, ⟨s1, s2⟩, s3, s4⟩ := hSw
            go_simp
          simp only [Act.put, List.setIfInBounds_toArray, List.set_cons_zero, List.set_cons_succ]
          refine Rl.take_in (i := 5) (v := .agg #[.int .i64 qx, .int .i64 qy]) 6 [5] (by kernel_rfl) rfl (by decide) (by kernel_rfl) (by kernel_rfl) (by kernel_rfl) (by kernel_rfl) (by kernel_rfl) (by kernel_rfl) (by kernel_rfl) (fun _ _ _ h => h) ⟨Or.inl ⟨by rfl, ?_⟩, fun _ => rfl⟩ hSE ?_
          · intro w' hSw
            obtain ⟨s0, ⟨s1, s2⟩, s3, s4⟩ := hSw
            go_simp
          simp only [Act.put, List.setIfInBounds_toArray, List.set_cons_zero, List.set_cons_succ]
          refine Rl.one_in (i := 6) rfl (by kernel_rfl) (fun K hK => ?_)
          rw [if_pos (by rfl)]
          unfold Oper.wpIn
          refine ⟨fun _ _ => trivial, ?_⟩
          go_simp
          refine (CallsIn.inRound l2 (callsIn_wide.2 (middle_any px py qx qy op oq _))).mono ?_
          rintro e w5 ⟨rfl, hb5'⟩
          have hb5 : Below (wr.heap.size + 1) (wr.alloc (.cells #[.int .i64 qx, .int .i64 qy] 24)) w5 := hrE.trans (hb5'.mono (Nat.le_of_eq hsE.symm))
          refine hK.out _ _ (fun _ => hS2 _ hb5) ?_
          clear hK K
          try simp only [Act.put, List.setIfInBounds_toArray, List.set_cons_zero, List.set_cons_succ]
          have hbw : Below wr.heap.size wr w5 := hbE.trans (hb5.mono (Nat.le_succ _))
          have hj5 := hJ _ _ _ hjk (hbw.mono (by omega))
          obtain ⟨fn, tmps, assign, body, hy, hR⟩ := HY.out _ y w5 hj5
          dsimp only [encQ] at hy
          rw [hy0] at hy
          dsimp only [midP] at hy
          have hR2 : RoundIn (Fence.wide.inRound l2) 6 Try.prog l fn tmps assign body w5 _ := ⟨hR.1, fun c cs _ => hR.2 c cs (room_wide _)⟩
          clear hR
          refine Rl.one_in (i := 7) rfl (by kernel_rfl) (fun K hK => ?_)
          rw [if_pos (by rfl)]
          unfold Oper.wpIn
          refine ⟨fun _ _ => trivial, ?_⟩
          go_simp
          have hkc : KB R l n₀ W1 w5 := (KB.of_below hb4 (by omega) (Nat.le_refl _)).trans (hkb.trans (KB.of_below hbw (by omega) (Nat.le_refl _)))
          refine hR2.mono ?_
          rintro e W3 (⟨rfl, hJ3, hk3⟩ | ⟨rfl, hJx3, hk3⟩)
          · skip
            refine hK.out _ _ (fun h => Bool.noConfusion (show true = false from h)) ?_
            clear hK K
            try simp only [Act.put, List.setIfInBounds_toArray, List.set_cons_zero, List.set_cons_succ]
            refine Rl.one_in (i := 8) rfl (by kernel_rfl) (fun K hK => ?_)
            rw [if_pos (by rfl)]
            unfold Oper.wpIn
            refine ⟨fun _ _ => trivial, ?_⟩
            go_simp
            refine hK.out _ _ (fun h => Bool.noConfusion (show true = false from h)) ?_
            clear hK K
            try simp only [Act.put, List.setIfInBounds_toArray, List.set_cons_zero, List.set_cons_succ]
            refine Rl.done_in (by kernel_rfl) ?_ _
            gi_wp2
            go_roundw
            case rel => exact ⟨k + 1, by omega, by go_num, by rw [HSU.out, ← List.append_assoc]; exact hJ3, hkb.trans ((KB.of_below hbw (by omega) (Nat.le_refl _)).trans hk3)⟩
            case measure => simp [intOf]; omega
          · skip
            refine hK.out _ _ (fun h => Bool.noConfusion (show true = false from h)) ?_
            clear hK K
            try simp only [Act.put, List.setIfInBounds_toArray, List.set_cons_zero, List.set_cons_succ]
            refine Rl.one_in (i := 8) rfl (by kernel_rfl) (fun K hK => ?_)
            rw [if_pos (by rfl)]
            unfold Oper.wpIn
            refine ⟨fun _ _ => trivial, ?_⟩
            go_simp
            refine hK.out _ _ (fun h => Bool.noConfusion (show true = false from h)) ?_
            clear hK K
            try simp only [Act.put, List.setIfInBounds_toArray, List.set_cons_zero, List.set_cons_succ]
            refine Rl.done_in (by kernel_rfl) ?_ _
            gi_wp2
            have hkd := hkc.trans hk3
            refine ⟨hkd.from (by omega) (by omega), ⟨rfl, _, fun z hz => ?_, hJx3⟩, by have := hkd.below.size; omega⟩
            rw [List.append_assoc, ← HSU.out] at hz
            rw [HSN.out]
            exact (List.mem_append.1 hz).elim (fun h => List.mem_append.2 (.inl h)) (fun h => List.mem_append.2 (.inr (oMidsK_sub (by omega) h)))
        · obtain rfl : k = N := by omega
          gi_wp2
          have hkd : KB R l n₀ W1 wr := (KB.of_below hb4 (by omega) (Nat.le_refl _)).trans hkb
          exact ⟨hkd.from (by omega) (by omega), ⟨hkd.below, hkd.block (W.heap.size + 1) (by omega) (by omega) (by omega)⟩, by rw [HSN.out]; exact hjk, hk.trans hkd⟩
  case done =>
    rintro D ys W2 hD rfl ⟨hj, hk⟩ hKD
    have hz := hk.below.size
    gi_wp2
    refine ⟨by simp, .inl ⟨_, _, rfl, run_takeDeferred hKD, ?_⟩⟩
    exact ⟨_, results_none rfl _ _ _, ⟨_, rfl⟩, .inl ⟨_, rfl, hJ _ _ _ hj (Rb.put_below _ _ _ (by omega))⟩⟩
  case stop =>
    rintro D c pre W2 hD ⟨k, hk, rfl⟩ ⟨⟨rfl, ys, hys, hj⟩, hz⟩ hKD
    gi_wp2
    refine ⟨by simp, .inl ⟨_, _, rfl, run_takeDeferred hKD, ?_⟩⟩
    refine ⟨_, results_none rfl _ _ _, ⟨_, rfl⟩, .inr ⟨ys, fun y hy => ?_, hJx _ _ _ hj (Rb.put_below _ _ _ (by omega))⟩⟩
    obtain ⟨x, hx, hy⟩ := List.mem_flatMap.1 (hys y hy)
    refine List.mem_flatMap.2 ⟨x, ?_, hy⟩
    obtain ⟨i, hi, rfl⟩ := List.mem_map.1 hx
    have hi := List.mem_range.1 hi
    exact List.mem_map.2 ⟨i, List.mem_range.2 (by omega), rfl⟩
end Go.Proofs.Ytcpcmlonbpccnaa.Ge

/- Walks over package polygon: does a part of a ring's boundary lie where it is asked for? -/
namespace Go.Proofs.Ytcpcmlonbpccnaa.Ge
set_option linter.unusedVariables false
set_option linter.unusedSimpArgs false
open Go.RowKit Go.Shelf
open Go.Proofs.Ytcpcmlonbpccnaa.Fr (Two)
open Go.Proofs.Ytcpcmlonbpccnaa.Rb (KB Shuts SeqB endB)
attribute [local go_sem] Oper.semAt_some

def noneR (rb : List Pt) (th : Int) (pre : List OPl) : Prop := ∀ x ∈ pre, whereP rb x.1 ≠ th
theorem mids_mem {ra rb : List Pt} (ha : onL ra) (hb : onL rb) {x : OPl} (h : x ∈ oMidsU rb (oSides ra)) : x.1 ∈ midsL ra rb := by
  have e := oMidsU_val hb (oSides ra)
  rw [oSides_val ha] at e
  show x.1 ∈ (sidesL ra).flatMap (midsS rb)
  rw [← e]
  exact List.mem_map.2 ⟨x, h, rfl⟩
theorem reaches_yes {ra rb : List Pt} (ha : onL ra) (hb : onL rb) {th : Int} {pre : List OPl} (hp : ∀ x ∈ pre, x ∈ oMidsU rb (oSides ra)) (h : ∃ x ∈ pre, whereP rb x.1 = th) : reachesB ra rb th = true := by
  obtain ⟨x, hx, e⟩ := h
  unfold reachesB
  exact List.any_eq_true.2 ⟨x.1, mids_mem ha hb (hp x hx), by rw [e]; simp⟩
theorem reaches_no {ra rb : List Pt} (ha : onL ra) (hb : onL rb) {th : Int} (h : noneR rb th (oMidsU rb (oSides ra))) : reachesB ra rb th = false := by
  rw [Bool.eq_false_iff]
  intro k
  unfold reachesB at k
  obtain ⟨p, hp, k⟩ := List.any_eq_true.1 k
  have e := oMidsU_val hb (oSides ra)
  rw [oSides_val ha] at e
  have hp : p ∈ (sidesL ra).flatMap (midsS rb) := hp
  rw [← e] at hp
  obtain ⟨x, hx, rfl⟩ := List.mem_map.1 hp
  exact h x hx (by simpa using k)

set_option maxRecDepth 100000 in
set_option maxHeartbeats 8000000 in
theorem reaches_any (va vb : Value) (ra rb : List Pt) (th : Int) (ha : onL ra) (hb : onL rb) (hla : 1 ≤ ra.length ∧ ra.length ≤ 1000) (hlb : 1 ≤ rb.length ∧ rb.length ≤ 1000) (w : World) (hva : Ring w va ra) (hvb : Ring w vb rb) :
    Calls Try.prog 90 #[va, vb, .int .i64 th] w fun e w' => e = .returned (.bool (reachesB ra rb th)) ∧ Below w.heap.size w w' := by
  have HRB := Lib.hid hvb
  obtain ⟨ba, oa, ca, rfl, hba, hca⟩ := hva
  obtain ⟨bb, ob, cb, rfl, hbb, hcb⟩ := hvb
  have HCA := Lib.hid (fun (w' : World) (h : Below w.heap.size w w') i (hi : i < ra.length) => (hca i hi).below h hba)
  have HCB := Lib.hid (fun (w' : World) (h : Below w.heap.size w w') i (hi : i < rb.length) => (hcb i hi).below h hbb)
  clear hca hcb
  refine (callsIn_wide (n := 10)).1 ?_
  refine callsIn_of_wp_marks Try.func90 rfl trivial ?_ rfl
  simp only [Try.ntmps90, List.size_toArray, List.length_cons, List.length_nil, Nat.reduceAdd, Nat.reduceSub, Array.replicate_succ, Array.replicate_zero, List.push_toArray, List.append_toArray, List.nil_append, List.cons_append]
  gi_wp2_with (refine ⟨trivial, ?_⟩; gi_at_call 120; refine (callsIn_wide.2 (middles_any _ _ _ _ _ _ _)).mono ?_; rintro e w' ⟨rfl, rfl⟩)
  have b1 := ((((Boxed.new w 22 (.slice (some ⟨bb, ob, none⟩) rb.length cb)).alloc (.cells #[.int .i64 th] 3)).alloc (.cells #[.bool false] 4)).alloc (.cells #[.slice (some ⟨ba, oa, none⟩) ra.length ca] 22)).alloc (.cells #[.slice (some ⟨bb, ob, none⟩) rb.length cb] 22)
  have b2 := (((Boxed.new (w.alloc (.cells #[.slice (some ⟨bb, ob, none⟩) rb.length cb] 22)) 3 (.int .i64 th)).alloc (.cells #[.bool false] 4)).alloc (.cells #[.slice (some ⟨ba, oa, none⟩) ra.length ca] 22)).alloc (.cells #[.slice (some ⟨bb, ob, none⟩) rb.length cb] 22)
  have b3 := ((Boxed.new ((w.alloc (.cells #[.slice (some ⟨bb, ob, none⟩) rb.length cb] 22)).alloc (.cells #[.int .i64 th] 3)) 4 (.bool false)).alloc (.cells #[.slice (some ⟨ba, oa, none⟩) ra.length ca] 22)).alloc (.cells #[.slice (some ⟨bb, ob, none⟩) rb.length cb] 22)
  have b4 := (Boxed.new (((w.alloc (.cells #[.slice (some ⟨bb, ob, none⟩) rb.length cb] 22)).alloc (.cells #[.int .i64 th] 3)).alloc (.cells #[.bool false] 4)) 22 (.slice (some ⟨ba, oa, none⟩) ra.length ca)).alloc (.cells #[.slice (some ⟨bb, ob, none⟩) rb.length cb] 22)
  have b5 := Boxed.new ((((w.alloc (.cells #[.slice (some ⟨bb, ob, none⟩) rb.length cb] 22)).alloc (.cells #[.int .i64 th] 3)).alloc (.cells #[.bool false] 4)).alloc (.cells #[.slice (some ⟨ba, oa, none⟩) ra.length ca] 22)) 22 (.slice (some ⟨bb, ob, none⟩) rb.length cb)
  simp only [World.size_alloc] at b2 b3 b4 b5
  have hB0 : Below w.heap.size w (((((w.alloc (.cells #[.slice (some ⟨bb, ob, none⟩) rb.length cb] 22)).alloc (.cells #[.int .i64 th] 3)).alloc (.cells #[.bool false] 4)).alloc (.cells #[.slice (some ⟨ba, oa, none⟩) ra.length ca] 22)).alloc (.cells #[.slice (some ⟨bb, ob, none⟩) rb.length cb] 22)) := (((((Below.refl _ w).alloc (Nat.le_refl _) _).alloc (by simp) _).alloc (by simp; omega) _).alloc (by simp; omega) _).alloc (by simp; omega) _
  have hsz : (((((w.alloc (.cells #[.slice (some ⟨bb, ob, none⟩) rb.length cb] 22)).alloc (.cells #[.int .i64 th] 3)).alloc (.cells #[.bool false] 4)).alloc (.cells #[.slice (some ⟨ba, oa, none⟩) ra.length ca] 22)).alloc (.cells #[.slice (some ⟨bb, ob, none⟩) rb.length cb] 22)).heap.size = w.heap.size + 5 := by simp
  obtain ⟨W0, hW0⟩ : ∃ W0, ((((w.alloc (.cells #[.slice (some ⟨bb, ob, none⟩) rb.length cb] 22)).alloc (.cells #[.int .i64 th] 3)).alloc (.cells #[.bool false] 4)).alloc (.cells #[.slice (some ⟨ba, oa, none⟩) ra.length ca] 22)).alloc (.cells #[.slice (some ⟨bb, ob, none⟩) rb.length cb] 22) = W0 := ⟨_, rfl⟩
  try simp only [World.size_alloc]
  rw [hW0] at b1 b2 b3 b4 b5 hB0 hsz ⊢
  clear hW0
  have shutI : Shuts W0.heap.size (fun (pre : List OPl) W => ((Boxed W w.heap.size 22 (.slice (some ⟨bb, ob, none⟩) rb.length cb) ∧ Boxed W (w.heap.size + 1) 3 (.int .i64 th) ∧ Boxed W (w.heap.size + 1 + 1) 4 (.bool false)) ∧ noneR rb th pre) ∧ Below w.heap.size W0 W) := fun s X Y h hb =>
    ⟨⟨⟨boxed_below h.1.1.1 hb (by omega), boxed_below h.1.1.2.1 hb (by omega), boxed_below h.1.1.2.2 hb (by omega)⟩, h.1.2⟩, h.2.trans (hb.mono (by omega))⟩
  have shutX : Shuts W0.heap.size (fun (pre : List OPl) W => (Boxed W (w.heap.size + 1 + 1) 4 (.bool true) ∧ ∃ x ∈ pre, whereP rb x.1 = th) ∧ Below w.heap.size W0 W) := fun s X Y h hb =>
    ⟨⟨boxed_below h.1.1 hb (by omega), h.1.2⟩, h.2.trans (hb.mono (by omega))⟩
  refine Rb.range_B (gf := 131) (lb := #[.pointer (some ⟨w.heap.size + 1 + 1 + 1, 0, none⟩), .pointer (some ⟨w.heap.size + 1 + 1 + 1 + 1, 0, none⟩)]) rfl (enters_of Try.func131 (by kernel_rfl) rfl)
    (R := w.heap.size + 1 + 1) (n₀ := w.heap.size) (by omega) hB0.size (mids_seq (w.heap.size + 1 + 1 + 1) (w.heap.size + 1 + 1 + 1 + 1) w.heap.size (w.heap.size + 1 + 1) ba oa ca bb ob cb ra rb ha hb hla hlb W0 (by omega) (by omega) (by omega) (by omega) (by omega) hba hbb hB0.size b4.cell b5.cell (HCA.out _ hB0) (HCB.out _ hB0)) (fun _ => rfl)
    (fun pre W => ((Boxed W w.heap.size 22 (.slice (some ⟨bb, ob, none⟩) rb.length cb) ∧ Boxed W (w.heap.size + 1) 3 (.int .i64 th) ∧ Boxed W (w.heap.size + 1 + 1) 4 (.bool false)) ∧ noneR rb th pre) ∧ Below w.heap.size W0 W)
    (fun pre W => (Boxed W (w.heap.size + 1 + 1) 4 (.bool true) ∧ ∃ x ∈ pre, whereP rb x.1 = th) ∧ Below w.heap.size W0 W)
    shutI shutX ⟨⟨⟨b1, b2, b3⟩, fun x hx => by cases hx⟩, Below.refl _ _⟩
    (fun x a' W => ∃ Bx, W0.heap.size ≤ Bx ∧ PlAt 106 W Bx x.1 ∧ a' = { tmps := #[.slice (some ⟨ba, oa, none⟩) ra.length ca, .slice (some ⟨bb, ob, none⟩) rb.length cb, .int .i64 th, undef, .pointer (some ⟨w.heap.size, 0, none⟩), .pointer (some ⟨w.heap.size + 1, 0, none⟩), .pointer (some ⟨w.heap.size + 1 + 1, 0, none⟩), .pointer (some ⟨Bx, 0, none⟩), .slice (some ⟨ba, oa, none⟩) ra.length ca, .slice (some ⟨bb, ob, none⟩) rb.length cb, .func (.func 131) #[] #[.pointer (some ⟨w.heap.size + 1 + 1 + 1, 0, none⟩), .pointer (some ⟨w.heap.size + 1 + 1 + 1 + 1, 0, none⟩)], .agg #[.int .i64 x.1.1, .int .i64 x.1.2], undef, undef, undef, undef, undef], defers := [] })
    (fun x a' W l o o' h ho hc => by
      obtain ⟨Bx, h1, h2, h3⟩ := h
      refine ⟨Bx, h1, (World.putObj_heap_other (fun e => ?_)).trans h2, h3⟩
      rw [← e, show W.heap[Bx]? = _ from h2] at ho
      cases ho
      cases hc)
    ?assign ?body ?done ?stop
  case assign =>
    rintro l pre x W K hz ⟨⟨⟨b1, b2, b3⟩, hno⟩, hB1⟩ hK
    gi_wp2
    have hbz := (Below.refl W.heap.size W).alloc (Nat.le_refl _) (.cells #[.int .i64 x.1.1, .int .i64 x.1.2] 106)
    exact hK _ _ hbz ⟨⟨⟨b1.alloc _, b2.alloc _, b3.alloc _⟩, hno⟩, hB1.trans (hbz.mono (by omega))⟩ ⟨W.heap.size, hz, PlAt.new 106 W x.1, rfl⟩
  case body =>
    rintro l pre x a' W hl hz ⟨⟨⟨b1, b2, b3⟩, hno⟩, hB1⟩ ⟨Bx, hBx, bX, rfl⟩
    have hwW := hB0.trans hB1
    have hlx := bX.lt
    have HW := Lib.hid (fun (w' : World) (h : Below W.heap.size W w') => where_any _ rb hb hlb x.1.1 x.1.2 x.2 w' (HRB.out.below (hwW.trans (h.mono (by omega)))))
    have hwp : whereP rb (x.1.1, x.1.2) = whereP rb x.1 := rfl
    rw [hwp] at HW
    clear hwp
    by_cases hq : whereP rb x.1 = th
    · have e1 : (whereP rb x.1 == th) = true := by simpa using hq
      have HQ := Lib.hid hq
      clear hq
      gi_wp2
      have hS : ∀ w' : World, Below W.heap.size W w' → (w'.cell? ⟨w.heap.size, 0, none⟩ = some (.slice (some ⟨bb, ob, none⟩) rb.length cb) ∧ (w'.cell? ⟨Bx, 0, none⟩ = some (.int .i64 x.1.1) ∧ w'.cell? ⟨Bx, 1, none⟩ = some (.int .i64 x.1.2)) ∧ w'.cell? ⟨w.heap.size + 1, 0, none⟩ = some (.int .i64 th)) := fun w' hb => ⟨(boxed_below b1 hb b1.lt).cell, (bX.below hb bX.lt).facts, (boxed_below b2 hb b2.lt).cell⟩
      have hr := Below.refl W.heap.size W
      have hS0 := hS _ hr.drew
      refine Rl.region_round l _ (by kernel_rfl) (by kernel_rfl) (by rintro ⟨_, _, h⟩; exact h) (fun w' => (w'.cell? ⟨w.heap.size, 0, none⟩ = some (.slice (some ⟨bb, ob, none⟩) rb.length cb) ∧ (w'.cell? ⟨Bx, 0, none⟩ = some (.int .i64 x.1.1) ∧ w'.cell? ⟨Bx, 1, none⟩ = some (.int .i64 x.1.2)) ∧ w'.cell? ⟨w.heap.size + 1, 0, none⟩ = some (.int .i64 th))) hS0 (fun _ => ?_)
      refine Ri.take_d (i := 0) (v := .slice (some ⟨bb, ob, none⟩) rb.length cb) (some 12) rfl rfl (by kernel_rfl) (by kernel_rfl) (by kernel_rfl) (fun _ _ _ h => h) (Or.inl ⟨by kernel_rfl, ?_⟩) hS0 ?_
      · intro w' hSw; obtain ⟨z0, ⟨z1, z2⟩, z3⟩ := hSw; go_simp
      simp only [Act.put, List.setIfInBounds_toArray, List.set_cons_zero, List.set_cons_succ]
      refine Ri.take_d (i := 1) (v := .agg #[.int .i64 x.1.1, .int .i64 x.1.2]) (some 13) rfl rfl (by kernel_rfl) (by kernel_rfl) (by kernel_rfl) (fun _ _ _ h => h) (Or.inl ⟨by kernel_rfl, ?_⟩) hS0 ?_
      · intro w' hSw; obtain ⟨z0, ⟨z1, z2⟩, z3⟩ := hSw; go_simp
      simp only [Act.put, List.setIfInBounds_toArray, List.set_cons_zero, List.set_cons_succ]
      refine Ri.take_d (i := 3) (v := .int .i64 th) (some 15) rfl rfl (by kernel_rfl) (by kernel_rfl) (by kernel_rfl) (fun _ _ _ h => h) (Or.inl ⟨by kernel_rfl, ?_⟩) hS0 ?_
      · intro w' hSw; obtain ⟨z0, ⟨z1, z2⟩, z3⟩ := hSw; go_simp
      simp only [Act.put, List.setIfInBounds_toArray, List.set_cons_zero, List.set_cons_succ]
      refine wpAnyH_ready (rs := [2]) (by kernel_rfl) (by simp) ?_
      refine AllReadyH.cons rfl (fun K hK => ?_) AllReadyH.nil
      rw [if_pos (by rfl)]
      go_simp
      go_at_call 85
      refine (HW.out _ hr.drew).mono ?_
      rintro e w2 ⟨rfl, hb2'⟩
      have hb2 : Below W.heap.size W w2 := hr.drew.trans (hb2'.mono hr.drew.size)
      refine hK.out _ _ (hS _ hb2) (fun _ => ?_)
      clear hK K
      try simp only [Act.put, List.setIfInBounds_toArray, List.set_cons_zero, List.set_cons_succ]
      refine wpAnyH_ready (rs := [4]) (by kernel_rfl) (by simp) ?_
      refine AllReadyH.cons rfl (fun K hK => ?_) AllReadyH.nil
      go_simp
      refine hK.out _ _ (hS _ hb2) (fun _ => ?_)
      clear hK K
      try simp only [Act.put, List.setIfInBounds_toArray, List.set_cons_zero, List.set_cons_succ]
      refine wpAnyH_done (by kernel_rfl) ?_ _
      have hz2 := hb2.size
      have q3 := boxed_below b3 hb2 b3.lt
      have qc := q3.cell
      have qf := q3.frozen
      gi_wp2
      exact ⟨⟨(hb2.mono (by omega)).setCell (p := ⟨w.heap.size + 1 + 1, 0, none⟩) (show w.heap.size ≤ w.heap.size + 1 + 1 by omega) _, fun k hk hlt => ((grownBy_setCell' w2 (w.heap.size + 1 + 1) (.bool true)).block k (by omega) (fun e => hk (by cases e; rfl))).trans (hb2.block k hlt)⟩, ⟨q3.set _, x, by simp, HQ.out⟩, (hB1.trans (hb2.mono (by omega))).setCell (p := ⟨w.heap.size + 1 + 1, 0, none⟩) (show w.heap.size ≤ w.heap.size + 1 + 1 by omega) _⟩
    · have e1 : (whereP rb x.1 == th) = false := by simpa using hq
      have HQ := Lib.hid hq
      clear hq
      gi_wp2
      have hS : ∀ w' : World, Below W.heap.size W w' → (w'.cell? ⟨w.heap.size, 0, none⟩ = some (.slice (some ⟨bb, ob, none⟩) rb.length cb) ∧ (w'.cell? ⟨Bx, 0, none⟩ = some (.int .i64 x.1.1) ∧ w'.cell? ⟨Bx, 1, none⟩ = some (.int .i64 x.1.2)) ∧ w'.cell? ⟨w.heap.size + 1, 0, none⟩ = some (.int .i64 th)) := fun w' hb => ⟨(boxed_below b1 hb b1.lt).cell, (bX.below hb bX.lt).facts, (boxed_below b2 hb b2.lt).cell⟩
      have hr := Below.refl W.heap.size W
      have hS0 := hS _ hr.drew
      refine Rl.region_round l _ (by kernel_rfl) (by kernel_rfl) (by rintro ⟨_, _, h⟩; exact h) (fun w' => (w'.cell? ⟨w.heap.size, 0, none⟩ = some (.slice (some ⟨bb, ob, none⟩) rb.length cb) ∧ (w'.cell? ⟨Bx, 0, none⟩ = some (.int .i64 x.1.1) ∧ w'.cell? ⟨Bx, 1, none⟩ = some (.int .i64 x.1.2)) ∧ w'.cell? ⟨w.heap.size + 1, 0, none⟩ = some (.int .i64 th))) hS0 (fun _ => ?_)
      refine Ri.take_d (i := 0) (v := .slice (some ⟨bb, ob, none⟩) rb.length cb) (some 12) rfl rfl (by kernel_rfl) (by kernel_rfl) (by kernel_rfl) (fun _ _ _ h => h) (Or.inl ⟨by kernel_rfl, ?_⟩) hS0 ?_
      · intro w' hSw; obtain ⟨z0, ⟨z1, z2⟩, z3⟩ := hSw; go_simp
      simp only [Act.put, List.setIfInBounds_toArray, List.set_cons_zero, List.set_cons_succ]
      refine Ri.take_d (i := 1) (v := .agg #[.int .i64 x.1.1, .int .i64 x.1.2]) (some 13) rfl rfl (by kernel_rfl) (by kernel_rfl) (by kernel_rfl) (fun _ _ _ h => h) (Or.inl ⟨by kernel_rfl, ?_⟩) hS0 ?_
      · intro w' hSw; obtain ⟨z0, ⟨z1, z2⟩, z3⟩ := hSw; go_simp
      simp only [Act.put, List.setIfInBounds_toArray, List.set_cons_zero, List.set_cons_succ]
      refine Ri.take_d (i := 3) (v := .int .i64 th) (some 15) rfl rfl (by kernel_rfl) (by kernel_rfl) (by kernel_rfl) (fun _ _ _ h => h) (Or.inl ⟨by kernel_rfl, ?_⟩) hS0 ?_
      · intro w' hSw; obtain ⟨z0, ⟨z1, z2⟩, z3⟩ := hSw; go_simp
      simp only [Act.put, List.setIfInBounds_toArray, List.set_cons_zero, List.set_cons_succ]
      refine wpAnyH_ready (rs := [2]) (by kernel_rfl) (by simp) ?_
      refine AllReadyH.cons rfl (fun K hK => ?_) AllReadyH.nil
      rw [if_pos (by rfl)]
      go_simp
      go_at_call 85
      refine (HW.out _ hr.drew).mono ?_
      rintro e w2 ⟨rfl, hb2'⟩
      have hb2 : Below W.heap.size W w2 := hr.drew.trans (hb2'.mono hr.drew.size)
      refine hK.out _ _ (hS _ hb2) (fun _ => ?_)
      clear hK K
      try simp only [Act.put, List.setIfInBounds_toArray, List.set_cons_zero, List.set_cons_succ]
      refine wpAnyH_ready (rs := [4]) (by kernel_rfl) (by simp) ?_
      refine AllReadyH.cons rfl (fun K hK => ?_) AllReadyH.nil
      go_simp
      refine hK.out _ _ (hS _ hb2) (fun _ => ?_)
      clear hK K
      try simp only [Act.put, List.setIfInBounds_toArray, List.set_cons_zero, List.set_cons_succ]
      refine wpAnyH_done (by kernel_rfl) ?_ _
      have hz2 := hb2.size
      gi_wp2
      exact ⟨⟨hb2.mono (by omega), fun k _ hlt => hb2.block k hlt⟩, ⟨⟨boxed_below b1 hb2 b1.lt, boxed_below b2 hb2 b2.lt, boxed_below b3 hb2 b3.lt⟩, fun z hz => (List.mem_append.1 hz).elim (hno z) (fun e => by rw [List.mem_singleton.1 e]; exact HQ.out)⟩, hB1.trans (hb2.mono (by omega))⟩
  case done =>
    rintro D zs W hD rfl ⟨⟨⟨b1, b2, b3⟩, hno⟩, hB1⟩ hK
    have cR := b3.cell
    have fR := b3.frozen
    have hX := Lib.hid (reaches_no ha hb hno)
    gi_wp2
    have hK' := (KeepsOthers.setCell W ⟨w.heap.size + 1 + 1, 0, none⟩ (.bool false)).same D _ hK rfl
    refine ⟨by simp, .inl ⟨_, _, rfl, run_takeDeferred hK', ?_⟩⟩
    have hc5 := cell_kept (b3.set (.bool false)).cell (grownBy_putObj' _ D (.deferred none)) (fun r e => by cases e; exact ⟨_, hK', rfl⟩)
    refine ⟨.bool false, ?_, by rw [hX.out], (hB0.trans (hB1.setCell (p := ⟨w.heap.size + 1 + 1, 0, none⟩) (show w.heap.size ≤ w.heap.size + 1 + 1 by omega) _)).trans (belowK_b (w := w) (Nat.le_refl _) _ D _ _ (by omega) hK' rfl rfl)⟩
    simp [results, Try.f90, go_sem, hc5]
  case stop =>
    rintro D pre W hD hp ⟨⟨b3, hx⟩, hB1⟩ hK
    have hX := Lib.hid (reaches_yes ha hb hp hx)
    gi_wp2
    refine ⟨by simp, .inl ⟨_, _, rfl, run_takeDeferred hK, ?_⟩⟩
    have hc5 := cell_kept b3.cell (grownBy_putObj' _ D (.deferred none)) (fun r e => by cases e; exact ⟨_, hK, rfl⟩)
    refine ⟨.bool true, ?_, by rw [hX.out], (hB0.trans hB1).trans (belowK_b (w := w) (Nat.le_refl _) W D _ _ (by omega) hK rfl rfl)⟩
    simp [results, Try.f90, go_sem, hc5]
end Go.Proofs.Ytcpcmlonbpccnaa.Ge

/- Walks over package polygon: Within, Apart. -/
namespace Go.Proofs.Ytcpcmlonbpccnaa.Ge
set_option linter.unusedVariables false
set_option linter.unusedSimpArgs false
open Go.RowKit
open Go.Proofs.Ytcpcmlonbpccnaa.Fr (Two)

set_option maxHeartbeats 4000000 in
theorem Within_any (va vb : Value) (ra rb : List Pt) (w : World) (ha : PtSl w va ra) (hb : PtSl w vb rb) :
    Calls Try.prog 43 #[va, vb] w fun e w' => e = .returned (.bool (withinB ra rb)) ∧ Below w.heap.size w w' := by
  have HVA := Lib.hid (Valid_any va ra w ha)
  have HVB := Lib.hid (fun (w1 : World) (h : Below w.heap.size w w1) => Valid_any vb rb w1 (hb.below h))
  obtain ⟨a1, a2, ea⟩ := ha.form
  obtain ⟨b1, b2, eb⟩ := hb.form
  unfold withinB
  cases hva : validB ra with
  | false =>
    rw [hva] at HVA; rw [Bool.false_and]
    subst ea eb; clear ha hb hva
    go_enter Try.func43, Try.ntmps43
    go_wp2_with fail
    refine (HVA.out).mono ?_
    rintro e w1 ⟨rfl, hx1⟩
    have hy1 := (Below.refl w.heap.size w).trans (hx1.mono (Below.refl w.heap.size w).size)
    go_wp2_with fail
    go_ret
    exact ⟨rfl, hy1⟩
  | true =>
    rw [hva] at HVA; rw [Bool.true_and]
    cases hvb : validB rb with
    | false =>
      rw [hvb] at HVB; rw [Bool.false_and]
      subst ea eb; clear ha hb hva hvb
      go_enter Try.func43, Try.ntmps43
      go_wp2_with fail
      refine (HVA.out).mono ?_
      rintro e w1 ⟨rfl, hx1⟩
      have hy1 := (Below.refl w.heap.size w).trans (hx1.mono (Below.refl w.heap.size w).size)
      go_wp2_with fail
      refine (HVB.out _ hy1).mono ?_
      rintro e w2 ⟨rfl, hx2⟩
      have hy2 := hy1.trans (hx2.mono hy1.size)
      go_wp2_with fail
      go_ret
      exact ⟨rfl, hy2⟩
    | true =>
      rw [hvb] at HVB; rw [Bool.true_and]
      have la := valid_len hva
      have lb := valid_len hvb
      have na := valid_on hva
      have nb := valid_on hvb
      have ra1 := ha.ring (by omega)
      have rb1 := hb.ring (by omega)
      have HX := Lib.hid (fun (w1 : World) (h : Below w.heap.size w w1) => crossing_any va vb ra rb na nb (by omega) (by omega) w1 (ra1.below h) (rb1.below h))
      have HR := Lib.hid (fun (th : Int) (w1 : World) (h : Below w.heap.size w w1) => reaches_any va vb ra rb th na nb (by omega) (by omega) w1 (ra1.below h) (rb1.below h))
      clear la lb na nb ra1 rb1 ha hb hva hvb
      subst ea eb
      cases hx : crossingB ra rb with
      | true =>
        rw [hx] at HX; rw [Bool.not_true, Bool.false_and]
        clear hx
        go_enter Try.func43, Try.ntmps43
        go_wp2_with fail
        refine (HVA.out).mono ?_
        rintro e w1 ⟨rfl, hx1⟩
        have hy1 := (Below.refl w.heap.size w).trans (hx1.mono (Below.refl w.heap.size w).size)
        go_wp2_with fail
        refine (HVB.out _ hy1).mono ?_
        rintro e w2 ⟨rfl, hx2⟩
        have hy2 := hy1.trans (hx2.mono hy1.size)
        go_wp2_with fail
        refine (HX.out _ hy2).mono ?_
        rintro e w3 ⟨rfl, hx3⟩
        have hy3 := hy2.trans (hx3.mono hy2.size)
        go_wp2_with fail
        go_ret
        exact ⟨rfl, hy3⟩
      | false =>
        rw [hx] at HX; rw [Bool.not_false, Bool.true_and]
        have HR1 := Lib.hid (fun w1 h => HR.out (-1) w1 h)
        cases hq : reachesB ra rb (-1) with
        | true =>
          rw [hq] at HR1
          clear hx hq
          go_enter Try.func43, Try.ntmps43
          go_wp2_with fail
          refine (HVA.out).mono ?_
          rintro e w1 ⟨rfl, hx1⟩
          have hy1 := (Below.refl w.heap.size w).trans (hx1.mono (Below.refl w.heap.size w).size)
          go_wp2_with fail
          refine (HVB.out _ hy1).mono ?_
          rintro e w2 ⟨rfl, hx2⟩
          have hy2 := hy1.trans (hx2.mono hy1.size)
          go_wp2_with fail
          refine (HX.out _ hy2).mono ?_
          rintro e w3 ⟨rfl, hx3⟩
          have hy3 := hy2.trans (hx3.mono hy2.size)
          go_wp2_with fail
          refine (HR1.out _ hy3).mono ?_
          rintro e w4 ⟨rfl, hx4⟩
          have hy4 := hy3.trans (hx4.mono hy3.size)
          go_wp2_with fail
          go_ret
          exact ⟨rfl, hy4⟩
        | false =>
          rw [hq] at HR1
          clear hx hq
          go_enter Try.func43, Try.ntmps43
          go_wp2_with fail
          refine (HVA.out).mono ?_
          rintro e w1 ⟨rfl, hx1⟩
          have hy1 := (Below.refl w.heap.size w).trans (hx1.mono (Below.refl w.heap.size w).size)
          go_wp2_with fail
          refine (HVB.out _ hy1).mono ?_
          rintro e w2 ⟨rfl, hx2⟩
          have hy2 := hy1.trans (hx2.mono hy1.size)
          go_wp2_with fail
          refine (HX.out _ hy2).mono ?_
          rintro e w3 ⟨rfl, hx3⟩
          have hy3 := hy2.trans (hx3.mono hy2.size)
          go_wp2_with fail
          refine (HR1.out _ hy3).mono ?_
          rintro e w4 ⟨rfl, hx4⟩
          have hy4 := hy3.trans (hx4.mono hy3.size)
          go_wp2_with fail
          go_ret
          exact ⟨rfl, hy4⟩

set_option maxHeartbeats 4000000 in
theorem Apart_any (va vb : Value) (ra rb : List Pt) (w : World) (ha : PtSl w va ra) (hb : PtSl w vb rb) :
    Calls Try.prog 45 #[va, vb] w fun e w' => e = .returned (.bool (apartR ra rb)) ∧ Below w.heap.size w w' := by
  have HVA := Lib.hid (Valid_any va ra w ha)
  have HVB := Lib.hid (fun (w1 : World) (h : Below w.heap.size w w1) => Valid_any vb rb w1 (hb.below h))
  obtain ⟨a1, a2, ea⟩ := ha.form
  obtain ⟨b1, b2, eb⟩ := hb.form
  unfold apartR
  cases hva : validB ra with
  | false =>
    rw [hva] at HVA; rw [Bool.false_and]
    subst ea eb; clear ha hb hva
    go_enter Try.func45, Try.ntmps45
    go_wp2_with fail
    refine (HVA.out).mono ?_
    rintro e w1 ⟨rfl, hx1⟩
    have hy1 := (Below.refl w.heap.size w).trans (hx1.mono (Below.refl w.heap.size w).size)
    go_wp2_with fail
    go_ret
    exact ⟨rfl, hy1⟩
  | true =>
    rw [hva] at HVA; rw [Bool.true_and]
    cases hvb : validB rb with
    | false =>
      rw [hvb] at HVB; rw [Bool.false_and]
      subst ea eb; clear ha hb hva hvb
      go_enter Try.func45, Try.ntmps45
      go_wp2_with fail
      refine (HVA.out).mono ?_
      rintro e w1 ⟨rfl, hx1⟩
      have hy1 := (Below.refl w.heap.size w).trans (hx1.mono (Below.refl w.heap.size w).size)
      go_wp2_with fail
      refine (HVB.out _ hy1).mono ?_
      rintro e w2 ⟨rfl, hx2⟩
      have hy2 := hy1.trans (hx2.mono hy1.size)
      go_wp2_with fail
      go_ret
      exact ⟨rfl, hy2⟩
    | true =>
      rw [hvb] at HVB; rw [Bool.true_and]
      have la := valid_len hva
      have lb := valid_len hvb
      have na := valid_on hva
      have nb := valid_on hvb
      have ra1 := ha.ring (by omega)
      have rb1 := hb.ring (by omega)
      have HX := Lib.hid (fun (w1 : World) (h : Below w.heap.size w w1) => crossing_any va vb ra rb na nb (by omega) (by omega) w1 (ra1.below h) (rb1.below h))
      have HR := Lib.hid (fun (th : Int) (w1 : World) (h : Below w.heap.size w w1) => reaches_any va vb ra rb th na nb (by omega) (by omega) w1 (ra1.below h) (rb1.below h))
      have HS := Lib.hid (fun (th : Int) (w1 : World) (h : Below w.heap.size w w1) => reaches_any vb va rb ra th nb na (by omega) (by omega) w1 (rb1.below h) (ra1.below h))
      clear la lb na nb ra1 rb1 ha hb hva hvb
      subst ea eb
      cases hx : crossingB ra rb with
      | true =>
        rw [hx] at HX; rw [Bool.not_true, Bool.false_and]
        clear hx
        go_enter Try.func45, Try.ntmps45
        go_wp2_with fail
        refine (HVA.out).mono ?_
        rintro e w1 ⟨rfl, hx1⟩
        have hy1 := (Below.refl w.heap.size w).trans (hx1.mono (Below.refl w.heap.size w).size)
        go_wp2_with fail
        refine (HVB.out _ hy1).mono ?_
        rintro e w2 ⟨rfl, hx2⟩
        have hy2 := hy1.trans (hx2.mono hy1.size)
        go_wp2_with fail
        refine (HX.out _ hy2).mono ?_
        rintro e w3 ⟨rfl, hx3⟩
        have hy3 := hy2.trans (hx3.mono hy2.size)
        go_wp2_with fail
        go_ret
        exact ⟨rfl, hy3⟩
      | false =>
        rw [hx] at HX; rw [Bool.not_false, Bool.true_and]
        have HR1 := Lib.hid (fun w1 h => HR.out (-1) w1 h)
        have HS1 := Lib.hid (fun w1 h => HS.out 1 w1 h)
        cases hp : reachesB rb ra 1 with
        | true =>
          rw [hp] at HS1; rw [Bool.not_true, Bool.false_and]
          clear hx hp
          go_enter Try.func45, Try.ntmps45
          go_wp2_with fail
          refine (HVA.out).mono ?_
          rintro e w1 ⟨rfl, hx1⟩
          have hy1 := (Below.refl w.heap.size w).trans (hx1.mono (Below.refl w.heap.size w).size)
          go_wp2_with fail
          refine (HVB.out _ hy1).mono ?_
          rintro e w2 ⟨rfl, hx2⟩
          have hy2 := hy1.trans (hx2.mono hy1.size)
          go_wp2_with fail
          refine (HX.out _ hy2).mono ?_
          rintro e w3 ⟨rfl, hx3⟩
          have hy3 := hy2.trans (hx3.mono hy2.size)
          go_wp2_with fail
          refine (HS1.out _ hy3).mono ?_
          rintro e w4 ⟨rfl, hx4⟩
          have hy4 := hy3.trans (hx4.mono hy3.size)
          go_wp2_with fail
          go_ret
          exact ⟨rfl, hy4⟩
        | false =>
          rw [hp] at HS1; rw [Bool.not_false, Bool.true_and]
          generalize reachesB ra rb (-1) = Q at *
          clear hx hp
          go_enter Try.func45, Try.ntmps45
          go_wp2_with fail
          refine (HVA.out).mono ?_
          rintro e w1 ⟨rfl, hx1⟩
          have hy1 := (Below.refl w.heap.size w).trans (hx1.mono (Below.refl w.heap.size w).size)
          go_wp2_with fail
          refine (HVB.out _ hy1).mono ?_
          rintro e w2 ⟨rfl, hx2⟩
          have hy2 := hy1.trans (hx2.mono hy1.size)
          go_wp2_with fail
          refine (HX.out _ hy2).mono ?_
          rintro e w3 ⟨rfl, hx3⟩
          have hy3 := hy2.trans (hx3.mono hy2.size)
          go_wp2_with fail
          refine (HS1.out _ hy3).mono ?_
          rintro e w4 ⟨rfl, hx4⟩
          have hy4 := hy3.trans (hx4.mono hy3.size)
          go_wp2_with fail
          refine (HR1.out _ hy4).mono ?_
          rintro e w5 ⟨rfl, hx5⟩
          have hy5 := hy4.trans (hx5.mono hy4.size)
          go_wp2_with fail
          go_ret
          exact ⟨rfl, hy5⟩
end Go.Proofs.Ytcpcmlonbpccnaa.Ge

/- Walks over package polygon: Box. -/
namespace Go.Proofs.Ytcpcmlonbpccnaa.Ge
set_option linter.unusedVariables false
set_option linter.unusedSimpArgs false
open Go.RowKit
open Go.Proofs.Ytcpcmlonbpccnaa.Fr (Two)

theorem pt_keep2 {w : World} {B C : Nat} {t : TypeId} {x y : Value} (h : Two w B t x y) (a b : Value) (hne : B ≠ C) : Two ((w.setCell ⟨C, 0, none⟩ a).setCell ⟨C, 1, none⟩ b) B t x y := by
  unfold Two at h ⊢
  rw [heap_setCell_other _ _ _ _ hne, heap_setCell_other _ _ _ _ hne]
  exact h
def errB (r : List Pt) : Int := if validB r = true then 0 else 1
def mnT (f : Pt → Int) (r : List Pt) (d : Int) (k : Nat) : Int := minI ((r.take k).map f) d
def mxT (f : Pt → Int) (r : List Pt) (d : Int) (k : Nat) : Int := maxI ((r.take k).map f) d
theorem mnT_succ (f : Pt → Int) (r : List Pt) (d : Int) (k : Nat) (h : k < r.length) : mnT f r d (k + 1) = min (mnT f r d k) (f r[k]) := by
  unfold mnT minI
  rw [List.take_succ_eq_append_getElem h, List.map_append, List.foldl_append]
  rfl
theorem mxT_succ (f : Pt → Int) (r : List Pt) (d : Int) (k : Nat) (h : k < r.length) : mxT f r d (k + 1) = max (mxT f r d k) (f r[k]) := by
  unfold mxT maxI
  rw [List.take_succ_eq_append_getElem h, List.map_append, List.foldl_append]
  rfl
theorem mnT_all (f : Pt → Int) (r : List Pt) (d : Int) : mnT f r d r.length = minI (r.map f) d := by unfold mnT; rw [List.take_length]
theorem mxT_all (f : Pt → Int) (r : List Pt) (d : Int) : mxT f r d r.length = maxI (r.map f) d := by unfold mxT; rw [List.take_length]

set_option maxRecDepth 100000 in
set_option maxHeartbeats 4000000 in
theorem Box_no (v : Value) (r : List Pt) (w : World) (hv : PtSl w v r) (h : validB r = false) :
    Calls Try.prog 35 #[v] w fun e w' => e = .returned (.tuple #[.agg #[.int .i64 0, .int .i64 0], .agg #[.int .i64 0, .int .i64 0], .int .i64 1]) ∧ Below w.heap.size w w' := by
  have HV := Lib.hid (fun (w1 : World) (h : Below w.heap.size w w1) => Valid_any v r w1 (hv.below h))
  rw [h] at HV
  obtain ⟨a, cap, rfl⟩ := hv.form
  have t0 := (Two.new w 24 (.int .i64 0) (.int .i64 0)).alloc (.cells #[.int .i64 0, .int .i64 0] 24)
  have t1 := Two.at (w := w.alloc (.cells #[.int .i64 0, .int .i64 0] 24)) (B := w.heap.size + 1) (by simp) 24 (.int .i64 0) (.int .i64 0)
  have hb0 := ((Below.refl w.heap.size w).alloc (Nat.le_refl _) (.cells #[.int .i64 0, .int .i64 0] 24)).alloc (by simp) (.cells #[.int .i64 0, .int .i64 0] 24)
  clear hv h
  go_enter Try.func35, Try.ntmps35
  go_wp2_with fail
  refine (HV.out _ hb0).mono ?_
  rintro e w1 ⟨rfl, hb1⟩
  have s0 := t0.below hb1 t0.lt
  have s1 := t1.below hb1 t1.lt
  obtain ⟨c1, c2, c3, c4⟩ := s0.facts
  obtain ⟨d1, d2, d3, d4⟩ := s1.facts
  have u0 := pt_keep2 (C := w.heap.size + 1) (two_set2 s0 (.int .i64 0) (.int .i64 0)) (.int .i64 0) (.int .i64 0) (by omega)
  have u1 := two_set2 (pt_keep2 (C := w.heap.size) s1 (.int .i64 0) (.int .i64 0) (by omega)) (.int .i64 0) (.int .i64 0)
  have hb3 := set2_below (set2_below (hb0.trans (hb1.mono hb0.size)) (Nat.le_refl _) (.int .i64 0) (.int .i64 0)) (Nat.le_succ _) (.int .i64 0) (.int .i64 0)
  go_wp2_with fail
  obtain ⟨p1, p2, -, -⟩ := u0.facts
  obtain ⟨q1, q2, -, -⟩ := u1.facts
  refine bodyPost_ret (v := .tuple #[.agg #[.int .i64 0, .int .i64 0], .agg #[.int .i64 0, .int .i64 0], .int .i64 1]) ?_ rfl ⟨rfl, hb3⟩
  simp [results, Try.results35, go_sem, p1, p2, q1, q2]
set_option maxRecDepth 100000 in
set_option maxHeartbeats 8000000 in
theorem Box_yes (v : Value) (r : List Pt) (w : World) (hv : PtSl w v r) (h : validB r = true) (x0 y0 : Int) (e0 : nth r 0 = (x0, y0)) :
    Calls Try.prog 35 #[v] w fun e w' => e = .returned (.tuple #[.agg #[.int .i64 (mnT (·.1) r x0 r.length), .int .i64 (mnT (·.2) r y0 r.length)], .agg #[.int .i64 (mxT (·.1) r x0 r.length), .int .i64 (mxT (·.2) r y0 r.length)], .int .i64 0]) ∧ Below w.heap.size w w' := by
  have HV := Lib.hid (fun (w1 : World) (h : Below w.heap.size w w1) => Valid_any v r w1 (hv.below h))
  rw [h] at HV
  have hl := valid_len h
  obtain ⟨b, off, cap, rfl, hbw, hcells⟩ := hv.ring (by omega)
  have HC := Lib.hid (fun (w' : World) (hw : Below w.heap.size w w') i (hi : i < r.length) => (hcells i hi).below hw hbw)
  have t0 := (Two.new w 24 (.int .i64 0) (.int .i64 0)).alloc (.cells #[.int .i64 0, .int .i64 0] 24)
  have t1 := Two.at (w := w.alloc (.cells #[.int .i64 0, .int .i64 0] 24)) (B := w.heap.size + 1) (by simp) 24 (.int .i64 0) (.int .i64 0)
  have hb0 := ((Below.refl w.heap.size w).alloc (Nat.le_refl _) (.cells #[.int .i64 0, .int .i64 0] 24)).alloc (by simp) (.cells #[.int .i64 0, .int .i64 0] 24)
  obtain ⟨l1, l2⟩ := hl
  rw [nth_lt (show 0 < r.length by omega)] at e0
  clear hv h hcells
  go_enter Try.func35, Try.ntmps35
  go_wp2_with fail
  refine (HV.out _ hb0).mono ?_
  rintro e w1 ⟨rfl, hb1⟩
  have s0 := t0.below hb1 t0.lt
  have s1 := t1.below hb1 t1.lt
  clear t0 t1
  have hb2 := hb0.trans (hb1.mono hb0.size)
  have hz := hb2.size
  have hw2 := s1.lt
  obtain ⟨c1, c2⟩ := HC.out w1 hb2 0 (by omega)
  rw [Nat.zero_mul, Nat.add_zero] at c1 c2
  have g1 : (0 : Int) < (r.length : Int) := by omega
  rw [e0] at c1 c2
  dsimp only at c1 c2
  clear e0 hb0 hb1
  have hrn : ¬ r = [] := fun e => by rw [e] at l1; simp at l1
  go_upto_region 3 with fail
  have hS : ∀ w' : World, Below w1.heap.size w1 w' → (w'.cell? ⟨b, off, none⟩ = some (.int .i64 x0) ∧ w'.cell? ⟨b, off + 1, none⟩ = some (.int .i64 y0)) := fun w' hb => ⟨(hb.cell (p := ⟨b, off, none⟩) (show b < w1.heap.size by omega)).trans c1, (hb.cell (p := ⟨b, off + 1, none⟩) (show b < w1.heap.size by omega)).trans c2⟩
  have hr := Below.refl w1.heap.size w1
  go_cut [5, 6] (fun p q wx => ∃ Bp Bq : Nat, p = .pointer (some ⟨Bp, 0, none⟩) ∧ q = .pointer (some ⟨Bq, 0, none⟩) ∧ (w1.heap.size ≤ Bp ∧ w1.heap.size ≤ Bq ∧ Bp ≠ Bq) ∧ Two wx Bp 24 (.int .i64 x0) (.int .i64 y0) ∧ Two wx Bq 24 (.int .i64 x0) (.int .i64 y0) ∧ Below w1.heap.size w1 wx)
  case first =>
    have hbz := fun (o1 o2 : Obj) => ((hr.alloc (Nat.le_refl _) o1).alloc (by simp) o2).drew
    have vA : Two ((w1.alloc (.cells #[.int .i64 x0, .int .i64 y0] 24)).alloc (.cells #[.int .i64 x0, .int .i64 y0] 24)).drew w1.heap.size 24 (.int .i64 x0) (.int .i64 y0) := (Two.new w1 24 (.int .i64 x0) (.int .i64 y0)).alloc (.cells #[.int .i64 x0, .int .i64 y0] 24)
    have vB : Two ((w1.alloc (.cells #[.int .i64 x0, .int .i64 y0] 24)).alloc (.cells #[.int .i64 x0, .int .i64 y0] 24)).drew (w1.heap.size + 1) 24 (.int .i64 x0) (.int .i64 y0) := Two.at (w := w1.alloc (.cells #[.int .i64 x0, .int .i64 y0] 24)) (B := w1.heap.size + 1) (by simp) 24 (.int .i64 x0) (.int .i64 y0)
    have hS0 := hS _ hr.drew
    refine wp_region_held_drew (S := fun w' => w'.cell? ⟨b, off, none⟩ = some (.int .i64 x0) ∧ w'.cell? ⟨b, off + 1, none⟩ = some (.int .i64 y0)) (by kernel_rfl) hS0 (fun _ => ?_)
    refine Ri.take_d (i := 0) (v := .slice (some ⟨b, off, none⟩) r.length cap) (some 14) rfl rfl (by kernel_rfl) (by kernel_rfl) (by kernel_rfl) (fun _ _ _ h => h) (Or.inl ⟨by kernel_rfl, ?_⟩) hS0 ?_
    · intro w' hSw; obtain ⟨z0, z1⟩ := hSw; go_simp; (try exact fun h => absurd h hrn)
    simp only [Act.put, List.setIfInBounds_toArray, List.set_cons_zero, List.set_cons_succ]
    refine Ri.take_d (i := 1) (v := .pointer (some ⟨b, off, none⟩)) (some 15) rfl rfl (by kernel_rfl) (by kernel_rfl) (by kernel_rfl) (fun _ _ _ h => h) (Or.inl ⟨by kernel_rfl, ?_⟩) hS0 ?_
    · intro w' hSw; obtain ⟨z0, z1⟩ := hSw; go_simp; (try exact fun h => absurd h hrn)
    simp only [Act.put, List.setIfInBounds_toArray, List.set_cons_zero, List.set_cons_succ]
    refine Ri.take_d (i := 2) (v := .agg #[.int .i64 x0, .int .i64 y0]) (some 16) rfl rfl (by kernel_rfl) (by kernel_rfl) (by kernel_rfl) (fun _ _ _ h => h) (Or.inl ⟨by kernel_rfl, ?_⟩) hS0 ?_
    · intro w' hSw; obtain ⟨z0, z1⟩ := hSw; go_simp; (try exact fun h => absurd h hrn)
    simp only [Act.put, List.setIfInBounds_toArray, List.set_cons_zero, List.set_cons_succ]
    refine Ri.take_d (i := 3) (v := .slice (some ⟨b, off, none⟩) r.length cap) (some 17) rfl rfl (by kernel_rfl) (by kernel_rfl) (by kernel_rfl) (fun _ _ _ h => h) (Or.inl ⟨by kernel_rfl, ?_⟩) hS0 ?_
    · intro w' hSw; obtain ⟨z0, z1⟩ := hSw; go_simp; (try exact fun h => absurd h hrn)
    simp only [Act.put, List.setIfInBounds_toArray, List.set_cons_zero, List.set_cons_succ]
    refine Ri.take_d (i := 4) (v := .pointer (some ⟨b, off, none⟩)) (some 18) rfl rfl (by kernel_rfl) (by kernel_rfl) (by kernel_rfl) (fun _ _ _ h => h) (Or.inl ⟨by kernel_rfl, ?_⟩) hS0 ?_
    · intro w' hSw; obtain ⟨z0, z1⟩ := hSw; go_simp; (try exact fun h => absurd h hrn)
    simp only [Act.put, List.setIfInBounds_toArray, List.set_cons_zero, List.set_cons_succ]
    refine Ri.take_d (i := 5) (v := .agg #[.int .i64 x0, .int .i64 y0]) (some 19) rfl rfl (by kernel_rfl) (by kernel_rfl) (by kernel_rfl) (fun _ _ _ h => h) (Or.inl ⟨by kernel_rfl, ?_⟩) hS0 ?_
    · intro w' hSw; obtain ⟨z0, z1⟩ := hSw; go_simp; (try exact fun h => absurd h hrn)
    simp only [Act.put, List.setIfInBounds_toArray, List.set_cons_zero, List.set_cons_succ]
    refine wpAnyH_ready (rs := [6, 7]) (by kernel_rfl) (by simp) ?_
    refine AllReadyH.cons rfl (fun K hK => ?c1) (AllReadyH.cons rfl (fun K hK => ?c2) AllReadyH.nil)
    case' c1 =>
      go_simp
      refine hK.out _ _ (hS _ ((hr.alloc (Nat.le_refl _) _).drew)) (fun _ => ?_)
      clear hK K
      try simp only [Act.put, List.setIfInBounds_toArray, List.set_cons_zero, List.set_cons_succ]
      refine wpAnyH_ready (rs := [7]) (by kernel_rfl) (by simp) ?_
      refine AllReadyH.cons rfl (fun K hK => ?_) AllReadyH.nil
      go_simp
      refine hK.out _ _ (hS _ (hbz _ _)) (fun _ => ?_)
      clear hK K
      try simp only [Act.put, List.setIfInBounds_toArray, List.set_cons_zero, List.set_cons_succ]
      refine wpAnyH_ready (rs := [8]) (by kernel_rfl) (by simp) ?_
      refine AllReadyH.cons rfl (fun K hK => ?_) AllReadyH.nil
      go_simp
      refine hK.out _ _ (hS _ (hbz _ _)) (fun _ => ?_)
      clear hK K
      try simp only [Act.put, List.setIfInBounds_toArray, List.set_cons_zero, List.set_cons_succ]
      refine wpAnyH_ready (rs := [9]) (by kernel_rfl) (by simp) ?_
      refine AllReadyH.cons rfl (fun K hK => ?_) AllReadyH.nil
      go_simp
      refine hK.out _ _ (hS _ (hbz _ _)) (fun _ => ?_)
      clear hK K
      try simp only [Act.put, List.setIfInBounds_toArray, List.set_cons_zero, List.set_cons_succ]
      refine wpAnyH_done (by kernel_rfl) ?_ _
      go_wp2_with fail
      go_meet
      exact ⟨w1.heap.size, w1.heap.size + 1, rfl, rfl, ⟨by omega, by omega, by omega⟩, vA, vB, hbz _ _⟩
    case' c2 =>
      go_simp
      refine hK.out _ _ (hS _ ((hr.alloc (Nat.le_refl _) _).drew)) (fun _ => ?_)
      clear hK K
      try simp only [Act.put, List.setIfInBounds_toArray, List.set_cons_zero, List.set_cons_succ]
      refine wpAnyH_ready (rs := [6]) (by kernel_rfl) (by simp) ?_
      refine AllReadyH.cons rfl (fun K hK => ?_) AllReadyH.nil
      go_simp
      refine hK.out _ _ (hS _ (hbz _ _)) (fun _ => ?_)
      clear hK K
      try simp only [Act.put, List.setIfInBounds_toArray, List.set_cons_zero, List.set_cons_succ]
      refine wpAnyH_ready (rs := [8]) (by kernel_rfl) (by simp) ?_
      refine AllReadyH.cons rfl (fun K hK => ?_) AllReadyH.nil
      go_simp
      refine hK.out _ _ (hS _ (hbz _ _)) (fun _ => ?_)
      clear hK K
      try simp only [Act.put, List.setIfInBounds_toArray, List.set_cons_zero, List.set_cons_succ]
      refine wpAnyH_ready (rs := [9]) (by kernel_rfl) (by simp) ?_
      refine AllReadyH.cons rfl (fun K hK => ?_) AllReadyH.nil
      go_simp
      refine hK.out _ _ (hS _ (hbz _ _)) (fun _ => ?_)
      clear hK K
      try simp only [Act.put, List.setIfInBounds_toArray, List.set_cons_zero, List.set_cons_succ]
      refine wpAnyH_done (by kernel_rfl) ?_ _
      go_wp2_with fail
      go_meet
      exact ⟨w1.heap.size + 1, w1.heap.size, rfl, rfl, ⟨by omega, by omega, by omega⟩, vB, vA, hbz _ _⟩
  case rest =>
    obtain ⟨Bp, Bq, rfl, rfl, ⟨n1, n2, n3⟩, tp, tq, hbx⟩ := hcut
    clear hS hr c1 c2
    go_upto_region 5 with fail
    go_loopw [22] (fun i wr => ∃ k : Nat, i = .int .i64 (k : Int) ∧ k ≤ r.length ∧ Two wr Bp 24 (.int .i64 (mnT (·.1) r x0 k)) (.int .i64 (mnT (·.2) r y0 k)) ∧ Two wr Bq 24 (.int .i64 (mxT (·.1) r x0 k)) (.int .i64 (mxT (·.2) r y0 k)) ∧ Below w1.heap.size w1 wr) (fun i _ => r.length - (intOf i).toNat)
    case atStart => exact ⟨0, rfl, Nat.zero_le _, tp, tq, hbx⟩
    case round =>
      obtain ⟨k, rfl, hk, hp, hq, hbel⟩ := hrel
      by_cases hlt : k < r.length
      · have hzr := hbel.size
        obtain ⟨c1, c2⟩ := HC.out wr (hb2.trans (hbel.mono hz)) k hlt
        have i1 := mnT_succ (·.1) r x0 k hlt
        have i2 := mnT_succ (·.2) r y0 k hlt
        have i3 := mxT_succ (·.1) r x0 k hlt
        have i4 := mxT_succ (·.2) r y0 k hlt
        generalize r[k] = P at *
        obtain ⟨px, py⟩ := P
        dsimp only at c1 c2 i1 i2 i3 i4
        have HI := Lib.hid (And.intro i1 (And.intro i2 (And.intro i3 i4)))
        clear i1 i2 i3 i4
        obtain ⟨lx, hlx⟩ : ∃ q, mnT (·.1) r x0 k = q := ⟨_, rfl⟩
        obtain ⟨ly, hly⟩ : ∃ q, mnT (·.2) r y0 k = q := ⟨_, rfl⟩
        obtain ⟨ux, hux⟩ : ∃ q, mxT (·.1) r x0 k = q := ⟨_, rfl⟩
        obtain ⟨uy, huy⟩ : ∃ q, mxT (·.2) r y0 k = q := ⟨_, rfl⟩
        rw [hlx, hly] at hp
        rw [hux, huy] at hq
        rw [hlx, hly, hux, huy] at HI
        clear hlx hly hux huy
        have hp1 := hp.alloc (.cells #[.int .i64 px, .int .i64 py] 24)
        have hq1 := hq.alloc (.cells #[.int .i64 px, .int .i64 py] 24)
        have tE := Two.new wr 24 (.int .i64 px) (.int .i64 py)
        have hbA := hbel.alloc hzr (.cells #[.int .i64 px, .int .i64 py] 24)
        have hpl := hp.lt
        have hql := hq.lt
        go_upto_region 7 with fail
        generalize hA : wr.alloc (.cells #[.int .i64 px, .int .i64 py] 24) = A at *
        clear c1 c2 hA
        obtain ⟨f1, f2, f3, f4⟩ := hp1.facts
        obtain ⟨g1, g2, -, -⟩ := tE.facts
        go_upto_region 8 with fail
        have hp2 := two_set2 hp1 (.int .i64 (min lx px)) (.int .i64 (min ly py))
        have hq2 := pt_keep2 (C := Bp) hq1 (.int .i64 (min lx px)) (.int .i64 (min ly py)) (fun e => n3 e.symm)
        have tE2 := pt_keep2 (C := Bp) tE (.int .i64 (min lx px)) (.int .i64 (min ly py)) (by omega)
        have hbB := set2_below hbA n1 (.int .i64 (min lx px)) (.int .i64 (min ly py))
        clear f1 f2 f3 f4 g1 g2 hp1 hq1 tE hbA
        generalize (A.setCell ⟨Bp, 0, none⟩ (.int .i64 (min lx px))).setCell ⟨Bp, 1, none⟩ (.int .i64 (min ly py)) = A2 at *
        obtain ⟨f1, f2, f3, f4⟩ := hq2.facts
        obtain ⟨g1, g2, -, -⟩ := tE2.facts
        have hq3 := two_set2 hq2 (.int .i64 (max ux px)) (.int .i64 (max uy py))
        have hp3 := pt_keep2 (C := Bq) hp2 (.int .i64 (max ux px)) (.int .i64 (max uy py)) n3
        have hbC := set2_below hbB n2 (.int .i64 (max ux px)) (.int .i64 (max uy py))
        go_wp2_with fail
        go_roundw
        case rel => exact ⟨k + 1, by go_num, by omega, by rw [HI.out.1, HI.out.2.1]; exact hp3, by rw [HI.out.2.2.1, HI.out.2.2.2]; exact hq3, hbC⟩
        case measure => simp [intOf]; omega
      · obtain rfl : k = r.length := by omega
        have v0 := s0.below hbel s0.lt
        have v1 := s1.below hbel s1.lt
        have hbw := hb2.trans (hbel.mono hz)
        obtain ⟨lx, hlx⟩ : ∃ q, mnT (·.1) r x0 r.length = q := ⟨_, rfl⟩
        obtain ⟨ly, hly⟩ : ∃ q, mnT (·.2) r y0 r.length = q := ⟨_, rfl⟩
        obtain ⟨ux, hux⟩ : ∃ q, mxT (·.1) r x0 r.length = q := ⟨_, rfl⟩
        obtain ⟨uy, huy⟩ : ∃ q, mxT (·.2) r y0 r.length = q := ⟨_, rfl⟩
        have hpd : Two wr Bp 24 (.int .i64 lx) (.int .i64 ly) := by rw [← hlx, ← hly]; exact hp
        have hqd : Two wr Bq 24 (.int .i64 ux) (.int .i64 uy) := by rw [← hux, ← huy]; exact hq
        clear hp hq
        have HF := Lib.hid (And.intro hlx (And.intro hly (And.intro hux huy)))
        clear hlx hly hux huy
        have v0d : Two wr w.heap.size 24 (.int .i64 0) (.int .i64 0) := v0
        have v1d : Two wr (w.heap.size + 1) 24 (.int .i64 0) (.int .i64 0) := v1
        have e0 := two_set2 v0d (.int .i64 lx) (.int .i64 ly)
        have e1 := pt_keep2 (C := w.heap.size) v1d (.int .i64 lx) (.int .i64 ly) (by omega)
        have ep := pt_keep2 (C := w.heap.size) hpd (.int .i64 lx) (.int .i64 ly) (by omega)
        have eq := pt_keep2 (C := w.heap.size) hqd (.int .i64 lx) (.int .i64 ly) (by omega)
        have g0 := pt_keep2 (C := w.heap.size + 1) e0 (.int .i64 ux) (.int .i64 uy) (by omega)
        have g1' := two_set2 e1 (.int .i64 ux) (.int .i64 uy)
        have gp := pt_keep2 (C := w.heap.size + 1) ep (.int .i64 ux) (.int .i64 uy) (by omega)
        have gq := pt_keep2 (C := w.heap.size + 1) eq (.int .i64 ux) (.int .i64 uy) (by omega)
        have hb3 := (set2_below (set2_below hbw (Nat.le_refl _) (.int .i64 lx) (.int .i64 ly)) (Nat.le_succ _) (.int .i64 ux) (.int .i64 uy)).drew
        go_upto_region 10 with fail
        have hS0 : ∀ {W : World}, Two W Bp 24 (.int .i64 lx) (.int .i64 ly) → Two W Bq 24 (.int .i64 ux) (.int .i64 uy) → ((W.cell? ⟨Bp, 0, none⟩ = some (.int .i64 lx) ∧ W.cell? ⟨Bp, 1, none⟩ = some (.int .i64 ly)) ∧ W.cell? ⟨Bq, 0, none⟩ = some (.int .i64 ux) ∧ W.cell? ⟨Bq, 1, none⟩ = some (.int .i64 uy)) := fun h k => ⟨⟨h.facts.1, h.facts.2.1⟩, k.facts.1, k.facts.2.1⟩
        refine wp_region_held_drew (S := fun w' => (w'.cell? ⟨Bp, 0, none⟩ = some (.int .i64 lx) ∧ w'.cell? ⟨Bp, 1, none⟩ = some (.int .i64 ly)) ∧ w'.cell? ⟨Bq, 0, none⟩ = some (.int .i64 ux) ∧ w'.cell? ⟨Bq, 1, none⟩ = some (.int .i64 uy)) (by kernel_rfl) (hS0 hpd hqd) (fun _ => ?_)
        refine Ri.take_d (i := 0) (v := .agg #[.int .i64 lx, .int .i64 ly]) (some 49) rfl rfl (by kernel_rfl) (by kernel_rfl) (by kernel_rfl) (fun _ _ _ h => h) (Or.inl ⟨by kernel_rfl, ?_⟩) (hS0 hpd hqd) ?_
        · intro w' hSw; obtain ⟨⟨z0, z1⟩, z2, z3⟩ := hSw; go_simp
        simp only [Act.put, List.setIfInBounds_toArray, List.set_cons_zero, List.set_cons_succ]
        refine Ri.take_d (i := 1) (v := .agg #[.int .i64 ux, .int .i64 uy]) (some 50) rfl rfl (by kernel_rfl) (by kernel_rfl) (by kernel_rfl) (fun _ _ _ h => h) (Or.inl ⟨by kernel_rfl, ?_⟩) (hS0 hpd hqd) ?_
        · intro w' hSw; obtain ⟨⟨z0, z1⟩, z2, z3⟩ := hSw; go_simp
        simp only [Act.put, List.setIfInBounds_toArray, List.set_cons_zero, List.set_cons_succ]
        obtain ⟨k1, k2, k3, k4⟩ := v0d.facts
        refine wpAnyH_ready (rs := [2]) (by kernel_rfl) (by simp) ?_
        refine AllReadyH.cons rfl (fun K hK => ?_) AllReadyH.nil
        go_simp
        refine hK.out _ _ (hS0 ep eq) (fun _ => ?_)
        clear hK K k1 k2 k3 k4
        try simp only [Act.put, List.setIfInBounds_toArray, List.set_cons_zero, List.set_cons_succ]
        obtain ⟨k1, k2, k3, k4⟩ := e1.facts
        refine wpAnyH_ready (rs := [3]) (by kernel_rfl) (by simp) ?_
        refine AllReadyH.cons rfl (fun K hK => ?_) AllReadyH.nil
        go_simp
        refine hK.out _ _ (hS0 gp gq) (fun _ => ?_)
        clear hK K k1 k2 k3 k4
        try simp only [Act.put, List.setIfInBounds_toArray, List.set_cons_zero, List.set_cons_succ]
        refine wpAnyH_ready (rs := [4]) (by kernel_rfl) (by simp) ?_
        refine AllReadyH.cons rfl (fun K hK => ?_) AllReadyH.nil
        go_simp
        refine hK.out _ _ (hS0 gp gq) (fun _ => ?_)
        clear hK K
        try simp only [Act.put, List.setIfInBounds_toArray, List.set_cons_zero, List.set_cons_succ]
        refine wpAnyH_done (by kernel_rfl) ?_ _
        obtain ⟨p1, p2, -, -⟩ := g0.facts
        obtain ⟨q1, q2, -, -⟩ := g1'.facts
        go_wp2_with fail
        refine bodyPost_ret (v := .tuple #[.agg #[.int .i64 lx, .int .i64 ly], .agg #[.int .i64 ux, .int .i64 uy], .int .i64 0]) ?_ rfl ⟨by rw [HF.out.1, HF.out.2.1, HF.out.2.2.1, HF.out.2.2.2], hb3⟩
        simp [results, Try.results35, go_sem, p1, p2, q1, q2]
theorem Box_any (v : Value) (r : List Pt) (w : World) (hv : PtSl w v r) :
    Calls Try.prog 35 #[v] w fun e w' => e = .returned (.tuple #[.agg #[.int .i64 (lowP r).1, .int .i64 (lowP r).2], .agg #[.int .i64 (highP r).1, .int .i64 (highP r).2], .int .i64 (errB r)]) ∧ Below w.heap.size w w' := by
  unfold lowP highP errB
  cases hb : validB r with
  | false => simpa using Box_no v r w hv hb
  | true =>
    have h := Box_yes v r w hv hb (nth r 0).1 (nth r 0).2 rfl
    rw [mnT_all, mnT_all, mxT_all, mxT_all] at h
    simpa using h
end Go.Proofs.Ytcpcmlonbpccnaa.Ge

/- The head of layer 8's laws: the chapter's examples. -/
namespace Go.Proofs.Ytcpcmlonbpccnaa.Ge
set_option linter.unusedVariables false
set_option linter.unusedSimpArgs false
open Go.RowKit
open Go.Proofs.Ytcpcmlonbpccnaa.Fr (Two)

def rA : List Pt := [(0, 0), (4, 0), (4, 4), (0, 4)]
def rB : List Pt := [(0, 0), (4, 0), (4, 4), (2, 2), (0, 4)]
def rC : List Pt := [(0, 4), (2, 2), (4, 4)]
def rD : List Pt := [(0, 4), (4, 4), (4, 0), (0, 0)]
def rE : List Pt := [(0, 0), (2, 0), (4, 0), (4, 4)]
theorem Pts.sl {w : World} {b : Nat} {l : List Pt} (h : Pts w b l) (h0 : 0 < l.length) (h1 : l.length ≤ 1000) : PtSl w (.slice (some ⟨b, 0, none⟩) l.length l.length) l :=
  .inr ⟨b, 0, l.length, rfl, h0, h.1, ⟨Nat.le_refl _, by unfold maxLen; omega⟩, fun i hi => by rw [Nat.zero_add]; exact h.2 i hi⟩
theorem rA_sl (w : World) : PtSl (w.alloc (.cells #[.int .i64 0, .int .i64 0, .int .i64 4, .int .i64 0, .int .i64 4, .int .i64 4, .int .i64 0, .int .i64 4] 24)) (.slice (some ⟨w.heap.size, 0, none⟩) 4 4) rA := by
  refine Pts.sl (l := rA) (pts_new rfl _ _ _ fun i hi => ?_) (by decide) (by decide)
  have hi : i < 4 := hi
  obtain rfl | rfl | rfl | rfl : i = 0 ∨ i = 1 ∨ i = 2 ∨ i = 3 := by omega
  all_goals exact ⟨rfl, rfl⟩
theorem rB_sl (w : World) : PtSl (w.alloc (.cells #[.int .i64 0, .int .i64 0, .int .i64 4, .int .i64 0, .int .i64 4, .int .i64 4, .int .i64 2, .int .i64 2, .int .i64 0, .int .i64 4] 24)) (.slice (some ⟨w.heap.size, 0, none⟩) 5 5) rB := by
  refine Pts.sl (l := rB) (pts_new rfl _ _ _ fun i hi => ?_) (by decide) (by decide)
  have hi : i < 5 := hi
  obtain rfl | rfl | rfl | rfl | rfl : i = 0 ∨ i = 1 ∨ i = 2 ∨ i = 3 ∨ i = 4 := by omega
  all_goals exact ⟨rfl, rfl⟩
theorem rC_sl (w : World) : PtSl (w.alloc (.cells #[.int .i64 0, .int .i64 4, .int .i64 2, .int .i64 2, .int .i64 4, .int .i64 4] 24)) (.slice (some ⟨w.heap.size, 0, none⟩) 3 3) rC := by
  refine Pts.sl (l := rC) (pts_new rfl _ _ _ fun i hi => ?_) (by decide) (by decide)
  have hi : i < 3 := hi
  obtain rfl | rfl | rfl : i = 0 ∨ i = 1 ∨ i = 2 := by omega
  all_goals exact ⟨rfl, rfl⟩
theorem rD_sl (w : World) : PtSl (w.alloc (.cells #[.int .i64 0, .int .i64 4, .int .i64 4, .int .i64 4, .int .i64 4, .int .i64 0, .int .i64 0, .int .i64 0] 24)) (.slice (some ⟨w.heap.size, 0, none⟩) 4 4) rD := by
  refine Pts.sl (l := rD) (pts_new rfl _ _ _ fun i hi => ?_) (by decide) (by decide)
  have hi : i < 4 := hi
  obtain rfl | rfl | rfl | rfl : i = 0 ∨ i = 1 ∨ i = 2 ∨ i = 3 := by omega
  all_goals exact ⟨rfl, rfl⟩
theorem rE_sl (w : World) : PtSl (w.alloc (.cells #[.int .i64 0, .int .i64 0, .int .i64 2, .int .i64 0, .int .i64 4, .int .i64 0, .int .i64 4, .int .i64 4] 24)) (.slice (some ⟨w.heap.size, 0, none⟩) 4 4) rE := by
  refine Pts.sl (l := rE) (pts_new rfl _ _ _ fun i hi => ?_) (by decide) (by decide)
  have hi : i < 4 := hi
  obtain rfl | rfl | rfl | rfl : i = 0 ∨ i = 1 ∨ i = 2 ∨ i = 3 := by omega
  all_goals exact ⟨rfl, rfl⟩
theorem square_any (w : World) :
    Calls Try.prog 77 #[] w fun e w' => e = .returned (.slice (some ⟨w.heap.size, 0, none⟩) 4 4) ∧ w' = w.alloc (.cells #[.int .i64 0, .int .i64 0, .int .i64 4, .int .i64 0, .int .i64 4, .int .i64 4, .int .i64 0, .int .i64 4] 24) := by
  go_enter Try.func77, Try.ntmps77
  go_wp2_with fail
  go_ret
  exact ⟨rfl, rfl⟩

set_option maxRecDepth 100000 in
set_option maxHeartbeats 8000000 in
theorem head8_any (w : World) :
    Calls Try.prog 33 #[] w fun e w' => e = .returned (.bool true) ∧ Below w.heap.size w w' := by
  have HBX := Lib.hid (fun (v : Value) (w : World) (h : PtSl w v rB) => Box_any v rB  w h)
  rw [show lowP rB = (0, 0) by decide +kernel] at HBX
  rw [show highP rB = (4, 4) by decide +kernel] at HBX
  rw [show errB rB = 0 by decide +kernel] at HBX
  have HTA := Lib.hid (fun (v : Value) (w : World) (h : PtSl w v rA) => Twice_any v rA  w h)
  rw [show twiceV rA = 32 by decide +kernel] at HTA
  have HTB := Lib.hid (fun (v : Value) (w : World) (h : PtSl w v rB) => Twice_any v rB  w h)
  rw [show twiceV rB = 24 by decide +kernel] at HTB
  have HWA := Lib.hid (fun (v : Value) (w : World) (h : PtSl w v rA) => Where_any v rA 2 3 w h)
  rw [show whereV rA 2 3 = 1 by decide +kernel] at HWA
  have HWB := Lib.hid (fun (v : Value) (w : World) (h : PtSl w v rB) => Where_any v rB 2 3 w h)
  rw [show whereV rB 2 3 = -1 by decide +kernel] at HWB
  have HWC := Lib.hid (fun (v : Value) (w : World) (h : PtSl w v rB) => Where_any v rB 2 2 w h)
  rw [show whereV rB 2 2 = 0 by decide +kernel] at HWC
  have HWD := Lib.hid (fun (v : Value) (w : World) (h : PtSl w v rA) => Where_any v rA 5 5 w h)
  rw [show whereV rA 5 5 = -1 by decide +kernel] at HWD
  have HVD := Lib.hid (fun (v : Value) (w : World) (h : PtSl w v rD) => Valid_any v rD  w h)
  rw [show validB rD = false by decide +kernel] at HVD
  have HVE := Lib.hid (fun (v : Value) (w : World) (h : PtSl w v rE) => Valid_any v rE  w h)
  rw [show validB rE = false by decide +kernel] at HVE
  have HI1 := Lib.hid (fun (v u : Value) (w : World) (h : PtSl w v rB) (k : PtSl w u rA) => Within_any v u rB rA w h k)
  rw [show withinB rB rA = true by decide +kernel] at HI1
  have HI2 := Lib.hid (fun (v u : Value) (w : World) (h : PtSl w v rA) (k : PtSl w u rB) => Within_any v u rA rB w h k)
  rw [show withinB rA rB = false by decide +kernel] at HI2
  have HP1 := Lib.hid (fun (v u : Value) (w : World) (h : PtSl w v rB) (k : PtSl w u rC) => Apart_any v u rB rC w h k)
  rw [show apartR rB rC = true by decide +kernel] at HP1
  have HP2 := Lib.hid (fun (v u : Value) (w : World) (h : PtSl w v rA) (k : PtSl w u rC) => Apart_any v u rA rC w h k)
  rw [show apartR rA rC = false by decide +kernel] at HP2
  dsimp only at HBX
  go_enter Try.func33, Try.ntmps33
  go_wp2_with fail
  refine (square_any _).mono ?_
  rintro e w1 ⟨rfl, rfl⟩
  have a0 := rA_sl w
  have q0 := (Below.refl w.heap.size w).alloc (Nat.le_refl _) (.cells #[.int .i64 0, .int .i64 0, .int .i64 4, .int .i64 0, .int .i64 4, .int .i64 4, .int .i64 0, .int .i64 4] 24)
  generalize hW : w.alloc (.cells #[.int .i64 0, .int .i64 0, .int .i64 4, .int .i64 0, .int .i64 4, .int .i64 4, .int .i64 0, .int .i64 4] 24) = V at *
  have hsz : V.heap.size = w.heap.size + 1 := by rw [← hW]; simp
  clear hW
  have b0 := rB_sl V
  have c0 := rC_sl (V.alloc (.cells #[.int .i64 0, .int .i64 0, .int .i64 4, .int .i64 0, .int .i64 4, .int .i64 4, .int .i64 2, .int .i64 2, .int .i64 0, .int .i64 4] 24))
  have z1 := (Below.refl V.heap.size V).alloc (Nat.le_refl _) (.cells #[.int .i64 0, .int .i64 0, .int .i64 4, .int .i64 0, .int .i64 4, .int .i64 4, .int .i64 2, .int .i64 2, .int .i64 0, .int .i64 4] 24)
  have z2 := (Below.refl (V.alloc (.cells #[.int .i64 0, .int .i64 0, .int .i64 4, .int .i64 0, .int .i64 4, .int .i64 4, .int .i64 2, .int .i64 2, .int .i64 0, .int .i64 4] 24)).heap.size (V.alloc (.cells #[.int .i64 0, .int .i64 0, .int .i64 4, .int .i64 0, .int .i64 4, .int .i64 4, .int .i64 2, .int .i64 2, .int .i64 0, .int .i64 4] 24))).alloc (Nat.le_refl _) (.cells #[.int .i64 0, .int .i64 4, .int .i64 2, .int .i64 2, .int .i64 4, .int .i64 4] 24)
  have a1 := (a0.below z1).below z2
  have b1 := b0.below z2
  have c1 := c0
  have q1 := (q0.trans (z1.mono q0.size)).trans (z2.mono (q0.trans (z1.mono q0.size)).size)
  clear a0 b0 c0 q0 z1 z2
  simp only [World.size_alloc] at c1
  rw [hsz] at b1 c1
  go_wp2_with fail
  refine (HBX.out _ _ b1).mono ?_
  rintro e v2 ⟨rfl, x2⟩
  have a2 := a1.below x2
  clear a1
  have b2 := b1.below x2
  clear b1
  have c2 := c1.below x2
  clear c1
  have q2 := q1.trans (x2.mono q1.size)
  clear q1 x2
  have y1 := (Below.refl v2.heap.size v2).alloc (Nat.le_refl _) (.cells #[.int .i64 0, .int .i64 0] 24)
  have y2 := (Below.refl (v2.alloc (.cells #[.int .i64 0, .int .i64 0] 24)).heap.size (v2.alloc (.cells #[.int .i64 0, .int .i64 0] 24))).alloc (Nat.le_refl _) (.cells #[.int .i64 4, .int .i64 4] 24)
  have tl3 := (Two.new v2 24 (.int .i64 0) (.int .i64 0)).alloc (.cells #[.int .i64 4, .int .i64 4] 24)
  have th3 := Two.at (w := v2.alloc (.cells #[.int .i64 0, .int .i64 0] 24)) (B := v2.heap.size + 1) (by simp) 24 (.int .i64 4) (.int .i64 4)
  have a3 := (a2.below y1).below y2
  clear a2
  have b3 := (b2.below y1).below y2
  clear b2
  have c3 := (c2.below y1).below y2
  clear c2
  have q3 := (q2.trans (y1.mono q2.size)).trans (y2.mono (q2.trans (y1.mono q2.size)).size)
  clear q2 y1 y2
  obtain ⟨fl1, fl2, fl3, fl4⟩ := tl3.facts
  obtain ⟨fh1, fh2, fh3, fh4⟩ := th3.facts
  go_wp2_with fail
  clear fl1 fl2 fl3 fl4 fh1 fh2 fh3 fh4
  refine (HTA.out _ _ a3).mono ?_
  rintro e v4 ⟨rfl, x4⟩
  have a4 := a3.below x4
  clear a3
  have b4 := b3.below x4
  clear b3
  have c4 := c3.below x4
  clear c3
  have tl4 := tl3.below x4 tl3.lt
  clear tl3
  have th4 := th3.below x4 th3.lt
  clear th3
  have q4 := q3.trans (x4.mono q3.size)
  clear q3 x4
  obtain ⟨fl1, fl2, fl3, fl4⟩ := tl4.facts
  obtain ⟨fh1, fh2, fh3, fh4⟩ := th4.facts
  go_wp2_with fail
  clear fl1 fl2 fl3 fl4 fh1 fh2 fh3 fh4
  refine (HTB.out _ _ b4).mono ?_
  rintro e v5 ⟨rfl, x5⟩
  have a5 := a4.below x5
  clear a4
  have b5 := b4.below x5
  clear b4
  have c5 := c4.below x5
  clear c4
  have tl5 := tl4.below x5 tl4.lt
  clear tl4
  have th5 := th4.below x5 th4.lt
  clear th4
  have q5 := q4.trans (x5.mono q4.size)
  clear q4 x5
  obtain ⟨fl1, fl2, fl3, fl4⟩ := tl5.facts
  obtain ⟨fh1, fh2, fh3, fh4⟩ := th5.facts
  go_wp2_with fail
  clear fl1 fl2 fl3 fl4 fh1 fh2 fh3 fh4
  refine (HWA.out _ _ a5).mono ?_
  rintro e v6 ⟨rfl, x6⟩
  have a6 := a5.below x6
  clear a5
  have b6 := b5.below x6
  clear b5
  have c6 := c5.below x6
  clear c5
  have tl6 := tl5.below x6 tl5.lt
  clear tl5
  have th6 := th5.below x6 th5.lt
  clear th5
  have q6 := q5.trans (x6.mono q5.size)
  clear q5 x6
  obtain ⟨fl1, fl2, fl3, fl4⟩ := tl6.facts
  obtain ⟨fh1, fh2, fh3, fh4⟩ := th6.facts
  go_wp2_with fail
  clear fl1 fl2 fl3 fl4 fh1 fh2 fh3 fh4
  refine (HWB.out _ _ b6).mono ?_
  rintro e v7 ⟨rfl, x7⟩
  have a7 := a6.below x7
  clear a6
  have b7 := b6.below x7
  clear b6
  have c7 := c6.below x7
  clear c6
  have tl7 := tl6.below x7 tl6.lt
  clear tl6
  have th7 := th6.below x7 th6.lt
  clear th6
  have q7 := q6.trans (x7.mono q6.size)
  clear q6 x7
  obtain ⟨fl1, fl2, fl3, fl4⟩ := tl7.facts
  obtain ⟨fh1, fh2, fh3, fh4⟩ := th7.facts
  go_wp2_with fail
  clear fl1 fl2 fl3 fl4 fh1 fh2 fh3 fh4
  refine (HWC.out _ _ b7).mono ?_
  rintro e v8 ⟨rfl, x8⟩
  have a8 := a7.below x8
  clear a7
  have b8 := b7.below x8
  clear b7
  have c8 := c7.below x8
  clear c7
  have tl8 := tl7.below x8 tl7.lt
  clear tl7
  have th8 := th7.below x8 th7.lt
  clear th7
  have q8 := q7.trans (x8.mono q7.size)
  clear q7 x8
  obtain ⟨fl1, fl2, fl3, fl4⟩ := tl8.facts
  obtain ⟨fh1, fh2, fh3, fh4⟩ := th8.facts
  go_wp2_with fail
  clear fl1 fl2 fl3 fl4 fh1 fh2 fh3 fh4
  refine (HWD.out _ _ a8).mono ?_
  rintro e v9 ⟨rfl, x9⟩
  have a9 := a8.below x9
  clear a8
  have b9 := b8.below x9
  clear b8
  have c9 := c8.below x9
  clear c8
  have tl9 := tl8.below x9 tl8.lt
  clear tl8
  have th9 := th8.below x9 th8.lt
  clear th8
  have q9 := q8.trans (x9.mono q8.size)
  clear q8 x9
  obtain ⟨fl1, fl2, fl3, fl4⟩ := tl9.facts
  obtain ⟨fh1, fh2, fh3, fh4⟩ := th9.facts
  go_wp2_with fail
  clear fl1 fl2 fl3 fl4 fh1 fh2 fh3 fh4
  refine (HI1.out _ _ _ b9 a9).mono ?_
  rintro e v10 ⟨rfl, x10⟩
  have a10 := a9.below x10
  clear a9
  have b10 := b9.below x10
  clear b9
  have c10 := c9.below x10
  clear c9
  have tl10 := tl9.below x10 tl9.lt
  clear tl9
  have th10 := th9.below x10 th9.lt
  clear th9
  have q10 := q9.trans (x10.mono q9.size)
  clear q9 x10
  obtain ⟨fl1, fl2, fl3, fl4⟩ := tl10.facts
  obtain ⟨fh1, fh2, fh3, fh4⟩ := th10.facts
  go_wp2_with fail
  clear fl1 fl2 fl3 fl4 fh1 fh2 fh3 fh4
  refine (HI2.out _ _ _ a10 b10).mono ?_
  rintro e v11 ⟨rfl, x11⟩
  have a11 := a10.below x11
  clear a10
  have b11 := b10.below x11
  clear b10
  have c11 := c10.below x11
  clear c10
  have tl11 := tl10.below x11 tl10.lt
  clear tl10
  have th11 := th10.below x11 th10.lt
  clear th10
  have q11 := q10.trans (x11.mono q10.size)
  clear q10 x11
  obtain ⟨fl1, fl2, fl3, fl4⟩ := tl11.facts
  obtain ⟨fh1, fh2, fh3, fh4⟩ := th11.facts
  go_wp2_with fail
  clear fl1 fl2 fl3 fl4 fh1 fh2 fh3 fh4
  refine (HP1.out _ _ _ b11 c11).mono ?_
  rintro e v12 ⟨rfl, x12⟩
  have a12 := a11.below x12
  clear a11
  have b12 := b11.below x12
  clear b11
  have c12 := c11.below x12
  clear c11
  have tl12 := tl11.below x12 tl11.lt
  clear tl11
  have th12 := th11.below x12 th11.lt
  clear th11
  have q12 := q11.trans (x12.mono q11.size)
  clear q11 x12
  obtain ⟨fl1, fl2, fl3, fl4⟩ := tl12.facts
  obtain ⟨fh1, fh2, fh3, fh4⟩ := th12.facts
  go_wp2_with fail
  clear fl1 fl2 fl3 fl4 fh1 fh2 fh3 fh4
  refine (HP2.out _ _ _ a12 c12).mono ?_
  rintro e v13 ⟨rfl, x13⟩
  have a13 := a12.below x13
  clear a12
  have b13 := b12.below x13
  clear b12
  have c13 := c12.below x13
  clear c12
  have tl13 := tl12.below x13 tl12.lt
  clear tl12
  have th13 := th12.below x13 th12.lt
  clear th12
  have q13 := q12.trans (x13.mono q12.size)
  clear q12 x13
  obtain ⟨fl1, fl2, fl3, fl4⟩ := tl13.facts
  obtain ⟨fh1, fh2, fh3, fh4⟩ := th13.facts
  go_wp2_with fail
  clear fl1 fl2 fl3 fl4 fh1 fh2 fh3 fh4
  have d0 := rD_sl v13
  have y1 := (Below.refl v13.heap.size v13).alloc (Nat.le_refl _) (.cells #[.int .i64 0, .int .i64 4, .int .i64 4, .int .i64 4, .int .i64 4, .int .i64 0, .int .i64 0, .int .i64 0] 24)
  clear a13
  clear b13
  clear c13
  have tl14 := tl13.alloc (.cells #[.int .i64 0, .int .i64 4, .int .i64 4, .int .i64 4, .int .i64 4, .int .i64 0, .int .i64 0, .int .i64 0] 24)
  clear tl13
  have th14 := th13.alloc (.cells #[.int .i64 0, .int .i64 4, .int .i64 4, .int .i64 4, .int .i64 4, .int .i64 0, .int .i64 0, .int .i64 0] 24)
  clear th13
  have q14 := q13.trans (y1.mono q13.size)
  clear q13 y1
  refine (HVD.out _ _ d0).mono ?_
  rintro e v15 ⟨rfl, x15⟩
  have tl15 := tl14.below x15 tl14.lt
  clear tl14
  have th15 := th14.below x15 th14.lt
  clear th14
  have q15 := q14.trans (x15.mono q14.size)
  clear q14 x15
  clear d0
  obtain ⟨fl1, fl2, fl3, fl4⟩ := tl15.facts
  obtain ⟨fh1, fh2, fh3, fh4⟩ := th15.facts
  go_wp2_with fail
  clear fl1 fl2 fl3 fl4 fh1 fh2 fh3 fh4
  have d0 := rE_sl v15
  have y1 := (Below.refl v15.heap.size v15).alloc (Nat.le_refl _) (.cells #[.int .i64 0, .int .i64 0, .int .i64 2, .int .i64 0, .int .i64 4, .int .i64 0, .int .i64 4, .int .i64 4] 24)
  have tl16 := tl15.alloc (.cells #[.int .i64 0, .int .i64 0, .int .i64 2, .int .i64 0, .int .i64 4, .int .i64 0, .int .i64 4, .int .i64 4] 24)
  clear tl15
  have th16 := th15.alloc (.cells #[.int .i64 0, .int .i64 0, .int .i64 2, .int .i64 0, .int .i64 4, .int .i64 0, .int .i64 4, .int .i64 4] 24)
  clear th15
  have q16 := q15.trans (y1.mono q15.size)
  clear q15 y1
  refine (HVE.out _ _ d0).mono ?_
  rintro e v17 ⟨rfl, x17⟩
  have tl17 := tl16.below x17 tl16.lt
  clear tl16
  have th17 := th16.below x17 th16.lt
  clear th16
  have q17 := q16.trans (x17.mono q16.size)
  clear q16 x17
  clear d0
  obtain ⟨fl1, fl2, fl3, fl4⟩ := tl17.facts
  obtain ⟨fh1, fh2, fh3, fh4⟩ := th17.facts
  go_wp2_with fail
  go_ret
  exact ⟨rfl, q17⟩
end Go.Proofs.Ytcpcmlonbpccnaa.Ge

/- The walk of Few. -/
namespace Go.Proofs.Ytcpcmlonbpccnaa.Ge
set_option linter.unusedVariables false
set_option linter.unusedSimpArgs false
open Go.RowKit
open Go.Proofs.Ytcpcmlonbpccnaa.Fr (Two)

theorem few_two (va vb : Value) (ra rb : List Pt) (w : World) (ha : PtSl w va ra) (hb : PtSl w vb rb) :
    Calls Try.prog 34 #[va, vb] w fun e w' => e = .returned (.bool (decide (ra.length ≤ 50) && decide (rb.length ≤ 50))) ∧ w' = w := by
  obtain ⟨a1, a2, rfl⟩ := ha.form
  obtain ⟨b1, b2, rfl⟩ := hb.form
  by_cases h1 : ra.length ≤ 50
  · have h1' : (ra.length : Int) ≤ 50 := by omega
    by_cases h2 : rb.length ≤ 50
    · have h2' : (rb.length : Int) ≤ 50 := by omega
      rw [decide_eq_true h1, decide_eq_true h2]
      go_enter Try.func34, Try.ntmps34
      go_wp2_with fail
      go_ret
      exact ⟨rfl, rfl⟩
    · have h2' : ¬ (rb.length : Int) ≤ 50 := by omega
      rw [decide_eq_true h1, decide_eq_false h2]
      go_enter Try.func34, Try.ntmps34
      go_wp2_with fail
      go_ret
      exact ⟨rfl, rfl⟩
  · have h1' : ¬ (ra.length : Int) ≤ 50 := by omega
    rw [decide_eq_false h1, Bool.false_and]
    go_enter Try.func34, Try.ntmps34
    go_wp2_with fail
    go_ret
    exact ⟨rfl, rfl⟩

theorem idx8 (n : Int) (len : Nat) (h : 0 < len) (hn : 0 ≤ n) : ∃ i : Nat, i < len ∧ n % (len : Int) = (i : Int) := by
  have h1 := Int.emod_nonneg n (show (len : Int) ≠ 0 by omega)
  have h2 := Int.emod_lt_of_pos n (show (0 : Int) < (len : Int) by omega)
  exact ⟨(n % (len : Int)).toNat, by omega, by omega⟩
theorem box_bd {l : List Pt} (h : validB l = true) : (0 ≤ (lowP l).1 ∧ (lowP l).1 ≤ (highP l).1 ∧ (highP l).1 ≤ 32767) ∧ 0 ≤ (lowP l).2 ∧ (lowP l).2 ≤ (highP l).2 ∧ (highP l).2 ≤ 32767 := by
  obtain ⟨w1, w2⟩ := box_wide h
  have hl : 0 < l.length := by have := (valid_len h).1; omega
  have hd : l ≠ [] := List.length_pos_iff.1 hl
  have on0 := fun p (hp : p ∈ l) => valid_on h p hp
  have mem : ∀ (f : Pt → Int) (P : Int → Prop), (∀ p ∈ l, P (f p)) → P (minI (l.map f) (f (nth l 0))) ∧ P (maxI (l.map f) (f (nth l 0))) := fun f P hP => by
    constructor
    · rcases min_mem (f (nth l 0)) (l.map f) with k | k
      · rw [k]; exact hP _ (nth_mem hd 0)
      · obtain ⟨p, hp, e⟩ := List.mem_map.1 k
        rw [← e]; exact hP p hp
    · rcases max_mem (f (nth l 0)) (l.map f) with k | k
      · rw [k]; exact hP _ (nth_mem hd 0)
      · obtain ⟨p, hp, e⟩ := List.mem_map.1 k
        rw [← e]; exact hP p hp
  have m1 := mem (·.1) (fun x => 0 ≤ x ∧ x ≤ 32767) (fun p hp => (on0 p hp).1)
  have m2 := mem (·.2) (fun x => 0 ≤ x ∧ x ≤ 32767) (fun p hp => (on0 p hp).2)
  refine ⟨⟨?_, Int.le_of_lt w1, ?_⟩, ?_, Int.le_of_lt w2, ?_⟩
  · unfold lowP; rw [if_pos h]; exact m1.1.1
  · unfold highP; rw [if_pos h]; exact m1.2.2
  · unfold lowP; rw [if_pos h]; exact m2.1.1
  · unfold highP; rw [if_pos h]; exact m2.2.2
theorem two_cells {W : World} {B : Nat} {x y : Int} (h : Two W B 24 (.int .i64 x) (.int .i64 y)) {W' : World} (hb : Below W.heap.size W W') : W'.cell? ⟨B, 0, none⟩ = some (.int .i64 x) ∧ W'.cell? ⟨B, 1, none⟩ = some (.int .i64 y) := by
  have := (h.below hb h.lt).facts
  exact ⟨this.1, this.2.1⟩
end Go.Proofs.Ytcpcmlonbpccnaa.Ge
