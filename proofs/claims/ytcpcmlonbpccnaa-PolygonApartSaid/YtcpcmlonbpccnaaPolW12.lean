/- Walks over package polygon: the ends of a side's parts, sorted. -/
import Derived.Test.YtcpcmlonbpccnaaPolW11
import Derived.Test.YtcpcmlonbpccnaaBdP4
import Derived.Test.YtcpcmlonbpccnaaSort
namespace Go.Proofs.Ytcpcmlonbpccnaa.Ge
set_option linter.unusedVariables false
set_option linter.unusedSimpArgs false
open Go.RowKit
open Go.Proofs.Ytcpcmlonbpccnaa.Fr (Two)

def cmpD (o x y : Pt) : Int := cmpI (distP o x) (distP o y)
theorem lt_cmpD (o x y : Pt) : ltOf (cmpD o) x y = decide (distP o x < distP o y) := by
  unfold ltOf cmpD cmpI
  by_cases h1 : distP o x < distP o y
  · simp [h1]
  · by_cases h2 : distP o y < distP o x <;> simp [h1, h2]
theorem swoD (o : Pt) : Sort.SWO (ltOf (cmpD o)) where
  irrefl x := by rw [lt_cmpD]; simp
  trans x y z h1 h2 := by rw [lt_cmpD] at *; simp at *; omega
  ntrans x y z h1 h2 := by rw [lt_cmpD] at *; simp at *; omega
theorem sortWorld_block {w : World} {g off m : Nat} {d : Array Pt} {os : Array Obj} {i : Nat} (hi : i < w.heap.size) (hne : i ≠ g) : (sortWorldK encT 2 w g off m d os).heap[i]? = w.heap[i]? := by
  show (w.heap.modify g _ ++ os)[i]? = w.heap[i]?
  rw [Array.getElem?_append_left (by simp; omega), Array.getElem?_modify, if_neg (fun e => hne e.symm)]
theorem closureD_lays (o : Pt) (B : Nat) (blk off size : Nat) (w : World) (hne : B ≠ blk) (h0 : w.cell? ⟨B, 0, none⟩ = some (.int .i64 o.1)) (h1 : w.cell? ⟨B, 1, none⟩ = some (.int .i64 o.2)) :
    CmpLays Try.prog 135 #[.pointer (some ⟨B, 0, none⟩)] encT 2 (cmpD o) blk off size w := by
  intro m os dk _ x y
  have hlt : B < w.heap.size := World.block_lt_of_cell? _ _ h0
  have key : ∀ k, (sortWorldK encT 2 w blk off m dk os).cell? ⟨B, k, none⟩ = w.cell? ⟨B, k, none⟩ := fun k => by
    unfold World.cell?
    rw [sortWorld_block hlt hne]
  exact (nearer_d o.1 o.2 x.1 x.2 y.1 y.2 B _ ((key 0).trans h0) ((key 1).trans h1)).mono fun e w' ⟨he, hb, hd⟩ => ⟨he, grow_of hb hd⟩
theorem getD_bang (l : List Pt) (i : Nat) (h : i < l.length) : (l.toArray)[i]! = l[i] := by
  rw [getElem!_pos l.toArray i (by simpa using h)]
  simp
theorem holdsPt_own {w : World} {B g cap : Nat} {l : List Pt} (h : OwnPt w B (.slice (some ⟨g, 0, none⟩) l.length cap) l) : Sort.HoldsK encT 2 w g 0 l.toArray := by
  intro j hj
  have hj2 : j < l.length * 2 := by simpa using hj
  have hjq : j / 2 < l.length := by omega
  refine ⟨?_, by rw [Nat.zero_add]; exact World.ownsRow.frozenAt h j⟩
  rw [Nat.zero_add, World.ownsRow.cellAt h j hj2, Sort.get_flatK encT 2 l.toArray j (by simpa using hj2), getD_bang l _ hjq]
  have hg := flatT_get l (j / 2) (j % 2) hjq (Nat.mod_lt _ (by decide))
  rw [show j / 2 * 2 + j % 2 = j by omega] at hg
  rw [hg]
  show _ = some ((encT l[j / 2])[j % 2]!)
  have hm : j % 2 < (encT l[j / 2]).length := Nat.mod_lt _ (by decide)
  rw [List.getElem?_eq_getElem hm, getElem!_pos (encT l[j / 2]) (j % 2) hm]
theorem belowPt_sort {B : Nat} {w0 w : World} {g off n : Nat} {d : Array Pt} {os : Array Obj} (h : Below B w0 w) (hg : B ≤ g) (hB : B ≤ w.heap.size) : Below B w0 (sortWorldK encT 2 w g off n d os) := by
  refine h.trans ⟨rfl, rfl, rfl, ?_, fun i hi => sortWorld_block (by omega) (by omega)⟩
  show w.heap.size ≤ (w.heap.modify g _ ++ os).size
  simp
theorem ptSl_holds {w : World} {g cap : Nat} {d : Array Pt} (h : Sort.HoldsK encT 2 w g 0 d) (h0 : 0 < d.size) (hlt : g < w.heap.size) (hc : d.size ≤ cap ∧ cap ≤ maxLen) : PtSl w (.slice (some ⟨g, 0, none⟩) d.size cap) d.toList := by
  refine .inr ⟨g, 0, cap, by simp, by simpa using h0, hlt, by simpa using hc, fun i hi => ?_⟩
  have hi2 : i < d.size := by simpa using hi
  have e : d[i]! = d.toList[i] := by rw [getElem!_pos d i hi2]; simp
  have a := (h.cell (i := i) (c := 0) hi2 (by decide)).1
  have b := (h.cell (i := i) (c := 1) hi2 (by decide)).1
  rw [e] at a b
  exact ⟨a, b⟩
theorem sortedD_of {o : Pt} {d d' : Array Pt} (h1 : Sort.PermIn 0 d.size d d') (h2 : Sort.SortedIn (ltOf (cmpD o)) 0 d.size d') : d'.toList.Perm d.toList ∧ d'.toList.Pairwise (fun x y => distP o x ≤ distP o y) := by
  obtain ⟨hs, -, hp⟩ := h1
  refine ⟨?_, ?_⟩
  · have e1 : d'.extract 0 d.size = d' := by rw [← hs]; simp
    have e2 : d.extract 0 d.size = d := by simp
    rw [e1, e2] at hp
    exact hp
  · rw [List.pairwise_iff_getElem]
    intro i j hi hj hij
    have hi2 : i < d'.size := by simpa using hi
    have hj2 : j < d'.size := by simpa using hj
    have h := h2 i j (Nat.zero_le _) hij (by omega)
    rw [lt_cmpD, getElem!_pos d' i hi2, getElem!_pos d' j hj2] at h
    simp at h
    simpa using h
theorem sortD_any (o : Pt) (C : Nat) (w : World) (B : Nat) (v : Value) (l : List Pt) (own : OwnPt w B v l) (h1 : 1 ≤ l.length) (hlen : l.length ≤ 1000000) (hB : B ≤ w.heap.size) (hC : C < B)
    (h0 : w.cell? ⟨C, 0, none⟩ = some (.int .i64 o.1)) (h0' : w.cell? ⟨C, 1, none⟩ = some (.int .i64 o.2)) :
    Calls Try.prog 134 #[v, .func (.func 135) #[] #[.pointer (some ⟨C, 0, none⟩)]] w
      fun e w' => e = .returned (.tuple #[]) ∧ (∃ l', (l'.Perm l ∧ l'.Pairwise (fun x y => distP o x ≤ distP o y)) ∧ PtSl w' v l') ∧ Below B w w' := by
  rcases own.2 with ⟨rfl, hn⟩ | ⟨g, cap, cur, rfl, hb, hg, hnc, hcm, hsz, htk⟩
  · omega
  · have hH := holdsPt_own own
    have hblk : g < w.heap.size := (Array.getElem?_eq_some_iff.1 hg).1
    have eg : ∀ args w, (callFunc 135 args).run Try.prog w = .ok (.enter 135 args) w := enters_of Try.func135 (by kernel_rfl) rfl
    have hcon := AnyQ.slices_SortFunc Try.sortLays 2 Try.isAgg24 Try.sizeOf24 encT (fun _ => rfl) encT_one (cmpD o) (swoD o) 135 #[.pointer (some ⟨C, 0, none⟩)] g 0 cap l.toArray w eg (closureD_lays o C g 0 _ w (by omega) h0 h0') hH hblk (by simp; omega)
    have hsl : l.toArray.size = l.length := by simp
    rw [hsl] at hcon
    change Calls Try.prog 134 _ _ _ at hcon
    refine hcon.mono ?_
    rintro e w' ⟨rfl, d', n, os, hp, hs, rfl⟩
    have hsd : d'.size = l.length := by rw [← hsl]; exact hp.1
    have hHk := holdsK_sortWorldK_c encT 2 w g 0 l.toArray d' n os hH hblk (by rw [hsl]; exact hsd)
    have hS := sortedD_of (o := o) (d := l.toArray) (d' := d') (by rw [hsl]; exact hp) (by rw [hsl]; exact hs)
    have hb2 := belowPt_sort (g := g) (off := 0) (n := n) (d := d') (os := os) (Below.refl B w) hb hB
    refine ⟨rfl, ⟨d'.toList, hS, ?_⟩, hb2⟩
    rw [← hsd]
    exact ptSl_holds hHk (by omega) (Nat.lt_of_lt_of_le hblk hb2.size) (by omega)
end Go.Proofs.Ytcpcmlonbpccnaa.Ge
