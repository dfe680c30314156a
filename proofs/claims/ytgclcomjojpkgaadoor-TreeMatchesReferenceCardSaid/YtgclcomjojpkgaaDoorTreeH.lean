/- Walks over the law's package of layer 2: rooted, head. -/
import Derived.Test.YtgclcomjojpkgaaDoorTreeT4
namespace Go.Proofs.YtgclcomjojpkgaaDoor.Dig
set_option linter.unusedVariables false
set_option linter.unusedSimpArgs false
open Go.RowKit

set_option maxHeartbeats 400000 in
theorem rooted_yes (v : Value) (l : List ByteArray) (hd : l.all digB = true) (w : World) (ht : Tab w) (hl : StrSl w v l) :
    Calls Tryd.prog 25 #[v] w fun e w' => e = .returned (.string (rootB l)) ∧ Below w.heap.size w w' := by
  have Hd := Lib.hid hd
  clear hd
  go_enter Tryd.func25, Tryd.ntmps25
  go_wp2_with fail
  refine (Root_yes v l Hd.out _ ht hl).mono ?_
  rintro e w1 ⟨rfl, hb⟩
  go_wp2_with fail
  go_ret
  exact ⟨rfl, hb⟩

def tA : ByteArray := ⟨#[97]⟩
def tB : ByteArray := ⟨#[98]⟩
def tC : ByteArray := ⟨#[99]⟩
def tX : ByteArray := ⟨#[120]⟩
/-- what the fixed examples lean on -/
structure HeadFacts (A B C : ByteArray) : Prop where
  a : digB A = true
  b : digB B = true
  c : digB C = true
  sa : A.size ≤ 1000
  sb : B.size ≤ 1000
  sc : C.size ≤ 1000
  n1 : ¬ nodeB (nodeB A B) B = nodeB (nodeB A B) C
  n2 : ¬ nodeB (nodeB B B) C = nodeB (nodeB A B) C
theorem bl_ne {a b : ByteArray} (h : (bl a == bl b) = false) : ¬ a = b := fun e => by
  rw [e] at h
  simp at h
theorem headFacts : HeadFacts (leafB tA) (leafB tB) (leafB tC) where
  a := lsum_dig _
  b := lsum_dig _
  c := lsum_dig _
  sa := by unfold leafB; rw [lsum_size]; decide
  sb := by unfold leafB; rw [lsum_size]; decide
  sc := by unfold leafB; rw [lsum_size]; decide
  n1 := bl_ne (by decide +kernel)
  n2 := bl_ne (by decide +kernel)

section
variable (A B C : ByteArray)
theorem h3_half : half 3 = 2 := by decide +kernel
theorem h2_half : half 2 = 1 := by decide +kernel
theorem h3_root : rootB [A, B, C] = nodeB (nodeB A B) C := by kernel_rfl
theorem h3_path2 : pathB [A, B, C] 2 = [nodeB A B] := by kernel_rfl
theorem h3_path0 : pathB [A, B, C] 0 = [B, C] := by kernel_rfl
theorem h3_link2 : linkZ [A, B, C] 2 = [C] := by kernel_rfl
theorem h3_link1 : linkZ [A, B, C] 1 = [B, C] := by kernel_rfl
theorem h3_all (h : HeadFacts A B C) : [A, B, C].all digB = true := by simp [h.a, h.b, h.c]
theorem h3_up (x : ByteArray) : upB 3 2 x [nodeB A B] = nodeB (nodeB A B) x := by kernel_rfl
theorem h3_bo (x : ByteArray) : boB 3 1 true x [B, C] = (x, nodeB (nodeB x B) C) := by kernel_rfl
theorem h3_depth : depth 3 2 = 1 := by decide +kernel
theorem h3_span : span 3 1 true = 2 := by decide +kernel
theorem h3_check (h : HeadFacts A B C) : checkB (nodeB (nodeB A B) C) 3 2 C [nodeB A B] = true := by
  unfold checkB
  rw [show (3 : Int).toNat = 3 from rfl, show (2 : Int).toNat = 2 from rfl, h3_up, h3_depth, h.c]
  simp [nodeB_dig]
theorem h3_check' (h : HeadFacts A B C) : checkB (nodeB (nodeB A B) C) 3 2 B [nodeB A B] = false := by
  unfold checkB
  rw [show (3 : Int).toNat = 3 from rfl, show (2 : Int).toNat = 2 from rfl, h3_up, h3_depth, decide_eq_false h.n1]
  simp
theorem h3_ext (h : HeadFacts A B C) : extB A 1 (nodeB (nodeB A B) C) 3 [B, C] = true := by
  unfold extB extN extP
  rw [show (3 : Int).toNat = 3 from rfl, show (1 : Int).toNat = 1 from rfl, h3_bo, h3_span, h.a]
  simp [nodeB_dig, h.b, h.c]
theorem h3_ext' (h : HeadFacts A B C) : extB B 1 (nodeB (nodeB A B) C) 3 [B, C] = false := by
  unfold extB extN extP
  rw [show (3 : Int).toNat = 3 from rfl, show (1 : Int).toNat = 1 from rfl, h3_bo, h3_span]
  simp [h.n2]
theorem h3_no : pathOk [A, B, C] 3 = false := by unfold pathOk; simp
theorem h3_ok (h : HeadFacts A B C) (i : Int) (h0 : 0 ≤ i) (h1 : i < 3) : pathOk [A, B, C] i = true := by
  unfold pathOk
  rw [h3_all A B C h]
  simp
  omega
theorem h3_lok (h : HeadFacts A B C) (i : Int) (h0 : 0 ≤ i) (h1 : i ≤ 3) : linkOk [A, B, C] i = true := by
  unfold linkOk
  rw [h3_all A B C h]
  simp
  omega
theorem hx_no : [tX].all digB = false := by decide +kernel
end

theorem lnode (a b : ByteArray) (h1 : a.size ≤ 1000) (h2 : b.size ≤ 1000) (w : World) (ht : Tab w) :
    Calls Tryd.prog 30 #[.slice (some ⟨w.heap.size, 0, none⟩) 3 3] (w.alloc (.cells #[.string ⟨#[110, 111, 100, 101]⟩, .string a, .string b] 9)) fun e w' => e = .returned (.string (nodeB a b)) ∧ Below w.heap.size w w' := list3 wNode a b wNode_le h1 h2 w ht
theorem lempty (w : World) (ht : Tab w) :
    Calls Tryd.prog 30 #[.slice (some ⟨w.heap.size, 0, none⟩) 1 1] (w.alloc (.cells #[.string ⟨#[101, 109, 112, 116, 121]⟩] 9)) fun e w' => e = .returned (.string emptyB) ∧ Below w.heap.size w w' := list1 wEmpty wEmpty_le w ht
theorem lleaf (a : ByteArray) (h1 : a.size ≤ 1000) (w : World) (ht : Tab w) :
    Calls Tryd.prog 30 #[.slice (some ⟨w.heap.size, 0, none⟩) 2 2] (w.alloc (.cells #[.string ⟨#[108, 101, 97, 102]⟩, .string a] 9)) fun e w' => e = .returned (.string (leafB a)) ∧ Below w.heap.size w w' := list2 wLeaf a wLeaf_le h1 w ht


set_option maxRecDepth 100000 in
set_option maxHeartbeats 4000000 in
theorem head2_any (w : World) (ht : Tab w) :
    Calls Tryd.prog 9 #[] w fun e w' => e = .returned (.bool true) ∧ Below w.heap.size w w' := by
  have HF := Lib.hid headFacts
  go_enter Tryd.func9, Tryd.ntmps9
  go_wp2_with fail
  refine (leaf_any tA (by decide) _ (ht.below (Below.refl w.heap.size w))).mono ?_
  rintro e w1 ⟨rfl, hb1'⟩
  have hb1 := (Below.refl w.heap.size w).trans (hb1'.mono (Below.refl w.heap.size w).size)
  go_wp2_with fail
  refine (leaf_any tB (by decide) _ (ht.below hb1)).mono ?_
  rintro e w2 ⟨rfl, hb2'⟩
  have hb2 := hb1.trans (hb2'.mono hb1.size)
  go_wp2_with fail
  refine (leaf_any tC (by decide) _ (ht.below hb2)).mono ?_
  rintro e w3 ⟨rfl, hb3'⟩
  have hb3 := hb2.trans (hb3'.mono hb2.size)
  generalize hA : leafB tA = A at *
  have HA := Lib.hid hA
  clear hA
  generalize hB : leafB tB = B at *
  have HB := Lib.hid hB
  clear hB
  generalize hC : leafB tC = C at *
  have HC := Lib.hid hC
  clear hC
  have sl := sl3 A B C w3
  have hb4' := new_below w3 (.cells #[.string A, .string B, .string C] 9)
  have hb4 := hb3.trans (hb4'.mono hb3.size)
  have hsm : small [A, B, C] := mem3 HF.out.sa HF.out.sb HF.out.sc
  go_wp2_with fail
  refine (Path_yes _ [A, B, C] 2 (h3_ok A B C HF.out 2 (by decide) (by decide)) (by simp) _ (ht.below hb4) sl).mono ?_
  rintro e w5 ⟨up, rfl, ownp, hb5'⟩
  have hb5 := hb4.trans (hb5'.mono hb4.size)
  have sl := sl.below hb5'
  have sp := ownp.sl
  rw [show (2 : Int).toNat = 2 from rfl, h3_path2] at sp
  clear ownp
  go_wp2_with fail
  refine (Path_yes _ [A, B, C] 0 (h3_ok A B C HF.out 0 (by decide) (by decide)) (by simp) _ (ht.below hb5) sl).mono ?_
  rintro e w6 ⟨uq, rfl, ownq, hb6'⟩
  have hb6 := hb5.trans (hb6'.mono hb5.size)
  have sl := sl.below hb6'
  have sp := sp.below hb6'
  have sq := ownq.sl
  rw [show (0 : Int).toNat = 0 from rfl, h3_path0] at sq
  clear ownq
  go_wp2_with fail
  refine (Link_yes _ [A, B, C] 2 (h3_lok A B C HF.out 2 (by decide) (by decide)) (by simp) _ (ht.below hb6) sl).mono ?_
  rintro e w7 ⟨um, rfl, ownm, hb7'⟩
  have hb7 := hb6.trans (hb7'.mono hb6.size)
  have sl := sl.below hb7'
  have sp := sp.below hb7'
  have sq := sq.below hb7'
  have sm := ownm.sl
  rw [show (2 : Int).toNat = 2 from rfl, h3_link2] at sm
  clear ownm
  go_wp2_with fail
  refine (Link_yes _ [A, B, C] 1 (h3_lok A B C HF.out 1 (by decide) (by decide)) (by simp) _ (ht.below hb7) sl).mono ?_
  rintro e w8 ⟨un, rfl, ownn, hb8'⟩
  have hb8 := hb7.trans (hb8'.mono hb7.size)
  have sl := sl.below hb8'
  have sp := sp.below hb8'
  have sq := sq.below hb8'
  have sm := sm.below hb8'
  have sn := ownn.sl
  rw [show (1 : Int).toNat = 1 from rfl, h3_link1] at sn
  clear ownn
  go_wp2_with fail
  refine (Path_no _ [A, B, C] 3 (h3_no A B C) _ sl).mono ?_
  rintro e wz ⟨rfl, rfl⟩
  have sx := sl1 ⟨#[120]⟩ w8
  go_wp2_with fail
  have hb9' := new_below w8 (.cells #[.string ⟨#[120]⟩] 9)
  have hb9 := hb8.trans (hb9'.mono hb8.size)
  have sl := sl.below hb9'
  have sp := sp.below hb9'
  have sq := sq.below hb9'
  have sm := sm.below hb9'
  have sn := sn.below hb9'
  refine (Root_no _ [⟨#[120]⟩] hx_no _ sx).mono ?_
  rintro e wz ⟨rfl, rfl⟩
  clear sx
  generalize (w8.alloc (.cells #[.string ⟨#[120]⟩] 9)) = w9 at *
  go_wp2_with fail
  refine (lnode A B HF.out.sa HF.out.sb _ (ht.below hb9)).mono ?_
  rintro e w10 ⟨rfl, hb10'⟩
  have hb10 := hb9.trans (hb10'.mono hb9.size)
  have sl := sl.below hb10'
  have sp := sp.below hb10'
  have sq := sq.below hb10'
  have sm := sm.below hb10'
  have sn := sn.below hb10'
  go_wp2_with fail
  refine (rooted_yes _ [A, B, C] (h3_all A B C HF.out) _ (ht.below hb10) sl).mono ?_
  rintro e w11 ⟨rfl, hb11'⟩
  have hb11 := hb10.trans (hb11'.mono hb10.size)
  have sl := sl.below hb11'
  have sp := sp.below hb11'
  have sq := sq.below hb11'
  have sm := sm.below hb11'
  have sn := sn.below hb11'
  rw [h3_root]
  go_wp2_with fail
  refine (rooted_yes (.slice none 0 0) [] rfl _ (ht.below hb11) (.inl ⟨rfl, none, 0, rfl⟩)).mono ?_
  rintro e w12 ⟨rfl, hb12'⟩
  have hb12 := hb11.trans (hb12'.mono hb11.size)
  have sl := sl.below hb12'
  have sp := sp.below hb12'
  have sq := sq.below hb12'
  have sm := sm.below hb12'
  have sn := sn.below hb12'
  rw [rootB_nil]
  go_wp2_with fail
  refine (lempty _ (ht.below hb12)).mono ?_
  rintro e w13 ⟨rfl, hb13'⟩
  have hb13 := hb12.trans (hb13'.mono hb12.size)
  have sl := sl.below hb13'
  have sp := sp.below hb13'
  have sq := sq.below hb13'
  have sm := sm.below hb13'
  have sn := sn.below hb13'
  go_wp2_with fail
  refine (lleaf tA (by decide) _ (ht.below hb13)).mono ?_
  rintro e w14 ⟨rfl, hb14'⟩
  have hb14 := hb13.trans (hb14'.mono hb13.size)
  have sl := sl.below hb14'
  have sp := sp.below hb14'
  have sq := sq.below hb14'
  have sm := sm.below hb14'
  have sn := sn.below hb14'
  rw [HA.out]
  have sy := sl1 A w14
  go_wp2_with fail
  have hb15' := new_below w14 (.cells #[.string A] 9)
  have hb15 := hb14.trans (hb15'.mono hb14.size)
  have sl := sl.below hb15'
  have sp := sp.below hb15'
  have sq := sq.below hb15'
  have sm := sm.below hb15'
  have sn := sn.below hb15'
  go_wp2_with fail
  refine (rooted_yes _ [A] (by simp [HF.out.a]) _ (ht.below hb15) sy).mono ?_
  rintro e w16 ⟨rfl, hb16'⟩
  have hb16 := hb15.trans (hb16'.mono hb15.size)
  have sl := sl.below hb16'
  have sp := sp.below hb16'
  have sq := sq.below hb16'
  have sm := sm.below hb16'
  have sn := sn.below hb16'
  rw [rootB_one]
  go_wp2_with fail
  refine (lnode (nodeB A B) C (by rw [nodeB_size]; decide) HF.out.sc _ (ht.below hb16)).mono ?_
  rintro e w17 ⟨rfl, hb17'⟩
  have hb17 := hb16.trans (hb17'.mono hb16.size)
  have sl := sl.below hb17'
  have sp := sp.below hb17'
  have sq := sq.below hb17'
  have sm := sm.below hb17'
  have sn := sn.below hb17'
  go_wp2_with fail
  have sz := sl1 (nodeB A B) w17
  have hb18' := new_below w17 (.cells #[.string (nodeB A B)] 9)
  have hb18 := hb17.trans (hb18'.mono hb17.size)
  have sl := sl.below hb18'
  have sp := sp.below hb18'
  have sq := sq.below hb18'
  have sm := sm.below hb18'
  have sn := sn.below hb18'
  refine (rsame_any up _ [(nodeB A B)] [(nodeB A B)] _ sp sz).mono ?_
  rintro e w19 ⟨rfl, hb19'⟩
  rw [(sameB_iff [(nodeB A B)] [(nodeB A B)]).2 rfl]
  clear sz
  have hb19 := hb18.trans (hb19'.mono hb18.size)
  have sl := sl.below hb19'
  have sp := sp.below hb19'
  have sq := sq.below hb19'
  have sm := sm.below hb19'
  have sn := sn.below hb19'
  go_wp2_with fail
  have sz := sl2 B C w19
  have hb20' := new_below w19 (.cells #[.string B, .string C] 9)
  have hb20 := hb19.trans (hb20'.mono hb19.size)
  have sl := sl.below hb20'
  have sp := sp.below hb20'
  have sq := sq.below hb20'
  have sm := sm.below hb20'
  have sn := sn.below hb20'
  refine (rsame_any uq _ [B, C] [B, C] _ sq sz).mono ?_
  rintro e w21 ⟨rfl, hb21'⟩
  rw [(sameB_iff [B, C] [B, C]).2 rfl]
  clear sz
  have hb21 := hb20.trans (hb21'.mono hb20.size)
  have sl := sl.below hb21'
  have sp := sp.below hb21'
  have sq := sq.below hb21'
  have sm := sm.below hb21'
  have sn := sn.below hb21'
  go_wp2_with fail
  have sz := sl1 C w21
  have hb22' := new_below w21 (.cells #[.string C] 9)
  have hb22 := hb21.trans (hb22'.mono hb21.size)
  have sl := sl.below hb22'
  have sp := sp.below hb22'
  have sq := sq.below hb22'
  have sm := sm.below hb22'
  have sn := sn.below hb22'
  refine (rsame_any um _ [C] [C] _ sm sz).mono ?_
  rintro e w23 ⟨rfl, hb23'⟩
  rw [(sameB_iff [C] [C]).2 rfl]
  clear sz
  have hb23 := hb22.trans (hb23'.mono hb22.size)
  have sl := sl.below hb23'
  have sp := sp.below hb23'
  have sq := sq.below hb23'
  have sm := sm.below hb23'
  have sn := sn.below hb23'
  go_wp2_with fail
  have sz := sl2 B C w23
  have hb24' := new_below w23 (.cells #[.string B, .string C] 9)
  have hb24 := hb23.trans (hb24'.mono hb23.size)
  have sl := sl.below hb24'
  have sp := sp.below hb24'
  have sq := sq.below hb24'
  have sm := sm.below hb24'
  have sn := sn.below hb24'
  refine (rsame_any un _ [B, C] [B, C] _ sn sz).mono ?_
  rintro e w25 ⟨rfl, hb25'⟩
  rw [(sameB_iff [B, C] [B, C]).2 rfl]
  clear sz
  have hb25 := hb24.trans (hb25'.mono hb24.size)
  have sl := sl.below hb25'
  have sp := sp.below hb25'
  have sq := sq.below hb25'
  have sm := sm.below hb25'
  have sn := sn.below hb25'
  go_wp2_with fail
  refine (Check_any (nodeB (nodeB A B) C) 3 2 C up [nodeB A B] _ (ht.below hb25) sp).mono ?_
  rintro e w26 ⟨rfl, hb26'⟩
  have hb26 := hb25.trans (hb26'.mono hb25.size)
  have sl := sl.below hb26'
  have sp := sp.below hb26'
  have sq := sq.below hb26'
  have sm := sm.below hb26'
  have sn := sn.below hb26'
  rw [h3_check A B C HF.out]
  go_wp2_with fail
  refine (Check_any (nodeB (nodeB A B) C) 3 2 B up [nodeB A B] _ (ht.below hb26) sp).mono ?_
  rintro e w27 ⟨rfl, hb27'⟩
  have hb27 := hb26.trans (hb27'.mono hb26.size)
  have sl := sl.below hb27'
  have sp := sp.below hb27'
  have sq := sq.below hb27'
  have sm := sm.below hb27'
  have sn := sn.below hb27'
  rw [h3_check' A B C HF.out]
  go_wp2_with fail
  refine (Extends_any A 1 (nodeB (nodeB A B) C) 3 un [B, C] _ (ht.below hb27) sn).mono ?_
  rintro e w28 ⟨rfl, hb28'⟩
  have hb28 := hb27.trans (hb28'.mono hb27.size)
  have sl := sl.below hb28'
  have sp := sp.below hb28'
  have sq := sq.below hb28'
  have sm := sm.below hb28'
  have sn := sn.below hb28'
  rw [h3_ext A B C HF.out]
  go_wp2_with fail
  refine (Extends_any B 1 (nodeB (nodeB A B) C) 3 un [B, C] _ (ht.below hb28) sn).mono ?_
  rintro e w29 ⟨rfl, hb29'⟩
  have hb29 := hb28.trans (hb29'.mono hb28.size)
  have sl := sl.below hb29'
  have sp := sp.below hb29'
  have sq := sq.below hb29'
  have sm := sm.below hb29'
  have sn := sn.below hb29'
  rw [h3_ext' A B C HF.out]
  go_wp2_with fail
  go_ret
  exact ⟨rfl, hb29⟩

end Go.Proofs.YtgclcomjojpkgaaDoor.Dig
