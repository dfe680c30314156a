/- Plain mathematics of layer 2 (tree): roots, paths, links and what they compute to. No Go, no program. -/
import Derived.Test.YteapfoadfjjicaaDoorDigJoinInj
namespace Go.Proofs.YteapfoadfjjicaaDoor.Dig
set_option linter.unusedVariables false
set_option linter.unusedSimpArgs false

/-! ### Recursion on a size -/

def iterN {α β : Type} (d : β) (F : (α → β) → α → β) : Nat → α → β
  | 0 => fun _ => d
  | n + 1 => F (iterN d F n)
/-- the function that F steps through, for an F that asks at smaller sizes alone -/
def recN {α β : Type} (d : β) (size : α → Nat) (F : (α → β) → α → β) (x : α) : β := iterN d F (size x + 1) x

theorem iterN_eq {α β : Type} {d : β} {size : α → Nat} {F : (α → β) → α → β} (hF : ∀ (g h : α → β) (x : α), (∀ y, size y < size x → g y = h y) → F g x = F h x) :
    ∀ (n m : Nat) (x : α), size x < n → size x < m → iterN d F n x = iterN d F m x
  | 0, _, x, hn, _ => by omega
  | _ + 1, 0, x, _, hm => by omega
  | n + 1, m + 1, x, hn, hm => hF _ _ x fun y hy => iterN_eq hF n m y (by omega) (by omega)

theorem recN_eq {α β : Type} {d : β} {size : α → Nat} {F : (α → β) → α → β} (hF : ∀ (g h : α → β) (x : α), (∀ y, size y < size x → g y = h y) → F g x = F h x) (x : α) :
    recN d size F x = F (recN d size F) x :=
  hF _ _ x fun y hy => iterN_eq hF _ _ y hy (Nat.lt_succ_self _)

/-! ### The greatest power of two that is less than n -/

def half (n : Nat) : Nat := 2 ^ Nat.log2 (n - 1)
theorem half_pos (n : Nat) : 0 < half n := Nat.pow_pos (by decide)
theorem half_lt (n : Nat) (h : 2 ≤ n) : half n < n := by
  have := Nat.log2_self_le (n := n - 1) (by omega)
  unfold half
  omega
theorem half_ge (n : Nat) (h : 2 ≤ n) : n ≤ 2 * half n := by
  have h1 := Nat.lt_log2_self (n := n - 1)
  unfold half
  rw [Nat.pow_succ] at h1
  omega
theorem half_of (n j : Nat) (h1 : 2 ^ j < n) (h2 : n ≤ 2 * 2 ^ j) : half n = 2 ^ j := by
  have h3 := Nat.pow_pos (n := j) (show 0 < 2 by decide)
  unfold half
  rw [(Nat.log2_eq_iff (n := n - 1) (k := j) (by omega)).2 ⟨by omega, by rw [Nat.pow_succ]; omega⟩]
/-- a beginning that is longer than the first part has the same first part -/
theorem half_mid (n m : Nat) (h : 2 ≤ n) (h1 : half n < m) (h2 : m ≤ n) : half m = half n := by
  have h3 := half_ge n h
  exact half_of m _ h1 (by unfold half at h3; omega)

/-! ### Texts, digests of lists -/

/-- the joined text of a list -/
def joinT (l : List ByteArray) : ByteArray := ⟨(joinB l).toArray⟩
/-- the digest of a text, of a list -/
def sumT (s : ByteArray) : ByteArray := ⟨(dsum (bl s)).toArray⟩
def lsum (l : List ByteArray) : ByteArray := ⟨(dsum (joinB l)).toArray⟩
theorem lsum_eq (l : List ByteArray) : lsum l = sumT (joinT l) := rfl
theorem bl_mk (l : List UInt8) : bl ⟨l.toArray⟩ = l := by simp [bl]
theorem bl_inj {a b : ByteArray} (h : bl a = bl b) : a = b := ByteArray.ext (Array.toList_inj.1 h)
theorem size_mk (l : List UInt8) : (ByteArray.mk l.toArray).size = l.length := by rw [Lib.size_eq]
theorem lsum_size (l : List ByteArray) : (lsum l).size = 16 := by unfold lsum; rw [size_mk, dsum_length]

def digB (s : ByteArray) : Bool := isDig (bl s)
theorem lsum_dig (l : List ByteArray) : digB (lsum l) = true := by
  unfold digB lsum
  rw [bl_mk]
  exact dsum_isDig _
theorem digB_size {s : ByteArray} (h : digB s = true) : s.size = 16 := by
  unfold digB isDig at h
  rw [Bool.and_eq_true] at h
  rw [Lib.size_eq]
  simpa using h.1

theorem map_bl_inj : ∀ {l m : List ByteArray}, l.map bl = m.map bl → l = m
  | [], [], _ => rfl
  | [], _ :: _, h => by simp at h
  | _ :: _, [], h => by simp at h
  | a :: l, b :: m, h => by
    simp only [List.map_cons, List.cons.injEq] at h
    rw [bl_inj h.1, map_bl_inj h.2]

theorem joinT_inj {l m : List ByteArray} (h : joinT l = joinT m) : l = m := by
  have h1 := congrArg bl h
  unfold joinT at h1
  rw [bl_mk, bl_mk] at h1
  exact map_bl_inj (joinB_inj l m h1)

theorem sameB_iff (l m : List ByteArray) : sameB l m = true ↔ l = m := by
  unfold sameB
  rw [decide_eq_true_iff]
  exact ⟨map_bl_inj, fun h => by rw [h]⟩

def wNode : ByteArray := ⟨#[110, 111, 100, 101]⟩
def wEmpty : ByteArray := ⟨#[101, 109, 112, 116, 121]⟩
def wLeaf : ByteArray := ⟨#[108, 101, 97, 102]⟩
def nodeB (a b : ByteArray) : ByteArray := lsum [wNode, a, b]
def emptyB : ByteArray := lsum [wEmpty]
def leafB (s : ByteArray) : ByteArray := lsum [wLeaf, s]
theorem nodeB_size (a b : ByteArray) : (nodeB a b).size = 16 := lsum_size _
theorem nodeB_dig (a b : ByteArray) : digB (nodeB a b) = true := lsum_dig _

/-! ### Roots, paths, links -/

def rootStep (r : List ByteArray → ByteArray) (l : List ByteArray) : ByteArray :=
  if l.length = 0 then emptyB else if l.length = 1 then l.headD ByteArray.empty else nodeB (r (l.take (half l.length))) (r (l.drop (half l.length)))
def rootB : List ByteArray → ByteArray := recN emptyB List.length rootStep
theorem rootB_eq (l : List ByteArray) : rootB l = rootStep rootB l := recN_eq (fun g h x H => by
  unfold rootStep
  split
  · rfl
  · split
    · rfl
    · have h1 := half_lt x.length (by omega)
      have h2 := half_pos x.length
      rw [H _ (by rw [List.length_take]; omega), H _ (by rw [List.length_drop]; omega)]) l
theorem rootB_nil : rootB [] = emptyB := rfl
theorem rootB_one (s : ByteArray) : rootB [s] = s := rfl
theorem rootB_node (l : List ByteArray) (h : 2 ≤ l.length) : rootB l = nodeB (rootB (l.take (half l.length))) (rootB (l.drop (half l.length))) := by
  rw [rootB_eq, rootStep, if_neg (by omega), if_neg (by omega)]

def pathStep (r : List ByteArray × Nat → List ByteArray) (x : List ByteArray × Nat) : List ByteArray :=
  if x.1.length ≤ 1 then [] else if x.2 < half x.1.length then r (x.1.take (half x.1.length), x.2) ++ [rootB (x.1.drop (half x.1.length))]
  else r (x.1.drop (half x.1.length), x.2 - half x.1.length) ++ [rootB (x.1.take (half x.1.length))]
def pathB (l : List ByteArray) (i : Nat) : List ByteArray := recN [] (fun x => x.1.length) pathStep (l, i)
theorem pathB_eq (l : List ByteArray) (i : Nat) : pathB l i = if l.length ≤ 1 then [] else if i < half l.length then pathB (l.take (half l.length)) i ++ [rootB (l.drop (half l.length))]
    else pathB (l.drop (half l.length)) (i - half l.length) ++ [rootB (l.take (half l.length))] := recN_eq (fun g h x H => by
  unfold pathStep
  split
  · rfl
  · have h1 := half_lt x.1.length (by omega)
    have h2 := half_pos x.1.length
    split
    · rw [H _ (by simp only [List.length_take]; omega)]
    · rw [H _ (by simp only [List.length_drop]; omega)]) (l, i)

def linkStep (r : List ByteArray × Nat × Bool → List ByteArray) (x : List ByteArray × Nat × Bool) : List ByteArray :=
  if x.2.1 = x.1.length ∨ x.1.length ≤ 1 then (if x.2.2 then [] else [rootB x.1])
  else if x.2.1 ≤ half x.1.length then r (x.1.take (half x.1.length), x.2.1, x.2.2) ++ [rootB (x.1.drop (half x.1.length))]
  else r (x.1.drop (half x.1.length), x.2.1 - half x.1.length, false) ++ [rootB (x.1.take (half x.1.length))]
def linkB (l : List ByteArray) (m : Nat) (b : Bool) : List ByteArray := recN [] (fun x => x.1.length) linkStep (l, m, b)
theorem linkB_eq (l : List ByteArray) (m : Nat) (b : Bool) : linkB l m b = if m = l.length ∨ l.length ≤ 1 then (if b then [] else [rootB l])
    else if m ≤ half l.length then linkB (l.take (half l.length)) m b ++ [rootB (l.drop (half l.length))]
    else linkB (l.drop (half l.length)) (m - half l.length) false ++ [rootB (l.take (half l.length))] := recN_eq (fun g h x H => by
  unfold linkStep
  split
  · rfl
  · have h1 := half_lt x.1.length (by omega)
    have h2 := half_pos x.1.length
    split
    · rw [H _ (by simp only [List.length_take]; omega)]
    · rw [H _ (by simp only [List.length_drop]; omega)]) (l, m, b)

/-- the number of elements of a path, of a link -/
def depthStep (r : Nat × Nat → Nat) (x : Nat × Nat) : Nat :=
  if x.1 ≤ 1 then 0 else if x.2 < half x.1 then 1 + r (half x.1, x.2) else 1 + r (x.1 - half x.1, x.2 - half x.1)
def depth (n i : Nat) : Nat := recN 0 (fun x => x.1) depthStep (n, i)
theorem depth_eq (n i : Nat) : depth n i = if n ≤ 1 then 0 else if i < half n then 1 + depth (half n) i else 1 + depth (n - half n) (i - half n) := recN_eq (fun g h x H => by
  unfold depthStep
  split
  · rfl
  · have h1 := half_lt x.1 (by omega)
    have h2 := half_pos x.1
    split
    · rw [H _ (by simp only; omega)]
    · rw [H _ (by simp only; omega)]) (n, i)

def spanStep (r : Nat × Nat × Bool → Nat) (x : Nat × Nat × Bool) : Nat :=
  if x.2.1 = x.1 ∨ x.1 ≤ 1 then (if x.2.2 then 0 else 1) else if x.2.1 ≤ half x.1 then 1 + r (half x.1, x.2.1, x.2.2) else 1 + r (x.1 - half x.1, x.2.1 - half x.1, false)
def span (n m : Nat) (b : Bool) : Nat := recN 0 (fun x => x.1) spanStep (n, m, b)
theorem span_eq (n m : Nat) (b : Bool) : span n m b = if m = n ∨ n ≤ 1 then (if b then 0 else 1) else if m ≤ half n then 1 + span (half n) m b else 1 + span (n - half n) (m - half n) false := recN_eq (fun g h x H => by
  unfold spanStep
  split
  · rfl
  · have h1 := half_lt x.1 (by omega)
    have h2 := half_pos x.1
    split
    · rw [H _ (by simp only; omega)]
    · rw [H _ (by simp only; omega)]) (n, m, b)

/-- the root that a path leads to, from its end on -/
abbrev UpIn := Nat × Nat × ByteArray × List ByteArray
def lastB (p : List ByteArray) : ByteArray := p.getLastD ByteArray.empty
def upStep (r : UpIn → ByteArray) (x : UpIn) : ByteArray :=
  if x.1 ≤ 1 then x.2.2.1 else if x.2.1 < half x.1 then nodeB (r (half x.1, x.2.1, x.2.2.1, x.2.2.2.dropLast)) (lastB x.2.2.2)
  else nodeB (lastB x.2.2.2) (r (x.1 - half x.1, x.2.1 - half x.1, x.2.2.1, x.2.2.2.dropLast))
def upB (n i : Nat) (d : ByteArray) (p : List ByteArray) : ByteArray := recN ByteArray.empty (fun x : UpIn => x.1) upStep (n, i, d, p)
theorem upB_eq (n i : Nat) (d : ByteArray) (p : List ByteArray) : upB n i d p = if n ≤ 1 then d else if i < half n then nodeB (upB (half n) i d p.dropLast) (lastB p)
    else nodeB (lastB p) (upB (n - half n) (i - half n) d p.dropLast) := recN_eq (fun g h x H => by
  unfold upStep
  split
  · rfl
  · have h1 := half_lt x.1 (by omega)
    have h2 := half_pos x.1
    split
    · rw [H _ (by simp only; omega)]
    · rw [H _ (by simp only; omega)]) (n, i, d, p)

/-- both roots that a link leads to -/
abbrev BoIn := Nat × Nat × Bool × ByteArray × List ByteArray
def boStep (r : BoIn → ByteArray × ByteArray) (x : BoIn) : ByteArray × ByteArray :=
  if x.2.1 = x.1 ∨ x.1 ≤ 1 then (if x.2.2.1 then (x.2.2.2.1, x.2.2.2.1) else (x.2.2.2.2.headD ByteArray.empty, x.2.2.2.2.headD ByteArray.empty))
  else if x.2.1 ≤ half x.1 then ((r (half x.1, x.2.1, x.2.2.1, x.2.2.2.1, x.2.2.2.2.dropLast)).1, nodeB (r (half x.1, x.2.1, x.2.2.1, x.2.2.2.1, x.2.2.2.2.dropLast)).2 (lastB x.2.2.2.2))
  else (nodeB (lastB x.2.2.2.2) (r (x.1 - half x.1, x.2.1 - half x.1, false, x.2.2.2.1, x.2.2.2.2.dropLast)).1, nodeB (lastB x.2.2.2.2) (r (x.1 - half x.1, x.2.1 - half x.1, false, x.2.2.2.1, x.2.2.2.2.dropLast)).2)
def boB (n m : Nat) (b : Bool) (o : ByteArray) (p : List ByteArray) : ByteArray × ByteArray := recN (ByteArray.empty, ByteArray.empty) (fun x : BoIn => x.1) boStep (n, m, b, o, p)
theorem boB_eq (n m : Nat) (b : Bool) (o : ByteArray) (p : List ByteArray) : boB n m b o p = if m = n ∨ n ≤ 1 then (if b then (o, o) else (p.headD ByteArray.empty, p.headD ByteArray.empty))
    else if m ≤ half n then ((boB (half n) m b o p.dropLast).1, nodeB (boB (half n) m b o p.dropLast).2 (lastB p))
    else (nodeB (lastB p) (boB (n - half n) (m - half n) false o p.dropLast).1, nodeB (lastB p) (boB (n - half n) (m - half n) false o p.dropLast).2) := recN_eq (fun g h x H => by
  unfold boStep
  split
  · rfl
  · have h1 := half_lt x.1 (by omega)
    have h2 := half_pos x.1
    split
    · rw [H _ (by simp only; omega)]
    · rw [H _ (by simp only; omega)]) (n, m, b, o, p)

/-! ### The same, taken from the front, as the program goes: what is left, and whether more was taken than there was -/

abbrev Rest := List ByteArray × Bool
def tk : Rest → ByteArray × Rest
  | ([], _) => (ByteArray.empty, [], true)
  | (x :: r, b) => (x, r, b)

abbrev RdIn := Nat × Nat × ByteArray × Rest
def rdStep (r : RdIn → ByteArray × Rest) (x : RdIn) : ByteArray × Rest :=
  if x.1 ≤ 1 then (x.2.2.1, x.2.2.2)
  else if x.2.1 < half x.1 then (nodeB (r (half x.1, x.2.1, x.2.2.1, x.2.2.2)).1 (tk (r (half x.1, x.2.1, x.2.2.1, x.2.2.2)).2).1, (tk (r (half x.1, x.2.1, x.2.2.1, x.2.2.2)).2).2)
  else (nodeB (tk (r (x.1 - half x.1, x.2.1 - half x.1, x.2.2.1, x.2.2.2)).2).1 (r (x.1 - half x.1, x.2.1 - half x.1, x.2.2.1, x.2.2.2)).1, (tk (r (x.1 - half x.1, x.2.1 - half x.1, x.2.2.1, x.2.2.2)).2).2)
def rdB (n i : Nat) (d : ByteArray) (s : Rest) : ByteArray × Rest := recN (ByteArray.empty, [], true) (fun x : RdIn => x.1) rdStep (n, i, d, s)
theorem rdB_eq (n i : Nat) (d : ByteArray) (s : Rest) : rdB n i d s = if n ≤ 1 then (d, s)
    else if i < half n then (nodeB (rdB (half n) i d s).1 (tk (rdB (half n) i d s).2).1, (tk (rdB (half n) i d s).2).2)
    else (nodeB (tk (rdB (n - half n) (i - half n) d s).2).1 (rdB (n - half n) (i - half n) d s).1, (tk (rdB (n - half n) (i - half n) d s).2).2) := recN_eq (fun g h x H => by
  unfold rdStep
  split
  · rfl
  · have h1 := half_lt x.1 (by omega)
    have h2 := half_pos x.1
    split
    · rw [H _ (by simp only; omega)]
    · rw [H _ (by simp only; omega)]) (n, i, d, s)

abbrev RsIn := Nat × Nat × Bool × ByteArray × Rest
abbrev Two := ByteArray × ByteArray × Rest
def rsStep (r : RsIn → Two) (x : RsIn) : Two :=
  if x.2.1 = x.1 ∨ x.1 ≤ 1 then (if x.2.2.1 then (x.2.2.2.1, x.2.2.2.1, x.2.2.2.2) else ((tk x.2.2.2.2).1, (tk x.2.2.2.2).1, (tk x.2.2.2.2).2))
  else if x.2.1 ≤ half x.1 then ((r (half x.1, x.2.1, x.2.2.1, x.2.2.2.1, x.2.2.2.2)).1, nodeB (r (half x.1, x.2.1, x.2.2.1, x.2.2.2.1, x.2.2.2.2)).2.1 (tk (r (half x.1, x.2.1, x.2.2.1, x.2.2.2.1, x.2.2.2.2)).2.2).1, (tk (r (half x.1, x.2.1, x.2.2.1, x.2.2.2.1, x.2.2.2.2)).2.2).2)
  else (nodeB (tk (r (x.1 - half x.1, x.2.1 - half x.1, false, x.2.2.2.1, x.2.2.2.2)).2.2).1 (r (x.1 - half x.1, x.2.1 - half x.1, false, x.2.2.2.1, x.2.2.2.2)).1, nodeB (tk (r (x.1 - half x.1, x.2.1 - half x.1, false, x.2.2.2.1, x.2.2.2.2)).2.2).1 (r (x.1 - half x.1, x.2.1 - half x.1, false, x.2.2.2.1, x.2.2.2.2)).2.1, (tk (r (x.1 - half x.1, x.2.1 - half x.1, false, x.2.2.2.1, x.2.2.2.2)).2.2).2)
def rsB (n m : Nat) (b : Bool) (o : ByteArray) (s : Rest) : Two := recN (ByteArray.empty, ByteArray.empty, [], true) (fun x : RsIn => x.1) rsStep (n, m, b, o, s)
theorem rsB_eq (n m : Nat) (b : Bool) (o : ByteArray) (s : Rest) : rsB n m b o s = if m = n ∨ n ≤ 1 then (if b then (o, o, s) else ((tk s).1, (tk s).1, (tk s).2))
    else if m ≤ half n then ((rsB (half n) m b o s).1, nodeB (rsB (half n) m b o s).2.1 (tk (rsB (half n) m b o s).2.2).1, (tk (rsB (half n) m b o s).2.2).2)
    else (nodeB (tk (rsB (n - half n) (m - half n) false o s).2.2).1 (rsB (n - half n) (m - half n) false o s).1, nodeB (tk (rsB (n - half n) (m - half n) false o s).2.2).1 (rsB (n - half n) (m - half n) false o s).2.1, (tk (rsB (n - half n) (m - half n) false o s).2.2).2) := recN_eq (fun g h x H => by
  unfold rsStep
  split
  · rfl
  · have h1 := half_lt x.1 (by omega)
    have h2 := half_pos x.1
    split
    · rw [H _ (by simp only; omega)]
    · rw [H _ (by simp only; omega)]) (n, m, b, o, s)

/-- all was taken, and no more than there was -/
def exactB (s : Rest) : Bool := !s.2 && s.1.isEmpty

theorem snoc_of (p : List ByteArray) (h : 0 < p.length) : p = p.dropLast ++ [lastB p] := by
  have hne : p ≠ [] := by intro h2; rw [h2] at h; simp at h
  unfold lastB
  rw [List.getLastD_eq_getLast?, List.getLast?_eq_some_getLast hne, Option.getD_some, List.dropLast_concat_getLast hne]

/-- a path of the right length: the program's way and the document's -/
theorem rd_up (N : Nat) : ∀ (n i : Nat) (d : ByteArray) (p q : List ByteArray) (b : Bool), n ≤ N → p.length = depth n i → rdB n i d (p ++ q, b) = (upB n i d p, q, b) := by
  induction N with
  | zero =>
    intro n i d p q b hn hp
    rw [depth_eq, if_pos (by omega)] at hp
    rw [rdB_eq, upB_eq, if_pos (by omega), if_pos (by omega), List.eq_nil_of_length_eq_zero hp]
    rfl
  | succ N ih =>
    intro n i d p q b hn hp
    rw [depth_eq] at hp
    rw [rdB_eq, upB_eq]
    by_cases h1 : n ≤ 1
    · rw [if_pos h1] at hp ⊢
      rw [if_pos h1, List.eq_nil_of_length_eq_zero hp]
      rfl
    · have k1 := half_lt n (by omega)
      have k2 := half_pos n
      rw [if_neg h1] at hp ⊢
      rw [if_neg h1]
      by_cases h2 : i < half n
      · rw [if_pos h2] at hp ⊢
        rw [if_pos h2]
        have e := snoc_of p (by omega)
        have hl : p.dropLast.length = depth (half n) i := by rw [List.length_dropLast]; omega
        have e2 : p ++ q = p.dropLast ++ (lastB p :: q) := by rw [congrArg (· ++ q) e, List.append_assoc]; rfl
        rw [e2, ih (half n) i d p.dropLast (lastB p :: q) b (by omega) hl]
        rfl
      · rw [if_neg h2] at hp ⊢
        rw [if_neg h2]
        have e := snoc_of p (by omega)
        have hl : p.dropLast.length = depth (n - half n) (i - half n) := by rw [List.length_dropLast]; omega
        have e2 : p ++ q = p.dropLast ++ (lastB p :: q) := by rw [congrArg (· ++ q) e, List.append_assoc]; rfl
        rw [e2, ih (n - half n) (i - half n) d p.dropLast (lastB p :: q) b (by omega) hl]
        rfl

theorem rd_short (N : Nat) : ∀ (n i : Nat) (d : ByteArray) (p : List ByteArray) (b : Bool), n ≤ N → p.length < depth n i → (rdB n i d (p, b)).2 = ([], true) := by
  induction N with
  | zero =>
    intro n i d p b hn hp
    rw [depth_eq, if_pos (by omega)] at hp
    omega
  | succ N ih =>
    intro n i d p b hn hp
    rw [depth_eq] at hp
    rw [rdB_eq]
    by_cases h1 : n ≤ 1
    · rw [if_pos h1] at hp
      omega
    · have k1 := half_lt n (by omega)
      have k2 := half_pos n
      rw [if_neg h1] at hp ⊢
      by_cases h2 : i < half n
      · rw [if_pos h2] at hp ⊢
        by_cases h3 : p.length < depth (half n) i
        · rw [ih (half n) i d p b (by omega) h3]
          rfl
        · have h4 := rd_up n (half n) i d p [] b (by omega) (by omega)
          rw [List.append_nil] at h4
          rw [h4]
          rfl
      · rw [if_neg h2] at hp ⊢
        by_cases h3 : p.length < depth (n - half n) (i - half n)
        · rw [ih (n - half n) (i - half n) d p b (by omega) h3]
          rfl
        · have h4 := rd_up n (n - half n) (i - half n) d p [] b (by omega) (by omega)
          rw [List.append_nil] at h4
          rw [h4]
          rfl

/-- what Check answers of a path, in both ways -/
theorem rd_check (n i : Nat) (d r : ByteArray) (p : List ByteArray) : (decide ((rdB n i d (p, false)).1 = r) && exactB (rdB n i d (p, false)).2) = (decide (p.length = depth n i) && decide (upB n i d p = r)) := by
  rcases Nat.lt_trichotomy p.length (depth n i) with h | h | h
  · rw [rd_short n n i d p false (Nat.le_refl _) h, decide_eq_false (show ¬ p.length = depth n i by omega)]
    simp [exactB]
  · have h4 := rd_up n n i d p [] false (Nat.le_refl _) h
    rw [List.append_nil] at h4
    rw [h4, decide_eq_true h]
    simp [exactB]
  · have h4 := rd_up n n i d (p.take (depth n i)) (p.drop (depth n i)) false (Nat.le_refl _) (by rw [List.length_take]; omega)
    rw [List.take_append_drop] at h4
    have h5 : (p.drop (depth n i)).isEmpty = false := by
      rw [List.isEmpty_eq_false_iff]
      intro h6
      have h7 := congrArg List.length h6
      rw [List.length_drop] at h7
      simp at h7
      omega
    rw [h4, decide_eq_false (show ¬ p.length = depth n i by omega)]
    simp [exactB, h5]

theorem rs_bo (N : Nat) : ∀ (n m : Nat) (b : Bool) (o : ByteArray) (p q : List ByteArray) (c : Bool), n ≤ N → p.length = span n m b → rsB n m b o (p ++ q, c) = ((boB n m b o p).1, (boB n m b o p).2, q, c) := by
  have base : ∀ (b : Bool) (o : ByteArray) (p q : List ByteArray) (c : Bool), p.length = (if b then 0 else 1) →
      (if b then (o, o, ((p ++ q, c) : Rest)) else ((tk (p ++ q, c)).1, (tk (p ++ q, c)).1, (tk (p ++ q, c)).2)) =
        ((if b then (o, o) else (p.headD ByteArray.empty, p.headD ByteArray.empty)).1, (if b then (o, o) else (p.headD ByteArray.empty, p.headD ByteArray.empty)).2, q, c) := by
    intro b o p q c h
    cases b with
    | true =>
      rw [if_pos rfl] at h
      rw [List.eq_nil_of_length_eq_zero h]
      rfl
    | false =>
      match p, h with
      | [x], _ => rfl
  induction N with
  | zero =>
    intro n m b o p q c hn hp
    have h0 : m = n ∨ n ≤ 1 := .inr (by omega)
    rw [span_eq, if_pos h0] at hp
    rw [rsB_eq, boB_eq, if_pos h0, if_pos h0]
    exact base b o p q c hp
  | succ N ih =>
    intro n m b o p q c hn hp
    rw [span_eq] at hp
    rw [rsB_eq, boB_eq]
    by_cases h1 : m = n ∨ n ≤ 1
    · rw [if_pos h1] at hp ⊢
      rw [if_pos h1]
      exact base b o p q c hp
    · have k1 := half_lt n (by omega)
      have k2 := half_pos n
      rw [if_neg h1] at hp ⊢
      rw [if_neg h1]
      by_cases h2 : m ≤ half n
      · rw [if_pos h2] at hp ⊢
        rw [if_pos h2]
        have e := snoc_of p (by omega)
        have hl : p.dropLast.length = span (half n) m b := by rw [List.length_dropLast]; omega
        have e2 : p ++ q = p.dropLast ++ (lastB p :: q) := by rw [congrArg (· ++ q) e, List.append_assoc]; rfl
        rw [e2, ih (half n) m b o p.dropLast (lastB p :: q) c (by omega) hl]
        rfl
      · rw [if_neg h2] at hp ⊢
        rw [if_neg h2]
        have e := snoc_of p (by omega)
        have hl : p.dropLast.length = span (n - half n) (m - half n) false := by rw [List.length_dropLast]; omega
        have e2 : p ++ q = p.dropLast ++ (lastB p :: q) := by rw [congrArg (· ++ q) e, List.append_assoc]; rfl
        rw [e2, ih (n - half n) (m - half n) false o p.dropLast (lastB p :: q) c (by omega) hl]
        rfl

theorem rs_short (N : Nat) : ∀ (n m : Nat) (b : Bool) (o : ByteArray) (p : List ByteArray) (c : Bool), n ≤ N → p.length < span n m b → (rsB n m b o (p, c)).2.2 = ([], true) := by
  have base : ∀ (b : Bool) (o : ByteArray) (p : List ByteArray) (c : Bool), p.length < (if b then 0 else 1) →
      (if b then (o, o, ((p, c) : Rest)) else ((tk (p, c)).1, (tk (p, c)).1, (tk (p, c)).2)).2.2 = ([], true) := by
    intro b o p c h
    cases b with
    | true => rw [if_pos rfl] at h; omega
    | false =>
      match p, h with
      | [], _ => rfl
  induction N with
  | zero =>
    intro n m b o p c hn hp
    have h0 : m = n ∨ n ≤ 1 := .inr (by omega)
    rw [span_eq, if_pos h0] at hp
    rw [rsB_eq, if_pos h0]
    exact base b o p c hp
  | succ N ih =>
    intro n m b o p c hn hp
    rw [span_eq] at hp
    rw [rsB_eq]
    by_cases h1 : m = n ∨ n ≤ 1
    · rw [if_pos h1] at hp ⊢
      exact base b o p c hp
    · have k1 := half_lt n (by omega)
      have k2 := half_pos n
      rw [if_neg h1] at hp ⊢
      by_cases h2 : m ≤ half n
      · rw [if_pos h2] at hp ⊢
        by_cases h3 : p.length < span (half n) m b
        · rw [ih (half n) m b o p c (by omega) h3]
          rfl
        · have h4 := rs_bo n (half n) m b o p [] c (by omega) (by omega)
          rw [List.append_nil] at h4
          rw [h4]
          rfl
      · rw [if_neg h2] at hp ⊢
        by_cases h3 : p.length < span (n - half n) (m - half n) false
        · rw [ih (n - half n) (m - half n) false o p c (by omega) h3]
          rfl
        · have h4 := rs_bo n (n - half n) (m - half n) false o p [] c (by omega) (by omega)
          rw [List.append_nil] at h4
          rw [h4]
          rfl

/-- what Extends answers of a link, in both ways -/
theorem rs_check (n m : Nat) (b : Bool) (o x y : ByteArray) (p : List ByteArray) : (decide ((rsB n m b o (p, false)).1 = x) && decide ((rsB n m b o (p, false)).2.1 = y) && exactB (rsB n m b o (p, false)).2.2) =
    (decide (p.length = span n m b) && (decide ((boB n m b o p).1 = x) && decide ((boB n m b o p).2 = y))) := by
  rcases Nat.lt_trichotomy p.length (span n m b) with h | h | h
  · rw [rs_short n n m b o p false (Nat.le_refl _) h, decide_eq_false (show ¬ p.length = span n m b by omega)]
    simp [exactB]
  · have h4 := rs_bo n n m b o p [] false (Nat.le_refl _) h
    rw [List.append_nil] at h4
    rw [h4, decide_eq_true h]
    simp [exactB]
  · have h4 := rs_bo n n m b o (p.take (span n m b)) (p.drop (span n m b)) false (Nat.le_refl _) (by rw [List.length_take]; omega)
    rw [List.take_append_drop] at h4
    have h5 : (p.drop (span n m b)).isEmpty = false := by
      rw [List.isEmpty_eq_false_iff]
      intro h6
      have h7 := congrArg List.length h6
      rw [List.length_drop] at h7
      simp at h7
      omega
    rw [h4, decide_eq_false (show ¬ p.length = span n m b by omega)]
    simp [exactB, h5]

end Go.Proofs.YteapfoadfjjicaaDoor.Dig

/- Plain mathematics of layer 2 (tree): paths and links prove, and bind; the strings that are digested. No Go, no program. -/
namespace Go.Proofs.YteapfoadfjjicaaDoor.Dig
set_option linter.unusedVariables false
set_option linter.unusedSimpArgs false

theorem take_drop_mid (l : List ByteArray) (k m : Nat) (h : k ≤ m) : (l.take m).take k = l.take k := by rw [List.take_take, Nat.min_eq_left h]
theorem drop_take_mid (l : List ByteArray) (k m : Nat) (h : k ≤ m) : (l.take m).drop k = (l.drop k).take (m - k) := by rw [List.drop_take]

/-! ### Lengths -/

theorem pathB_length (N : Nat) : ∀ (l : List ByteArray) (i : Nat), l.length ≤ N → (pathB l i).length = depth l.length i := by
  induction N with
  | zero =>
    intro l i hl
    rw [pathB_eq, depth_eq, if_pos (by omega), if_pos (by omega)]
    rfl
  | succ N ih =>
    intro l i hl
    rw [pathB_eq, depth_eq]
    by_cases h1 : l.length ≤ 1
    · rw [if_pos h1, if_pos h1]; rfl
    · have k1 := half_lt l.length (by omega)
      have k2 := half_pos l.length
      rw [if_neg h1, if_neg h1]
      by_cases h2 : i < half l.length
      · rw [if_pos h2, if_pos h2, List.length_append, ih _ _ (by rw [List.length_take]; omega), List.length_take, Nat.min_eq_left (by omega)]
        simp
        omega
      · rw [if_neg h2, if_neg h2, List.length_append, ih _ _ (by rw [List.length_drop]; omega), List.length_drop]
        simp
        omega

theorem linkB_length (N : Nat) : ∀ (l : List ByteArray) (m : Nat) (b : Bool), l.length ≤ N → (linkB l m b).length = span l.length m b := by
  induction N with
  | zero =>
    intro l m b hl
    have h0 : m = l.length ∨ l.length ≤ 1 := .inr (by omega)
    rw [linkB_eq, span_eq, if_pos h0, if_pos h0]
    cases b <;> rfl
  | succ N ih =>
    intro l m b hl
    rw [linkB_eq, span_eq]
    by_cases h1 : m = l.length ∨ l.length ≤ 1
    · rw [if_pos h1, if_pos h1]
      cases b <;> rfl
    · have k1 := half_lt l.length (by omega)
      have k2 := half_pos l.length
      rw [if_neg h1, if_neg h1]
      by_cases h2 : m ≤ half l.length
      · rw [if_pos h2, if_pos h2, List.length_append, ih _ _ _ (by rw [List.length_take]; omega), List.length_take, Nat.min_eq_left (by omega)]
        simp
        omega
      · rw [if_neg h2, if_neg h2, List.length_append, ih _ _ _ (by rw [List.length_drop]; omega), List.length_drop]
        simp
        omega

/-! ### All elements of paths and links are digests -/

theorem all_take {f : ByteArray → Bool} {l : List ByteArray} (k : Nat) (h : l.all f = true) : (l.take k).all f = true := by
  rw [List.all_eq_true] at h ⊢
  exact fun x hx => h x (List.mem_of_mem_take hx)
theorem all_drop {f : ByteArray → Bool} {l : List ByteArray} (k : Nat) (h : l.all f = true) : (l.drop k).all f = true := by
  rw [List.all_eq_true] at h ⊢
  exact fun x hx => h x (List.mem_of_mem_drop hx)
theorem rootB_dig (l : List ByteArray) (h : l.all digB = true) : digB (rootB l) = true := by
  rw [rootB_eq, rootStep]
  split
  · exact lsum_dig _
  · split
    · match l, h with
      | [x], h => simpa using h
      | _ :: _ :: _, _ => simp at *
      | [], _ => simp at *
    · exact nodeB_dig _ _
theorem pathB_dig (N : Nat) : ∀ (l : List ByteArray) (i : Nat), l.length ≤ N → l.all digB = true → (pathB l i).all digB = true := by
  induction N with
  | zero =>
    intro l i hl _
    rw [pathB_eq, if_pos (by omega)]
    rfl
  | succ N ih =>
    intro l i hl hd
    rw [pathB_eq]
    by_cases h1 : l.length ≤ 1
    · rw [if_pos h1]; rfl
    · have k1 := half_lt l.length (by omega)
      have k2 := half_pos l.length
      rw [if_neg h1]
      by_cases h2 : i < half l.length
      · rw [if_pos h2, List.all_append, ih _ _ (by rw [List.length_take]; omega) (all_take _ hd)]
        simp [rootB_dig _ (all_drop _ hd)]
      · rw [if_neg h2, List.all_append, ih _ _ (by rw [List.length_drop]; omega) (all_drop _ hd)]
        simp [rootB_dig _ (all_take _ hd)]
theorem linkB_dig (N : Nat) : ∀ (l : List ByteArray) (m : Nat) (b : Bool), l.length ≤ N → l.all digB = true → (linkB l m b).all digB = true := by
  have base : ∀ (l : List ByteArray) (b : Bool), l.all digB = true → ((if b then [] else [rootB l]) : List ByteArray).all digB = true := by
    intro l b hd
    cases b with
    | true => rfl
    | false => simp [rootB_dig _ hd]
  induction N with
  | zero =>
    intro l m b hl hd
    have h0 : m = l.length ∨ l.length ≤ 1 := .inr (by omega)
    rw [linkB_eq, if_pos h0]
    exact base l b hd
  | succ N ih =>
    intro l m b hl hd
    rw [linkB_eq]
    by_cases h1 : m = l.length ∨ l.length ≤ 1
    · rw [if_pos h1]
      exact base l b hd
    · have k1 := half_lt l.length (by omega)
      have k2 := half_pos l.length
      rw [if_neg h1]
      by_cases h2 : m ≤ half l.length
      · rw [if_pos h2, List.all_append, ih _ _ _ (by rw [List.length_take]; omega) (all_take _ hd)]
        simp [rootB_dig _ (all_drop _ hd)]
      · rw [if_neg h2, List.all_append, ih _ _ _ (by rw [List.length_drop]; omega) (all_drop _ hd)]
        simp [rootB_dig _ (all_take _ hd)]

/-! ### A path proves its element, a link its beginning -/

theorem lastB_snoc (p : List ByteArray) (x : ByteArray) : lastB (p ++ [x]) = x := by simp [lastB]
theorem dropLast_snoc (p : List ByteArray) (x : ByteArray) : (p ++ [x]).dropLast = p := by simp

theorem up_path (N : Nat) : ∀ (l : List ByteArray) (i : Nat), l.length ≤ N → (hi : i < l.length) → upB l.length i l[i] (pathB l i) = rootB l := by
  induction N with
  | zero => intro l i hl hi; omega
  | succ N ih =>
    intro l i hl hi
    by_cases h1 : l.length ≤ 1
    · rw [upB_eq, if_pos h1]
      match l, i, hi, h1 with
      | [x], 0, _, _ => rfl
    · have k1 := half_lt l.length (by omega)
      have k2 := half_pos l.length
      rw [upB_eq, pathB_eq, if_neg h1, if_neg h1, rootB_node l (by omega)]
      by_cases h2 : i < half l.length
      · rw [if_pos h2, if_pos h2, lastB_snoc, dropLast_snoc]
        have h3 := ih (l.take (half l.length)) i (by rw [List.length_take]; omega) (by rw [List.length_take]; omega)
        have hlen : (l.take (half l.length)).length = half l.length := by rw [List.length_take]; omega
        have he : (l.take (half l.length))[i]'(by rw [List.length_take]; omega) = l[i] := List.getElem_take
        rw [he, hlen] at h3
        rw [h3]
      · rw [if_neg h2, if_neg h2, lastB_snoc, dropLast_snoc]
        have h3 := ih (l.drop (half l.length)) (i - half l.length) (by rw [List.length_drop]; omega) (by rw [List.length_drop]; omega)
        have he : (l.drop (half l.length))[i - half l.length]'(by rw [List.length_drop]; omega) = l[i] := by
          rw [List.getElem_drop]
          congr 1
          omega
        rw [he, List.length_drop] at h3
        rw [h3]

/-- the root of a beginning that is longer than the first part -/
theorem rootB_begin (l : List ByteArray) (m : Nat) (h : 2 ≤ l.length) (h1 : half l.length < m) (h2 : m ≤ l.length) :
    rootB (l.take m) = nodeB (rootB (l.take (half l.length))) (rootB ((l.drop (half l.length)).take (m - half l.length))) := by
  have k2 := half_pos l.length
  have hlen : (l.take m).length = m := by rw [List.length_take]; omega
  rw [rootB_node _ (by omega), hlen, half_mid l.length m h h1 h2, take_drop_mid _ _ _ (by omega), drop_take_mid _ _ _ (by omega)]

theorem bo_link (N : Nat) : ∀ (l : List ByteArray) (m : Nat) (b : Bool) (o : ByteArray), l.length ≤ N → 1 ≤ m → m ≤ l.length → (b = true → o = rootB (l.take m)) →
    boB l.length m b o (linkB l m b) = (rootB (l.take m), rootB l) := by
  induction N with
  | zero => intro l m b o hl h1 h2; omega
  | succ N ih =>
    intro l m b o hl hm1 hm2 ho
    by_cases h1 : m = l.length ∨ l.length ≤ 1
    · have hm : m = l.length := by omega
      rw [boB_eq, linkB_eq, if_pos h1, if_pos h1]
      subst hm
      rw [List.take_length] at ho ⊢
      cases b with
      | true => rw [ho rfl]; rfl
      | false => rfl
    · have k1 := half_lt l.length (by omega)
      have k2 := half_pos l.length
      rw [boB_eq, linkB_eq, if_neg h1, if_neg h1, rootB_node l (by omega)]
      by_cases h2 : m ≤ half l.length
      · rw [if_pos h2, if_pos h2, lastB_snoc, dropLast_snoc]
        have hlen : (l.take (half l.length)).length = half l.length := by rw [List.length_take]; omega
        have h3 := ih (l.take (half l.length)) m b o (by omega) hm1 (by omega) (by rw [take_drop_mid _ _ _ h2]; exact ho)
        rw [hlen, take_drop_mid _ _ _ h2] at h3
        rw [h3]
      · rw [if_neg h2, if_neg h2, lastB_snoc, dropLast_snoc]
        have h3 := ih (l.drop (half l.length)) (m - half l.length) false o (by rw [List.length_drop]; omega) (by omega) (by rw [List.length_drop]; omega) (by intro h; cases h)
        rw [List.length_drop] at h3
        rw [h3, rootB_begin l m (by omega) (by omega) hm2]

/-! ### Numbers of digits -/

/-- the number of binary digits -/
def bits2 (n : Nat) : Nat := if n = 0 then 0 else Nat.log2 n + 1
theorem bits2_half (n : Nat) (h : 0 < n) : bits2 n = bits2 (n / 2) + 1 := by
  unfold bits2
  rw [if_neg (by omega), Nat.log2_def]
  split
  · rw [if_neg (by omega)]
  · rw [if_pos (by omega)]
theorem depth_bits : ∀ n : Fin 21, ∀ i : Fin 21, i.val < n.val → depth n.val i.val ≤ bits2 n.val ∧ ((depth n.val i.val = 0) ↔ n.val = 1) := by decide +kernel
theorem span_bits : ∀ n : Fin 21, ∀ m : Fin 21, 0 < m.val → m.val ≤ n.val → span n.val m.val true ≤ bits2 n.val + 1 ∧ ((span n.val m.val true = 0) ↔ m.val = n.val) := by decide +kernel

/-! ### The strings that are digested -/

def textsStep (r : List ByteArray → List ByteArray) (l : List ByteArray) : List ByteArray :=
  if l.length = 0 then [joinT [wEmpty]] else if l.length = 1 then []
  else (r (l.take (half l.length)) ++ r (l.drop (half l.length))) ++ [joinT [wNode, rootB (l.take (half l.length)), rootB (l.drop (half l.length))]]
def textsB : List ByteArray → List ByteArray := recN [] List.length textsStep
theorem textsB_eq (l : List ByteArray) : textsB l = if l.length = 0 then [joinT [wEmpty]] else if l.length = 1 then []
    else (textsB (l.take (half l.length)) ++ textsB (l.drop (half l.length))) ++ [joinT [wNode, rootB (l.take (half l.length)), rootB (l.drop (half l.length))]] := recN_eq (fun g h x H => by
  unfold textsStep
  split
  · rfl
  · split
    · rfl
    · have h1 := half_lt x.length (by omega)
      have h2 := half_pos x.length
      rw [H _ (by rw [List.length_take]; omega), H _ (by rw [List.length_drop]; omega)]) l

def ptStep (r : UpIn → List ByteArray) (x : UpIn) : List ByteArray :=
  if x.1 ≤ 1 then [] else if x.2.1 < half x.1 then r (half x.1, x.2.1, x.2.2.1, x.2.2.2.dropLast) ++ [joinT [wNode, upB (half x.1) x.2.1 x.2.2.1 x.2.2.2.dropLast, lastB x.2.2.2]]
  else r (x.1 - half x.1, x.2.1 - half x.1, x.2.2.1, x.2.2.2.dropLast) ++ [joinT [wNode, lastB x.2.2.2, upB (x.1 - half x.1) (x.2.1 - half x.1) x.2.2.1 x.2.2.2.dropLast]]
def ptB (n i : Nat) (d : ByteArray) (p : List ByteArray) : List ByteArray := recN [] (fun x : UpIn => x.1) ptStep (n, i, d, p)
theorem ptB_eq (n i : Nat) (d : ByteArray) (p : List ByteArray) : ptB n i d p = if n ≤ 1 then [] else if i < half n then ptB (half n) i d p.dropLast ++ [joinT [wNode, upB (half n) i d p.dropLast, lastB p]]
    else ptB (n - half n) (i - half n) d p.dropLast ++ [joinT [wNode, lastB p, upB (n - half n) (i - half n) d p.dropLast]] := recN_eq (fun g h x H => by
  unfold ptStep
  split
  · rfl
  · have h1 := half_lt x.1 (by omega)
    have h2 := half_pos x.1
    split
    · rw [H _ (by simp only; omega)]
    · rw [H _ (by simp only; omega)]) (n, i, d, p)

def ltStep (r : BoIn → List ByteArray) (x : BoIn) : List ByteArray :=
  if x.2.1 = x.1 ∨ x.1 ≤ 1 then []
  else if x.2.1 ≤ half x.1 then r (half x.1, x.2.1, x.2.2.1, x.2.2.2.1, x.2.2.2.2.dropLast) ++ [joinT [wNode, (boB (half x.1) x.2.1 x.2.2.1 x.2.2.2.1 x.2.2.2.2.dropLast).2, lastB x.2.2.2.2]]
  else (r (x.1 - half x.1, x.2.1 - half x.1, false, x.2.2.2.1, x.2.2.2.2.dropLast) ++ [joinT [wNode, lastB x.2.2.2.2, (boB (x.1 - half x.1) (x.2.1 - half x.1) false x.2.2.2.1 x.2.2.2.2.dropLast).1]]) ++
    [joinT [wNode, lastB x.2.2.2.2, (boB (x.1 - half x.1) (x.2.1 - half x.1) false x.2.2.2.1 x.2.2.2.2.dropLast).2]]
def ltB (n m : Nat) (b : Bool) (o : ByteArray) (p : List ByteArray) : List ByteArray := recN [] (fun x : BoIn => x.1) ltStep (n, m, b, o, p)
theorem ltB_eq (n m : Nat) (b : Bool) (o : ByteArray) (p : List ByteArray) : ltB n m b o p = if m = n ∨ n ≤ 1 then []
    else if m ≤ half n then ltB (half n) m b o p.dropLast ++ [joinT [wNode, (boB (half n) m b o p.dropLast).2, lastB p]]
    else (ltB (n - half n) (m - half n) false o p.dropLast ++ [joinT [wNode, lastB p, (boB (n - half n) (m - half n) false o p.dropLast).1]]) ++ [joinT [wNode, lastB p, (boB (n - half n) (m - half n) false o p.dropLast).2]] := recN_eq (fun g h x H => by
  unfold ltStep
  split
  · rfl
  · have h1 := half_lt x.1 (by omega)
    have h2 := half_pos x.1
    split
    · rw [H _ (by simp only; omega)]
    · rw [H _ (by simp only; omega)]) (n, m, b, o, p)

/-! ### Two different strings with one digest -/

def Coll (T : List ByteArray) : Prop := ∃ x ∈ T, ∃ y ∈ T, x ≠ y ∧ sumT x = sumT y
theorem Coll.mono {S T : List ByteArray} (h : Coll S) (hs : ∀ x ∈ S, x ∈ T) : Coll T := by
  obtain ⟨x, hx, y, hy, h1, h2⟩ := h
  exact ⟨x, hs x hx, y, hs y hy, h1, h2⟩

theorem node_coll {a b c d : ByteArray} {T : List ByteArray} (h : nodeB a b = nodeB c d) (h1 : joinT [wNode, a, b] ∈ T) (h2 : joinT [wNode, c, d] ∈ T) : Coll T ∨ (a = c ∧ b = d) := by
  by_cases he : joinT [wNode, a, b] = joinT [wNode, c, d]
  · right
    have h3 := joinT_inj he
    simpa using h3
  · left
    exact ⟨_, h1, _, h2, he, h⟩

theorem roots_coll (N : Nat) : ∀ (a b : List ByteArray), a.length ≤ N → a.length = b.length → rootB a = rootB b → Coll (textsB a ++ textsB b) ∨ a = b := by
  induction N with
  | zero =>
    intro a b hl hab _
    right
    rw [List.eq_nil_of_length_eq_zero (show a.length = 0 by omega), List.eq_nil_of_length_eq_zero (show b.length = 0 by omega)]
  | succ N ih =>
    intro a b hl hab h
    by_cases h1 : a.length ≤ 1
    · right
      match a, b, hab, h1, h with
      | [], [], _, _, _ => rfl
      | [x], [y], _, _, h => rw [rootB_one, rootB_one] at h; rw [h]
    · have k1 := half_lt a.length (by omega)
      have k2 := half_pos a.length
      have ea := textsB_eq a
      rw [if_neg (by omega), if_neg (by omega)] at ea
      have eb := textsB_eq b
      rw [if_neg (by omega), if_neg (by omega)] at eb
      rw [rootB_node a (by omega), rootB_node b (by omega)] at h
      rw [← hab] at h eb
      rcases node_coll (T := textsB a ++ textsB b) h (by rw [ea]; simp) (by rw [eb]; simp) with hc | ⟨h2, h3⟩
      · exact .inl hc
      · rcases ih _ _ (by rw [List.length_take]; omega) (by rw [List.length_take, List.length_take, hab]) h2 with hc | h4
        · left
          refine hc.mono fun x hx => ?_
          rw [ea, eb]
          simp only [List.mem_append] at hx ⊢
          rcases hx with hx | hx
          · exact .inl (.inl (.inl hx))
          · exact .inr (.inl (.inl hx))
        · rcases ih _ _ (by rw [List.length_drop]; omega) (by rw [List.length_drop, List.length_drop, hab]) h3 with hc | h5
          · left
            refine hc.mono fun x hx => ?_
            rw [ea, eb]
            simp only [List.mem_append] at hx ⊢
            rcases hx with hx | hx
            · exact .inl (.inl (.inr hx))
            · exact .inr (.inl (.inr hx))
          · right
            rw [← List.take_append_drop (half a.length) a, ← List.take_append_drop (half a.length) b, h4, h5]

theorem binds_coll (N : Nat) : ∀ (l p : List ByteArray) (i : Nat) (s : ByteArray), l.length ≤ N → (hi : i < l.length) → p.length = depth l.length i → upB l.length i s p = rootB l →
    Coll (textsB l ++ ptB l.length i s p) ∨ s = l[i] := by
  induction N with
  | zero => intro l p i s hl hi; omega
  | succ N ih =>
    intro l p i s hl hi hp h
    by_cases h1 : l.length ≤ 1
    · right
      rw [upB_eq, if_pos h1] at h
      match l, i, hi, h1, h with
      | [x], 0, _, _, h => exact h
    · have k1 := half_lt l.length (by omega)
      have k2 := half_pos l.length
      have ea := textsB_eq l
      rw [if_neg (by omega), if_neg (by omega)] at ea
      have eb := ptB_eq l.length i s p
      rw [depth_eq, if_neg h1] at hp
      rw [upB_eq, if_neg h1, rootB_node l (by omega)] at h
      rw [if_neg h1] at eb
      by_cases h2 : i < half l.length
      · rw [if_pos h2] at h eb hp
        have hlen : (l.take (half l.length)).length = half l.length := by rw [List.length_take]; omega
        rcases node_coll (T := textsB l ++ ptB l.length i s p) h (by rw [eb]; simp) (by rw [ea]; simp) with hc | ⟨h3, _⟩
        · exact .inl hc
        · have h4 := ih (l.take (half l.length)) p.dropLast i s (by omega) (by omega) (by rw [List.length_dropLast, hlen]; omega) (by rw [hlen]; exact h3)
          have he : (l.take (half l.length))[i]'(by rw [List.length_take]; omega) = l[i] := List.getElem_take
          rw [he, hlen] at h4
          rcases h4 with hc | h4
          · left
            refine hc.mono fun x hx => ?_
            rw [ea, eb]
            simp only [List.mem_append] at hx ⊢
            rcases hx with hx | hx
            · exact .inl (.inl (.inl hx))
            · exact .inr (.inl hx)
          · exact .inr h4
      · rw [if_neg h2] at h eb hp
        rcases node_coll (T := textsB l ++ ptB l.length i s p) h (by rw [eb]; simp) (by rw [ea]; simp) with hc | ⟨_, h3⟩
        · exact .inl hc
        · have h4 := ih (l.drop (half l.length)) p.dropLast (i - half l.length) s (by rw [List.length_drop]; omega) (by rw [List.length_drop]; omega) (by rw [List.length_dropLast, List.length_drop]; omega) (by rw [List.length_drop]; exact h3)
          have he : (l.drop (half l.length))[i - half l.length]'(by rw [List.length_drop]; omega) = l[i] := by
            rw [List.getElem_drop]
            congr 1
            omega
          rw [he, List.length_drop] at h4
          rcases h4 with hc | h4
          · left
            refine hc.mono fun x hx => ?_
            rw [ea, eb]
            simp only [List.mem_append] at hx ⊢
            rcases hx with hx | hx
            · exact .inl (.inl (.inr hx))
            · exact .inr (.inl hx)
          · exact .inr h4

theorem begins_coll (N : Nat) : ∀ (l p : List ByteArray) (m : Nat) (b : Bool) (o : ByteArray), l.length ≤ N → 1 ≤ m → m ≤ l.length → p.length = span l.length m b → (boB l.length m b o p).2 = rootB l →
    Coll (textsB l ++ textsB (l.take m) ++ ltB l.length m b o p) ∨ (boB l.length m b o p).1 = rootB (l.take m) := by
  induction N with
  | zero => intro l p m b o hl h1 h2; omega
  | succ N ih =>
    intro l p m b o hl hm1 hm2 hp h
    by_cases h1 : m = l.length ∨ l.length ≤ 1
    · right
      have hm : m = l.length := by omega
      rw [boB_eq, if_pos h1] at h ⊢
      rw [hm, List.take_length]
      cases b with
      | true => exact h
      | false => exact h
    · have k1 := half_lt l.length (by omega)
      have k2 := half_pos l.length
      have ea := textsB_eq l
      rw [if_neg (by omega), if_neg (by omega)] at ea
      have eb := ltB_eq l.length m b o p
      rw [span_eq, if_neg h1] at hp
      rw [boB_eq, if_neg h1] at h ⊢
      rw [rootB_node l (by omega)] at h
      rw [if_neg h1] at eb
      by_cases h2 : m ≤ half l.length
      · rw [if_pos h2] at h eb hp ⊢
        have hlen : (l.take (half l.length)).length = half l.length := by rw [List.length_take]; omega
        rcases node_coll (T := textsB l ++ textsB (l.take m) ++ ltB l.length m b o p) h (by rw [eb]; simp) (by rw [ea]; simp) with hc | ⟨h3, _⟩
        · exact .inl hc
        · have h4 := ih (l.take (half l.length)) p.dropLast m b o (by omega) hm1 (by omega) (by rw [List.length_dropLast, hlen]; omega) (by rw [hlen]; exact h3)
          rw [hlen, take_drop_mid _ _ _ h2] at h4
          rcases h4 with hc | h4
          · left
            refine hc.mono fun x hx => ?_
            rw [ea, eb]
            simp only [List.mem_append] at hx ⊢
            rcases hx with (hx | hx) | hx
            · exact .inl (.inl (.inl (.inl hx)))
            · exact .inl (.inr hx)
            · exact .inr (.inl hx)
          · exact .inr h4
      · rw [if_neg h2] at h eb hp ⊢
        rcases node_coll (T := textsB l ++ textsB (l.take m) ++ ltB l.length m b o p) h (by rw [eb]; simp) (by rw [ea]; simp) with hc | ⟨h5, h3⟩
        · exact .inl hc
        · have h4 := ih (l.drop (half l.length)) p.dropLast (m - half l.length) false o (by rw [List.length_drop]; omega) (by omega) (by rw [List.length_drop]; omega) (by rw [List.length_dropLast, List.length_drop]; omega) (by rw [List.length_drop]; exact h3)
          rw [List.length_drop] at h4
          rcases h4 with hc | h4
          · left
            have em := textsB_eq (l.take m)
            have hlen : (l.take m).length = m := by rw [List.length_take]; omega
            rw [hlen, if_neg (by omega), if_neg (by omega), half_mid l.length m (by omega) (by omega) hm2, take_drop_mid _ _ _ (by omega), drop_take_mid _ _ _ (by omega)] at em
            refine hc.mono fun x hx => ?_
            rw [ea, eb, em]
            simp only [List.mem_append] at hx ⊢
            rcases hx with (hx | hx) | hx
            · exact .inl (.inl (.inl (.inr hx)))
            · exact .inl (.inr (.inl (.inr hx)))
            · exact .inr (.inl (.inl hx))
          · right
            rw [rootB_begin l m (by omega) (by omega) hm2]
            show nodeB _ _ = _
            rw [h4, h5]

/-- what a link binds -/
theorem continues_coll (a l p : List ByteArray) (h0 : 1 ≤ a.length) (hle : a.length ≤ l.length) (hp : p.length = span l.length a.length true) (h1 : (boB l.length a.length true (rootB a) p).1 = rootB a)
    (h2 : (boB l.length a.length true (rootB a) p).2 = rootB l) : Coll (textsB a ++ textsB l ++ textsB (l.take a.length) ++ ltB l.length a.length true (rootB a) p) ∨ a = l.take a.length := by
  rcases begins_coll l.length l p a.length true (rootB a) (Nat.le_refl _) h0 hle hp h2 with hc | h3
  · left
    refine hc.mono fun x hx => ?_
    simp only [List.mem_append] at hx ⊢
    rcases hx with (hx | hx) | hx
    · exact .inl (.inl (.inr hx))
    · exact .inl (.inr hx)
    · exact .inr hx
  · rw [h1] at h3
    rcases roots_coll a.length a (l.take a.length) (Nat.le_refl _) (by rw [List.length_take]; omega) h3 with hc | h4
    · left
      refine hc.mono fun x hx => ?_
      simp only [List.mem_append] at hx ⊢
      rcases hx with hx | hx
      · exact .inl (.inl (.inl hx))
      · exact .inl (.inr hx)
    · exact .inr h4

end Go.Proofs.YteapfoadfjjicaaDoor.Dig
