/- What holds while points of the grid are laid, in whatever order. -/
import Derived.Test.YtbkeennjoepmmaaGeoW9
import Derived.Test.YtbkeennjoepmmaaRegInv
namespace Go.Proofs.Ytbkeennjoepmmaa.Ge
set_option linter.unusedVariables false
set_option linter.unusedSimpArgs false
open Go.RowKit
open Go.Proofs.Ytbkeennjoepmmaa.Fr (Two)

/-- what holds while 3 points are laid: b: its call is done, m: its block is made -/
structure Inv3 (W x : World) (g1 g2 g3 : Value) (b1 b2 b3 m1 m2 m3 : Bool) (Y1 Y2 Y3 X1 X2 X3 : Value) (B1 B2 B3 : Nat) : Prop where
  below : Below W.heap.size W x
  y1 : b1 = true → Y1 = g1
  y2 : b2 = true → Y2 = g2
  y3 : b3 = true → Y3 = g3
  x1 : m1 = true → X1 = .pointer (some ⟨B1, 0, none⟩) ∧ W.heap.size ≤ B1 ∧ Two x B1 23 (.int .i64 0) (.int .i64 0)
  x2 : m2 = true → X2 = .pointer (some ⟨B2, 0, none⟩) ∧ W.heap.size ≤ B2 ∧ Two x B2 23 (.int .i64 0) (.int .i64 0)
  x3 : m3 = true → X3 = .pointer (some ⟨B3, 0, none⟩) ∧ W.heap.size ≤ B3 ∧ Two x B3 23 (.int .i64 0) (.int .i64 0)
  d12 : m1 = true → m2 = true → B1 ≠ B2
  d13 : m1 = true → m3 = true → B1 ≠ B3
  d23 : m2 = true → m3 = true → B2 ≠ B3
  o1 : b2 = true → b1 = true
  o2 : b3 = true → b2 = true
theorem Inv3.call1 {W x : World} {g1 g2 g3 : Value} {b1 b2 b3 m1 m2 m3 : Bool} {Y1 Y2 Y3 X1 X2 X3 : Value} {B1 B2 B3 : Nat} (h : Inv3 W x g1 g2 g3 b1 b2 b3 m1 m2 m3 Y1 Y2 Y3 X1 X2 X3 B1 B2 B3) {x' : World} (hx : Below x.heap.size x x') : Inv3 W x' g1 g2 g3 true b2 b3 m1 m2 m3 g1 Y2 Y3 X1 X2 X3 B1 B2 B3 :=
  ⟨h.below.trans (hx.mono h.below.size), fun _ => rfl, h.y2, h.y3, fun e => ⟨(h.x1 e).1, (h.x1 e).2.1, (h.x1 e).2.2.below hx (h.x1 e).2.2.lt⟩, fun e => ⟨(h.x2 e).1, (h.x2 e).2.1, (h.x2 e).2.2.below hx (h.x2 e).2.2.lt⟩, fun e => ⟨(h.x3 e).1, (h.x3 e).2.1, (h.x3 e).2.2.below hx (h.x3 e).2.2.lt⟩, h.d12, h.d13, h.d23, fun _ => rfl, h.o2⟩
theorem Inv3.call2 {W x : World} {g1 g2 g3 : Value} {b1 b2 b3 m1 m2 m3 : Bool} {Y1 Y2 Y3 X1 X2 X3 : Value} {B1 B2 B3 : Nat} (h : Inv3 W x g1 g2 g3 b1 b2 b3 m1 m2 m3 Y1 Y2 Y3 X1 X2 X3 B1 B2 B3) {x' : World} (hp : b1 = true) (hx : Below x.heap.size x x') : Inv3 W x' g1 g2 g3 b1 true b3 m1 m2 m3 Y1 g2 Y3 X1 X2 X3 B1 B2 B3 :=
  ⟨h.below.trans (hx.mono h.below.size), h.y1, fun _ => rfl, h.y3, fun e => ⟨(h.x1 e).1, (h.x1 e).2.1, (h.x1 e).2.2.below hx (h.x1 e).2.2.lt⟩, fun e => ⟨(h.x2 e).1, (h.x2 e).2.1, (h.x2 e).2.2.below hx (h.x2 e).2.2.lt⟩, fun e => ⟨(h.x3 e).1, (h.x3 e).2.1, (h.x3 e).2.2.below hx (h.x3 e).2.2.lt⟩, h.d12, h.d13, h.d23, fun _ => hp, fun _ => rfl⟩
theorem Inv3.call3 {W x : World} {g1 g2 g3 : Value} {b1 b2 b3 m1 m2 m3 : Bool} {Y1 Y2 Y3 X1 X2 X3 : Value} {B1 B2 B3 : Nat} (h : Inv3 W x g1 g2 g3 b1 b2 b3 m1 m2 m3 Y1 Y2 Y3 X1 X2 X3 B1 B2 B3) {x' : World} (hp : b2 = true) (hx : Below x.heap.size x x') : Inv3 W x' g1 g2 g3 b1 b2 true m1 m2 m3 Y1 Y2 g3 X1 X2 X3 B1 B2 B3 :=
  ⟨h.below.trans (hx.mono h.below.size), h.y1, h.y2, fun _ => rfl, fun e => ⟨(h.x1 e).1, (h.x1 e).2.1, (h.x1 e).2.2.below hx (h.x1 e).2.2.lt⟩, fun e => ⟨(h.x2 e).1, (h.x2 e).2.1, (h.x2 e).2.2.below hx (h.x2 e).2.2.lt⟩, fun e => ⟨(h.x3 e).1, (h.x3 e).2.1, (h.x3 e).2.2.below hx (h.x3 e).2.2.lt⟩, h.d12, h.d13, h.d23, h.o1, fun _ => hp⟩
theorem Inv3.made1 {W x : World} {g1 g2 g3 : Value} {b1 b2 b3 m1 m2 m3 : Bool} {Y1 Y2 Y3 X1 X2 X3 : Value} {B1 B2 B3 : Nat} (h : Inv3 W x g1 g2 g3 b1 b2 b3 m1 m2 m3 Y1 Y2 Y3 X1 X2 X3 B1 B2 B3) : Inv3 W (x.alloc (.cells #[.int .i64 0, .int .i64 0] 23)) g1 g2 g3 b1 b2 b3 true m2 m3 Y1 Y2 Y3 (.pointer (some ⟨x.heap.size, 0, none⟩)) X2 X3 x.heap.size B2 B3 :=
  ⟨h.below.alloc h.below.size _, h.y1, h.y2, h.y3, fun _ => ⟨rfl, h.below.size, Two.new _ _ _ _⟩, fun e => ⟨(h.x2 e).1, (h.x2 e).2.1, (h.x2 e).2.2.alloc _⟩, fun e => ⟨(h.x3 e).1, (h.x3 e).2.1, (h.x3 e).2.2.alloc _⟩, fun _ e => Nat.ne_of_gt (h.x2 e).2.2.lt, fun _ e => Nat.ne_of_gt (h.x3 e).2.2.lt, h.d23, h.o1, h.o2⟩
theorem Inv3.made2 {W x : World} {g1 g2 g3 : Value} {b1 b2 b3 m1 m2 m3 : Bool} {Y1 Y2 Y3 X1 X2 X3 : Value} {B1 B2 B3 : Nat} (h : Inv3 W x g1 g2 g3 b1 b2 b3 m1 m2 m3 Y1 Y2 Y3 X1 X2 X3 B1 B2 B3) : Inv3 W (x.alloc (.cells #[.int .i64 0, .int .i64 0] 23)) g1 g2 g3 b1 b2 b3 m1 true m3 Y1 Y2 Y3 X1 (.pointer (some ⟨x.heap.size, 0, none⟩)) X3 B1 x.heap.size B3 :=
  ⟨h.below.alloc h.below.size _, h.y1, h.y2, h.y3, fun e => ⟨(h.x1 e).1, (h.x1 e).2.1, (h.x1 e).2.2.alloc _⟩, fun _ => ⟨rfl, h.below.size, Two.new _ _ _ _⟩, fun e => ⟨(h.x3 e).1, (h.x3 e).2.1, (h.x3 e).2.2.alloc _⟩, fun e _ => Nat.ne_of_lt (h.x1 e).2.2.lt, h.d13, fun _ e => Nat.ne_of_gt (h.x3 e).2.2.lt, h.o1, h.o2⟩
theorem Inv3.made3 {W x : World} {g1 g2 g3 : Value} {b1 b2 b3 m1 m2 m3 : Bool} {Y1 Y2 Y3 X1 X2 X3 : Value} {B1 B2 B3 : Nat} (h : Inv3 W x g1 g2 g3 b1 b2 b3 m1 m2 m3 Y1 Y2 Y3 X1 X2 X3 B1 B2 B3) : Inv3 W (x.alloc (.cells #[.int .i64 0, .int .i64 0] 23)) g1 g2 g3 b1 b2 b3 m1 m2 true Y1 Y2 Y3 X1 X2 (.pointer (some ⟨x.heap.size, 0, none⟩)) B1 B2 x.heap.size :=
  ⟨h.below.alloc h.below.size _, h.y1, h.y2, h.y3, fun e => ⟨(h.x1 e).1, (h.x1 e).2.1, (h.x1 e).2.2.alloc _⟩, fun e => ⟨(h.x2 e).1, (h.x2 e).2.1, (h.x2 e).2.2.alloc _⟩, fun _ => ⟨rfl, h.below.size, Two.new _ _ _ _⟩, h.d12, fun e _ => Nat.ne_of_lt (h.x1 e).2.2.lt, fun e _ => Nat.ne_of_lt (h.x2 e).2.2.lt, h.o1, h.o2⟩
theorem Inv3.start (W : World) (g1 g2 g3 Y1 Y2 Y3 X1 X2 X3 : Value) : Inv3 W W.drew g1 g2 g3 false false false false false false Y1 Y2 Y3 X1 X2 X3 0 0 0 :=
  ⟨(Below.refl _ _).drew, nofun, nofun, nofun, nofun, nofun, nofun, nofun, nofun, nofun, nofun, nofun⟩
/-- where 3 points lie -/
def GridAt3 (W : World) (ax ay bx bz cx cy : Int) (v1 v2 v3 : Value) (wx : World) : Prop :=
  ∃ B1 B2 B3 : Nat, v1 = .pointer (some ⟨B1, 0, none⟩) ∧ v2 = .pointer (some ⟨B2, 0, none⟩) ∧ v3 = .pointer (some ⟨B3, 0, none⟩) ∧ Two wx B1 23 (.int .i64 ax) (.int .i64 ay) ∧ Two wx B2 23 (.int .i64 bx) (.int .i64 bz) ∧ Two wx B3 23 (.int .i64 cx) (.int .i64 cy) ∧ Below W.heap.size W wx
/-- what holds while 4 points are laid: b: its call is done, m: its block is made -/
structure Inv4 (W x : World) (g1 g2 g3 g4 : Value) (b1 b2 b3 b4 m1 m2 m3 m4 : Bool) (Y1 Y2 Y3 Y4 X1 X2 X3 X4 : Value) (B1 B2 B3 B4 : Nat) : Prop where
  below : Below W.heap.size W x
  y1 : b1 = true → Y1 = g1
  y2 : b2 = true → Y2 = g2
  y3 : b3 = true → Y3 = g3
  y4 : b4 = true → Y4 = g4
  x1 : m1 = true → X1 = .pointer (some ⟨B1, 0, none⟩) ∧ W.heap.size ≤ B1 ∧ Two x B1 23 (.int .i64 0) (.int .i64 0)
  x2 : m2 = true → X2 = .pointer (some ⟨B2, 0, none⟩) ∧ W.heap.size ≤ B2 ∧ Two x B2 23 (.int .i64 0) (.int .i64 0)
  x3 : m3 = true → X3 = .pointer (some ⟨B3, 0, none⟩) ∧ W.heap.size ≤ B3 ∧ Two x B3 23 (.int .i64 0) (.int .i64 0)
  x4 : m4 = true → X4 = .pointer (some ⟨B4, 0, none⟩) ∧ W.heap.size ≤ B4 ∧ Two x B4 23 (.int .i64 0) (.int .i64 0)
  d12 : m1 = true → m2 = true → B1 ≠ B2
  d13 : m1 = true → m3 = true → B1 ≠ B3
  d14 : m1 = true → m4 = true → B1 ≠ B4
  d23 : m2 = true → m3 = true → B2 ≠ B3
  d24 : m2 = true → m4 = true → B2 ≠ B4
  d34 : m3 = true → m4 = true → B3 ≠ B4
  o1 : b2 = true → b1 = true
  o2 : b3 = true → b2 = true
  o3 : b4 = true → b3 = true
theorem Inv4.call1 {W x : World} {g1 g2 g3 g4 : Value} {b1 b2 b3 b4 m1 m2 m3 m4 : Bool} {Y1 Y2 Y3 Y4 X1 X2 X3 X4 : Value} {B1 B2 B3 B4 : Nat} (h : Inv4 W x g1 g2 g3 g4 b1 b2 b3 b4 m1 m2 m3 m4 Y1 Y2 Y3 Y4 X1 X2 X3 X4 B1 B2 B3 B4) {x' : World} (hx : Below x.heap.size x x') : Inv4 W x' g1 g2 g3 g4 true b2 b3 b4 m1 m2 m3 m4 g1 Y2 Y3 Y4 X1 X2 X3 X4 B1 B2 B3 B4 :=
  ⟨h.below.trans (hx.mono h.below.size), fun _ => rfl, h.y2, h.y3, h.y4, fun e => ⟨(h.x1 e).1, (h.x1 e).2.1, (h.x1 e).2.2.below hx (h.x1 e).2.2.lt⟩, fun e => ⟨(h.x2 e).1, (h.x2 e).2.1, (h.x2 e).2.2.below hx (h.x2 e).2.2.lt⟩, fun e => ⟨(h.x3 e).1, (h.x3 e).2.1, (h.x3 e).2.2.below hx (h.x3 e).2.2.lt⟩, fun e => ⟨(h.x4 e).1, (h.x4 e).2.1, (h.x4 e).2.2.below hx (h.x4 e).2.2.lt⟩, h.d12, h.d13, h.d14, h.d23, h.d24, h.d34, fun _ => rfl, h.o2, h.o3⟩
theorem Inv4.call2 {W x : World} {g1 g2 g3 g4 : Value} {b1 b2 b3 b4 m1 m2 m3 m4 : Bool} {Y1 Y2 Y3 Y4 X1 X2 X3 X4 : Value} {B1 B2 B3 B4 : Nat} (h : Inv4 W x g1 g2 g3 g4 b1 b2 b3 b4 m1 m2 m3 m4 Y1 Y2 Y3 Y4 X1 X2 X3 X4 B1 B2 B3 B4) {x' : World} (hp : b1 = true) (hx : Below x.heap.size x x') : Inv4 W x' g1 g2 g3 g4 b1 true b3 b4 m1 m2 m3 m4 Y1 g2 Y3 Y4 X1 X2 X3 X4 B1 B2 B3 B4 :=
  ⟨h.below.trans (hx.mono h.below.size), h.y1, fun _ => rfl, h.y3, h.y4, fun e => ⟨(h.x1 e).1, (h.x1 e).2.1, (h.x1 e).2.2.below hx (h.x1 e).2.2.lt⟩, fun e => ⟨(h.x2 e).1, (h.x2 e).2.1, (h.x2 e).2.2.below hx (h.x2 e).2.2.lt⟩, fun e => ⟨(h.x3 e).1, (h.x3 e).2.1, (h.x3 e).2.2.below hx (h.x3 e).2.2.lt⟩, fun e => ⟨(h.x4 e).1, (h.x4 e).2.1, (h.x4 e).2.2.below hx (h.x4 e).2.2.lt⟩, h.d12, h.d13, h.d14, h.d23, h.d24, h.d34, fun _ => hp, fun _ => rfl, h.o3⟩
theorem Inv4.call3 {W x : World} {g1 g2 g3 g4 : Value} {b1 b2 b3 b4 m1 m2 m3 m4 : Bool} {Y1 Y2 Y3 Y4 X1 X2 X3 X4 : Value} {B1 B2 B3 B4 : Nat} (h : Inv4 W x g1 g2 g3 g4 b1 b2 b3 b4 m1 m2 m3 m4 Y1 Y2 Y3 Y4 X1 X2 X3 X4 B1 B2 B3 B4) {x' : World} (hp : b2 = true) (hx : Below x.heap.size x x') : Inv4 W x' g1 g2 g3 g4 b1 b2 true b4 m1 m2 m3 m4 Y1 Y2 g3 Y4 X1 X2 X3 X4 B1 B2 B3 B4 :=
  ⟨h.below.trans (hx.mono h.below.size), h.y1, h.y2, fun _ => rfl, h.y4, fun e => ⟨(h.x1 e).1, (h.x1 e).2.1, (h.x1 e).2.2.below hx (h.x1 e).2.2.lt⟩, fun e => ⟨(h.x2 e).1, (h.x2 e).2.1, (h.x2 e).2.2.below hx (h.x2 e).2.2.lt⟩, fun e => ⟨(h.x3 e).1, (h.x3 e).2.1, (h.x3 e).2.2.below hx (h.x3 e).2.2.lt⟩, fun e => ⟨(h.x4 e).1, (h.x4 e).2.1, (h.x4 e).2.2.below hx (h.x4 e).2.2.lt⟩, h.d12, h.d13, h.d14, h.d23, h.d24, h.d34, h.o1, fun _ => hp, fun _ => rfl⟩
theorem Inv4.call4 {W x : World} {g1 g2 g3 g4 : Value} {b1 b2 b3 b4 m1 m2 m3 m4 : Bool} {Y1 Y2 Y3 Y4 X1 X2 X3 X4 : Value} {B1 B2 B3 B4 : Nat} (h : Inv4 W x g1 g2 g3 g4 b1 b2 b3 b4 m1 m2 m3 m4 Y1 Y2 Y3 Y4 X1 X2 X3 X4 B1 B2 B3 B4) {x' : World} (hp : b3 = true) (hx : Below x.heap.size x x') : Inv4 W x' g1 g2 g3 g4 b1 b2 b3 true m1 m2 m3 m4 Y1 Y2 Y3 g4 X1 X2 X3 X4 B1 B2 B3 B4 :=
  ⟨h.below.trans (hx.mono h.below.size), h.y1, h.y2, h.y3, fun _ => rfl, fun e => ⟨(h.x1 e).1, (h.x1 e).2.1, (h.x1 e).2.2.below hx (h.x1 e).2.2.lt⟩, fun e => ⟨(h.x2 e).1, (h.x2 e).2.1, (h.x2 e).2.2.below hx (h.x2 e).2.2.lt⟩, fun e => ⟨(h.x3 e).1, (h.x3 e).2.1, (h.x3 e).2.2.below hx (h.x3 e).2.2.lt⟩, fun e => ⟨(h.x4 e).1, (h.x4 e).2.1, (h.x4 e).2.2.below hx (h.x4 e).2.2.lt⟩, h.d12, h.d13, h.d14, h.d23, h.d24, h.d34, h.o1, h.o2, fun _ => hp⟩
theorem Inv4.made1 {W x : World} {g1 g2 g3 g4 : Value} {b1 b2 b3 b4 m1 m2 m3 m4 : Bool} {Y1 Y2 Y3 Y4 X1 X2 X3 X4 : Value} {B1 B2 B3 B4 : Nat} (h : Inv4 W x g1 g2 g3 g4 b1 b2 b3 b4 m1 m2 m3 m4 Y1 Y2 Y3 Y4 X1 X2 X3 X4 B1 B2 B3 B4) : Inv4 W (x.alloc (.cells #[.int .i64 0, .int .i64 0] 23)) g1 g2 g3 g4 b1 b2 b3 b4 true m2 m3 m4 Y1 Y2 Y3 Y4 (.pointer (some ⟨x.heap.size, 0, none⟩)) X2 X3 X4 x.heap.size B2 B3 B4 :=
  ⟨h.below.alloc h.below.size _, h.y1, h.y2, h.y3, h.y4, fun _ => ⟨rfl, h.below.size, Two.new _ _ _ _⟩, fun e => ⟨(h.x2 e).1, (h.x2 e).2.1, (h.x2 e).2.2.alloc _⟩, fun e => ⟨(h.x3 e).1, (h.x3 e).2.1, (h.x3 e).2.2.alloc _⟩, fun e => ⟨(h.x4 e).1, (h.x4 e).2.1, (h.x4 e).2.2.alloc _⟩, fun _ e => Nat.ne_of_gt (h.x2 e).2.2.lt, fun _ e => Nat.ne_of_gt (h.x3 e).2.2.lt, fun _ e => Nat.ne_of_gt (h.x4 e).2.2.lt, h.d23, h.d24, h.d34, h.o1, h.o2, h.o3⟩
theorem Inv4.made2 {W x : World} {g1 g2 g3 g4 : Value} {b1 b2 b3 b4 m1 m2 m3 m4 : Bool} {Y1 Y2 Y3 Y4 X1 X2 X3 X4 : Value} {B1 B2 B3 B4 : Nat} (h : Inv4 W x g1 g2 g3 g4 b1 b2 b3 b4 m1 m2 m3 m4 Y1 Y2 Y3 Y4 X1 X2 X3 X4 B1 B2 B3 B4) : Inv4 W (x.alloc (.cells #[.int .i64 0, .int .i64 0] 23)) g1 g2 g3 g4 b1 b2 b3 b4 m1 true m3 m4 Y1 Y2 Y3 Y4 X1 (.pointer (some ⟨x.heap.size, 0, none⟩)) X3 X4 B1 x.heap.size B3 B4 :=
  ⟨h.below.alloc h.below.size _, h.y1, h.y2, h.y3, h.y4, fun e => ⟨(h.x1 e).1, (h.x1 e).2.1, (h.x1 e).2.2.alloc _⟩, fun _ => ⟨rfl, h.below.size, Two.new _ _ _ _⟩, fun e => ⟨(h.x3 e).1, (h.x3 e).2.1, (h.x3 e).2.2.alloc _⟩, fun e => ⟨(h.x4 e).1, (h.x4 e).2.1, (h.x4 e).2.2.alloc _⟩, fun e _ => Nat.ne_of_lt (h.x1 e).2.2.lt, h.d13, h.d14, fun _ e => Nat.ne_of_gt (h.x3 e).2.2.lt, fun _ e => Nat.ne_of_gt (h.x4 e).2.2.lt, h.d34, h.o1, h.o2, h.o3⟩
theorem Inv4.made3 {W x : World} {g1 g2 g3 g4 : Value} {b1 b2 b3 b4 m1 m2 m3 m4 : Bool} {Y1 Y2 Y3 Y4 X1 X2 X3 X4 : Value} {B1 B2 B3 B4 : Nat} (h : Inv4 W x g1 g2 g3 g4 b1 b2 b3 b4 m1 m2 m3 m4 Y1 Y2 Y3 Y4 X1 X2 X3 X4 B1 B2 B3 B4) : Inv4 W (x.alloc (.cells #[.int .i64 0, .int .i64 0] 23)) g1 g2 g3 g4 b1 b2 b3 b4 m1 m2 true m4 Y1 Y2 Y3 Y4 X1 X2 (.pointer (some ⟨x.heap.size, 0, none⟩)) X4 B1 B2 x.heap.size B4 :=
  ⟨h.below.alloc h.below.size _, h.y1, h.y2, h.y3, h.y4, fun e => ⟨(h.x1 e).1, (h.x1 e).2.1, (h.x1 e).2.2.alloc _⟩, fun e => ⟨(h.x2 e).1, (h.x2 e).2.1, (h.x2 e).2.2.alloc _⟩, fun _ => ⟨rfl, h.below.size, Two.new _ _ _ _⟩, fun e => ⟨(h.x4 e).1, (h.x4 e).2.1, (h.x4 e).2.2.alloc _⟩, h.d12, fun e _ => Nat.ne_of_lt (h.x1 e).2.2.lt, h.d14, fun e _ => Nat.ne_of_lt (h.x2 e).2.2.lt, h.d24, fun _ e => Nat.ne_of_gt (h.x4 e).2.2.lt, h.o1, h.o2, h.o3⟩
theorem Inv4.made4 {W x : World} {g1 g2 g3 g4 : Value} {b1 b2 b3 b4 m1 m2 m3 m4 : Bool} {Y1 Y2 Y3 Y4 X1 X2 X3 X4 : Value} {B1 B2 B3 B4 : Nat} (h : Inv4 W x g1 g2 g3 g4 b1 b2 b3 b4 m1 m2 m3 m4 Y1 Y2 Y3 Y4 X1 X2 X3 X4 B1 B2 B3 B4) : Inv4 W (x.alloc (.cells #[.int .i64 0, .int .i64 0] 23)) g1 g2 g3 g4 b1 b2 b3 b4 m1 m2 m3 true Y1 Y2 Y3 Y4 X1 X2 X3 (.pointer (some ⟨x.heap.size, 0, none⟩)) B1 B2 B3 x.heap.size :=
  ⟨h.below.alloc h.below.size _, h.y1, h.y2, h.y3, h.y4, fun e => ⟨(h.x1 e).1, (h.x1 e).2.1, (h.x1 e).2.2.alloc _⟩, fun e => ⟨(h.x2 e).1, (h.x2 e).2.1, (h.x2 e).2.2.alloc _⟩, fun e => ⟨(h.x3 e).1, (h.x3 e).2.1, (h.x3 e).2.2.alloc _⟩, fun _ => ⟨rfl, h.below.size, Two.new _ _ _ _⟩, h.d12, h.d13, fun e _ => Nat.ne_of_lt (h.x1 e).2.2.lt, h.d23, fun e _ => Nat.ne_of_lt (h.x2 e).2.2.lt, fun e _ => Nat.ne_of_lt (h.x3 e).2.2.lt, h.o1, h.o2, h.o3⟩
theorem Inv4.start (W : World) (g1 g2 g3 g4 Y1 Y2 Y3 Y4 X1 X2 X3 X4 : Value) : Inv4 W W.drew g1 g2 g3 g4 false false false false false false false false Y1 Y2 Y3 Y4 X1 X2 X3 X4 0 0 0 0 :=
  ⟨(Below.refl _ _).drew, nofun, nofun, nofun, nofun, nofun, nofun, nofun, nofun, nofun, nofun, nofun, nofun, nofun, nofun, nofun, nofun, nofun⟩
/-- where 4 points lie -/
def GridAt4 (W : World) (ax ay bx bz cx cy dx dy : Int) (v1 v2 v3 v4 : Value) (wx : World) : Prop :=
  ∃ B1 B2 B3 B4 : Nat, v1 = .pointer (some ⟨B1, 0, none⟩) ∧ v2 = .pointer (some ⟨B2, 0, none⟩) ∧ v3 = .pointer (some ⟨B3, 0, none⟩) ∧ v4 = .pointer (some ⟨B4, 0, none⟩) ∧ Two wx B1 23 (.int .i64 ax) (.int .i64 ay) ∧ Two wx B2 23 (.int .i64 bx) (.int .i64 bz) ∧ Two wx B3 23 (.int .i64 cx) (.int .i64 cy) ∧ Two wx B4 23 (.int .i64 dx) (.int .i64 dy) ∧ Below W.heap.size W wx
end Go.Proofs.Ytbkeennjoepmmaa.Ge
