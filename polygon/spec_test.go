package polygon

import (
	"math/big"
	"math/rand"
	"slices"
	"testing"

	"gazetteer/api"
)

// The chapter's words written down once more, with rational numbers of any size
// and by other means: the sides of rings divide the plane into strips, from one
// corner or crossing to the next one, and these into pieces one above another.
// Nothing here is taken from the code under test.

// top and most are written out, so that a changed limit would be noticed.
const (
	top  = 32767
	most = 40
)

// spot is a place of the plane, with rational coordinates.
type spot struct{ x, y *big.Rat }

func num(n int) *big.Rat { return new(big.Rat).SetInt64(int64(n)) }

func plus(a, b *big.Rat) *big.Rat  { return new(big.Rat).Add(a, b) }
func minus(a, b *big.Rat) *big.Rat { return new(big.Rat).Sub(a, b) }
func times(a, b *big.Rat) *big.Rat { return new(big.Rat).Mul(a, b) }
func over(a, b *big.Rat) *big.Rat  { return new(big.Rat).Quo(a, b) }

// half returns the number in the middle of two.
func half(a, b *big.Rat) *big.Rat { return over(plus(a, b), num(2)) }

func spotOf(p api.Point) spot { return spot{num(p.X), num(p.Y)} }

// way is the segment of two points which are not equal.
type way [2]api.Point

// ways returns the sides of a ring.
func ways(ring []api.Point) []way {
	var list []way
	for i := range ring {
		if i+1 < len(ring) {
			list = append(list, way{ring[i], ring[i+1]})
		} else {
			list = append(list, way{ring[i], ring[0]})
		}
	}
	return list
}

// by returns X * Y' - X' * Y of the directions of two segments.
func by(w, v way) int {
	return (w[1].X-w[0].X)*(v[1].Y-v[0].Y) - (w[1].Y-w[0].Y)*(v[1].X-v[0].X)
}

// part reports whether t / den is from 0 to 1.
func part(t, den int) bool {
	if den < 0 {
		t, den = -t, -den
	}
	return t >= 0 && t <= den
}

// both returns after which parts of two segments that are not parallel their
// straight lines meet, and the number that divides both. By Cramer's rule.
func both(w, v way) (int, int, int) {
	between := way{w[0], v[0]}
	return by(between, v), by(between, w), by(w, v)
}

// common reports whether two segments have a common place.
func common(w, v way) bool {
	t, u, den := both(w, v)
	if den != 0 {
		return part(t, den) && part(u, den)
	}
	if t != 0 || u != 0 { // parallel, but not on one straight line
		return false
	}
	span := func(w way, of func(api.Point) int) (int, int) {
		return min(of(w[0]), of(w[1])), max(of(w[0]), of(w[1]))
	}
	for _, of := range []func(api.Point) int{func(p api.Point) int { return p.X }, func(p api.Point) int { return p.Y }} {
		low, high := span(w, of)
		if first, last := span(v, of); last < low || high < first {
			return false
		}
	}
	return true
}

// specOn is what layer 7 says of points on the grid.
func specOn(p api.Point) bool {
	return 0 <= p.X && p.X <= top && 0 <= p.Y && p.Y <= top
}

// specValid is what the chapter says of valid rings.
func specValid(ring []api.Point) bool {
	if len(ring) < 3 || len(ring) > most {
		return false
	}
	for _, p := range ring {
		if !specOn(p) {
			return false
		}
	}
	list, n := ways(ring), len(ring)
	twice := 0
	for i, w := range list {
		next := (i + 1) % n
		if by(w, list[next]) == 0 {
			return false
		}
		for j, v := range list {
			if j != i && j != next && i != (j+1)%n && common(w, v) {
				return false
			}
		}
		twice += w[0].X*w[1].Y - w[1].X*w[0].Y
	}
	return twice > 0
}

// height returns the y of a segment at an x, and whether it has a place there and
// goes on from it to the right.
func (w way) height(x *big.Rat) (*big.Rat, bool) {
	left, right := w[0], w[1]
	if left.X > right.X {
		left, right = right, left
	}
	if x.Cmp(num(left.X)) < 0 || x.Cmp(num(right.X)) >= 0 {
		return nil, false
	}
	t := over(minus(x, num(left.X)), num(right.X-left.X))
	return plus(num(left.Y), times(t, num(right.Y-left.Y))), true
}

// hasSpot reports whether a place is on a segment.
func (w way) hasSpot(u spot) bool {
	d := [2]*big.Rat{num(w[1].X - w[0].X), num(w[1].Y - w[0].Y)}
	e := [2]*big.Rat{minus(u.x, num(w[0].X)), minus(u.y, num(w[0].Y))}
	if times(d[0], e[1]).Cmp(times(d[1], e[0])) != 0 {
		return false
	}
	i := 0
	if d[0].Sign() == 0 {
		i = 1
	}
	t := over(e[i], d[i])
	return t.Sign() >= 0 && t.Cmp(num(1)) <= 0
}

// specPlace is what H3 says of a place and a valid ring: from inside, an odd
// number of sides are passed on the way downwards.
func specPlace(ring []api.Point, u spot) int {
	below := 0
	for _, w := range ways(ring) {
		if w.hasSpot(u) {
			return 0
		}
		if y, is := w.height(u.x); is && y.Cmp(u.y) < 0 {
			below++
		}
	}
	return below%2*2 - 1
}

// specWhere is what H3 says of Where.
func specWhere(ring []api.Point, p api.Point) int {
	if !specOn(p) || !specValid(ring) {
		return -1
	}
	return specPlace(ring, spotOf(p))
}

// sorted returns rational numbers in order, each of them once.
func sorted(list []*big.Rat) []*big.Rat {
	slices.SortFunc(list, func(a, b *big.Rat) int { return a.Cmp(b) })
	return slices.CompactFunc(list, func(a, b *big.Rat) bool { return a.Cmp(b) == 0 })
}

// borders returns the x of all ends of segments and of all places where two of
// them meet, in order.
func borders(list []way) []*big.Rat {
	var xs []*big.Rat
	for i, w := range list {
		xs = append(xs, num(w[0].X), num(w[1].X))
		for _, v := range list[:i] {
			t, u, den := both(w, v)
			if den != 0 && part(t, den) && part(u, den) {
				xs = append(xs, plus(num(w[0].X), times(over(num(t), num(den)), num(w[1].X-w[0].X))))
			}
		}
	}
	return sorted(xs)
}

// pieces passes on, for each strip between two borders, its width, and a place of
// each of its pieces that has a segment below it and one above it, with the height
// of the piece in the middle of the strip.
func pieces(list []way, pass func(u spot, width, height *big.Rat)) {
	xs := borders(list)
	for i := 1; i < len(xs); i++ {
		x := half(xs[i-1], xs[i])
		var ys []*big.Rat
		for _, w := range list {
			if y, is := w.height(x); is {
				ys = append(ys, y)
			}
		}
		ys = sorted(ys)
		for j := 1; j < len(ys); j++ {
			pass(spot{x, half(ys[j-1], ys[j])}, minus(xs[i], xs[i-1]), minus(ys[j], ys[j-1]))
		}
	}
}

// specTwice is what H2 says of Twice: each piece has straight sides, so that its
// area is its width times the height in its middle.
func specTwice(ring []api.Point) int {
	sum := num(0)
	if specValid(ring) {
		pieces(ways(ring), func(u spot, width, height *big.Rat) {
			if specPlace(ring, u) == 1 {
				sum = plus(sum, times(width, height))
			}
		})
	}
	sum = plus(sum, sum)
	if !sum.IsInt() {
		return -1
	}
	return int(sum.Num().Int64())
}

// specTwo is what H4 says of Within, of a in b and of b in a, and of Apart. Each
// piece is inside a ring, or outside; and a polygon has no places but those of
// pieces inside, and those at the ends of these.
func specTwo(a, b []api.Point) (bool, bool, bool) {
	if !specValid(a) || !specValid(b) {
		return false, false, false
	}
	in, around, apart := true, true, true
	pieces(append(ways(a), ways(b)...), func(u spot, _, _ *big.Rat) {
		switch first, second := specPlace(a, u) == 1, specPlace(b, u) == 1; {
		case first && second:
			apart = false
		case first:
			in = false
		case second:
			around = false
		}
	})
	return in, around, apart
}

// specBox is what H5 says of Box.
func specBox(ring []api.Point) (api.Point, api.Point, api.Errno) {
	if !specValid(ring) {
		return api.Point{}, api.Point{}, api.ErrArg
	}
	var xs, ys []int
	for _, p := range ring {
		xs, ys = append(xs, p.X), append(ys, p.Y)
	}
	return at(slices.Min(xs), slices.Min(ys)), at(slices.Max(xs), slices.Max(ys)), api.OK
}

// compareOne compares the functions of one ring with the chapter, but for Where.
func compareOne(t *testing.T, a []api.Point) {
	t.Helper()
	if got, want := Valid(a), specValid(a); got != want {
		t.Fatalf("Valid of %v: %v", a, got)
	}
	if got, want := Twice(a), specTwice(a); got != want {
		t.Fatalf("Twice of %v: %v, not %v", a, got, want)
	}
	low, high, err := Box(a)
	if wantLow, wantHigh, wantErr := specBox(a); low != wantLow || high != wantHigh || err != wantErr {
		t.Fatalf("Box of %v: %v, %v, %v", a, low, high, err)
	}
}

// comparePoint compares Where with the chapter.
func comparePoint(t *testing.T, a []api.Point, p api.Point) {
	t.Helper()
	if got, want := Where(a, p), specWhere(a, p); got != want {
		t.Fatalf("Where of %v for %v: %v, not %v", p, a, got, want)
	}
}

// compareTwo compares the functions of two rings with the chapter, and returns
// what it says.
func compareTwo(t *testing.T, a, b []api.Point) (bool, bool, bool) {
	t.Helper()
	in, around, apart := specTwo(a, b)
	if got := Within(a, b); got != in {
		t.Fatalf("Within of %v and %v: %v", a, b, got)
	}
	if got := Within(b, a); got != around {
		t.Fatalf("Within of %v and %v: %v", b, a, got)
	}
	if Apart(a, b) != apart || Apart(b, a) != apart {
		t.Fatalf("Apart of %v and %v: not %v", a, b, apart)
	}
	return in, around, apart
}

// lists passes on all lists of up to n points of a grid.
func lists(points []api.Point, n int, pass func([]api.Point)) {
	var list []api.Point
	var more func()
	more = func() {
		pass(list)
		if len(list) == n {
			return
		}
		for _, p := range points {
			list = append(list, p)
			more()
			list = list[:len(list)-1]
		}
	}
	more()
}

// P8.1: all lists of up to 6 points of 3 times 3.
func TestSmallLists(t *testing.T) {
	lists(square(0, 1, 2), 6, func(a []api.Point) {
		if got, want := Valid(a), specValid(a); got != want {
			t.Fatalf("Valid of %v: %v", a, got)
		}
		if specValid(a) || len(a) < 4 {
			compareOne(t, a)
		}
	})
}

// allSmall returns the valid rings with corners among 3 times 3 points, each from
// one of its points on.
func allSmall() [][]api.Point {
	points := square(0, 1, 2)
	var all [][]api.Point
	var list []api.Point
	var more func()
	more = func() {
		if specValid(list) {
			all = append(all, slices.Clone(list))
		}
		for i, p := range points {
			if slices.Contains(list, p) || len(list) > 0 && slices.Index(points, list[0]) > i {
				continue
			}
			list = append(list, p)
			more()
			list = list[:len(list)-1]
		}
	}
	more()
	return all
}

// P8.1: all valid rings with corners among 3 times 3 points, and all pairs of
// them; those inside which they are of the pieces into which all ways from point
// to point divide this square tell whether they are within one another.
func TestSmallPairs(t *testing.T) {
	all := allSmall()
	if len(all) < 300 {
		t.Fatalf("only %v rings", len(all))
	}
	var list []way
	points := square(0, 1, 2)
	for i, p := range points {
		for _, q := range points[:i] {
			list = append(list, way{p, q})
		}
	}
	inside := make([][]bool, len(all))
	pieces(list, func(u spot, _, _ *big.Rat) {
		for i, a := range all {
			inside[i] = append(inside[i], specPlace(a, u) == 1)
		}
	})
	for i, a := range all {
		compareOne(t, a)
		for _, p := range square(0, 1, 2, 3) {
			comparePoint(t, a, p)
		}
		for j, b := range all {
			in, apart := true, true
			for k, is := range inside[i] {
				in = in && (!is || inside[j][k])
				apart = apart && !(is && inside[j][k])
			}
			if Within(a, b) != in || Apart(a, b) != apart {
				t.Fatalf("%v and %v: not %v and %v", a, b, in, apart)
			}
		}
	}
}

// P8.1: random rings, large and small, and points in, on and beside them.
func TestRandomRings(t *testing.T) {
	r := rand.New(rand.NewSource(1))
	for i := range 600 {
		a := grown(r, sizes[i%len(sizes)], 3+r.Intn(most-2))
		compareOne(t, a)
		for range 40 {
			comparePoint(t, a, someWhere(r, a))
		}
	}
}

// P8.1: rings that were valid before a point was moved, exchanged or set to
// another place, and many of which are not.
func TestDamagedRings(t *testing.T) {
	r := rand.New(rand.NewSource(2))
	counts := map[bool]int{}
	for i := range 1500 {
		a := grown(r, sizes[i%len(sizes)], 3+r.Intn(12))
		for range 10 {
			b := damaged(r, a)
			is := specValid(b)
			counts[is]++
			if Valid(b) != is {
				t.Fatalf("Valid of %v: not %v", b, is)
			}
			p := someWhere(r, a)
			comparePoint(t, b, p)
			if low, high, err := Box(b); (err == api.OK) != is || !is && low != high || (Twice(b) > 0) != is {
				t.Fatalf("%v: %v, %v, %v", b, low, high, err)
			}
		}
	}
	if counts[true] < 1000 || counts[false] < 1000 {
		t.Errorf("only %v", counts)
	}
}

// P8.1: random pairs of rings, many with common corners and sides.
func TestRandomPairs(t *testing.T) {
	r := rand.New(rand.NewSource(3))
	ins, aparts, neither := 0, 0, 0
	for i := range 1500 {
		a, b := pair(r, sizes[i%len(sizes)])
		switch in, around, apart := compareTwo(t, a, b); {
		case in || around:
			ins++
		case apart:
			aparts++
		default:
			neither++
		}
	}
	if ins < 100 || aparts < 100 || neither < 100 {
		t.Errorf("only %v, %v, %v", ins, aparts, neither)
	}
}
