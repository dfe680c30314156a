package polygon

import (
	"math"
	"math/rand"
	"slices"
	"testing"

	"gazetteer/api"
)

// each passes on rings of all kinds: those that are known, all small ones, and
// random ones.
func each(r *rand.Rand, pass func(a []api.Point)) {
	for _, x := range valids {
		pass(x.ring)
	}
	for _, x := range pictures {
		pass(x.ring)
	}
	for _, a := range allSmall() {
		pass(a)
	}
	for i := range 1000 {
		pass(grown(r, sizes[i%len(sizes)], 3+r.Intn(14)))
	}
}

// eachTwo passes on two rings of all kinds: those that are known, small ones, and
// random ones.
func eachTwo(r *rand.Rand, pass func(a, b []api.Point)) {
	for _, x := range pairs {
		pass(x.a, x.b)
	}
	all := allSmall()
	for range 5000 {
		pass(all[r.Intn(len(all))], all[r.Intn(len(all))])
	}
	for i := range 3000 {
		a, b := pair(r, sizes[i%len(sizes)])
		pass(a, b)
	}
}

// ofOne are the answers about one ring and a point.
type ofOne struct {
	valid        bool
	twice, where int
	low, high    api.Point
	err          api.Errno
}

func tell(a []api.Point, p api.Point) ofOne {
	x := ofOne{valid: Valid(a), twice: Twice(a), where: Where(a, p)}
	x.low, x.high, x.err = Box(a)
	return x
}

// ofTwo are the answers about two rings.
type ofTwo struct{ in, around, apart, other bool }

func tellBoth(a, b []api.Point) ofTwo {
	return ofTwo{Within(a, b), Within(b, a), Apart(a, b), Apart(b, a)}
}

// P8.2: one ring, which may be damaged.
func TestBeginnings(t *testing.T) {
	r := rand.New(rand.NewSource(4))
	each(r, func(a []api.Point) {
		p, b := someWhere(r, a), damaged(r, a)
		for i := range a {
			if tell(turned(a, i), p) != tell(a, p) {
				t.Fatalf("%v and %v: not the same from %v on", a, p, a[i])
			}
		}
		for i := range b {
			if tell(turned(b, i), p) != tell(b, p) {
				t.Fatalf("%v and %v: not the same from %v on", b, p, b[i])
			}
		}
	})
}

// P8.2: two rings.
func TestBeginningsOfTwo(t *testing.T) {
	r := rand.New(rand.NewSource(5))
	eachTwo(r, func(a, b []api.Point) {
		want := tellBoth(a, b)
		for range 3 {
			c, d := turned(a, r.Intn(len(a))), turned(b, r.Intn(len(b)))
			if tellBoth(c, d) != want {
				t.Fatalf("%v and %v, but %v and %v", a, b, c, d)
			}
		}
	})
}

// box returns the answers of Box for a valid ring.
func box(t *testing.T, a []api.Point) (api.Point, api.Point) {
	t.Helper()
	low, high, err := Box(a)
	if err != api.OK {
		t.Fatalf("Box of %v: %v", a, err)
	}
	return low, high
}

// P8.3: no point of the ring is beyond the box, and each limit of it is that of
// one of them.
func TestBoxes(t *testing.T) {
	r := rand.New(rand.NewSource(6))
	each(r, func(a []api.Point) {
		low, high := box(t, a)
		reached := [4]bool{}
		for _, p := range a {
			if p.X < low.X || p.Y < low.Y || p.X > high.X || p.Y > high.Y {
				t.Fatalf("%v: %v is beyond", a, p)
			}
			if Where(a, p) != 0 {
				t.Fatalf("%v: %v is not on the boundary", a, p)
			}
			for i, is := range []bool{p.X == low.X, p.Y == low.Y, p.X == high.X, p.Y == high.Y} {
				reached[i] = reached[i] || is
			}
		}
		if reached != [4]bool{true, true, true, true} {
			t.Fatalf("%v: %v, %v", a, low, high)
		}
		for range 10 {
			p, n := someWhere(r, a), 1+r.Intn(3)
			for _, q := range []api.Point{at(low.X-n, p.Y), at(high.X+n, p.Y), at(p.X, low.Y-n), at(p.X, high.Y+n), at(low.X-n, high.Y+n)} {
				if Where(a, q) != -1 {
					t.Fatalf("%v: %v is not outside", a, q)
				}
			}
		}
	})
}

// P8.4: rings whose points can be counted, at both ends of the grid.
func TestCounting(t *testing.T) {
	r := rand.New(rand.NewSource(7))
	count := func(a []api.Point) {
		low, high := box(t, a)
		counts := map[int]int{}
		for x := low.X; x <= high.X; x++ {
			for y := low.Y; y <= high.Y; y++ {
				counts[Where(a, at(x, y))]++
			}
		}
		if Twice(a) != 2*counts[1]+counts[0]-2 {
			t.Fatalf("%v: %v, but %v points inside, and %v on the boundary", a, Twice(a), counts[1], counts[0])
		}
	}
	each(r, func(a []api.Point) {
		if low, high := box(t, a); (high.X-low.X)*(high.Y-low.Y) < 200 {
			count(a)
			count(moved(a, true, true))
		}
	})
	count(comb(10, 9))
	for range 20 {
		count(grown(r, 20, most))
	}
}

// P8.5 and P8.6: all small rings, and what follows for three of them.
func TestSmallThree(t *testing.T) {
	all := allSmall()
	in, apart := make([][]bool, len(all)), make([][]bool, len(all))
	for i, a := range all {
		for _, b := range all {
			in[i], apart[i] = append(in[i], Within(a, b)), append(apart[i], Apart(a, b))
		}
	}
	for i := range all {
		if !in[i][i] || apart[i][i] {
			t.Fatalf("%v: not within itself, or apart", all[i])
		}
		for j := range all {
			if apart[i][j] != apart[j][i] {
				t.Fatalf("%v and %v: apart in one order only", all[i], all[j])
			}
			if !in[i][j] {
				continue
			}
			if apart[i][j] || in[j][i] && i != j {
				t.Fatalf("%v is within %v, and apart, or not another one", all[i], all[j])
			}
			for k := range all {
				if in[j][k] && !in[i][k] {
					t.Fatalf("%v is within %v, this one within %v", all[i], all[j], all[k])
				}
				if apart[j][k] && !apart[i][k] {
					t.Fatalf("%v is within %v, this one apart from %v", all[i], all[j], all[k])
				}
			}
		}
	}
}

// sameCorners reports whether two rings have the same points.
func sameCorners(a, b []api.Point) bool {
	missing := func(a, b []api.Point) bool {
		return slices.ContainsFunc(a, func(p api.Point) bool { return !slices.Contains(b, p) })
	}
	return !missing(a, b) && !missing(b, a)
}

// P8.5 and P8.6: areas and points of two rings.
func TestTwoRings(t *testing.T) {
	r := rand.New(rand.NewSource(8))
	counts := map[ofTwo]int{}
	eachTwo(r, func(a, b []api.Point) {
		x := tellBoth(a, b)
		counts[x]++
		if x.apart != x.other {
			t.Fatalf("%v and %v: apart in one order only", a, b)
		}
		if (x.in || x.around) && x.apart {
			t.Fatalf("%v and %v: within, and apart", a, b)
		}
		if x.in && Twice(a) > Twice(b) || x.around && Twice(b) > Twice(a) {
			t.Fatalf("%v and %v: within, but greater", a, b)
		}
		if x.in && x.around && (!sameCorners(a, b) || Twice(a) != Twice(b)) {
			t.Fatalf("%v and %v: within each other, but not the same points", a, b)
		}
		for range 20 {
			p := someWhere(r, a)
			first, second := Where(a, p), Where(b, p)
			if x.in && first > second {
				t.Fatalf("%v is within %v, but not %v", a, b, p)
			}
			if x.apart && first == 1 && second == 1 {
				t.Fatalf("%v and %v are apart, but %v is inside both", a, b, p)
			}
		}
	})
	for _, x := range []ofTwo{{true, true, false, false}, {true, false, false, false}, {false, true, false, false}, {false, false, true, true}, {}} {
		if counts[x] < 50 {
			t.Errorf("only %v times %v", counts[x], x)
		}
	}
}

// piece returns a valid ring that is cut off another one and is within it, if one
// is found, or else this one.
func piece(r *rand.Rand, a []api.Point) []api.Point {
	for range 20 {
		if b, _, is := cut(r, a); is && Within(b, a) {
			return b
		}
	}
	return a
}

// P8.5 and P8.6: three large rings, within one another or apart.
func TestLargeThree(t *testing.T) {
	r := rand.New(rand.NewSource(9))
	ins, aparts := 0, 0
	for i := range 1500 {
		size := sizes[i%len(sizes)]
		c := grown(r, size, 6+r.Intn(12))
		b := piece(r, c)
		a := piece(r, b)
		if !Within(b, c) || !Within(a, b) || !Within(a, c) || Apart(a, c) || Apart(a, b) {
			t.Fatalf("%v, %v, %v: not within one another", a, b, c)
		}
		if len(a) < len(b) && len(b) < len(c) {
			ins++
		}
		d, e := pair(r, size)
		if f := piece(r, d); Apart(d, e) {
			aparts++
			if !Apart(f, e) || !Apart(e, f) || Within(f, e) || Within(e, f) {
				t.Fatalf("%v is within %v, which is apart from %v", f, d, e)
			}
		}
	}
	if ins < 500 || aparts < 300 {
		t.Errorf("only %v and %v", ins, aparts)
	}
}

// offset returns by how much points can be moved in this direction at most.
func offset(list []api.Point, right, up bool) api.Point {
	low, high := list[0], list[0]
	for _, p := range list {
		low = at(min(low.X, p.X), min(low.Y, p.Y))
		high = at(max(high.X, p.X), max(high.Y, p.Y))
	}
	by := at(-low.X, -low.Y)
	if right {
		by.X = top - high.X
	}
	if up {
		by.Y = top - high.Y
	}
	return by
}

// shifted returns points, all moved by the same numbers.
func shifted(list []api.Point, by api.Point) []api.Point {
	var all []api.Point
	for _, p := range list {
		all = append(all, at(p.X+by.X, p.Y+by.Y))
	}
	return all
}

// moved returns points, all moved as far as they can be in this direction.
func moved(list []api.Point, right, up bool) []api.Point {
	return shifted(list, offset(list, right, up))
}

// exchanged returns points with X and Y exchanged, in the opposite order.
func exchanged(list []api.Point) []api.Point {
	var all []api.Point
	for _, p := range list {
		all = append(all, at(p.Y, p.X))
	}
	slices.Reverse(all)
	return all
}

// P8.7: one ring, which may be damaged, and a point.
func TestMoving(t *testing.T) {
	r := rand.New(rand.NewSource(10))
	check := func(a []api.Point, p api.Point) {
		x := tell(a, p)
		for i := range 4 {
			by := offset(append(slices.Clone(a), p), i&1 != 0, i&2 != 0)
			y := tell(shifted(a, by), at(p.X+by.X, p.Y+by.Y))
			want := x
			if x.valid {
				want.low, want.high = at(x.low.X+by.X, x.low.Y+by.Y), at(x.high.X+by.X, x.high.Y+by.Y)
			}
			if y != want {
				t.Fatalf("%v and %v: %v, but moved by %v: %v", a, p, x, by, y)
			}
		}
		y := tell(exchanged(a), at(p.Y, p.X))
		y.low, y.high = at(y.low.Y, y.low.X), at(y.high.Y, y.high.X)
		if y != x {
			t.Fatalf("%v and %v: %v, but exchanged: %v", a, p, x, y)
		}
	}
	each(r, func(a []api.Point) {
		for _, b := range [][]api.Point{a, damaged(r, a)} {
			if p := someWhere(r, a); specOn(p) && !slices.ContainsFunc(b, func(q api.Point) bool { return !specOn(q) }) {
				check(b, p)
			}
		}
	})
}

// P8.7: two rings.
func TestMovingTwo(t *testing.T) {
	r := rand.New(rand.NewSource(11))
	eachTwo(r, func(a, b []api.Point) {
		want := tellBoth(a, b)
		for i := range 4 {
			by := offset(append(slices.Clone(a), b...), i&1 != 0, i&2 != 0)
			if tellBoth(shifted(a, by), shifted(b, by)) != want {
				t.Fatalf("%v and %v: not the same, moved by %v", a, b, by)
			}
		}
		if tellBoth(exchanged(a), exchanged(b)) != want {
			t.Fatalf("%v and %v: not the same, exchanged", a, b)
		}
	})
}

// P8.8: rings that are cut in all ways.
func TestCutting(t *testing.T) {
	r := rand.New(rand.NewSource(12))
	counts := map[bool]int{}
	each(r, func(a []api.Point) {
		for i := range a {
			for j := range i {
				b, c := halves(a, i, j)
				is := Valid(b) && Valid(c) && Within(b, a) && Within(c, a)
				counts[is]++
				if is && (!Apart(b, c) || !Apart(c, b) || Twice(b)+Twice(c) != Twice(a)) {
					t.Fatalf("%v, cut from %v to %v: %v and %v, not %v", a, a[j], a[i], Twice(b), Twice(c), Twice(a))
				}
				if is && (Within(a, b) || Within(a, c) || Apart(a, b) || Apart(c, a)) {
					t.Fatalf("%v, cut from %v to %v: within a part, or apart from it", a, a[j], a[i])
				}
			}
		}
	})
	if counts[true] < 3000 || counts[false] < 3000 {
		t.Errorf("only %v", counts)
	}
}

// P8.8: rings that are cut into triangles, one after the other: each of these is
// within the ring, no two of them have a common place inside, and all areas add up.
func TestTriangles(t *testing.T) {
	r := rand.New(rand.NewSource(13))
	done := 0
	each(r, func(a []api.Point) {
		var list [][]api.Point
		rest := a
		for len(rest) > 3 {
			i := ear(rest)
			if i < 0 { // what would be left has three points on one straight line
				return
			}
			first, second := halves(turned(rest, i), 0, 2)
			list, rest = append(list, first), second
		}
		list = append(list, rest)
		sum := 0
		for i, b := range list {
			sum += Twice(b)
			if !Within(b, a) {
				t.Fatalf("%v: not within %v", b, a)
			}
			for _, c := range list[:i] {
				if !Apart(b, c) {
					t.Fatalf("%v: %v and %v are not apart", a, b, c)
				}
			}
		}
		if sum != Twice(a) {
			t.Fatalf("%v: %v, but %v in all", a, Twice(a), sum)
		}
		done++
	})
	if done < 1000 {
		t.Errorf("only %v", done)
	}
}

// ear returns a point of a ring from which to the next but one it can be cut; -1
// if there is none.
func ear(a []api.Point) int {
	for i := range a {
		b, c := halves(turned(a, i), 0, 2)
		if Valid(b) && Valid(c) && Within(b, a) && Within(c, a) {
			return i
		}
	}
	return -1
}

// odd returns rings and points that are not valid, and some that are.
func odd(r *rand.Rand) ([][]api.Point, []api.Point) {
	rings := [][]api.Point{nil, {}, make([]api.Point, 40), make([]api.Point, 41), make([]api.Point, 100000)}
	for _, x := range invalids {
		rings = append(rings, x.ring)
	}
	for _, x := range valids {
		rings = append(rings, x.ring, back(x.ring))
	}
	points := square(-1, 0, 1, 5, top, top+1)
	for _, n := range beyond() {
		points = append(points, at(n, 3), at(3, n), at(n, n), at(n, -n), at(n, math.MinInt))
	}
	for range 300 {
		var a []api.Point
		for range r.Intn(44) {
			a = append(a, points[r.Intn(len(points))])
		}
		rings = append(rings, a)
	}
	return rings, points
}

// P1 and P3: equal arguments, valid or not, yield equal results, whatever was
// asked in between; no call panics, or changes its arguments.
func TestAgain(t *testing.T) {
	r := rand.New(rand.NewSource(14))
	rings, points := odd(r)
	var copies [][]api.Point
	for _, a := range rings {
		copies = append(copies, slices.Clone(a))
	}
	type asked struct {
		i, j int
		p    api.Point
		one  ofOne
		two  ofTwo
	}
	var list []asked
	for range 20000 {
		x := asked{i: r.Intn(len(rings)), j: r.Intn(len(rings)), p: points[r.Intn(len(points))]}
		x.one, x.two = tell(rings[x.i], x.p), tellBoth(rings[x.i], rings[x.j])
		list = append(list, x)
	}
	for i, a := range rings {
		if !slices.Equal(a, copies[i]) {
			t.Fatalf("%v: changed", copies[i])
		}
	}
	for _, x := range slices.Backward(list) {
		if tell(copies[x.i], x.p) != x.one || tellBoth(copies[x.i], copies[x.j]) != x.two {
			t.Fatalf("%v and %v: not the same again", copies[x.i], copies[x.j])
		}
	}
	if tell(nil, at(0, 0)) != tell([]api.Point{}, at(0, 0)) {
		t.Error("a nil slice is not equivalent to an empty one")
	}
}
