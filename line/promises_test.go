package line

import (
	"math"
	"math/rand"
	"slices"
	"testing"

	"gazetteer/api"
	"gazetteer/fraction"
	"gazetteer/geom"
)

// each passes on a line and a point beside it: those that are known, all small
// ones, and random ones.
func each(r *rand.Rand, pass func(a []api.Point, p api.Point)) {
	for _, x := range valids {
		for range 20 {
			pass(x.line, someWhere(r, x.line))
		}
	}
	for _, x := range places {
		pass(x.line, x.p)
	}
	around := square(0, 1, 2, 3, 4)
	for n := range 5 {
		for _, a := range lists(n) {
			if Valid(a) {
				pass(a, around[r.Intn(len(around))])
			}
		}
	}
	for i := range 7000 {
		a := random(r, sizes[i%len(sizes)])
		pass(a, someWhere(r, a))
		pass(mirrored(r, sizes[i%len(sizes)]))
	}
}

// located returns what Locate says of a point of the grid and a valid line.
func located(t *testing.T, a []api.Point, p api.Point) api.Spot {
	t.Helper()
	s, err := Locate(a, p)
	if err != api.OK || s.Seg < 0 || s.Seg > len(a)-2 || !fraction.Valid(s.Part) || !fraction.Valid(s.Away) || s.Side < -1 || s.Side > 1 {
		t.Fatalf("%v beside %v: %v, %v", p, a, s, err)
	}
	return s
}

// order compares two fractions.
func order(t *testing.T, f, g api.Fraction) int {
	t.Helper()
	n, err := fraction.Compare(f, g)
	if err != api.OK {
		t.Fatalf("%v and %v: %v", f, g, err)
	}
	return n
}

// away returns the square of the distance of a point from a segment.
func away(t *testing.T, p, a, b api.Point) api.Fraction {
	t.Helper()
	_, f, err := geom.Foot(p, a, b)
	if err != api.OK {
		t.Fatalf("%v, %v, %v: %v", p, a, b, err)
	}
	return f
}

// near returns how many segments are as near to a point as its place.
func near(t *testing.T, a []api.Point, p api.Point, s api.Spot) int {
	t.Helper()
	n := 0
	for i := range len(a) - 1 {
		n += b2i(away(t, p, a[i], a[i+1]) == s.Away)
	}
	return n
}

// on returns points of the grid that are on a segment: all of them, or those at
// both ends, and some between.
func on(r *rand.Rand, a, b api.Point) []api.Point {
	by, n := step(a, b)
	var list []api.Point
	for i := range min(n+1, 12) {
		if n > 11 {
			i = []int{0, n, 1, n - 1, r.Intn(n), r.Intn(n), r.Intn(n)}[i%7]
		}
		list = append(list, at(a.X+i*by.X, a.Y+i*by.Y))
	}
	return list
}

// P9.2: segments, and points of the grid on them.
func TestNoneNearer(t *testing.T) {
	r := rand.New(rand.NewSource(6))
	counts := map[int]int{}
	each(r, func(a []api.Point, p api.Point) {
		s := located(t, a, p)
		for i := range len(a) - 1 {
			n := order(t, away(t, p, a[i], a[i+1]), s.Away)
			if n < 0 || n == 0 && i < s.Seg || n != 0 && i == s.Seg {
				t.Fatalf("%v beside %v: %v, but there is the segment %v", p, a, s, i)
			}
			counts[n]++
			for _, q := range on(r, a[i], a[i+1]) {
				// Both numbers are less than 2^31, so that their product does not overflow.
				if n := geom.Dist(p, q) * s.Away.Den; n < s.Away.Num || n == s.Away.Num && i < s.Seg {
					t.Fatalf("%v beside %v: %v, but there is %v", p, a, s, q)
				}
			}
		}
	})
	if counts[0] < 10000 || counts[1] < 10000 {
		t.Errorf("only %v", counts)
	}
}

// P9.3
func TestOnLine(t *testing.T) {
	r := rand.New(rand.NewSource(7))
	counts := map[bool]int{}
	each(r, func(a []api.Point, p api.Point) {
		s, is := located(t, a, p), false
		for i := range len(a) - 1 {
			is = is || geom.Between(p, a[i], a[i+1])
		}
		counts[is]++
		if (s.Away == terms(0, 1)) != is || is && s.Side != 0 {
			t.Fatalf("%v beside %v: %v, but on it: %v", p, a, s, is)
		}
		for i := range len(a) - 1 { // and points that are on it
			for _, q := range on(r, a[i], a[i+1]) {
				if s := located(t, a, q); s.Away != terms(0, 1) || s.Side != 0 || s.Seg > i {
					t.Fatalf("%v on %v: %v", q, a, s)
				}
			}
		}
	})
	if counts[true] < 3000 || counts[false] < 3000 {
		t.Errorf("only %v", counts)
	}
}

// P9.4: inside a segment; Side is that of the turn, too.
func TestSides(t *testing.T) {
	r := rand.New(rand.NewSource(8))
	counts := map[int]int{}
	each(r, func(a []api.Point, p api.Point) {
		s := located(t, a, p)
		if s.Side != geom.Turn(a[s.Seg], a[s.Seg+1], p) {
			t.Fatalf("%v beside %v: %v", p, a, s)
		}
		if s.Part == terms(0, 1) || s.Part == terms(1, 1) {
			return
		}
		counts[s.Side]++
		if (s.Side == 0) != (s.Away == terms(0, 1)) {
			t.Fatalf("%v beside %v: %v", p, a, s)
		}
	})
	for _, side := range []int{-1, 0, 1} {
		if counts[side] < 500 {
			t.Errorf("only %v times %v", counts[side], side)
		}
	}
}

// turned returns the points of a valid line in the opposite order.
func turned(t *testing.T, a []api.Point) []api.Point {
	t.Helper()
	b := Turned(a)
	if !Valid(b) || !slices.Equal(b, back(a)) || !slices.Equal(Turned(b), a) {
		t.Fatalf("%v, turned: %v", a, b)
	}
	return b
}

// P9.5
func TestOpposite(t *testing.T) {
	r := rand.New(rand.NewSource(9))
	counts := map[bool]int{}
	each(r, func(a []api.Point, p api.Point) {
		b := turned(t, a)
		s, o := located(t, a, p), located(t, b, p)
		if s.Away != o.Away {
			t.Fatalf("%v beside %v: %v, and %v on the turned line", p, a, s, o)
		}
		one := near(t, a, p, s) == 1
		counts[one]++
		if !one {
			return
		}
		sum, err := fraction.Add(s.Part, o.Part)
		if s.Seg+o.Seg != len(a)-2 || sum != terms(1, 1) || err != api.OK || s.Side != -o.Side {
			t.Fatalf("%v beside %v: %v, and %v on the turned line", p, a, s, o)
		}
	})
	if counts[true] < 3000 || counts[false] < 3000 {
		t.Errorf("only %v", counts)
	}
}

// wellFormed returns those of some places that are well-formed.
func wellFormed(list []api.Spot) []api.Spot {
	return slices.DeleteFunc(list, func(s api.Spot) bool {
		return s.Seg < 0 || s.Seg > 38 || !fraction.Valid(s.Part) || s.Part.Num < 0 || s.Part.Num > s.Part.Den
	})
}

// P9.6: all three places of some; those that are not well-formed have no order,
// which does not depend on the order of two, either.
func TestOrder(t *testing.T) {
	r := rand.New(rand.NewSource(10))
	for _, list := range [][]api.Spot{spots(r), malformed()} {
		for _, a := range list {
			for _, b := range list {
				if n := Before(a, b); n != -Before(b, a) || n < -1 || n > 1 {
					t.Fatalf("%v and %v: %v, but %v in the other order", a, b, n, Before(b, a))
				}
			}
		}
	}
	list := wellFormed(spots(r))
	if len(list) < 200 {
		t.Fatalf("only %v places", len(list))
	}
	for _, a := range list {
		if Before(a, a) != 0 {
			t.Fatalf("%v: not the same as itself", a)
		}
		for _, b := range list {
			n := Before(a, b)
			for _, c := range list {
				m, sum := Before(b, c), Before(a, c)
				if n <= 0 && m <= 0 && (sum > 0 || sum == 0 && (n < 0 || m < 0)) {
					t.Fatalf("%v, %v and %v: %v, %v, but %v", a, b, c, n, m, sum)
				}
			}
		}
	}
}

// P9.6: places with the same Seg and Part are the same place, whatever their other
// fields are; others only where one segment ends and the next one begins.
func TestSame(t *testing.T) {
	list := wellFormed(spots(rand.New(rand.NewSource(11))))
	ends := 0
	for _, a := range list {
		for _, b := range list {
			end := a.Seg+1 == b.Seg && a.Part == terms(1, 1) && b.Part == terms(0, 1) || b.Seg+1 == a.Seg && b.Part == terms(1, 1) && a.Part == terms(0, 1)
			ends += b2i(end)
			if same := a.Seg == b.Seg && a.Part == b.Part || end; same != (Before(a, b) == 0) {
				t.Fatalf("%v and %v: %v", a, b, Before(a, b))
			}
		}
	}
	if ends < 8 {
		t.Errorf("only %v", ends)
	}
}

// P9.6: the places of points that are one behind the other on a line.
func TestAlong(t *testing.T) {
	for _, a := range [][]api.Point{straight(40), stair(40), points(0, 0, top, top), points(7, 9, 7, 4, 3, 4, 3, 9, 5, 9)} {
		var list []api.Spot
		for i := range len(a) - 1 {
			by, n := step(a[i], a[i+1])
			for k := range min(n, 300) {
				list = append(list, located(t, a, at(a[i].X+k*by.X, a[i].Y+k*by.Y)))
			}
		}
		list = append(list, located(t, a, a[len(a)-1]))
		for i, s := range list {
			for j, o := range list {
				if got := Before(s, o); got != b2i(i > j)-b2i(i < j) {
					t.Fatalf("%v: %v, %v: %v", a, s, o, got)
				}
			}
		}
	}
}

// nearest returns what Nearest says of a point of the grid and valid lines.
func nearest(t *testing.T, lines [][]api.Point, p api.Point) int {
	t.Helper()
	i, err := Nearest(lines, p)
	if err != api.OK || i < 0 || i >= len(lines) {
		t.Fatalf("%v and %v: %v, %v", p, lines, i, err)
	}
	return i
}

// first checks that no line is nearer to a point than that of Nearest, and none
// before it as near, and returns the place beside it.
func first(t *testing.T, lines [][]api.Point, p api.Point) (int, api.Spot) {
	t.Helper()
	i := nearest(t, lines, p)
	s := located(t, lines[i], p)
	for j, a := range lines {
		if n := order(t, located(t, a, p).Away, s.Away); n < 0 || n == 0 && j < i {
			t.Fatalf("%v and %v: %v, but there is %v", p, lines, i, j)
		}
	}
	return i, s
}

// P9.7
func TestLines(t *testing.T) {
	r := rand.New(rand.NewSource(12))
	counts := map[bool]int{}
	check := func(lines [][]api.Point, p api.Point, more []api.Point) {
		i, s := first(t, lines, p)
		is := order(t, located(t, more, p).Away, s.Away) < 0
		counts[is]++
		want := i
		if is {
			want = len(lines)
		}
		if got := nearest(t, append(slices.Clone(lines), more), p); got != want {
			t.Fatalf("%v, %v, and %v: %v, not %v", p, lines, more, got, want)
		}
	}
	for i := range 3000 {
		size := sizes[i%len(sizes)]
		lines, p := several(r, size, 1+r.Intn(5))
		check(lines, p, random(r, size))
		check(lines, anywhere(r, size), random(r, size))
		check(lines, p, lines[r.Intn(len(lines))])
		a, p := mirrored(r, size)
		check([][]api.Point{a[2:], a[1:3]}, p, a[:2])
	}
	lines, p := several(r, 2000, 399)
	check(lines, p, random(r, 2000))
	check(lines, p, points(p.X, p.Y, 0, top))
	if i, err := Nearest(append(lines, corner, corner), p); i != 0 || err != api.ErrLimit {
		t.Errorf("401 lines: %v, %v", i, err)
	}
	if counts[false] < 3000 || counts[true] < 1000 {
		t.Errorf("only %v", counts)
	}
}

// P9.8: points of the grid on a segment, put between both ends of it.
func TestFurther(t *testing.T) {
	r := rand.New(rand.NewSource(13))
	done := 0
	each(r, func(a []api.Point, p api.Point) {
		s := located(t, a, p)
		for i := range len(a) - 1 {
			for _, q := range on(r, a[i], a[i+1]) {
				b := slices.Insert(slices.Clone(a), i+1, q)
				if valid := len(b) <= most && q != a[i] && q != a[i+1]; Valid(b) != valid {
					t.Fatalf("%v: not %v", b, valid)
				} else if !valid {
					continue
				}
				done++
				o := located(t, b, p)
				if o.Away != s.Away {
					t.Fatalf("%v beside %v: %v, but %v with %v", p, a, s, o, q)
				}
				if o.Seg != s.Seg+b2i(i < s.Seg) && i != s.Seg {
					t.Fatalf("%v beside %v: %v, but %v with %v", p, a, s, o, q)
				}
			}
		}
	})
	if done < 10000 {
		t.Errorf("only %v", done)
	}
}

// answers are all answers about two lists of points, a point and two places.
type answers struct {
	valid, other     bool
	spot             api.Spot
	err, errs, errs2 api.Errno
	before, index, i int
}

func tell(a, b []api.Point, p api.Point, s, o api.Spot) answers {
	x := answers{valid: Valid(a), other: len(Turned(a)) > 0, before: Before(s, o)}
	x.spot, x.err = Locate(a, p)
	x.index, x.errs = Nearest([][]api.Point{a, b}, p)
	x.i, x.errs2 = Nearest(slices.Repeat([][]api.Point{b}, 399), p)
	return x
}

// odd returns lines and points that are not valid, and some that are.
func odd(r *rand.Rand) ([][]api.Point, []api.Point) {
	lines := [][]api.Point{nil, {}, make([]api.Point, 40), make([]api.Point, 41), make([]api.Point, 100000), straight(41), points(3, 3)}
	for _, x := range valids {
		lines = append(lines, x.line, damaged(r, x.line))
	}
	list := append(square(-1, 0, 1, 5, top, top+1), off()...)
	list = append(list, at(math.MinInt, math.MaxInt), at(math.MaxInt, math.MinInt))
	for range 300 {
		var a []api.Point
		for range r.Intn(44) {
			a = append(a, list[r.Intn(len(list))])
		}
		lines = append(lines, a, random(r, top))
	}
	return lines, list
}

// P1 and P3: equal arguments, valid or not, yield equal results, whatever was
// asked in between; no call panics, or changes its arguments.
func TestAgain(t *testing.T) {
	r := rand.New(rand.NewSource(14))
	lines, list := odd(r)
	places := spots(r)
	var copies [][]api.Point
	for _, a := range lines {
		copies = append(copies, slices.Clone(a))
	}
	type asked struct {
		i, j int
		p    api.Point
		s, o api.Spot
		want answers
	}
	var all []asked
	for range 1500 {
		x := asked{i: r.Intn(len(lines)), j: r.Intn(len(lines)), p: list[r.Intn(len(list))], s: places[r.Intn(len(places))], o: places[r.Intn(len(places))]}
		x.want = tell(lines[x.i], lines[x.j], x.p, x.s, x.o)
		all = append(all, x)
	}
	for i, a := range lines {
		if !slices.Equal(a, copies[i]) {
			t.Fatalf("%v: changed", copies[i])
		}
	}
	for _, x := range slices.Backward(all) {
		if tell(copies[x.i], copies[x.j], x.p, x.s, x.o) != x.want {
			t.Fatalf("%v, %v and %v: not the same again", copies[x.i], copies[x.j], x.p)
		}
	}
	s := spot(1, 1, 2)
	if tell(nil, nil, at(0, 0), s, s) != tell([]api.Point{}, []api.Point{}, at(0, 0), s, s) {
		t.Error("a nil slice is not equivalent to an empty one")
	}
}

// P1 and P3: the lists of lines, and the lines in them, stay as they were, and what
// lies behind them in the same memory, too.
func TestUnchanged(t *testing.T) {
	r := rand.New(rand.NewSource(15))
	for range 300 {
		lines, p := several(r, 60, 2+r.Intn(9))
		var copies [][]api.Point
		for _, a := range lines {
			copies = append(copies, slices.Clone(a))
		}
		n := r.Intn(len(lines))
		want, wantErr := Nearest(copies[:n], p)
		for range 2 {
			if got, err := Nearest(lines[:n], p); got != want || err != wantErr {
				t.Fatalf("%v and %v: %v, %v, not %v, %v", p, copies[:n], got, err, want, wantErr)
			}
			m := r.Intn(len(lines[0]))
			Turned(lines[0][:m])
			Locate(lines[0][:m], p)
		}
		for i, a := range lines {
			if !slices.Equal(a, copies[i]) {
				t.Fatalf("%v: changed", copies[i])
			}
		}
	}
}
