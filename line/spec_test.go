package line

import (
	"math/big"
	"math/rand"
	"slices"
	"testing"

	"gazetteer/api"
)

// The chapter's words written down once more, as directly as possible, with
// rational numbers of any size. Nothing here is taken from the code under test,
// nor from the layers below it.

func num(n int) *big.Rat { return new(big.Rat).SetInt64(int64(n)) }

func plus(a, b *big.Rat) *big.Rat  { return new(big.Rat).Add(a, b) }
func minus(a, b *big.Rat) *big.Rat { return new(big.Rat).Sub(a, b) }
func by(a, b *big.Rat) *big.Rat    { return new(big.Rat).Mul(a, b) }

// fr returns a rational number, which is in lowest terms.
func fr(r *big.Rat) api.Fraction {
	return api.Fraction{Num: int(r.Num().Int64()), Den: int(r.Denom().Int64())}
}

// specOn is what layer 7 says of points on the grid.
func specOn(p api.Point) bool {
	return 0 <= p.X && p.X <= top && 0 <= p.Y && p.Y <= top
}

// specValid is what the chapter says of valid lines.
func specValid(a []api.Point) bool {
	if len(a) < 2 || len(a) > most || slices.ContainsFunc(a, func(p api.Point) bool { return !specOn(p) }) {
		return false
	}
	return len(slices.Compact(slices.Clone(a))) == len(a)
}

// foot is what layer 7 says of the place of a segment which is nearest to p: the
// part after which it comes, and the square of its distance. The squares of the
// distances from a + t * (b - a) are p2 - 2 * t * pd + t * t * d2: they are least
// at pd / d2, or at the end of the segment that is nearer to it.
func foot(p, a, b api.Point) (*big.Rat, *big.Rat) {
	d := at(b.X-a.X, b.Y-a.Y)
	v := at(p.X-a.X, p.Y-a.Y)
	t := big.NewRat(int64(v.X*d.X+v.Y*d.Y), int64(d.X*d.X+d.Y*d.Y))
	if t.Sign() < 0 {
		t = num(0)
	}
	if t.Cmp(num(1)) > 0 {
		t = num(1)
	}
	x, y := minus(num(v.X), by(t, num(d.X))), minus(num(v.Y), by(t, num(d.Y)))
	return t, plus(by(x, x), by(y, y))
}

// turn is what layer 7 says of turns.
func turn(a, b, c api.Point) int {
	n := (b.X-a.X)*(c.Y-a.Y) - (b.Y-a.Y)*(c.X-a.X)
	return b2i(n > 0) - b2i(n < 0)
}

// specLocate is what I2 says of Locate, and the distance of each segment.
func specLocate(a []api.Point, p api.Point) (api.Spot, []*big.Rat, api.Errno) {
	if !specValid(a) || !specOn(p) {
		return api.Spot{}, nil, api.ErrArg
	}
	var parts, aways []*big.Rat
	for i := range len(a) - 1 {
		t, away := foot(p, a[i], a[i+1])
		parts, aways = append(parts, t), append(aways, away)
	}
	least := slices.MinFunc(aways, (*big.Rat).Cmp)
	i := slices.IndexFunc(aways, func(r *big.Rat) bool { return r.Cmp(least) == 0 })
	return api.Spot{Seg: i, Part: fr(parts[i]), Side: turn(a[i], a[i+1], p), Away: fr(least)}, aways, api.OK
}

// whole is MaxTerm of layer 5.
const whole = 4611686018427387904

// sum returns the sum of Seg and Part, if a place is well-formed.
func sum(s api.Spot) (*big.Rat, bool) {
	n, d := big.NewInt(int64(s.Part.Num)), big.NewInt(int64(s.Part.Den))
	if s.Seg < 0 || s.Seg > 38 || s.Part.Num < 0 || s.Part.Num > whole || s.Part.Den < 1 || s.Part.Den > whole {
		return nil, false
	}
	if new(big.Int).GCD(nil, nil, n, d).Cmp(big.NewInt(1)) != 0 || n.Cmp(d) > 0 {
		return nil, false
	}
	return plus(num(s.Seg), new(big.Rat).SetFrac(n, d)), true
}

// specBefore is what I3 says of Before.
func specBefore(a, b api.Spot) int {
	x, first := sum(a)
	y, second := sum(b)
	if !first || !second {
		return 0
	}
	return x.Cmp(y)
}

// specNearest is what I5 says of Nearest.
func specNearest(lines [][]api.Point, p api.Point) (int, api.Errno) {
	if len(lines) > 400 {
		return 0, api.ErrLimit
	}
	if len(lines) == 0 || !specOn(p) || slices.ContainsFunc(lines, func(a []api.Point) bool { return !specValid(a) }) {
		return 0, api.ErrArg
	}
	var aways []*big.Rat
	for _, a := range lines {
		_, list, _ := specLocate(a, p)
		aways = append(aways, slices.MinFunc(list, (*big.Rat).Cmp))
	}
	least := slices.MinFunc(aways, (*big.Rat).Cmp)
	return slices.IndexFunc(aways, func(r *big.Rat) bool { return r.Cmp(least) == 0 }), api.OK
}

// compareLine compares the functions of one line and a point with the chapter. It
// returns how many segments are as near as the place.
func compareLine(t *testing.T, a []api.Point, p api.Point) int {
	t.Helper()
	valid := specValid(a)
	if Valid(a) != valid {
		t.Fatalf("Valid of %v: not %v", a, valid)
	}
	var turned []api.Point
	if valid {
		turned = back(a)
	}
	if got := Turned(a); !slices.Equal(got, turned) {
		t.Fatalf("Turned of %v: %v", a, got)
	}
	want, aways, wantErr := specLocate(a, p)
	if got, err := Locate(a, p); got != want || err != wantErr {
		t.Fatalf("Locate of %v beside %v: %v, %v, not %v, %v", p, a, got, err, want, wantErr)
	}
	same := 0
	for _, away := range aways {
		same += b2i(fr(away) == want.Away)
	}
	return same
}

// compareLines compares Nearest with the chapter.
func compareLines(t *testing.T, lines [][]api.Point, p api.Point) {
	t.Helper()
	want, wantErr := specNearest(lines, p)
	if got, err := Nearest(lines, p); got != want || err != wantErr {
		t.Fatalf("Nearest to %v of %v: %v, %v, not %v, %v", p, lines, got, err, want, wantErr)
	}
}

// lists returns all lists of so many points of a small part of the grid.
func lists(n int) [][]api.Point {
	if n == 0 {
		return [][]api.Point{nil}
	}
	var all [][]api.Point
	for _, a := range lists(n - 1) {
		for _, p := range square(1, 2, 3) {
			all = append(all, append(slices.Clone(a), p))
		}
	}
	return all
}

// P9.1: all lists of up to 4 points of 3 times 3, and points in and around it.
func TestSmall(t *testing.T) {
	r := rand.New(rand.NewSource(1))
	around := square(0, 1, 2, 3, 4)
	for n := range 4 {
		for _, a := range lists(n) {
			for _, p := range around {
				compareLine(t, a, p)
			}
		}
	}
	for _, a := range lists(4) {
		for range 2 {
			compareLine(t, a, around[r.Intn(len(around))])
		}
	}
}

// P9.1: random lines of up to 40 points, hardly damaged ones, and points beside
// them.
func TestRandom(t *testing.T) {
	r := rand.New(rand.NewSource(2))
	nowhere := off()
	counts := map[int]int{}
	for i := range 7000 {
		a := random(r, sizes[i%len(sizes)])
		for range 3 {
			counts[compareLine(t, a, someWhere(r, a))]++
		}
		compareLine(t, damaged(r, a), someWhere(r, a))
		compareLine(t, a, nowhere[r.Intn(len(nowhere))])
		b, p := mirrored(r, sizes[i%len(sizes)])
		counts[compareLine(t, b, p)]++
		compareLine(t, back(b), p)
	}
	for _, n := range []int{1, 2, 3} {
		if counts[n] < 500 {
			t.Errorf("only %v times %v segments as near", counts[n], n)
		}
	}
}

// spots returns places of all kinds, many of which are well-formed.
func spots(r *rand.Rand) []api.Spot {
	list := malformed()
	for _, seg := range []int{-1, 0, 1, 2, 20, 36, 37, 38, 39} {
		for _, f := range []api.Fraction{terms(0, 1), terms(1, whole), terms(1, whole-1), terms(1, 9), terms(1, 3), terms(1<<61-1, 1<<62-1), terms(1, 2), terms(1<<61+1, 1<<62-1), terms(2, 3), terms(whole-2, whole-1), terms(whole-1, whole), terms(1, 1), terms(2, 2), terms(-1, 2), terms(3, 2)} {
			list = append(list, api.Spot{Seg: seg, Part: f, Side: r.Intn(9) - 4, Away: terms(r.Intn(9)-4, r.Intn(9)-4)})
		}
	}
	for range 60 {
		den := 1 + r.Intn(60)
		list = append(list, spot(r.Intn(40), r.Intn(den+1), den))
	}
	for range 60 {
		den := 1 + r.Intn(whole)
		list = append(list, spot(r.Intn(3), r.Intn(den+1), den), spot(r.Intn(3), den-1, den))
	}
	return list
}

// P9.1: all pairs of places.
func TestSpots(t *testing.T) {
	list := spots(rand.New(rand.NewSource(3)))
	counts := map[int]int{}
	for _, a := range list {
		for _, b := range list {
			got, want := Before(a, b), specBefore(a, b)
			if got != want {
				t.Fatalf("%v and %v: %v, not %v", a, b, got, want)
			}
			counts[got]++
		}
	}
	if counts[-1] < 5000 || counts[1] < 5000 {
		t.Errorf("only %v", counts)
	}
}

// several returns random lines, of which some are the same, and a point.
func several(r *rand.Rand, size, n int) ([][]api.Point, api.Point) {
	var lines [][]api.Point
	for range n {
		switch r.Intn(4) {
		case 0:
			if len(lines) > 0 {
				lines = append(lines, back(lines[r.Intn(len(lines))]))
				break
			}
			fallthrough
		default:
			lines = append(lines, random(r, size))
		}
	}
	return lines, someWhere(r, lines[r.Intn(n)])
}

// P9.1: several lines, and points beside them; one of the lines may be damaged.
func TestSeveral(t *testing.T) {
	r := rand.New(rand.NewSource(4))
	nowhere := off()
	for i := range 3000 {
		lines, p := several(r, sizes[i%len(sizes)], 1+r.Intn(6))
		compareLines(t, lines, p)
		compareLines(t, lines, nowhere[r.Intn(len(nowhere))])
		j := r.Intn(len(lines))
		lines[j] = damaged(r, lines[j])
		compareLines(t, lines, p)
	}
	for _, n := range []int{399, 400, 401} {
		lines, p := several(r, 9, n)
		compareLines(t, lines, p)
	}
}

// P9.1: two segments, each a line of its own, which are as near, or hardly not.
func TestAsNear(t *testing.T) {
	r := rand.New(rand.NewSource(5))
	counts := map[int]int{}
	for i := range 10000 {
		a, p := mirrored(r, sizes[i%len(sizes)])
		lines := [][]api.Point{a[2:], a[:2]}
		compareLines(t, lines, p)
		_, first, _ := specLocate(lines[0], p)
		_, second, _ := specLocate(lines[1], p)
		counts[first[0].Cmp(second[0])]++
	}
	if counts[-1] < 300 || counts[0] < 300 || counts[1] < 300 {
		t.Errorf("only %v", counts)
	}
}
