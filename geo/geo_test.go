package geo_test

import (
	"math"
	"math/big"
	"math/rand"
	"slices"
	"testing"

	"windhover/api"
	"windhover/geo"
)

const (
	most  = math.MaxInt
	least = math.MinInt
	end   = 536870912 // what a coordinate may be, either way
	unit  = end / 2   // a grid's step that fills all that coordinates may be with five lines
)

func at(x, y int) api.Point { return api.Point{X: x, Y: y} }

func span(lo, hi int) api.Span { return api.Span{Lo: lo, Hi: hi} }

// poly is a polygon of its corners' coordinates.
func poly(numbers ...int) []api.Point {
	var list []api.Point
	for i := 0; i < len(numbers); i += 2 {
		list = append(list, at(numbers[i], numbers[i+1]))
	}
	return list
}

func square() []api.Point { return poly(0, 0, 10, 0, 10, 10, 0, 10) }

func arrow() []api.Point { return poly(0, 0, 10, 5, 0, 10, 3, 5) }

// ring is a simple polygon of n corners, 3 or more: they lie on a parabola, so that no three are on one line.
func ring(n int) []api.Point {
	var list []api.Point
	for i := range n {
		list = append(list, at(i, i*i))
	}
	return list
}

// comb is a simple polygon of n corners, an even number of 6 or more: teeth from a back at low up to high, a step apart; then back below them.
func comb(n, step, low, high int) []api.Point {
	var list []api.Point
	left := -step * (n - 2) / 2
	for i := range n - 2 {
		y := low + step
		if i%2 == 1 {
			y = high
		}
		list = append(list, at(left+i*step, y))
	}
	return append(list, at(left+(n-3)*step, low), at(left, low))
}

// outOfBounds are numbers that no coordinate may be.
func outOfBounds() []int { return []int{end + 1, -end - 1, most, least, most - 1, least + 1, 1 << 32} }

// grid is all points of n times n, a step apart, the middle one at the middle.
func grid(n, step int) []api.Point {
	var list []api.Point
	for y := range n {
		for x := range n {
			list = append(list, at((x-n/2)*step, (y-n/2)*step))
		}
	}
	return list
}

// eachPolygon makes all polygons of n corners on a grid.
func eachPolygon(n int, points []api.Point, do func(list []api.Point)) {
	list := make([]api.Point, n)
	var fill func(i int)
	fill = func(i int) {
		if i == n {
			do(list)
			return
		}
		for _, p := range points {
			list[i] = p
			fill(i + 1)
		}
	}
	fill(0)
}

func whole(x int) *big.Int { return big.NewInt(int64(x)) }

func less(a, b int) *big.Int { return new(big.Int).Sub(whole(a), whole(b)) }

func times(a, b *big.Int) *big.Int { return new(big.Int).Mul(a, b) }

// reckonCross is the cross of three points by the document's words, in numbers of any size.
func reckonCross(a, b, p api.Point) *big.Int {
	return new(big.Int).Sub(times(less(b.X, a.X), less(p.Y, a.Y)), times(less(b.Y, a.Y), less(p.X, a.X)))
}

func reckonOrient(a, b, p api.Point) int { return reckonCross(a, b, p).Sign() }

func inBetween(x, a, b int) bool { return min(a, b) <= x && x <= max(a, b) }

func reckonOn(a, b, p api.Point) bool {
	return reckonOrient(a, b, p) == 0 && inBetween(p.X, a.X, b.X) && inBetween(p.Y, a.Y, b.Y)
}

// reckonShared is how much two segments have in common: 0 nothing, 1 a point, 2 more.
func reckonShared(a, b, c, d api.Point) int {
	// Two that are on one line share what lies between ends that are on both; any others share a point at most.
	points := map[api.Point]int{}
	for _, p := range []api.Point{a, b} {
		if reckonOn(c, d, p) {
			points[p] = 1
		}
	}
	for _, p := range []api.Point{c, d} {
		if reckonOn(a, b, p) {
			points[p] = 1
		}
	}
	if len(points) > 0 {
		return min(len(points), 2)
	}
	// No end is on the other one: they share a point only if they cross. The point is a + t (b - a), and c + u (d - c), with t and u above 0 and below 1.
	down := new(big.Int).Sub(times(less(b.X, a.X), less(d.Y, c.Y)), times(less(b.Y, a.Y), less(d.X, c.X)))
	if down.Sign() == 0 {
		return 0
	}
	t := new(big.Rat).SetFrac(new(big.Int).Sub(times(less(c.X, a.X), less(d.Y, c.Y)), times(less(c.Y, a.Y), less(d.X, c.X))), down)
	u := new(big.Rat).SetFrac(new(big.Int).Sub(times(less(c.X, a.X), less(b.Y, a.Y)), times(less(c.Y, a.Y), less(b.X, a.X))), down)
	one := big.NewRat(1, 1)
	if t.Sign() > 0 && t.Cmp(one) < 0 && u.Sign() > 0 && u.Cmp(one) < 0 {
		return 1
	}
	return 0
}

func reckonMayBe(x int) bool { return x >= -end && x <= end }

// reckonSimple is what is wrong with a polygon by the document's words.
func reckonSimple(p []api.Point) api.Errno {
	n := len(p)
	if n < 3 {
		return api.ErrFew
	}
	if n > 64 {
		return api.ErrMany
	}
	for _, c := range p {
		if !reckonMayBe(c.X) || !reckonMayBe(c.Y) {
			return api.ErrRange
		}
	}
	for i := range p {
		if p[i] == p[(i+1)%n] {
			return api.ErrTwin
		}
	}
	for i := range p {
		for j := range i {
			free := 0
			if (j+1)%n == i || (i+1)%n == j {
				free = 1
			}
			if reckonShared(p[i], p[(i+1)%n], p[j], p[(j+1)%n]) > free {
				return api.ErrTangle
			}
		}
	}
	return api.OK
}

// reckonSide is where a point is, of a simple polygon: a way from it to far away, so flat that it passes no corner, crosses the sides an odd number of times if it begins inside.
func reckonSide(p []api.Point, q api.Point) int {
	n := len(p)
	far := at(q.X+4*end+1, q.Y+1)
	crossed := 0
	for i := range p {
		if reckonOn(p[i], p[(i+1)%n], q) {
			return 0
		}
		crossed += reckonShared(p[i], p[(i+1)%n], q, far)
	}
	return crossed%2*2 - 1
}

// reckonTouches clips a segment by a rectangle's four edges, part by part of its way.
func reckonTouches(a, b api.Point, x, y api.Span) bool {
	from, to := new(big.Rat), big.NewRat(1, 1)
	clip := func(a, b int, s api.Span) bool {
		if a == b {
			return a >= s.Lo && a <= s.Hi
		}
		t := new(big.Rat).SetFrac(less(s.Lo, a), less(b, a))
		u := new(big.Rat).SetFrac(less(s.Hi, a), less(b, a))
		if t.Cmp(u) > 0 {
			t, u = u, t
		}
		if t.Cmp(from) > 0 {
			from = t
		}
		if u.Cmp(to) < 0 {
			to = u
		}
		return true
	}
	return clip(a.X, b.X, x) && clip(a.Y, b.Y, y) && from.Cmp(to) <= 0
}

// reckonArea2 is the document's sum, in numbers of any size.
func reckonArea2(p []api.Point) *big.Int {
	sum := new(big.Int)
	for i, c := range p {
		d := p[(i+1)%len(p)]
		sum.Add(sum, times(whole(c.X), whole(d.Y)))
		sum.Sub(sum, times(whole(c.Y), whole(d.X)))
	}
	return sum
}

func reckonFar(a, b api.Point) *big.Int {
	x, y := less(b.X, a.X), less(b.Y, a.Y)
	return new(big.Int).Add(times(x, x), times(y, y))
}

func mustOrient(t *testing.T, a, b, p api.Point, want int, wantE api.Errno) {
	t.Helper()
	if s, e := geo.Orient(a, b, p); s != want || e != wantE {
		t.Fatalf("Orient(%v, %v, %v) = %d, %v; want %d, %v", a, b, p, s, e, want, wantE)
	}
}

func mustMeet(t *testing.T, a, b, c, d api.Point, want bool, wantE api.Errno) {
	t.Helper()
	if is, e := geo.Meet(a, b, c, d); is != want || e != wantE {
		t.Fatalf("Meet(%v, %v, %v, %v) = %v, %v; want %v, %v", a, b, c, d, is, e, want, wantE)
	}
}

func mustSimple(t *testing.T, p []api.Point, want api.Errno) {
	t.Helper()
	if e := geo.Simple(p); e != want {
		t.Fatalf("Simple(%v) = %v; want %v", p, e, want)
	}
}

func mustSide(t *testing.T, p []api.Point, q api.Point, want int, wantE api.Errno) {
	t.Helper()
	if s, e := geo.Side(p, q); s != want || e != wantE {
		t.Fatalf("Side(%v, %v) = %d, %v; want %d, %v", p, q, s, e, want, wantE)
	}
}

func mustTouches(t *testing.T, a, b api.Point, x, y api.Span, want bool, wantE api.Errno) {
	t.Helper()
	if is, e := geo.Touches(a, b, x, y); is != want || e != wantE {
		t.Fatalf("Touches(%v, %v, %v, %v) = %v, %v; want %v, %v", a, b, x, y, is, e, want, wantE)
	}
}

func mustArea2(t *testing.T, p []api.Point, want int, wantE api.Errno) {
	t.Helper()
	if n, e := geo.Area2(p); n != want || e != wantE {
		t.Fatalf("Area2(%v) = %d, %v; want %d, %v", p, n, e, want, wantE)
	}
}

func mustFar(t *testing.T, a, b api.Point, want int, wantE api.Errno) {
	t.Helper()
	if n, e := geo.Far(a, b); n != want || e != wantE {
		t.Fatalf("Far(%v, %v) = %d, %v; want %d, %v", a, b, n, e, want, wantE)
	}
}

// TestExamples: all rows of the chapter's 'Examples'.
func TestExamples(t *testing.T) {
	mustOrient(t, at(0, 0), at(5, 0), at(3, 1), 1, api.OK)
	mustOrient(t, at(0, 0), at(5, 0), at(3, 0), 0, api.OK)
	mustOrient(t, at(0, 0), at(5, 0), at(3, -1), -1, api.OK)
	mustMeet(t, at(0, 0), at(4, 4), at(0, 4), at(4, 0), true, api.OK)
	mustMeet(t, at(0, 0), at(4, 0), at(4, 0), at(9, 9), true, api.OK)
	mustMeet(t, at(0, 0), at(4, 0), at(5, 0), at(9, 0), false, api.OK)
	mustMeet(t, at(0, 0), at(4, 0), at(2, 0), at(9, 0), true, api.OK)
	mustMeet(t, at(1, 1), at(1, 1), at(0, 0), at(2, 2), true, api.OK)
	mustSimple(t, square(), api.OK)
	mustSimple(t, arrow(), api.OK)
	mustSimple(t, poly(0, 0, 1, 0), api.ErrFew)
	mustSimple(t, poly(0, 0, 1, 0, 2, 0), api.ErrTangle)
	mustSimple(t, poly(0, 0, 0, 0, 1, 1), api.ErrTwin)
	mustSimple(t, poly(0, 0, 4, 4, 4, 0, 0, 4), api.ErrTangle)
	mustSimple(t, poly(0, 0, 4, 0, 2, 0, 2, 2), api.ErrTangle)
	mustSide(t, square(), at(5, 5), 1, api.OK)
	mustSide(t, square(), at(10, 3), 0, api.OK)
	mustSide(t, square(), at(0, 0), 0, api.OK)
	mustSide(t, square(), at(11, 3), -1, api.OK)
	mustSide(t, arrow(), at(4, 5), 1, api.OK)
	mustSide(t, arrow(), at(3, 5), 0, api.OK)
	mustSide(t, arrow(), at(2, 5), -1, api.OK)
	mustTouches(t, at(0, 0), at(10, 10), span(4, 6), span(0, 3), false, api.OK)
	mustTouches(t, at(0, 0), at(10, 10), span(4, 6), span(0, 4), true, api.OK)
	mustTouches(t, at(0, 0), at(10, 10), span(4, 6), span(4, 4), true, api.OK)
	mustTouches(t, at(0, 0), at(10, 10), span(20, 21), span(0, 30), false, api.OK)
	mustArea2(t, square(), 200, api.OK)
	mustArea2(t, poly(0, 10, 10, 10, 10, 0, 0, 0), -200, api.OK)
	mustArea2(t, arrow(), 70, api.OK)
	mustFar(t, at(0, 0), at(3, -4), 25, api.OK)
	mustOrient(t, at(536870913, 0), at(0, 0), at(0, 0), 0, api.ErrRange)
	mustTouches(t, at(0, 0), at(0, 0), span(3, 2), span(0, 0), false, api.ErrArg)
}

// TestOutOfBounds, P9.1, P9.2, P9.5, P9.7: a coordinate that may not be is ErrRange in each place of each argument, whatever the others are; nothing is answered beside it.
func TestOutOfBounds(t *testing.T) {
	for _, bad := range outOfBounds() {
		for _, fill := range []int{0, 7, end, -end} {
			for place := range 8 {
				n := slices.Repeat([]int{fill}, 8)
				n[place] = bad
				p := poly(n...)
				mustMeet(t, p[0], p[1], p[2], p[3], false, api.ErrRange)
				mustTouches(t, p[0], p[1], span(n[4], n[5]), span(n[6], n[7]), false, api.ErrRange)
				if place < 6 {
					mustOrient(t, p[0], p[1], p[2], 0, api.ErrRange)
				}
				if place < 4 {
					mustFar(t, p[0], p[1], 0, api.ErrRange)
				}
			}
		}
	}
}

// TestEnds, P9.1, P9.2, P9.5, P9.7: the ends of what a coordinate may be are answered exactly, in each place of each argument; the answers fit.
func TestEnds(t *testing.T) {
	ends := []int{-end, -end + 1, 0, end - 1, end}
	r := rand.New(rand.NewSource(91))
	for range 40000 {
		n := make([]int, 8)
		for i := range n {
			n[i] = ends[r.Intn(len(ends))]
		}
		p := poly(n...)
		mustOrient(t, p[0], p[1], p[2], reckonOrient(p[0], p[1], p[2]), api.OK)
		mustMeet(t, p[0], p[1], p[2], p[3], reckonShared(p[0], p[1], p[2], p[3]) > 0, api.OK)
		x, y := span(min(n[4], n[5]), max(n[4], n[5])), span(min(n[6], n[7]), max(n[6], n[7]))
		mustTouches(t, p[0], p[1], x, y, reckonTouches(p[0], p[1], x, y), api.OK)
		mustFar(t, p[0], p[1], int(reckonFar(p[0], p[1]).Int64()), api.OK)
	}
	mustFar(t, at(-end, -end), at(end, end), 1<<61, api.OK)
	mustFar(t, at(end, -end), at(-end, end), 1<<61, api.OK)
	mustFar(t, at(end, end), at(end, end), 0, api.OK)
	mustFar(t, at(end, 0), at(-end, 1), 1<<60+1, api.OK)
	mustOrient(t, at(-end, -end), at(end, -end), at(end, end), 1, api.OK)
	mustOrient(t, at(-end, -end), at(end, end), at(end, end-1), -1, api.OK)
	mustOrient(t, at(-end, -end), at(end, end), at(end-1, end-1), 0, api.OK)
	mustOrient(t, at(-end, -end), at(end, end-1), at(0, 0), 1, api.OK)
	mustOrient(t, at(-end, end), at(end, -end), at(-end, -end), -1, api.OK)
}

// TestOrient, P9.1 and P9.8: left, on the line and right by the cross; the same for b, p, a; the other way round for b, a, p; 0 if two are the same.
func TestOrient(t *testing.T) {
	for _, points := range [][]api.Point{grid(5, 1), grid(5, unit), grid(3, end)} {
		for _, a := range points {
			for _, b := range points {
				for _, p := range points {
					want := reckonOrient(a, b, p)
					mustOrient(t, a, b, p, want, api.OK)
					mustOrient(t, b, p, a, want, api.OK)
					mustOrient(t, b, a, p, -want, api.OK)
				}
				mustOrient(t, a, a, b, 0, api.OK)
				mustOrient(t, a, b, b, 0, api.OK)
				mustOrient(t, a, b, a, 0, api.OK)
			}
		}
	}
}

// mustMeetAnyhow holds Meet with segments and ends exchanged.
func mustMeetAnyhow(t *testing.T, a, b, c, d api.Point, want bool) {
	t.Helper()
	mustMeet(t, a, b, c, d, want, api.OK)
	mustMeet(t, b, a, c, d, want, api.OK)
	mustMeet(t, a, b, d, c, want, api.OK)
	mustMeet(t, b, a, d, c, want, api.OK)
	mustMeet(t, c, d, a, b, want, api.OK)
	mustMeet(t, c, d, b, a, want, api.OK)
	mustMeet(t, d, c, a, b, want, api.OK)
	mustMeet(t, d, c, b, a, want, api.OK)
}

// TestMeet, P9.2 and P9.8: segments of one point, on one line, that cross, that end on the other, that pass one another; with segments and ends exchanged.
func TestMeet(t *testing.T) {
	for _, x := range []struct {
		p    []api.Point
		want bool
	}{
		{poly(1, 1, 1, 1, 1, 1, 1, 1), true},  // one point twice
		{poly(1, 1, 1, 1, 1, 2, 1, 2), false}, // two points
		{poly(1, 1, 1, 1, 2, 1, 2, 1), false}, // two points
		{poly(1, 1, 1, 1, 1, 1, 5, 3), true},  // a point at an end
		{poly(3, 2, 3, 2, 1, 1, 5, 3), true},  // a point within
		{poly(3, 3, 3, 3, 1, 1, 5, 3), false}, // a point beside
		{poly(7, 4, 7, 4, 1, 1, 5, 3), false}, // a point on the line, beyond
		{poly(-1, 0, -1, 0, 1, 1, 5, 3), false},
		{poly(0, 0, 4, 0, 1, 0, 3, 0), true},  // one within the other
		{poly(0, 0, 4, 0, 0, 0, 4, 0), true},  // the same
		{poly(0, 0, 4, 0, 0, 0, 2, 0), true},  // within, from an end
		{poly(0, 0, 4, 0, 3, 0, 9, 0), true},  // overlap
		{poly(0, 0, 4, 0, 4, 0, 9, 0), true},  // touch at an end
		{poly(0, 0, 4, 0, 5, 0, 9, 0), false}, // apart
		{poly(0, 0, 0, 4, 0, 4, 0, 9), true},  // the same upright
		{poly(0, 0, 0, 4, 0, 5, 0, 9), false},
		{poly(0, 0, 4, 2, 2, 1, 6, 3), true}, // aslant
		{poly(0, 0, 4, 2, 4, 2, 6, 3), true},
		{poly(0, 0, 4, 2, 6, 3, 8, 4), false},
		{poly(0, 0, 4, 0, 0, 1, 4, 1), false},  // side by side
		{poly(0, 0, 4, 4, 1, 0, 5, 4), false},  // side by side, and their boxes overlap
		{poly(0, 0, 4, 4, 0, 4, 4, 0), true},   // cross
		{poly(0, 0, 4, 0, 2, 0, 2, 9), true},   // end on the other
		{poly(0, 0, 4, 0, 2, 1, 2, 9), false},  // stop one short of it
		{poly(0, 0, 4, 0, 2, -1, 2, 1), true},  // cross
		{poly(0, 0, 4, 0, 4, 0, 9, 9), true},   // end at the end
		{poly(0, 0, 4, 0, 5, -1, 5, 1), false}, // pass by its end
		{poly(0, 0, 10, 10, 6, 4, 9, 0), false},
		{poly(0, 0, 3, 2, 1, 1, 0, 9), false}, // a hair beside
	} {
		mustMeetAnyhow(t, x.p[0], x.p[1], x.p[2], x.p[3], x.want)
		if got := reckonShared(x.p[0], x.p[1], x.p[2], x.p[3]) > 0; got != x.want {
			t.Fatal(x.p, got)
		}
	}
}

// TestMeetAll, P9.2: all pairs of segments on a grid of four lines, and of one that reaches the ends of coordinates.
func TestMeetAll(t *testing.T) {
	for _, points := range [][]api.Point{grid(4, 1), grid(3, end)} {
		eachPolygon(4, points, func(p []api.Point) {
			mustMeet(t, p[0], p[1], p[2], p[3], reckonShared(p[0], p[1], p[2], p[3]) > 0, api.OK)
		})
	}
}

// anyPoint is one whose coordinates are small, or all that they may be.
func anyPoint(r *rand.Rand) api.Point {
	n := []int{3, 10, 100, end}[r.Intn(4)]
	return at(r.Intn(2*n+1)-n, r.Intn(2*n+1)-n)
}

// TestMeetAny, P9.2 and P9.8: any segments.
func TestMeetAny(t *testing.T) {
	r := rand.New(rand.NewSource(92))
	for range 20000 {
		a, b, c, d := anyPoint(r), anyPoint(r), anyPoint(r), anyPoint(r)
		mustMeetAnyhow(t, a, b, c, d, reckonShared(a, b, c, d) > 0)
	}
}

// TestSimpleSizes, P9.3: polygons of each number of corners.
func TestSimpleSizes(t *testing.T) {
	mustSimple(t, nil, api.ErrFew)
	mustSimple(t, []api.Point{}, api.ErrFew)
	mustSimple(t, ring(64)[:0], api.ErrFew)
	mustSimple(t, poly(3, 4), api.ErrFew)
	mustSimple(t, poly(3, 4, 5, 6), api.ErrFew)
	for n := 3; n <= 64; n++ {
		mustSimple(t, ring(n), api.OK)
		if n >= 6 && n%2 == 0 {
			mustSimple(t, comb(n, 3, -10, 20), api.OK)
		}
	}
	for _, n := range []int{65, 66, 100, 1000} {
		mustSimple(t, ring(n), api.ErrMany)
	}
}

// TestSimpleBounds, P9.3: a coordinate of any corner that may not be; ahead of twins and tangles, behind sizes.
func TestSimpleBounds(t *testing.T) {
	for _, n := range []int{3, 4, 5, 64} {
		for i := range n {
			for _, bad := range outOfBounds() {
				p, q := ring(n), ring(n)
				p[i].X, q[i].Y = bad, bad
				mustSimple(t, p, api.ErrRange)
				mustSimple(t, q, api.ErrRange)
			}
		}
	}
	mustSimple(t, poly(-end, -end, end, -end, end, end, -end, end), api.OK)
	mustSimple(t, poly(-end, -end, end, -end, end, end), api.OK)
}

// TestSimpleOrder, P9.3 and R1: of several errors the one that the promise names first.
func TestSimpleOrder(t *testing.T) {
	far := end + 1
	mustSimple(t, poly(far, 0, far, 0), api.ErrFew)
	mustSimple(t, poly(0, 0, 0, 0), api.ErrFew)
	mustSimple(t, make([]api.Point, 65), api.ErrMany)
	mustSimple(t, slices.Repeat(poly(far, 0), 65), api.ErrMany)
	mustSimple(t, poly(far, 0, far, 0, 0, 0), api.ErrRange)
	mustSimple(t, poly(0, 0, 0, 0, far, 0), api.ErrRange)
	mustSimple(t, poly(0, 0, 4, 4, 4, 0, 0, 4, 0, far), api.ErrRange)
	mustSimple(t, make([]api.Point, 3), api.ErrTwin)
	mustSimple(t, make([]api.Point, 64), api.ErrTwin)
	mustSimple(t, poly(0, 0, 4, 4, 4, 0, 0, 4, 0, 4), api.ErrTwin)
	mustSimple(t, poly(0, 0, 4, 4, 4, 0, 0, 4, 0, 0), api.ErrTwin)
}

// TestTwins, P9.3: two corners that follow one another and are the same, at each place, the last one and the first one among them; two that do not follow one another are a tangle.
func TestTwins(t *testing.T) {
	for _, n := range []int{3, 4, 5, 64} {
		for i := range n {
			p := ring(n)
			p[(i+1)%n] = p[i]
			mustSimple(t, p, api.ErrTwin)
		}
	}
	mustSimple(t, poly(0, 0, 1, 1, 0, 0), api.ErrTwin)
	for _, n := range []int{4, 5, 6, 64} {
		for i := range n {
			p := ring(n)
			p[(i+2)%n] = p[i]
			mustSimple(t, p, api.ErrTangle)
		}
	}
	// Equal in one coordinate alone is no twin.
	mustSimple(t, poly(0, 0, 0, 1, 1, 1), api.OK)
	mustSimple(t, poly(0, 0, 1, 0, 1, 1), api.OK)
}

// TestTangles, P9.3: sides that are no neighbours and meet in a point or along a way; neighbours that fold back; and what is near to it, and none.
func TestTangles(t *testing.T) {
	for _, x := range []struct {
		p    []api.Point
		want api.Errno
	}{
		{poly(0, 0, 4, 4, 4, 0, 0, 4), api.ErrTangle},                         // cross
		{poly(0, 0, 4, 0, 4, 4, 2, 0), api.ErrTangle},                         // a corner on a side
		{poly(0, 0, 4, 0, 4, 4, 2, 1), api.OK},                                // a corner beside it
		{poly(0, 0, 4, 0, 4, 4, 2, -1), api.ErrTangle},                        // a corner beyond it
		{poly(0, 0, 9, 0, 9, 9, 6, 0, 3, 0, 0, 9), api.ErrTangle},             // along a way
		{poly(0, 0, 9, 0, 9, 9, 6, 1, 3, 1, 0, 9), api.OK},                    // one beside it
		{poly(0, 0, 2, 2, 4, 0, 4, 4, 2, 2, 0, 4), api.ErrTangle},             // two corners at one point
		{poly(0, 0, 2, 1, 4, 0, 4, 4, 2, 2, 0, 4), api.OK},                    // one apart
		{poly(0, 0, 4, 0, 4, 4, 0, 4, 0, 0, 9, 9), api.ErrTangle},             // the first one again
		{poly(0, 0, 2, 0, 1, 0), api.ErrTangle},                               // three on one line, in each order
		{poly(0, 0, 1, 0, 2, 0), api.ErrTangle},                               //
		{poly(1, 0, 0, 0, 2, 0), api.ErrTangle},                               //
		{poly(0, 0, 1, 2, 2, 4), api.ErrTangle},                               //
		{poly(0, 0, 0, 5, 0, 3), api.ErrTangle},                               //
		{poly(0, 0, 1, 0, 2, 1), api.OK},                                      // not quite on one line
		{poly(0, 0, 4, 0, 2, 0, 2, 2), api.ErrTangle},                         // back, and less far
		{poly(2, 0, 4, 0, 0, 0, 2, 2), api.ErrTangle},                         // back, and farther
		{poly(2, 2, 0, 0, 4, 4, 0, 9), api.ErrTangle},                         // aslant
		{poly(0, 0, 4, 0, 0, 0, 2, 2), api.ErrTangle},                         // all the way back
		{poly(0, 0, 2, 0, 4, 0, 4, 4), api.OK},                                // straight on is no fold
		{poly(0, 0, 2, 2, 4, 4, 0, 4), api.OK},                                //
		{poly(0, 0, 4, 0, 4, 4, 0, 4, 0, 8), api.ErrTangle},                   // the last side folds back on the one ahead of it
		{poly(4, 0, 4, 4, 0, 4, 0, 0, 8, 0), api.ErrTangle},                   // the last side folds back on the one behind it, the first corner between
		{poly(2, 0, 4, 0, 4, 4, 0, 4, 0, 0), api.OK},                          // and here it goes straight on
		{poly(-end, -end, end, end, end, -end, -end, end), api.ErrTangle},     // cross, as wide as may be
		{poly(-end, -end, end, end, end, end-1, -end, -end+1), api.ErrTangle}, //
		{poly(-end, -end, end, end-1, end, end, -end, -end+1), api.OK},        // a splinter
		{poly(-end, -end, end, end, 0, 0, 0, 1), api.ErrTangle},               // fold back
		{poly(-end, -end, end, end, 0, 1), api.OK},
	} {
		for i := range x.p {
			turned := slices.Concat(x.p[i:], x.p[:i])
			mustSimple(t, turned, x.want)
			slices.Reverse(turned)
			mustSimple(t, turned, x.want)
		}
		if e := reckonSimple(x.p); e != x.want {
			t.Fatal(x.p, e)
		}
	}
}

// TestEverySide, P9.3: a corner that is put on a side that is not its own is found, at whichever corner and side.
func TestEverySide(t *testing.T) {
	for _, n := range []int{5, 64} {
		for i := range n {
			for j := range n {
				p := ring(n)
				for k := range p {
					p[k] = at(2*p[k].X, 2*p[k].Y)
				}
				next := p[(j+1)%n]
				p[i] = at((p[j].X+next.X)/2, (p[j].Y+next.Y)/2)
				if i != j && i != (j+1)%n {
					mustSimple(t, p, api.ErrTangle)
				} else if n == 5 {
					mustSimple(t, p, reckonSimple(p))
				}
			}
		}
	}
}

// TestSimpleAll, P9.3 and P9.9: all polygons of 3, 4 and 5 corners on small grids; the area of one that is simple is not 0.
func TestSimpleAll(t *testing.T) {
	for _, x := range []struct {
		corners int
		points  []api.Point
	}{{3, grid(5, 1)}, {3, grid(5, unit)}, {4, grid(3, 1)}, {4, grid(3, end)}, {4, grid(4, 1)}, {5, grid(3, end)}} {
		simple := 0
		eachPolygon(x.corners, x.points, func(p []api.Point) {
			want := reckonSimple(p)
			mustSimple(t, p, want)
			area, e := geo.Area2(p)
			if e != want || (area != 0) != (e == api.OK) || e == api.OK && int64(area) != reckonArea2(p).Int64() {
				t.Fatal(p, area, e)
			}
			if e == api.OK {
				simple++
			}
		})
		if simple == 0 {
			t.Fatal("none is simple", x.corners)
		}
	}
}

// anyPolygon is one of corners on a small grid or on one as wide as may be.
func anyPolygon(r *rand.Rand) []api.Point {
	width := 3 + r.Intn(7)
	step := []int{1, 1, 1000, end * 2 / width}[r.Intn(4)]
	var list []api.Point
	for range 3 + r.Intn(5) {
		list = append(list, at((r.Intn(width+1)-width/2)*step, (r.Intn(width+1)-width/2)*step))
	}
	return list
}

// anySimple is a polygon that is one.
func anySimple(r *rand.Rand) []api.Point {
	for {
		if p := anyPolygon(r); reckonSimple(p) == api.OK {
			return p
		}
	}
}

// TestSimpleAny, P9.3: any polygons, some with a twin or with a coordinate that may not be.
func TestSimpleAny(t *testing.T) {
	r := rand.New(rand.NewSource(93))
	count := map[api.Errno]int{}
	for range 20000 {
		p := anyPolygon(r)
		want := reckonSimple(p)
		count[want]++
		mustSimple(t, p, want)
	}
	for _, e := range []api.Errno{api.OK, api.ErrRange, api.ErrTwin, api.ErrTangle} {
		if count[e] < 20 {
			t.Fatal(e, count[e])
		}
	}
}

// faults are polygons that are not simple, each with what is wrong.
func faults() map[api.Errno][]api.Point {
	return map[api.Errno][]api.Point{
		api.ErrFew:    poly(0, 0, 9, 0),
		api.ErrMany:   ring(65),
		api.ErrRange:  poly(0, 0, 9, 0, 9, end+1),
		api.ErrTwin:   poly(0, 0, 9, 0, 9, 9, 0, 0),
		api.ErrTangle: poly(0, 0, 4, 4, 4, 0, 0, 4),
	}
}

// TestFaults, P9.4, P9.6 and R1: Simple's error, ahead of what is wrong with a point; nothing beside it.
func TestFaults(t *testing.T) {
	for e, p := range faults() {
		mustSimple(t, p, e)
		mustArea2(t, p, 0, e)
		for _, q := range []api.Point{at(1, 0), at(0, 0), at(3, 2), at(end+1, 0), at(0, least), at(most, most)} {
			mustSide(t, p, q, 0, e)
		}
	}
	mustSide(t, nil, at(0, 0), 0, api.ErrFew)
	mustArea2(t, nil, 0, api.ErrFew)
	for _, bad := range outOfBounds() {
		mustSide(t, square(), at(bad, 5), 0, api.ErrRange)
		mustSide(t, square(), at(5, bad), 0, api.ErrRange)
		mustSide(t, square(), at(bad, bad), 0, api.ErrRange)
	}
}

// TestSide, P9.4: points at a corner, on a side, inside, outside, on the line of a side beyond it, level with a corner, in an arrow's notch.
func TestSide(t *testing.T) {
	diamond := poly(0, -4, 4, 0, 0, 4, -4, 0)
	saw := poly(0, 0, 12, 0, 12, 4, 10, 2, 8, 4, 6, 2, 4, 4, 2, 2, 0, 4)
	steps := poly(0, 0, 6, 0, 6, 6, 4, 6, 4, 4, 2, 4, 2, 2, 0, 2)
	for _, x := range []struct {
		p    []api.Point
		q    api.Point
		want int
	}{
		{square(), at(10, 10), 0}, {square(), at(0, 10), 0}, {square(), at(10, 0), 0},
		{square(), at(5, 0), 0}, {square(), at(5, 10), 0}, {square(), at(0, 5), 0},
		{square(), at(9, 9), 1}, {square(), at(1, 1), 1}, {square(), at(1, 9), 1}, {square(), at(9, 1), 1},
		{square(), at(-1, 5), -1}, {square(), at(5, 11), -1}, {square(), at(5, -1), -1},
		{square(), at(-1, 0), -1}, {square(), at(-1, 10), -1}, {square(), at(11, 0), -1}, {square(), at(11, 10), -1},
		{square(), at(0, -1), -1}, {square(), at(0, 11), -1}, {square(), at(10, -1), -1}, {square(), at(10, 11), -1},
		{diamond, at(-5, 0), -1}, {diamond, at(-3, 0), 1}, {diamond, at(0, 0), 1}, {diamond, at(5, 0), -1},
		{diamond, at(-1, 4), -1}, {diamond, at(-1, -4), -1}, {diamond, at(0, 5), -1}, {diamond, at(0, -5), -1},
		{diamond, at(2, 2), 0}, {diamond, at(2, 3), -1}, {diamond, at(1, 2), 1}, {diamond, at(5, -1), -1}, {diamond, at(6, 2), -1},
		{saw, at(1, 2), 1}, {saw, at(-1, 2), -1}, {saw, at(4, 2), 1}, {saw, at(2, 2), 0}, {saw, at(6, 2), 0},
		{saw, at(-1, 4), -1}, {saw, at(2, 4), -1}, {saw, at(6, 4), -1}, {saw, at(4, 4), 0}, {saw, at(2, 3), -1}, {saw, at(4, 3), 1},
		{steps, at(1, 1), 1}, {steps, at(1, 2), 0}, {steps, at(1, 3), -1}, {steps, at(3, 2), 1}, {steps, at(3, 4), 0},
		{steps, at(3, 5), -1}, {steps, at(-1, 2), -1}, {steps, at(-1, 4), -1}, {steps, at(1, 4), -1}, {steps, at(-1, 6), -1}, {steps, at(5, 4), 1},
		{arrow(), at(1, 5), -1}, {arrow(), at(0, 5), -1}, {arrow(), at(-3, 5), -1}, {arrow(), at(9, 5), 1}, {arrow(), at(10, 5), 0}, {arrow(), at(11, 5), -1},
		{arrow(), at(0, 0), 0}, {arrow(), at(-1, 0), -1}, {arrow(), at(-1, 10), -1}, {arrow(), at(1, 1), 1}, {arrow(), at(1, 2), -1}, {arrow(), at(20, 10), -1},
	} {
		mustSide(t, x.p, x.q, x.want, api.OK)
		if got := reckonSide(x.p, x.q); got != x.want {
			t.Fatal(x.p, x.q, got)
		}
	}
}

// TestSideWide, P9.4: a polygon as wide as may be; a splinter; points at the ends of coordinates.
func TestSideWide(t *testing.T) {
	whole := poly(-end, -end, end, -end, end, end, -end, end)
	mustSide(t, whole, at(0, 0), 1, api.OK)
	mustSide(t, whole, at(end-1, 1-end), 1, api.OK)
	mustSide(t, whole, at(end, 0), 0, api.OK)
	mustSide(t, whole, at(-end, -end), 0, api.OK)
	splinter := poly(-end, -end, end, end-1, end, end, -end, -end+1)
	mustSide(t, splinter, at(0, 0), 1, api.OK)
	mustSide(t, splinter, at(0, 1), -1, api.OK)
	mustSide(t, splinter, at(0, -1), -1, api.OK)
	mustSide(t, splinter, at(end-1, end-1), 1, api.OK)
	mustSide(t, splinter, at(end-1, end), -1, api.OK)
	triangle := poly(-end, -end, end, -end, -end, end)
	mustSide(t, triangle, at(0, 0), 0, api.OK)
	mustSide(t, triangle, at(0, -1), 1, api.OK)
	mustSide(t, triangle, at(0, 1), -1, api.OK)
	mustSide(t, triangle, at(end, end), -1, api.OK)
	mustSide(t, square(), at(end, 5), -1, api.OK)
	mustSide(t, square(), at(-end, 5), -1, api.OK)
	mustSide(t, square(), at(5, -end), -1, api.OK)
}

// TestSideAll, P9.4: all points round all simple polygons of four corners on a grid, and round any ones; how many are inside and on a side goes with the area (twice the inner ones, and those on the sides, less 2).
func TestSideAll(t *testing.T) {
	check := func(p []api.Point) {
		inner, edge := 0, 0
		for y := -6; y <= 6; y++ {
			for x := -6; x <= 6; x++ {
				want := reckonSide(p, at(x, y))
				mustSide(t, p, at(x, y), want, api.OK)
				if want == 1 {
					inner++
				} else if want == 0 {
					edge++
				}
			}
		}
		area, _ := geo.Area2(p)
		if max(area, -area) != 2*inner+edge-2 {
			t.Fatal(p, area, inner, edge)
		}
	}
	n := 0
	eachPolygon(4, grid(3, 2), func(p []api.Point) {
		if n++; n%3 == 0 && reckonSimple(p) == api.OK {
			check(slices.Clone(p))
		}
	})
	r := rand.New(rand.NewSource(94))
	for tried := 0; tried < 150; {
		p := anyPolygon(r)
		if reckonSimple(p) == api.OK && slices.IndexFunc(p, func(c api.Point) bool { return max(c.X, -c.X, c.Y, -c.Y) > 6 }) < 0 {
			check(p)
			tried++
		}
	}
}

// TestSideAny, P9.4: any points of any simple polygons, corners, points level with corners and points in the middle of sides among them.
func TestSideAny(t *testing.T) {
	r := rand.New(rand.NewSource(95))
	for range 1500 {
		p := anySimple(r)
		points := []api.Point{anyPoint(r), at(0, 0)}
		for i, c := range p {
			d := p[(i+1)%len(p)]
			points = append(points, c, at(c.X, d.Y), at(c.X-1, c.Y), at(-end, c.Y), at((c.X+d.X)/2, (c.Y+d.Y)/2))
		}
		for _, q := range points {
			if reckonMayBe(q.X) && reckonMayBe(q.Y) {
				mustSide(t, p, q, reckonSide(p, q), api.OK)
			}
		}
	}
}

// TestSideMany, P9.4: a comb of 64 corners, in its teeth and between them.
func TestSideMany(t *testing.T) {
	p := comb(64, 4, -20, 40)
	for x := -130; x <= 130; x++ {
		for _, y := range []int{-21, -20, -19, -16, -10, 0, 39, 40, 41} {
			mustSide(t, p, at(x, y), reckonSide(p, at(x, y)), api.OK)
		}
	}
}

// mustTouchAnyhow holds Touches with ends exchanged, turned by a quarter, and mirrored.
func mustTouchAnyhow(t *testing.T, a, b api.Point, x, y api.Span, want bool) {
	t.Helper()
	for range 4 {
		for _, s := range []int{1, -1} {
			u, v, w := at(s*a.X, a.Y), at(s*b.X, b.Y), span(min(s*x.Lo, s*x.Hi), max(s*x.Lo, s*x.Hi))
			mustTouches(t, u, v, w, y, want, api.OK)
			mustTouches(t, v, u, w, y, want, api.OK)
		}
		a, b, x, y = at(-a.Y, a.X), at(-b.Y, b.X), span(-y.Hi, -y.Lo), x
	}
}

// TestTouches, P9.5: rectangles that are a point or a line; segments that are a point, lie within, end within, pass through, pass by a corner, touch a corner or an edge.
func TestTouches(t *testing.T) {
	x, y := span(2, 6), span(1, 3)
	for _, c := range []struct {
		p    []api.Point
		x, y api.Span
		want bool
	}{
		{poly(3, 2, 5, 2), x, y, true},                      // within
		{poly(3, 2, 3, 2), x, y, true},                      // a point within
		{poly(2, 1, 2, 1), x, y, true},                      // a point at a corner
		{poly(4, 3, 4, 3), x, y, true},                      // a point on an edge
		{poly(4, 4, 4, 4), x, y, false},                     // a point outside
		{poly(7, 2, 7, 2), x, y, false},                     //
		{poly(3, 2, 9, 9), x, y, true},                      // one end within
		{poly(0, 2, 9, 2), x, y, true},                      // through, both ends outside
		{poly(4, 0, 4, 9), x, y, true},                      //
		{poly(0, 0, 8, 4), x, y, true},                      // through two corners
		{poly(5, 4, 7, 2), x, y, true},                      // touches a corner
		{poly(6, 4, 7, 2), x, y, false},                     // passes by a corner
		{poly(4, 4, 7, 2), x, y, true},                      // cuts a corner
		{poly(5, 5, 8, 2), x, y, false},                     // passes by it, and its box overlaps
		{poly(0, 3, 9, 3), x, y, true},                      // along an edge
		{poly(0, 4, 9, 4), x, y, false},                     // one above it
		{poly(3, 3, 5, 3), x, y, true},                      // on an edge
		{poly(7, 3, 9, 3), x, y, false},                     // on an edge's line, beyond it
		{poly(6, 3, 9, 9), x, y, true},                      // begins at a corner
		{poly(4, 3, 4, 9), x, y, true},                      // begins on an edge
		{poly(4, 4, 4, 9), x, y, false},                     // begins above it
		{poly(0, 0, 9, 0), x, y, false},                     // below
		{poly(7, 0, 7, 9), x, y, false},                     // to the right
		{poly(0, 2, 1, 2), x, y, false},                     // stops one short
		{poly(0, 2, 2, 2), x, y, true},                      //
		{poly(0, 0, 8, 4), span(4, 4), span(2, 2), true},    // a rectangle that is a point
		{poly(0, 0, 8, 4), span(4, 4), span(3, 3), false},   //
		{poly(0, 0, 8, 4), span(10, 10), span(5, 5), false}, //
		{poly(4, 2, 4, 2), span(4, 4), span(2, 2), true},    //
		{poly(4, 2, 4, 2), span(4, 4), span(3, 3), false},   //
		{poly(0, 0, 8, 4), span(4, 4), span(0, 9), true},    // that is a line
		{poly(0, 0, 8, 4), span(4, 4), span(2, 9), true},    //
		{poly(0, 0, 8, 4), span(4, 4), span(3, 9), false},   //
		{poly(0, 0, 8, 4), span(0, 3), span(2, 2), false},   //
		{poly(0, 0, 8, 4), span(0, 4), span(2, 2), true},    //
		{poly(0, 2, 8, 2), span(3, 4), span(2, 2), true},    // that is on it
		{poly(0, 2, 8, 2), span(8, 9), span(2, 2), true},    //
		{poly(0, 2, 8, 2), span(9, 12), span(2, 2), false},  //
		{poly(3, 9, 9, 3), span(0, 6), span(0, 6), true},    // touches the far corner
		{poly(3, 10, 10, 3), span(0, 6), span(0, 6), false}, // passes by it
		{poly(-end, -end, end, end), span(-1, 0), span(0, 1), true},
		{poly(-end, -end, end, end), span(-2, -1), span(0, 1), false},
		{poly(-end, -end, end, end-1), span(end-1, end-1), span(end-1, end), false},
		{poly(0, 0, 0, 0), span(-end, end), span(-end, end), true},
	} {
		mustTouchAnyhow(t, c.p[0], c.p[1], c.x, c.y, c.want)
		if got := reckonTouches(c.p[0], c.p[1], c.x, c.y); got != c.want {
			t.Fatal(c, got)
		}
	}
}

// TestTouchesSpans, P9.5 and R1: a span whose Lo is above its Hi is ErrArg, even where the segment is; a coordinate that may not be goes ahead of it.
func TestTouchesSpans(t *testing.T) {
	a, b := at(0, 0), at(10, 10)
	for _, bad := range []api.Span{span(3, 2), span(1, 0), span(end, -end), span(end, end-1), span(1-end, -end)} {
		mustTouches(t, a, b, bad, span(0, 5), false, api.ErrArg)
		mustTouches(t, a, b, span(0, 5), bad, false, api.ErrArg)
		mustTouches(t, a, b, bad, bad, false, api.ErrArg)
		for _, n := range outOfBounds() {
			mustTouches(t, at(n, 0), b, bad, bad, false, api.ErrRange)
			mustTouches(t, a, at(0, n), bad, bad, false, api.ErrRange)
			mustTouches(t, a, b, bad, span(0, n), false, api.ErrRange)
			mustTouches(t, a, b, bad, span(n, 0), false, api.ErrRange)
			mustTouches(t, a, b, span(0, n), bad, false, api.ErrRange)
			mustTouches(t, a, b, span(n, 0), bad, false, api.ErrRange)
		}
	}
}

// mustTouchByDiagonals holds P9.9's second sentence by the package's own calls.
func mustTouchByDiagonals(t *testing.T, a, b api.Point, x, y api.Span) {
	t.Helper()
	holds := func(p api.Point) bool { return p.X >= x.Lo && p.X <= x.Hi && p.Y >= y.Lo && p.Y <= y.Hi }
	up, _ := geo.Meet(a, b, at(x.Lo, y.Lo), at(x.Hi, y.Hi))
	down, _ := geo.Meet(a, b, at(x.Lo, y.Hi), at(x.Hi, y.Lo))
	mustTouches(t, a, b, x, y, holds(a) || holds(b) || up || down, api.OK)
}

// TestTouchesAll, P9.5 and P9.9: all segments and rectangles on a grid, each against the segment's way and against the rectangle's diagonals.
func TestTouchesAll(t *testing.T) {
	eachPolygon(2, grid(5, 1), func(p []api.Point) {
		for x := range 16 {
			for y := range 16 {
				x, y := span(x/4-2, x%4-1), span(y/4-2, y%4-1)
				if x.Lo <= x.Hi && y.Lo <= y.Hi {
					mustTouches(t, p[0], p[1], x, y, reckonTouches(p[0], p[1], x, y), api.OK)
					mustTouchByDiagonals(t, p[0], p[1], x, y)
				}
			}
		}
	})
}

// TestTouchesAny, P9.5 and P9.9: any segments and rectangles.
func TestTouchesAny(t *testing.T) {
	r := rand.New(rand.NewSource(96))
	for range 20000 {
		a, b, c, d := anyPoint(r), anyPoint(r), anyPoint(r), anyPoint(r)
		x, y := span(min(c.X, d.X), max(c.X, d.X)), span(min(c.Y, d.Y), max(c.Y, d.Y))
		mustTouchAnyhow(t, a, b, x, y, reckonTouches(a, b, x, y))
		mustTouchByDiagonals(t, a, b, x, y)
	}
}

// spiral is a simple polygon of 64 corners whose sum wraps round the ends of an int on its way: it winds round the middle again and again, close to the ends of coordinates, and back beside itself.
func spiral() []api.Point {
	var list []api.Point
	for i := range 32 {
		far := end - 4*i
		list = append(list, at([]int{-far, far, far, -far}[i%4], []int{-far - 4*(i%4/3), -far, far, far}[i%4]))
	}
	// The way back is the same one, two further in.
	for i := 31; i >= 0; i-- {
		c := list[i]
		list = append(list, at(c.X-2*sign(c.X), c.Y-2*sign(c.Y)))
	}
	return list
}

func sign(x int) int {
	if x < 0 {
		return -1
	}
	return 1
}

// TestArea2, P9.6: areas to the left and to the right; of what is as wide as may be; of sums that wrap round on their way.
func TestArea2(t *testing.T) {
	mustArea2(t, poly(0, 0, 1, 0, 0, 1), 1, api.OK)
	mustArea2(t, poly(0, 0, 0, 1, 1, 0), -1, api.OK)
	mustArea2(t, poly(5, 5, 6, 5, 5, 6), 1, api.OK)
	mustArea2(t, poly(-5, -5, -2, -5, -5, -3), 6, api.OK)
	mustArea2(t, poly(3, 5, 0, 10, 10, 5, 0, 0), -70, api.OK)
	whole := poly(-end, -end, end, -end, end, end, -end, end)
	mustArea2(t, whole, 1<<61, api.OK)
	slices.Reverse(whole)
	mustArea2(t, whole, -(1 << 61), api.OK)
	mustArea2(t, poly(end, end, end-1, end, end, end-1), 1, api.OK)
	mustArea2(t, poly(-end, -end, end, end-1, end, end, -end, -end+1), 1<<31, api.OK)
	for _, p := range [][]api.Point{comb(64, 1<<24, -end, end), ring(64), spiral()} {
		want := int(reckonArea2(p).Int64())
		if !reckonArea2(p).IsInt64() || reckonSimple(p) != api.OK {
			t.Fatal(reckonSimple(p), reckonArea2(p))
		}
		mustArea2(t, p, want, api.OK)
		slices.Reverse(p)
		mustArea2(t, p, -want, api.OK)
	}
	part := new(big.Int)
	p, wraps := spiral(), false
	for i := range p[:32] {
		part.Add(part, reckonCross(at(0, 0), p[i], p[i+1]))
		wraps = wraps || !part.IsInt64()
	}
	if !wraps {
		t.Fatal("the spiral does not wrap round")
	}
}

// TestArea2Any, P9.6: any simple polygons.
func TestArea2Any(t *testing.T) {
	r := rand.New(rand.NewSource(97))
	for range 3000 {
		p := anySimple(r)
		mustArea2(t, p, int(reckonArea2(p).Int64()), api.OK)
	}
}

// TestFar, P9.7: squares of distances, the same from either end.
func TestFar(t *testing.T) {
	mustFar(t, at(0, 0), at(0, 0), 0, api.OK)
	mustFar(t, at(7, -3), at(7, -3), 0, api.OK)
	mustFar(t, at(1, 2), at(1, 9), 49, api.OK)
	mustFar(t, at(1, 2), at(-8, 2), 81, api.OK)
	mustFar(t, at(1, 2), at(4, 6), 25, api.OK)
	r := rand.New(rand.NewSource(98))
	for range 5000 {
		a, b := anyPoint(r), anyPoint(r)
		want := int(reckonFar(a, b).Int64())
		mustFar(t, a, b, want, api.OK)
		mustFar(t, b, a, want, api.OK)
	}
}

// moved is a polygon elsewhere.
func moved(p []api.Point, x, y int) []api.Point {
	var list []api.Point
	for _, c := range p {
		list = append(list, at(c.X+x, c.Y+y))
	}
	return list
}

// TestBeginAndDirection, P9.8: a polygon begun at another corner, gone round the other way, or laid elsewhere.
func TestBeginAndDirection(t *testing.T) {
	r := rand.New(rand.NewSource(99))
	for range 1500 {
		p := anyPolygon(r)
		q := anyPoint(r)
		e := geo.Simple(p)
		side, sideE := geo.Side(p, q)
		area, areaE := geo.Area2(p)
		for i := range p {
			turned := slices.Concat(p[i:], p[:i])
			mustSimple(t, turned, e)
			mustSide(t, turned, q, side, sideE)
			mustArea2(t, turned, area, areaE)
			slices.Reverse(turned)
			mustSimple(t, turned, e)
			mustSide(t, turned, q, side, sideE)
			mustArea2(t, turned, -area, areaE)
		}
	}
	for range 1500 {
		p := anySimple(r)
		if slices.IndexFunc(p, func(c api.Point) bool { return max(c.X, -c.X, c.Y, -c.Y) > 10000 }) >= 0 {
			continue
		}
		q := at(r.Intn(9)-4, r.Intn(9)-4)
		side, _ := geo.Side(p, q)
		area, _ := geo.Area2(p)
		for _, by := range []api.Point{at(1, 0), at(-7, 12345), at(end-10000, end-10000), at(10000-end, end-10000), at(10000-end, 10000-end)} {
			there := moved(p, by.X, by.Y)
			mustSimple(t, there, api.OK)
			mustSide(t, there, at(q.X+by.X, q.Y+by.Y), side, api.OK)
			mustArea2(t, there, area, api.OK)
		}
	}
	for _, p := range [][]api.Point{poly(0, 0, 4, 4, 4, 0, 0, 4), poly(0, 0, 0, 0, 4, 4), poly(0, 0, 4, 0, 2, 0)} {
		mustSimple(t, moved(p, end-4, -end), geo.Simple(p))
	}
}

// TestSameSide, P9.9: if the segment of two points meets no side of a simple polygon, both are inside, or both are outside.
func TestSameSide(t *testing.T) {
	r := rand.New(rand.NewSource(100))
	met, inside, outside := 0, 0, 0
	for range 12000 {
		p := anySimple(r)
		reach := 0
		for _, c := range p {
			reach = max(reach, c.X, -c.X, c.Y, -c.Y)
		}
		reach = min(reach+reach/4, end)
		a, b := at(r.Intn(2*reach+1)-reach, r.Intn(2*reach+1)-reach), at(r.Intn(2*reach+1)-reach, r.Intn(2*reach+1)-reach)
		free := true
		for i := range p {
			is, _ := geo.Meet(a, b, p[i], p[(i+1)%len(p)])
			free = free && !is
		}
		if !free {
			met++
			continue
		}
		s, _ := geo.Side(p, a)
		mustSide(t, p, b, s, api.OK)
		switch s {
		case 1:
			inside++
		case -1:
			outside++
		default:
			t.Fatal(p, a, b, s)
		}
	}
	if min(met, inside, outside) < 100 {
		t.Fatal(met, inside, outside)
	}
}

// TestMemory, R2: lists that are handed in, and their spare room, are not changed; what lies behind a list's length is not read.
func TestMemory(t *testing.T) {
	for _, p := range slices.Concat([][]api.Point{square(), arrow(), comb(64, 3, -10, 20), ring(64)}, [][]api.Point{faults()[api.ErrTangle], faults()[api.ErrTwin], faults()[api.ErrRange]}) {
		room := slices.Concat(p, poly(least, most, 0, 0, end, end))
		before := slices.Clone(room)
		short := room[:len(p)]
		e := geo.Simple(p)
		mustSimple(t, short, e)
		s, sideE := geo.Side(p, at(5, 5))
		mustSide(t, short, at(5, 5), s, sideE)
		n, areaE := geo.Area2(p)
		mustArea2(t, short, n, areaE)
		if !slices.Equal(room, before) {
			t.Fatal("changed", before)
		}
	}
}

// TestAnything, R1 and R2: whatever numbers there are, each call ends, answers as the document says, and answers the same again.
func TestAnything(t *testing.T) {
	r := rand.New(rand.NewSource(101))
	number := func() int {
		switch r.Intn(6) {
		case 0:
			return r.Intn(5) - 2
		case 1:
			return []int{end, -end, end + 1, -end - 1, most, least, 0}[r.Intn(7)]
		case 2:
			return int(r.Uint64())
		}
		return r.Intn(2*end+1) - end
	}
	for range 20000 {
		p := make([]api.Point, r.Intn(7))
		for i := range p {
			p[i] = at(number(), number())
		}
		mustSimple(t, p, reckonSimple(p))
		a, b, c, d := at(number(), number()), at(number(), number()), at(number(), number()), at(number(), number())
		geo.Orient(a, b, c)
		geo.Meet(a, b, c, d)
		geo.Far(a, b)
		s, e := geo.Side(p, a)
		mustSide(t, p, a, s, e)
		is, e := geo.Touches(a, b, span(c.X, c.Y), span(d.X, d.Y))
		mustTouches(t, a, b, span(c.X, c.Y), span(d.X, d.Y), is, e)
		n, e := geo.Area2(p)
		mustArea2(t, p, n, e)
	}
}
