package fence_test

import (
	"math"
	"math/rand"
	"reflect"
	"slices"
	"strings"
	"testing"

	"windhover/api"
	"windhover/fence"
	"windhover/geo"
)

const (
	most  = math.MaxInt
	least = math.MinInt
	end   = 536870912 // what a coordinate, a floor and a ceiling may be, either way
)

func at(x, y int) api.Point { return api.Point{X: x, Y: y} }

func span(lo, hi int) api.Span { return api.Span{Lo: lo, Hi: hi} }

// points is a list of their coordinates.
func points(numbers ...int) []api.Point {
	var list []api.Point
	for i := 0; i < len(numbers); i += 2 {
		list = append(list, at(numbers[i], numbers[i+1]))
	}
	return list
}

func box(x, y, z api.Span) api.Box { return api.Box{X: x, Y: y, Z: z} }

// small is the F of the document's examples.
func small() api.Fence {
	return api.Fence{Poly: points(0, 0, 100, 0, 100, 100, 0, 100), Floor: -5, Ceiling: 50, Rally: points(10, 10, 90, 90, 50, 50)}
}

// around is a sound fence of a polygon, without rally points.
func around(corners []api.Point) api.Fence {
	return api.Fence{Poly: corners, Floor: -5, Ceiling: 50}
}

// with is small, changed.
func with(change func(f *api.Fence)) api.Fence {
	f := small()
	change(&f)
	return f
}

// shapes are simple polygons on a grid from 0 to 8.
func shapes() map[string][]api.Point {
	return map[string][]api.Point{
		"square":   points(0, 0, 8, 0, 8, 8, 0, 8),
		"backward": points(0, 8, 8, 8, 8, 0, 0, 0),
		"triangle": points(0, 0, 8, 1, 3, 8),
		"arrow":    points(0, 0, 8, 4, 0, 8, 3, 4),
		"notch":    points(0, 0, 8, 0, 8, 8, 5, 8, 4, 2, 3, 8, 0, 8),
		"ell":      points(0, 0, 8, 0, 8, 3, 3, 3, 3, 8, 0, 8),
		"diamond":  points(4, 0, 8, 4, 4, 8, 0, 4),
		"comb":     points(0, 0, 8, 0, 8, 8, 6, 2, 5, 8, 4, 2, 2, 8, 1, 2, 0, 8),
		"spiral":   points(0, 0, 8, 0, 8, 8, 2, 8, 2, 4, 4, 4, 4, 6, 6, 6, 6, 2, 0, 2),
	}
}

// moved is a polygon, each coordinate times a number, and shifted.
func moved(corners []api.Point, times, x, y int) []api.Point {
	var list []api.Point
	for _, p := range corners {
		list = append(list, at(p.X*times+x, p.Y*times+y))
	}
	return list
}

// comb is a simple polygon of n corners, an even number of 6 or more: teeth above a back.
func comb(n int) []api.Point {
	var list []api.Point
	for i := range n - 2 {
		list = append(list, at(i*10, 20+60*(i%2)))
	}
	return append(list, at((n-3)*10, 0), at(0, 0))
}

// outOfBounds are numbers that no coordinate may be.
func outOfBounds() []int { return []int{end + 1, -end - 1, most, least, most - 1, least + 1, 1 << 32} }

// cross is above 0 if p is to the left of the line from a to b.
func cross(a, b, p api.Point) int { return (b.X-a.X)*(p.Y-a.Y) - (b.Y-a.Y)*(p.X-a.X) }

// reckonTouch tells whether a side and a rectangle share a point: neither an axis nor the side's own line parts them.
func reckonTouch(a, b api.Point, x, y api.Span) bool {
	if max(a.X, b.X) < x.Lo || min(a.X, b.X) > x.Hi || max(a.Y, b.Y) < y.Lo || min(a.Y, b.Y) > y.Hi {
		return false
	}
	left, right := 0, 0
	for _, p := range []api.Point{at(x.Lo, y.Lo), at(x.Lo, y.Hi), at(x.Hi, y.Lo), at(x.Hi, y.Hi)} {
		if c := cross(a, b, p); c > 0 {
			left++
		} else if c < 0 {
			right++
		}
	}
	return left < 4 && right < 4
}

// reckonWinding is how often a polygon goes round a point that is on none of its sides.
func reckonWinding(corners []api.Point, p api.Point) int {
	turns := 0
	for i, a := range corners {
		b := corners[(i+1)%len(corners)]
		if a.Y <= p.Y && b.Y > p.Y && cross(a, b, p) > 0 {
			turns++
		}
		if a.Y > p.Y && b.Y <= p.Y && cross(a, b, p) < 0 {
			turns--
		}
	}
	return turns
}

// reckonInside tells whether all points of a rectangle are inside, by the document's words.
func reckonInside(corners []api.Point, x, y api.Span) bool {
	for _, n := range []int{x.Lo, x.Hi, y.Lo, y.Hi} {
		if n > end || n < -end {
			return false
		}
	}
	for i, a := range corners {
		if reckonTouch(a, corners[(i+1)%len(corners)], x, y) {
			return false
		}
	}
	return reckonWinding(corners, at(x.Hi, y.Hi)) != 0
}

// reckonLane tells whether a lane is inside, by the document's words; a room of more than 2^31 leads beyond all coordinates.
func reckonLane(corners []api.Point, a, b api.Point, r int) bool {
	if r > 1<<31 {
		return false
	}
	x, y := span(a.X-r, b.X+r), span(a.Y-r, b.Y+r)
	if a.X > b.X {
		x = span(b.X-r, a.X+r)
	}
	if a.Y > b.Y {
		y = span(b.Y-r, a.Y+r)
	}
	return reckonInside(corners, x, y)
}

// reckonRally is the number of the nearest rally point that a lane leads to.
func reckonRally(f api.Fence, p api.Point, r int) int {
	best := -1
	far := func(i int) int {
		x, y := f.Rally[i].X-p.X, f.Rally[i].Y-p.Y
		return x*x + y*y
	}
	for i := len(f.Rally) - 1; i >= 0; i-- {
		if reckonLane(f.Poly, p, f.Rally[i], r) && (best < 0 || far(i) <= far(best)) {
			best = i
		}
	}
	return best
}

// reckonNumber is a coordinate's four bytes.
func reckonNumber(n int) string {
	if n < 0 {
		n += 1 << 32
	}
	return string([]byte{byte(n % 256), byte(n / 256 % 256), byte(n / 65536 % 256), byte(n / 16777216)})
}

// reckonBytes are a fence's bytes, sound or not, with so many corners and rally points told.
func reckonBytes(f api.Fence) string {
	var text strings.Builder
	list := func(points []api.Point) {
		text.WriteByte(byte(len(points)))
		for _, p := range points {
			text.WriteString(reckonNumber(p.X) + reckonNumber(p.Y))
		}
	}
	list(f.Poly)
	text.WriteString(reckonNumber(f.Floor) + reckonNumber(f.Ceiling))
	list(f.Rally)
	return text.String()
}

// itemsOf are a fence's items: its corners, its limits, its rally points.
func itemsOf(f api.Fence) [][]int {
	var list [][]int
	for _, p := range f.Poly {
		list = append(list, []int{1, p.X, p.Y, 0, 0})
	}
	list = append(list, []int{3, f.Floor, f.Ceiling, 0, 0})
	for _, p := range f.Rally {
		list = append(list, []int{2, p.X, p.Y, 0, 0})
	}
	return list
}

func same(f, g api.Fence) bool {
	return slices.Equal(f.Poly, g.Poly) && slices.Equal(f.Rally, g.Rally) && f.Floor == g.Floor && f.Ceiling == g.Ceiling
}

func isZero(f api.Fence) bool {
	return len(f.Poly) == 0 && len(f.Rally) == 0 && f.Floor == 0 && f.Ceiling == 0
}

// copyOf shares no memory with a fence.
func copyOf(f api.Fence) api.Fence {
	f.Poly, f.Rally = slices.Clone(f.Poly), slices.Clone(f.Rally)
	return f
}

func mustCheck(t *testing.T, f api.Fence, want api.Errno) {
	t.Helper()
	if e := fence.Check(f); e != want {
		t.Errorf("Check(%v): %v, not %v", f, e, want)
	}
}

func mustHold(t *testing.T, f api.Fence, b api.Box, want bool) {
	t.Helper()
	if is, e := fence.Holds(f, b); is != want || e != api.OK {
		t.Errorf("Holds(%v, %v): %v %v, not %v", f, b, is, e, want)
	}
}

func mustNotHold(t *testing.T, f api.Fence, b api.Box, want api.Errno) {
	t.Helper()
	if is, e := fence.Holds(f, b); is || e != want {
		t.Errorf("Holds(%v, %v): %v %v, not %v", f, b, is, e, want)
	}
}

func mustLane(t *testing.T, f api.Fence, a, b api.Point, r int, want bool) {
	t.Helper()
	if is, e := fence.Lane(f, a, b, r); is != want || e != api.OK {
		t.Errorf("Lane(%v, %v, %v, %d): %v %v, not %v", f, a, b, r, is, e, want)
	}
}

func mustNotLane(t *testing.T, f api.Fence, a, b api.Point, r int, want api.Errno) {
	t.Helper()
	if is, e := fence.Lane(f, a, b, r); is || e != want {
		t.Errorf("Lane(%v, %v, %v, %d): %v %v, not %v", f, a, b, r, is, e, want)
	}
}

func mustRally(t *testing.T, f api.Fence, p api.Point, r, want int) {
	t.Helper()
	if n, e := fence.Rally(f, p, r); n != want || e != api.OK {
		t.Errorf("Rally(%v, %v, %d): %d %v, not %d", f, p, r, n, e, want)
	}
}

func mustNotRally(t *testing.T, f api.Fence, p api.Point, r int, want api.Errno) {
	t.Helper()
	if n, e := fence.Rally(f, p, r); n != 0 || e != want {
		t.Errorf("Rally(%v, %v, %d): %d %v, not %v", f, p, r, n, e, want)
	}
}

func mustNotEncode(t *testing.T, f api.Fence, want api.Errno) {
	t.Helper()
	if s, e := fence.Encode(f); s != "" || e != want {
		t.Errorf("Encode(%v): %x %v, not %v", f, s, e, want)
	}
}

func mustDecode(t *testing.T, data string, want api.Fence) {
	t.Helper()
	if f, e := fence.Decode(data); e != api.OK || !same(f, want) {
		t.Errorf("Decode(%x): %v %v, not %v", data, f, e, want)
	}
}

func mustNotDecode(t *testing.T, data string, want api.Errno) {
	t.Helper()
	if f, e := fence.Decode(data); e != want || !isZero(f) {
		t.Errorf("Decode(%x): %v %v, not %v", data, f, e, want)
	}
}

func mustOf(t *testing.T, items [][]int, want api.Fence) {
	t.Helper()
	if f, e := fence.Of(items); e != api.OK || !same(f, want) {
		t.Errorf("Of(%v): %v %v, not %v", items, f, e, want)
	}
}

func mustNotOf(t *testing.T, items [][]int, want api.Errno) {
	t.Helper()
	if f, e := fence.Of(items); e != want || !isZero(f) {
		t.Errorf("Of(%v): %v %v, not %v", items, f, e, want)
	}
}

// TestExamples holds all rows of the chapter's 'Examples': P10.1 to P10.6.
func TestExamples(t *testing.T) {
	f := small()
	mustCheck(t, f, api.OK)
	mustCheck(t, with(func(f *api.Fence) { f.Floor = 1 }), api.ErrFloor)
	mustCheck(t, with(func(f *api.Fence) { f.Ceiling = 0 }), api.ErrFloor)
	mustCheck(t, with(func(f *api.Fence) { f.Rally = points(0, 50) }), api.ErrRally)

	mustHold(t, f, box(span(1, 99), span(1, 99), span(-5, 50)), true)
	mustHold(t, f, box(span(0, 99), span(1, 99), span(-5, 50)), false)
	mustHold(t, f, box(span(1, 99), span(1, 99), span(-6, 50)), false)
	mustHold(t, f, box(span(1, 99), span(1, 99), span(1, 51)), false)
	mustNotHold(t, f, box(span(5, 4), span(1, 99), span(-5, 50)), api.ErrArg)

	mustLane(t, f, at(10, 10), at(90, 90), 9, true)
	mustLane(t, f, at(10, 10), at(90, 90), 10, false)
	mustNotLane(t, f, at(10, 10), at(90, 90), -1, api.ErrArg)

	mustRally(t, f, at(20, 20), 5, 0)
	mustRally(t, f, at(70, 70), 5, 1)
	mustRally(t, f, at(70, 70), 15, 2)
	mustRally(t, f, at(120, 20), 5, -1)

	s, e := fence.Encode(f)
	if e != api.OK || len(s) != 1+32+8+1+24 || s[:13] != "\x04\x00\x00\x00\x00\x00\x00\x00\x00\x64\x00\x00\x00" || s[33:37] != "\xfb\xff\xff\xff" {
		t.Errorf("Encode: %x %v", s, e)
	}

	triangle := api.Fence{Poly: points(0, 0, 9, 0, 0, 9), Floor: -1, Ceiling: 9}
	mustOf(t, [][]int{{1, 0, 0, 0, 0}, {1, 9, 0, 0, 0}, {3, -1, 9, 0, 0}, {1, 0, 9, 0, 0}}, triangle)
	mustNotOf(t, [][]int{{1, 0, 0, 0, 0}, {1, 9, 0, 0, 0}, {1, 0, 9, 0, 0}}, api.ErrItem)
	mustNotOf(t, [][]int{{4, 0, 0, 0, 0}}, api.ErrItem)
	mustNotOf(t, [][]int{{1, 0, 0, 0}}, api.ErrItem)
	mustNotOf(t, [][]int{{2, 0, 0, 1, 0}}, api.ErrItem)
	mustNotOf(t, [][]int{{3, -1, 9, 0, 0}}, api.ErrFew)
	mustNotOf(t, nil, api.ErrItem)
}

// badPolygons are polygons with geo.Simple's error of each.
func badPolygons() map[api.Errno][][]api.Point {
	bad := map[api.Errno][][]api.Point{
		api.ErrFew:    {nil, {}, points(0, 0), points(0, 0, 9, 0)},
		api.ErrMany:   {comb(66), make([]api.Point, 65), make([]api.Point, 300)},
		api.ErrTwin:   {points(0, 0, 0, 0, 9, 9), points(0, 0, 9, 0, 9, 9, 0, 0)},
		api.ErrTangle: {points(0, 0, 4, 4, 4, 0, 0, 4), points(0, 0, 1, 0, 2, 0), points(0, 0, 4, 0, 2, 0, 2, 2)},
	}
	for _, n := range outOfBounds() {
		bad[api.ErrRange] = append(bad[api.ErrRange], points(0, 0, n, 0, 0, 9), points(0, 0, 9, 0, 0, n))
	}
	return bad
}

// TestPolygons holds P10.1 for Poly, and that every call tells it: each of geo.Simple's errors, and polygons of 3 and 64 corners, as far out as they may be.
func TestPolygons(t *testing.T) {
	for want, list := range badPolygons() {
		for _, corners := range list {
			f := with(func(f *api.Fence) { f.Poly = corners })
			mustRefuse(t, f, want)
		}
	}
	mustCheck(t, around(points(0, 0, 9, 0, 0, 9)), api.OK)
	mustCheck(t, around(comb(64)), api.OK)
	mustCheck(t, around(points(-end, -end, end, -end, end, end, -end, end)), api.OK)
	for _, corners := range shapes() {
		mustCheck(t, around(corners), api.OK)
	}
}

// mustRefuse tells that each call with a fence answers its error, whatever else would be wrong too.
func mustRefuse(t *testing.T, f api.Fence, want api.Errno) {
	t.Helper()
	mustCheck(t, f, want)
	mustNotHold(t, f, box(span(1, 2), span(1, 2), span(1, 2)), want)
	mustNotHold(t, f, box(span(2, 1), span(2, 1), span(2, 1)), want)
	mustNotLane(t, f, at(20, 20), at(30, 30), 1, want)
	mustNotLane(t, f, at(20, most), at(30, 30), -1, want)
	mustNotRally(t, f, at(20, 20), 1, want)
	mustNotRally(t, f, at(20, least), -1, want)
	mustNotEncode(t, f, want)
	mustNotOf(t, itemsOf(f), want)
}

// TestLimits holds P10.1 for Floor and Ceiling: the ends, one beyond, the ends of an int, 0 and 1 of either.
func TestLimits(t *testing.T) {
	numbers := append(outOfBounds(), -end, -end+1, -1, 0, 1, 2, end-1, end)
	for _, floor := range numbers {
		for _, ceiling := range numbers {
			want := api.OK
			switch {
			case floor < -end || floor > end || ceiling < -end || ceiling > end:
				want = api.ErrRange
			case floor > 0 || ceiling < 1:
				want = api.ErrFloor
			}
			f := with(func(f *api.Fence) { f.Floor, f.Ceiling = floor, ceiling })
			mustCheck(t, f, want)
			if want != api.OK {
				mustRefuse(t, f, want)
			}
		}
	}
}

// TestRallyCount holds P10.1: no rally point, 8 and 9 of them.
func TestRallyCount(t *testing.T) {
	for n := range 20 {
		f := with(func(f *api.Fence) { f.Rally = nil })
		for i := range n {
			f.Rally = append(f.Rally, at(1+i, 50))
		}
		if n <= 8 {
			mustCheck(t, f, api.OK)
		} else {
			mustRefuse(t, f, api.ErrMany)
		}
	}
	mustCheck(t, with(func(f *api.Fence) { f.Rally = []api.Point{} }), api.OK)
	mustRefuse(t, with(func(f *api.Fence) { f.Rally = make([]api.Point, 264) }), api.ErrMany)
}

// TestRallyPoints holds P10.1: a rally point that may not be, on a side, at a corner and outside, in each place of a list.
func TestRallyPoints(t *testing.T) {
	bad := map[api.Errno][]api.Point{
		api.ErrRally: points(0, 50, 100, 50, 50, 0, 50, 100, 0, 0, 100, 0, 100, 100, 0, 100, -1, 50, 101, 50, 50, -1, 50, 101, end, end, -end, -end),
	}
	for _, n := range outOfBounds() {
		bad[api.ErrRange] = append(bad[api.ErrRange], at(n, 50), at(50, n), at(n, n))
	}
	for want, list := range bad {
		for _, p := range list {
			for n := 1; n <= 8; n++ {
				for i := range n {
					f := with(func(f *api.Fence) { f.Rally = slices.Repeat(points(50, 50), n); f.Rally[i] = p })
					mustCheck(t, f, want)
				}
			}
			mustRefuse(t, with(func(f *api.Fence) { f.Rally[2] = p }), want)
		}
	}
	mustCheck(t, with(func(f *api.Fence) { f.Rally = points(1, 1, 99, 1, 99, 99, 1, 99, 50, 50, 50, 50, 1, 50, 50, 99) }), api.OK)
}

// TestRallyPointsOfShapes holds P10.1: every rally point about polygons of many shapes.
func TestRallyPointsOfShapes(t *testing.T) {
	for _, corners := range shapes() {
		for x := -1; x <= 9; x++ {
			for y := -1; y <= 9; y++ {
				f := around(corners)
				f.Rally = points(x, y)
				want := api.ErrRally
				if reckonInside(corners, span(x, x), span(y, y)) {
					want = api.OK
				}
				mustCheck(t, f, want)
			}
		}
	}
}

// faults are ways to spoil a fence, in the order in which P10.1 names them.
func faults() []struct {
	spoil func(f *api.Fence)
	want  api.Errno
} {
	return []struct {
		spoil func(f *api.Fence)
		want  api.Errno
	}{
		{func(f *api.Fence) { f.Poly = points(0, 0, 4, 4, 4, 0, 0, 4) }, api.ErrTangle},
		{func(f *api.Fence) { f.Floor = -end - 1 }, api.ErrRange},
		{func(f *api.Fence) { f.Ceiling = end + 1 }, api.ErrRange},
		{func(f *api.Fence) { f.Floor = max(f.Floor, 1) }, api.ErrFloor},
		{func(f *api.Fence) { f.Ceiling = min(f.Ceiling, 0) }, api.ErrFloor},
		{func(f *api.Fence) {
			f.Rally = append(f.Rally, points(50, 50, 50, 50, 50, 50, 50, 50, 50, 50, 50, 50)...)
		}, api.ErrMany},
		{func(f *api.Fence) { f.Rally[0] = at(0, end+1) }, api.ErrRange},
		{func(f *api.Fence) { f.Rally[1] = at(0, 0) }, api.ErrRally},
		{func(f *api.Fence) { f.Rally[2] = at(end+1, 0) }, api.ErrRange},
	}
}

// TestOrder holds R1 and P10.1: of several faults the one that is named first, of all sets of them.
func TestOrder(t *testing.T) {
	list := faults()
	for set := 1; set < 1<<len(list); set++ {
		f, want := small(), api.OK
		for i, x := range list {
			if set>>i&1 == 0 {
				continue
			}
			// The range of a limit and its sign are faults of one number: the sign is spoilt at the other one.
			if i == 3 && set>>1&1 == 1 || i == 4 && set>>2&1 == 1 {
				continue
			}
			x.spoil(&f)
			if want == api.OK {
				want = x.want
			}
		}
		mustRefuse(t, f, want)
	}
}

// TestSimpleOrder holds P10.1: each error of a polygon is told ahead of all others.
func TestSimpleOrder(t *testing.T) {
	for want, list := range badPolygons() {
		for _, x := range faults()[1:] {
			f := small()
			x.spoil(&f)
			f.Poly = list[len(list)-1]
			mustRefuse(t, f, want)
		}
	}
}

// TestHoldsGrid holds P10.2: all rectangles about polygons of many shapes, points and lines among them.
func TestHoldsGrid(t *testing.T) {
	yes := 0
	for name, corners := range shapes() {
		f := around(corners)
		for x := range eachSpan(-1, 9) {
			for y := range eachSpan(-1, 9) {
				want := reckonInside(corners, x, y)
				if is, e := fence.Holds(f, box(x, y, span(0, 9))); is != want || e != api.OK {
					t.Fatalf("%s: Holds(%v, %v): %v %v, not %v", name, x, y, is, e, want)
				}
				if want {
					yes++
				}
			}
		}
	}
	if yes < 1000 {
		t.Errorf("%d rectangles inside are too few to tell", yes)
	}
}

// eachSpan is all spans of whole numbers from lo to hi.
func eachSpan(lo, hi int) func(yield func(api.Span) bool) {
	return func(yield func(api.Span) bool) {
		for a := lo; a <= hi; a++ {
			for b := a; b <= hi; b++ {
				if !yield(span(a, b)) {
					return
				}
			}
		}
	}
}

// TestHoldsBySight holds P10.2 by hand: what touches from within, what holds a corner or all of the polygon, what reaches through a notch, lines and points.
func TestHoldsBySight(t *testing.T) {
	// The notch's tip is at 4,2; its walls reach up to 3,8 and 5,8.
	notch := around(points(0, 0, 8, 0, 8, 8, 5, 8, 4, 2, 3, 8, 0, 8))
	square := around(points(0, 0, 8, 0, 8, 8, 0, 8))
	arrow := around(points(0, 0, 10, 5, 0, 10, 3, 5))
	high := span(0, 9)
	for _, x := range []struct {
		f    api.Fence
		x, y api.Span
		want bool
	}{
		{square, span(1, 7), span(1, 7), true},
		{square, span(0, 7), span(1, 7), false},
		{square, span(1, 8), span(1, 7), false},
		{square, span(1, 7), span(0, 7), false},
		{square, span(1, 7), span(1, 8), false},
		{square, span(7, 9), span(7, 9), false},
		{square, span(8, 8), span(8, 8), false},
		{square, span(0, 8), span(0, 8), false},
		{square, span(-1, 9), span(-1, 9), false},
		{square, span(-9, -1), span(1, 7), false},
		{square, span(9, 12), span(1, 7), false},
		{square, span(4, 4), span(4, 4), true},
		{square, span(1, 7), span(4, 4), true},
		{square, span(4, 4), span(1, 7), true},
		{square, span(0, 7), span(4, 4), false},
		{square, span(4, 4), span(1, 8), false},
		{notch, span(1, 7), span(1, 1), true},
		{notch, span(1, 7), span(1, 2), false},
		{notch, span(1, 7), span(1, 3), false},
		{notch, span(2, 6), span(3, 7), false},
		{notch, span(1, 2), span(1, 7), true},
		{notch, span(6, 7), span(1, 7), true},
		{notch, span(4, 4), span(5, 6), false},
		{notch, span(4, 4), span(3, 7), false},
		{arrow, span(4, 6), span(4, 6), true},
		{arrow, span(3, 6), span(4, 6), false},
		{arrow, span(2, 4), span(3, 7), false},
		{arrow, span(4, 8), span(4, 6), false},
		{arrow, span(4, 7), span(4, 6), true},
	} {
		mustHold(t, x.f, box(x.x, x.y, high), x.want)
	}
	four := []api.Span{span(1, 1), span(7, 7)}
	for _, x := range four {
		for _, y := range []api.Span{span(1, 1), span(7, 7)} {
			mustHold(t, notch, box(x, y, high), true)
		}
	}
	mustHold(t, notch, box(span(1, 7), span(1, 7), high), false)
}

// TestHoldsWide holds P10.2 where coordinates are as great as they may be, and beyond.
func TestHoldsWide(t *testing.T) {
	step := end / 4
	for name, corners := range shapes() {
		wide := moved(corners, step, -end, -end)
		f := around(wide)
		mustCheck(t, f, api.OK)
		for x := range eachSpan(-1, 9) {
			for y := range eachSpan(-1, 9) {
				for _, off := range []int{-1, 0, 1} {
					bx, by := span(x.Lo*step-end+off, x.Hi*step-end), span(y.Lo*step-end, y.Hi*step-end+off)
					if bx.Lo > bx.Hi || by.Lo > by.Hi {
						continue
					}
					want := reckonInside(wide, bx, by)
					if is, e := fence.Holds(f, box(bx, by, span(0, 9))); is != want || e != api.OK {
						t.Fatalf("%s: Holds(%v, %v): %v %v, not %v", name, bx, by, is, e, want)
					}
				}
			}
		}
	}
	all := around(points(-end, -end, end, -end, end, end, -end, end))
	in := span(-end+1, end-1)
	mustHold(t, all, box(in, in, span(0, 9)), true)
	for _, n := range append(outOfBounds(), end, -end) {
		other := span(min(n, 0), max(n, 0))
		mustHold(t, all, box(other, in, span(0, 9)), false)
		mustHold(t, all, box(in, other, span(0, 9)), false)
		mustHold(t, all, box(span(n, n), in, span(0, 9)), false)
		mustHold(t, all, box(in, span(n, n), span(0, 9)), false)
	}
	mustHold(t, all, box(span(least, most), span(least, most), span(least, most)), false)
	mustHold(t, all, box(span(least, most), span(1, 2), span(0, 9)), false)
	mustHold(t, all, box(span(1, 2), span(least, most), span(0, 9)), false)
}

// TestHoldsHeight holds P10.2 for Z: it ends just at Floor and Ceiling, and one beyond; the ends of an int.
func TestHoldsHeight(t *testing.T) {
	for _, limits := range []api.Span{span(-5, 50), span(0, 1), span(-end, end), span(-1, 1)} {
		f := with(func(f *api.Fence) { f.Floor, f.Ceiling = limits.Lo, limits.Hi })
		numbers := []int{least, least + 1, limits.Lo - 1, limits.Lo, limits.Lo + 1, 0, limits.Hi - 1, limits.Hi, limits.Hi + 1, most - 1, most}
		for _, lo := range numbers {
			for _, hi := range numbers {
				b := box(span(20, 30), span(40, 50), span(lo, hi))
				if lo > hi {
					mustNotHold(t, f, b, api.ErrArg)
					continue
				}
				mustHold(t, f, b, lo >= limits.Lo && hi <= limits.Hi)
				b.X.Hi = 100
				mustHold(t, f, b, false)
			}
		}
	}
}

// TestHoldsBackward holds P10.2: a span whose Lo is above its Hi, in each axis, whatever the others are.
func TestHoldsBackward(t *testing.T) {
	good := []api.Span{span(1, 2), span(5, 5), span(-9, 200), span(least, most), span(most, most)}
	bad := []api.Span{span(5, 4), span(1, 0), span(most, least), span(most, most-1), span(least+1, least), span(end+2, end+1)}
	for _, b := range bad {
		for _, g := range good {
			for _, h := range append(good, bad...) {
				mustNotHold(t, small(), box(b, g, h), api.ErrArg)
				mustNotHold(t, small(), box(g, b, h), api.ErrArg)
				mustNotHold(t, small(), box(g, h, b), api.ErrArg)
			}
		}
	}
}

// TestLaneGrid holds P10.3 and P10.7: all lanes about polygons of many shapes, with rooms from 0 on, in either order.
func TestLaneGrid(t *testing.T) {
	yes := 0
	for name, corners := range shapes() {
		f := around(corners)
		for i := range 11 * 11 * 11 * 11 {
			a, b := at(i%11-1, i/11%11-1), at(i/121%11-1, i/1331-1)
			for _, r := range []int{0, 1, 2} {
				want := reckonLane(corners, a, b, r)
				if is, e := fence.Lane(f, a, b, r); is != want || e != api.OK {
					t.Fatalf("%s: Lane(%v, %v, %d): %v %v, not %v", name, a, b, r, is, e, want)
				}
				if want {
					yes++
				}
				if !want {
					break
				}
			}
		}
	}
	if yes < 1000 {
		t.Errorf("%d lanes inside are too few to tell", yes)
	}
}

// TestLaneRoom holds P10.3: rooms that just keep clear, that just touch, and as great as an int may be; both orders in both axes.
func TestLaneRoom(t *testing.T) {
	f := small()
	for _, x := range []struct {
		a, b api.Point
		room int // the greatest one that keeps clear
	}{
		{at(10, 10), at(90, 90), 9},
		{at(10, 40), at(70, 60), 9},
		{at(30, 40), at(95, 60), 4},
		{at(30, 8), at(70, 60), 7},
		{at(30, 40), at(70, 97), 2},
		{at(50, 50), at(50, 50), 49},
		{at(1, 50), at(99, 50), 0},
		{at(1, 1), at(99, 99), 0},
		{at(0, 50), at(50, 50), -1},
		{at(50, 50), at(50, 100), -1},
		{at(50, 50), at(150, 50), -1},
		{at(-50, 50), at(-50, -50), -1},
		{at(-end, -end), at(end, end), -1},
		{at(end, -end), at(-end, end), -1},
	} {
		pairs := [][2]api.Point{{x.a, x.b}, {x.b, x.a}, {at(x.a.X, x.b.Y), at(x.b.X, x.a.Y)}, {at(x.b.X, x.a.Y), at(x.a.X, x.b.Y)}}
		for _, p := range pairs {
			for r := range 60 {
				mustLane(t, f, p[0], p[1], r, r <= x.room)
			}
			for _, r := range []int{end - 1, end, end + 1, 2 * end, 2*end + 1, 1 << 31, 1 << 32, 1<<32 + 1, 1 << 62, most - end - 1, most - end, most - end + 1, most - 1, most} {
				mustLane(t, f, p[0], p[1], r, false)
			}
		}
	}
}

// TestLaneWide holds P10.3 in the widest fence that may be: a lane up to its edge, and no number added up raw.
func TestLaneWide(t *testing.T) {
	all := around(points(-end, -end, end, -end, end, end, -end, end))
	mustLane(t, all, at(0, 0), at(0, 0), end-1, true)
	mustLane(t, all, at(0, 0), at(0, 0), end, false)
	mustLane(t, all, at(0, 0), at(0, 0), end+1, false)
	mustLane(t, all, at(-end+1, -end+1), at(end-1, end-1), 0, true)
	mustLane(t, all, at(-end+2, -end+2), at(end-2, end-2), 1, true)
	mustLane(t, all, at(-end+2, -end+2), at(end-2, end-2), 2, false)
	// Each end of the lane alone is beyond.
	mustLane(t, all, at(-10, 0), at(0, 0), end-10, false)
	mustLane(t, all, at(10, 0), at(0, 0), end-10, false)
	mustLane(t, all, at(0, -10), at(0, 0), end-10, false)
	mustLane(t, all, at(0, 10), at(0, 0), end-10, false)
	mustLane(t, all, at(10, 10), at(-10, -10), end-11, true)
	for _, p := range points(end, end, -end, end, end, -end, -end, -end, end, 0, 0, -end) {
		for _, r := range []int{0, 1, 2 * end, 2*end + 1, most - end, most - end + 1, most} {
			mustLane(t, all, p, p, r, false)
			mustLane(t, all, p, at(0, 0), r, false)
			mustRally(t, all, p, r, -1)
		}
	}
}

// TestLaneRefused holds P10.3, P10.4 and R1: coordinates that may not be, ahead of a room below 0.
func TestLaneRefused(t *testing.T) {
	f, p := small(), at(50, 50)
	for _, n := range outOfBounds() {
		for _, r := range []int{0, 5, -1, least, most} {
			for _, q := range points(n, 50, 50, n, n, n) {
				mustNotLane(t, f, q, p, r, api.ErrRange)
				mustNotLane(t, f, p, q, r, api.ErrRange)
				mustNotLane(t, f, q, q, r, api.ErrRange)
				mustNotRally(t, f, q, r, api.ErrRange)
			}
		}
	}
	for _, r := range []int{-1, -2, -end, least, least + 1} {
		mustNotLane(t, f, p, p, r, api.ErrArg)
		mustNotLane(t, f, at(end, end), at(-end, -end), r, api.ErrArg)
		mustNotRally(t, f, p, r, api.ErrArg)
		mustNotRally(t, f, at(-end, end), r, api.ErrArg)
		mustNotRally(t, around(f.Poly), p, r, api.ErrArg)
	}
}

// TestRally holds P10.4: rally points as near as one another, nearer ones whose lane is not inside, none at all.
func TestRally(t *testing.T) {
	f := small()
	f.Rally = points(30, 50, 50, 30, 70, 50, 50, 70, 50, 50, 50, 50)
	mustRally(t, f, at(50, 50), 0, 4)
	mustRally(t, f, at(50, 51), 0, 4)
	mustRally(t, f, at(40, 40), 0, 0)
	mustRally(t, f, at(60, 40), 0, 1)
	mustRally(t, f, at(60, 60), 0, 2)
	mustRally(t, f, at(30, 50), 5, 0)
	mustRally(t, f, at(50, 71), 5, 3)
	mustRally(t, f, at(50, 50), 49, 4)
	mustRally(t, f, at(50, 50), 50, -1)
	mustRally(t, f, at(50, 50), most, -1)
	mustRally(t, f, at(0, 50), 0, -1)
	mustRally(t, f, at(-1, 50), 0, -1)
	mustRally(t, around(f.Poly), at(50, 50), 0, -1)

	// The nearest one stands behind the notch; the farthest one of all is the only one to be reached with more room.
	walls := around(points(0, 0, 80, 0, 80, 80, 50, 80, 40, 20, 30, 80, 0, 80))
	walls.Rally = points(60, 70, 10, 10, 29, 30)
	mustRally(t, walls, at(20, 70), 0, 2)
	mustRally(t, walls, at(20, 70), 2, 2)
	mustRally(t, walls, at(20, 70), 3, 1)
	mustRally(t, walls, at(20, 70), 9, 1)
	mustRally(t, walls, at(20, 70), 10, -1)
	mustRally(t, walls, at(60, 60), 3, 0)
	walls.Rally = walls.Rally[:1]
	mustRally(t, walls, at(20, 70), 0, -1)

	// Nearest by the square of the distance, not by the sum of its parts nor by the greater one.
	f.Rally = points(50, 64, 60, 60)
	mustRally(t, f, at(50, 50), 0, 0)
	f.Rally = points(60, 60, 50, 64)
	mustRally(t, f, at(50, 50), 0, 1)
	f.Rally = points(50, 65, 60, 60)
	mustRally(t, f, at(50, 50), 0, 1)
}

// TestRallyGrid holds P10.4: all points about polygons of many shapes, with rally points drawn at random.
func TestRallyGrid(t *testing.T) {
	random := rand.New(rand.NewSource(10))
	found := map[int]int{}
	for name, corners := range shapes() {
		for range 60 {
			f := around(corners)
			for range 1 + random.Intn(8) {
				if p := at(1+random.Intn(7), 1+random.Intn(7)); reckonInside(corners, span(p.X, p.X), span(p.Y, p.Y)) {
					f.Rally = append(f.Rally, p)
				}
			}
			for i := range 11 * 11 {
				p, r := at(i%11-1, i/11-1), random.Intn(3)
				want := reckonRally(f, p, r)
				found[want]++
				if n, e := fence.Rally(f, p, r); n != want || e != api.OK {
					t.Fatalf("%s: Rally(%v, %v, %d): %d %v, not %d", name, f.Rally, p, r, n, e, want)
				}
			}
		}
	}
	for i := -1; i < 6; i++ {
		if found[i] == 0 {
			t.Errorf("no answer was %d", i)
		}
	}
}

// TestRallyWide holds P10.4 where squares of distances are as great as they may be.
func TestRallyWide(t *testing.T) {
	f := around(points(-end, -end, end, -end, end, end, -end, end))
	f.Rally = points(end-1, end-1, end-1, end-2, 1-end, 1-end)
	mustRally(t, f, at(1-end, 1-end), 0, 2)
	mustRally(t, f, at(2-end, 2-end), 0, 2)
	f.Rally = f.Rally[:2]
	mustRally(t, f, at(1-end, 1-end), 0, 1)
	mustRally(t, f, at(end-1, end-1), 0, 0)
	mustRally(t, f, at(1-end, 1-end), 1, -1)
}

// someFences are sound fences of many sorts.
func someFences() []api.Fence {
	list := []api.Fence{small(), around(comb(64)), around(points(0, 0, 9, 0, 0, 9))}
	for _, corners := range shapes() {
		f := around(moved(corners, 1000, -3000, -5000))
		f.Rally = points(-2500, -4500)
		if fence.Check(f) == api.OK {
			list = append(list, f)
		}
	}
	wide := around(points(-end, -end, end, -end, end, end, -end, end))
	wide.Floor, wide.Ceiling = -end, end
	wide.Rally = points(-1, -1, 1, 1, -256, 255, 256, -255, -65536, 65535, end-1, 1-end, 0x01020304, -0x01020304, 0x10203040, -0x10203040)
	eight := small()
	eight.Rally = slices.Repeat(points(7, 93), 8)
	return append(list, wide, eight)
}

// TestBytes holds P10.5 and P10.7: Encode's bytes one by one, and Decode of Encode is the fence.
func TestBytes(t *testing.T) {
	for _, f := range someFences() {
		mustCheck(t, f, api.OK)
		s, e := fence.Encode(f)
		if e != api.OK || s != reckonBytes(f) {
			t.Errorf("Encode(%v): %x %v, not %x", f, s, e, reckonBytes(f))
		}
		mustDecode(t, s, f)
	}
	s, e := fence.Encode(api.Fence{Poly: points(-1, 258, 65536, -256, 0x01020304, 536870912), Floor: -536870912, Ceiling: 1})
	want := "\x03" + "\xff\xff\xff\xff\x02\x01\x00\x00" + "\x00\x00\x01\x00\x00\xff\xff\xff" + "\x04\x03\x02\x01\x00\x00\x00\x20" + "\x00\x00\x00\xe0" + "\x01\x00\x00\x00" + "\x00"
	if e != api.OK || s != want {
		t.Errorf("%x %v", s, e)
	}
}

// TestDecodeSize holds P10.5: bytes that end too early at each place, and bytes that are left.
func TestDecodeSize(t *testing.T) {
	for _, f := range someFences() {
		s := reckonBytes(f)
		for n := range len(s) {
			mustNotDecode(t, s[:n], api.ErrSize)
		}
		for _, more := range []string{"\x00", "\x01", "\xff", s} {
			mustNotDecode(t, s+more, api.ErrSize)
		}
	}
}

// TestDecodeCounts holds P10.5: counts of corners and rally points from 0 to 255, with bytes that suit them and bytes that do not.
func TestDecodeCounts(t *testing.T) {
	s := reckonBytes(small())
	for n := range 256 {
		c := string([]byte{byte(n)})
		if f, ok := reckonRead(c + s[1:]); !ok {
			mustNotDecode(t, c+s[1:], api.ErrSize)
		} else {
			mustDecodeAs(t, f, fence.Check(f))
		}
		if n != 3 {
			mustNotDecode(t, s[:41]+c+s[42:], api.ErrSize)
		}
		f := small()
		f.Poly = make([]api.Point, n)
		for i := range f.Poly {
			f.Poly[i] = at(i, i*i)
		}
		f.Rally = nil
		want := api.OK
		if n < 3 {
			want = api.ErrFew
		} else if n > 64 {
			want = api.ErrMany
		}
		mustDecodeAs(t, f, want)
		f = small()
		f.Rally = slices.Repeat(points(50, 60), n)
		want = api.OK
		if n > 8 {
			want = api.ErrMany
		}
		mustDecodeAs(t, f, want)
	}
}

// reckonRead is the fence that bytes are, sound or not; false: their size does not suit it.
func reckonRead(data string) (api.Fence, bool) {
	corners := int(data[0])
	limits := 1 + 8*corners
	if limits+8 >= len(data) {
		return api.Fence{}, false
	}
	rally := int(data[limits+8])
	if limits+9+8*rally != len(data) {
		return api.Fence{}, false
	}
	number := func(place int) int {
		n := int(data[place]) + int(data[place+1])*256 + int(data[place+2])*65536 + int(data[place+3])*16777216
		if data[place+3] >= 128 {
			n -= 1 << 32
		}
		return n
	}
	list := func(place, n int) []api.Point {
		var list []api.Point
		for i := range n {
			list = append(list, at(number(place+8*i), number(place+8*i+4)))
		}
		return list
	}
	return api.Fence{Poly: list(1, corners), Floor: number(limits), Ceiling: number(limits + 4), Rally: list(limits+9, rally)}, true
}

// mustDecodeAs tells that a fence's bytes are read as it, or come to its error.
func mustDecodeAs(t *testing.T, f api.Fence, want api.Errno) {
	t.Helper()
	mustCheck(t, f, want)
	if want == api.OK {
		mustDecode(t, reckonBytes(f), f)
	} else {
		mustNotDecode(t, reckonBytes(f), want)
	}
}

// TestDecodeUnsound holds P10.5 and R1: Check's error of what bytes tell, but their size first.
func TestDecodeUnsound(t *testing.T) {
	for set, x := range faults() {
		f := small()
		x.spoil(&f)
		mustDecodeAs(t, f, x.want)
		s := reckonBytes(f)
		mustNotDecode(t, s[:len(s)-1], api.ErrSize)
		mustNotDecode(t, s+"x", api.ErrSize)
		for _, y := range faults()[set+1:] {
			if f.Floor > 0 || f.Floor < -end || f.Ceiling < 1 || f.Ceiling > end {
				break
			}
			y.spoil(&f)
			mustDecodeAs(t, f, x.want)
		}
	}
	// The greatest and the least that four bytes may tell.
	for _, n := range []int{end + 1, -end - 1, 1<<31 - 1, -1 << 31} {
		mustDecodeAs(t, with(func(f *api.Fence) { f.Poly[2].X = n }), api.ErrRange)
		mustDecodeAs(t, with(func(f *api.Fence) { f.Poly[0].Y = n }), api.ErrRange)
		mustDecodeAs(t, with(func(f *api.Fence) { f.Floor = n }), api.ErrRange)
		mustDecodeAs(t, with(func(f *api.Fence) { f.Ceiling = n }), api.ErrRange)
		mustDecodeAs(t, with(func(f *api.Fence) { f.Rally[2].X = n }), api.ErrRange)
		mustDecodeAs(t, with(func(f *api.Fence) { f.Rally[0].Y = n }), api.ErrRange)
	}
	mustNotDecode(t, "\x00\x00\x00\x00\x00\x01\x00\x00\x00\x00", api.ErrFew)
	mustNotDecode(t, "\x00\x00\x00\x00\x00\x00\x00\x00\x00\x00", api.ErrFew)
}

// TestDecodeEncode holds P10.7: what Decode reads Encode writes, of bytes that are changed one by one.
func TestDecodeEncode(t *testing.T) {
	read := 0
	for _, f := range someFences() {
		s := reckonBytes(f)
		for i := range len(s) {
			for _, flip := range []byte{1, 2, 16, 128, 255} {
				changed := s[:i] + string([]byte{s[i] ^ flip}) + s[i+1:]
				g, e := fence.Decode(changed)
				if e != api.OK {
					continue
				}
				read++
				if again, e := fence.Encode(g); e != api.OK || again != changed {
					t.Errorf("%x is read as %v, and written as %x %v", changed, g, again, e)
				}
			}
		}
	}
	if read < 100 {
		t.Errorf("%d readings are too few to tell", read)
	}
}

// TestItems holds P10.6 and P10.7: the items of a fence are read as it, in whatever order its sorts are mixed.
func TestItems(t *testing.T) {
	random := rand.New(rand.NewSource(6))
	for _, f := range someFences() {
		mustOf(t, itemsOf(f), f)
		for range 20 {
			mustOf(t, mixed(random, f), f)
		}
	}
}

// mixed are a fence's items; corners and rally points each in their order, but among each other and with the limits in any.
func mixed(random *rand.Rand, f api.Fence) [][]int {
	var corners, rally, list [][]int
	for _, item := range itemsOf(f) {
		switch item[0] {
		case 1:
			corners = append(corners, item)
		case 2:
			rally = append(rally, item)
		}
	}
	for len(corners)+len(rally) > 0 {
		if random.Intn(len(corners)+len(rally)) < len(corners) {
			list, corners = append(list, corners[0]), corners[1:]
		} else {
			list, rally = append(list, rally[0]), rally[1:]
		}
	}
	return slices.Insert(list, random.Intn(len(list)+1), []int{3, f.Floor, f.Ceiling, 0, 0})
}

// TestBadItems holds P10.6: items that have not five numbers, of no kind, with a c or a d, with no limits and with two; in each place of a list, and alone.
func TestBadItems(t *testing.T) {
	bad := [][]int{
		nil, {}, {1}, {3, 0, 9}, {1, 5, 5}, {1, 5, 5, 0}, {2, 5, 5, 0}, {3, -1, 9, 0}, {1, 5, 5, 0, 0, 0}, {2, 5, 5, 0, 0, 0}, {3, -1, 9, 0, 0, 0},
		{0, 5, 5, 0, 0}, {4, 5, 5, 0, 0}, {-1, 5, 5, 0, 0}, {257, 5, 5, 0, 0}, {1 << 32, 5, 5, 0, 0}, {1<<32 + 1, 5, 5, 0, 0}, {most, 5, 5, 0, 0}, {least, 5, 5, 0, 0},
		{1, 5, 5, 1, 0}, {1, 5, 5, 0, 1}, {2, 5, 5, 1, 0}, {2, 5, 5, 0, 1}, {3, -1, 9, 1, 0}, {3, -1, 9, 0, 1}, {1, 5, 5, -1, 0}, {2, 5, 5, 0, -1}, {3, -1, 9, most, least}, {1, 5, 5, 1, -1}, {2, 5, 5, 1 << 32, 0}, {2, 5, 5, 0, 1 << 32},
	}
	good := itemsOf(small())
	for _, item := range bad {
		mustNotOf(t, [][]int{item}, api.ErrItem)
		for i := range len(good) + 1 {
			mustNotOf(t, slices.Insert(slices.Clone(good), i, item), api.ErrItem)
		}
	}
	limits := []int{3, -5, 50, 0, 0}
	for i := range len(good) + 1 {
		mustNotOf(t, slices.Insert(slices.Clone(good), i, limits), api.ErrItem)
	}
	none := slices.DeleteFunc(slices.Clone(good), func(item []int) bool { return item[0] == 3 })
	mustNotOf(t, none, api.ErrItem)
	mustNotOf(t, [][]int{}, api.ErrItem)
	mustNotOf(t, [][]int{limits, limits}, api.ErrItem)
	mustNotOf(t, [][]int{limits, limits, limits}, api.ErrItem)
	mustNotOf(t, [][]int{{3, 0, 0, 0, 0}, {3, 0, 0, 0, 0}}, api.ErrItem)
}

// TestItemsOrder holds P10.6 and R1: an item that may not be, and the lack of limits, ahead of Check's errors; and these of the fence that the items are.
func TestItemsOrder(t *testing.T) {
	for _, x := range faults() {
		f := small()
		x.spoil(&f)
		items := itemsOf(f)
		mustNotOf(t, items, x.want)
		mustNotOf(t, append(slices.Clone(items), []int{1, 2, 3, 4, 5}), api.ErrItem)
		mustNotOf(t, append(slices.Clone(items), []int{3, -5, 50, 0, 0}), api.ErrItem)
		mustNotOf(t, append([][]int{{}}, items...), api.ErrItem)
		none := slices.DeleteFunc(items, func(item []int) bool { return item[0] == 3 })
		mustNotOf(t, none, api.ErrItem)
	}
	mustNotOf(t, [][]int{{3, 1, 0, 0, 0}}, api.ErrFew)
	mustNotOf(t, [][]int{{3, most, least, 0, 0}, {2, most, most, 0, 0}}, api.ErrFew)
	many := [][]int{{3, -1, 9, 0, 0}}
	for i := range 65 {
		many = append(many, []int{1, i, i * i, 0, 0})
	}
	mustNotOf(t, many, api.ErrMany)
	if f, e := fence.Of(many[:65]); e != api.OK || len(f.Poly) != 64 {
		t.Error(len(f.Poly), e)
	}
}

// TestBoxesWithin holds P10.7: each box within one that is held is held too, and each of its points is inside.
func TestBoxesWithin(t *testing.T) {
	for _, corners := range shapes() {
		f := around(corners)
		for x := range eachSpan(0, 8) {
			for y := range eachSpan(0, 8) {
				if is, _ := fence.Holds(f, box(x, y, span(-5, 50))); !is {
					continue
				}
				for px := x.Lo; px <= x.Hi; px++ {
					for py := y.Lo; py <= y.Hi; py++ {
						if side, e := geo.Side(corners, at(px, py)); side != 1 || e != api.OK {
							t.Fatalf("%v %v is held in %v, but %d,%d is not inside", x, y, corners, px, py)
						}
						mustHold(t, f, box(span(px, x.Hi), span(y.Lo, py), span(-5, -5)), true)
						mustHold(t, f, box(span(x.Lo, px), span(py, y.Hi), span(50, 50)), true)
						mustHold(t, f, box(span(px, px), span(py, py), span(-4, 49)), true)
					}
				}
			}
		}
	}
}

// TestLanesWithin holds P10.7: where a lane is inside, so is each one with less room, the other way round too, and each point between the two, and r about it.
func TestLanesWithin(t *testing.T) {
	random := rand.New(rand.NewSource(3))
	yes := 0
	for _, corners := range shapes() {
		f := around(moved(corners, 3, 0, 0))
		for range 1500 {
			a, b, r := at(random.Intn(25), random.Intn(25)), at(random.Intn(25), random.Intn(25)), random.Intn(5)
			is, e := fence.Lane(f, a, b, r)
			if e != api.OK {
				t.Fatal(e)
			}
			mustLane(t, f, b, a, r, is)
			if !is {
				mustLane(t, f, a, b, r+1, false)
				continue
			}
			yes++
			for less := range r {
				mustLane(t, f, a, b, less, true)
			}
			x, y := span(min(a.X, b.X), max(a.X, b.X)), span(min(a.Y, b.Y), max(a.Y, b.Y))
			for px := x.Lo; px <= x.Hi; px++ {
				for py := y.Lo; py <= y.Hi; py++ {
					mustHold(t, f, box(span(px-r, px+r), span(py-r, py+r), span(0, 0)), true)
				}
			}
		}
	}
	if yes < 200 {
		t.Errorf("%d lanes inside are too few to tell", yes)
	}
}

// randomPolygon is a simple one, of points drawn at random from a grid of n lines.
func randomPolygon(random *rand.Rand, n int) []api.Point {
	for {
		list := make([]api.Point, 3+random.Intn(5))
		for i := range list {
			list[i] = at(random.Intn(n), random.Intn(n))
		}
		if geo.Simple(list) == api.OK {
			return list
		}
	}
}

// TestRandom holds P10.2 to P10.4 for polygons, boxes and lanes drawn at random, near and as wide as may be.
func TestRandom(t *testing.T) {
	random := rand.New(rand.NewSource(1))
	inside, lanes := 0, 0
	for round := range 4000 {
		corners := randomPolygon(random, 12)
		if round%2 == 1 {
			corners = moved(corners, 2*end/11, -end, -end)
		}
		f := around(corners)
		draw := func() api.Point {
			a, b := corners[random.Intn(len(corners))], corners[random.Intn(len(corners))]
			w := 1 + random.Intn(9)
			return at((a.X*w+b.X*(10-w))/10, (a.Y*w+b.Y*(10-w))/10)
		}
		for range 6 {
			if p := draw(); len(f.Rally) < 8 && reckonInside(corners, span(p.X, p.X), span(p.Y, p.Y)) {
				f.Rally = append(f.Rally, p)
			}
		}
		mustCheck(t, f, api.OK)
		for range 10 {
			a, b := draw(), draw()
			x, y := span(min(a.X, b.X), max(a.X, b.X)), span(min(a.Y, b.Y), max(a.Y, b.Y))
			want := reckonInside(corners, x, y)
			mustHold(t, f, box(x, y, span(-5, 50)), want)
			mustHold(t, f, box(x, y, span(-5, 51)), false)
			r := random.Intn(3)
			if round%2 == 1 {
				r *= end / 16
			}
			mustLane(t, f, a, b, r, reckonLane(corners, a, b, r))
			mustRally(t, f, a, r, reckonRally(f, a, r))
			if want {
				inside++
			}
			if reckonLane(corners, a, b, r) {
				lanes++
			}
		}
	}
	if inside < 500 || lanes < 200 {
		t.Errorf("%d boxes and %d lanes inside are too few to tell", inside, lanes)
	}
}

// room is a list with spare room behind it, that must stay as it was.
func room(list []api.Point) []api.Point {
	long := append(slices.Clone(list), at(-7, -7), at(-7, -7), at(-7, -7))
	return long[:len(list)]
}

// TestUntouched holds R2: lists that are handed in, and their spare room, are not written into, and what is behind a list's length is not read.
func TestUntouched(t *testing.T) {
	for _, f := range append(someFences(), with(func(f *api.Fence) { f.Rally[2] = at(0, 0) }), around(nil)) {
		g := f
		g.Poly, g.Rally = room(f.Poly), room(f.Rally)
		before := copyOf(g)
		e := fence.Check(f)
		mustCheck(t, g, e)
		fence.Holds(g, box(span(1, 2), span(1, 2), span(1, 2)))
		fence.Lane(g, at(1, 1), at(2, 2), 1)
		fence.Rally(g, at(20, 20), 1)
		one, _ := fence.Encode(f)
		if two, _ := fence.Encode(g); one != two {
			t.Errorf("%x, not %x", two, one)
		}
		if !same(g, before) {
			t.Errorf("%v, not %v", g, before)
		}
		for _, list := range [][]api.Point{g.Poly, g.Rally} {
			for _, p := range list[len(list) : len(list)+3] {
				if p != at(-7, -7) {
					t.Error("spare room was written into")
				}
			}
		}
	}
}

// TestItemsUntouched holds R2 for Of: its list, the lists within and their spare room stay as they were, and are not read behind their length.
func TestItemsUntouched(t *testing.T) {
	var items [][]int
	for _, item := range itemsOf(small()) {
		items = append(items, append(item, 8, 8)[:5])
	}
	items = append(items, []int{9, 9}, []int{9, 9})
	list := items[:len(items)-2]
	mustOf(t, list, small())
	for i, item := range itemsOf(small()) {
		if !slices.Equal(items[i], item) || !slices.Equal(items[i][:7][5:], []int{8, 8}) {
			t.Errorf("item %d is %v", i, items[i][:7])
		}
	}
	for _, item := range items[len(list):] {
		if !slices.Equal(item, []int{9, 9}) {
			t.Error("spare room was written into")
		}
	}
}

// spoilFence writes into all that a fence's lists reach.
func spoilFence(f api.Fence) {
	for _, list := range [][]api.Point{f.Poly, f.Rally} {
		list = list[:cap(list)]
		for i := range list {
			list[i] = at(-1, -1)
		}
	}
}

// TestNewMemory holds R2: lists that come out share no memory with what was handed in, with one another, nor with other answers.
func TestNewMemory(t *testing.T) {
	for _, f := range someFences() {
		data := reckonBytes(f)
		items := itemsOf(f)
		for _, make := range []func() (api.Fence, api.Errno){
			func() (api.Fence, api.Errno) { return fence.Decode(data) },
			func() (api.Fence, api.Errno) { return fence.Of(items) },
		} {
			one, e := make()
			two, d := make()
			if e != api.OK || d != api.OK {
				t.Fatal(e, d)
			}
			spoilFence(one)
			if !same(two, f) {
				t.Errorf("%v, not %v", two, f)
			}
			spoilFence(api.Fence{Poly: two.Poly})
			if !slices.Equal(two.Rally, f.Rally) {
				t.Errorf("the corners share memory with the rally points of %v", f)
			}
			if !reflect.DeepEqual(items, itemsOf(f)) {
				t.Errorf("the items share memory with the fence %v", f)
			}
			three, _ := make()
			for _, item := range items {
				item[1]++
			}
			if !same(three, f) {
				t.Errorf("the fence %v shares memory with its items", f)
			}
			items = itemsOf(f)
		}
	}
}

// TestAnything holds R1 and R2: no call panics at any numbers and any bytes, beside an error there is nothing, and the same call answers the same again.
func TestAnything(t *testing.T) {
	random := rand.New(rand.NewSource(5))
	odd := []int{least, least + 1, -end - 1, -end, -1, 0, 1, 2, 5, 10, end, end + 1, most - 1, most}
	number := func() int {
		if random.Intn(3) > 0 {
			return random.Intn(12)
		}
		return odd[random.Intn(len(odd))]
	}
	list := func(n int) []api.Point {
		var list []api.Point
		for range random.Intn(n) {
			list = append(list, at(number(), number()))
		}
		return list
	}
	pick := func() api.Span { return span(number(), number()) }
	for range 20000 {
		f := api.Fence{Poly: list(9), Floor: number(), Ceiling: number(), Rally: list(11)}
		if random.Intn(2) == 0 {
			f = with(func(f *api.Fence) { f.Rally = list(3) })
		}
		e := fence.Check(f)
		b, p, q, r := box(pick(), pick(), pick()), at(number(), number()), at(number(), number()), number()
		is, d := fence.Holds(f, b)
		if d != api.OK && is || e != api.OK && d != e {
			t.Fatal(f, b, is, d)
		}
		if again, d2 := fence.Holds(f, b); again != is || d2 != d {
			t.Fatal(f, b, again, d2)
		}
		is, d = fence.Lane(f, p, q, r)
		if d != api.OK && is || e != api.OK && d != e {
			t.Fatal(f, p, q, r, is, d)
		}
		n, d := fence.Rally(f, p, r)
		if d != api.OK && n != 0 || e != api.OK && d != e || d == api.OK && (n < -1 || n >= len(f.Rally)) {
			t.Fatal(f, p, r, n, d)
		}
		s, d := fence.Encode(f)
		if d != e || d != api.OK && s != "" || d == api.OK && s != reckonBytes(f) {
			t.Fatal(f, s, d)
		}
	}
	for range 20000 {
		data := make([]byte, 1+random.Intn(60))
		for i := range data {
			data[i] = byte(random.Intn(4) * random.Intn(60))
		}
		data[0] %= 8
		if want, ok := reckonRead(string(data)); !ok {
			mustNotDecode(t, string(data), api.ErrSize)
		} else {
			mustDecodeAs(t, want, fence.Check(want))
		}
	}
	for range 20000 {
		items := make([][]int, random.Intn(8))
		for i := range items {
			items[i] = []int{random.Intn(4), number(), number(), 0, 0}[:4+min(1, random.Intn(20))]
		}
		if f, e := fence.Of(items); e != api.OK && !isZero(f) || e == api.OK && len(f.Poly)+len(f.Rally)+1 != len(items) {
			t.Fatal(items, f, e)
		}
	}
}
