package est_test

import (
	"math"
	"math/big"
	"math/rand"
	"testing"

	"windhover/api"
	"windhover/est"
)

const (
	most  = math.MaxInt
	least = math.MinInt
)

// says is a measure that is there, if off is not below 0.
func says(x, off int) api.Measure { return api.Measure{Ok: true, X: x, Err: off} }

// mute is a measure that is not there.
func mute() api.Measure { return api.Measure{} }

// mutes are measures that are not there, for either reason, and for both.
func mutes() []api.Measure {
	var list []api.Measure
	for _, x := range []int{least, -7, 0, 7, most} {
		for _, off := range []int{0, 1, 100, most} {
			list = append(list, api.Measure{X: x, Err: off})
		}
		for _, off := range []int{-1, -2, -100, least + 1, least} {
			list = append(list, api.Measure{X: x, Err: off}, says(x, off))
		}
	}
	return list
}

// ends are numbers at the ends of an int, about 0, and between.
func ends() []int {
	return []int{
		least, least + 1, least + 2, least / 2, least/2 - 1, -1 << 32, -10, -3, -2, -1,
		0, 1, 2, 3, 10, 1 << 32, most / 2, most/2 + 1, most - 2, most - 1, most,
	}
}

// axis is the spans of a place and a velocity.
func axis(lo, hi, a, b int) api.Axis {
	return api.Axis{P: api.Span{Lo: lo, Hi: hi}, V: api.Span{Lo: a, Hi: b}}
}

// tick is what a Step of a filter is given.
type tick struct {
	acc, dev int
	stand    bool
	p, v     api.Measure
}

// seen is what a filter tells.
type seen struct {
	axis   api.Axis
	pm, vm int
	good   bool
	jumps  int
}

func look(f *est.Filter) seen {
	p, v := f.Middle()
	return seen{f.Axis(), p, v, f.Good(), f.Jumps()}
}

func step(f *est.Filter, k tick) seen {
	f.Step(k.acc, k.dev, k.stand, k.p, k.v)
	return look(f)
}

// fresh is a filter that there must be.
func fresh(t *testing.T, stale int) *est.Filter {
	t.Helper()
	f, e := est.New(stale)
	if f == nil || e != api.OK {
		t.Fatalf("New(%d): %v, %v", stale, f, e)
	}
	return f
}

// knowing is a filter that began to know these measures' spans.
func knowing(t *testing.T, stale int, p, v api.Measure) *est.Filter {
	t.Helper()
	f := fresh(t, stale)
	f.Step(0, 0, false, p, v)
	if !f.Good() {
		t.Fatalf("New(%d) knows nothing behind %v, %v", stale, p, v)
	}
	return f
}

func exact(x int) *big.Int { return big.NewInt(int64(x)) }

// kept is chapter 1's 'kept within an int'.
func kept(x *big.Int) int {
	if x.Cmp(exact(most)) > 0 {
		return most
	}
	if x.Cmp(exact(least)) < 0 {
		return least
	}
	return int(x.Int64())
}

// sum adds numbers one by one, from the left, each time kept within an int.
func sum(first int, more ...*big.Int) int {
	for _, x := range more {
		first = kept(new(big.Int).Add(exact(first), x))
	}
	return first
}

func less(x int) *big.Int { return new(big.Int).Neg(exact(x)) }

// clerk reckons a filter by the document's words, in numbers of any size, from the step in which each measure was there last.
type clerk struct {
	stale int
	now   int
	began bool
	a     api.Axis
	heard [2]int
	jumps int
}

// there is the document's word; silent is its contrary.
func there(m api.Measure) bool { return m.Ok && !(m.Err < 0) }

func spanOf(m api.Measure) api.Span {
	return api.Span{Lo: sum(m.X, less(m.Err)), Hi: sum(m.X, exact(m.Err))}
}

func (c *clerk) cut(s *api.Span, m api.Measure, which int) {
	if !there(m) {
		return
	}
	c.heard[which] = c.now
	told := spanOf(m)
	if told.Lo > s.Hi || s.Lo > told.Hi {
		c.jumps++
		*s = told
		return
	}
	if told.Lo > s.Lo {
		s.Lo = told.Lo
	}
	if told.Hi < s.Hi {
		s.Hi = told.Hi
	}
}

func (c *clerk) goOn(k tick) {
	dev := k.dev
	if dev < 0 {
		dev = 0
	}
	was := c.a.P
	c.a.V.Lo = sum(c.a.V.Lo, exact(k.acc), less(dev))
	c.a.V.Hi = sum(c.a.V.Hi, exact(k.acc), exact(dev))
	c.a.P.Lo = sum(c.a.P.Lo, exact(c.a.V.Lo))
	c.a.P.Hi = sum(c.a.P.Hi, exact(c.a.V.Hi))
	if !k.stand {
		return
	}
	if c.a.V.Lo > 0 {
		c.a.V.Lo = 0
	}
	if c.a.V.Hi < 0 {
		c.a.V.Hi = 0
	}
	if c.a.P.Lo > was.Lo {
		c.a.P.Lo = was.Lo
	}
	if c.a.P.Hi < was.Hi {
		c.a.P.Hi = was.Hi
	}
}

func (c *clerk) step(k tick) seen {
	c.now++
	switch {
	case c.began:
		c.goOn(k)
		c.cut(&c.a.P, k.p, 0)
		c.cut(&c.a.V, k.v, 1)
	case there(k.p) && there(k.v):
		c.began, c.heard = true, [2]int{c.now, c.now}
		c.a = api.Axis{P: spanOf(k.p), V: spanOf(k.v)}
	}
	return c.tell()
}

func middleOf(s api.Span) int {
	twice := new(big.Int).Add(exact(s.Lo), exact(s.Hi))
	// Div by a number above 0 rounds towards below.
	return int(twice.Div(twice, big.NewInt(2)).Int64())
}

func (c *clerk) tell() seen {
	if !c.began {
		return seen{}
	}
	good := c.now-c.heard[0] <= c.stale && c.now-c.heard[1] <= c.stale
	return seen{c.a, middleOf(c.a.P), middleOf(c.a.V), good, min(c.jumps, 65535)}
}

// follow holds a filter against the clerk over a script.
func follow(t *testing.T, stale int, script ...tick) {
	t.Helper()
	f, c := fresh(t, stale), &clerk{stale: stale}
	for i, k := range script {
		if got, want := step(f, k), c.step(k); got != want {
			t.Fatalf("New(%d), step %d of %+v: %+v, not %+v", stale, i, script, got, want)
		}
	}
}

// someNumber is a number at random: small, near an end, or any.
func someNumber(r *rand.Rand) int {
	switch r.Intn(6) {
	case 0:
		return ends()[r.Intn(len(ends()))]
	case 1:
		return int(r.Uint64()) >> r.Intn(64)
	}
	return r.Intn(41) - 20
}

// someMeasure is a measure at random; one that is not there has numbers all the same.
func someMeasure(r *rand.Rand) api.Measure {
	return api.Measure{Ok: r.Intn(3) > 0, X: someNumber(r), Err: max(someNumber(r), -1)}
}

// someScript is a script at random, with all numbers of it, or with small ones alone, so that spans stay narrow.
func someScript(r *rand.Rand) []tick {
	var script []tick
	wild := r.Intn(2) == 0
	for range 1 + r.Intn(20) {
		k := tick{someNumber(r), someNumber(r), r.Intn(3) == 0, someMeasure(r), someMeasure(r)}
		if !wild {
			k.acc, k.dev = r.Intn(7)-3, r.Intn(5)-1
			k.p = api.Measure{Ok: r.Intn(3) > 0, X: r.Intn(81) - 40, Err: r.Intn(20) - 1}
			k.v = api.Measure{Ok: r.Intn(3) > 0, X: r.Intn(21) - 10, Err: r.Intn(8) - 1}
		}
		script = append(script, k)
	}
	return script
}

// P13.2 to P13.4: all rows of 'Examples' of a filter.
func TestExamples(t *testing.T) {
	f := fresh(t, 2)
	for i, row := range []struct {
		tick
		axis  api.Axis
		good  bool
		jumps int
	}{
		{tick{0, 0, false, says(100, 10), mute()}, api.Axis{}, false, 0},
		{tick{0, 0, false, says(100, 10), says(5, 1)}, axis(90, 110, 4, 6), true, 0},
		{tick{2, 1, false, mute(), mute()}, axis(95, 119, 5, 9), true, 0},
		{tick{0, 0, false, says(130, 12), says(6, 1)}, axis(118, 128, 5, 7), true, 0},
		{tick{0, 0, false, says(90, 5), mute()}, axis(85, 95, 5, 7), true, 1},
		{tick{0, 1, true, mute(), mute()}, axis(85, 103, 0, 8), true, 1},
		{tick{0, 0, false, says(100, 100), mute()}, axis(85, 111, 0, 8), false, 1},
	} {
		got := step(f, row.tick)
		want := seen{row.axis, middleOf(row.axis.P), middleOf(row.axis.V), row.good, row.jumps}
		if got != want {
			t.Fatalf("row %d: %+v, not %+v", i, got, want)
		}
	}
}

// P13.1
func TestNew(t *testing.T) {
	for stale, may := range map[int]bool{
		least: false, least + 1: false, -65536: false, -2: false, -1: false, 0: false,
		1: true, 2: true, 400: true, 65535: true, 65536: true, 1 << 32: true, most - 1: true, most: true,
	} {
		f, e := est.New(stale)
		c, ce := est.NewCompass(stale)
		if !may {
			if f != nil || e != api.ErrArg || c != nil || ce != api.ErrArg {
				t.Errorf("New, NewCompass(%d): %v, %v and %v, %v", stale, f, e, c, ce)
			}
			continue
		}
		if f == nil || e != api.OK || c == nil || ce != api.OK {
			t.Fatalf("New, NewCompass(%d): %v, %v and %v, %v", stale, f, e, c, ce)
		}
		if look(f) != (seen{}) || point(c) != (pointed{}) {
			t.Errorf("New, NewCompass(%d) know: %+v, %+v", stale, look(f), point(c))
		}
	}
}

// P13.2, P13.3: a filter knows nothing until both measures are there in one step, whatever else it is told.
func TestKnowsNothing(t *testing.T) {
	for _, k := range []tick{{}, {5, 3, false, mute(), mute()}, {most, most, true, mute(), mute()}, {least, least, true, mute(), mute()}} {
		for _, silent := range mutes() {
			f := fresh(t, 1)
			for range 3 {
				for _, m := range []tick{
					{k.acc, k.dev, k.stand, silent, silent},
					{k.acc, k.dev, k.stand, says(100, 10), silent},
					{k.acc, k.dev, k.stand, silent, says(5, 1)},
				} {
					if got := step(f, m); got != (seen{}) {
						t.Fatalf("%+v: %+v", m, got)
					}
				}
			}
			// That the measures were silent ahead of it does not count.
			want := seen{axis(90, 110, 4, 6), 100, 5, true, 0}
			if got := step(f, tick{k.acc, k.dev, k.stand, says(100, 10), says(5, 1)}); got != want {
				t.Fatalf("begins to know by %+v: %+v", k, got)
			}
		}
	}
}

// P13.2: what a filter begins to know are the measures' spans, at all numbers, and neither acc nor dev nor stand touches them.
func TestBeginsToKnow(t *testing.T) {
	for _, row := range []struct {
		p, v api.Measure
		want api.Axis
	}{
		{says(0, 0), says(0, 0), axis(0, 0, 0, 0)},
		{says(-3, 0), says(7, 2), axis(-3, -3, 5, 9)},
		{says(most, 5), says(least, 5), axis(most-5, most, least, least+5)},
		{says(most-5, 5), says(least+5, 5), axis(most-10, most, least, least+10)},
		{says(most-4, 5), says(least+4, 5), axis(most-9, most, least, least+9)},
		{says(0, most), says(-1, most), axis(-most, most, least, most-1)},
		{says(1, most), says(-2, most), axis(1-most, most, least, most-2)},
		{says(most, most), says(least, most), axis(0, most, least, -1)},
		{says(most, 0), says(least, 0), axis(most, most, least, least)},
	} {
		for _, k := range []tick{{}, {acc: 9, dev: 4}, {acc: -9, dev: 4, stand: true}, {acc: most, dev: most, stand: true}, {acc: least, dev: least}} {
			k.p, k.v = row.p, row.v
			want := seen{row.want, middleOf(row.want.P), middleOf(row.want.V), true, 0}
			if got := step(fresh(t, 1), k); got != want {
				t.Errorf("%+v: %+v, not %+v", k, got, want)
			}
		}
	}
}

// P13.2: of measures that are not there no number is looked at: not to begin with, not to cut with.
func TestNotThere(t *testing.T) {
	for _, silent := range mutes() {
		f := knowing(t, 1, says(100, 10), says(5, 1))
		want := seen{axis(94, 116, 4, 6), 105, 5, true, 0}
		if got := step(f, tick{p: silent, v: silent}); got != want {
			t.Errorf("%v: %+v, not %+v", silent, got, want)
		}
		want = seen{axis(98, 122, 4, 6), 110, 5, false, 0}
		if got := step(f, tick{p: silent, v: silent}); got != want {
			t.Errorf("%v twice: %+v, not %+v", silent, got, want)
		}
	}
}

// P13.2: how a filter goes on without a measure; dev below 0 counts as 0.
func TestGoesOn(t *testing.T) {
	for _, row := range []struct {
		acc, dev int
		want     api.Axis
	}{
		{0, 0, axis(94, 116, 4, 6)}, {0, -1, axis(94, 116, 4, 6)}, {0, -100, axis(94, 116, 4, 6)}, {0, least, axis(94, 116, 4, 6)},
		{0, 1, axis(93, 117, 3, 7)}, {0, 10, axis(84, 126, -6, 16)},
		{3, 0, axis(97, 119, 7, 9)}, {3, -2, axis(97, 119, 7, 9)}, {3, 2, axis(95, 121, 5, 11)},
		{-9, 0, axis(85, 107, -5, -3)}, {-9, least, axis(85, 107, -5, -3)}, {-9, 4, axis(81, 111, -9, 1)},
		{most, 0, axis(most, most, most, most)}, {most, 3, axis(most, most, most-3, most)}, {most, most, axis(90, most, 0, most)},
		{most - 5, 0, axis(most, most, most-1, most)}, {most - 100, 2, axis(most-8, most, most-98, most-92)},
		{least, 0, axis(least+94, least+116, least+4, least+6)}, {least, 5, axis(least+90, least+121, least, least+11)},
		{least, most, axis(least+90, 115, least, 5)}, {0, most, axis(94-most, most, 4-most, most)},
	} {
		f := knowing(t, 5, says(100, 10), says(5, 1))
		if f.Step(row.acc, row.dev, false, mute(), mute()); f.Axis() != row.want {
			t.Errorf("acc %d, dev %d: %v, not %v", row.acc, row.dev, f.Axis(), row.want)
		}
	}
}

// P13.2: all edges of acc and dev, from velocities and places at an int's ends, held against the clerk: sums stop one by one, from the left.
func TestGoesOnAtTheEnds(t *testing.T) {
	for _, x := range ends() {
		for _, acc := range ends() {
			for _, dev := range ends() {
				for _, stand := range []bool{false, true} {
					first := tick{p: says(x, 3), v: says(x, 2)}
					other := tick{p: says(least-x, 1), v: says(x, most)}
					k := tick{acc: acc, dev: dev, stand: stand}
					follow(t, 3, first, k, k)
					follow(t, 3, other, k, k)
				}
			}
		}
	}
}

// P13.2: X and Err at an int's ends, as what a filter begins with, and as what it is cut with.
func TestMeasuresAtTheEnds(t *testing.T) {
	for _, x := range ends() {
		for _, off := range ends() {
			for _, y := range ends() {
				m := says(x, off)
				follow(t, 1, tick{p: m, v: says(y, 1)}, tick{acc: y, p: says(y, 3), v: m}, tick{stand: true, p: m, v: m})
				follow(t, 1, tick{p: says(y, 4), v: says(0, 1)}, tick{p: m}, tick{v: m})
			}
		}
	}
}

// P13.2: stand, with a velocity's span below, around and above 0, and at it.
func TestStand(t *testing.T) {
	for _, row := range []struct {
		acc, dev int
		v        api.Measure
		moved    api.Axis // without stand
		stood    api.Axis
	}{
		{0, 0, says(5, 1), axis(94, 116, 4, 6), axis(90, 116, 0, 6)},                  // above: up
		{0, 0, says(-5, 1), axis(84, 106, -6, -4), axis(84, 110, -6, 0)},              // below: down
		{0, 0, says(0, 3), axis(87, 113, -3, 3), axis(87, 113, -3, 3)},                // around
		{0, 0, says(2, 2), axis(90, 114, 0, 4), axis(90, 114, 0, 4)},                  // from just 0 on
		{0, 0, says(-2, 2), axis(86, 110, -4, 0), axis(86, 110, -4, 0)},               // to just 0
		{0, 0, says(3, 2), axis(91, 115, 1, 5), axis(90, 115, 0, 5)},                  // from just above 0 on
		{0, 0, says(-3, 2), axis(85, 109, -5, -1), axis(85, 110, -5, 0)},              // to just below 0
		{0, 0, says(0, 0), axis(90, 110, 0, 0), axis(90, 110, 0, 0)},                  // just 0
		{9, 2, says(-5, 1), axis(91, 117, 1, 7), axis(90, 117, 0, 7)},                 // below, and then above
		{-9, 2, says(5, 1), axis(83, 109, -7, -1), axis(83, 110, -7, 0)},              // above, and then below
		{500, -8, says(0, 0), axis(590, 610, 500, 500), axis(90, 610, 0, 500)},        // far up
		{-500, 0, says(0, 0), axis(-410, -390, -500, -500), axis(-410, 110, -500, 0)}, // far down
	} {
		for stand, want := range map[bool]api.Axis{false: row.moved, true: row.stood} {
			f := knowing(t, 5, says(100, 10), row.v)
			if f.Step(row.acc, row.dev, stand, mute(), mute()); f.Axis() != want {
				t.Errorf("%+v, stand %v: %v, not %v", row, stand, f.Axis(), want)
			}
		}
	}
}

// P13.2: where a filter stands, the measures cut behind it; the place that it holds is the one ahead of the step, not the first one.
func TestStandAndCut(t *testing.T) {
	f := knowing(t, 5, says(100, 10), says(5, 1))
	for i, row := range []struct {
		tick
		want  api.Axis
		jumps int
	}{
		{tick{stand: true, p: mute(), v: mute()}, axis(90, 116, 0, 6), 0},
		{tick{stand: true, p: mute(), v: says(3, 1)}, axis(90, 122, 2, 4), 0},
		{tick{stand: true, p: mute(), v: mute()}, axis(90, 126, 0, 4), 0},
		{tick{stand: true, p: says(90, 0), v: says(0, 0)}, axis(90, 90, 0, 0), 0},
		{tick{acc: 7, p: mute(), v: mute()}, axis(97, 97, 7, 7), 0},
		{tick{stand: true, p: says(96, 1), v: says(1, 1)}, axis(97, 97, 0, 2), 0},
		{tick{acc: 50, stand: true, p: says(97, 0), v: says(0, 0)}, axis(97, 97, 0, 0), 0}, // without stand: two jumps
		{tick{acc: 50, p: says(97, 0), v: says(0, 0)}, axis(97, 97, 0, 0), 2},
		{tick{acc: -50, stand: true, p: says(97, 0), v: says(0, 0)}, axis(97, 97, 0, 0), 2},
		{tick{acc: -50, p: says(97, 0), v: says(0, 0)}, axis(97, 97, 0, 0), 4},
	} {
		f.Step(row.acc, row.dev, row.stand, row.p, row.v)
		if f.Axis() != row.want || f.Jumps() != row.jumps {
			t.Fatalf("step %d: %v, %d, not %v, %d", i, f.Axis(), f.Jumps(), row.want, row.jumps)
		}
	}
}

// cuts are how a span from 10 to 20 and a measure's may lie to each other, and what is left.
func cuts() []struct {
	m     api.Measure
	want  api.Span
	jumps int
} {
	return []struct {
		m     api.Measure
		want  api.Span
		jumps int
	}{
		{says(15, 5), api.Span{Lo: 10, Hi: 20}, 0},    // the same
		{says(15, 6), api.Span{Lo: 10, Hi: 20}, 0},    // lies within the measure's
		{says(15, 1000), api.Span{Lo: 10, Hi: 20}, 0}, // far within it
		{says(15, most), api.Span{Lo: 10, Hi: 20}, 0}, // and wherever
		{says(15, 4), api.Span{Lo: 11, Hi: 19}, 0},    // holds the measure's
		{says(17, 0), api.Span{Lo: 17, Hi: 17}, 0},    // holds a point
		{says(12, 5), api.Span{Lo: 10, Hi: 17}, 0},    // the upper end is cut
		{says(18, 5), api.Span{Lo: 13, Hi: 20}, 0},    // the lower one
		{says(5, 5), api.Span{Lo: 10, Hi: 10}, 0},     // touched in one point
		{says(25, 5), api.Span{Lo: 20, Hi: 20}, 0},    // and at the other end
		{says(10, 0), api.Span{Lo: 10, Hi: 10}, 0},    // by a point
		{says(20, 0), api.Span{Lo: 20, Hi: 20}, 0},    // and by one at the other end
		{says(4, 5), api.Span{Lo: -1, Hi: 9}, 1},      // missed by one
		{says(26, 5), api.Span{Lo: 21, Hi: 31}, 1},    // and on the other side
		{says(9, 0), api.Span{Lo: 9, Hi: 9}, 1},       // by a point
		{says(21, 0), api.Span{Lo: 21, Hi: 21}, 1},    // and on the other side
		{says(-70, 3), api.Span{Lo: -73, Hi: -67}, 1}, // far off
		{says(least, 9), api.Span{Lo: least, Hi: least + 9}, 1},
		{says(most, 9), api.Span{Lo: most - 9, Hi: most}, 1},
		{says(least, most), api.Span{Lo: least, Hi: -1}, 1},
		{says(most, most), api.Span{Lo: 10, Hi: 20}, 0},
		{api.Measure{X: 15, Err: 1}, api.Span{Lo: 10, Hi: 20}, 0}, // silent
		{says(15, -1), api.Span{Lo: 10, Hi: 20}, 0},               // silent
	}
}

// P13.2, P13.4: each way in which a span and a measure's may lie, of the place alone, of the velocity alone, and of both in one step.
func TestCut(t *testing.T) {
	for _, row := range cuts() {
		f := knowing(t, 5, says(15, 5), says(0, 0))
		f.Step(0, 0, false, row.m, mute())
		if want := (api.Axis{P: row.want}); f.Axis() != want || f.Jumps() != row.jumps {
			t.Errorf("place, %v: %v, %d", row.m, f.Axis(), f.Jumps())
		}
		f = knowing(t, 5, says(0, 0), says(15, 5))
		f.Step(0, 0, false, mute(), row.m)
		if want := (api.Axis{P: api.Span{Lo: 10, Hi: 20}, V: row.want}); f.Axis() != want || f.Jumps() != row.jumps {
			t.Errorf("velocity, %v: %v, %d", row.m, f.Axis(), f.Jumps())
		}
		for _, other := range cuts() {
			f = knowing(t, 5, says(0, 0), says(15, 5)) // so that the place is from 10 to 20 too, when it is cut
			f.Step(0, 0, false, other.m, row.m)
			if want := (api.Axis{P: other.want, V: row.want}); f.Axis() != want || f.Jumps() != row.jumps+other.jumps {
				t.Errorf("both, %v and %v: %v, %d", other.m, row.m, f.Axis(), f.Jumps())
			}
		}
	}
}

// P13.2: the place goes on by the velocity as it was ahead of its cut; what the velocity is cut to counts from the next step on.
func TestPlaceSeesTheVelocityUncut(t *testing.T) {
	f := knowing(t, 5, says(0, 0), says(15, 5))
	for i, row := range []struct {
		tick
		want  api.Axis
		jumps int
	}{
		{tick{p: mute(), v: says(20, 0)}, axis(10, 20, 20, 20), 0},
		{tick{p: mute(), v: mute()}, axis(30, 40, 20, 20), 0},
		{tick{p: says(60, 0), v: says(0, 0)}, axis(60, 60, 0, 0), 1}, // the place's end is just 60; the velocity jumps behind it
		{tick{p: says(60, 0), v: says(0, 0)}, axis(60, 60, 0, 0), 1},
		{tick{dev: 5, p: says(66, 0), v: says(5, 0)}, axis(66, 66, 5, 5), 2},
	} {
		f.Step(row.acc, row.dev, row.stand, row.p, row.v)
		if f.Axis() != row.want || f.Jumps() != row.jumps {
			t.Fatalf("step %d: %v, %d, not %v, %d", i, f.Axis(), f.Jumps(), row.want, row.jumps)
		}
	}
}

// P13.4: Jumps comes to 65535 and stays there: by places, by velocities, and by both at once, through steps without one.
func TestJumpsStop(t *testing.T) {
	for _, who := range []struct{ place, velocity bool }{{true, false}, {false, true}, {true, true}} {
		f := knowing(t, 1, says(0, 0), says(0, 0))
		want := 0
		for n := 1; n <= 70000; n++ {
			p, v := mute(), mute()
			if who.place {
				p = says(10*(n%2+1), 0)
				want++
			}
			if who.velocity {
				v = says(n%2+1, 0)
				want++
			}
			f.Step(0, 0, false, p, v)
			if f.Jumps() != min(want, 65535) {
				t.Fatalf("%+v: %d behind %d", who, f.Jumps(), want)
			}
		}
		f.Step(0, 0, false, says(0, most), says(0, most))
		f.Step(0, 0, false, mute(), mute())
		if f.Jumps() != 65535 {
			t.Errorf("%+v: %d in the end", who, f.Jumps())
		}
	}
}

// P13.4: two jumps of one step, of which one only is counted still.
func TestJumpsStopWithinAStep(t *testing.T) {
	f := knowing(t, 1, says(0, 0), says(0, 0))
	for n := 1; n <= 65534; n++ {
		f.Step(0, 0, false, says(n, 0), mute())
	}
	if f.Jumps() != 65534 {
		t.Fatalf("%d", f.Jumps())
	}
	f.Step(0, 0, false, says(-9, 0), says(40, 0))
	if f.Jumps() != 65535 || f.Axis() != axis(-9, -9, 40, 40) {
		t.Errorf("%d, %v", f.Jumps(), f.Axis())
	}
	f.Step(0, 0, false, says(-9, 0), says(-40, 0))
	if f.Jumps() != 65535 || f.Axis() != axis(-9, -9, -40, -40) {
		t.Errorf("%d, %v", f.Jumps(), f.Axis())
	}
}

// P13.4: a silence of just stale steps is good, and one of one more is not: of the place alone, of the velocity alone, of both; counted from when the filter began to know, and again from each measure on that is there.
func TestSilence(t *testing.T) {
	wide := says(0, most)
	for _, stale := range []int{1, 2, 3, 40, 400, 65535, 70000} {
		for _, k := range []tick{{p: wide}, {v: wide}, {}} {
			f := fresh(t, stale)
			for range min(stale+2, 500) { // steps ahead of what it knows are no silence
				f.Step(0, 0, false, k.p, k.v)
			}
			for round := range 2 {
				f.Step(0, 0, false, says(0, 5), says(0, 5))
				for n := 1; n <= stale; n++ {
					f.Step(0, 0, false, k.p, k.v)
					if !f.Good() {
						t.Fatalf("New(%d), %+v, round %d: not good behind %d", stale, k, round, n)
					}
				}
				for n := range 3 {
					f.Step(0, 0, false, k.p, k.v)
					if f.Good() {
						t.Fatalf("New(%d), %+v, round %d: good %d behind", stale, k, round, n)
					}
				}
			}
		}
	}
}

// P13.4: each measure has a silence of its own: where they take turns neither is silent for long, and one that is there does not mend the other's.
func TestSilenceOfEach(t *testing.T) {
	wide, f := says(0, most), knowing(t, 2, says(0, 5), says(0, 5))
	for i, row := range []struct {
		p, v api.Measure
		good bool
	}{
		{wide, mute(), true}, {mute(), wide, true}, {wide, mute(), true}, {mute(), wide, true}, {wide, mute(), true},
		{mute(), mute(), true},    // 1, 2
		{mute(), wide, true},      // 2, 0
		{mute(), wide, false},     // 3, 0
		{mute(), mute(), false},   // 4, 1
		{wide, mute(), true},      // 0, 2
		{wide, mute(), false},     // 0, 3
		{mute(), mute(), false},   // 1, 4
		{mute(), mute(), false},   // 2, 5
		{mute(), wide, false},     // 3, 0
		{wide, mute(), true},      // 0, 1
		{says(0, -1), wide, true}, // 1, 0: a measure whose Err is below 0 is silent
		{says(0, -1), wide, true},
		{says(0, -1), wide, false},
		{says(0, 0), says(999, 0), true}, // a jump is no silence
	} {
		f.Step(0, 0, false, row.p, row.v)
		if f.Good() != row.good {
			t.Fatalf("step %d: %v", i, f.Good())
		}
	}
}

// P13.3, P13.4: a filter that is not good any more knows all the same; what it tells goes on.
func TestNotGoodIsKnown(t *testing.T) {
	f := knowing(t, 1, says(100, 10), says(5, 1))
	for n := 1; n <= 10; n++ {
		want := seen{axis(90+4*n, 110+6*n, 4, 6), 100 + 5*n, 5, n <= 1, 0}
		if got := step(f, tick{}); got != want {
			t.Fatalf("step %d: %+v, not %+v", n, got, want)
		}
	}
	want := seen{axis(144, 152, 4, 5), 148, 4, true, 0}
	if got := step(f, tick{p: says(148, 4), v: says(4, 1)}); got != want {
		t.Errorf("again: %+v, not %+v", got, want)
	}
}

// P13.3: Middle is rounded down, below 0 too, and exact where an int does not hold the ends' sum.
func TestMiddle(t *testing.T) {
	for _, row := range []struct {
		m    api.Measure
		cut  api.Measure
		want int
	}{
		{says(0, 0), mute(), 0}, {says(7, 3), mute(), 7}, {says(-7, 3), mute(), -7},
		{says(1, 1), says(2, 1), 1}, {says(0, 1), says(1, 1), 0}, {says(-1, 1), says(0, 1), -1}, {says(-2, 1), says(-1, 1), -2}, {says(-4, 3), says(-1, 3), -3},
		{says(most, 0), mute(), most}, {says(most, 1), mute(), most - 1}, {says(most, 2), mute(), most - 1}, {says(most, 3), mute(), most - 2},
		{says(least, 0), mute(), least}, {says(least, 1), mute(), least}, {says(least, 2), mute(), least + 1}, {says(least, 3), mute(), least + 1},
		{says(0, most), mute(), 0}, {says(-1, most), mute(), -1}, {says(-2, most), mute(), -2}, {says(1, most), mute(), 0}, {says(2, most), mute(), 1},
		{says(most, most), mute(), most / 2}, {says(least, most), mute(), least/2 - 1}, {says(-1, most), says(0, most), -1},
	} {
		f := knowing(t, 1, row.m, says(0, 0))
		f.Step(0, 0, false, row.cut, mute())
		if p, v := f.Middle(); p != row.want || v != 0 {
			t.Errorf("place %v, %v: %d, %d, not %d", row.m, row.cut, p, v, row.want)
		}
		f = knowing(t, 1, says(0, 0), row.m)
		f.Step(0, 0, false, says(77, 0), row.cut)
		if p, v := f.Middle(); p != 77 || v != row.want {
			t.Errorf("velocity %v, %v: %d, %d, not %d", row.m, row.cut, p, v, row.want)
		}
	}
}

// near is a number at random that is off by no more than off from x, kept within an int, as chapter 1 says.
func near(r *rand.Rand, x, off int) int {
	way := new(big.Int).Rand(r, new(big.Int).Add(new(big.Int).Lsh(exact(off), 1), big.NewInt(1)))
	switch r.Intn(4) {
	case 0:
		return sum(x, exact(off))
	case 1:
		return sum(x, less(off))
	}
	return kept(way.Add(way, exact(x)).Sub(way, exact(off)))
}

// someOff is how far a measure may be off, at random.
func someOff(r *rand.Rand, wild bool) int {
	if wild {
		return int(r.Uint64()>>1) >> r.Intn(63)
	}
	return r.Intn(30)
}

// P13.7: the truth lies in the spans as long as it and the measures keep their bounds, and nothing jumps; at an int's ends the truth's sums stop as well.
func TestTruth(t *testing.T) {
	r := rand.New(rand.NewSource(131))
	for script := range 4000 {
		wild := script%4 == 0
		p, v := r.Intn(2001)-1000, r.Intn(41)-20
		if wild {
			p, v = someNumber(r), someNumber(r)
		}
		f := fresh(t, 3)
		for i := range 60 {
			k := tick{acc: r.Intn(21) - 10, dev: someOff(r, wild), stand: r.Intn(4) == 0}
			if wild {
				k.acc = someNumber(r)
			}
			if i > 0 && k.stand && r.Intn(2) == 0 {
				v = 0
			} else if i > 0 {
				v = near(r, sum(v, exact(k.acc)), k.dev)
				p = sum(p, exact(v))
			}
			if off := someOff(r, wild); i == 0 || r.Intn(4) == 0 {
				k.p = says(near(r, p, off), off)
			}
			if off := someOff(r, wild); i == 0 || r.Intn(4) == 0 {
				k.v = says(near(r, v, off), off)
			}
			f.Step(k.acc, k.dev, k.stand, k.p, k.v)
			a := f.Axis()
			if a.P.Lo > p || a.P.Hi < p || a.V.Lo > v || a.V.Hi < v || f.Jumps() != 0 {
				t.Fatalf("script %d, step %d, %+v: %d, %d is not in %v (jumps %d)", script, i, k, p, v, a, f.Jumps())
			}
		}
	}
}

// width is how wide a span is; an int may not hold it.
func width(s api.Span) *big.Int { return new(big.Int).Sub(exact(s.Hi), exact(s.Lo)) }

// P13.7: no span is wider than the measure that it was just cut with, nor is one ever the wrong way round.
func TestNoWider(t *testing.T) {
	r := rand.New(rand.NewSource(132))
	for range 5000 {
		f := fresh(t, 1)
		for i, k := range someScript(r) {
			a := step(f, k).axis
			if there(k.p) && width(a.P).Cmp(width(spanOf(k.p))) > 0 || there(k.v) && width(a.V).Cmp(width(spanOf(k.v))) > 0 {
				t.Fatalf("step %d, %+v: %v", i, k, a)
			}
			if a.P.Lo > a.P.Hi || a.V.Lo > a.V.Hi {
				t.Fatalf("step %d, %+v: %v", i, k, a)
			}
		}
	}
}

// P13.2 to P13.4: all scripts of five steps by which measures are there, and whether it stands, held against the clerk.
func TestAllScripts(t *testing.T) {
	places := [5]api.Measure{says(100, 10), says(112, 6), says(90, 3), says(99, 20), says(130, 1)}
	speeds := [5]api.Measure{says(5, 2), says(-3, 6), says(4, 1), says(20, 9), says(6, 1)}
	for who := range 1 << 15 {
		var script []tick
		for i := range 5 {
			k := tick{acc: 3*i - 4, dev: i, stand: who>>(3*i)&1 == 1, p: places[i], v: speeds[i]}
			k.p.Ok, k.v.Ok = who>>(3*i+1)&1 == 1, who>>(3*i+2)&1 == 1
			script = append(script, k)
		}
		follow(t, 1+who%3, script...)
	}
}

// P13.1 to P13.4: any script, held against the document's words.
func TestAnyScript(t *testing.T) {
	r := rand.New(rand.NewSource(133))
	for range 20000 {
		follow(t, []int{1, 2, 3, 5, most - 1, most}[r.Intn(6)], someScript(r)...)
	}
}

// P13.3, P13.4: what is asked may be asked at any time, and however often; what is not a Step changes nothing.
func TestAsking(t *testing.T) {
	r := rand.New(rand.NewSource(134))
	for range 300 {
		asked, left := fresh(t, 2), fresh(t, 2)
		for _, k := range someScript(r) {
			asked.Step(k.acc, k.dev, k.stand, k.p, k.v)
			left.Step(k.acc, k.dev, k.stand, k.p, k.v)
			for range 5 {
				a := asked.Axis()
				a.P.Lo, a.V.Hi = 1, 1
				look(asked)
			}
		}
		if look(asked) != look(left) {
			t.Fatalf("%+v, %+v", look(asked), look(left))
		}
	}
}

// R2: filters know nothing of each other.
func TestApart(t *testing.T) {
	r := rand.New(rand.NewSource(135))
	a, b := fresh(t, 1), fresh(t, 3)
	ca, cb := &clerk{stale: 1}, &clerk{stale: 3}
	for i := range 200 {
		for _, k := range someScript(r) {
			if r.Intn(2) == 0 {
				step(a, k)
				ca.step(k)
			} else {
				step(b, k)
				cb.step(k)
			}
			if look(a) != ca.tell() || look(b) != cb.tell() {
				t.Fatalf("script %d, %+v: %+v, %+v", i, k, look(a), look(b))
			}
		}
	}
	if n := fresh(t, 1); look(n) != (seen{}) {
		t.Errorf("a new one behind them: %+v", look(n))
	}
}

// R2: a nil Filter answers zero values to each call, and does nothing.
func TestNil(t *testing.T) {
	var none *est.Filter
	if look(none) != (seen{}) {
		t.Errorf("%+v", look(none))
	}
	for _, x := range ends() {
		for _, stand := range []bool{false, true} {
			for _, m := range []api.Measure{mute(), says(x, 1), says(x, x)} {
				if got := step(none, tick{x, x, stand, m, says(0, 1)}); got != (seen{}) {
					t.Errorf("%v: %+v", m, got)
				}
			}
		}
	}
}
