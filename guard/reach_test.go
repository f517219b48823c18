package guard_test

import (
	"math/big"
	"math/rand"
	"sort"
	"testing"

	"windhover/api"
	"windhover/guard"
	"windhover/params"
)

// stop is Stop, held against the document's.
func stop(t *testing.T, v, brake int) int {
	t.Helper()
	s := guard.Stop(v, brake)
	if want := stopped(v, brake); s != want {
		t.Fatalf("Stop(%d, %d) = %d; asked for: %d", v, brake, s, want)
	}
	return s
}

// P18.1: the rows of 'Examples'.
func TestStopExamples(t *testing.T) {
	for _, c := range [][3]int{{57, 58, 0}, {58, 58, 0}, {116, 58, 58}, {120, 58, 66}, {-5, 58, 0}, {92, 58, 34}} {
		if s := stop(t, c[0], c[1]); s != c[2] {
			t.Error(c, s)
		}
	}
}

// P18.1: rows reckoned by hand: v and brake at 0, 1, below 0 and at an int's ends.
func TestStopByHand(t *testing.T) {
	for _, c := range [][3]int{
		{0, 58, 0}, {1, 58, 0}, {-1, 58, 0}, {least, 58, 0}, {least, 1, 0}, {0, 1, 0}, {1, 1, 0}, {2, 1, 1}, {3, 1, 3}, {4, 1, 6}, {5, 1, 10},
		{100, 0, 0}, {100, -1, 0}, {100, least, 0}, {most, 0, 0}, {most, -1, 0}, {most, least, 0}, {-1, -1, 0}, {least, least, 0}, {least, most, 0}, {0, 0, 0}, {1, 0, 0}, {0, least, 0},
		{59, 58, 1}, {115, 58, 57}, {117, 58, 60}, {173, 58, 172}, {174, 58, 174}, {175, 58, 177},
		{1, most, 0}, {most - 1, most, 0}, {most, most, 0}, {most, most - 1, 1}, {most, 1, most}, {most, 2, most}, {most, 1 << 62, 1<<62 - 1}, {1 << 62, 1 << 62, 0}, {1<<62 + 1, 1 << 62, 1},
		{most, 1 << 61, most}, {most, most / 2, most/2 + 2}, {most, most / 3, most},
	} {
		if s := stop(t, c[0], c[1]); s != c[2] {
			t.Errorf("Stop(%d, %d) = %d; asked for: %d", c[0], c[1], s, c[2])
		}
	}
}

// P18.1: a way is what is left of a velocity tick by tick, added up.
func TestStopAddsUp(t *testing.T) {
	for brake := 1; brake < 130; brake++ {
		for v := -3; v < 700; v++ {
			sum := 0
			for left := v - brake; left > 0; left -= brake {
				sum += left
			}
			if s := guard.Stop(v, brake); s != sum {
				t.Fatalf("Stop(%d, %d) = %d; added up: %d", v, brake, s, sum)
			}
		}
	}
}

// P18.1: v one below, at and one above a multiple of brake, whatever size both are of.
func TestStopMultiples(t *testing.T) {
	for _, brake := range append(about(2, 58, 64, 1000, 1<<31, 1<<32, 3037000500, 1<<40, 1<<61, 1<<62, most/3, most/2), 1) {
		for _, n := range about(1, 3, 100, 1<<20, 1<<31, 1<<32) {
			for _, v := range about(told(new(big.Int).Mul(whole(n), whole(brake)), 1, most-1)) {
				stop(t, v, brake)
			}
		}
	}
}

// widest is the greatest velocity whose way at a brake fits an int.
func widest(brake int) int {
	lo, hi := 1, most
	for lo < hi {
		v := lo + (hi-lo)/2 + (hi-lo)%2
		if way(v, brake).IsInt64() {
			lo = v
		} else {
			hi = v - 1
		}
	}
	return lo
}

// P18.1: the greatest way that fits an int, and the next velocity's, which stops at its end; the products are greater than an int in both.
func TestStopJustFits(t *testing.T) {
	for _, brake := range append(about(2, 58, 64, 86, 1000, 1<<20, 1<<31, 1<<32, 1<<50, 1<<60), 1) {
		v := widest(brake)
		if product := new(big.Int).Mul(whole(v/brake), whole(v)); product.IsInt64() || v == most {
			t.Fatal("no such row:", brake, v)
		}
		if s := stop(t, v, brake); whole(s).Cmp(way(v, brake)) != 0 {
			t.Errorf("Stop(%d, %d) = %d; asked for: %v", v, brake, s, way(v, brake))
		}
		for _, faster := range []int{v + 1, v + brake, most} {
			if s := stop(t, faster, brake); s != most {
				t.Errorf("Stop(%d, %d) = %d", faster, brake, s)
			}
		}
	}
	if s := stop(t, 1<<32, 1); s != 1<<31*(1<<32-1) {
		t.Error(s)
	}
	if s := stop(t, 1<<32+1, 1); s != most {
		t.Error(s)
	}
}

// P18.1: all numbers at edges, and any numbers.
func TestStopAnyNumbers(t *testing.T) {
	numbers := append(ends(), both(about(0, 58, 64, 3037000500)...)...)
	for _, v := range numbers {
		for _, brake := range numbers {
			stop(t, v, brake)
		}
	}
	r := rand.New(rand.NewSource(181))
	for range 200000 {
		stop(t, any64(r), any64(r))
		stop(t, 1+r.Intn(1<<40), 1+r.Intn(1<<20))
		stop(t, r.Intn(70000), 40+r.Intn(30))
	}
}

// sound is a list of parameters with a wind, a wait for a dead motor and a cruise.
func sound(t *testing.T, wind, dead, cruise int) ([]int, api.Margins) {
	t.Helper()
	values := params.Defaults()
	values[api.Wind], values[api.DeadTicks], values[api.Cruise] = wind, dead, cruise
	m, e := params.Margins(values)
	if e != api.OK {
		t.Fatal(values, int(e))
	}
	return values, m
}

// P18.1: it is chapter 8's way of a velocity, which stands in Lane.
func TestStopIsTheLanesWay(t *testing.T) {
	for wind := 0; wind <= 16; wind++ {
		for cruise := 1600; cruise <= 64000; cruise += 1300 {
			_, m := sound(t, wind, 2, cruise)
			lane := (stop(t, m.Fast, m.Brake)+6399)/6400 + 12*20 + 100
			if m.Lane != lane {
				t.Fatalf("wind %d, cruise %d: Lane %d; by Stop: %d", wind, cruise, m.Lane, lane)
			}
		}
	}
}

// reach is Reach, held against the document's.
func reach(t *testing.T, axes [3]api.Axis, acc [3]int, m api.Margins) api.Box {
	t.Helper()
	box := guard.Reach(axes, acc, m)
	if want := reached(axes, acc, m); box != want {
		t.Fatalf("Reach(%v, %v, %+v) = %v; asked for: %v", axes, acc, m, box, want)
	}
	return box
}

// axis is one of its four ends.
func axis(pLo, pHi, vLo, vHi int) api.Axis {
	return api.Axis{P: api.Span{Lo: pLo, Hi: pHi}, V: api.Span{Lo: vLo, Hi: vHi}}
}

// P18.2: the rows of 'Examples'; at rest, the span's ends are known to one part of a mm.
func TestReachExamples(t *testing.T) {
	m := api.Margins{Brake: 58}
	one := api.Span{Lo: -1, Hi: 1}
	if box := reach(t, [3]api.Axis{}, [3]int{}, m); box != (api.Box{X: one, Y: one, Z: api.Span{Hi: 1}}) {
		t.Error(box)
	}
	for _, c := range []struct{ at, lo, hi int }{{6400 - 126, 0, 1}, {6400 - 125, 0, 2}, {126, 0, 1}, {125, -1, 1}, {-126, -1, 0}, {-125, -1, 1}} {
		still := axis(c.at, c.at, 0, 0)
		box := reach(t, [3]api.Axis{still, still, still}, [3]int{}, m)
		if box.X != (api.Span{Lo: c.lo, Hi: c.hi}) || box.Y != box.X || box.Z != (api.Span{Hi: c.hi}) {
			t.Errorf("at rest at %d: %v", c.at, box)
		}
	}
}

// P18.2: rows reckoned by hand: axes that are unlike each other, with accelerations, jolts and speeds of both signs.
func TestReachByHand(t *testing.T) {
	m := api.Margins{Brake: 58, Jolt: 258}
	east := axis(6400, 12800, 1000, 1010) // 918 to 1112; 7318 to 13912; Stop(-660) 0, Stop(1370) 15502: 7318 to 29414
	south := axis(-100, 0, -500, -400)    // acc -64: -656 to -372; -756 to -372; Stop(914) 6750, Stop(-114) 0: -7506 to -372
	rising := axis(63000, 64000, 100, 200)
	box := reach(t, [3]api.Axis{east, south, rising}, [3]int{10, -64, 64}, m) // 356; 64356; Stop(614) 2950: 67306
	want := api.Box{X: api.Span{Lo: 1, Hi: 5}, Y: api.Span{Lo: -2, Hi: 0}, Z: api.Span{Lo: 0, Hi: 11}}
	if box != want {
		t.Error(box)
	}
	// The same axes in other places: each has its own acceleration, and a fall leaves the span at the ground.
	box = reach(t, [3]api.Axis{rising, east, south}, [3]int{64, 10, -64}, m)
	if box.Y != want.X || box.Z != (api.Span{}) || box.X != (api.Span{Lo: 9, Hi: 11}) { // 72; 63072; Stop(186) 210: 62862
		t.Error(box)
	}
	box = reach(t, [3]api.Axis{south, rising, east}, [3]int{-64, 64, 10}, m)
	if box.X != want.Y || box.Y != (api.Span{Lo: 9, Hi: 11}) || box.Z != (api.Span{Lo: 0, Hi: 5}) {
		t.Error(box)
	}
}

// P18.2: places in mm that are whole, one below and one above a whole one, with both signs; outward each time.
func TestReachOutward(t *testing.T) {
	for _, m := range []api.Margins{{Brake: 58}, {Brake: 58, Jolt: 258}, {Brake: 64, Jolt: 86}, {Brake: 48, Jolt: 430}} {
		for _, v := range both(0, 3, 91, 92, 93, 400, 16398) {
			for _, acc := range []int{0, 64, -64} {
				from := places(axis(0, 0, v, v), acc, m)
				for _, mm := range both(0, 1, 2, 100, 1<<29) {
					for _, part := range []int{-2, -1, 0, 1, 2} {
						a := axis(6400*mm+part-from.Lo, 6400*mm+part-from.Hi, v, v)
						box := reach(t, [3]api.Axis{a, a, a}, [3]int{acc, acc, acc}, m)
						want := api.Span{Lo: mm, Hi: mm}
						if part < 0 {
							want.Lo--
						}
						if part > 0 {
							want.Hi++
						}
						if box.X != want || box.Y != want || box.Z != (api.Span{Hi: max(want.Hi, 0)}) {
							t.Fatalf("%d and %d parts: %v", mm, part, box)
						}
					}
				}
			}
		}
	}
}

// P18.2: axis 2 begins at 0 wherever its Lo is, and ends at 0 at least.
func TestReachAxisTwo(t *testing.T) {
	m := api.Margins{Brake: 58} // at rest the Hi is 126 more
	for _, c := range [][2]int{{-1 << 40, 0}, {-6400 - 126, 0}, {-6400 - 125, 0}, {-127, 0}, {-126, 0}, {-125, 1}, {-124, 1}, {6400 - 126, 1}, {6400 - 125, 2}, {least, 0}, {most, most/6400 + 1}} {
		for _, lo := range []int{least, -6400, 0, c[0], 6400, most} {
			for _, vLo := range []int{least, 0, most} {
				box := reach(t, [3]api.Axis{{}, {}, axis(lo, c[0], vLo, 0)}, [3]int{}, m)
				if box.Z != (api.Span{Hi: c[1]}) {
					t.Fatalf("Hi %d, Lo %d: %v", c[0], lo, box.Z)
				}
			}
		}
	}
}

// P18.2: Brake at 0, 1, 58, 64, below 0 and at an int's ends; with none to speak of nothing is added, and u is the wider.
func TestReachBrakes(t *testing.T) {
	for _, c := range []struct{ brake, jolt, part int }{
		{0, 0, 150}, {0, 1000, 150}, {-1, 0, 151}, {-50, 9, 200}, {1, 0, 149 + 149*148/2}, {1, -149, 149}, {1, -146, 149 + 3}, {58, 0, 126}, {58, -34, 92}, {58, -33, 93}, {58, 258, 974}, {64, 0, 86 + 22}, {64, 86, 86 + 108 + 44},
		{149, 0, 1}, {150, 0, 0}, {151, 0, -1}, {151, 152, -1}, {151, 153, 0}, {1000, 0, -850},
	} {
		m := api.Margins{Brake: c.brake, Jolt: c.jolt}
		a := axis(6400*7+c.part, 6400*9-c.part, 0, 0)
		box := reach(t, [3]api.Axis{a, a, a}, [3]int{}, m)
		b := axis(6400*7+c.part-1, 6400*9-c.part+1, 0, 0)
		wider := reach(t, [3]api.Axis{b, b, b}, [3]int{}, m)
		if box.X != (api.Span{Lo: 7, Hi: 9}) || box.Y != box.X || box.Z != (api.Span{Hi: 9}) || wider.X != (api.Span{Lo: 6, Hi: 10}) || wider.Y != wider.X || wider.Z != (api.Span{Hi: 10}) {
			t.Errorf("Brake %d, Jolt %d: %v, %v", c.brake, c.jolt, box, wider)
		}
	}
}

// P18.2, R4: each sum and difference stops at an int's ends; rows reckoned by hand.
func TestReachEnds(t *testing.T) {
	m := api.Margins{Brake: 58, Jolt: 258}
	top, bottom := most/6400+1, least/6400-1 // neither is whole
	all := func(a api.Axis, acc int, m api.Margins) api.Span {
		t.Helper()
		box := reach(t, [3]api.Axis{a, a, a}, [3]int{acc, acc, acc}, m)
		if box.Y != box.X || box.Z.Hi != max(box.X.Hi, 0) {
			t.Error(box)
		}
		return box.X
	}
	for i, c := range []struct {
		a    api.Axis
		acc  int
		m    api.Margins
		want api.Span
	}{
		{axis(least, most, 0, 0), 0, m, api.Span{Lo: bottom, Hi: top}},
		{axis(0, 0, least, most), 0, m, api.Span{Lo: bottom, Hi: top}},
		{axis(0, 0, 0, 0), most, m, api.Span{Lo: most / 6400, Hi: top}},      // Lo: most less 92, and nothing to stop
		{axis(0, 0, 0, 0), least, m, api.Span{Lo: bottom, Hi: least / 6400}}, // Hi: least and 92
		{axis(0, 0, least, least), most, m, api.Span{Lo: -1, Hi: 1}},         // V and acc are -1, exactly
		{axis(0, 0, most, most), least, m, api.Span{Lo: -1, Hi: 1}},
		{axis(least, least, 0, 0), 0, m, api.Span{Lo: bottom, Hi: bottom + 1}}, // nothing wraps round to above
		{axis(most, most, 0, 0), 0, m, api.Span{Lo: top - 1, Hi: top}},
		{axis(most, least, least, most), 0, m, api.Span{Lo: bottom, Hi: top}},                                                      // places near 0, ways as long as can be
		{axis(0, 0, 0, 0), 0, api.Margins{Brake: least}, api.Span{Lo: bottom, Hi: top}},                                            // u is the greatest int
		{axis(0, 0, 5, 5), 0, api.Margins{Brake: most}, api.Span{Lo: most / 6400, Hi: least / 6400}},                               // u is 150 less the greatest
		{axis(0, 0, 0, 0), 0, api.Margins{Brake: 58, Jolt: most}, api.Span{Lo: bottom, Hi: top}},                                   // the ways stop at the end, not below 0
		{axis(0, 0, 0, 0), 0, api.Margins{Brake: 58, Jolt: least}, api.Span{Lo: -1, Hi: 1}},                                        // no way is left
		{axis(most, least, least, most), 0, api.Margins{Brake: 58, Jolt: least}, api.Span{Lo: -1, Hi: 0}},                          // -1 both times
		{axis(most, most, least, least), 0, api.Margins{Brake: 1, Jolt: least + 6401}, api.Span{Lo: -6400*6399/2/6400 - 1, Hi: 1}}, // the least int with its sign turned is the greatest: 6400 are left
		{axis(most-6399, 0, least, 0), 0, api.Margins{Brake: 150, Jolt: least + 201}, api.Span{Lo: -2, Hi: 0}},                     // 200 are left, and 50 of a way: -6450
		{axis(most-6399+50, 0, least, 0), 0, api.Margins{Brake: 150, Jolt: least + 201}, api.Span{Lo: -1, Hi: 0}},                  // -6400
		{axis(most-6399+49, 0, least, 0), 0, api.Margins{Brake: 150, Jolt: least + 201}, api.Span{Lo: -2, Hi: 0}},                  // -6401
	} {
		if got := all(c.a, c.acc, c.m); got != c.want {
			t.Errorf("%d: Reach of %v, %d, %+v: %v; asked for: %v", i, c.a, c.acc, c.m, got, c.want)
		}
	}
}

// P18.2: all numbers at edges, the three axes unlike each other.
func TestReachEdges(t *testing.T) {
	r := rand.New(rand.NewSource(182))
	numbers := append(ends(), both(about(0, 64, 92, 6400)...)...)
	pick := func() int { return numbers[r.Intn(len(numbers))] }
	any3 := func() (axes [3]api.Axis) {
		for i := range axes {
			axes[i] = axis(pick(), pick(), pick(), pick())
		}
		return axes
	}
	for _, brake := range append(ends(), -1, 0, 1, 48, 58, 64, 86, 149, 150, 151) {
		for _, jolt := range append(ends(), -258, -1, 0, 1, 86, 258, 430) {
			for _, acc := range append(ends(), -64, 0, 64) {
				for range 60 {
					reach(t, any3(), [3]int{acc, pick(), acc}, api.Margins{Brake: brake, Jolt: jolt})
					reach(t, any3(), [3]int{pick(), acc, pick()}, api.Margins{Brake: brake, Jolt: jolt})
				}
			}
		}
	}
}

// P18.2: any numbers, and those of a flight; each axis's span hangs on it alone, and on no margin but Brake and Jolt.
func TestReachAnyNumbers(t *testing.T) {
	r := rand.New(rand.NewSource(183))
	for i := range 100000 {
		number := func(far int) int {
			if i%2 == 0 {
				return any64(r)
			}
			return r.Intn(2*far+1) - far
		}
		var axes [3]api.Axis
		var acc [3]int
		for k := range axes {
			axes[k] = axis(number(1<<30), number(1<<30), number(40000), number(40000))
			acc[k] = number(64)
		}
		m := api.Margins{Brake: number(80), Jolt: number(500)}
		box := reach(t, axes, acc, m)
		m.Drift, m.Fast, m.Lane, m.Drain = any64(r), any64(r), any64(r), any64(r)
		if again := reach(t, axes, acc, m); again != box {
			t.Fatal(box, again)
		}
		k := r.Intn(3)
		axes[k], acc[k] = axis(any64(r), any64(r), any64(r), any64(r)), any64(r)
		other := reach(t, axes, acc, m)
		same := []bool{other.X == box.X, other.Y == box.Y, other.Z == box.Z}
		for n, alike := range same {
			if n != k && !alike {
				t.Fatalf("axis %d changed with axis %d", n, k)
			}
		}
	}
}

// flight is an axis that is braked as P18.6 says; sign is the way that is looked at.
type flight struct {
	m           api.Margins
	sign        int
	place, v    int
	acc, kick   int // kick: from -u to u
	joltAt      int // the braked tick in which it is given, from 0 on
	jolt        int
	extra       func() int // what is taken beyond Brake
	wentTo      int        // the farthest place, by sign
	ticksBraked int
}

// run goes on until the velocity is 0 or below (turned by sign), and tells the farthest place.
func (f *flight) run() {
	v := f.sign * (f.v + f.acc + f.kick)
	place := f.sign*f.place + v
	far := place // what is promised begins behind the move
	for f.ticksBraked = 0; v > 0; f.ticksBraked++ {
		v -= f.m.Brake + f.extra()
		if f.ticksBraked == f.joltAt {
			v += f.jolt
		}
		if v > 0 {
			place += v
		}
		far = max(far, place)
	}
	f.wentTo = f.sign * far
}

// spanOf is the span of Reach of an axis.
func spanOf(a api.Axis, acc int, m api.Margins) api.Span {
	return guard.Reach([3]api.Axis{a}, [3]int{acc}, m).X
}

// P18.6: a vehicle that is braked never leaves its span, upward and downward, whatever tick a jolt comes in.
func TestBrakedStaysWithin(t *testing.T) {
	r := rand.New(rand.NewSource(186))
	end := func(lo, hi int) int { // mostly an end, where a fault would show
		return [3]int{lo, hi, lo + r.Intn(hi-lo+1)}[r.Intn(3)]
	}
	for range 4000 {
		m := api.Margins{Brake: 1 + r.Intn(64), Jolt: r.Intn(2) * r.Intn(431)}
		if r.Intn(2) == 0 {
			_, m = sound(t, r.Intn(17), r.Intn(5), 16000)
		}
		u := 86 + 64 - m.Brake
		p, v, acc := r.Intn(1<<30)-1<<29, r.Intn(4001)-2000, r.Intn(129)-64
		a := axis(p-r.Intn(200000), p+r.Intn(200000), v-r.Intn(50), v+r.Intn(50))
		span := spanOf(a, acc, m)
		for joltAt := range 40 {
			if joltAt >= 20 { // a late one, as a lesser Brake takes longer
				joltAt = r.Intn(2400/m.Brake + 1)
			}
			for _, sign := range []int{1, -1} {
				f := flight{m: m, sign: sign, acc: acc, joltAt: joltAt, jolt: end(0, m.Jolt), extra: func() int { return 0 }}
				if r.Intn(2) == 0 {
					f.extra = func() int { return r.Intn(3) * r.Intn(30) }
				}
				f.place, f.v, f.kick = end(a.P.Lo, a.P.Hi), end(a.V.Lo, a.V.Hi), end(-u, u)
				if f.run(); f.wentTo > 6400*span.Hi || f.wentTo < 6400*span.Lo {
					t.Fatalf("%+v of %v, %d got to %d, out of %v", f, a, acc, f.wentTo, span)
				}
			}
		}
	}
}

// P18.6: the span is no wider than it must be: the worst flight comes as near to its ends as a mm.
func TestBrakedComesNear(t *testing.T) {
	r := rand.New(rand.NewSource(187))
	for range 4000 {
		_, m := sound(t, r.Intn(17), r.Intn(5), 16000)
		u := 86 + 64 - m.Brake
		acc := r.Intn(129) - 64
		for _, sign := range []int{1, -1} {
			v := sign * (300 + r.Intn(20000)) // so that it still moves when it is braked
			p := r.Intn(1<<30) - 1<<29
			a := axis(p-r.Intn(1000), p+r.Intn(1000), v-r.Intn(50), v+r.Intn(50))
			span := spanOf(a, acc, m)
			f := flight{m: m, sign: sign, place: a.P.Hi, v: a.V.Hi, acc: acc, kick: sign * u, jolt: m.Jolt, extra: func() int { return 0 }}
			end := 6400 * span.Hi
			if sign < 0 {
				f.place, f.v, end = a.P.Lo, a.V.Lo, 6400*span.Lo
			}
			if f.run(); sign*(end-f.wentTo) < 0 || sign*(end-f.wentTo) >= 6400 || f.ticksBraked == 0 {
				t.Fatalf("%+v of %v, %d got to %d; the end is %d", f, a, acc, f.wentTo, end)
			}
		}
	}
}

// P18.6: kicks and velocities from end to end, a jolt in each tick and of several sizes; one of them comes to the span's very end.
func TestBrakedEachOne(t *testing.T) {
	m := api.Margins{Brake: 40, Jolt: 30} // u is 110
	for _, ends := range [][2]int{{-20, 30}, {0, 0}, {200, 215}, {-150, -140}} {
		for _, acc := range []int{0, 64, -64} {
			// Places that make the span's ends whole leave no room.
			from := places(axis(0, 0, ends[0], ends[1]), acc, m)
			a := axis(-6400*5-from.Lo, 6400*5-from.Hi, ends[0], ends[1])
			span := spanOf(a, acc, m)
			if span != (api.Span{Lo: -5, Hi: 5}) {
				t.Fatal(span)
			}
			var far []int
			for v := ends[0]; v <= ends[1]; v += 5 {
				for kick := -110; kick <= 110; kick += 5 {
					for joltAt := range 12 {
						for jolt := 0; jolt <= 30; jolt += 10 {
							up := flight{m: m, sign: 1, place: a.P.Hi, v: v, acc: acc, kick: kick, joltAt: joltAt, jolt: jolt, extra: func() int { return 0 }}
							down := up
							down.sign, down.place = -1, a.P.Lo
							up.run()
							down.run()
							if up.wentTo > 6400*5 || down.wentTo < -6400*5 {
								t.Fatalf("%+v, %+v", up, down)
							}
							far = append(far, up.wentTo, down.wentTo)
						}
					}
				}
			}
			sort.Ints(far)
			if ends[1]+acc+110 > 0 && far[len(far)-1] != 6400*5 {
				t.Error("none came to the upper end", ends, acc, far[len(far)-1])
			}
			if ends[0]+acc-110 < 0 && far[0] != -6400*5 {
				t.Error("none came to the lower end", ends, acc, far[0])
			}
		}
	}
}
