package power_test

import (
	"math"
	"math/big"
	"math/rand"
	"slices"
	"testing"

	"windhover/api"
	"windhover/params"
	"windhover/power"
)

const (
	most  = math.MaxInt
	least = math.MinInt
	far   = 1 << 29 // mm that a height and a distance count as at most
)

// says is a charge that is told.
func says(x int) api.Reading { return api.Reading{Ok: true, X: x} }

// mute is a tick in which nothing is told.
func mute() api.Reading { return api.Reading{} }

// ends are numbers at the ends of an int, about 0, and between.
func ends() []int {
	return []int{
		least, least + 1, least + 2, least / 2, least/2 - 1, -1 << 32, -10, -3, -2, -1,
		0, 1, 2, 3, 10, 1 << 32, most / 2, most/2 + 1, most - 2, most - 1, most,
	}
}

// lengths are heights and distances: those that are some, those that count as others, and the ends.
func lengths() []int {
	return []int{
		least, least + 1, -1 << 40, -far - 1, -far, -5000, -2, -1, 0, 1, 2, 999, 4999, 5000, 5001, 120000,
		1 << 28, far - 2, far - 1, far, far + 1, far + 2, 1 << 40, 1 << 62, most - 1, most,
	}
}

// with is the defaults with other numbers in some places: pairs of a place and a number.
func with(pairs ...int) []int {
	list := params.Defaults()
	for i := 0; i < len(pairs); i += 2 {
		list[pairs[i]] = pairs[i+1]
	}
	return list
}

// drains is parameters by which a tick takes at most base, and what is told is off by at most off.
func drains(base, off int) []int {
	return with(api.PowerBase, base, api.PowerMotor, 0, api.ChargeErr, off)
}

// fast is parameters of a battery that is emptied soon, and of a vehicle that is slow.
func fast() []int {
	return with(api.Fall, 2000, api.Rise, 1600, api.Cruise, 1600, api.Accel, 4, api.ReturnAlt, 120000,
		api.ChargeFloor, 1000000000, api.ChargeErr, 1000000, api.PowerBase, 1000, api.PowerMotor, 1000)
}

// free is parameters by which nothing is taken and nothing is asked for.
func free() []int {
	return with(api.ChargeFloor, 0, api.ChargeErr, 0, api.PowerBase, 0, api.PowerMotor, 0)
}

// sorts are sound parameters of many sorts.
func sorts() [][]int {
	return [][]int{
		params.Defaults(), fast(), free(), drains(0, 0), drains(0, 1000000), drains(1000, 0), drains(1, 1), drains(4, 100),
		with(api.PowerBase, 0, api.PowerMotor, 1), with(api.PowerBase, 7, api.PowerMotor, 9, api.ChargeFloor, 0),
		with(api.Wind, 16, api.GnssSpeed, 5, api.BaroClimb, 6, api.DeadTicks, 4, api.Fall, 2000, api.ChargeErr, 3),
		with(api.Cruise, 64000, api.Rise, 32000, api.Fall, 16000, api.Accel, 32, api.ReturnAlt, 2000),
	}
}

// someValues are sound parameters at random.
func someValues(r *rand.Rand) []int {
	list := params.Defaults()
	for range 1 + r.Intn(30) {
		i := r.Intn(api.Params)
		span, _ := params.Range(i)
		x := span.Lo + r.Intn(span.Hi-span.Lo+1)
		switch r.Intn(4) {
		case 0:
			x = span.Lo
		case 1:
			x = span.Hi
		}
		if changed, e := params.Set(list, i, x); e == api.OK {
			list = changed
		}
	}
	return list
}

// fresh is a battery that there must be.
func fresh(t *testing.T, values []int) *power.Battery {
	t.Helper()
	b, e := power.New(values)
	if b == nil || e != api.OK {
		t.Fatalf("New(%v): %v, %v", values, b, e)
	}
	return b
}

// behind is a battery behind some ticks.
func behind(t *testing.T, values []int, ticks ...api.Reading) *power.Battery {
	t.Helper()
	b := fresh(t, values)
	for _, k := range ticks {
		b.Step(k)
	}
	return b
}

// holding is a battery whose Lo is a number that is not near an int's ends.
func holding(t *testing.T, values []int, lo int) *power.Battery {
	t.Helper()
	b := behind(t, values, says(lo+values[api.ChargeErr]))
	mustLeft(t, b, lo, lo+2*values[api.ChargeErr])
	return b
}

// mustLeft holds what is left, which must be known.
func mustLeft(t *testing.T, b *power.Battery, lo, hi int) {
	t.Helper()
	if s, ok := b.Left(); s != (api.Span{Lo: lo, Hi: hi}) || !ok {
		t.Fatalf("Left: %+v, %v, not from %d to %d", s, ok, lo, hi)
	}
}

// mustKnowNothing holds that nothing is known.
func mustKnowNothing(t *testing.T, b *power.Battery) {
	t.Helper()
	if s, ok := b.Left(); s != (api.Span{}) || ok {
		t.Fatalf("Left: %+v, %v, though nothing is known", s, ok)
	}
	for _, height := range lengths() {
		for _, distance := range lengths() {
			mustTier(t, b, height, distance, api.Critical)
		}
	}
}

// mustTier holds a tier.
func mustTier(t *testing.T, b *power.Battery, height, distance int, want api.Tier) {
	t.Helper()
	if tier := b.Tier(height, distance); tier != want {
		s, ok := b.Left()
		t.Fatalf("Tier(%d, %d) of %+v, %v: %v, not %v", height, distance, s, ok, tier, want)
	}
}

// over is a over b, rounded up; neither is below 0.
func over(a, b int) int { return (a + b - 1) / b }

// reckonDrain is Drain by chapter 8's words.
func reckonDrain(v []int) int { return v[19] + 1824*v[20]/1024 }

// reckonLand is LandTicks by chapter 8's words.
func reckonLand(v []int, height int) int {
	brake, drift, jolt := 64-v[0], v[0]+max(v[2], v[4])+2, 86*(v[5]+1)
	top := max(v[7], v[8], v[9]) + 128 + jolt + drift
	way := 0
	for speed := top - brake; speed > 0; speed -= brake {
		way += speed
	}
	return top/brake + v[9]/32 + over(6400*height+way+16*top, v[9]-drift) + 104
}

// reckonReturn is ReturnTicks by chapter 8's words.
func reckonReturn(v []int, height, distance int) int {
	a := func(d, speed int) int { return 8*(speed/v[6]) + over(3*6400*d, speed) + 800 }
	h := max(height, v[10]) + 1000
	return a(h, v[8]) + a(distance, v[7]) + 8*((v[8]+v[9])/v[6]) + over(2*6400*h, v[9]) + 104
}

// counts is what a height or a distance counts as.
func counts(x int) int {
	if x < 0 {
		return 0
	}
	if x > far {
		return far
	}
	return x
}

// reckonLandNeed is the least Lo that is not Critical.
func reckonLandNeed(v []int, height int) int {
	return v[17] + reckonDrain(v)*(reckonLand(v, counts(height))+8)
}

// reckonReturnNeed is the least Lo that is Full.
func reckonReturnNeed(v []int, height, distance int) int {
	h, d := counts(height), counts(distance)
	return v[17] + reckonDrain(v)*(reckonReturn(v, h, d)+reckonLand(v, h)+8)
}

// clerk reckons by the document's words, in numbers of any size.
type clerk struct {
	values []int
	lo, hi *big.Int // nil: nothing is known
}

func newClerk(values []int) *clerk { return &clerk{values: values} }

// sum is a and b, stopped where it would leave an int.
func sum(a *big.Int, b int) *big.Int {
	n := new(big.Int).Add(a, big.NewInt(int64(b)))
	if end := big.NewInt(most); n.Cmp(end) > 0 {
		return end
	}
	if end := big.NewInt(least); n.Cmp(end) < 0 {
		return end
	}
	return n
}

func (c *clerk) step(told api.Reading) {
	if c.lo != nil {
		c.lo = sum(c.lo, -reckonDrain(c.values))
	}
	if !told.Ok {
		return
	}
	x := big.NewInt(int64(told.X))
	lo, hi := sum(x, -c.values[18]), sum(x, c.values[18])
	// Two spans have a number in common just where neither lies whole above the other.
	if c.lo == nil || lo.Cmp(c.hi) > 0 || c.lo.Cmp(hi) > 0 {
		c.lo, c.hi = lo, hi
		return
	}
	if c.lo.Cmp(lo) < 0 {
		c.lo = lo
	}
	if c.hi.Cmp(hi) > 0 {
		c.hi = hi
	}
}

func (c *clerk) left() (api.Span, bool) {
	if c.lo == nil {
		return api.Span{}, false
	}
	return api.Span{Lo: int(c.lo.Int64()), Hi: int(c.hi.Int64())}, true
}

func (c *clerk) tier(height, distance int) api.Tier {
	if c.lo == nil || c.lo.Cmp(big.NewInt(int64(reckonLandNeed(c.values, height)))) < 0 {
		return api.Critical
	}
	if c.lo.Cmp(big.NewInt(int64(reckonReturnNeed(c.values, height, distance)))) < 0 {
		return api.Low
	}
	return api.Full
}

// mustMatch holds a battery against the clerk.
func mustMatch(t *testing.T, name any, b *power.Battery, c *clerk) {
	t.Helper()
	got, ok := b.Left()
	if want, known := c.left(); got != want || ok != known {
		t.Fatalf("%v: %+v, %v, not %+v, %v", name, got, ok, want, known)
	}
}

// follow holds a battery against the clerk over a script.
func follow(t *testing.T, values []int, script []api.Reading) {
	t.Helper()
	b, c := fresh(t, values), newClerk(values)
	mustMatch(t, "ahead of the first tick", b, c)
	for i, told := range script {
		b.Step(told)
		c.step(told)
		mustMatch(t, []any{values, script, i}, b, c)
		for _, height := range []int{-1, 0, 7000, far + 1} {
			mustTier(t, b, height, 3*height, c.tier(height, 3*height))
		}
	}
}

// someReading is a tick's, at random; one that is not Ok has an X all the same.
func someReading(r *rand.Rand, about int) api.Reading {
	x := about + r.Intn(400) - 200
	switch r.Intn(6) {
	case 0:
		x = ends()[r.Intn(len(ends()))]
	case 1:
		x = r.Intn(9) - 4
	case 2:
		x = r.Intn(1 << 40)
	}
	return api.Reading{Ok: r.Intn(3) > 0, X: x}
}

// All rows of the chapter's 'Examples'.
func TestExamples(t *testing.T) {
	b := fresh(t, params.Defaults())
	if s, ok := b.Left(); s != (api.Span{}) || ok {
		t.Fatal(s, ok)
	}
	mustTier(t, b, 0, 0, api.Critical)
	b.Step(says(10000))
	mustLeft(t, b, 9900, 10100)
	b.Step(mute())
	mustLeft(t, b, 9896, 10100)
	b.Step(says(9950))
	mustLeft(t, b, 9892, 10050)
	b.Step(says(5000))
	mustLeft(t, b, 4900, 5100)
	mustTier(t, b, 0, 0, api.Low)
	for i := range 9 {
		mustTier(t, b, 0, 0, api.Low)
		b.Step(mute())
		mustLeft(t, b, 4900-4*(i+1), 5100)
	}
	mustTier(t, b, 0, 0, api.Critical)
}

// The reckoning that the tests hold tiers against says what the chapters' own numbers say.
func TestReckoning(t *testing.T) {
	v := params.Defaults()
	if reckonDrain(v) != 4 || reckonLand(v, 0) != 959 || reckonLandNeed(v, 0) != 4868 || reckonReturnNeed(v, 0, 0) != 4868+4*52360 {
		t.Fatal(reckonDrain(v), reckonLand(v, 0), reckonLandNeed(v, 0), reckonReturnNeed(v, 0, 0))
	}
}

// P14.1: each error of params.Check, in its order, with no battery; none, with one of which nothing is known.
func TestNew(t *testing.T) {
	for _, c := range []struct {
		values []int
		e      api.Errno
	}{
		{nil, api.ErrSize},
		{[]int{}, api.ErrSize},
		{params.Defaults()[:23], api.ErrSize},
		{append(params.Defaults(), 0), api.ErrSize},
		{with(api.Wind, -1)[:23], api.ErrSize},
		{make([]int, 24), api.ErrRange},
		{with(api.Wind, 17), api.ErrRange},
		{with(api.ChargeFloor, -1), api.ErrRange},
		{with(api.ChargeFloor, 1000000001), api.ErrRange},
		{with(api.ChargeErr, -1), api.ErrRange},
		{with(api.ChargeErr, 1000001), api.ErrRange},
		{with(api.PowerBase, -1), api.ErrRange},
		{with(api.PowerBase, 1001), api.ErrRange},
		{with(api.PowerMotor, -1), api.ErrRange},
		{with(api.PowerMotor, 1001), api.ErrRange},
		{with(api.PowerMotor, least), api.ErrRange},
		{with(api.TurnRate, most), api.ErrRange},
		{with(api.Radius, 259, api.TurnRate, 15), api.ErrRange},
		{with(api.Wind, 16, api.Accel, 32, api.GnssSpeed, 7), api.ErrRule},
		{with(api.Radius, 259), api.ErrRule},
		{with(api.TakeoffAlt, 5001), api.ErrRule},
	} {
		if b, e := power.New(c.values); b != nil || e != c.e {
			t.Errorf("New(%v): %v, %v, not %v", c.values, b, e, c.e)
		}
	}
	for _, values := range sorts() {
		mustKnowNothing(t, fresh(t, values))
	}
}

// P14.1: the error is Check's, of whatever list.
func TestNewIsCheck(t *testing.T) {
	r := rand.New(rand.NewSource(141))
	seen := map[api.Errno]int{}
	for range 3000 {
		list := someValues(r)
		if r.Intn(2) == 0 {
			i := r.Intn(api.Params)
			span, _ := params.Range(i)
			list[i] = []int{span.Lo, span.Hi}[r.Intn(2)] + r.Intn(2) - r.Intn(2)
		}
		if r.Intn(8) == 0 {
			list = list[:r.Intn(24)]
		}
		b, e := power.New(list)
		if want := params.Check(list); e != want || (b == nil) != (want != api.OK) {
			t.Fatalf("New(%v): %v, %v, not %v", list, b, e, want)
		}
		seen[e]++
	}
	for _, e := range []api.Errno{api.OK, api.ErrSize, api.ErrRange, api.ErrRule} {
		if seen[e] < 10 {
			t.Errorf("%v only %d times", e, seen[e])
		}
	}
}

// P14.1 and R2: a battery keeps the values as they were, whatever their owner makes of them.
func TestValuesKept(t *testing.T) {
	for _, other := range [][]int{fast(), free(), make([]int, 24), slices.Repeat([]int{most}, 24), slices.Repeat([]int{least}, 24)} {
		for _, when := range []int{0, 1, 2} {
			values := params.Defaults()
			b, c := fresh(t, values), newClerk(params.Defaults())
			for i, told := range []api.Reading{says(300000), mute(), says(299900), says(5000), mute()} {
				if i == when {
					copy(values, other)
				}
				b.Step(told)
				c.step(told)
				mustMatch(t, i, b, c)
				for _, height := range lengths() {
					mustTier(t, b, height, height, c.tier(height, height))
				}
			}
			if !slices.Equal(values, other) {
				t.Fatalf("the owner's list is %v", values)
			}
		}
	}
}

// P14.1 and R2: New, and the calls behind it, leave the list and its spare room as they were, and do not read the room.
func TestListLeftAlone(t *testing.T) {
	for _, values := range sorts() {
		room := append(slices.Clone(values), 7, most, least, -1)
		was := slices.Clone(room)
		b := fresh(t, room[:24])
		c := newClerk(values)
		for _, told := range []api.Reading{says(10000), mute(), says(9000), mute()} {
			b.Step(told)
			c.step(told)
			mustMatch(t, values, b, c)
			mustTier(t, b, 10, 20, c.tier(10, 20))
		}
		if !slices.Equal(room, was) {
			t.Fatalf("%v has become %v", was, room)
		}
	}
	for _, bad := range [][]int{with(api.Wind, 17), with(api.Radius, 259), params.Defaults()[:5]} {
		was := slices.Clone(bad)
		if _, e := power.New(bad); e == api.OK || !slices.Equal(bad, was) {
			t.Fatalf("%v, %v has become %v", e, was, bad)
		}
	}
}

// P14.2 to P14.4: of a battery that was told nothing nothing is known, however long, and is Critical though nothing is asked for.
func TestKnowsNothing(t *testing.T) {
	for _, values := range sorts() {
		b := fresh(t, values)
		for range 20 {
			b.Step(mute())
		}
		mustKnowNothing(t, b)
		for _, x := range ends() {
			b.Step(api.Reading{X: x})
		}
		mustKnowNothing(t, b)
		// What was not known has not been lessened either.
		b.Step(says(12345))
		mustLeft(t, b, 12345-values[api.ChargeErr], 12345+values[api.ChargeErr])
	}
}

// P14.2: a reading without Ok tells nothing, whatever its X is.
func TestNotOk(t *testing.T) {
	for _, x := range append(ends(), 9999, 10000, 10001, 5000) {
		b := behind(t, params.Defaults(), says(10000), api.Reading{X: x})
		mustLeft(t, b, 9896, 10100)
	}
}

// P14.2: what is left is the span of the first telling.
func TestFirstTelling(t *testing.T) {
	for _, off := range []int{0, 1, 2, 100, 999999, 1000000} {
		for _, x := range append(ends(), -1000001, -1000000, -999999, 999999, 1000000, 1000001) {
			b := behind(t, with(api.ChargeErr, off), says(x))
			c := newClerk(with(api.ChargeErr, off))
			c.step(says(x))
			mustMatch(t, []int{off, x}, b, c)
		}
		mustLeft(t, behind(t, with(api.ChargeErr, off), says(0)), -off, off)
		mustLeft(t, behind(t, with(api.ChargeErr, off), says(70)), 70-off, 70+off)
	}
}

// P14.2: a tick in which nothing is told takes Drain from Lo and leaves Hi.
func TestSilentTicks(t *testing.T) {
	for _, c := range []struct{ base, motor, drain int }{
		{0, 0, 0}, {1, 0, 1}, {0, 1, 1}, {0, 9, 16}, {1, 2, 4}, {1000, 0, 1000}, {0, 1000, 1781}, {999, 999, 2778}, {1000, 1000, 2781},
	} {
		b := behind(t, with(api.PowerBase, c.base, api.PowerMotor, c.motor), says(50))
		for n := 1; n <= 300; n++ {
			b.Step(mute())
			mustLeft(t, b, -50-n*c.drain, 150)
		}
	}
}

// P14.2: a tick takes Drain also where something is told, and ahead of the cut.
func TestDrainAheadOfTheCut(t *testing.T) {
	// 9900 to 10100 becomes 9890 to 10100, and what is told is 9700 to 9900, or 9690 to 9890, or 9689 to 9889.
	mustLeft(t, behind(t, drains(10, 100), says(10000), says(9800)), 9890, 9900)
	mustLeft(t, behind(t, drains(10, 100), says(10000), says(9790)), 9890, 9890)
	mustLeft(t, behind(t, drains(10, 100), says(10000), says(9789)), 9689, 9889)
	mustLeft(t, behind(t, drains(10, 100), says(10000), says(10000)), 9900, 10100)
	mustLeft(t, behind(t, drains(10, 100), says(10000), says(9995)), 9895, 10095)
}

// P14.2: a span that the told one touches in one point, lies within, holds, or misses by one, on either side.
func TestCut(t *testing.T) {
	wide := []api.Reading{says(1000), mute(), mute(), mute(), mute(), mute()} // 850 to 1100, and one tick more
	for i, c := range []struct {
		ticks  []api.Reading
		x      int
		lo, hi int
	}{
		{[]api.Reading{says(1000)}, 1200, 1100, 1100},             // touched above
		{[]api.Reading{says(1000)}, 1201, 1101, 1301},             // missed by one above
		{[]api.Reading{says(1000)}, 1199, 1099, 1100},             // two points more
		{[]api.Reading{says(1000)}, 770, 870, 870},                // touched below
		{[]api.Reading{says(1000)}, 769, 669, 869},                // missed by one below
		{[]api.Reading{says(1000)}, 771, 870, 871},                // two points more
		{[]api.Reading{says(1000)}, 970, 870, 1070},               // the ends below are one
		{[]api.Reading{says(1000)}, 1000, 900, 1100},              // the ends above are one
		{[]api.Reading{says(1000)}, 985, 885, 1085},               // within, by 15 on either side
		{[]api.Reading{says(1000), says(1150)}, 1050, 1020, 1100}, // what is left lies within what is told
		{[]api.Reading{says(1000), says(1150)}, 1120, 1020, 1100}, // the same, and the ends below are one
		{[]api.Reading{says(1000), says(1150)}, 1000, 1020, 1100}, // the same, and the ends above are one
		{[]api.Reading{says(1000), says(1150)}, 1121, 1021, 1100},
		{[]api.Reading{says(1000), says(1150)}, 999, 1020, 1099},
		{[]api.Reading{says(1000), says(1150)}, 920, 1020, 1020},
		{[]api.Reading{says(1000), says(1150)}, 919, 819, 1019},
		{wide, 900, 800, 1000}, // what is told lies within what is left
		{wide, 820, 720, 920},
		{wide, 819, 720, 919},
		{wide, 1000, 900, 1100},
		{wide, 1001, 901, 1100},
	} {
		values := drains(30, 100)
		b := behind(t, values, append(slices.Clone(c.ticks), says(c.x))...)
		if s, ok := b.Left(); s != (api.Span{Lo: c.lo, Hi: c.hi}) || !ok {
			t.Errorf("row %d: %+v, %v, not from %d to %d", i, s, ok, c.lo, c.hi)
		}
	}
}

// P14.2: all ways in which two spans may lie, with each small ChargeErr and Drain.
func TestAllCuts(t *testing.T) {
	for off := range 4 {
		for base := range 4 {
			for first := -9; first <= 9; first++ {
				for second := -9; second <= 9; second++ {
					for silent := range 4 {
						script := append([]api.Reading{says(first)}, slices.Repeat([]api.Reading{mute()}, silent)...)
						b, c := fresh(t, drains(base, off)), newClerk(drains(base, off))
						for _, told := range append(script, says(second), says(0)) {
							b.Step(told)
							c.step(told)
							mustMatch(t, []int{off, base, first, second, silent}, b, c)
						}
					}
				}
			}
		}
	}
}

// P14.2: where nothing is left of the cut, it goes on from what was told, and not from what was left.
func TestBehindAMiss(t *testing.T) {
	b := behind(t, params.Defaults(), says(10000), says(500000), mute())
	mustLeft(t, b, 499896, 500100)
	b.Step(says(10000))
	mustLeft(t, b, 9900, 10100)
	b.Step(says(-10000))
	mustLeft(t, b, -10100, -9900)
}

// P14.2: sums and differences stop at an int's ends.
func TestEndsOfAnInt(t *testing.T) {
	mustLeft(t, behind(t, params.Defaults(), says(least)), least, least+100)
	mustLeft(t, behind(t, params.Defaults(), says(least), mute(), mute()), least, least+100)
	mustLeft(t, behind(t, params.Defaults(), says(least+100), mute()), least, least+200)
	mustLeft(t, behind(t, params.Defaults(), says(least+103), mute()), least, least+203)
	mustLeft(t, behind(t, params.Defaults(), says(least+104), mute()), least, least+204)
	mustLeft(t, behind(t, params.Defaults(), says(least+105), mute()), least+1, least+205)
	mustLeft(t, behind(t, params.Defaults(), says(most)), most-100, most)
	mustLeft(t, behind(t, params.Defaults(), says(most), mute(), mute()), most-108, most)
	mustLeft(t, behind(t, params.Defaults(), says(most-99)), most-199, most)
	mustLeft(t, behind(t, params.Defaults(), says(most-101)), most-201, most-1)
	mustLeft(t, behind(t, params.Defaults(), says(most), says(least)), least, least+100)
	mustLeft(t, behind(t, params.Defaults(), says(least), says(most)), most-100, most)
	mustLeft(t, behind(t, fast(), says(least+1), mute()), least, least+1000001)
	mustLeft(t, behind(t, fast(), says(most-1), mute()), most-1002782, most)
}

// P14.2: any three tellings at an int's ends, with silent ticks between.
func TestAllThreesAtTheEnds(t *testing.T) {
	for _, values := range [][]int{params.Defaults(), fast(), free(), drains(1, 2)} {
		for _, a := range ends() {
			for _, b := range ends() {
				for _, c := range ends() {
					one, two := fresh(t, values), newClerk(values)
					for _, told := range []api.Reading{says(a), mute(), says(b), mute(), says(c)} {
						one.Step(told)
						two.step(told)
						mustMatch(t, []int{a, b, c}, one, two)
					}
				}
			}
		}
	}
}

// P14.4: a Lo that is just what is asked for, one less and one more, from heights and distances of all sorts.
func TestJustEnough(t *testing.T) {
	for _, values := range sorts() {
		if reckonDrain(values) == 0 {
			continue // Low and Critical begin at one Lo there: see TestNoDrain
		}
		for _, height := range lengths() {
			for _, distance := range lengths() {
				land, back := reckonLandNeed(values, height), reckonReturnNeed(values, height, distance)
				for _, c := range []struct {
					lo   int
					tier api.Tier
				}{
					{land - 1, api.Critical}, {land, api.Low}, {land + 1, api.Low},
					{back - 1, api.Low}, {back, api.Full}, {back + 1, api.Full},
				} {
					mustTier(t, holding(t, values, c.lo), height, distance, c.tier)
				}
			}
		}
	}
}

// P14.4: with a Drain of 0 the floor alone is asked for, so that no battery is Low.
func TestNoDrain(t *testing.T) {
	for _, floor := range []int{0, 1, 1000, 999999999, 1000000000} {
		values := with(api.ChargeFloor, floor, api.PowerBase, 0, api.PowerMotor, 0)
		for _, length := range lengths() {
			mustTier(t, holding(t, values, floor-1), length, length, api.Critical)
			mustTier(t, holding(t, values, floor), length, length, api.Full)
			mustTier(t, holding(t, values, floor+1), length, length, api.Full)
		}
	}
}

// P14.4: numbers below 0 count as 0, and numbers above 2^29 as 2^29, each on its own.
func TestLengthsCount(t *testing.T) {
	for _, values := range [][]int{params.Defaults(), fast(), with(api.ReturnAlt, 120000)} {
		for _, height := range lengths() {
			for _, distance := range lengths() {
				for _, lo := range []int{reckonLandNeed(values, height), reckonReturnNeed(values, height, distance)} {
					for _, more := range []int{-1, 0} {
						b := holding(t, values, lo+more)
						mustTier(t, b, height, distance, b.Tier(counts(height), counts(distance)))
					}
				}
			}
		}
	}
}

// P14.4: 2^29 mm count whole, and one more counts as these; the last mm takes more than a tick here, so that it is seen.
func TestLastMillimetre(t *testing.T) {
	values := with(api.Fall, 2000, api.Cruise, 1600)
	enough, short := reckonReturnNeed(values, far, far), reckonReturnNeed(values, far, far)-1
	for _, c := range []struct {
		lo, height, distance int
		tier                 api.Tier
	}{
		{enough, far, far, api.Full}, {enough, far + 1, far, api.Full}, {enough, far, far + 1, api.Full}, {enough, far + 1, far + 1, api.Full},
		{short, far, far, api.Low}, {short, far + 1, far + 1, api.Low}, {short, far - 1, far, api.Full}, {short, far, far - 1, api.Full},
	} {
		mustTier(t, holding(t, values, c.lo), c.height, c.distance, c.tier)
	}
}

// P14.4: the tier hangs on Lo, not on Hi.
func TestTierAndHi(t *testing.T) {
	values := params.Defaults()
	b := behind(t, values, says(10000000))
	for s, _ := b.Left(); s.Lo >= 4868; s, _ = b.Left() {
		b.Step(mute())
		s, _ = b.Left()
		want := api.Full
		if s.Lo < 4868+4*52360 {
			want = api.Low
		}
		if s.Lo < 4868 {
			want = api.Critical
		}
		mustTier(t, b, 0, 0, want)
	}
	if s, _ := b.Left(); s.Hi != 10000100 {
		t.Fatal(s)
	}
}

// P14.4: tiers of what is left at an int's ends.
func TestTierAtTheEnds(t *testing.T) {
	for _, values := range sorts() {
		for _, length := range lengths() {
			mustTier(t, behind(t, values, says(least)), length, length, api.Critical)
			mustTier(t, behind(t, values, says(least), mute()), length, length, api.Critical)
			mustTier(t, behind(t, values, says(most)), length, length, api.Full)
			mustTier(t, behind(t, values, says(most), mute()), length, length, api.Full)
			mustTier(t, behind(t, values, says(-1000001)), length, length, api.Critical)
		}
	}
}

// air is what a tick takes, and how far off what is told is.
type air struct {
	take func(drain int) int
	off  func(err int) int
}

// airs are those that take and err as much as they may, not at all, and at random.
func airs(r *rand.Rand) []air {
	takes := []func(int) int{
		func(int) int { return 0 },
		func(drain int) int { return drain },
		func(drain int) int { return r.Intn(drain + 1) },
		func(drain int) int { return drain * r.Intn(2) },
	}
	offs := []func(int) int{
		func(int) int { return 0 },
		func(err int) int { return err },
		func(err int) int { return -err },
		func(err int) int { return r.Intn(2*err+1) - err },
		func(err int) int { return err * (2*r.Intn(2) - 1) },
	}
	var list []air
	for _, take := range takes {
		for _, off := range offs {
			list = append(list, air{take, off})
		}
	}
	return list
}

// P14.5: a charge of which a tick takes from 0 to Drain, told off by no more than ChargeErr, stays in what is left.
func TestTruth(t *testing.T) {
	r := rand.New(rand.NewSource(145))
	for _, values := range sorts() {
		drain, err := reckonDrain(values), values[api.ChargeErr]
		for _, a := range airs(r) {
			for _, charge := range []int{-5, 0, 5000, 1 << 40} {
				b := behind(t, values, says(charge+a.off(err)))
				for n := range 200 {
					charge -= a.take(drain)
					told := api.Reading{Ok: r.Intn(3) > 0, X: charge + a.off(err)}
					b.Step(told)
					if s, ok := b.Left(); !ok || charge < s.Lo || charge > s.Hi {
						t.Fatalf("%v, tick %d: %d is not in %+v, %v", values, n, charge, s, ok)
					}
				}
			}
		}
	}
}

// P14.5: from each small span, with each charge in it, each take and each telling; and at an int's ends.
func TestTruthFromAnySpan(t *testing.T) {
	for off := range 3 {
		for base := range 3 {
			values := drains(base, off)
			for _, low := range []int{least + 40, -3, most - 40} {
				for silent := range 3 {
					script := append([]api.Reading{says(low)}, slices.Repeat([]api.Reading{mute()}, silent)...)
					span, _ := behind(t, values, script...).Left()
					for charge := span.Lo; charge <= span.Hi; charge++ {
						for take := range base + 1 {
							for x := charge - take - off; x <= charge-take+off; x++ {
								b := behind(t, values, append(slices.Clone(script), says(x))...)
								if s, ok := b.Left(); !ok || charge-take < s.Lo || charge-take > s.Hi {
									t.Fatalf("%d less %d, told as %d, is not in %+v", charge, take, x, s)
								}
							}
						}
					}
				}
			}
		}
	}
}

// P14.5: charges at an int's ends, told as far off as they may be without leaving an int.
func TestTruthAtTheEnds(t *testing.T) {
	const drain, err, ticks = 3, 5, 4
	for _, from := range []int{least + drain*ticks, most - 60} {
		for charge := from; charge < from+60; charge++ {
			for _, off := range []int{-err, 0, err} {
				now := charge
				b := behind(t, drains(drain, err), says(beside(now, off)))
				for range ticks {
					now -= drain
					b.Step(says(beside(now, off)))
					if s, ok := b.Left(); !ok || now < s.Lo || now > s.Hi {
						t.Fatalf("%d is not in %+v", now, s)
					}
				}
			}
		}
	}
	top := behind(t, drains(drain, err), says(most))
	for range ticks {
		top.Step(says(most))
		mustLeft(t, top, most-err, most)
	}
}

// beside is a number that is off from x by no more than off, and is an int.
func beside(x, off int) int { return int(sum(big.NewInt(int64(x)), off).Int64()) }

// P14.6: with more left, or less height, or less distance, a tier is never worse.
func TestNeverWorse(t *testing.T) {
	r := rand.New(rand.NewSource(146))
	seen := [3]int{}
	for range 20000 {
		values := sorts()[r.Intn(len(sorts()))]
		height, distance := r.Intn(1<<(r.Intn(32)))-5, r.Intn(1<<(r.Intn(32)))-5
		need := reckonLandNeed(values, height)
		if r.Intn(2) == 0 {
			need = reckonReturnNeed(values, height, distance)
		}
		lo := need + r.Intn(1+need/2) - r.Intn(1+need/2)
		b := holding(t, values, lo)
		tier := b.Tier(height, distance)
		seen[tier]++
		for _, other := range []api.Tier{
			b.Tier(height-r.Intn(5), distance),
			b.Tier(height, distance-r.Intn(5)),
			b.Tier(height/2, distance/3),
			b.Tier(height-r.Intn(1<<30), distance-r.Intn(1<<30)),
			holding(t, values, lo+r.Intn(5)).Tier(height, distance),
			holding(t, values, lo+r.Intn(1+max(lo, 0))).Tier(height, distance),
		} {
			if other > tier {
				t.Fatalf("%v: Lo %d, %d, %d: %v is worse than %v", values, lo, height, distance, other, tier)
			}
		}
	}
	if slices.Min(seen[:]) < 500 {
		t.Fatalf("tiers came %v times", seen)
	}
}

// P14.6: over each step of heights, distances and Lo in their order, and with a silent tick a tier is never better.
func TestTiersInOrder(t *testing.T) {
	for _, values := range sorts() {
		for _, lo := range []int{0, 4868, 214308, 10000000, 1 << 40} {
			b := holding(t, values, lo)
			for _, fixed := range []int{0, 6000, far} {
				height, distance := api.Full, api.Full
				for _, length := range lengths() {
					h, d := b.Tier(length, fixed), b.Tier(fixed, length)
					if h < height || d < distance {
						t.Fatalf("%v, Lo %d, %d: better farther away", values, lo, length)
					}
					height, distance = h, d
				}
			}
			was := b.Tier(0, 0)
			for range 200 {
				b.Step(mute())
				if now := b.Tier(0, 0); now < was {
					t.Fatal("better with less left")
				} else {
					was = now
				}
			}
		}
	}
}

// P14.2 to P14.4: all scripts of five ticks of six sorts.
func TestAllScripts(t *testing.T) {
	sorts := []api.Reading{mute(), {X: 99}, says(5000), says(5150), says(4980), says(220000)}
	script := make([]api.Reading, 5)
	for n := range 6 * 6 * 6 * 6 * 6 {
		for i := range script {
			script[i] = sorts[n%6]
			n /= 6
		}
		follow(t, params.Defaults(), script)
	}
}

// P14.1 to P14.4: scripts at random, with parameters at random.
func TestAnyScript(t *testing.T) {
	r := rand.New(rand.NewSource(14))
	for range 600 {
		values, script := someValues(r), make([]api.Reading, 40)
		about := []int{0, reckonLandNeed(values, 0), reckonReturnNeed(values, 0, 0), reckonReturnNeed(values, 7000, 21000)}[r.Intn(4)]
		for i := range script {
			script[i] = someReading(r, about)
		}
		follow(t, values, script)
	}
}

// R2: asking changes nothing.
func TestAsking(t *testing.T) {
	r := rand.New(rand.NewSource(7))
	asked, quiet := fresh(t, params.Defaults()), fresh(t, params.Defaults())
	for range 500 {
		told := someReading(r, 5000)
		asked.Step(told)
		quiet.Step(told)
		for _, length := range lengths() {
			asked.Tier(length, -length)
			asked.Left()
		}
	}
	got, ok := asked.Left()
	if want, known := quiet.Left(); got != want || ok != known {
		t.Fatalf("%+v, %v, not %+v, %v", got, ok, want, known)
	}
}

// R2: batteries know nothing of one another.
func TestApart(t *testing.T) {
	r := rand.New(rand.NewSource(8))
	values := [][]int{params.Defaults(), params.Defaults(), fast(), drains(3, 7)}
	var list []*power.Battery
	var clerks []*clerk
	for _, v := range values {
		list, clerks = append(list, fresh(t, v)), append(clerks, newClerk(v))
	}
	for range 3000 {
		i, told := r.Intn(len(list)), someReading(r, 5000)
		list[i].Step(told)
		clerks[i].step(told)
		for k := range list {
			mustMatch(t, k, list[k], clerks[k])
			mustTier(t, list[k], 10, 20, clerks[k].tier(10, 20))
		}
	}
	shared := params.Defaults()
	one, two := fresh(t, shared), fresh(t, shared)
	one.Step(says(10000))
	mustKnowNothing(t, two)
	two.Step(says(5000))
	mustLeft(t, one, 9900, 10100)
	mustLeft(t, two, 4900, 5100)
}

// R2 and P14.4: a nil battery answers noughts, false and Full, and does nothing.
func TestNil(t *testing.T) {
	var b *power.Battery
	for _, told := range []api.Reading{mute(), says(0), says(10000), says(least), says(most)} {
		b.Step(told)
		if s, ok := b.Left(); s != (api.Span{}) || ok {
			t.Fatal(s, ok)
		}
		for _, length := range lengths() {
			mustTier(t, b, length, length, api.Full)
		}
	}
	if api.Full != 0 {
		t.Fatal("Full is 0")
	}
}
