package est_test

import (
	"math/big"
	"math/rand"
	"testing"

	"windhover/api"
	"windhover/est"
)

const (
	round     = 16 * 65536 // a turn in 16ths
	halfRound = 8 * 65536
)

// pointed is what a compass tells.
type pointed struct {
	heading, bound int
	good           bool
}

func point(c *est.Compass) pointed {
	h, b, good := c.Heading()
	return pointed{h, b, good}
}

// turning is what a Step of a compass is given.
type turning struct{ rate, heading api.Measure }

func swing(c *est.Compass, k turning) pointed {
	c.Step(k.rate, k.heading)
	return point(c)
}

// freshCompass is a compass that there must be.
func freshCompass(t *testing.T, stale int) *est.Compass {
	t.Helper()
	c, e := est.NewCompass(stale)
	if c == nil || e != api.OK {
		t.Fatalf("NewCompass(%d): %v, %v", stale, c, e)
	}
	return c
}

// pointing is a compass whose first heading is this one, in 16ths, with this bound; both are whole angles.
func pointing(t *testing.T, stale, heading, bound int) *est.Compass {
	t.Helper()
	c := freshCompass(t, stale)
	c.Step(mute(), says(heading/16, bound/16))
	if got := point(c); got.heading != heading || got.bound != bound {
		t.Fatalf("no first heading of %d, %d: %+v", heading, bound, got)
	}
	return c
}

// led is a compass that was led to this heading, in 16ths, and this bound by a rate, one step behind its first heading.
func led(t *testing.T, stale, heading, bound int) *est.Compass {
	t.Helper()
	c := pointing(t, stale, 0, bound/16*16)
	c.Step(says(heading, bound%16), mute())
	if got := point(c); got.heading != heading || got.bound != bound {
		t.Fatalf("led to %d, %d: %+v", heading, bound, got)
	}
	return c
}

// compassClerk reckons a compass by the document's words, in numbers of any size.
type compassClerk struct {
	stale, now, heard int
	began             bool
	heading, bound    *big.Int
}

func times(n int, x *big.Int) *big.Int { return new(big.Int).Mul(big.NewInt(int64(n)), x) }

// over is x over n, which is above 0, rounded down.
func over(x *big.Int, n int) *big.Int { return new(big.Int).Div(x, big.NewInt(int64(n))) }

// offOf is how far an angle may be off, as it counts.
func offOf(m api.Measure) *big.Int {
	if m.Err > 65536 {
		return exact(65536)
	}
	return exact(m.Err)
}

func (c *compassClerk) keep() {
	c.heading.Mod(c.heading, exact(round))
	if c.bound.Cmp(exact(halfRound)) > 0 {
		c.bound = exact(halfRound)
	}
}

// wayOf is the number from -8 times 65536 on, less than 8 times 65536, that leads from a heading to another one.
func wayOf(from, to *big.Int) *big.Int {
	d := new(big.Int).Sub(to, from)
	d.Mod(d, exact(round))
	if d.Cmp(exact(halfRound)) >= 0 {
		d.Sub(d, exact(round))
	}
	return d
}

func (c *compassClerk) first(heading api.Measure) {
	c.began, c.heard = true, c.now
	c.heading = times(16, exact(heading.X))
	c.heading.Mod(c.heading, exact(round))
	c.bound = times(16, offOf(heading))
}

func (c *compassClerk) next(k turning) {
	if there(k.rate) {
		c.heading.Add(c.heading, exact(k.rate.X))
		c.bound.Add(c.bound, offOf(k.rate))
	} else {
		c.bound.Add(c.bound, exact(4096))
	}
	c.keep()
	if !there(k.heading) {
		return
	}
	c.heard = c.now
	d := wayOf(c.heading, times(16, exact(k.heading.X)))
	c.heading.Add(c.heading, over(d, 8))
	up := new(big.Int).Neg(over(times(-16, offOf(k.heading)), 8))
	c.bound = over(times(7, c.bound), 8)
	c.bound.Add(c.bound, up).Add(c.bound, exact(1))
	c.keep()
}

func (c *compassClerk) swing(k turning) pointed {
	c.now++
	switch {
	case c.began:
		c.next(k)
	case there(k.heading):
		c.first(k.heading)
	}
	return c.tell()
}

func (c *compassClerk) tell() pointed {
	if !c.began {
		return pointed{}
	}
	h, b := int(c.heading.Int64()), int(c.bound.Int64())
	return pointed{h, b, c.now-c.heard <= c.stale && b < 65536}
}

// followCompass holds a compass against the clerk over a script.
func followCompass(t *testing.T, stale int, script ...turning) {
	t.Helper()
	c, clerk := freshCompass(t, stale), &compassClerk{stale: stale}
	for i, k := range script {
		if got, want := swing(c, k), clerk.swing(k); got != want {
			t.Fatalf("NewCompass(%d), step %d of %+v: %+v, not %+v", stale, i, script, got, want)
		}
	}
}

// someAngle is an angle's measure at random: near, about half a turn off, or whatever.
func someAngle(r *rand.Rand, scale int) api.Measure {
	m := someMeasure(r)
	switch r.Intn(3) {
	case 0:
		m.X = scale * (r.Intn(5*65536) - 2*65536)
	case 1:
		m.X = scale*32768*(r.Intn(9)-4) + r.Intn(5) - 2
	}
	if r.Intn(3) == 0 {
		m.Err = []int{-1, 0, 1, 4095, 4096, 4097, 32768, 65535, 65536, 65537, 1 << 40}[r.Intn(11)]
	}
	return m
}

func someTurns(r *rand.Rand) []turning {
	var script []turning
	for range 1 + r.Intn(20) {
		script = append(script, turning{someAngle(r, 16), someAngle(r, 1)})
	}
	return script
}

// P13.5: the row of 'Examples' of a compass.
func TestCompassExample(t *testing.T) {
	c := freshCompass(t, 2)
	if got := swing(c, turning{mute(), says(100, 1)}); got != (pointed{1600, 16, true}) {
		t.Errorf("%+v", got)
	}
	other := pointing(t, 2, 1600, 16)
	if got := swing(other, turning{says(5, 1), mute()}); got != (pointed{1605, 17, true}) {
		t.Errorf("by the rate alone: %+v", got)
	}
	if got := swing(c, turning{says(5, 1), says(100, 1)}); got != (pointed{1604, 17, true}) {
		t.Errorf("%+v", got)
	}
}

// P13.5, P13.6: a compass knows nothing until a heading is there, with and without a rate; neither its rates nor its silence ahead of that count.
func TestCompassKnowsNothing(t *testing.T) {
	for _, silent := range mutes() {
		for _, rate := range []api.Measure{silent, says(5, 1), says(0, 0), says(most, most), says(least, 65537)} {
			c := freshCompass(t, 1)
			for range 4 {
				if got := swing(c, turning{rate, silent}); got != (pointed{}) {
					t.Fatalf("%v, %v: %+v", rate, silent, got)
				}
			}
			if got := swing(c, turning{rate, says(100, 1)}); got != (pointed{1600, 16, true}) {
				t.Fatalf("%v, and then 100: %+v", rate, got)
			}
			if got := swing(c, turning{says(0, 0), silent}); got != (pointed{1600, 16, true}) {
				t.Fatalf("%v: %+v", silent, got)
			}
			if got := swing(c, turning{says(0, 0), silent}); got != (pointed{1600, 16, false}) {
				t.Fatalf("%v twice: %+v", silent, got)
			}
		}
	}
}

// P13.5: the first heading, below 0, beyond a turn and at an int's ends: 16 times it is exact, and modulo a turn.
func TestFirstHeading(t *testing.T) {
	for x, want := range map[int]int{
		0: 0, 1: 16, -1: round - 16, 65535: round - 16, 65536: 0, 65537: 16, -65535: 16, -65536: 0, -65537: round - 16,
		32767: halfRound - 16, 32768: halfRound, 32769: halfRound + 16, -32768: halfRound, -32769: halfRound - 16,
		10 * 65536: 0, -10*65536 - 3: round - 48, 1 << 40: 0, 1<<40 + 5: 80,
		most: round - 16, most - 1: round - 32, least: 0, least + 1: 16, most / 16: round - 16, most/16 + 1: 0, least / 16: 0, least/16 - 1: round - 16,
	} {
		if got := swing(freshCompass(t, 1), turning{mute(), says(x, 0)}); got != (pointed{want, 0, true}) {
			t.Errorf("%d: %+v, not %d", x, got, want)
		}
	}
}

// P13.5, P13.6: the first heading's bound is 16 times its Err, which counts as 65536 at most; it stops at 8 times 65536 only behind a step.
func TestFirstBound(t *testing.T) {
	for _, row := range []struct {
		off, bound int
		good       bool
		behind     int
	}{
		{0, 0, true, 0}, {1, 16, true, 16}, {4095, 65520, true, 65520}, {4096, 65536, false, 65536}, {4097, 65552, false, 65552},
		{32767, 524272, false, 524272}, {32768, 524288, false, 524288}, {32769, 524304, false, 524288},
		{65535, 1048560, false, 524288}, {65536, 1048576, false, 524288}, {65537, 1048576, false, 524288}, {most, 1048576, false, 524288},
	} {
		c := freshCompass(t, 9)
		if got := swing(c, turning{mute(), says(7, row.off)}); got != (pointed{112, row.bound, row.good}) {
			t.Errorf("Err %d: %+v", row.off, got)
		}
		if got := swing(c, turning{says(0, 0), mute()}); got != (pointed{112, row.behind, row.good}) {
			t.Errorf("Err %d, behind a step: %+v", row.off, got)
		}
	}
}

// P13.5: rates of all sorts turn the heading by 16ths, exactly, modulo a turn.
func TestRate(t *testing.T) {
	for x, want := range map[int]int{
		0: 1600, 1: 1601, -1: 1599, 15: 1615, 16: 1616, -1600: 0, -1601: round - 1, -1599: 1, round - 1601: round - 1, round - 1600: 0, round - 1599: 1,
		round: 1600, -round: 1600, 7*round + 3: 1603, -7*round - 3: 1597, halfRound: halfRound + 1600, -halfRound: halfRound + 1600,
		most: 1599, most - 1: 1598, most - 1600: round - 1, least: 1600, least + 1: 1601, least + round: 1600,
	} {
		c := pointing(t, 1, 1600, 16)
		if got := swing(c, turning{says(x, 0), mute()}); got != (pointed{want, 16, true}) {
			t.Errorf("%d: %+v, not %d", x, got, want)
		}
	}
}

// P13.5: a rate's Err is added to the bound, but no more than 65536 of it; without a rate, whatever it says, 4096 are.
func TestBoundGrows(t *testing.T) {
	for _, row := range []struct {
		rate  api.Measure
		bound int
		good  bool
	}{
		{says(0, 0), 160, true}, {says(0, 1), 161, true}, {says(0, 4096), 4256, true},
		{says(0, 65375), 65535, true}, {says(0, 65376), 65536, false}, {says(0, 65377), 65537, false}, // the bound that is just 65536
		{says(0, 65535), 65695, false}, {says(0, 65536), 65696, false}, {says(0, 65537), 65696, false}, {says(0, most), 65696, false},
	} {
		if got := swing(pointing(t, 1, 1600, 160), turning{row.rate, mute()}); got != (pointed{1600, row.bound, row.good}) {
			t.Errorf("%v: %+v", row.rate, got)
		}
	}
	for _, silent := range mutes() {
		if got := swing(pointing(t, 1, 1600, 160), turning{silent, mute()}); got != (pointed{1600, 4256, true}) {
			t.Errorf("%v: %+v", silent, got)
		}
	}
}

// P13.5: the bound stops at 8 times 65536, behind the rate and behind the heading.
func TestBoundStops(t *testing.T) {
	c := pointing(t, 1, 0, 0)
	for n := 1; n <= 140; n++ { // 4096 a step come to it in 128 steps
		got := swing(c, turning{})
		if want := min(4096*n, 524288); got.bound != want {
			t.Fatalf("step %d without a rate: %+v", n, got)
		}
	}
	for _, row := range []struct{ bound, grows, want int }{
		{524272, 15, 524287}, {524272, 16, 524288}, {524272, 17, 524288}, {458752, 65536, 524288}, {458768, 65536, 524288}, {458736, 65536, 524272}, {524288, 1, 524288}, {1048576, 65536, 524288},
	} {
		if got := swing(pointing(t, 1, 0, row.bound), turning{says(0, row.grows), mute()}); got.bound != row.want {
			t.Errorf("%+v: %+v", row, got)
		}
	}
	for _, row := range []struct{ bound, off, want int }{
		{524288, 32767, 524287}, {524288, 32768, 524288}, {524288, 65536, 524288}, {524288, most, 524288},
		{524272, 32774, 524287},  // 7 times it over 8 is 458738
		{1048576, 32767, 524287}, // stops ahead of the heading too
		{1048576, 0, 458753},
	} {
		if got := swing(pointing(t, 1, 0, row.bound), turning{says(0, 0), says(0, row.off)}); got.bound != row.want {
			t.Errorf("%+v: %+v", row, got)
		}
	}
}

// P13.5: a compass leans to the heading by an eighth of the way, rounded down, below 0 too.
func TestEighthOfTheWay(t *testing.T) {
	// From the heading h to 0 it is -h 16ths, and from a turn less h it is h.
	for h, want := range map[int]int{
		0: 0, 1: -1, 2: -1, 7: -1, 8: -1, 9: -2, 15: -2, 16: -2, 17: -3, 24: -3, 25: -4, 1000: -125, 1001: -126,
		round - 1: 0, round - 7: 0, round - 8: 1, round - 9: 1, round - 15: 1, round - 16: 2, round - 1000: 125, round - 1007: 125, round - 1008: 126,
	} {
		if got := swing(led(t, 9, h, 0), turning{says(0, 0), says(0, 0)}); got.heading != (h+want+round)%round {
			t.Errorf("%d: %+v, not %d more", h, got, want)
		}
	}
}

// P13.5: a way of just half a turn goes back, one 16th less goes on, and one more goes back.
func TestHalfATurn(t *testing.T) {
	for _, row := range []struct{ from, to, want int }{
		{0, 32768, round - 65536}, // -524288 over 8
		{0, -32768, round - 65536},
		{1, 32768, 1 + 65535},                 // 524287 over 8 is 65535 and more
		{round - 1, 32768, round - 1 - 65536}, // 524289 on is 524287 back: 65535 and more, rounded down
		{halfRound, 0, halfRound - 65536}, {halfRound + 1, 0, halfRound + 1 + 65535}, {halfRound - 1, 0, halfRound - 1 - 65536},
		{halfRound, 65536, halfRound - 65536}, {halfRound, most - 65535, halfRound - 65536}, {halfRound, least, halfRound - 65536},
		{15, 32768, 15 + 65534}, {16, 32768, 16 + 65534}, {8, 32768, 8 + 65535}, {9, 32768, 9 + 65534},
		{round - 15, 32768, round - 15 - 65535}, {round - 16, 32768, round - 16 - 65534},
		{100, 65535, 100 - 15}, {round - 100, 1, round - 100 + 14}, // over the end of a turn: -116 and 116
		{4, 65535, round + 4 - 3}, {round - 4, 1, round - 4 + 2}, {4, most, 1}, {round - 16, 1, round - 12}, {round - 2, 1, 0}, {round - 16, 9, 4},
	} {
		want := (row.want + round) % round
		if got := swing(led(t, 9, row.from, 0), turning{says(0, 0), says(row.to, 0)}); got.heading != want {
			t.Errorf("from %d to %d: %+v, not %d", row.from, row.to, got, want)
		}
	}
}

// P13.5: the bound's roundings: 7 times it over 8 rounded down, 16 times Err over 8, and 1.
func TestBoundOfAHeading(t *testing.T) {
	for bound, want := range map[int]int{
		0: 1, 1: 1, 2: 2, 3: 3, 4: 4, 5: 5, 6: 6, 7: 7, 8: 8, 9: 8, 10: 9, 15: 14, 16: 15, 17: 15, 18: 16, 65536: 57345, 65543: 57351, 65544: 57352,
		74896: 65535, 74897: 65535, 74898: 65536, // just 65536
	} {
		for _, off := range []int{0, 1, 2, 3, 100, 65535, 65536, 65537, most} {
			got := swing(led(t, 9, 0, bound), turning{says(0, 0), says(0, off)})
			sum := want + 2*min(off, 65536)
			if got != (pointed{0, sum, sum < 65536}) {
				t.Errorf("bound %d, Err %d: %+v, not %d", bound, off, got, sum)
			}
		}
	}
}

// P13.5: the rate goes ahead of the heading: the way is from where the rate led, and the bound's eighth is of what the rate left.
func TestRateAndHeading(t *testing.T) {
	for _, row := range []struct {
		turning
		want pointed
	}{
		{turning{says(160, 8), says(100, 0)}, pointed{1740, 22, true}},         // 1760; -160 over 8; 24 and then 21 and 1
		{turning{says(-160, 8), says(100, 5)}, pointed{1460, 32, true}},        // 1440
		{turning{mute(), says(110, 0)}, pointed{1620, 3599, true}},             // 4112 and then 3598 and 1
		{turning{says(-1601, 0), says(0, 0)}, pointed{round - 1, 15, true}},    // -1 is a turn less 1: 1 over 8
		{turning{says(-1601, 0), says(-1, 0)}, pointed{round - 3, 15, true}},   // -15 over 8
		{turning{says(most, 65537), says(100, 0)}, pointed{1599, 57359, true}}, // 1599: 1 over 8; 65552
		{turning{says(0, -1), says(100, -1)}, pointed{1600, 4112, true}},
		{turning{says(halfRound-1600, 0), says(0, 0)}, pointed{halfRound - 65536, 15, true}},
	} {
		if got := swing(pointing(t, 1, 1600, 16), row.turning); got != row.want {
			t.Errorf("%+v: %+v, not %+v", row.turning, got, row.want)
		}
	}
}

// P13.6: the heading may be silent for just stale steps, counted from its first one, and again from each one on; a rate does not mend it.
func TestCompassSilence(t *testing.T) {
	for _, stale := range []int{1, 2, 3, 40, 400, 65535, 70000} {
		for _, silent := range []api.Measure{mute(), says(0, -1), {X: 5, Err: 5}} {
			c := freshCompass(t, stale)
			for again := range 2 {
				c.Step(says(0, 0), says(0, 0))
				for n := 1; n <= stale; n++ {
					if got := swing(c, turning{says(0, 0), silent}); !got.good {
						t.Fatalf("NewCompass(%d), round %d: not good behind %d: %+v", stale, again, n, got)
					}
				}
				for n := range 3 {
					if got := swing(c, turning{says(0, 0), silent}); got.good || got.heading != 0 || got.bound != again {
						t.Fatalf("NewCompass(%d), round %d: %d behind: %+v", stale, again, n, got)
					}
				}
			}
		}
	}
}

// P13.6: silence of the rate does not count by itself, however long it is; the bound alone makes it bad, and the heading mends that.
func TestBoundAndGood(t *testing.T) {
	c := pointing(t, most, 0, 0)
	for n := 1; n <= 200; n++ {
		bound := min(4096*n, 524288)
		if got := swing(c, turning{}); got != (pointed{0, bound, bound < 65536}) {
			t.Fatalf("step %d: %+v", n, got)
		}
	}
	bound := 524288
	for n := 1; n <= 60; n++ {
		bound = bound*7/8 + 1
		if got := swing(c, turning{says(0, 0), says(0, 0)}); got != (pointed{0, bound, n >= 16}) { // 61904 behind 16 steps
			t.Fatalf("step %d with a heading: %+v, not %d", n, got, bound)
		}
	}
	for range 1000 { // with a heading in each step, and no rate, the bound comes to rest below 65536
		c.Step(mute(), says(0, 0))
	}
	if got := point(c); !got.good || got.bound < 28000 || got.bound > 29000 {
		t.Errorf("at rest: %+v", got)
	}
}

// apartOf is how far two headings in 16ths are apart, by the shorter way.
func apartOf(a, b *big.Int) *big.Int { d := wayOf(a, b); return d.Abs(d) }

// P13.8: a compass is off by no more than its bound, as long as the measures keep theirs and no way is as long as half a turn.
func TestCompassTruth(t *testing.T) {
	r := rand.New(rand.NewSource(136))
	steps := 0
	for script := range 4000 {
		worst := []int{0, 1, 30, 2000, 30000}[script%5]
		c, truth, knows := freshCompass(t, 2), exact(r.Intn(round)), false
		for i := range 60 {
			var k turning
			turn := r.Intn(8193) - 4096 // what is lost without a rate is no more than 4096
			if r.Intn(3) > 0 {
				off := r.Intn(min(16*worst, 65536) + 1) // a greater one does not count whole
				turn = r.Intn(2*round) - round
				k.rate = says(near(r, turn, off), off)
			}
			truth.Add(truth, exact(turn))
			if i == 0 || r.Intn(3) > 0 {
				k.heading = nearAngle(r, truth, r.Intn(worst+1))
			}
			if knows && tooFar(c, k) {
				k.heading = mute()
			}
			c.Step(k.rate, k.heading)
			knows = knows || k.heading.Ok
			if !knows {
				continue
			}
			h, bound, _ := c.Heading()
			if apartOf(exact(h), truth).Cmp(exact(bound)) > 0 {
				t.Fatalf("script %d, step %d, %+v: %d is not %v off by %d", script, i, k, h, truth, bound)
			}
			steps++
		}
	}
	if steps < 100000 {
		t.Errorf("only %d steps were looked at", steps)
	}
}

// nearAngle is a heading's measure that is off from a truth in 16ths by no more than off, some turns away.
func nearAngle(r *rand.Rand, truth *big.Int, off int) api.Measure {
	lo := over(new(big.Int).Add(truth, exact(15-16*off)), 16) // rounded up
	hi := over(new(big.Int).Add(truth, exact(16*off)), 16)
	if lo.Cmp(hi) > 0 { // no whole angle is so near
		return mute()
	}
	span := new(big.Int).Add(new(big.Int).Sub(hi, lo), big.NewInt(1))
	x := lo
	switch r.Intn(3) {
	case 0:
		x = hi
	case 1:
		x = new(big.Int).Add(lo, span.Rand(r, span))
	}
	return says(int(x.Int64())+65536*(r.Intn(9)-4), off)
}

// tooFar tells whether a way could be as long as half a turn: by the bound and the measure's own Err, what lies between the two passes it.
func tooFar(c *est.Compass, k turning) bool {
	_, bound, _ := c.Heading()
	grows := 4096
	if k.rate.Ok {
		grows = k.rate.Err
	}
	return k.heading.Ok && bound+grows+16*k.heading.Err >= halfRound
}

// P13.5: headings, rates and Errs at an int's ends and about half a turn, all pairs of them, held against the clerk.
func TestCompassAtTheEnds(t *testing.T) {
	xs := append(ends(), 32767, 32768, 32769, 65535, 65536, 65537, -32768, -32769, halfRound-1, halfRound, halfRound+1, round-1, round, round+1)
	for _, x := range xs {
		for _, y := range xs {
			for _, off := range append(ends(), 4095, 4096, 65535, 65536, 65537) {
				followCompass(t, 1, turning{mute(), says(x, 3)}, turning{says(y, off), mute()}, turning{mute(), says(y, off)})
				followCompass(t, 1, turning{mute(), says(x, off)}, turning{says(x, 1), says(y, off)}, turning{says(y, off), says(y, 0)})
			}
		}
	}
}

// P13.5: from all headings within some 16ths of every eighth of a turn, to all headings about half a turn off.
func TestAllWays(t *testing.T) {
	for eighth := range 8 {
		for h := -20; h <= 20; h++ {
			at := (eighth*round/8 + h + round) % round
			for x := -3; x <= 3; x++ {
				for _, to := range []int{0, 4096, 16384, 32768, 65536 - 4096} {
					followCompass(t, 5, turning{mute(), says(0, 0)}, turning{says(at, 0), mute()}, turning{says(0, 0), says(at/16+to+x, 0)})
				}
			}
		}
	}
}

// P13.5, P13.6: any script, held against the document's words.
func TestAnyTurns(t *testing.T) {
	r := rand.New(rand.NewSource(137))
	for range 20000 {
		followCompass(t, []int{1, 2, 3, 5, most - 1, most}[r.Intn(6)], someTurns(r)...)
	}
}

// P13.6: Heading may be asked at any time, and however often.
func TestCompassAsking(t *testing.T) {
	r := rand.New(rand.NewSource(138))
	for range 300 {
		asked, left := freshCompass(t, 2), freshCompass(t, 2)
		for _, k := range someTurns(r) {
			asked.Step(k.rate, k.heading)
			left.Step(k.rate, k.heading)
			for range 5 {
				point(asked)
			}
		}
		if point(asked) != point(left) {
			t.Fatalf("%+v, %+v", point(asked), point(left))
		}
	}
}

// R2: compasses know nothing of each other.
func TestCompassesApart(t *testing.T) {
	r := rand.New(rand.NewSource(139))
	a, b := freshCompass(t, 1), freshCompass(t, 3)
	ca, cb := &compassClerk{stale: 1}, &compassClerk{stale: 3}
	for i := range 200 {
		for _, k := range someTurns(r) {
			if r.Intn(2) == 0 {
				swing(a, k)
				ca.swing(k)
			} else {
				swing(b, k)
				cb.swing(k)
			}
			if point(a) != ca.tell() || point(b) != cb.tell() {
				t.Fatalf("script %d, %+v: %+v, %+v", i, k, point(a), point(b))
			}
		}
	}
	if n := freshCompass(t, 1); point(n) != (pointed{}) {
		t.Errorf("a new one behind them: %+v", point(n))
	}
}

// R2: a nil Compass answers zero values to each call, and does nothing.
func TestNilCompass(t *testing.T) {
	var none *est.Compass
	if point(none) != (pointed{}) {
		t.Errorf("%+v", point(none))
	}
	for _, x := range ends() {
		for _, m := range []api.Measure{mute(), says(x, 1), says(x, x)} {
			for _, k := range []turning{{m, m}, {mute(), m}, {m, says(3, 1)}} {
				if got := swing(none, k); got != (pointed{}) {
					t.Errorf("%+v: %+v", k, got)
				}
			}
		}
	}
}
