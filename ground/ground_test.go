package ground_test

import (
	"math"
	"math/big"
	"math/rand"
	"testing"

	"windhover/ground"
)

const (
	most   = math.MaxInt
	least  = math.MinInt
	settle = 40    // steps one behind the other that make a landing
	stop   = 65535 // where the count stops
)

// step is what a detector is given in a tick.
type step struct {
	falling     bool
	climb, fall int
}

// stand is a step that looks like standing, on its edge; sink one that does not, by 1.
func stand() step { return step{true, -4000, 8000} }
func sink() step  { return step{true, -4001, 8000} }

// ends are numbers at the ends of an int, at their halves, about 0, and between.
func ends() []int {
	return []int{
		least, least + 1, least + 2, least + 3, -1<<62 - 1, -1 << 62, -1<<62 + 1, -1 << 32, -8001, -8000, -4001, -4000, -3999,
		-4, -3, -2, -1, 0, 1, 2, 3, 4,
		3999, 4000, 4001, 8000, 8001, 1 << 32, 1<<62 - 1, 1 << 62, 1<<62 + 1, most - 3, most - 2, most - 1, most,
	}
}

// falls are the ends, and falls that are even and odd, above and below 0.
func falls() []int {
	list := ends()
	for f := -130; f <= 130; f++ {
		list = append(list, f, 8000+f, -8000+f)
	}
	return list
}

// looksSo is the document's look, in numbers of any size.
func looksSo(s step) bool {
	over := new(big.Int).Quo(big.NewInt(int64(s.fall)), big.NewInt(2)) // Quo cuts off
	return s.falling && big.NewInt(int64(s.climb)).Cmp(over.Neg(over)) >= 0
}

// clerk keeps every look of a detector's life, and counts anew each time that it is asked.
type clerk struct{ looks []bool }

func (c *clerk) step(s step) (bool, int) {
	c.looks = append(c.looks, looksSo(s))
	row := 0
	for i := len(c.looks) - 1; i >= 0 && c.looks[i]; i-- {
		row++
	}
	return row >= settle, min(row, stop)
}

// feed gives a detector a step, and holds what it answers, and Seen behind it, against what is asked for.
func feed(t *testing.T, d *ground.Detector, s step, yes bool, seen int) {
	t.Helper()
	if got := d.Step(s.falling, s.climb, s.fall); got != yes || d.Seen() != seen {
		t.Fatalf("%+v: %v, seen %d; asked for: %v, seen %d", s, got, d.Seen(), yes, seen)
	}
}

// settled is a detector behind so many steps that look like standing.
func settled(steps int) *ground.Detector {
	d := ground.New()
	for range steps {
		s := stand()
		d.Step(s.falling, s.climb, s.fall)
	}
	return d
}

// P15.1: a new detector is one, and has seen nothing; its first step is a first one.
func TestNew(t *testing.T) {
	d := ground.New()
	if d == nil {
		t.Fatal("no detector")
	}
	for range 3 {
		if d.Seen() != 0 {
			t.Fatal(d.Seen())
		}
	}
	feed(t, d, stand(), false, 1)
	feed(t, ground.New(), sink(), false, 0)
}

// P15.2: the chapter's examples, each as a detector's first step and behind others.
func TestExamples(t *testing.T) {
	for i, c := range []struct {
		s    step
		seen int
	}{
		{step{true, -4000, 8000}, 1}, {step{true, -4001, 8000}, 0}, {step{false, 0, 8000}, 0}, {step{true, 0, -1}, 1},
	} {
		feed(t, ground.New(), c.s, false, c.seen)
		feed(t, settled(5), c.s, false, 6*c.seen)
		feed(t, settled(settle), c.s, c.seen == 1, (settle+1)*c.seen)
		if looksSo(c.s) != (c.seen == 1) {
			t.Error(i, "the clerk is wrong")
		}
	}
	d := ground.New()
	for i := 1; i <= 3*settle; i++ {
		feed(t, d, stand(), i >= 40, i)
	}
}

// P15.2: climbs at the edge, one less and one more, written out by hand.
func TestEdgesByHand(t *testing.T) {
	for _, c := range []struct{ fall, edge int }{
		{8000, -4000}, {8001, -4000}, {7999, -3999}, {-8000, 4000}, {-8001, 4000}, {-7999, 3999},
		{0, 0}, {1, 0}, {-1, 0}, {2, -1}, {-2, 1}, {3, -1}, {-3, 1}, {4, -2}, {-4, 2},
		{most, -(1<<62 - 1)}, {most - 1, -(1<<62 - 1)}, {most - 2, -(1<<62 - 2)},
		{least, 1 << 62}, {least + 1, 1<<62 - 1}, {least + 2, 1<<62 - 1}, {least + 3, 1<<62 - 2},
	} {
		feed(t, settled(2), step{true, c.edge - 1, c.fall}, false, 0)
		feed(t, settled(2), step{true, c.edge, c.fall}, false, 3)
		feed(t, settled(2), step{true, c.edge + 1, c.fall}, false, 3)
		feed(t, settled(2), step{true, least, c.fall}, false, 0)
		feed(t, settled(2), step{true, most, c.fall}, false, 3)
	}
}

// P15.2: climbs about the edges of falls of all sorts, and all pairs of numbers at an int's ends, falling and not.
func TestLook(t *testing.T) {
	for _, fall := range falls() {
		edge := -(fall / 2)
		for _, climb := range append(ends(), edge-2, edge-1, edge, edge+1, edge+2, fall, -fall) {
			seen := 0
			if looksSo(step{true, climb, fall}) {
				seen = 1
			}
			feed(t, ground.New(), step{true, climb, fall}, false, seen)
			feed(t, settled(1), step{false, climb, fall}, false, 0)
		}
	}
}

// P15.2: not falling never looks so, whatever climb and fall are, even where the vehicle has stood for long.
func TestNotFalling(t *testing.T) {
	for _, fall := range ends() {
		for _, climb := range ends() {
			feed(t, settled(settle+3), step{false, climb, fall}, false, 0)
		}
	}
}

// P15.2, P15.3: a step that does not look so, ahead of the 40th, at it and behind it, whatever makes it so; it begins anew there.
func TestBeginsAnew(t *testing.T) {
	for ahead := 0; ahead <= 2*settle+3; ahead++ {
		for _, s := range []step{sink(), {false, 0, 8000}, {false, most, least}, {true, least, most}, {true, -1, -1}} {
			d := settled(ahead)
			if d.Seen() != ahead {
				t.Fatal(ahead, d.Seen())
			}
			feed(t, d, s, false, 0)
			for i := 1; i <= settle+2; i++ {
				feed(t, d, stand(), i >= settle, i)
			}
		}
	}
}

// P15.2, P15.3: the count stops at 65535, still says yes there, and begins anew from there.
func TestStops(t *testing.T) {
	d := ground.New()
	for i := 1; i <= stop+1000; i++ {
		feed(t, d, stand(), i >= settle, min(i, stop))
	}
	feed(t, d, sink(), false, 0)
	for i := 1; i <= settle; i++ {
		feed(t, d, stand(), i >= settle, i)
	}
	for _, steps := range []int{stop - 1, stop, stop + 1, 2*stop + 2} {
		d := settled(steps)
		if d.Seen() != min(steps, stop) {
			t.Error(steps, d.Seen())
		}
		feed(t, d, stand(), true, stop)
		feed(t, d, sink(), false, 0)
	}
}

// P15.3: asking changes nothing.
func TestAsking(t *testing.T) {
	d := ground.New()
	for i := 1; i <= settle+1; i++ {
		feed(t, d, stand(), i >= settle, i)
		for range 50 {
			if d.Seen() != i {
				t.Fatal(i, d.Seen())
			}
		}
	}
}

// P15.4: whatever the steps are, no yes comes ahead of 40 that look so, one behind the other, and a yes ends with the first that does not.
func TestNoFewer(t *testing.T) {
	r := rand.New(rand.NewSource(154))
	for range 300 {
		d, row := ground.New(), 0
		odds := 1 + r.Intn(120)
		for range 400 {
			s := stand()
			if r.Intn(odds) == 0 {
				s = sink()
				row = -1
			}
			row++
			if yes := d.Step(s.falling, s.climb, s.fall); yes != (row >= settle) {
				t.Fatal(row, yes)
			}
		}
	}
	for gap := 1; gap < settle; gap++ {
		d := ground.New()
		for i := 1; i <= 5000; i++ {
			s := stand()
			if i%(gap+1) == 0 {
				s = sink()
			}
			if d.Step(s.falling, s.climb, s.fall) {
				t.Fatal("yes behind", gap)
			}
		}
	}
}

// P15.2 to P15.4: scripts at random are answered as the clerk answers them.
func TestScripts(t *testing.T) {
	r := rand.New(rand.NewSource(15))
	for range 200 {
		d, c := ground.New(), &clerk{}
		odds := 1 + r.Intn(90)
		for range 300 {
			s := someStep(r, odds)
			yes, seen := c.step(s)
			feed(t, d, s, yes, seen)
		}
	}
}

// someStep is a step at random: one in odds is of any sort, the others lie at the edge or above it.
func someStep(r *rand.Rand, odds int) step {
	fall := int(r.Uint64()) >> r.Intn(64)
	if r.Intn(4) == 0 {
		fall = ends()[r.Intn(len(ends()))]
	}
	s := step{true, -(fall / 2), fall}
	if r.Intn(odds) == 0 {
		return step{r.Intn(3) > 0, s.climb + r.Intn(5) - 3, fall}
	}
	s.climb += r.Intn(3)
	return s
}

// P15.4: detectors know nothing of each other, however their steps lie among one another.
func TestApart(t *testing.T) {
	r := rand.New(rand.NewSource(4))
	var ds [4]*ground.Detector
	var cs [4]clerk
	for i := range ds {
		ds[i] = ground.New()
	}
	for range 4000 {
		i := r.Intn(len(ds))
		s := someStep(r, 20*(i+1))
		yes, seen := cs[i].step(s)
		feed(t, ds[i], s, yes, seen)
	}
	a, b := settled(settle-1), ground.New()
	feed(t, b, sink(), false, 0)
	feed(t, a, stand(), true, settle)
	feed(t, b, stand(), false, 1)
}

// P15.4: a detector that was copied goes its own way.
func TestCopied(t *testing.T) {
	a := settled(settle - 1)
	b := *a
	feed(t, &b, sink(), false, 0)
	feed(t, a, stand(), true, settle)
	feed(t, &b, stand(), false, 1)
}

// P15.2, P15.3 (R2): a nil detector answers zero values, however it is asked.
func TestNil(t *testing.T) {
	var d *ground.Detector
	for range settle + 5 {
		feed(t, d, stand(), false, 0)
	}
	for _, x := range ends() {
		feed(t, d, step{true, x, x}, false, 0)
		feed(t, d, step{false, x, x}, false, 0)
	}
}

// P15.2, P15.3 (R1): a detector that New did not make does not panic, and never says yes.
func TestUnmade(t *testing.T) {
	var d ground.Detector
	for range settle + 5 {
		feed(t, &d, stand(), false, 0)
	}
}
