package guard_test

import (
	"math/rand"
	"testing"

	"windhover/guard"
)

// falls are falls at edges.
func falls() []int {
	return append(ends(), -8000, -1, 0, 1, 31, 32, 33, 63, 64, 65, 8000)
}

// pair is a backup and its clerk.
type pair struct {
	b *guard.Backup
	c clerk
}

func pairOf(t *testing.T) *pair {
	t.Helper()
	b := guard.NewBackup()
	if b == nil {
		t.Fatal("no backup")
	}
	return &pair{b: b}
}

// step does a step on both, and holds them against each other; Falling is asked with the fall, greater and lesser ones, and the edges.
func (p *pair) step(t *testing.T, sink bool, speeds [3]int, fall int) [3]int {
	t.Helper()
	before := p.c.ref
	asked, want := p.b.Step(sink, speeds, fall), p.c.step(sink, speeds, fall)
	if asked != want {
		t.Fatalf("from %d: Step(%v, %v, %d) = %v; asked for: %v", before, sink, speeds, fall, asked, want)
	}
	p.falling(t, fall, more(fall, 1), less(fall, 1), -p.c.ref, -p.c.ref+1, -p.c.ref-1)
	return asked
}

// falling holds Falling of some falls against the clerk's.
func (p *pair) falling(t *testing.T, list ...int) {
	t.Helper()
	for _, fall := range list {
		if p.b.Falling(fall) != p.c.falling(fall) {
			t.Fatalf("Falling(%d) at the reference %d: %v", fall, p.c.ref, p.b.Falling(fall))
		}
	}
}

// sunk is a pair whose fall reference is -32 times n.
func sunk(t *testing.T, n int) *pair {
	t.Helper()
	p := pairOf(t)
	for range n {
		p.step(t, true, [3]int{}, most)
	}
	return p
}

// P18.3, P18.4: the rows of 'Examples'.
func TestBackupExamples(t *testing.T) {
	p := pairOf(t)
	if asked := p.step(t, false, [3]int{100, -10, 70}, 8000); asked != [3]int{-64, 10, -64} {
		t.Error(asked)
	}
	for i, want := range [][3]int{{0, 0, -32}, {0, 0, -64}} {
		if asked := p.step(t, true, [3]int{}, 8000); asked != want {
			t.Error(i, asked)
		}
	}
	if p.b.Falling(8000) || !p.b.Falling(64) {
		t.Error(p.b.Falling(8000), p.b.Falling(64))
	}
}

// P18.3, P18.4: a new backup does not fall: only a fall of 0 is whole.
func TestBackupNew(t *testing.T) {
	p := pairOf(t)
	for _, fall := range falls() {
		if p.b.Falling(fall) != (fall <= 0) {
			t.Error(fall, p.b.Falling(fall))
		}
	}
	if asked := p.step(t, true, [3]int{}, 8000); asked != [3]int{0, 0, -32} {
		t.Error(asked)
	}
}

// P18.3: rows reckoned by hand, one behind the other: the reference goes by 32, stops at the fall, jumps to a lesser fall, goes on to a greater one, and is 0 without sink.
func TestBackupByHand(t *testing.T) {
	p := pairOf(t)
	for i, c := range []struct {
		sink    bool
		fall    int
		asked   int // at rest, so the reference itself down to -64
		falling bool
	}{
		{true, 0, 0, true}, {true, -1, 0, true}, {true, least, 0, true}, {true, 1, -1, true}, {true, 31, -31, true}, {true, 32, -32, true}, {true, 33, -33, true}, {true, 65, -64, true},
		{true, 31, -31, true}, {true, 64, -63, false}, {true, 64, -64, true}, {true, 8000, -64, false}, {true, 1, -1, true}, {true, 8000, -33, false}, {true, 0, 0, true}, {true, most, -32, false},
		{false, 8000, 0, false}, {false, 0, 0, true}, {true, 8000, -32, false}, {false, 8000, 0, false}, {false, -7, 0, true}, {true, 40, -32, false}, {true, 40, -40, true}, {true, 40, -40, true},
		{false, least, 0, true}, {true, 33, -32, false}, {true, 33, -33, true}, {true, -33, 0, true},
	} {
		asked := p.step(t, c.sink, [3]int{}, c.fall)
		if asked != [3]int{0, 0, c.asked} || p.b.Falling(c.fall) != c.falling {
			t.Fatalf("%d: %v, Falling %v; asked for: %d, %v", i, asked, p.b.Falling(c.fall), c.asked, c.falling)
		}
	}
}

// P18.3: the fall reference goes down by 32 a step to any fall, and no further; a speed next to it shows it.
func TestBackupSinks(t *testing.T) {
	for _, fall := range falls() {
		p := pairOf(t)
		deepest := max(fall, 0)
		for n := 1; n <= 300; n++ {
			ref := -min(32*n, deepest)
			asked := p.step(t, true, [3]int{0, 0, ref + 5}, fall)
			if asked != [3]int{0, 0, -5} || p.b.Falling(fall) != (32*n >= deepest) {
				t.Fatalf("fall %d, step %d: %v, Falling %v", fall, n, asked, p.b.Falling(fall))
			}
		}
		if asked := p.step(t, false, [3]int{0, 0, 5}, fall); asked != [3]int{0, 0, -5} || p.b.Falling(fall) != (fall <= 0) {
			t.Fatalf("fall %d, no sink: %v, Falling %v", fall, asked, p.b.Falling(fall))
		}
	}
}

// P18.3: the reference just above, at and below fall with its sign turned, ahead of a step and behind it.
func TestBackupAtTheFall(t *testing.T) {
	for n := range 6 {
		for _, fall := range append(about(32*n-32, 32*n, 32*n+32, 32*n+64), falls()...) {
			p := sunk(t, n)
			p.falling(t, fall)
			p.step(t, true, [3]int{1, 2, -32 * n}, fall)
			p.step(t, true, [3]int{1, 2, -32 * n}, fall)
			p.step(t, false, [3]int{1, 2, -32 * n}, fall)
			p.step(t, true, [3]int{1, 2, -20}, fall)
		}
	}
}

// P18.4: Falling with the fall that was asked for, greater and lesser ones, and below 0; asking changes nothing.
func TestBackupFalling(t *testing.T) {
	p := pairOf(t)
	for range 3 {
		p.step(t, true, [3]int{}, 70)
	}
	for range 3 {
		for _, c := range []struct {
			fall int
			want bool
		}{{70, true}, {69, true}, {1, true}, {0, true}, {-1, true}, {-70, true}, {-71, true}, {least, true}, {71, false}, {72, false}, {8000, false}, {most - 1, false}, {most, false}} {
			if p.b.Falling(c.fall) != c.want {
				t.Errorf("Falling(%d) at the reference -70: %v", c.fall, !c.want)
			}
		}
	}
	if asked := p.step(t, true, [3]int{0, 0, -60}, 200); asked != [3]int{0, 0, -42} {
		t.Error(asked)
	}
}

// speedsAtEdges are what an axis may be told.
func speedsAtEdges() []int {
	return append(ends(), both(0, 1, 31, 32, 33, 62, 63, 64, 65, 66, 1000)...)
}

// P18.3: speeds at edges on each axis, with their sign turned and kept from -64 to 64, sunk or not.
func TestBackupSpeeds(t *testing.T) {
	for _, v := range speedsAtEdges() {
		against := min(64, max(-64, less(0, v)))
		for i := range 3 {
			p := pairOf(t)
			var speeds, want [3]int
			speeds[i], want[i] = v, against
			if asked := p.step(t, false, speeds, 8000); asked != want {
				t.Errorf("Step(false, %v, 8000) = %v", speeds, asked)
			}
			want[2] = -32
			if i == 2 {
				want[2] = min(64, max(-64, less(-32, v)))
			}
			if asked := p.step(t, true, speeds, 8000); asked != want {
				t.Errorf("Step(true, %v, 8000) = %v", speeds, asked)
			}
		}
	}
}

// P18.3: the three axes unlike each other, all speeds at edges; axes 0 and 1 know nothing of sink and fall.
func TestBackupAxesApart(t *testing.T) {
	list := speedsAtEdges()
	for _, x := range list {
		for _, y := range list {
			for i, z := range list {
				fall := falls()[i%len(falls())]
				p := sunk(t, i%4)
				p.step(t, i%3 > 0, [3]int{x, y, z}, fall)
			}
		}
	}
	p, q := pairOf(t), pairOf(t)
	r := rand.New(rand.NewSource(184))
	for range 500 {
		speeds := [3]int{r.Intn(200) - 100, r.Intn(200) - 100, 0}
		a := p.step(t, true, speeds, r.Intn(9000))
		b := q.step(t, false, speeds, any64(r))
		if a[0] != b[0] || a[1] != b[1] {
			t.Fatal(a, b)
		}
	}
}

// P18.3, P18.4: scripts of steps with any numbers, and with those of a flight.
func TestBackupScripts(t *testing.T) {
	r := rand.New(rand.NewSource(185))
	number := func(far int) int {
		if r.Intn(3) == 0 {
			return any64(r)
		}
		return r.Intn(2*far+1) - far
	}
	for range 300 {
		p := pairOf(t)
		for range 100 {
			p.step(t, r.Intn(6) > 0, [3]int{number(100), number(100), number(900)}, number(900))
			p.falling(t, number(900), any64(r))
		}
	}
}

// P18.5: the rows of 'Examples', and each of the three at edges, beside each other.
func TestSlow(t *testing.T) {
	if !guard.Slow([3]int{64, -64, 0}) || guard.Slow([3]int{65, 0, 0}) {
		t.Error("the rows of 'Examples'")
	}
	small := func(v int) bool { return v >= -64 && v <= 64 }
	list := speedsAtEdges()
	for _, x := range list {
		for _, y := range list {
			for _, z := range list {
				if guard.Slow([3]int{x, y, z}) != (small(x) && small(y) && small(z)) {
					t.Fatal(x, y, z)
				}
			}
		}
	}
	for v := -200; v <= 200; v++ {
		for i := range 3 {
			speeds := [3]int{-64, 64, 0}
			speeds[i] = v
			if guard.Slow(speeds) != small(v) {
				t.Fatal(speeds)
			}
		}
	}
}

// set is some velocities.
type set map[int]struct{}

// beyond are all velocities that an axis (0, 1, or 2 that does not sink) may have behind a tick: told off by up to e, asked by the backup, changed by up to d besides.
func beyond(b *guard.Backup, axis int, from set, e, d int) set {
	out := set{}
	for v := range from {
		for off := -e; off <= e; off++ {
			var speeds [3]int
			speeds[axis] = v + off
			to := v + b.Step(false, speeds, 8000)[axis]
			for w := to - d; w <= to+d; w++ {
				out[w] = struct{}{}
			}
		}
	}
	return out
}

// within tells whether all are at most far from 0.
func (s set) within(far int) bool {
	for v := range s {
		if v > far || v < -far {
			return false
		}
	}
	return true
}

// comesToRest tries whatever may happen to an axis of velocity v, for a while behind the ticks that it is given.
func comesToRest(t *testing.T, axis, v, e, d int) {
	t.Helper()
	b := guard.NewBackup()
	ticks := max(v, -v)/(64-d) + 2
	now := set{v: {}}
	for i := 1; i <= ticks+4; i++ {
		now = beyond(b, axis, now, e, d)
		if i >= ticks && !now.within(e+d) {
			t.Fatalf("axis %d from %d (e %d, d %d): beyond %d behind tick %d", axis, v, e, d, e+d, i)
		}
	}
}

// P18.7: an axis that the backup asks comes within e and d of 0 in no more ticks than it says, and stays there, whatever happens.
func TestComesToRest(t *testing.T) {
	for i, c := range [][2]int{{0, 0}, {1, 0}, {0, 1}, {4, 16}, {16, 4}, {10, 22}, {31, 32}, {32, 31}, {63, 0}, {0, 63}, {0, 62}, {62, 1}, {1, 62}, {16, 16}} {
		e, d := c[0], c[1]
		starts := both(0, 1, e+d, e+d+1, 63-d, 64-d, 65-d, 64-e, 65-e, 64, 65, 2*(64-d), 2*(64-d)-1, 300)
		for k, v := range starts {
			comesToRest(t, (i+k)%3, v, e, d)
		}
	}
}

// P18.7: long ways, with what happens drawn at random, mostly from the ends.
func TestComesToRestFromAfar(t *testing.T) {
	r := rand.New(rand.NewSource(188))
	off := func(x int) int { return [3]int{x, -x, r.Intn(2*x+1) - x}[r.Intn(3)] }
	for i := range 3000 {
		e := r.Intn(64)
		d := r.Intn(64 - e)
		v, b := r.Intn(80001)-40000, guard.NewBackup()
		against := 1 // each third flight is pushed on as far as may be
		if v < 0 {
			against = -1
		}
		ticks := max(v, -v)/(64-d) + 2
		for k := 1; k <= ticks+50; k++ {
			told, pushed := off(e), off(d)
			if i%3 == 0 {
				told, pushed = -against*e, against*d
			}
			var speeds [3]int
			speeds[i%3] = v + told
			v += b.Step(false, speeds, 8000)[i%3] + pushed
			if k >= ticks && (v > e+d || v < -e-d) {
				t.Fatalf("e %d, d %d: %d behind tick %d of %d", e, d, v, k, ticks)
			}
		}
	}
}

// R2: backups know nothing of each other, nor does a copy of its first one.
func TestBackupsApart(t *testing.T) {
	r := rand.New(rand.NewSource(189))
	list := []*pair{pairOf(t), pairOf(t), sunk(t, 3)}
	copied := *list[2].b
	list = append(list, &pair{b: &copied, c: list[2].c})
	for range 2000 {
		p := list[r.Intn(len(list))]
		p.step(t, r.Intn(9) > 0, [3]int{r.Intn(200) - 100, r.Intn(200) - 100, -r.Intn(900)}, r.Intn(900))
		for _, q := range list {
			q.falling(t, -q.c.ref, -q.c.ref+1)
		}
	}
}

// R1, R2: a nil backup answers zero values and does nothing; one that NewBackup did not make does not panic.
func TestNilBackup(t *testing.T) {
	var none *guard.Backup
	var blank guard.Backup
	for _, fall := range falls() {
		for _, sink := range []bool{false, true, true} {
			speeds := [3]int{100, least, most}
			if asked := none.Step(sink, speeds, fall); asked != [3]int{} || none.Falling(fall) {
				t.Error(sink, fall, asked, none.Falling(fall))
			}
			blank.Step(sink, speeds, fall)
			blank.Falling(fall)
		}
	}
}
