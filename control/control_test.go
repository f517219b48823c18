package control_test

import (
	"math"
	"math/big"
	"math/rand"
	"testing"

	"windhover/api"
	"windhover/control"
	"windhover/params"
)

const (
	most  = math.MaxInt
	least = math.MinInt
)

// about is a number, one less and one more.
func about(list ...int) []int {
	var out []int
	for _, x := range list {
		out = append(out, x-1, x, x+1)
	}
	return out
}

// both are numbers with both signs.
func both(list ...int) []int {
	var out []int
	for _, x := range list {
		out = append(out, x, -x)
	}
	return out
}

// ends are numbers at the ends of an int, and far from 0.
func ends() []int {
	return []int{least, least + 1, least + 2, -1 << 62, -1 << 32, 1 << 32, 1 << 62, most - 2, most - 1, most}
}

// any64 is a number of any size, near an end now and then.
func any64(r *rand.Rand) int {
	switch r.Intn(6) {
	case 0:
		return least + r.Intn(200)
	case 1:
		return most - r.Intn(200)
	}
	return int(r.Uint64()) >> r.Intn(64)
}

func whole(x int) *big.Int { return big.NewInt(int64(x)) }

// told is a number of any size, kept from lo to hi.
func told(x *big.Int, lo, hi int) int {
	if x.Cmp(whole(lo)) < 0 {
		return lo
	}
	if x.Cmp(whole(hi)) > 0 {
		return hi
	}
	return int(x.Int64())
}

// less is a - b, kept within an int, of numbers of any size.
func less(a, b int) int { return told(new(big.Int).Sub(whole(a), whole(b)), least, most) }

// lawful is the document's Law.
func lawful(far, speed, accel int) int {
	if speed < 1 || accel < 1 {
		return 0
	}
	m := whole(told(new(big.Int).Abs(whole(far)), 0, most))
	product := whole(told(new(big.Int).Mul(whole(accel), m), least, most))
	root := new(big.Int).Sqrt(product)
	part := new(big.Int).Div(m, whole(32))
	v := whole(speed)
	if root.Cmp(v) < 0 {
		v = root
	}
	if part.Cmp(v) < 0 {
		v = part
	}
	if far < 0 {
		return -int(v.Int64())
	}
	return int(v.Int64())
}

// twisted is the document's Twist.
func twisted(heading, rate, bound int) int {
	turn := whole(16 * 65536)
	h := new(big.Int).Mod(whole(heading), turn) // from 0 on
	if h.Cmp(whole(8*65536)) >= 0 {
		h.Sub(h, turn)
	}
	h.Quo(h, whole(64)).Neg(h)
	if bound < 0 {
		bound = 0
	}
	d := new(big.Int).Sub(whole(told(h, -bound, bound)), whole(rate))
	return told(d.Quo(d, whole(4)), -100, 100)
}

// clerk keeps references by the document's words.
type clerk struct {
	accel int
	refs  [3]int
}

func (c *clerk) step(wants [3]api.Want, places, speeds [3]int) [3]int {
	var asked [3]int
	for i, w := range wants {
		aim := w.Speed
		if w.Hold {
			aim = lawful(less(w.At, places[i]), w.Speed, c.accel)
		}
		gap := new(big.Int).Sub(whole(aim), whole(c.refs[i]))
		switch {
		case gap.CmpAbs(whole(c.accel)) <= 0:
			c.refs[i] = aim
		case gap.Sign() > 0:
			c.refs[i] += c.accel
		default:
			c.refs[i] -= c.accel
		}
		asked[i] = told(new(big.Int).Sub(whole(c.refs[i]), whole(speeds[i])), -64, 64)
	}
	return asked
}

// law is Law, held against the clerk.
func law(t *testing.T, far, speed, accel int) int {
	t.Helper()
	v := control.Law(far, speed, accel)
	if want := lawful(far, speed, accel); v != want {
		t.Fatalf("Law(%d, %d, %d) = %d; asked for: %d", far, speed, accel, v, want)
	}
	return v
}

// twist is Twist, held against the clerk.
func twist(t *testing.T, heading, rate, bound int) int {
	t.Helper()
	v := control.Twist(heading, rate, bound)
	if want := twisted(heading, rate, bound); v != want {
		t.Fatalf("Twist(%d, %d, %d) = %d; asked for: %d", heading, rate, bound, v, want)
	}
	return v
}

// list are the defaults with an Accel (and no wind, so that all are sound).
func list(accel int) []int {
	values := params.Defaults()
	values[api.Wind], values[api.Accel] = 0, accel
	return values
}

// steer is a sound one of an Accel.
func steer(t *testing.T, accel int) *control.Steer {
	t.Helper()
	s, e := control.New(list(accel))
	if e != api.OK || s == nil {
		t.Fatal(s, int(e))
	}
	return s
}

// pair is a steer and its clerk.
type pair struct {
	s *control.Steer
	c clerk
}

func pairOf(t *testing.T, accel int) *pair {
	t.Helper()
	return &pair{s: steer(t, accel), c: clerk{accel: accel}}
}

// step does a step on both, and holds them against each other.
func (p *pair) step(t *testing.T, wants [3]api.Want, places, speeds [3]int) [3]int {
	t.Helper()
	before := p.s.Refs()
	asked, want := p.s.Step(wants, places, speeds), p.c.step(wants, places, speeds)
	if asked != want || p.s.Refs() != p.c.refs {
		t.Fatalf("from %v by %d: Step(%v, %v, %v) = %v, Refs %v; asked for: %v, %v", before, p.c.accel, wants, places, speeds, asked, p.s.Refs(), want, p.c.refs)
	}
	return asked
}

// rest sets references on both.
func (p *pair) rest(t *testing.T, refs [3]int) {
	t.Helper()
	p.s.Rest(refs)
	p.c.refs = refs
	if p.s.Refs() != refs {
		t.Fatalf("Refs behind Rest(%v) are %v", refs, p.s.Refs())
	}
}

// P17.1: the rows of 'Examples'.
func TestLawExamples(t *testing.T) {
	for _, c := range [][4]int{
		{31, 100, 12, 0}, {32, 100, 12, 1}, {-64000, 10000, 12, -876}, {10000000, 10000, 12, 10000}, {5, 0, 12, 0},
		{6400000, 16000, 12, 8763},
	} {
		if v := law(t, c[0], c[1], c[2]); v != c[3] {
			t.Error(c, v)
		}
	}
}

// P17.1: rows reckoned by hand, each of the three the least in turn, and the ends of an int.
func TestLawByHand(t *testing.T) {
	for _, c := range [][4]int{
		{0, 100, 12, 0}, {1, 100, 12, 0}, {-1, 100, 12, 0}, {-31, 100, 12, 0}, {-32, 100, 12, -1}, {33, 100, 12, 1}, {-33, 100, 12, -1}, {63, 100, 12, 1}, {64, 100, 12, 2}, {-63, 100, 12, -1},
		{3200, 99, 12, 99}, {3200, 100, 12, 100}, {3200, 101, 12, 100},
		{3200, 100, 4, 100}, {32000, 1000, 4, 357}, {-32000, 1000, 4, -357},
		{1000, 0, 12, 0}, {1000, -1, 12, 0}, {1000, least, 12, 0}, {1000, 1, 12, 1}, {-1000, 1, 12, -1}, {1000, most, 12, 31},
		{1000, 100, 0, 0}, {1000, 100, -1, 0}, {1000, 100, least, 0}, {1000, 100, most, 31}, {102400, 9999, 1, 320},
		{1000, -5, -5, 0}, {-1000, 0, 0, 0}, {-1000, least, least, 0},
		{most, most, 1, 3037000499}, {least, most, 1, -3037000499}, {least + 1, most, 1, -3037000499},
		{most, most, most, 3037000499}, {least, most, most, -3037000499}, {most, 12345, 32, 12345}, {least, 12345, 32, -12345}, {least, 1, 1, -1}, {least, 0, 1, 0},
		{1 << 62, most, 2, 3037000499}, {1 << 62, most, 1, 1 << 31}, {1<<62 - 1, most, 1, 1<<31 - 1}, {1 << 61, most, 4, 3037000499},
	} {
		if v := law(t, c[0], c[1], c[2]); v != c[3] {
			t.Errorf("Law(%d, %d, %d) = %d; asked for: %d", c[0], c[1], c[2], v, c[3])
		}
	}
}

// P17.1: all numbers at edges, held against the clerk.
func TestLawEdges(t *testing.T) {
	fars := append(ends(), both(about(0, 32, 64, 3200, 32*16000, 1<<40)...)...)
	rates := append(ends(), about(0, 12, 32, 1000, 16000)...)
	for _, far := range fars {
		for _, speed := range rates {
			for _, accel := range rates {
				law(t, far, speed, accel)
			}
		}
	}
}

// P17.1: roots just below, at and above a square, with both signs.
func TestLawRoots(t *testing.T) {
	for _, accel := range []int{1, 4, 9, 16} {
		side := map[int]int{1: 1, 4: 2, 9: 3, 16: 4}[accel]
		// Beyond 32 times accel the root is less than a 32nd of the way.
		for k := 32*side + 32; k < 700; k++ {
			far := k * k
			root := k * side
			if v := law(t, far, most, accel); v != root {
				t.Fatalf("Law(%d, most, %d) = %d; asked for: %d", far, accel, v, root)
			}
			if v := law(t, far-1, most, accel); v != root-1 {
				t.Fatalf("Law(%d, most, %d) = %d; asked for: %d", far-1, accel, v, root-1)
			}
			if v := law(t, -far-1, most, accel); v != -root {
				t.Fatalf("Law(%d, most, %d) = %d; asked for: %d", -far-1, accel, v, -root)
			}
		}
	}
}

// P17.1, P17.7: any numbers; the same both ways, never above speed.
func TestLawAnyNumbers(t *testing.T) {
	r := rand.New(rand.NewSource(171))
	for range 100000 {
		far, speed, accel := any64(r), any64(r), any64(r)
		if r.Intn(2) == 0 {
			speed, accel = r.Intn(70000), r.Intn(40)
		}
		v := law(t, far, speed, accel)
		if far > least && control.Law(-far, speed, accel) != -v {
			t.Fatalf("Law(%d, %d, %d) is not the same both ways", far, speed, accel)
		}
		if v > max(speed, 0) || v < -max(speed, 0) {
			t.Fatalf("Law(%d, %d, %d) = %d is faster than speed", far, speed, accel, v)
		}
	}
}

// P17.7: Law is the more, the further.
func TestLawRises(t *testing.T) {
	for _, speed := range []int{1, 100, 16000, most} {
		for _, accel := range []int{1, 4, 12, 32, most} {
			before := law(t, -40000, speed, accel)
			for far := -39999; far <= 40000; far++ {
				v := control.Law(far, speed, accel)
				if v < before {
					t.Fatalf("Law(%d, %d, %d) = %d, ahead of it %d", far, speed, accel, v, before)
				}
				before = v
			}
		}
	}
	r := rand.New(rand.NewSource(177))
	for range 50000 {
		a, b, speed, accel := any64(r), any64(r), any64(r), any64(r)
		if control.Law(min(a, b), speed, accel) > control.Law(max(a, b), speed, accel) {
			t.Fatalf("Law at %d and %d does not rise (%d, %d)", a, b, speed, accel)
		}
	}
}

// P17.2: lists that are refused, with params.Check's error and no steer.
func TestNewRefused(t *testing.T) {
	changed := func(i, x int) []int {
		values := params.Defaults()
		values[i] = x
		return values
	}
	for _, c := range []struct {
		values []int
		e      api.Errno
	}{
		{nil, api.ErrSize}, {[]int{}, api.ErrSize}, {params.Defaults()[:23], api.ErrSize}, {append(params.Defaults(), 0), api.ErrSize},
		{make([]int, 24), api.ErrRange}, {changed(api.Wind, 17), api.ErrRange}, {changed(api.Accel, 3), api.ErrRange}, {changed(api.Accel, 33), api.ErrRange},
		{changed(api.Accel, least), api.ErrRange}, {changed(api.Accel, most), api.ErrRange}, {changed(api.TurnRate, 15), api.ErrRange},
		{changed(api.Radius, 200), api.ErrRule}, {changed(api.TakeoffAlt, 6000), api.ErrRule},
	} {
		if e := params.Check(c.values); e != c.e {
			t.Fatal("Check answers", int(e), "of", c.values)
		}
		if s, e := control.New(c.values); s != nil || e != c.e {
			t.Errorf("New(%v) = %v, %d; asked for: nil, %d", c.values, s, int(e), int(c.e))
		}
	}
}

// P17.2: sound lists of all Accels; references begin at 0, and go by Accel.
func TestNewSound(t *testing.T) {
	for accel := 4; accel <= 32; accel++ {
		s := steer(t, accel)
		if s.Refs() != [3]int{} {
			t.Fatal(accel, s.Refs())
		}
		s.Step([3]api.Want{{Speed: 1000}, {Speed: -1000}, {}}, [3]int{}, [3]int{})
		if s.Refs() != [3]int{accel, -accel, 0} {
			t.Fatal(accel, s.Refs())
		}
	}
	if s, e := control.New(params.Defaults()); s == nil || e != api.OK {
		t.Error("the defaults are refused", int(e))
	}
}

// P17.2, R2: a list that is changed behind New changes nothing; New writes nothing into it.
func TestNewKeepsNoList(t *testing.T) {
	room := append(params.Defaults(), 77, 78)
	values := room[:24]
	s, e := control.New(values)
	if e != api.OK {
		t.Fatal(int(e))
	}
	for i, x := range params.Defaults() {
		if values[i] != x {
			t.Error("New wrote into place", i)
		}
	}
	if room[24] != 77 || room[25] != 78 {
		t.Error("New wrote into the spare room")
	}
	for i := range values {
		values[i] = 1
	}
	if a := s.Step([3]api.Want{{Speed: 30}}, [3]int{}, [3]int{}); a != [3]int{12, 0, 0} {
		t.Error(a)
	}
}

// P17.3: the chapter's example, step by step.
func TestStepExamples(t *testing.T) {
	s, e := control.New(params.Defaults())
	if e != api.OK {
		t.Fatal(int(e))
	}
	speed := 0
	for i, want := range []int{12, 12, 6, 0} {
		asked := s.Step([3]api.Want{{Speed: 30}}, [3]int{}, [3]int{speed})
		if asked != [3]int{want, 0, 0} {
			t.Fatal(i, asked)
		}
		speed += asked[0]
	}
	if s.Refs() != [3]int{30, 0, 0} {
		t.Error(s.Refs())
	}
	s, _ = control.New(params.Defaults())
	far := [3]api.Want{{Hold: true, At: 6400000, Speed: 16000}}
	if asked := s.Step(far, [3]int{}, [3]int{}); asked != [3]int{12, 0, 0} {
		t.Error(asked)
	}
	s.Rest([3]int{8760})
	s.Step(far, [3]int{}, [3]int{8760})
	if s.Refs() != [3]int{8763, 0, 0} {
		t.Error(s.Refs())
	}
}

// P17.3: each axis by itself, with Hold and without, all three unlike each other.
func TestStepAxesApart(t *testing.T) {
	holds := func(at, speed int) api.Want { return api.Want{Hold: true, At: at, Speed: speed} }
	for _, c := range []struct {
		wants          [3]api.Want
		places, speeds [3]int
		asked, refs    [3]int
	}{
		{[3]api.Want{{Speed: 7}, {Speed: -5}, {Speed: 100}}, [3]int{1, 2, 3}, [3]int{3, 4, 5}, [3]int{4, -9, 7}, [3]int{7, -5, 12}},
		{[3]api.Want{holds(1320, 90), {Speed: 9}, holds(-320, 90)}, [3]int{1000, 50, 0}, [3]int{0, 0, -1}, [3]int{10, 9, -9}, [3]int{10, 9, -10}},
		{[3]api.Want{{Speed: -3}, holds(0, 5), {}}, [3]int{5, -6400, 6400}, [3]int{1, 1, 1}, [3]int{-4, 4, -1}, [3]int{-3, 5, 0}},
		{[3]api.Want{holds(64, 9), holds(64, 9), holds(64, 9)}, [3]int{0, 33, -64}, [3]int{}, [3]int{2, 0, 4}, [3]int{2, 0, 4}},
		// Without Hold a place and At mean nothing; with Hold a Speed below 1 is rest.
		{[3]api.Want{{At: 6400, Speed: 1}, holds(6400, 0), holds(6400, -8)}, [3]int{}, [3]int{}, [3]int{1, 0, 0}, [3]int{1, 0, 0}},
	} {
		p := pairOf(t, 12)
		if asked := p.step(t, c.wants, c.places, c.speeds); asked != c.asked || p.s.Refs() != c.refs {
			t.Errorf("Step(%v, %v, %v) = %v, Refs %v; asked for: %v, %v", c.wants, c.places, c.speeds, asked, p.s.Refs(), c.asked, c.refs)
		}
	}
}

// P17.3: an aim nearer to the reference than Accel, just as far, and further, on both sides, by velocity and by place.
func TestStepAims(t *testing.T) {
	for _, accel := range []int{4, 12, 32} {
		for _, ref := range []int{-1000, -accel, -1, 0, 1, accel, 1000} {
			for _, gap := range both(0, 1, accel-1, accel, accel+1, 2*accel, 900) {
				moved := max(-accel, min(gap, accel))
				p := pairOf(t, accel)
				p.rest(t, [3]int{ref, ref, ref})
				p.step(t, [3]api.Want{{Speed: ref + gap}, {Hold: true, At: 32 * (ref + gap), Speed: 5000}, {Speed: ref - gap}}, [3]int{}, [3]int{ref, ref, ref})
				refs := p.s.Refs()
				if refs[0] != ref+moved || refs[2] != ref-moved {
					t.Fatalf("Accel %d, from %d, aim off by %d: Refs %v", accel, ref, gap, refs)
				}
			}
		}
	}
}

// P17.3: what is asked for, 63, 64, 65 with both signs and more, ahead of being kept.
func TestStepKept(t *testing.T) {
	for _, ref := range []int{0, 500, -500} {
		for _, gap := range both(0, 1, 62, 63, 64, 65, 66, 1000) {
			p := pairOf(t, 12)
			p.rest(t, [3]int{ref, -ref, 0})
			asked := p.step(t, [3]api.Want{{Speed: ref}, {Speed: -ref}, {}}, [3]int{}, [3]int{ref - gap, -ref + gap, -gap})
			kept := max(-64, min(gap, 64))
			if asked != [3]int{kept, -kept, kept} {
				t.Fatalf("%d off: asked for %v", gap, asked)
			}
		}
	}
}

// P17.3, R4: At less the place, and the reference less the speed, stop at an int's ends.
func TestStepEnds(t *testing.T) {
	numbers := append(ends(), -64, -1, 0, 1, 64)
	for _, a := range numbers {
		for _, b := range numbers {
			for _, c := range numbers {
				p := pairOf(t, 12)
				p.rest(t, [3]int{c, a, b})
				p.step(t, [3]api.Want{{Hold: true, At: a, Speed: c}, {Speed: b}, {Hold: true, At: c, Speed: most}}, [3]int{b, a, a}, [3]int{a, c, b})
			}
		}
	}
	p := pairOf(t, 32)
	p.rest(t, [3]int{most, least, most})
	// Sums that wrapped round would push the other way.
	asked := p.step(t, [3]api.Want{{Speed: most}, {Speed: least}, {Speed: least}}, [3]int{}, [3]int{least, most, -1})
	if asked != [3]int{64, -64, 64} || p.s.Refs() != [3]int{most, least, most - 32} {
		t.Error(asked, p.s.Refs())
	}
	p.rest(t, [3]int{})
	asked = p.step(t, [3]api.Want{{Hold: true, At: most, Speed: 20}, {Hold: true, At: least, Speed: 20}, {Hold: true, At: least, Speed: 20}}, [3]int{least, most, 1}, [3]int{})
	if asked != [3]int{20, -20, -20} {
		t.Error(asked)
	}
}

// P17.4: Rest with any numbers; Refs tell them, and asking changes nothing.
func TestRest(t *testing.T) {
	s := steer(t, 12)
	for _, a := range append(ends(), -65, -1, 0, 1, 65) {
		refs := [3]int{a, 7, -a}
		s.Rest(refs)
		for range 3 {
			if s.Refs() != refs {
				t.Fatal(refs, s.Refs())
			}
		}
		refs[0], refs[2] = 1, 2 // an array of the caller's own
		if got := s.Refs(); got != [3]int{a, 7, -a} {
			t.Fatal(got)
		}
	}
	out := s.Refs()
	out[1] = 99
	if s.Refs()[1] != 7 {
		t.Error("Refs handed out its own numbers")
	}
	s.Rest([3]int{100, -100, 0})
	if asked := s.Step([3]api.Want{{}, {}, {Speed: 3}}, [3]int{}, [3]int{90, -90, 0}); asked != [3]int{-2, 2, 3} || s.Refs() != [3]int{88, -88, 3} {
		t.Error(asked, s.Refs())
	}
}

// P17.3, P17.4, P17.7: scripts of steps and rests, held against the clerk; a step changes a reference by Accel at most.
func TestScripts(t *testing.T) {
	r := rand.New(rand.NewSource(173))
	number := func() int {
		if r.Intn(4) == 0 {
			return any64(r)
		}
		return r.Intn(401) - 200
	}
	three := func() [3]int { return [3]int{number(), number(), number()} }
	for range 400 {
		p := pairOf(t, 4+r.Intn(29))
		for range 60 {
			if r.Intn(8) == 0 {
				p.rest(t, three())
				continue
			}
			var wants [3]api.Want
			for i := range wants {
				wants[i] = api.Want{Hold: r.Intn(2) == 0, At: number() * (1 + r.Intn(200)), Speed: number()}
			}
			before := p.s.Refs()
			p.step(t, wants, three(), three())
			for i, ref := range p.s.Refs() {
				change := new(big.Int).Sub(whole(ref), whole(before[i]))
				if change.CmpAbs(whole(p.c.accel)) > 0 {
					t.Fatal("a reference changed by", change, "at Accel", p.c.accel)
				}
			}
		}
	}
}

// P17.5: the rows of 'Examples'.
func TestTwistExamples(t *testing.T) {
	for _, c := range [][4]int{{0, 0, 800, 0}, {640, 0, 800, -2}, {16 * 65535, 0, 800, 0}, {0, 40, 800, -10}} {
		if v := twist(t, c[0], c[1], c[2]); v != c[3] {
			t.Error(c, v)
		}
	}
}

// P17.5: rows reckoned by hand at each edge.
func TestTwistByHand(t *testing.T) {
	const half, turn = 8 * 65536, 16 * 65536
	for _, c := range [][4]int{
		// A rate of 3 the other way brings out what is wanted by 1.
		{63, -3, 800, 0}, {64, 3, 800, -1}, {64, -3, 800, 0}, {64, -4, 800, 0}, {64, -5, 800, 1}, {65, 3, 800, -1}, {63, 3, 800, 0}, {127, 3, 800, -1}, {128, 2, 800, -1}, {127, 2, 800, 0},
		{-63, 3, 800, 0}, {-64, -3, 800, 1}, {-65, -3, 800, 1}, {-63, -3, 800, 0}, {-64, 5, 800, -1}, {-127, -2, 800, 0}, {-128, -2, 800, 1},
		{255, 0, 800, 0}, {256, 0, 800, -1}, {-255, 0, 800, 0}, {-256, 0, 800, 1},
		{half, 0, 300, 75}, {half - 1, 0, 300, -75}, {half + 1, 0, 300, 75}, {-half, 0, 300, 75}, {-half - 1, 0, 300, -75}, {-half + 1, 0, 300, 75},
		{half - 1, -8191, 9000, 0}, {half - 1, -8187, 9000, -1}, {half, 8192, 9000, 0}, {half, 8188, 9000, 1}, {-half, 8188, 9000, 1}, {half + 1, 8187, 9000, 1}, {half + 1, 8188, 9000, 0},
		{turn, 0, 800, 0}, {-turn, 0, 800, 0}, {5 * turn, 0, 800, 0}, {turn + 256, 0, 800, -1}, {turn - 256, 0, 800, 1}, {-turn + 256, 0, 800, -1}, {-turn - 256, 0, 800, 1}, {7*turn + half, 0, 300, 75}, {-7*turn - half - 1, 0, 300, -75},
		{most, 0, 800, 0}, {least, 0, 800, 0}, {most - 255, 0, 800, 1}, {least + 256, 0, 800, -1}, {least + half, 0, 300, 75},
		{25600, 0, -1, 0}, {25600, 0, 0, 0}, {25600, 0, least, 0}, {25600, -3, 1, 0}, {25600, 3, 1, -1}, {-25600, -3, 1, 1}, {25600, 4, -1, -1}, {25600, 0, 40, -10}, {25600, 0, most, -100}, {-25600, 0, most, 100}, {half, 0, most, 100},
		{0, least, 800, 100}, {0, most, 800, -100}, {half, least, most, 100}, {half - 1, most, most, -100}, {half - 1, least, 800, 100}, {half, most, 800, -100},
	} {
		if v := twist(t, c[0], c[1], c[2]); v != c[3] {
			t.Errorf("Twist(%d, %d, %d) = %d; asked for: %d", c[0], c[1], c[2], v, c[3])
		}
	}
}

// P17.5: differences of 3, 4, 5, 399, 400, 401 and 404 with both signs, cut off and kept.
func TestTwistDifferences(t *testing.T) {
	for _, c := range [][2]int{{3, 0}, {4, 1}, {5, 1}, {7, 1}, {8, 2}, {396, 99}, {399, 99}, {400, 100}, {401, 100}, {404, 100}, {1 << 40, 100}} {
		for _, wanted := range both(0, 1, 50) {
			for _, sign := range []int{1, -1} {
				if v := twist(t, -64*wanted, wanted-sign*c[0], 800); v != sign*c[1] {
					t.Errorf("%d wanted, %d less: Twist %d", wanted, sign*c[0], v)
				}
			}
		}
	}
}

// P17.5: all numbers at edges, and any numbers, held against the clerk.
func TestTwistEdges(t *testing.T) {
	const half, turn = 8 * 65536, 16 * 65536
	headings := append(ends(), both(about(0, 64, 128, half, turn, turn+half, 1000*turn)...)...)
	rates := append(ends(), both(about(0, 4, 400, 800, 8192)...)...)
	bounds := append(ends(), about(-1, 1, 800, 8192)...)
	for _, h := range headings {
		for _, rate := range rates {
			for _, bound := range bounds {
				twist(t, h, rate, bound)
			}
		}
	}
	r := rand.New(rand.NewSource(175))
	for range 100000 {
		twist(t, any64(r), any64(r), any64(r))
		twist(t, r.Intn(8*turn)-4*turn, r.Intn(2001)-1000, r.Intn(1000)-50)
	}
}

// flown leads an axis for some steps: its speed is told off by up to e, and its velocity is pushed by up to d beside what is asked for.
func flown(t *testing.T, r *rand.Rand, accel, d, e, start int) {
	t.Helper()
	s := steer(t, accel)
	near := accel + d + e
	off := func(x int) int { // mostly at the ends, where a fault would show
		switch r.Intn(4) {
		case 0:
			return x
		case 1:
			return -x
		}
		return r.Intn(2*x+1) - x
	}
	var velocity [3]int
	velocity[1] = start
	want := api.Want{}
	for i := range 300 {
		if r.Intn(6) == 0 {
			want = api.Want{Hold: r.Intn(2) == 0, At: r.Intn(1 << 20), Speed: r.Intn(4001) - 2000}
		}
		speeds := velocity
		speeds[1] += off(e)
		asked := s.Step([3]api.Want{{}, want, {}}, [3]int{0, r.Intn(1 << 20), 0}, speeds)
		velocity[1] += asked[1] + off(d)
		if gap := velocity[1] - s.Refs()[1]; gap > near || gap < -near {
			t.Fatalf("Accel %d, d %d, e %d, from %d: %d off behind step %d", accel, d, e, start, gap, i)
		}
	}
}

// P17.6: an axis whose Accel, d and twice e are together at most 64 stays within Accel, d and e of its reference.
func TestStaysNear(t *testing.T) {
	r := rand.New(rand.NewSource(176))
	for _, accel := range []int{4, 12, 20, 32} {
		for e := 0; accel+2*e <= 64; e += 1 + r.Intn(3) {
			for _, d := range []int{0, (64 - accel - 2*e) / 2, 64 - accel - 2*e} {
				near := accel + d + e
				for _, start := range []int{0, near, -near, near / 2} {
					flown(t, r, accel, d, e, start)
				}
			}
		}
	}
}

// R2: two steers know nothing of each other.
func TestSteersApart(t *testing.T) {
	r := rand.New(rand.NewSource(178))
	a, b := pairOf(t, 12), pairOf(t, 32)
	for range 400 {
		p := a
		if r.Intn(2) == 0 {
			p = b
		}
		if r.Intn(9) == 0 {
			p.rest(t, [3]int{r.Intn(100), r.Intn(100), r.Intn(100)})
		}
		p.step(t, [3]api.Want{{Speed: r.Intn(900) - 450}, {Hold: true, At: r.Intn(9000), Speed: 90}, {Speed: r.Intn(90)}}, [3]int{}, [3]int{r.Intn(99), 0, 0})
		if a.s.Refs() != a.c.refs || b.s.Refs() != b.c.refs {
			t.Fatal(a.s.Refs(), b.s.Refs())
		}
	}
}

// R1, R2: a nil steer answers zero values and does nothing; one that New did not make does not panic.
func TestNilSteer(t *testing.T) {
	wants := [3]api.Want{{Speed: 30}, {Hold: true, At: 6400000, Speed: 100}, {Speed: -30}}
	var none *control.Steer
	none.Rest([3]int{1, 2, 3})
	if none.Refs() != [3]int{} {
		t.Error(none.Refs())
	}
	if asked := none.Step(wants, [3]int{1, 2, 3}, [3]int{4, 5, 6}); asked != [3]int{} {
		t.Error(asked)
	}
	var blank control.Steer
	blank.Step(wants, [3]int{least, least, most}, [3]int{most, least, most})
	blank.Rest([3]int{most, least, 0})
	blank.Step(wants, [3]int{least, least, most}, [3]int{least, most, most})
}
