package mixer_test

import (
	"math"
	"math/rand"
	"testing"

	"windhover/api"
	"windhover/mixer"
)

const (
	most  = math.MaxInt
	least = math.MinInt
)

// about is a number, one less and one more.
func about(list ...int) []int {
	var out []int
	for _, x := range list {
		out = append(out, x-1, x, x+1)
	}
	return out
}

// ends are numbers at the ends of an int, and far from 0.
func ends() []int {
	return []int{least, least + 1, least + 2, -1 << 62, -1 << 32, -1 << 31, 1 << 31, 1 << 32, 1 << 62, most - 2, most - 1, most}
}

// lifts, sideways and twists are a wrench's parts at their limits, about them, within, and at an int's ends.
func lifts() []int    { return append(about(-392, 0, 328, 392, 456), ends()...) }
func sideways() []int { return append(about(-64, 0, 64), ends()...) }
func twists() []int   { return append(about(-100, 0, 100), ends()...) }

// kept is x, kept from lo to hi, in the clerk's own way.
func kept(x, lo, hi int) int { return max(lo, min(x, hi)) }

// limited is the document's Limit, its numbers written out.
func limited(w api.Wrench) api.Wrench {
	return api.Wrench{Lift: kept(w.Lift, 328, 456), X: kept(w.X, -64, 64), Y: kept(w.Y, -64, 64), Twist: kept(w.Twist, -100, 100)}
}

// below is a over b, rounded down: the greatest quotient whose product is not above a.
func below(a, b int) int {
	q := a / b
	for q*b > a {
		q--
	}
	return q
}

// pushesOf are the arms' pushes, arm by arm by the document's words.
func pushesOf(w api.Wrench) [4]int {
	return [4]int{w.Lift + w.X + w.Y, w.Lift - w.X + w.Y, w.Lift - w.X - w.Y, w.Lift + w.X - w.Y}
}

// mixed is the document's Mix of a dead that may be.
func mixed(w api.Wrench, dead int) [8]int {
	w = limited(w)
	var m [8]int
	pushes := pushesOf(w)
	for a, t := range pushes {
		twist := w.Twist
		if dead > 0 {
			own := (dead - 1) / 2
			lone := pushes[own] // the lower motor is dead
			if dead == 2*own+1 {
				lone = -pushes[own]
			}
			if own == a && lone < 0 {
				m[2*a], m[2*a+1] = 0, t
				continue
			}
			if own == a {
				m[2*a], m[2*a+1] = t, 0
				continue
			}
			twist = kept(below(4*w.Twist-lone, 3), -t, t)
		}
		m[2*a] = below(t+twist, 2)
		m[2*a+1] = t - m[2*a]
	}
	return m
}

// worked is the document's Work.
func worked(m [8]int) api.Wrench {
	for i := range m {
		m[i] = kept(m[i], 0, 600)
	}
	t0, t1, t2, t3 := m[0]+m[1], m[2]+m[3], m[4]+m[5], m[6]+m[7]
	return api.Wrench{
		Lift:  below(t0+t1+t2+t3, 4),
		X:     below(t0-t1-t2+t3, 4),
		Y:     below(t0+t1-t2-t3, 4),
		Twist: below(m[0]-m[1]+m[2]-m[3]+m[4]-m[5]+m[6]-m[7], 4),
	}
}

// mix is Mix of a dead that may be, held against the clerk.
func mix(t *testing.T, w api.Wrench, dead int) [8]int {
	t.Helper()
	m, e := mixer.Mix(w, dead)
	if want := mixed(w, dead); e != api.OK || m != want {
		t.Fatalf("Mix(%v, %d) = %v, %d; asked for: %v", w, dead, m, int(e), want)
	}
	return m
}

// work is Work, held against the clerk.
func work(t *testing.T, m [8]int) api.Wrench {
	t.Helper()
	w := mixer.Work(m)
	if want := worked(m); w != want {
		t.Fatalf("Work(%v) = %v; asked for: %v", m, w, want)
	}
	return w
}

// wrenches goes through wrenches within their limits: all twists by sides at their limits, one nearer and about 0.
func wrenches(each func(api.Wrench)) {
	side := []int{-64, -63, -1, 0, 1, 2, 63, 64}
	for _, lift := range []int{328, 329, 330, 391, 392, 455, 456} {
		for _, x := range side {
			for _, y := range side {
				for twist := -100; twist <= 100; twist++ {
					each(api.Wrench{Lift: lift, X: x, Y: y, Twist: twist})
				}
			}
		}
	}
}

// anyWrench is a wrench by chance, now and then at an end.
func anyWrench(r *rand.Rand) api.Wrench {
	pick := func(lo, hi int, list []int) int {
		if r.Intn(6) == 0 {
			return list[r.Intn(len(list))]
		}
		return lo + r.Intn(hi-lo+1)
	}
	return api.Wrench{Lift: pick(310, 470, lifts()), X: pick(-70, 70, sideways()), Y: pick(-70, 70, sideways()), Twist: pick(-110, 110, twists())}
}

// P16.1: each part at its limits, one below and one above each, within them, and at an int's ends, written out by hand.
func TestLimitByHand(t *testing.T) {
	for i, c := range []struct{ in, out api.Wrench }{
		{api.Wrench{}, api.Wrench{Lift: 328}},
		{api.Wrench{Lift: 327}, api.Wrench{Lift: 328}},
		{api.Wrench{Lift: 328}, api.Wrench{Lift: 328}},
		{api.Wrench{Lift: 329}, api.Wrench{Lift: 329}},
		{api.Wrench{Lift: 455}, api.Wrench{Lift: 455}},
		{api.Wrench{Lift: 456}, api.Wrench{Lift: 456}},
		{api.Wrench{Lift: 457}, api.Wrench{Lift: 456}},
		{api.Wrench{Lift: 392, X: -65, Y: 65}, api.Wrench{Lift: 392, X: -64, Y: 64}},
		{api.Wrench{Lift: 392, X: -64, Y: 64}, api.Wrench{Lift: 392, X: -64, Y: 64}},
		{api.Wrench{Lift: 392, X: -63, Y: 63}, api.Wrench{Lift: 392, X: -63, Y: 63}},
		{api.Wrench{Lift: 392, X: 65, Y: -65}, api.Wrench{Lift: 392, X: 64, Y: -64}},
		{api.Wrench{Lift: 392, X: 64, Y: -64}, api.Wrench{Lift: 392, X: 64, Y: -64}},
		{api.Wrench{Lift: 392, X: 63, Y: -63}, api.Wrench{Lift: 392, X: 63, Y: -63}},
		{api.Wrench{Lift: 392, Twist: -101}, api.Wrench{Lift: 392, Twist: -100}},
		{api.Wrench{Lift: 392, Twist: -100}, api.Wrench{Lift: 392, Twist: -100}},
		{api.Wrench{Lift: 392, Twist: -99}, api.Wrench{Lift: 392, Twist: -99}},
		{api.Wrench{Lift: 392, Twist: 99}, api.Wrench{Lift: 392, Twist: 99}},
		{api.Wrench{Lift: 392, Twist: 100}, api.Wrench{Lift: 392, Twist: 100}},
		{api.Wrench{Lift: 392, Twist: 101}, api.Wrench{Lift: 392, Twist: 100}},
		{api.Wrench{Lift: least, X: least, Y: least, Twist: least}, api.Wrench{Lift: 328, X: -64, Y: -64, Twist: -100}},
		{api.Wrench{Lift: most, X: most, Y: most, Twist: most}, api.Wrench{Lift: 456, X: 64, Y: 64, Twist: 100}},
		{api.Wrench{Lift: most, X: least, Y: most, Twist: least}, api.Wrench{Lift: 456, X: -64, Y: 64, Twist: -100}},
	} {
		if got := mixer.Limit(c.in); got != c.out {
			t.Errorf("%d: Limit(%v) = %v; asked for: %v", i, c.in, got, c.out)
		}
	}
}

// P16.1: all parts at all edges with one another; what is limited stays as it is when it is limited again.
func TestLimitEdges(t *testing.T) {
	for _, lift := range lifts() {
		for _, x := range sideways() {
			for _, y := range sideways() {
				for _, twist := range twists() {
					w := api.Wrench{Lift: lift, X: x, Y: y, Twist: twist}
					got := mixer.Limit(w)
					if got != limited(w) || mixer.Limit(got) != got {
						t.Fatalf("Limit(%v) = %v; asked for: %v", w, got, limited(w))
					}
				}
			}
		}
	}
}

// P16.1: each part by itself, number by number through its limits.
func TestLimitEachNumber(t *testing.T) {
	for i := -700; i <= 700; i++ {
		for _, w := range []api.Wrench{{Lift: i}, {Lift: 400, X: i}, {Lift: 400, Y: i}, {Lift: 400, Twist: i}} {
			if got := mixer.Limit(w); got != limited(w) {
				t.Fatalf("Limit(%v) = %v; asked for: %v", w, got, limited(w))
			}
		}
	}
}

// P16.1 to P16.3: the chapter's examples.
func TestExamples(t *testing.T) {
	for i, c := range []struct {
		w    api.Wrench
		dead int
		m    [8]int
	}{
		{api.Wrench{Lift: 392}, 0, [8]int{196, 196, 196, 196, 196, 196, 196, 196}},
		{api.Wrench{Lift: 392, X: 10, Y: -4, Twist: 5}, 0, [8]int{201, 197, 191, 187, 195, 191, 205, 201}},
		{api.Wrench{Lift: 392}, 1, [8]int{0, 392, 261, 131, 261, 131, 261, 131}},
		{api.Wrench{Lift: 1000, X: -99}, 0, [8]int{196, 196, 260, 260, 260, 260, 196, 196}},
	} {
		if m := mix(t, c.w, c.dead); m != c.m {
			t.Errorf("%d: %v; asked for: %v", i, m, c.m)
		}
	}
	if got := mixer.Limit(api.Wrench{Lift: 1000, X: -99}); got != (api.Wrench{Lift: 456, X: -64}) {
		t.Error(got)
	}
	if m, e := mixer.Mix(api.Wrench{Lift: 392}, 9); e != api.ErrArg || m != [8]int{} {
		t.Error(m, int(e))
	}
	if w := work(t, [8]int{700, 700, 700, 700, 700, 700, 700, 700}); w != (api.Wrench{Lift: 1200}) {
		t.Error(w)
	}
}

// P16.2, R1: a dead that is not from 0 to 8 is ErrArg beside noughts, whatever the wrench is; each from 0 to 8 is none.
func TestMixDead(t *testing.T) {
	r := rand.New(rand.NewSource(161))
	for range 300 {
		w := anyWrench(r)
		for _, dead := range append(ends(), -100, -9, -8, -2, -1, 9, 10, 16, 256, 264) {
			if m, e := mixer.Mix(w, dead); e != api.ErrArg || m != [8]int{} {
				t.Fatalf("Mix(%v, %d) = %v, %d", w, dead, m, int(e))
			}
		}
		for dead := 0; dead <= 8; dead++ {
			m := mix(t, w, dead)
			if dead > 0 && m[dead-1] != 0 {
				t.Fatalf("Mix(%v, %d) = %v", w, dead, m)
			}
		}
	}
}

// P16.2: each arm has its own signs, and each half is rounded down, the lower motor having the rest; by hand.
func TestMixByHand(t *testing.T) {
	for i, c := range []struct {
		w api.Wrench
		m [8]int
	}{
		{api.Wrench{Lift: 400, X: 20}, [8]int{210, 210, 190, 190, 190, 190, 210, 210}},
		{api.Wrench{Lift: 400, Y: 20}, [8]int{210, 210, 210, 210, 190, 190, 190, 190}},
		{api.Wrench{Lift: 400, Twist: 20}, [8]int{210, 190, 210, 190, 210, 190, 210, 190}},
		{api.Wrench{Lift: 400, Twist: 1}, [8]int{200, 200, 200, 200, 200, 200, 200, 200}},
		{api.Wrench{Lift: 400, Twist: -1}, [8]int{199, 201, 199, 201, 199, 201, 199, 201}},
		{api.Wrench{Lift: 401}, [8]int{200, 201, 200, 201, 200, 201, 200, 201}},
		{api.Wrench{Lift: 401, Twist: 1}, [8]int{201, 200, 201, 200, 201, 200, 201, 200}},
		{api.Wrench{Lift: 401, Twist: -1}, [8]int{200, 201, 200, 201, 200, 201, 200, 201}},
		{api.Wrench{Lift: 328, X: 64, Y: 64, Twist: -100}, [8]int{178, 278, 114, 214, 50, 150, 114, 214}},
		{api.Wrench{Lift: 456, X: 64, Y: 64, Twist: 100}, [8]int{342, 242, 278, 178, 214, 114, 278, 178}},
		{api.Wrench{Lift: least, X: most, Y: most, Twist: least}, [8]int{178, 278, 114, 214, 50, 150, 114, 214}},
		{api.Wrench{Lift: most, X: most, Y: most, Twist: most}, [8]int{342, 242, 278, 178, 214, 114, 278, 178}},
	} {
		if m := mix(t, c.w, 0); m != c.m {
			t.Errorf("%d: %v; asked for: %v", i, m, c.m)
		}
	}
}

// P16.2: a dead motor's fellow has its arm's push, and the other arms turn against it: q with each rest over 3, above and below 0, and kept at -t and at t; by hand.
func TestMixDeadByHand(t *testing.T) {
	for i, c := range []struct {
		w    api.Wrench
		dead int
		m    [8]int
	}{
		// The dead one's arm's twist is -390, -391 and -392: q is 130, 130 and 130.
		{api.Wrench{Lift: 390}, 1, [8]int{0, 390, 260, 130, 260, 130, 260, 130}},
		{api.Wrench{Lift: 391}, 3, [8]int{260, 131, 0, 391, 260, 131, 260, 131}},
		{api.Wrench{Lift: 392}, 5, [8]int{261, 131, 261, 131, 0, 392, 261, 131}},
		// It is 390, 391 and 392: q is -130, -131 and -131.
		{api.Wrench{Lift: 390}, 8, [8]int{130, 260, 130, 260, 130, 260, 390, 0}},
		{api.Wrench{Lift: 391}, 2, [8]int{391, 0, 130, 261, 130, 261, 130, 261}},
		{api.Wrench{Lift: 392}, 4, [8]int{130, 262, 392, 0, 130, 262, 130, 262}},
		// Twist counts four times: q is (40 + 392) / 3 = 144.
		{api.Wrench{Lift: 392, Twist: 10}, 7, [8]int{268, 124, 268, 124, 268, 124, 0, 392}},
		// q is (400 + 584) / 3 = 328: arm 2 has 328, and is just kept; q is (-400 - 584) / 3 = -328.
		{api.Wrench{Lift: 456, X: 64, Y: 64, Twist: 100}, 1, [8]int{0, 584, 392, 64, 328, 0, 392, 64}},
		{api.Wrench{Lift: 456, X: 64, Y: 64, Twist: -100}, 2, [8]int{584, 0, 64, 392, 0, 328, 64, 392}},
		// q is (400 + 456) / 3 = 285, and (-400 - 456) / 3 = -286: arm 2 has 200, arms 1 and 3 have 328.
		{api.Wrench{Lift: 328, X: 64, Y: 64, Twist: 100}, 1, [8]int{0, 456, 306, 22, 200, 0, 306, 22}},
		{api.Wrench{Lift: 328, X: 64, Y: 64, Twist: -100}, 2, [8]int{456, 0, 21, 307, 0, 200, 21, 307}},
		// The arm that has least is the dead one's: q is (400 + 200) / 3 = 200, (-400 + 200) / 3 = -67, rounded down.
		{api.Wrench{Lift: 328, X: 64, Y: 64, Twist: 100}, 5, [8]int{328, 128, 264, 64, 0, 200, 264, 64}},
		{api.Wrench{Lift: 328, X: 64, Y: 64, Twist: -100}, 5, [8]int{194, 262, 130, 198, 0, 200, 130, 198}},
	} {
		if m := mix(t, c.w, c.dead); m != c.m {
			t.Errorf("%d: %v; asked for: %v", i, m, c.m)
		}
	}
}

// P16.2: the clerk goes through each rest over 3 of q on both sides of 0, through both rests of each half, and through arms that are kept at -t, at t, and just not, in what wrenches gives.
func TestClerkGoesEverywhere(t *testing.T) {
	rests, halves := map[[2]int]int{}, map[[2]int]int{}
	atLow, justLow, atHigh, justHigh := 0, 0, 0, 0
	wrenches(func(w api.Wrench) {
		pushes := pushesOf(w)
		for dead := 1; dead <= 8; dead++ {
			own := (dead - 1) / 2
			lone := pushes[own] * (1 - 2*(dead%2))
			all := 4*w.Twist - lone
			q := below(all, 3)
			rests[[2]int{sign(q), all - 3*q}]++
			for a, push := range pushes {
				if a == own {
					continue
				}
				at := kept(q, -push, push)
				halves[[2]int{sign(at), (push + at) & 1}]++
				switch {
				case q < -push:
					atLow++
				case q == -push:
					justLow++
				case q == push:
					justHigh++
				case q > push:
					atHigh++
				}
			}
		}
	})
	for s := -1; s <= 1; s += 2 {
		for rest := range 3 {
			if rests[[2]int{s, rest}] == 0 {
				t.Error("no q", s, rest)
			}
		}
		for rest := range 2 {
			if halves[[2]int{s, rest}] == 0 {
				t.Error("no half", s, rest)
			}
		}
	}
	if atLow == 0 || justLow == 0 || atHigh == 0 || justHigh == 0 {
		t.Error(atLow, justLow, atHigh, justHigh)
	}
}

// sign is 1 above 0, -1 below.
func sign(x int) int {
	switch {
	case x > 0:
		return 1
	case x < 0:
		return -1
	}
	return 0
}

// P16.2, P16.4, P16.6: all of wrenches with each dead motor: what the clerk says, each motor within its bounds, Limit's Lift, X and Y of it again, Twist or one less, and all commands 4 times Lift; each bound is reached.
func TestMixWithin(t *testing.T) {
	lo, hi, freeLo, freeHi := most, least, most, least
	same, less := 0, 0
	wrenches(func(w api.Wrench) {
		for dead := 0; dead <= 8; dead++ {
			m := mix(t, w, dead)
			sum := 0
			for _, x := range m {
				sum += x
				lo, hi = min(lo, x), max(hi, x)
				if dead == 0 {
					freeLo, freeHi = min(freeLo, x), max(freeHi, x)
				}
			}
			if sum != 4*w.Lift {
				t.Fatalf("Mix(%v, %d) = %v: in all %d", w, dead, m, sum)
			}
			back := work(t, m)
			if back.Lift != w.Lift || back.X != w.X || back.Y != w.Y {
				t.Fatalf("Mix(%v, %d) = %v does %v", w, dead, m, back)
			}
			if dead > 0 {
				continue
			}
			switch back.Twist {
			case w.Twist:
				same++
			case w.Twist - 1:
				less++
			default:
				t.Fatalf("Mix(%v, 0) = %v does %v", w, m, back)
			}
		}
	})
	if lo != 0 || hi != 584 || freeLo != 50 || freeHi != 342 {
		t.Error(lo, hi, freeLo, freeHi)
	}
	if same == 0 || less == 0 {
		t.Error(same, less)
	}
}

// P16.4, P16.6: the same of wrenches beyond their limits, at an int's ends and by chance, held against Limit.
func TestMixOfAnyWrench(t *testing.T) {
	r := rand.New(rand.NewSource(164))
	for range 60000 {
		w := anyWrench(r)
		in := mixer.Limit(w)
		if in != limited(w) {
			t.Fatalf("Limit(%v) = %v", w, in)
		}
		for dead := 0; dead <= 8; dead++ {
			m := mix(t, w, dead)
			if again, _ := mixer.Mix(in, dead); again != m {
				t.Fatalf("Mix(%v, %d) = %v, of its limits %v", w, dead, m, again)
			}
			lo, hi, sum := 0, 584, 0
			if dead == 0 {
				lo, hi = 50, 342
			}
			for _, x := range m {
				sum += x
				if x < lo || x > hi {
					t.Fatalf("Mix(%v, %d) = %v", w, dead, m)
				}
			}
			back := work(t, m)
			if sum != 4*in.Lift || back.Lift != in.Lift || back.X != in.X || back.Y != in.Y {
				t.Fatalf("Mix(%v, %d) = %v: in all %d, does %v", w, dead, m, sum, back)
			}
			if dead == 0 && back.Twist != in.Twist && back.Twist != in.Twist-1 {
				t.Fatalf("Mix(%v, 0) = %v does %v", w, m, back)
			}
		}
	}
}

// P16.5: a motor that gives 0 of a sudden changes Lift, X and Y by 86 at most, whichever it is; 86 is reached on each.
func TestKick(t *testing.T) {
	var greatest [3]int
	wrenches(func(w api.Wrench) {
		m := mix(t, w, 0)
		before := work(t, m)
		for i := range m {
			gone := m
			gone[i] = 0
			after := work(t, gone)
			for axis, change := range [3]int{after.Lift - before.Lift, after.X - before.X, after.Y - before.Y} {
				change = max(change, -change)
				greatest[axis] = max(greatest[axis], change)
				if change > 86 {
					t.Fatalf("Mix(%v, 0) = %v without motor %d does %v, not %v", w, m, i, after, before)
				}
			}
		}
	})
	if greatest != [3]int{86, 86, 86} {
		t.Error(greatest)
	}
}

// P16.3: motors below 0, at 0, 1, 599, 600, 601 and at an int's ends, by hand.
func TestWorkByHand(t *testing.T) {
	for i, c := range []struct {
		m [8]int
		w api.Wrench
	}{
		{[8]int{}, api.Wrench{}},
		{[8]int{600, 600, 600, 600, 600, 600, 600, 600}, api.Wrench{Lift: 1200}},
		{[8]int{601, 601, 601, 601, 601, 601, 601, 601}, api.Wrench{Lift: 1200}},
		{[8]int{599, 599, 599, 599, 599, 599, 599, 599}, api.Wrench{Lift: 1198}},
		{[8]int{-1, -1, -1, -1, -1, -1, -1, -1}, api.Wrench{}},
		{[8]int{least, least, least, least, least, least, least, least}, api.Wrench{}},
		{[8]int{most, most, most, most, most, most, most, most}, api.Wrench{Lift: 1200}},
		{[8]int{most, least, most, least, most, least, most, least}, api.Wrench{Lift: 600, Twist: 600}},
		{[8]int{least, most, least, most, least, most, least, most}, api.Wrench{Lift: 600, Twist: -600}},
		{[8]int{most, most, least, least, least, least, most, most}, api.Wrench{Lift: 600, X: 600}},
		{[8]int{least, least, most, most, most, most, least, least}, api.Wrench{Lift: 600, X: -600}},
		{[8]int{most, most, most, most, least, least, least, least}, api.Wrench{Lift: 600, Y: 600}},
		{[8]int{least, least, least, least, most, most, most, most}, api.Wrench{Lift: 600, Y: -600}},
		{[8]int{1}, api.Wrench{}},
		{[8]int{0, 1}, api.Wrench{Twist: -1}},
		{[8]int{0, 0, 1}, api.Wrench{X: -1}},
		{[8]int{0, 0, 0, 1}, api.Wrench{X: -1, Twist: -1}},
		{[8]int{0, 0, 0, 0, 1}, api.Wrench{X: -1, Y: -1}},
		{[8]int{0, 0, 0, 0, 0, 1}, api.Wrench{X: -1, Y: -1, Twist: -1}},
		{[8]int{0, 0, 0, 0, 0, 0, 1}, api.Wrench{Y: -1}},
		{[8]int{0, 0, 0, 0, 0, 0, 0, 1}, api.Wrench{Y: -1, Twist: -1}},
		{[8]int{3}, api.Wrench{}},
		{[8]int{4}, api.Wrench{Lift: 1, X: 1, Y: 1, Twist: 1}},
		{[8]int{0, 0, 0, 0, 0, 4}, api.Wrench{Lift: 1, X: -1, Y: -1, Twist: -1}},
		{[8]int{0, 0, 0, 0, 0, 5}, api.Wrench{Lift: 1, X: -2, Y: -2, Twist: -2}},
		{[8]int{0, 0, 0, 0, 0, 7}, api.Wrench{Lift: 1, X: -2, Y: -2, Twist: -2}},
		{[8]int{0, 0, 0, 0, 0, 8}, api.Wrench{Lift: 2, X: -2, Y: -2, Twist: -2}},
		{[8]int{100, 50, 200, 10, 30, 31, 7, 600}, api.Wrench{Lift: 257, X: 121, Y: -77, Twist: -89}},
	} {
		if w := work(t, c.m); w != c.w {
			t.Errorf("%d: Work(%v) = %v; asked for: %v", i, c.m, w, c.w)
		}
	}
}

// commands are what a motor may be told at its edges.
func commands() []int {
	return append([]int{-600, -5, -1, 0, 1, 2, 3, 4, 5, 299, 300, 597, 598, 599, 600, 601, 602, 700}, ends()...)
}

// P16.3: each motor alone and all together at each edge, and each two of them, the others at rest and at work.
func TestWorkEdges(t *testing.T) {
	for _, base := range []int{0, 1, 196, 599, 600} {
		var rest [8]int
		for i := range rest {
			rest[i] = base
		}
		for i := range rest {
			for _, x := range commands() {
				for j := range rest {
					for _, y := range commands() {
						m := rest
						m[i] = x
						m[j] = y
						work(t, m)
					}
				}
			}
		}
	}
	for _, x := range commands() {
		work(t, [8]int{x, x, x, x, x, x, x, x})
	}
}

// P16.3: all motors by chance, whose sums have each rest over 4, above and below 0.
func TestWorkByChance(t *testing.T) {
	r := rand.New(rand.NewSource(163))
	list := commands()
	for i := range 100000 {
		var m [8]int
		for j := range m {
			switch i % 3 {
			case 0:
				m[j] = list[r.Intn(len(list))]
			case 1:
				m[j] = r.Intn(601)
			default:
				m[j] = r.Intn(4)
			}
		}
		work(t, m)
	}
}

// P16.2, P16.3, R2: what a call answers hangs on its arguments alone, and answers share nothing.
func TestAnswersApart(t *testing.T) {
	w := api.Wrench{Lift: 401, X: 3, Y: -7, Twist: 11}
	for dead := 0; dead <= 8; dead++ {
		first := mix(t, w, dead)
		want := first
		for i := range first {
			first[i] = -1
		}
		mixer.Mix(api.Wrench{Lift: 328, Twist: -100}, 8-dead)
		mixer.Mix(w, 9)
		work(t, first)
		if again := mix(t, w, dead); again != want {
			t.Errorf("%d: %v, then %v", dead, want, again)
		}
	}
}
