package world_test

import (
	"testing"

	"windhover/api"
	"windhover/world"
)

// far is a world high up, in which nothing is 0.
func far() api.World {
	return api.World{P: [3]int{70000, -90000, 640000}, V: [3]int{11, -13, 17}, H: 999, R: -21, Charge: 5000}
}

// mixed are motors of which no two do the same.
func mixed() [8]int { return [8]int{201, 12, 199, 330, 95, 187, 260, 140} }

// after is a step that is no error.
func after(t *testing.T, w api.World, a air) api.World {
	t.Helper()
	next, e := world.Step(w, a.motors, a.dead, a.wind, a.drain)
	if e != api.OK {
		t.Fatalf("Step(%v, %v): %d", w, a, int(e))
	}
	return next
}

// same holds a step against a world that is written by hand.
func same(t *testing.T, w api.World, a air, want api.World) {
	t.Helper()
	if got := after(t, w, a); got != want {
		t.Errorf("Step(%v, %v) = %v; asked for: %v", w, a, got, want)
	}
	step(t, w, a)
}

// The chapter's examples of Step.
func TestStepExamples(t *testing.T) {
	w := after(t, api.World{Charge: 100}, air{drain: 1})
	if w != (api.World{Charge: 99}) {
		t.Fatal(w)
	}
	w = after(t, w, air{motors: all(200), wind: [3]int{3, -2, 1}})
	if w != (api.World{P: [3]int{3, -2, 9}, V: [3]int{3, -2, 9}, Charge: 99}) {
		t.Fatal(w)
	}
	// V would be 3 -2 -383 then, and the place on axis 2 below 0.
	w = after(t, w, air{})
	if w != (api.World{P: [3]int{3, -2, 0}, Charge: 99}) {
		t.Fatal(w)
	}
}

// P23.1: dead is from 0 to 8; else ErrArg, and a world of noughts beside it.
func TestDead(t *testing.T) {
	for _, w := range []api.World{{}, {Charge: 1}, far()} {
		for _, dead := range append(ends(), -1000, -8, -2, -1, 9, 10, 16, 255, 256, 257, 264) {
			next, e := world.Step(w, mixed(), dead, [3]int{1, 2, 3}, 4)
			if next != (api.World{}) || e != api.ErrArg {
				t.Errorf("dead %d: %v %d", dead, next, int(e))
			}
		}
		for dead := range 9 {
			if _, e := world.Step(w, mixed(), dead, [3]int{1, 2, 3}, 4); e != api.OK {
				t.Errorf("dead %d: %d", dead, int(e))
			}
			step(t, w, air{motors: mixed(), dead: dead, wind: [3]int{1, 2, 3}, drain: 4})
		}
	}
}

// P23.1: what the dead motor is told does not count, whatever it is; what any other one is told does.
func TestDeadCommand(t *testing.T) {
	for dead := 1; dead <= 8; dead++ {
		still := mixed()
		still[dead-1] = 0
		want := after(t, far(), air{motors: still})
		for _, command := range append(ends(), -600, -1, 0, 1, 300, 599, 600, 601) {
			motors := mixed()
			motors[dead-1] = command
			same(t, far(), air{motors: motors, dead: dead}, want)
		}
		for other := range 8 {
			motors := mixed()
			motors[other] += 40
			next := after(t, far(), air{motors: motors, dead: dead})
			if (next == want) != (other == dead-1) {
				t.Errorf("dead %d, motor %d: %v", dead, other+1, next)
			}
		}
	}
}

// P23.1: each dead motor's push is missing on its own arm's sides, and its twist in its own way; numbers by hand.
func TestEachDead(t *testing.T) {
	// Lift is 700 over 2 then, and 50 are missing on X and Y with the arm's signs.
	signs := [4][2]int{{1, 1}, {-1, 1}, {-1, -1}, {1, -1}}
	for dead := 1; dead <= 8; dead++ {
		s := signs[(dead-1)/2]
		v := [3]int{-50 * s[0], -50 * s[1], 8}
		r := -50
		if dead%2 == 0 {
			r = 50
		}
		want := api.World{P: [3]int{v[0], v[1], 6408}, V: v, H: (1048576 + r) % 1048576, R: r}
		same(t, api.World{P: [3]int{0, 0, 6400}}, air{motors: all(200), dead: dead, wind: [3]int{0, 0, 50}}, want)
	}
}

// P23.1: commands are kept from 0 to 600.
func TestCommands(t *testing.T) {
	for i := range 8 {
		for _, command := range append(ends(), -601, -600, -1, 0, 1, 599, 600, 601, 1200) {
			motors := all(200)
			motors[i] = command
			step(t, far(), air{motors: motors})
		}
	}
	high := api.World{P: [3]int{0, 0, 1000}, V: [3]int{0, 0, 808}}
	same(t, high, air{motors: all(601)}, api.World{P: [3]int{0, 0, 2616}, V: [3]int{0, 0, 1616}})
	same(t, high, air{motors: all(-1)}, api.World{P: [3]int{0, 0, 1416}, V: [3]int{0, 0, 416}})
}

// P23.1: each axis's velocity takes its own push and its own wind, axis 2 the 392 too; its place takes the new velocity.
func TestAxes(t *testing.T) {
	high := api.World{P: [3]int{0, 0, 10000}}
	east, north := [8]int{211, 211, 191, 191, 191, 191, 211, 211}, [8]int{211, 211, 211, 211, 191, 191, 191, 191}
	for i, c := range []struct {
		motors [8]int
		wind   [3]int
		v      [3]int
	}{
		{all(196), [3]int{}, [3]int{}},
		{all(196), [3]int{5, 0, 0}, [3]int{5, 0, 0}},
		{all(196), [3]int{0, 5, 0}, [3]int{0, 5, 0}},
		{all(196), [3]int{0, 0, 5}, [3]int{0, 0, 5}},
		{all(196), [3]int{-7, 8, -9}, [3]int{-7, 8, -9}},
		{all(0), [3]int{}, [3]int{0, 0, -392}},
		{all(1), [3]int{}, [3]int{0, 0, -390}},
		{all(600), [3]int{}, [3]int{0, 0, 808}},
		{east, [3]int{}, [3]int{20, 0, 10}},
		{north, [3]int{}, [3]int{0, 20, 10}},
		{east, [3]int{-20, 3, -10}, [3]int{0, 3, 0}},
		{north, [3]int{3, -21, -11}, [3]int{3, -1, -1}},
	} {
		p := [3]int{c.v[0], c.v[1], 10000 + c.v[2]}
		if got := after(t, high, air{motors: c.motors, wind: c.wind}); got != (api.World{P: p, V: c.v}) {
			t.Errorf("%d: %v", i, got)
		}
		// And once more from the same place, with a velocity of its own.
		moving := api.World{P: high.P, V: [3]int{100, -200, 300}}
		v := [3]int{100 + c.v[0], c.v[1] - 200, 300 + c.v[2]}
		same(t, moving, air{motors: c.motors, wind: c.wind}, api.World{P: [3]int{v[0], v[1], 10000 + v[2]}, V: v})
	}
}

// P23.1: a place on axis 2 of 1 is above the ground, one of 0 or below is not.
func TestGround(t *testing.T) {
	// An upper motor of 204 and a lower one of 188 twist by 16, and lift 392.
	twisting := [8]int{204, 188, 204, 188, 204, 188, 204, 188}
	for _, height := range append(ends(), -100, -2, -1, 0, 1, 2, 100) {
		for _, v := range append(ends(), -100, -2, -1, 0, 1, 2, 100) {
			w := api.World{P: [3]int{70, -80, height}, V: [3]int{6, 7, v}, H: 50, R: 9, Charge: 3}
			next := step(t, w, air{motors: twisting, wind: [3]int{1, 1, 0}})
			stands := api.World{P: [3]int{70, -80, 0}, H: 50, Charge: 3}
			flies := next.P == [3]int{77, -72, next.P[2]} && next.V[0] == 7 && next.V[1] == 8 && next.P[2] > 0 && next.R == 25 && next.H == 75 && next.Charge == 3
			if row(height, less(row(v, 392), 392)) < 1 {
				if next != stands {
					t.Errorf("%d and %d: %v", height, v, next)
				}
			} else if !flies {
				t.Errorf("%d and %d: %v", height, v, next)
			}
		}
	}
	for v, want := range map[int]api.World{
		-4: {P: [3]int{6, 7, 1}, V: [3]int{6, 7, -4}, H: 25, R: 25},
		-5: {},
		-6: {},
	} {
		same(t, api.World{P: [3]int{0, 0, 5}, V: [3]int{6, 7, v}, R: 9}, air{motors: twisting}, want)
	}
}

// P23.1: what stands has its places on axes 0 and 1 as they were, whatever they were, and turns no more.
func TestStands(t *testing.T) {
	for _, p := range append(ends(), -1, 0, 1) {
		for _, r := range append(ends(), -1, 0, 1) {
			w := api.World{P: [3]int{p, -1 - p, 3}, V: [3]int{p, r, -9}, H: 77, R: r, Charge: 8}
			for _, dead := range []int{0, 1, 8} {
				same(t, w, air{motors: all(150), dead: dead, wind: [3]int{r, p, 0}, drain: 2}, api.World{P: [3]int{p, -1 - p, 0}, H: 77, Charge: 6})
			}
		}
	}
}

// P23.1, R4: velocities, places and R at an int's ends: each sum stops, in the chapter's order.
func TestEnds(t *testing.T) {
	motors := [][8]int{all(0), all(196), all(600), mixed(), {600, 600, 0, 0, 0, 0, 600, 600}, {0, 0, 0, 0, 600, 600, 600, 600}, {600, 0, 600, 0, 600, 0, 600, 0}, {0, 600, 0, 600, 0, 600, 0, 600}}
	numbers := append(ends(), -400, -1, 0, 1, 400)
	for _, m := range motors {
		for _, p := range numbers {
			for _, v := range numbers {
				for _, wind := range numbers {
					for i := range 3 {
						w := api.World{P: [3]int{0, 0, 5000}, R: v, H: p, Charge: wind}
						w.P[i], w.V[i] = p, v
						a := air{motors: m, drain: v}
						a.wind[i] = wind
						step(t, w, a)
					}
				}
			}
		}
	}
}

// P23.1, R4: orders of sums that are to be seen; numbers by hand.
func TestOrder(t *testing.T) {
	east := [8]int{246, 246, 146, 146, 146, 146, 246, 246} // X 100
	north := [8]int{246, 246, 246, 246, 146, 146, 146, 146}
	low := api.World{P: [3]int{0, 0, 1}}
	for i := range 2 {
		m := [][8]int{east, north}[i]
		// The push stops ahead of the wind.
		w, a := low, air{motors: m}
		w.V[i], a.wind[i] = most-60, -70
		want := low
		want.V[i], want.P[i] = most-70, most-70
		same(t, w, a, want)
		// And it is not summed with the wind ahead of the velocity.
		w.V[i], a.wind[i] = -5, most
		want.V[i], want.P[i] = most, most
		same(t, w, a, want)
	}
	// On axis 2 the lift stops, then the wind, then the 392 come off.
	up := api.World{V: [3]int{0, 0, most - 60}}
	same(t, up, air{motors: all(100)}, api.World{P: [3]int{0, 0, most - 392}, V: [3]int{0, 0, most - 392}})
	same(t, up, air{motors: all(100), wind: [3]int{0, 0, -70}}, api.World{P: [3]int{0, 0, most - 462}, V: [3]int{0, 0, most - 462}})
	same(t, up, air{motors: all(20), wind: [3]int{0, 0, 500}}, api.World{P: [3]int{0, 0, most - 392}, V: [3]int{0, 0, most - 392}})
	// The lift and the wind are not summed ahead of the velocity.
	high := api.World{P: [3]int{0, 0, 1}, V: [3]int{0, 0, -5}}
	same(t, high, air{motors: all(100), wind: [3]int{0, 0, most}}, api.World{P: [3]int{0, 0, most - 391}, V: [3]int{0, 0, most - 392}})
	// Nor do the 392 come off ahead of the wind, where they would pass the least int.
	down := api.World{P: [3]int{0, 0, most}, V: [3]int{0, 0, least + 100}}
	same(t, down, air{wind: [3]int{0, 0, 500}}, api.World{P: [3]int{0, 0, 207}, V: [3]int{0, 0, least + 208}})
}

// P23.1: the least velocities with which a vehicle flies on, from the greatest place.
func TestLeastVelocity(t *testing.T) {
	// A velocity of least + 1 leads to 0, one of least + 2 to 1.
	for extra, flies := range map[int]bool{391: false, 392: false, 393: false, 394: true, 395: true} {
		w := api.World{P: [3]int{0, 0, most}, V: [3]int{0, 0, least}}
		next := step(t, w, air{wind: [3]int{0, 0, extra}})
		if (next.P[2] > 0) != flies || (next.V[2] != 0) != flies {
			t.Errorf("%d: %v", extra, next)
		}
	}
}

// P23.1: places on axes 0 and 1 stop at an int's ends, and the vehicle flies on.
func TestPlacesStop(t *testing.T) {
	w := api.World{P: [3]int{most - 5, least + 5, 900}, V: [3]int{6, -6, 0}}
	same(t, w, air{motors: all(196)}, api.World{P: [3]int{most, least, 900}, V: [3]int{6, -6, 0}})
	w = api.World{P: [3]int{most, least, most}, V: [3]int{most, least, most}}
	same(t, w, air{motors: all(196), wind: [3]int{1, -1, 1}}, api.World{P: w.P, V: [3]int{most, least, most - 392}})
}

// P23.1, R4: R stops at an int's ends; H takes the R that stopped.
func TestTurnStops(t *testing.T) {
	right, left := [8]int{246, 146, 246, 146, 246, 146, 246, 146}, [8]int{146, 246, 146, 246, 146, 246, 146, 246}
	high := func(h, r int) api.World { return api.World{P: [3]int{0, 0, 900}, H: h, R: r} }
	same(t, high(0, 0), air{motors: right}, high(100, 100))
	same(t, high(0, 0), air{motors: left}, high(1048476, -100))
	same(t, high(5, most-100), air{motors: right}, high(4, most))
	same(t, high(5, most-99), air{motors: right}, high(4, most))
	same(t, high(5, most), air{motors: left}, high(1048480, most-100))
	same(t, high(5, least+100), air{motors: left}, high(5, least))
	same(t, high(5, least+99), air{motors: left}, high(5, least))
	same(t, high(5, least), air{motors: right}, high(105, least+100))
}

// P23.1: H is H and R, exactly, from 0 to 1048575, where it flies.
func TestHeading(t *testing.T) {
	const turn = 1048576
	numbers := append(ends(), -2*turn-1, -2*turn, -turn-1, -turn, -turn+1, -65536, -2, -1, 0, 1, 2, 65535, 65536, turn/2, turn-2, turn-1, turn, turn+1, 2*turn-1, 2*turn)
	for _, h := range numbers {
		for _, r := range numbers {
			w := api.World{P: [3]int{1, 1, 900}, H: h, R: r}
			same(t, w, air{motors: all(196)}, api.World{P: w.P, H: modulo(turn, h, r), R: r})
			// What stands has an R of 0, and so H stays but comes within a turn.
			same(t, w, air{}, api.World{P: [3]int{1, 1, 508}, V: [3]int{0, 0, -392}, H: modulo(turn, h, r), R: r})
			w.P[2] = 392
			same(t, w, air{}, api.World{P: [3]int{1, 1, 0}, H: modulo(turn, h)})
		}
	}
	for _, c := range [][3]int{
		{0, 0, 0}, {turn - 1, 0, turn - 1}, {turn - 1, 1, 0}, {turn, 0, 0}, {turn, -1, turn - 1}, {-1, 0, turn - 1}, {0, -1, turn - 1},
		{-turn, 0, 0}, {most, 0, turn - 1}, {most, 1, 0}, {most, most, turn - 2}, {least, 0, 0}, {least, -1, turn - 1}, {least, least, 0}, {least, most, turn - 1},
	} {
		w := api.World{P: [3]int{1, 1, 900}, H: c[0], R: c[1]}
		same(t, w, air{motors: all(196)}, api.World{P: w.P, H: c[2], R: c[1]})
	}
}

// P23.1, R4: Charge is drain less, and stops at an int's ends; it may come below 0.
func TestCharge(t *testing.T) {
	for _, charge := range append(ends(), -3, -1, 0, 1, 3, 100) {
		for _, drain := range append(ends(), -3, -1, 0, 1, 3, 100) {
			for _, height := range []int{0, 900} {
				w := api.World{P: [3]int{0, 0, height}, Charge: charge}
				same(t, w, air{motors: all(196), drain: drain}, api.World{P: w.P, Charge: less(charge, drain)})
			}
		}
	}
	for _, c := range [][3]int{{5, 0, 5}, {5, 7, -2}, {5, -7, 12}, {0, least, most}, {-1, least, most}, {-2, least, most - 1}, {least, 1, least}, {least + 1, 1, least}, {-2, most, least}, {most, -1, most}, {0, most, -most}} {
		same(t, api.World{Charge: c[0]}, air{drain: c[1]}, api.World{Charge: c[2]})
	}
}

// P23.1: drain is what is told, whatever the motors do.
func TestDrainAlone(t *testing.T) {
	for _, m := range [][8]int{all(0), all(196), all(600), mixed()} {
		for dead := range 9 {
			if next := after(t, far(), air{motors: m, dead: dead, drain: 9}); next.Charge != 4991 {
				t.Error(m, dead, next.Charge)
			}
		}
	}
}
