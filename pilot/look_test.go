package pilot_test

import (
	"testing"

	"windhover/api"
	"windhover/sense"
)

// standing is a rig on the ground in mode Standby.
func standing(t *testing.T, s setup) *rig {
	t.Helper()
	r := s.rig(t)
	r.still = true
	r.run(8)
	r.is(api.Standby)
	return r
}

// P24.5: the first measures: half a mm more, off by the parameters and half a mm.
func TestFirstMeasures(t *testing.T) {
	r := setup{par: map[int]int{api.GnssPlace: 7, api.GnssSpeed: 3, api.BaroHeight: 9, api.BaroClimb: 5}}.rig(t)
	r.still = true
	r.w.P = [3]int{6400*100 + 99, -6400*50 - 1, 6400 * 20}
	r.w.V = [3]int{-200, 30, 11}
	r.step()
	want := [3]api.Axis{
		{P: api.Span{Lo: 6400 * 93, Hi: 6400 * 108}, V: api.Span{Lo: -203, Hi: -197}},
		{P: api.Span{Lo: 6400 * -58, Hi: 6400 * -43}, V: api.Span{Lo: 27, Hi: 33}},
		{P: api.Span{Lo: 6400 * 11, Hi: 6400 * 30}, V: api.Span{Lo: 6, Hi: 16}},
	}
	if r.view.Axes != want {
		t.Error(r.view.Axes, want)
	}
}

// P24.5: units that fall silent are believed for Stale ticks; from then on the spans widen by what was asked for, wind and kick.
func TestSilentUnits(t *testing.T) {
	for _, stale := range []int{1, 8, 40} {
		r := standing(t, setup{par: map[int]int{api.Stale: stale, api.Wind: 9}})
		before := r.view.Axes
		r.alter = func(in *api.Inputs) { in.Gnss, in.Baro = [3]string{}, [3]string{} }
		r.run(stale)
		if r.view.Axes != before {
			t.Fatal(stale, r.view.Axes)
		}
		for i := 1; i <= 5; i++ {
			r.step()
			// 9 and 86 more each tick, and the places by as much as the velocities are then.
			wide := 4 + 95*i
			way := 0
			for k := 1; k <= i; k++ {
				way += 4 + 95*k
			}
			for axis, a := range r.view.Axes {
				want := api.Axis{P: api.Span{Lo: before[axis].P.Lo - way, Hi: before[axis].P.Hi + way}, V: api.Span{Lo: -wide, Hi: wide}}
				if a != want {
					t.Fatal(stale, i, axis, a, want)
				}
			}
		}
	}
}

// P24.5: of two units that are apart half the sum is voted; a third one that lies changes no more than the others' span.
func TestUnitsThatSplitAndLie(t *testing.T) {
	r := setup{}.rig(t)
	r.still = true
	r.alter = func(in *api.Inputs) {
		in.Gnss[0] = write(t, api.Gnss, 100, 200, 10, 20)
		in.Gnss[1] = write(t, api.Gnss, 105, 190, 11, 26)
		in.Gnss[2] = write(t, api.Gnss, 2147483647, -2147483648, -2147483648, 2147483647)
		in.Baro[0] = write(t, api.Baro, 3000, -50)
		in.Baro[1] = ""
		in.Baro[2] = write(t, api.Baro, 3001, -53)
	}
	r.step()
	for i, want := range []struct{ place, speed int }{{105, 10}, {190, 26}, {3000, -52}} {
		a := r.view.Axes[i]
		if mid(a.P) != 6400*want.place+3200 || a.V.Lo+a.V.Hi != 2*want.speed {
			t.Error(i, a, want)
		}
	}
}

// P24.5: what was asked for in the last tick moves the spans; noughts, if the motors were off.
func TestAskedMovesSpans(t *testing.T) {
	r := airborne(t, setup{par: map[int]int{api.Stale: 1}})
	r.command(position)
	r.rc = write(t, api.Rc, 1000, -1000, -1000, 0, 0)
	r.run(30)
	if askedBy(r.out.Motors) != [3]int{64, -64, -64} {
		t.Fatal(askedBy(r.out.Motors))
	}
	r.alter = func(in *api.Inputs) { in.Gnss, in.Baro = [3]string{}, [3]string{} }
	r.run(1)
	before := r.view.Axes
	asked := askedBy(r.out.Motors)
	r.run(1)
	for i, a := range r.view.Axes {
		if want := (api.Span{Lo: before[i].V.Lo + asked[i] - 92, Hi: before[i].V.Hi + asked[i] + 92}); a.V != want {
			t.Error(i, a.V, want)
		}
		if want := (api.Span{Lo: before[i].P.Lo + a.V.Lo, Hi: before[i].P.Hi + a.V.Hi}); a.P != want {
			t.Error(i, a.P, want)
		}
	}
	// What the backup asks for counts as well.
	r = airborne(t, setup{par: map[int]int{api.Stale: 1}})
	r.w.V = [3]int{3000, 20, 0}
	r.w.Charge = 0
	r.until(api.Brake, 8)
	r.run(2)
	r.alter = func(in *api.Inputs) { in.Gnss = [3]string{} }
	r.run(1)
	before = r.view.Axes
	r.run(1)
	for i, push := range []int{-64, -20} {
		if got, want := r.view.Axes[i].V.Lo, before[i].V.Lo+push-92; got != want {
			t.Error(i, got, want)
		}
	}
	// On the ground, behind a flight, nothing is.
	r = inMode(t, api.Down, setup{par: map[int]int{api.Stale: 1}})
	r.alter = func(in *api.Inputs) { in.Gnss = [3]string{} }
	r.run(2)
	if got := r.view.Axes[0].V; got != (api.Span{Lo: -96, Hi: 96}) {
		t.Error(got)
	}
}

// P24.5: stand is asked of axis 2 ahead of the step, for all axes: P.Lo, and V.Lo and acc less dev, at 0 and at 1.
func TestStand(t *testing.T) {
	for _, row := range []struct {
		mm, v int
		stand bool
	}{
		{20, 4, true},     // 0 and 0 - 92
		{0, 0, true},      // below the ground by what the barometers are off
		{21, -6304, true}, // 6400 and -6308 - 92
		{21, -6303, false},
		{21, 0, false},
		{5000, 0, false},
		{5000, -40000000, true},
		{-5000, 0, true},
	} {
		r := setup{par: map[int]int{api.Stale: 1}}.rig(t)
		r.still = true
		r.w.V = [3]int{1000, -1000, 0}
		r.w.P[2] = 6400 * 100000
		r.run(5)
		r.alter = func(in *api.Inputs) { in.Gnss = [3]string{} }
		r.w.P[2], r.w.V[2] = 6400*row.mm, row.v
		r.run(1) // the Gnss units are believed for this tick
		before := r.view.Axes
		r.run(1)
		x, y := r.view.Axes[0], r.view.Axes[1]
		if got := x.V.Lo == 0 && y.V.Hi == 0; got != row.stand {
			t.Error(row, x, y)
		}
		if got := x.P.Lo == before[0].P.Lo && y.P.Hi == before[1].P.Hi; got != row.stand {
			t.Error(row, x, y)
		}
		if x.V.Hi != before[0].V.Hi+92 || y.V.Lo != before[1].V.Lo-92 {
			t.Error(row, x, y)
		}
	}
	// With what is asked for: it lifts by 64, so that 6400 and -6368 and 64 - 92 are 4, and by 60 they are 0.
	for v, stand := range map[int]bool{-6304 - 64: true, -6304 - 63: false} {
		r := airborne(t, setup{par: map[int]int{api.Stale: 1}})
		r.command(position)
		r.w.V = [3]int{0, 0, 0}
		r.rc = write(t, api.Rc, 0, 0, 1000, 0, 0)
		r.run(390)
		// The climb that is told is far below what is wanted.
		if askedBy(r.out.Motors)[2] != 64 {
			t.Fatal(r.out.Motors)
		}
		r.w.V[0] = 1000
		r.run(1)
		r.alter = func(in *api.Inputs) { in.Gnss = [3]string{} }
		r.w.P[2], r.w.V[2] = 6400*21, v
		r.run(1)
		r.run(1)
		if got := r.view.Axes[0].V.Lo <= 0; got != stand {
			t.Error(v, r.view.Axes)
		}
	}
}

// P24.5: as long as the filter of axis 2 knows nothing the vehicle may stand.
func TestStandUnknown(t *testing.T) {
	r := setup{par: map[int]int{api.Stale: 1}}.rig(t)
	r.still = true
	r.w.V[0] = 5000
	r.alter = func(in *api.Inputs) {
		in.Baro = [3]string{}
		if r.tick > 3 {
			in.Gnss = [3]string{}
		}
	}
	r.run(6)
	if got := r.view.Axes[0].V; got.Lo != 0 || got.Hi != 5004+92 {
		t.Error(got)
	}
	if r.view.Axes[2] != (api.Axis{}) {
		t.Error(r.view.Axes[2])
	}
}

// P24.5, P24.6: when the Imus come back it takes until the compass's bound is small that the vehicle is fit.
func TestCompassComesBack(t *testing.T) {
	for _, silent := range []int{30, 60, 300} {
		r := standing(t, setup{par: map[int]int{api.Stale: 1}})
		r.alter = func(in *api.Inputs) { in.Imu = [3]string{} }
		r.run(silent)
		r.is(api.Locked)
		r.alter = nil
		// One vote more behind the last word; then 4096 each tick, up to half a turn.
		bound := min(17+4096*(silent-1), 8*65536)
		start := r.tick
		for r.view.Mode == api.Locked {
			r.step()
			bound = 7*bound/8 + 3
			if tick := r.tick - 1; tick%4 == 0 && (r.view.Mode == api.Standby) != (bound < 65536) {
				t.Fatal(silent, tick-start, bound)
			}
		}
		if r.tick-start < 5 {
			t.Error(silent, r.tick-start)
		}
	}
}

// P24.5: the heading is off by 1, the rate by nothing: what that makes of the bound can be seen where it comes just below a whole angle.
func TestCompassBound(t *testing.T) {
	r := standing(t, setup{par: map[int]int{api.Stale: 1}})
	silent := func(in *api.Inputs) { in.Imu = [3]string{} }
	r.align(0)
	bound := 17
	for _, s := range []struct{ mute, heard int }{{19, 7}, {26, 4}} {
		r.alter = silent
		r.run(s.mute)
		r.alter = nil
		r.run(s.heard)
		// The first silent tick has a vote still.
		bound = 7*bound/8 + 3 + 4096*(s.mute-1)
		for range s.heard {
			bound = 7*bound/8 + 3
		}
	}
	if bound < 65536 || 7*bound/8+3 != 65535 {
		t.Fatal(bound)
	}
	r.is(api.Locked)
	r.run(1)
	r.is(api.Standby)
}

// P24.5: the compass steps by the voted rate and heading; the vehicle is turned by them.
func TestCompassTurns(t *testing.T) {
	r := airborne(t, setup{})
	r.is(api.Hold)
	imu := func(heading, rate int) {
		r.alter = func(in *api.Inputs) {
			for i := range 3 {
				in.Imu[i] = write(t, api.Imu, (heading+65536)%65536, rate, 0, 0)
			}
		}
	}
	// Known for long: the heading 8000 wants a rate of -2000, kept to -800; less the rate, over 4, kept to -100.
	imu(8000, 0)
	r.run(300)
	if got := twistOf(r.out.Motors); got != -100 {
		t.Error(got)
	}
	imu(8000, -696)
	r.step()
	if got := twistOf(r.out.Motors); got != -26 {
		t.Error(got)
	}
	// To the north, turning: the rate over 4.
	imu(0, 0)
	r.run(400)
	imu(0, 40)
	r.step()
	if got := twistOf(r.out.Motors); got != -10 {
		t.Error(got)
	}
	// No vote: the rate is 0.
	r.alter = func(in *api.Inputs) { in.Imu = [3]string{} }
	r.run(9)
	if got := twistOf(r.out.Motors); got < -5 || got > 0 {
		t.Error(got)
	}
}

// twistOf is the twist of an arm, if no motor is dead.
func twistOf(motors [8]int) int { return motors[0] - motors[1] }

// P24.5, P24.7: the detector: how long a landing takes, from where the vehicle falls as it shall but does not.
func TestDetectorTicks(t *testing.T) {
	for _, row := range []struct {
		mode  api.Mode
		steps int // until the whole fall is wanted: 8000 over 12, over 32
	}{{api.Land, 667}, {api.Descend, 667}, {api.Sink, 250}} {
		for _, climb := range []int{0, -4000, 3000} {
			r := airborne(t, setup{})
			switch row.mode {
			case api.Land:
				r.command(land)
			case api.Descend:
				r.command(toReturn)
				r.until(api.Descend, 9)
			case api.Sink:
				r.w.Charge = 0
				r.until(api.Sink, 9)
			}
			start := r.tick - 1
			// The speed that is told when the wanted one is reached does not matter to the steer's reference.
			r.w.V[2] = climb
			r.until(api.Down, 2000)
			// The whole fall is wanted in the tick start + steps - 1; 40 ticks behind it looks so for the 40th time.
			first := start + row.steps + 39
			first += (4 - first%4) % 4
			if got := r.tick - 1; got != first {
				t.Error(row, climb, got-start, first-start)
			}
			if r.out.Motors != [8]int{} {
				t.Error(r.out.Motors)
			}
		}
		r := airborne(t, setup{})
		r.w.V[2] = -4001
		if row.mode == api.Sink {
			r.w.Charge = 0
			r.until(api.Brake, 9)
			r.w.V[2] = 0
			r.until(api.Sink, 9)
			r.w.V[2] = -4001
		} else {
			r.command(map[api.Mode]int{api.Land: land, api.Descend: toReturn}[row.mode])
		}
		for range 1500 {
			r.step()
			if r.view.Mode == api.Down {
				t.Fatal(row, "landed while it falls by half")
			}
		}
	}
}

// P24.5: in no other mode does the detector say that it has landed.
func TestDetectorElsewhere(t *testing.T) {
	wait := []api.MissionItem{{Kind: api.LoiterItem, A: 1000000}}
	for _, mode := range []api.Mode{api.Takeoff, api.Hold, api.Position, api.Altitude, api.Auto, api.Climb, api.Return} {
		r := inMode(t, mode, setup{items: wait, par: map[int]int{api.LinkWait: 40000}})
		r.alter = func(in *api.Inputs) { in.Rc = write(t, api.Rc, 0, 0, -1000, 0, 0) }
		r.run(1200)
		r.is(mode)
	}
}

// P24.5: each port's readings are voted upon each tick, also with no units at all.
func TestVotesEachTick(t *testing.T) {
	r := standing(t, setup{par: map[int]int{api.Stale: 3}})
	one, _ := sense.Write(api.Gnss, 50, 0, 0, 0)
	two, _ := sense.Write(api.Gnss, -50, 0, 0, 0)
	for tick := range 40 {
		r.alter = func(in *api.Inputs) {
			in.Gnss = [3]string{}
			switch tick % 4 {
			case 0:
				in.Gnss[0] = one
			case 2:
				in.Gnss[1] = two
			}
		}
		r.step()
	}
	r.is(api.Standby)
}
