package pilot_test

import (
	"testing"

	"windhover/api"
	"windhover/params"
)

// needs is the least charge that must be left for a tier: landing alone, or with the way back.
func needs(t *testing.T, values []int, height, distance int, back bool) int {
	t.Helper()
	m, _ := params.Margins(values)
	land, e := params.LandTicks(values, height)
	home, e2 := params.ReturnTicks(values, height, distance)
	if e != api.OK || e2 != api.OK {
		t.Fatal(e, e2)
	}
	if !back {
		home = 0
	}
	return values[api.ChargeFloor] + m.Drain*(land+home+8)
}

// P24.6: fit, and each of its conditions broken alone, at its ends.
func TestFit(t *testing.T) {
	tilt := func(x, y int) func(in *api.Inputs) {
		return func(in *api.Inputs) {
			for i := range 3 {
				in.Imu[i] = write(t, api.Imu, 0, 0, x, y)
			}
		}
	}
	charge := func(x int) func(in *api.Inputs) {
		return func(in *api.Inputs) { in.Esc = write(t, api.Esc, 0, x) }
	}
	full := needs(t, params.Defaults(), 0, 0, true) + 100
	for _, row := range []struct {
		name  string
		alter func(in *api.Inputs)
		fit   bool
	}{
		{"nothing", nil, true},
		{"no place sideways", func(in *api.Inputs) { in.Gnss = [3]string{} }, false},
		{"no height", func(in *api.Inputs) { in.Baro = [3]string{} }, false},
		{"no heading", func(in *api.Inputs) { in.Imu = [3]string{} }, false},
		{"no charge", func(in *api.Inputs) { in.Esc = "" }, false},
		{"one unit of each sort", func(in *api.Inputs) {
			for i := 1; i < 3; i++ {
				in.Imu[i], in.Gnss[i], in.Baro[i] = "", "", ""
			}
		}, true},
		{"tilt x at its end", tilt(4000, 0), true},
		{"tilt x beyond", tilt(4001, 0), false},
		{"tilt x at its other end", tilt(-4000, 0), true},
		{"tilt x beyond the other end", tilt(-4001, 0), false},
		{"tilt y at its end", tilt(0, 4000), true},
		{"tilt y beyond", tilt(0, 4001), false},
		{"tilt y at its other end", tilt(0, -4000), true},
		{"tilt y beyond the other end", tilt(0, -4001), false},
		{"a dead motor", func(in *api.Inputs) { in.Esc = write(t, api.Esc, 3, plenty) }, false},
		{"no motor 9", func(in *api.Inputs) { in.Esc = write(t, api.Esc, 9, plenty) }, true},
		{"the least charge", charge(full), true},
		{"less", charge(full - 1), false},
		{"none", charge(0), false},
	} {
		r := setup{}.rig(t)
		r.still = true
		r.alter = row.alter
		r.run(9)
		if got := r.view.Mode == api.Standby; got != row.fit {
			t.Error(row.name, r.view.Mode)
		}
		// It may be, and may be no more.
		r.alter = nil
		r.run(9)
		if row.name == "a dead motor" {
			r.is(api.Locked)
			continue
		}
		r.is(api.Standby)
		r.alter = row.alter
		r.run(60)
		if got := r.view.Mode == api.Standby; got != row.fit && row.name != "no charge" {
			t.Error(row.name, r.view.Mode)
		}
	}
}

// P24.6: a TiltLimit of 0, and one of a quarter turn.
func TestFitTiltLimits(t *testing.T) {
	for limit, tilts := range map[int]map[int]bool{0: {0: true, 1: false, -1: false}, 16384: {16384: true, -16384: true, 16385: false, -16385: false}} {
		for tilt, fit := range tilts {
			r := setup{par: map[int]int{api.TiltLimit: limit}}.rig(t)
			r.alter = func(in *api.Inputs) {
				for i := range 3 {
					in.Imu[i] = write(t, api.Imu, 0, 0, tilt, -tilt)
				}
			}
			r.run(5)
			if got := r.view.Mode == api.Standby; got != fit {
				t.Error(limit, tilt, got)
			}
		}
	}
}

// P24.6: the tilts must be voted in this tick; they are as long as a unit is valid.
func TestFitTiltsVoted(t *testing.T) {
	for silentFrom := 8; silentFrom < 12; silentFrom++ {
		r := setup{par: map[int]int{api.Stale: 6}}.rig(t)
		r.still = true
		r.alter = func(in *api.Inputs) {
			if r.tick >= silentFrom {
				in.Imu = [3]string{}
			}
		}
		for range 40 {
			r.step()
			tick := r.tick - 1
			last := silentFrom - 1 + 6
			if want := tick/4*4 <= last; (r.view.Mode == api.Standby) != want {
				t.Fatal(silentFrom, tick, r.view.Mode)
			}
		}
	}
}

// P24.6: the box about the vehicle lies in the fence, ArmMargin away: 21 mm and the margin on each side; below the ground it does not matter.
func TestFitBox(t *testing.T) {
	for _, row := range []struct {
		x, y, z int
		fit     bool
	}{
		{29478, 0, 0, true}, {29479, 0, 0, false},
		{-29479, 0, 0, true}, {-29480, 0, 0, false},
		{0, 29478, 0, true}, {0, 29479, 0, false},
		{0, -29479, 0, true}, {0, -29480, 0, false},
		{0, 0, 19479, true}, {0, 0, 19480, false},
		{0, 0, -521, true}, {0, 0, -522, false},
		{0, 0, -20000, false},
		{2147483647, 0, 0, false}, {0, -2147483648, 0, false}, {0, 0, 2147483647, false},
	} {
		r := setup{fence: square(30000, 20000)}.rig(t)
		r.still = true
		r.w.P = [3]int{6400 * row.x, 6400 * row.y, 6400 * row.z}
		r.run(1)
		if got := r.view.Mode == api.Standby; got != row.fit {
			t.Error(row, r.view.Mode)
		}
	}
	// Another margin, other bounds of the sensors.
	for x, fit := range map[int]bool{30000 - 4 - 100 - 1: true, 30000 - 4 - 100: false} {
		r := setup{fence: square(30000, 20000), par: map[int]int{api.GnssPlace: 3, api.ArmMargin: 100}}.rig(t)
		r.w.P[0] = 6400 * x
		r.run(1)
		if got := r.view.Mode == api.Standby; got != fit {
			t.Error(x, r.view.Mode)
		}
	}
	// A floor below the ground, and a fence that is not about the vehicle.
	low := square(30000, 20000)
	low.Floor = -100
	far := api.Fence{Poly: []api.Point{{X: 2000, Y: 2000}, {X: 9000, Y: 2000}, {X: 2000, Y: 9000}}, Ceiling: 9000}
	for i, f := range []api.Fence{low, far} {
		r := setup{fence: f}.rig(t)
		r.run(1)
		if got := r.view.Mode == api.Standby; got != (i == 0) {
			t.Error(i, r.view.Mode)
		}
	}
}

// P24.6: the box is told outward: a part of a mm that a silent tick adds is a whole one, on each side.
func TestFitBoxOutward(t *testing.T) {
	for _, row := range []struct {
		axis, mm int
		fit      bool
	}{
		{0, 29477, true}, {0, 29478, false}, {0, -29478, true}, {0, -29479, false},
		{1, 29477, true}, {1, 29478, false}, {1, -29478, true}, {1, -29479, false},
		{2, 19478, true}, {2, 19479, false},
	} {
		r := setup{fence: square(30000, 20000), par: map[int]int{api.Stale: 1}}.rig(t)
		r.still = true
		r.w.P[row.axis] = 6400 * row.mm
		r.run(7)
		r.is(api.Standby)
		// One silent tick has a vote still, the next one has none.
		r.alter = func(in *api.Inputs) { in.Gnss, in.Baro = [3]string{}, [3]string{} }
		r.run(2)
		if p := r.view.Axes[row.axis].P; p.Hi != 6400*(row.mm+21)+96 || p.Lo != 6400*(row.mm-20)-96 {
			t.Fatal(p)
		}
		if got := r.view.Mode == api.Standby; got != row.fit {
			t.Error(row, r.view.Mode)
		}
	}
}

// P24.6: the height that a tier is asked of is rounded up.
func TestDryRounded(t *testing.T) {
	values := params.Defaults()
	values[api.Stale] = 1
	for _, mm := range []int{5000, 5001, 5002, 5003, 5004} {
		above, below := needs(t, values, mm+22, 0, false), needs(t, values, mm+21, 0, false)
		if above == below {
			continue
		}
		for less := range 2 {
			r := airborne(t, setup{par: map[int]int{api.Stale: 1}})
			r.at(0, 0, mm)
			r.order(position, 0)
			r.align(3)
			r.alter = func(in *api.Inputs) { in.Baro = [3]string{} }
			r.run(1)
			r.w.Charge = above + 100 - less
			r.run(1)
			if p := r.view.Axes[2].P.Hi; p != 6400*(mm+21)+96 {
				t.Fatal(p)
			}
			if got := r.view.Mode == api.Brake; got != (less == 1) {
				t.Error(mm, less, r.view.Mode)
			}
		}
		return
	}
	t.Error("no height to tell them apart")
}

// flyingModes are those in which Trip, Blind and Dry lead to Brake.
var flyingModes = []api.Mode{api.Takeoff, api.Hold, api.Position, api.Altitude, api.Auto, api.Climb, api.Return, api.Descend, api.Land}

var loiter = []api.MissionItem{{Kind: api.LoiterItem, A: 1000000}}

// P24.6: Blind, alone: a filter that is not good.
func TestBlind(t *testing.T) {
	for _, mode := range flyingModes {
		for sort := range 2 {
			r := inMode(t, mode, setup{items: loiter, par: map[int]int{api.Stale: 2}})
			r.alter = func(in *api.Inputs) {
				if sort == 0 {
					in.Gnss = [3]string{}
				} else {
					in.Baro = [3]string{}
				}
			}
			from := r.tick
			r.until(api.Brake, 20)
			// Two ticks it is believed, and two more are no matter: the fifth silent tick is the first one in which it is not good.
			bad := from + 4
			bad += (4 - bad%4) % 4
			if got := r.tick - 1; got != bad || r.view.Latches != 1<<api.Blind {
				t.Error(mode, sort, got, bad, r.view.Latches)
			}
		}
		// The compass and the tilts do not matter here.
		r := inMode(t, mode, setup{items: loiter, par: map[int]int{api.Stale: 2}})
		r.alter = func(in *api.Inputs) { in.Imu = [3]string{} }
		r.run(60)
		r.is(mode)
	}
}

// P24.6: Dry, alone: the charge at its end, by the height of the filter's P.Hi.
func TestDry(t *testing.T) {
	for _, mode := range flyingModes {
		r := inMode(t, mode, setup{items: loiter})
		height := r.view.Axes[2].P.Hi / 6400
		least := needs(t, params.Defaults(), height, 0, false) + 100
		less := 1
		if mode == api.Descend || mode == api.Land {
			// It falls by what is told, so that its height is not the same in each tick.
			least, less = least+200, 400
		}
		// A charge that is Low, but not Critical, is no matter for one thinking.
		r.align(0)
		r.w.Charge = least
		r.run(1)
		if r.view.Mode == api.Brake || r.view.Left.Lo != least-100 {
			t.Error(mode, r.view.Mode, r.view.Left, least)
		}
		r = inMode(t, mode, setup{items: loiter})
		r.align(0)
		r.w.Charge = least - less
		r.run(1)
		if r.view.Mode != api.Brake || r.view.Latches != 1<<api.Dry {
			t.Error(mode, r.view.Mode, r.view.Latches)
		}
	}
	// What the sensors are off counts: 21 mm more than what is told.
	for _, mm := range []int{5001, 7777, 100000} {
		values := params.Defaults()
		if needs(t, values, mm+21, 0, false) == needs(t, values, mm+20, 0, false) {
			mm++
		}
		least := needs(t, values, mm+21, 0, false) + 100
		for less := range 2 {
			r := airborne(t, setup{})
			r.at(0, 0, mm)
			r.w.Charge = least - less
			r.run(1)
			if got := r.view.Mode == api.Brake; got != (less == 1) {
				t.Error(mm, less, r.view.Mode)
			}
		}
	}
}

// P24.6: Lean: five thinkings, one behind the other; four are not enough.
func TestLean(t *testing.T) {
	for _, mode := range flyingModes {
		leads := mode >= api.Takeoff && mode <= api.Auto
		for low := 1; low <= 6; low++ {
			r := inMode(t, mode, setup{items: loiter})
			height := r.view.Axes[2].P.Hi / 6400
			charge := needs(t, params.Defaults(), height+50, 0, false) + 100
			r.align(0)
			for think := range low {
				r.w.Charge = charge
				r.run(1)
				if want := leads && think >= 4; want != (r.view.Mode != mode) || think == 4 && r.view.Latches != 1<<api.Lean {
					t.Fatal(mode, low, think, r.view.Mode, r.view.Latches)
				}
				r.w.Charge = plenty
				r.run(3)
			}
			if low > 4 {
				continue
			}
			// Full again: it is counted anew.
			r.run(1)
			if r.view.Mode != mode || r.view.Latches != 0 {
				t.Fatal(mode, low, r.view)
			}
			r.run(3)
			for range 4 {
				r.w.Charge = charge
				r.run(4)
			}
			if r.view.Mode != mode || r.view.Latches != 0 {
				t.Fatal(mode, low, r.view)
			}
		}
	}
}

// P24.6: what is Low hangs on the distance from home, the greater one of both axes, rounded up, and on the height.
func TestLeanDistance(t *testing.T) {
	values := params.Defaults()
	for _, row := range []struct{ x, y, z, distance int }{
		{20000, 0, 5000, 20000}, {-20000, 0, 5000, 20000}, {0, 20000, 5000, 20000}, {0, -20000, 5000, 20000},
		{20000, 30000, 5000, 30000}, {-30000, 20000, 5000, 30000}, {500, -500, 90000, 500},
	} {
		least := needs(t, values, row.z+21, row.distance, true) + 100
		if needs(t, values, row.z+21, row.distance-1, true) == needs(t, values, row.z+21, row.distance, true) {
			t.Fatal("not to be told apart", row)
		}
		for less := range 2 {
			r := airborne(t, setup{})
			r.at(row.x, row.y, row.z)
			r.w.Charge = least - less
			r.run(24)
			if got := r.view.Mode != api.Hold; got != (less == 1) {
				t.Error(row, less, r.view.Mode)
			}
		}
	}
	// A way that is no whole number of mm is rounded up: home lies half a mm and more aside of a voted place.
	for less := range 2 {
		r := setup{fence: square(200000000, 200000000)}.rig(t)
		r.still = true
		r.run(1)
		// A span that is cut by a second measure: its middle is no mm's.
		r.w.P[0] = 6400
		r.align(0)
		r.order(arm, 0)
		home := mid(r.view.Axes[0].P)
		if home%6400 == 3200 {
			t.Fatal("a middle of a mm", home)
		}
		r.command(takeoff, hold)
		r.at(20000, 0, 5000)
		far := (6400*20000+3200-home)/6400 + 1
		least := needs(t, values, 5021, far, true) + 100
		if least == needs(t, values, 5021, far-1, true)+100 {
			t.Fatal("not to be told apart")
		}
		r.w.Charge = least - less
		r.run(24)
		if got := r.view.Mode != api.Hold; got != (less == 1) {
			t.Error(less, r.view.Mode)
		}
	}
}

// P24.6: Silent: link and remote control, both, in five thinkings, one behind the other.
func TestSilent(t *testing.T) {
	for _, mode := range flyingModes {
		leads := mode >= api.Takeoff && mode <= api.Auto
		r := inMode(t, mode, setup{items: loiter, par: map[int]int{api.LinkWait: 60, api.RcWait: 40}})
		r.align(1)
		r.link = msg(t, api.Cancel, 9)
		r.step()
		heard := r.tick - 1
		r.rc = write(t, api.Rc, 0, 0, 0, 0, 0)
		r.step()
		// The first thinking that is more than 60 ticks behind: 63 behind, as the message came a tick behind a thinking.
		for r.tick-1 < heard+63+16 {
			if r.view.Mode != mode || r.view.Latches != 0 {
				t.Fatal(mode, r.tick-1-heard, r.view)
			}
			r.step()
		}
		if (r.view.Mode == mode) == leads || r.view.Latches != 1<<api.Silent {
			t.Error(mode, r.view)
		}
	}
	// Either of them alone is enough to be heard; and four thinkings are not enough.
	for _, say := range []func(r *rig){
		func(r *rig) { r.link = msg(t, api.Cancel, 9) },
		func(r *rig) { r.rc = write(t, api.Rc, 0, 0, 0, 0, 0) },
	} {
		r := airborne(t, setup{par: map[int]int{api.LinkWait: 40, api.RcWait: 40}})
		for range 20 {
			r.align(1)
			say(r)
			r.step()
			// It is said a tick behind a thinking: those 43, 47, 51 and 55 ticks behind it are silent ones.
			r.run(55)
		}
		r.is(api.Hold)
		if r.view.Latches != 0 {
			t.Error(r.view.Latches)
		}
	}
}

// P24.6: several events at once: the first by their numbers is followed, all that stay are latched.
func TestEventsAtOnce(t *testing.T) {
	// Dry and Blind, and Lean and Silent with them.
	r := airborne(t, setup{par: map[int]int{api.LinkWait: 40, api.RcWait: 40, api.Stale: 1}})
	r.command(land)
	r.w.V[2] = -8000
	r.run(90)
	r.is(api.Land)
	if r.view.Latches != 1<<api.Silent {
		t.Fatal(r.view.Latches)
	}
	r.w.Charge = 0
	r.align(2)
	r.alter = func(in *api.Inputs) { in.Baro = [3]string{} }
	r.run(2)
	r.run(1)
	r.is(api.Brake)
	if r.view.Latches != 1<<api.Silent|1<<api.Dry|1<<api.Blind {
		t.Error(r.view.Latches)
	}
	r.run(20)
	if r.view.Latches != 1<<api.Silent|1<<api.Dry|1<<api.Blind|1<<api.Lean {
		t.Error(r.view.Latches)
	}
	// An order and Silent: Silent goes ahead.
	r = airborne(t, setup{par: map[int]int{api.LinkWait: 40, api.RcWait: 40}})
	r.at(0, 0, 500)
	for r.view.Latches == 0 {
		r.link = ""
		if r.tick%4 == 0 && r.c.mute == 4 {
			r.rc = ""
		}
		r.step()
	}
	r.is(api.Climb)
	// Arrived and an order: Arrived goes ahead, and the order is dropped.
	r = inMode(t, api.Takeoff, setup{})
	r.at(0, 0, 2000)
	r.order(land, 0)
	r.is(api.Hold)
	r.run(20)
	r.is(api.Hold)
}

// P24.6: Arrived, in each mode that has it, at Radius and beyond.
func TestArrived(t *testing.T) {
	next := map[api.Mode]api.Mode{api.Takeoff: api.Hold, api.Climb: api.Return, api.Return: api.Descend}
	for _, row := range []struct {
		mode    api.Mode
		x, y, z int
		there   bool
	}{
		// The middle lies half a mm above what is told.
		{api.Takeoff, 0, 0, 1000, true}, {api.Takeoff, 0, 0, 999, false}, {api.Takeoff, 0, 0, 2999, true}, {api.Takeoff, 0, 0, 3000, false},
		{api.Takeoff, 90000, -90000, 2000, true},
		{api.Climb, 0, 0, 4000, true}, {api.Climb, 0, 0, 3999, false}, {api.Climb, 0, 0, 5999, true}, {api.Climb, 0, 0, 6000, false},
		{api.Climb, 90000, -90000, 5000, true},
		// Home is a middle itself.
		{api.Return, 1000, 0, 5000, true}, {api.Return, 1001, 0, 5000, false}, {api.Return, -1000, 0, 5000, true}, {api.Return, -1001, 0, 5000, false},
		{api.Return, 0, 1000, 5000, true}, {api.Return, 0, 1001, 5000, false}, {api.Return, 0, -1000, 5000, true}, {api.Return, 0, -1001, 5000, false},
		{api.Return, 1000, -1000, 90000, true},
	} {
		r := inMode(t, row.mode, setup{})
		r.at(row.x, row.y, row.z)
		r.is(row.mode)
		r.run(1)
		want := row.mode
		if row.there {
			want = next[row.mode]
		}
		if r.view.Mode != want {
			t.Error(row, r.view.Mode)
		}
	}
	// From above ReturnAlt it climbs no more, but is there where it is, and a Radius about it.
	for dz, there := range map[int]bool{0: true, 1000: true, 1001: false, -1000: true, -1001: false} {
		r := airborne(t, setup{})
		r.at(30000, 0, 9000)
		r.order(toReturn, 0)
		r.is(api.Climb)
		r.at(30000, 0, 9000+dz)
		r.is(api.Climb)
		r.run(1)
		if got := r.view.Mode == api.Return; got != there {
			t.Error(dz, r.view.Mode)
		}
	}
	// Another Radius and another height.
	r := inMode(t, api.Takeoff, setup{par: map[int]int{api.Radius: 2500, api.TakeoffAlt: 4000}})
	r.at(0, 0, 1499)
	r.run(1)
	r.is(api.Takeoff)
	r.at(0, 0, 1500)
	r.run(1)
	r.is(api.Hold)
}

// P24.6: Arrived in Brake: all three velocities are small.
func TestArrivedBrake(t *testing.T) {
	for axis := range 3 {
		for v, slow := range map[int]bool{64: true, 65: false, -64: true, -65: false, 0: true, 5000: false} {
			r := inMode(t, api.Brake, setup{})
			r.align(1)
			r.w.V = [3]int{}
			r.w.V[axis] = 700 // so that no span of before is left
			r.step()
			r.w.V[axis] = -700
			r.step()
			r.w.V[axis] = v
			r.step()
			r.is(api.Brake)
			r.run(1)
			if got := r.view.Mode == api.Sink; got != slow {
				t.Error(axis, v, r.view.Mode)
			}
		}
	}
}

// P24.6: in modes without it, nothing is ever arrived at.
func TestArrivedElsewhere(t *testing.T) {
	for _, mode := range []api.Mode{api.Hold, api.Position, api.Altitude, api.Auto, api.Descend, api.Land, api.Sink} {
		r := inMode(t, mode, setup{items: loiter})
		for _, z := range []int{0, 2000, 5000} {
			v := r.w.V[2]
			r.w.V[2] = 0
			r.at(0, 0, z)
			r.w.V[2] = v
			r.run(5)
			r.is(mode)
		}
	}
}

// P24.6: Auto: the run steps in each thinking, ahead of the events: how many thinkings items take, and where they lead.
func TestAutoSteps(t *testing.T) {
	speed := api.MissionItem{Kind: api.SpeedItem, A: 2000}
	wait := func(n int) api.MissionItem { return api.MissionItem{Kind: api.LoiterItem, A: n} }
	back := func(to, times int) api.MissionItem { return api.MissionItem{Kind: api.JumpItem, A: to, B: times} }
	end, home := api.MissionItem{Kind: api.LandItem}, api.MissionItem{Kind: api.ReturnItem}
	for i, row := range []struct {
		items     []api.MissionItem
		thinkings int
		mode      api.Mode
		index     int
	}{
		{[]api.MissionItem{end}, 1, api.Land, 0},
		{[]api.MissionItem{home}, 1, api.Climb, 0},
		{[]api.MissionItem{speed}, 1, api.Hold, 1},
		{[]api.MissionItem{speed, end}, 1, api.Land, 1},
		{[]api.MissionItem{speed, speed, home}, 2, api.Climb, 2},
		{[]api.MissionItem{wait(0), end}, 1, api.Land, 1},
		{[]api.MissionItem{wait(1), end}, 1, api.Land, 1},
		{[]api.MissionItem{wait(7), end}, 7, api.Land, 1},
		{[]api.MissionItem{wait(3), speed}, 4, api.Hold, 2},
		{[]api.MissionItem{speed, back(0, 3), end}, 8, api.Land, 2},
		{[]api.MissionItem{back(2, 1), end, speed}, 2, api.Hold, 3},
	} {
		r := airborne(t, setup{items: row.items})
		r.at(0, 0, 500)
		r.order(auto, 0)
		r.is(api.Auto)
		for range row.thinkings - 1 {
			r.run(4)
			r.is(api.Auto)
		}
		r.run(3)
		r.is(api.Auto)
		r.run(1)
		if r.view.Mode != row.mode || r.view.Index != row.index {
			t.Error(i, r.view.Mode, r.view.Index)
		}
	}
}

// P24.6: a takeoff is reached on axis 2 alone, a waypoint on all three, within Radius.
func TestAutoGoals(t *testing.T) {
	up := []api.MissionItem{{Kind: api.TakeoffItem, A: 7000}, loiter[0]}
	way := []api.MissionItem{{Kind: api.WaypointItem, A: 10000, B: -20000, C: 7000}, loiter[0]}
	for _, row := range []struct {
		items   []api.MissionItem
		x, y, z int
		index   int
	}{
		{up, 0, 0, 6000, 1}, {up, 0, 0, 5999, 0}, {up, 0, 0, 7999, 1}, {up, 0, 0, 8000, 0}, {up, 90000, -90000, 7000, 1},
		{way, 10000, -20000, 7000, 1},
		{way, 9000, -20000, 7000, 1}, {way, 8999, -20000, 7000, 0}, {way, 10999, -20000, 7000, 1}, {way, 11000, -20000, 7000, 0},
		{way, 10000, -21000, 7000, 1}, {way, 10000, -21001, 7000, 0}, {way, 10000, -19001, 7000, 1}, {way, 10000, -19000, 7000, 0},
		{way, 10000, -20000, 6000, 1}, {way, 10000, -20000, 5999, 0}, {way, 10000, -20000, 7999, 1}, {way, 10000, -20000, 8000, 0},
		{way, 10999, -19001, 6000, 1},
	} {
		r := airborne(t, setup{items: row.items})
		r.at(50000, 50000, 50000)
		r.order(auto, 0)
		r.run(8)
		r.is(api.Auto)
		if r.view.Index != 0 {
			t.Fatal("begun", r.view.Index)
		}
		r.at(row.x, row.y, row.z)
		r.run(1)
		if r.view.Index != row.index {
			t.Error(row, r.view.Index)
		}
		r.run(8)
		if r.view.Index != row.index {
			t.Error(row, r.view.Index)
		}
	}
}

// P24.6: the run stands still in all other modes, and goes on where it was.
func TestAutoPauses(t *testing.T) {
	r := airborne(t, setup{items: []api.MissionItem{{Kind: api.LoiterItem, A: 10}, {Kind: api.LandItem}}})
	r.command(auto)
	r.run(5 * 4)
	// The hold is followed in the sixth thinking, ahead of which the run has made its sixth step.
	r.align(0)
	r.order(hold, 0)
	r.is(api.Hold)
	r.run(400)
	r.command(auto)
	r.run(3*4 + 3)
	r.is(api.Auto)
	if r.view.Index != 0 {
		t.Error(r.view.Index)
	}
	r.run(1)
	r.is(api.Land)
}

// P24.6: wishes that lead nowhere when they are thought of are dropped; a WantAuto without a mission is none.
func TestWishesDropped(t *testing.T) {
	r := inMode(t, api.Takeoff, setup{})
	turn := func(knob int) {
		r.rc = write(t, api.Rc, 0, 0, 0, 0, knob)
		r.run(4)
	}
	turn(0)
	// From Takeoff no wish leads to Position; it is not kept for Hold.
	turn(2)
	r.is(api.Takeoff)
	r.at(0, 0, 2000)
	r.run(8)
	r.is(api.Hold)
	turn(4)
	r.is(api.Hold)
	// An order that was granted, and then a mode from which it leads nowhere.
	r = inMode(t, api.Ready, setup{})
	r.align(1)
	r.order(takeoff, 0)
	r.order(disarm, 0)
	r.run(2)
	r.is(api.Standby)
	r.command(arm)
	r.run(20)
	r.is(api.Ready)
}

// P24.6: home is where the vehicle was when it was armed, no matter where it goes then.
func TestHome(t *testing.T) {
	for _, home := range [][2]int{{0, 0}, {30000, -7000}} {
		r := setup{fence: square(200000000, 200000000)}.rig(t)
		r.still = true
		r.run(1)
		r.command(arm, disarm)
		r.at(home[0], home[1], 0)
		r.order(arm, 0)
		r.at(90, 90, 0)
		r.command(takeoff)
		r.at(50000, 50000, 2000)
		r.run(1)
		r.command(position, hold, toReturn)
		r.until(api.Climb, 1)
		r.at(home[0]+1001, home[1], 5000)
		r.run(9)
		r.is(api.Return)
		r.at(home[0]-1000, home[1]+1000, 5000)
		r.run(1)
		r.is(api.Descend)
	}
}

// P24.6: the target: the nearest rally point to which there is a lane, with the room that the margins ask for; else home.
func TestTarget(t *testing.T) {
	m, _ := params.Margins(params.Defaults())
	rally := []api.Point{{X: 50000, Y: 0}, {X: 60000, Y: 0}, {X: 0, Y: 40000}}
	for _, row := range []struct {
		x, y   int
		target api.Point
	}{
		{54999, 0, rally[0]}, {55001, 0, rally[1]}, {1000, 30000, rally[2]}, {0, 0, rally[2]},
		// The fence is as near as the room is: no lane leads anywhere, and one mm from it there is one.
		{100000 - m.Lane, 0, api.Point{}}, {100000 - m.Lane - 1, 0, rally[1]},
		{-100000 + m.Lane, 0, api.Point{}}, {-100000 + m.Lane + 1, 0, rally[2]},
	} {
		r := airborne(t, setup{fence: square(100000, 200000000, rally...)})
		r.at(row.x, row.y, 9000)
		r.order(toReturn, 0)
		r.is(api.Climb)
		r.run(4)
		r.is(api.Return)
		// From its target, Radius away on both sides; the place of a rally point is a whole mm, home a middle.
		half := 0
		if row.target != (api.Point{}) {
			half = 1
		}
		r.at(row.target.X+1001-half, row.target.Y, 9000)
		r.run(1)
		r.is(api.Return)
		r.at(row.target.X+1000-half, row.target.Y-1000, 9000)
		r.run(1)
		if r.view.Mode != api.Descend {
			t.Error(row, r.view.Mode)
		}
	}
	// A place below 0 is rounded down to a mm: half a mm less is another one.
	for axis := range 2 {
		near := []api.Point{{X: -1003, Y: 40000}, {X: 1002, Y: 40000}}
		if axis == 1 {
			near = []api.Point{{X: 40000, Y: -1003}, {X: 40000, Y: 1002}}
		}
		for mm, want := range map[int]int{-2: 0, -1: 0, 0: 1, 1: 1} {
			r := airborne(t, setup{fence: square(100000, 200000000, near...), par: map[int]int{api.Radius: 260}})
			from := [2]int{}
			from[axis] = mm
			r.at(from[0], from[1], 9000)
			r.order(toReturn, 0)
			r.run(4)
			r.is(api.Return)
			r.at(near[want].X, near[want].Y, 9000)
			r.run(1)
			if r.view.Mode != api.Descend {
				t.Error(axis, mm, r.view.Mode)
			}
		}
	}
	// Beyond what a place may be the guard has tripped, and goes ahead of the order.
	r := airborne(t, setup{fence: square(100000, 200000000, rally...)})
	r.at(2147480000, 0, 9000)
	r.order(toReturn, 0)
	r.is(api.Brake)
}

// P24.6: in Standby and Locked the guard has not tripped any more: the next flight is one.
func TestTripForgotten(t *testing.T) {
	for _, locked := range []bool{false, true} {
		r := airborne(t, setup{})
		r.w.V[0] = 2000000000
		r.run(1)
		if !r.view.Backup {
			t.Fatal("not tripped")
		}
		r.w.V[0] = 0
		r.until(api.Brake, 4)
		if r.view.Latches != 1<<api.Trip {
			t.Error(r.view.Latches)
		}
		r.until(api.Sink, 20)
		r.until(api.Down, 400)
		if r.view.Latches != 1<<api.Trip {
			t.Error(r.view.Latches)
		}
		if locked {
			r.alter = func(in *api.Inputs) { in.Esc = write(t, api.Esc, 0, 0) }
			r.until(api.Locked, 4)
			r.alter = nil
		}
		r.until(api.Standby, 8)
		if r.view.Latches != 0 {
			t.Error(r.view.Latches)
		}
		r.command(arm, takeoff, hold)
		r.run(40)
		r.is(api.Hold)
		if r.view.Latches != 0 || r.view.Backup {
			t.Error(r.view)
		}
	}
}

// P24.6: the run is made anew when the vehicle is armed, and only then.
func TestRunAnew(t *testing.T) {
	r := airborne(t, setup{items: []api.MissionItem{{Kind: api.SpeedItem, A: 2000}, {Kind: api.LandItem}}})
	r.command(auto)
	r.until(api.Land, 8)
	r.until(api.Down, 2000)
	r.until(api.Standby, 8)
	if r.view.Index != 1 {
		t.Error(r.view.Index)
	}
	r.command(arm)
	if r.view.Index != 0 {
		t.Error(r.view.Index)
	}
	r.command(auto)
	r.until(api.Land, 8)
	r.run(1)
	r.command(hold)
	if r.view.Index != 1 {
		t.Error(r.view.Index)
	}
}
