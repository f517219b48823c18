package pilot_test

import (
	"testing"

	"windhover/api"
	"windhover/fence"
	"windhover/guard"
	"windhover/mixer"
	"windhover/params"
)

// swift are parameters by which a steer comes to any velocity soon.
var swift = map[int]int{api.LinkWait: 40000, api.Accel: 32, api.Cruise: 17000, api.Rise: 9000, api.Fall: 7000}

// settles lets the vehicle have these velocities, and asks for nothing to be asked for on each axis then: so these are what the steer leads to.
func (r *rig) settles(name string, refs [3]int) {
	r.t.Helper()
	r.w.V = refs
	r.run(1200)
	if got := askedBy(r.out.Motors); got != [3]int{} {
		r.t.Errorf("%s: asked for %v at %v", name, got, refs)
	}
	for axis := range 3 {
		r.w.V = refs
		r.w.V[axis] += 10
		r.run(2)
		if got := askedBy(r.out.Motors); got[axis] != -10 {
			r.t.Errorf("%s: asked for %v at %v", name, got, r.w.V)
		}
	}
}

// P24.7: each mode's wants, from afar: which way it goes on each axis, and how fast.
func TestWants(t *testing.T) {
	t.Parallel()
	sticks := func(a, b, c int) func(in *api.Inputs) {
		return func(in *api.Inputs) { in.Rc = write(t, api.Rc, a, b, c, 77, 0) }
	}
	up := []api.MissionItem{{Kind: api.TakeoffItem, A: 100000}, loiter[0]}
	way := func(speed int) []api.MissionItem {
		return []api.MissionItem{{Kind: api.SpeedItem, A: speed}, {Kind: api.WaypointItem, A: 90000, B: -90000, C: 100000}}
	}
	for _, row := range []struct {
		name    string
		mode    api.Mode
		items   []api.MissionItem
		x, y, z int
		alter   func(in *api.Inputs)
		refs    [3]int
	}{
		{"takeoff below", api.Takeoff, nil, 50000, -50000, -50000, sticks(1000, 1000, 1000), [3]int{-17000, 17000, 9000}},
		{"takeoff above", api.Takeoff, nil, -50000, 50000, 50000, nil, [3]int{17000, -17000, -9000}},
		{"hold", api.Hold, nil, -50000, 50000, 55000, sticks(1000, 1000, 1000), [3]int{17000, -17000, -9000}},
		{"hold below", api.Hold, nil, 50000, -50000, -45000, nil, [3]int{-17000, 17000, 9000}},
		{"position", api.Position, nil, 50000, 50000, 90000, sticks(1000, -1000, 1000), [3]int{17000, -17000, 9000}},
		{"position a part", api.Position, nil, 50000, 50000, 90000, sticks(-500, 250, -100), [3]int{-8500, 4250, -900}},
		{"position beyond", api.Position, nil, 50000, 50000, 90000, sticks(1001, -1001, -32768), [3]int{17000, -17000, -9000}},
		{"position far beyond", api.Position, nil, 50000, 50000, 90000, sticks(-32768, 32767, 32767), [3]int{-17000, 17000, 9000}},
		{"position nothing", api.Position, nil, 50000, 50000, 90000, sticks(0, 0, 0), [3]int{}},
		{"position unheard", api.Position, nil, 50000, 50000, 90000, nil, [3]int{}},
		{"altitude", api.Altitude, nil, 50000, -50000, 90000, sticks(1000, 1000, 1000), [3]int{-17000, 17000, 9000}},
		{"altitude down", api.Altitude, nil, -50000, 50000, 90000, sticks(1000, 1000, -400), [3]int{17000, -17000, -3600}},
		{"altitude unheard", api.Altitude, nil, -50000, 50000, 90000, nil, [3]int{17000, -17000, 0}},
		{"auto takeoff", api.Auto, up, 50000, -50000, 50000, nil, [3]int{-17000, 17000, 9000}},
		{"auto takeoff down", api.Auto, up, -50000, 50000, 150000, nil, [3]int{17000, -17000, -9000}},
		{"auto slow waypoint", api.Auto, way(3000), 50000, -50000, 50000, nil, [3]int{3000, -3000, 9000}},
		{"auto swift waypoint", api.Auto, way(64000), 150000, -150000, 150000, nil, [3]int{-17000, 17000, -9000}},
		{"auto loiter", api.Auto, loiter, 50000, -50000, 50000, nil, [3]int{-17000, 17000, -9000}},
		{"climb", api.Climb, nil, -50000, 50000, -50000, nil, [3]int{17000, -17000, 9000}},
		{"climb above", api.Climb, nil, 90000, -90000, 50000, nil, [3]int{-17000, 17000, -9000}},
		{"return", api.Return, nil, 50000, -50000, -50000, nil, [3]int{-17000, 17000, 9000}},
		{"return above", api.Return, nil, -50000, 50000, 50000, nil, [3]int{17000, -17000, -9000}},
		{"descend", api.Descend, nil, -50000, 50000, 5000, sticks(1000, 1000, 1000), [3]int{17000, -17000, -7000}},
		{"land", api.Land, nil, 50000, -50000, 5000, sticks(1000, 1000, 1000), [3]int{-17000, 17000, -7000}},
	} {
		r := inMode(t, row.mode, setup{items: row.items, par: swift})
		r.w.V = [3]int{}
		r.w.P = [3]int{6400 * row.x, 6400 * row.y, 6400 * row.z}
		r.alter = row.alter
		r.settles(row.name, row.refs)
		if r.view.Mode != row.mode || r.view.Backup {
			t.Error(row.name, r.view.Mode)
		}
	}
}

// P24.7: in Auto the point of a takeoff and of a waypoint is where it stays then; of a takeoff on axis 2 alone.
func TestWantsBehindGoals(t *testing.T) {
	up := []api.MissionItem{{Kind: api.TakeoffItem, A: 60000}, loiter[0]}
	way := []api.MissionItem{{Kind: api.WaypointItem, A: 90000, B: -90000, C: 100000}, loiter[0]}
	for _, row := range []struct {
		items []api.MissionItem
		at    [3]int // where it is reached
		holds [3]int // where it is held then
	}{
		{up, [3]int{-40000, 50000, 60900}, [3]int{0, 0, 60000}},
		{way, [3]int{90900, -90900, 99500}, [3]int{90000, -90000, 100000}},
	} {
		r := airborne(t, setup{items: row.items, par: swift})
		r.command(auto)
		r.run(3)
		r.at(row.at[0], row.at[1], row.at[2])
		r.run(1)
		if r.view.Index != 1 {
			t.Fatal(row, r.view)
		}
		for _, side := range []int{1, -1} {
			for axis := range 3 {
				r.w.P[axis] = 6400 * (row.holds[axis] - side*30000)
			}
			r.settles("behind a goal", [3]int{side * 17000, side * 17000, side * 9000})
			r.is(api.Auto)
		}
	}
}

// P24.7: what a stick wants is cut off, towards 0.
func TestSticksCutOff(t *testing.T) {
	for _, row := range []struct{ stick, sideways, up int }{{1, 1, 2}, {-1, -1, -2}, {3, 5, 8}, {-3, -5, -8}, {999, 1997, 2996}, {-999, -1997, -2996}} {
		r := inMode(t, api.Position, setup{par: map[int]int{api.Cruise: 1999, api.Rise: 2999, api.Accel: 32}})
		r.alter = func(in *api.Inputs) { in.Rc = write(t, api.Rc, row.stick, row.stick, row.stick, 0, 0) }
		r.settles("sticks", [3]int{row.sideways, row.sideways, row.up})
	}
}

// P24.7: sticks count until the remote control has not been heard for more than RcWait ticks.
func TestSticksWait(t *testing.T) {
	for _, mode := range []api.Mode{api.Position, api.Altitude} {
		for _, wait := range []int{40, 41, 123} {
			r := inMode(t, mode, setup{par: map[int]int{api.RcWait: wait, api.Accel: 32}})
			r.alter = func(in *api.Inputs) { in.Rc = write(t, api.Rc, 1000, 1000, 1000, 0, 0) }
			r.w.V = [3]int{16000, 16000, 8000}
			r.run(700)
			r.alter = nil
			for i := 1; i <= wait+3; i++ {
				r.step()
				want := 0
				if i > wait {
					want = max(-64, -32*(i-wait))
				}
				if got := askedBy(r.out.Motors)[2]; got != want {
					t.Fatal(mode, wait, i, got, want)
				}
			}
		}
	}
}

// P24.7: the steer is at rest when a flight begins: it leads to the first velocity by Accel at most.
func TestSteerRests(t *testing.T) {
	r := airborne(t, setup{})
	r.command(position)
	r.alter = func(in *api.Inputs) { in.Rc = write(t, api.Rc, 1000, 1000, 1000, 0, 0) }
	r.run(1000)
	r.alter = nil
	r.w.Charge = 0
	r.until(api.Down, 2000)
	r.w.Charge = plenty
	r.until(api.Standby, 8)
	r.command(arm)
	r.run(20)
	r.at(0, 0, 0)
	r.order(takeoff, 0)
	if got := askedBy(r.out.Motors); got != [3]int{0, 0, 12} {
		t.Error(got)
	}
}

// P24.7: the motors are off in Locked, Standby, Ready and Down, and in no other mode.
func TestMotorsOff(t *testing.T) {
	for mode := api.Locked; mode <= api.Down; mode++ {
		r := inMode(t, mode, setup{items: loiter})
		off := mode <= api.Ready || mode == api.Down
		if got := r.out.Motors == [8]int{}; got != off {
			t.Error(mode, r.out.Motors)
		}
		if got := r.view.Backup; got != (mode == api.Brake || mode == api.Sink) {
			t.Error(mode, got)
		}
	}
}

// P24.7: Brake and Sink: what is asked for is the backup's, and no wants, sticks or guard count.
func TestBackupAsks(t *testing.T) {
	r := inMode(t, api.Brake, setup{})
	r.alter = func(in *api.Inputs) { in.Rc = write(t, api.Rc, 1000, 1000, 1000, 0, 0) }
	r.w.V = [3]int{1000, -10, 70}
	r.run(3)
	if got := askedBy(r.out.Motors); got != [3]int{-64, 10, -64} || !r.view.Backup {
		t.Error(got, r.view)
	}
	r.w.V = [3]int{-1000, 64, -30}
	r.run(3)
	if got := askedBy(r.out.Motors); got != [3]int{64, -64, 30} {
		t.Error(got)
	}
	// Sink: its fall reference goes down by 32 a tick from 0, as far as Fall.
	for _, fall := range []int{2000, 8000} {
		r = airborne(t, setup{par: map[int]int{api.Fall: fall}})
		r.w.Charge = 0
		r.until(api.Brake, 8)
		r.align(0)
		for i := 1; i < 400; i++ {
			// What it falls by is told a little less, so that all that is asked for can be seen.
			want := -min(32*i, fall)
			r.w.V[2] = want + 20
			if want <= -fall/2 {
				r.alter = func(in *api.Inputs) { in.Gnss[0] = "" }
			}
			r.step()
			r.is(api.Sink)
			if got := askedBy(r.out.Motors); got != [3]int{0, 0, -20} && i > 2 {
				t.Fatal(fall, i, got, r.view.Axes[2])
			}
		}
	}
}

// P24.7: a backup is a new one when the motors were off.
func TestBackupNew(t *testing.T) {
	r := airborne(t, setup{})
	for range 2 {
		r.w.Charge = 0
		r.until(api.Brake, 8)
		r.until(api.Sink, 8)
		if got := askedBy(r.out.Motors); got != [3]int{0, 0, -32} {
			t.Error(got)
		}
		r.until(api.Down, 400)
		r.w.Charge = plenty
		r.until(api.Standby, 8)
		r.command(arm, takeoff, hold)
	}
}

// P24.7: the guard: how near to each side of the fence a vehicle at rest may be; and it stays tripped.
func TestGuard(t *testing.T) {
	for _, row := range []struct {
		x, y, z int
		trips   bool
	}{
		// 21 mm of the sensors, and 1002 parts of a mm that it may still go.
		{30000 - 23, 0, 5000, false}, {30000 - 22, 0, 5000, true},
		{-30000 + 22, 0, 5000, false}, {-30000 + 21, 0, 5000, true},
		{0, 30000 - 23, 5000, false}, {0, 30000 - 22, 5000, true},
		{0, -30000 + 22, 5000, false}, {0, -30000 + 21, 5000, true},
		{0, 0, 20000 - 22, false}, {0, 0, 20000 - 21, true},
		{29000, -29000, 0, false}, {29000, -29000, -500, false}, {2147483647, 0, 5000, true},
	} {
		r := inMode(t, api.Position, setup{fence: square(30000, 20000)})
		r.align(1)
		r.w.P = [3]int{0, 0, 6400 * 10000}
		r.step()
		r.w.P = [3]int{6400 * row.x, 6400 * row.y, 6400 * row.z}
		r.step()
		if r.view.Backup != row.trips {
			t.Error(row, r.view.Backup)
		}
		m, _ := params.Margins(r.p.Params())
		f, _ := r.p.Fence()
		if in, e := fence.Holds(f, guard.Reach(r.view.Axes, [3]int{}, m)); in == row.trips || e != api.OK {
			t.Error(row, in, e)
		}
		// Far within again: the backup is asked still, and the mode is Brake from the next thinking on.
		r.w.P = [3]int{0, 0, 6400 * 5000}
		r.step()
		r.is(api.Position)
		if r.view.Backup != row.trips {
			t.Error(row, r.view.Backup)
		}
		r.step()
		if got := r.view.Mode == api.Brake; got != row.trips {
			t.Error(row, r.view.Mode)
		}
		if got := r.view.Latches == 1<<api.Trip; got != row.trips {
			t.Error(row, r.view.Latches)
		}
	}
}

// P24.7: the guard trips in each mode but Brake and Sink, by what the steer asks for; from the same tick on the backup is asked.
func TestGuardModes(t *testing.T) {
	for _, mode := range flyingModes {
		r := inMode(t, mode, setup{items: loiter, fence: square(90000, 200000)})
		r.align(1)
		v := r.w.V[2]
		r.w.V = [3]int{2000000000, -30, 5}
		r.step()
		if !r.view.Backup || r.view.Mode != mode {
			t.Error(mode, r.view)
		}
		got := askedBy(r.out.Motors)
		if got[0] != -64 || got[1] <= 0 {
			t.Error(mode, got)
		}
		r.w.V = [3]int{0, 0, v}
		r.run(2)
		if !r.view.Backup {
			t.Error(mode, r.view)
		}
		r.run(1)
		r.is(api.Brake)
	}
	for _, mode := range []api.Mode{api.Brake, api.Sink} {
		r := inMode(t, mode, setup{fence: square(90000, 200000)})
		r.w.V[0] = 2000000000
		r.run(40)
		if r.view.Latches&(1<<api.Trip) != 0 {
			t.Error(mode, r.view.Latches)
		}
	}
}

// P24.7: what the steer asks for counts: by it alone the box may reach over a side.
func TestGuardAsked(t *testing.T) {
	trips := map[int]bool{}
	for _, stick := range []int{-1000, 0, 1000} {
		for off := 15; off < 30; off++ {
			r := inMode(t, api.Position, setup{fence: square(30000, 20000), par: map[int]int{api.Accel: 32}})
			r.alter = func(in *api.Inputs) { in.Rc = write(t, api.Rc, stick, 0, 0, 0, 0) }
			r.run(20)
			r.w.P[0] = 6400 * (30000 - off)
			r.run(1)
			m, _ := params.Margins(r.p.Params())
			f, _ := r.p.Fence()
			in, _ := fence.Holds(f, guard.Reach(r.view.Axes, [3]int{64 * sign(stick), 0, 0}, m))
			if r.view.Backup == in {
				t.Error(stick, off, in)
			}
			if r.view.Backup {
				trips[stick] = true
			}
		}
	}
	if len(trips) != 3 {
		t.Error(trips)
	}
}

// P24.7: the dead motor does nothing from the tick on in which it is told, and the others make up for it.
func TestFlyWithDeadMotor(t *testing.T) {
	for dead := 1; dead <= 8; dead++ {
		r := inMode(t, api.Position, setup{})
		r.alter = func(in *api.Inputs) { in.Rc = write(t, api.Rc, 1000, -1000, 1000, 0, 0) }
		r.run(40)
		r.told = dead
		r.run(1)
		want, _ := mixer.Mix(api.Wrench{Lift: 456, X: 64, Y: -64}, dead)
		if r.out.Motors != want || want[dead-1] != 0 {
			t.Error(dead, r.out.Motors, want)
		}
	}
}

// P24.7: the twist: of the compass's heading, the voted rate and TurnRate.
func TestTwist(t *testing.T) {
	for most, want := range map[int]int{16: -4, 160: -40, 800: -100} {
		r := inMode(t, api.Hold, setup{par: map[int]int{api.TurnRate: most}})
		r.alter = func(in *api.Inputs) {
			for i := range 3 {
				in.Imu[i] = write(t, api.Imu, 16000, 0, 0, 0)
			}
		}
		r.run(300)
		if got := twistOf(r.out.Motors); got != want {
			t.Error(most, got)
		}
	}
}

// P24.7: in Land and Descend the vehicle falls from where the steer's reference is the whole Fall; a steer that is told to hold begins again.
func TestFalls(t *testing.T) {
	r := airborne(t, setup{})
	r.command(land)
	// The reference is -12 times 666 behind that many ticks: it does not fall yet; then the order to hold.
	r.run(663)
	r.align(0)
	r.order(hold, 0)
	r.run(800)
	r.is(api.Hold)
	r.command(land)
	start := r.tick - 1
	r.until(api.Down, 2000)
	if got := r.tick - 1 - start; got != 708 {
		t.Error(got)
	}
}

// P24.7: what is wanted by a stick is no fall to land: where the reference is low enough from the beginning on, it takes 40 ticks still.
func TestFallsByStick(t *testing.T) {
	// To Descend it goes by Climb and Return, in which the reference goes up for eight ticks, and down again for eight.
	for op, ticks := range map[int]int{land: 40, toReturn: 8 + 8 + 40} {
		r := inMode(t, api.Position, setup{})
		r.alter = func(in *api.Inputs) { in.Rc = write(t, api.Rc, 0, 0, -1000, 0, 0) }
		r.run(1500)
		r.align(0)
		r.order(op, 0)
		start := r.tick - 1
		r.until(api.Down, 100)
		if got := r.tick - 1 - start; got != ticks {
			t.Error(op, got)
		}
	}
}
