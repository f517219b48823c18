package pilot_test

import (
	"math/rand"
	"testing"

	"windhover/api"
	"windhover/fence"
	"windhover/geo"
	"windhover/modes"
	"windhover/params"
	"windhover/pilot"
	"windhover/sense"
	"windhover/world"
)

// An air is what the document takes for granted of T2 to T4: two units of each sort that are off by no more than the parameters say, one that tells whatever it likes, wind, a motor that may die, a battery; whatever comes over link and remote control.
type air struct {
	t     testing.TB
	rng   *rand.Rand
	p     *pilot.Pilot
	c     *clerk // nil where the pilot flies alone
	par   []int
	fence api.Fence
	w     api.World
	tick  int

	liars   [3]int // of each sort, 3 for none
	restive bool   // whether another unit lies in each tick
	gusts   int    // how the wind blows
	deadAt  int
	dead    int
	late    int // ticks until that is told
	thirsty bool
	link    func() string
	rc      func() string

	view     api.View
	slack    int
	begin    [2]int // where it was armed
	deadline int    // by which it is on the ground and disarmed, or -1
}

// soundParams are parameters at random that may be.
func soundParams(rng *rand.Rand) []int {
	values := params.Defaults()
	for range 60 {
		i := rng.Intn(api.Params)
		span, _ := params.Range(i)
		x := span.Lo + rng.Intn(span.Hi-span.Lo+1)
		switch {
		case rng.Intn(4) == 0:
			x = span.Lo
		case rng.Intn(4) == 0:
			x = span.Hi
		}
		switch i {
		case api.ChargeFloor:
			x = rng.Intn(20000)
		case api.PowerBase, api.PowerMotor:
			x = rng.Intn(10)
		case api.ReturnAlt, api.TakeoffAlt:
			x = span.Lo + rng.Intn(9000)
		case api.Fall, api.Rise, api.Cruise:
			// Slow ones do nothing in the ticks that there are.
			x = max(x, 4000)
		case api.ArmMargin:
			x = min(x, 1000)
		}
		if next, e := params.Set(values, i, x); e == api.OK {
			values = next
		}
	}
	return values
}

// newAir is a vehicle at rest on the ground of a fence.
func newAir(t testing.TB, seed int64, change func(values []int), f api.Fence, items ...api.MissionItem) *air {
	t.Helper()
	rng := rand.New(rand.NewSource(seed))
	values := soundParams(rng)
	if change != nil {
		change(values)
	}
	data, e := params.Encode(values)
	if e != api.OK {
		t.Fatal(e, values)
	}
	image := imageOf(t, map[int]string{0: data, 1: missionText(t, items...), 2: fenceText(t, f)})
	p, e := pilot.New(flashOf(t, image))
	if e != api.OK {
		t.Fatal(e)
	}
	c, e := newClerk(flashOf(t, image))
	if e != api.OK {
		t.Fatal(e)
	}
	slack, e := params.Slack(values, f.Ceiling)
	if e != api.OK {
		t.Fatal(e)
	}
	a := &air{t: t, rng: rng, p: p, c: c, par: values, fence: f, slack: slack, deadline: -1, deadAt: 1 << 30}
	a.w.Charge = full(values) + rng.Intn(3000000)
	a.liars = [3]int{rng.Intn(4), rng.Intn(4), rng.Intn(4)}
	a.restive = rng.Intn(3) == 0
	a.gusts = rng.Intn(6)
	if rng.Intn(2) == 0 {
		a.deadAt, a.dead = rng.Intn(12000), 1+rng.Intn(8)
		a.late = rng.Intn(values[api.DeadTicks] + 1)
	}
	return a
}

// full is a charge with which a vehicle that stands at home is fit.
func full(values []int) int {
	m, _ := params.Margins(values)
	land, _ := params.LandTicks(values, 0)
	back, _ := params.ReturnTicks(values, 0, 0)
	return values[api.ChargeFloor] + 2*values[api.ChargeErr] + m.Drain*(land+back+20)
}

// off is how far a unit is off, at most so far.
func (a *air) off(most int) int {
	switch a.rng.Intn(3) {
	case 0:
		return most
	case 1:
		return -most
	}
	return a.rng.Intn(2*most+1) - most
}

// lie is whatever a unit tells: nothing, noise, a frame that is wrong, or one that is far off.
func (a *air) lie(s api.Sensor, truth []int) string {
	switch a.rng.Intn(5) {
	case 0:
		return ""
	case 1:
		noise := make([]byte, a.rng.Intn(40))
		a.rng.Read(noise)
		return string(noise)
	case 2:
		data, _ := sense.Write(s, truth...)
		at := a.rng.Intn(len(data))
		return data[:at] + "\xa5" + data[at:]
	case 3:
		for i := range truth {
			truth[i] += a.rng.Intn(4001) - 2000
		}
	case 4:
		for i := range truth {
			truth[i] = -32768 + 65535*a.rng.Intn(2)
		}
	}
	if s == api.Imu {
		truth[0] &= 65535
		for i := 1; i < 4; i++ {
			truth[i] = max(-32768, min(32767, truth[i]))
		}
	}
	data, e := sense.Write(s, truth...)
	if e != api.OK {
		a.t.Fatal(e, truth)
	}
	return data
}

// unit is what one unit tells.
func (a *air) unit(s api.Sensor, liar bool) string {
	if liar {
		return a.lie(s, world.Sees(a.w, s))
	}
	var off []int
	switch s {
	case api.Baro:
		off = []int{a.off(a.par[api.BaroHeight]), a.off(a.par[api.BaroClimb])}
	case api.Gnss:
		off = []int{a.off(a.par[api.GnssPlace]), a.off(a.par[api.GnssPlace]), a.off(a.par[api.GnssSpeed]), a.off(a.par[api.GnssSpeed])}
	}
	data, e := sense.Write(s, world.Sees(a.w, s, off...)...)
	if e != api.OK {
		a.t.Fatal(e)
	}
	return data
}

func (a *air) inputs() api.Inputs {
	var in api.Inputs
	if a.restive {
		a.liars = [3]int{a.rng.Intn(4), a.rng.Intn(4), a.rng.Intn(4)}
	}
	for i := range 3 {
		in.Imu[i] = a.unit(api.Imu, i == a.liars[0])
		in.Baro[i] = a.unit(api.Baro, i == a.liars[1])
		in.Gnss[i] = a.unit(api.Gnss, i == a.liars[2])
	}
	told := 0
	if a.tick >= a.deadAt+a.late {
		told = a.dead
	}
	in.Esc, _ = sense.Write(api.Esc, told, a.w.Charge+a.off(a.par[api.ChargeErr]))
	if a.link != nil {
		in.Link = a.link()
	}
	if a.rc != nil {
		in.Rc = a.rc()
	}
	return in
}

// wind is what the air adds in a tick.
func (a *air) wind() [3]int {
	most := a.par[api.Wind]
	var wind [3]int
	for i := range wind {
		switch a.gusts {
		case 0:
		case 1:
			wind[i] = most
		case 2:
			wind[i] = -most
		case 3: // outward, and up
			wind[i] = most * sign(a.w.P[i])
		case 4: // the way it goes
			wind[i] = most * sign(a.w.V[i])
		default:
			wind[i] = a.off(most)
		}
	}
	return wind
}

// step does a tick, and holds T1 to T3.
func (a *air) step() {
	a.t.Helper()
	before := a.view
	in := a.inputs()
	out, e := a.p.Step(in)
	if e != api.OK {
		a.t.Fatal(e)
	}
	a.view = a.p.View()
	if a.c != nil {
		if want := a.c.step(in); out != want || a.view != a.c.view() {
			a.t.Fatalf("tick %d: %v %x\n%+v, want %v %x\n%+v", a.tick, out.Motors, out.Link, a.view, want.Motors, want.Link, a.c.view())
		}
	}
	if a.view.Mode == api.Ready {
		a.begin = [2]int{a.w.P[0], a.w.P[1]}
	}
	a.followed(before.Mode, a.view.Mode)
	if before.Armed && !a.view.Armed && a.w.P[2] != 0 {
		a.t.Fatalf("tick %d: disarmed at %v", a.tick, a.w)
	}
	dead := 0
	if a.tick >= a.deadAt {
		dead = a.dead
	}
	a.w, e = world.Step(a.w, out.Motors, dead, a.wind(), a.drain(out.Motors))
	if e != api.OK {
		a.t.Fatal(e)
	}
	if a.view.Armed && !a.inside() {
		a.t.Fatalf("tick %d: beyond the fence %v: %v in mode %d; parameters %v", a.tick, a.fence, a.w, a.view.Mode, a.par)
	}
	if modes.Flying(a.view.Mode) && a.w.Charge < a.par[api.ChargeFloor] {
		a.t.Fatalf("tick %d: charge %d in mode %d", a.tick, a.w.Charge, a.view.Mode)
	}
	a.watchLanding(before)
	a.tick++
}

// drain is what a tick takes: no more than the curve says.
func (a *air) drain(motors [8]int) int {
	most := world.Curve(motors, a.par[api.PowerBase], a.par[api.PowerMotor])
	if a.thirsty || a.rng.Intn(2) == 0 {
		return most
	}
	return a.rng.Intn(most + 1)
}

// followed asks for a mode that an event leads to.
func (a *air) followed(from, to api.Mode) {
	a.t.Helper()
	if from == to {
		return
	}
	for event := range api.Events {
		if modes.Next(from, event) == to {
			return
		}
	}
	a.t.Fatalf("tick %d: from mode %d to %d", a.tick, from, to)
}

// watchLanding holds how long it takes to land from where the battery is Dry, or the backup has the vehicle.
func (a *air) watchLanding(before api.View) {
	a.t.Helper()
	dry := a.view.Latches>>api.Dry&1 == 1
	if !a.view.Armed {
		a.deadline = -1
		return
	}
	if begins := dry && before.Latches>>api.Dry&1 == 0 || a.view.Backup && !before.Backup; begins && a.deadline < 0 {
		ticks, e := params.LandTicks(a.par, (a.w.P[2]+6399)/6400)
		if e != api.OK {
			a.t.Fatal(e)
		}
		a.deadline = a.tick + ticks
	}
	if a.deadline >= 0 && a.tick > a.deadline {
		a.t.Fatalf("tick %d: in mode %d at %v, due on the ground in tick %d; parameters %v", a.tick, a.view.Mode, a.w, a.deadline, a.par)
	}
}

// inside tells whether the vehicle is within the fence, widened by the slack.
func (a *air) inside() bool {
	if a.w.P[2] > 6400*(a.fence.Ceiling+a.slack) {
		return false
	}
	p := api.Point{X: floor(a.w.P[0]), Y: floor(a.w.P[1])}
	if side, e := geo.Side(a.fence.Poly, p); e == api.OK && side >= 0 {
		return true
	}
	x, y := api.Span{Lo: p.X - a.slack, Hi: p.X + 1 + a.slack}, api.Span{Lo: p.Y - a.slack, Hi: p.Y + 1 + a.slack}
	for i, corner := range a.fence.Poly {
		if touches, _ := geo.Touches(corner, a.fence.Poly[(i+1)%len(a.fence.Poly)], x, y); touches {
			return true
		}
	}
	return false
}

func floor(place int) int {
	if place < 0 {
		return -((-place + 6399) / 6400)
	}
	return place / 6400
}

// wild lets whatever come over link and remote control, now and then an order that keeps it in the air.
func (a *air) wild() {
	sticks, knob := [4]int{}, 0
	busy := a.rng.Intn(3) > 0
	a.link = func() string {
		if a.view.Mode == api.Standby && a.rng.Intn(10) == 0 {
			return commandText(a.t, arm)
		}
		if a.view.Mode == api.Ready && a.rng.Intn(10) == 0 {
			return commandText(a.t, []int{takeoff, auto}[a.rng.Intn(2)])
		}
		switch a.rng.Intn(800) {
		case 0, 1:
			return commandText(a.t, 2+a.rng.Intn(8))
		case 2:
			noise := make([]byte, a.rng.Intn(200))
			a.rng.Read(noise)
			return string(noise)
		case 3:
			// What the flight is held by must stay: in the air nothing can be set.
			if a.view.Armed {
				return msg(a.t, api.ParamSet, a.rng.Intn(30), a.rng.Intn(100))
			}
		case 4:
			return msg(a.t, api.Count, 1+a.rng.Intn(2), 1+a.rng.Intn(9))
		case 5, 6, 7:
			if a.view.Mode == api.Hold {
				return commandText(a.t, position)
			}
		}
		return ""
	}
	a.rc = func() string {
		if a.rng.Intn(300) == 0 {
			for i := range sticks {
				sticks[i] = []int{-1000, 1000, 0, -32768, 32767, a.rng.Intn(2001) - 1000}[a.rng.Intn(6)]
			}
		}
		if a.rng.Intn(1500) == 0 {
			knob = a.rng.Intn(7)
		}
		if !busy && a.rng.Intn(100) > 0 {
			return ""
		}
		return write(a.t, api.Rc, sticks[0], sticks[1], sticks[2], sticks[3], knob)
	}
}

// P24.2, T1 to T3: flights with all that may be, tick by tick.
func TestAir(t *testing.T) {
	t.Parallel()
	flights := 12
	if testing.Short() {
		flights = 5
	}
	seen := map[api.Mode]int{}
	trips := 0
	for seed := range flights {
		rng := rand.New(rand.NewSource(int64(seed)))
		half := 8000 + rng.Intn(40000)
		f := square(half, 6000+rng.Intn(30000), api.Point{X: half / 3, Y: half / 4}, api.Point{X: -half / 2})
		if rng.Intn(3) == 0 {
			f.Poly = []api.Point{{X: -half, Y: -half}, {X: half, Y: -half}, {X: half, Y: half}, {X: half / 3, Y: half}, {X: half / 4, Y: half / 2}, {X: -half, Y: half / 2}}
		}
		if fence.Check(f) != api.OK {
			t.Fatal(f)
		}
		a := newAir(t, int64(seed), nil, f, api.MissionItem{Kind: api.TakeoffItem, A: 3000}, api.MissionItem{Kind: api.WaypointItem, A: half, B: 0, C: 4000}, api.MissionItem{Kind: api.ReturnItem})
		if rng.Intn(3) == 0 {
			// A charge that lasts for a while, but not for the whole script.
			a.w.Charge = full(a.par) + rng.Intn(50000)
		}
		a.wild()
		for range 16384 {
			a.step()
			seen[a.view.Mode]++
			trips += a.view.Latches >> api.Trip & 1
		}
	}
	if !testing.Short() && (len(seen) != 15 || trips == 0) {
		t.Error("not all modes were flown in:", seen, trips)
	}
}

// stubborn climbs, and orders to go on whenever it is led home.
func (a *air) stubborn() {
	a.link = func() string {
		switch a.view.Mode {
		case api.Standby:
			return commandText(a.t, arm)
		case api.Ready:
			return commandText(a.t, takeoff)
		}
		return commandText(a.t, position)
	}
	a.rc = func() string { return write(a.t, api.Rc, 0, 0, 1000, 0, 0) }
}

// T3: a vehicle that climbs until its battery is Dry, whatever leads it home, lands with the charge that must be left.
func TestAirDry(t *testing.T) {
	t.Parallel()
	for seed := range 3 {
		a := newAir(t, int64(seed), func(values []int) {
			copy(values[api.Accel:], []int{30, 1600, 8000, 8000, 1000, 1000})
			values[api.Wind], values[api.GnssSpeed], values[api.BaroClimb] = min(values[api.Wind], 12), 4, 4
			values[api.PowerBase], values[api.PowerMotor] = 3, 5
			values[api.ChargeErr] = 100 + values[api.ChargeErr]%1000
		}, square(400000, 60000))
		a.c, a.thirsty = nil, true
		a.w.Charge = full(a.par)
		a.stubborn()
		dry := false
		for range 60000 {
			a.step()
			dry = dry || a.view.Latches>>api.Dry&1 == 1
			if dry && !a.view.Armed {
				break
			}
		}
		if !dry || a.view.Armed || a.w.P[2] != 0 {
			t.Error(seed, dry, a.tick, a.view, a.w)
		}
	}
}

// atRest tells whether the vehicle hardly moves.
func (a *air) atRest(most int) bool {
	for _, v := range a.w.V {
		if v < -most || v > most {
			return false
		}
	}
	return a.w.P[2] > 0
}

// T4: from rest it comes home, or to the rally point to which there is a lane, within ReturnTicks.
func TestAirHome(t *testing.T) {
	t.Parallel()
	flights := 8
	if testing.Short() {
		flights = 4
	}
	home, rallied := 0, 0
	for seed := range flights {
		rng := rand.New(rand.NewSource(int64(seed)))
		half := 20000 + rng.Intn(20000)
		var rally []api.Point
		for range rng.Intn(3) {
			rally = append(rally, api.Point{X: rng.Intn(half) - half/2, Y: rng.Intn(half) - half/2})
		}
		a := newAir(t, int64(seed), func(values []int) {
			// So that all of it is done in time.
			values[api.ReturnAlt], values[api.TakeoffAlt] = 1000+rng.Intn(5000), 500+rng.Intn(500)
			values[api.Radius] = min(values[api.Radius], 3000)
			if values[api.Radius] < 8*max(values[api.GnssPlace], values[api.BaroHeight])+100 {
				values[api.Radius] = 8*max(values[api.GnssPlace], values[api.BaroHeight]) + 100
			}
		}, square(half, 40000, rally...))
		a.c = nil
		a.w.Charge = 1 << 30
		a.w.P[0], a.w.P[1] = 6400*(rng.Intn(half)-half/2), 6400*(rng.Intn(half)-half/2)
		sticks := [3]int{rng.Intn(2001) - 1000, rng.Intn(2001) - 1000, 500 + rng.Intn(500)}
		orders := map[api.Mode]int{api.Standby: arm, api.Ready: takeoff, api.Hold: position}
		a.link = func() string { return commandText(t, orders[a.view.Mode]) }
		a.rc = func() string { return write(t, api.Rc, sticks[0], sticks[1], sticks[2], 0, 0) }
		for a.view.Mode != api.Position && a.tick < 4000 {
			a.step()
		}
		for range 300 + rng.Intn(1500) {
			a.step()
		}
		orders = map[api.Mode]int{api.Position: hold}
		m, _ := params.Margins(a.par)
		for rest := 0; rest < 200 && a.tick < 30000; {
			a.step()
			rest++
			if a.view.Mode != api.Hold || !a.atRest(m.Drift+2) {
				rest = 0
			}
		}
		if a.view.Mode != api.Hold {
			// It was pushed against the fence, or a lane was lacking.
			continue
		}
		target := a.comesHome(orders)
		if target < 0 {
			home++
		} else {
			rallied++
		}
	}
	if !testing.Short() && (home == 0 || rallied == 0) {
		t.Error("too few came home:", home, rallied)
	}
}

// comesHome orders to return, and holds T4; it tells the rally point, or -1.
func (a *air) comesHome(orders map[api.Mode]int) int {
	a.t.Helper()
	orders[api.Hold] = toReturn
	for a.view.Mode == api.Hold {
		a.step()
	}
	delete(orders, api.Hold)
	if a.view.Mode != api.Climb {
		a.t.Fatalf("mode %d", a.view.Mode)
	}
	m, _ := params.Margins(a.par)
	x, y := a.view.Axes[0].P, a.view.Axes[1].P
	i, e := fence.Rally(a.fence, api.Point{X: floor(mid(x)), Y: floor(mid(y))}, m.Lane)
	if e != api.OK {
		a.t.Fatal(e)
	}
	target := a.begin
	if i >= 0 {
		target = [2]int{6400 * a.fence.Rally[i].X, 6400 * a.fence.Rally[i].Y}
	}
	distance := max(away(a.w.P[0], target[0]), away(a.w.P[1], target[1]))/6400 + 1
	ticks, e := params.ReturnTicks(a.par, a.w.P[2]/6400+1, distance)
	if e != api.OK {
		a.t.Fatal(e)
	}
	for begin := a.tick; a.view.Armed; {
		a.step()
		if mode := a.view.Mode; mode != api.Climb && mode != api.Return && mode != api.Descend && mode != api.Down {
			a.t.Fatalf("tick %d: mode %d, latches %d at %v; parameters %v", a.tick, mode, a.view.Latches, a.w, a.par)
		}
		if a.tick-begin > ticks {
			a.t.Fatalf("not landed within %d ticks: mode %d at %v, target %v; parameters %v", ticks, a.view.Mode, a.w, target, a.par)
		}
	}
	within := 6400 * (a.par[api.Radius] + a.par[api.GnssPlace] + 1)
	if away(a.w.P[0], target[0]) > within || away(a.w.P[1], target[1]) > within {
		a.t.Fatalf("landed at %v, target %v, Radius %d", a.w, target, a.par[api.Radius])
	}
	return i
}
