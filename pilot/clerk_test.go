package pilot_test

import (
	"slices"

	"windhover/api"
	"windhover/control"
	"windhover/est"
	"windhover/fence"
	"windhover/frame"
	"windhover/ground"
	"windhover/guard"
	"windhover/mission"
	"windhover/mixer"
	"windhover/modes"
	"windhover/msgs"
	"windhover/nor"
	"windhover/params"
	"windhover/power"
	"windhover/sense"
	"windhover/store"
	"windhover/trig"
	"windhover/upload"
	"windhover/vote"
)

// The clerk does by the chapter's words, one behind the other, what a pilot shall do, in plain steps and without parts: each test holds the pilot against it, tick by tick.
type clerk struct {
	tick int

	shop   *store.Store
	par    []int
	kept   bool
	items  []api.MissionItem
	fence  api.Fence
	fenced bool

	voters  map[string]*vote.Voter
	told    map[string][3]api.Reading
	votes   map[string]api.Reading
	filters []*est.Filter
	compass *est.Compass
	battery *power.Battery
	charge  api.Reading
	dead    int

	rcAge    int
	rcFrames int
	sticks   []int
	knob     int

	linkAge int
	reader  *frame.Reader
	bad     int
	seq     int
	said    string
	desks   [2]*upload.Desk

	machine  *modes.Machine
	run      *mission.Run
	steer    *control.Steer
	backup   *guard.Backup
	detector *ground.Detector

	wishes  map[int]int
	fit     bool
	notFull int
	mute    int
	point   [3]int
	home    [3]int
	target  [3]int
	height  int
	tripped bool
	backed  bool
	landed  bool
	falls   bool
	asked   [3]int
	motors  [8]int
}

var said = []string{"heading", "rate", "tilt x", "tilt y", "altitude", "climb", "x", "y", "vx", "vy"}

func newClerk(f *nor.Flash) (*clerk, api.Errno) {
	shop, e := store.Boot(f)
	if e != api.OK {
		return nil, e
	}
	c := &clerk{shop: shop, rcAge: 65535, linkAge: 65535, reader: frame.New(), machine: modes.New(), backup: guard.NewBackup(), detector: ground.New(), wishes: map[int]int{}}
	c.par = params.Defaults()
	if data, there := shop.Get(0); there {
		if values, e := params.Decode(data); e == api.OK {
			c.par, c.kept = values, true
		}
	}
	if data, there := shop.Get(1); there {
		c.items, _ = mission.Decode(data)
	}
	if data, there := shop.Get(2); there {
		if f, e := fence.Decode(data); e == api.OK {
			c.fence, c.fenced = f, true
		}
	}
	c.desks[0], _ = upload.New(1, 64)
	c.desks[1], _ = upload.New(2, 73)
	c.anew()
	return c, api.OK
}

func (c *clerk) anew() {
	c.voters = map[string]*vote.Voter{}
	for _, name := range said {
		limit := 1<<63 - 1
		if name == "x" || name == "y" || name == "altitude" {
			limit = c.par[api.SplitLimit]
		}
		c.voters[name], _ = vote.New(c.par[api.Stale], limit)
	}
	c.filters = nil
	for len(c.filters) < 3 {
		f, _ := est.New(c.par[api.Stale])
		c.filters = append(c.filters, f)
	}
	c.compass, _ = est.NewCompass(c.par[api.Stale])
	c.battery, _ = power.New(c.par)
	c.steer, _ = control.New(c.par)
	c.run, _ = mission.New(c.par[api.Cruise], c.items...)
}

func (c *clerk) step(in api.Inputs) api.Outputs {
	c.said = ""
	c.sense(in)
	c.link(in.Link)
	c.look()
	if c.tick%4 == 0 {
		c.think()
	}
	c.fly()
	if c.tick%40 == 0 {
		c.heartbeat()
	}
	if c.tick%80 == 20 {
		c.status()
	}
	c.tick++
	return api.Outputs{Motors: c.motors, Link: c.said}
}

func (c *clerk) port(s api.Sensor, data string) ([]int, bool) {
	fields, ok, bad := sense.Read(s, data)
	c.bad += bad
	return fields, ok
}

func (c *clerk) sense(in api.Inputs) {
	c.told = map[string][3]api.Reading{}
	tell := func(unit int, name string, x int) {
		row := c.told[name]
		row[unit] = api.Reading{Ok: true, X: x}
		c.told[name] = row
	}
	for u := range 3 {
		if f, ok := c.port(api.Imu, in.Imu[u]); ok {
			tell(u, "heading", trig.Way(0, f[0]))
			tell(u, "rate", f[1])
			tell(u, "tilt x", f[2])
			tell(u, "tilt y", f[3])
		}
		if f, ok := c.port(api.Baro, in.Baro[u]); ok {
			tell(u, "altitude", f[0])
			tell(u, "climb", f[1])
		}
		if f, ok := c.port(api.Gnss, in.Gnss[u]); ok {
			tell(u, "x", f[0])
			tell(u, "y", f[1])
			tell(u, "vx", f[2])
			tell(u, "vy", f[3])
		}
	}
	if f, ok := c.port(api.Rc, in.Rc); ok {
		c.rcAge = 0
		c.sticks = f[:4]
		if c.rcFrames > 0 && f[4] != c.knob {
			wishes := map[int]int{1: api.WantHold, 2: api.WantPosition, 3: api.WantAltitude, 4: api.WantAuto, 5: api.WantReturn, 6: api.WantLand}
			if w, is := wishes[f[4]]; is {
				c.wishes[w]++
			}
		}
		c.knob = f[4]
		c.rcFrames++
	} else if c.rcAge < 65535 {
		c.rcAge++
	}
	c.charge = api.Reading{}
	if f, ok := c.port(api.Esc, in.Esc); ok {
		c.charge = api.Reading{Ok: true, X: f[1]}
		if c.dead == 0 && f[0] >= 1 && f[0] <= 8 {
			c.dead = f[0]
		}
	}
}

func (c *clerk) say(kind api.Kind, fields ...int) {
	f, e := msgs.Encode(c.seq, api.Message{Kind: kind, Fields: fields})
	if e != api.OK {
		panic("what is said has no frame")
	}
	data, _ := frame.Encode(f)
	c.said += data
	c.seq++
	if c.seq == 256 {
		c.seq = 0
	}
}

func (c *clerk) sayAll(list []api.Message) {
	for _, m := range list {
		c.say(m.Kind, m.Fields...)
	}
}

func (c *clerk) link(data string) {
	if c.linkAge < 65535 {
		c.linkAge++
	}
	for _, f := range c.reader.Feed(data) {
		m, e := msgs.Decode(f)
		if e != api.OK {
			c.bad++
			continue
		}
		c.linkAge = 0
		armed := modes.Armed(c.machine.Mode())
		switch m.Kind {
		case api.Command:
			c.command(m.Fields[0])
		case api.ParamSet:
			i, x := m.Fields[0], m.Fields[1]
			if !armed {
				if values, e := params.Set(c.par, i, x); e == api.OK {
					data, _ := params.Encode(values)
					if c.shop.Put(0, data) == api.OK {
						c.par, c.kept = values, true
						c.anew()
					}
				}
			}
			if i <= 23 {
				c.say(api.ParamValue, i, c.par[i])
			}
		case api.Count, api.Item, api.Cancel:
			what := m.Fields[0]
			if what == 1 || what == 2 {
				if m.Kind == api.Count && armed {
					c.say(api.Done, what, 1)
				} else {
					c.sayAll(c.desks[what-1].On(m, c.tick))
				}
			}
		}
		c.lists(armed)
	}
	c.sayAll(c.desks[0].Tick(c.tick))
	c.sayAll(c.desks[1].Tick(c.tick))
}

func (c *clerk) command(op int) {
	if op < 1 || op > 9 {
		c.say(api.Ack, op, 2)
		return
	}
	w := []int{api.WantArm, api.WantDisarm, api.WantTakeoff, api.WantHold, api.WantPosition, api.WantAltitude, api.WantAuto, api.WantReturn, api.WantLand}[op-1]
	granted := modes.Next(c.machine.Mode(), w) != c.machine.Mode()
	if w == api.WantArm {
		granted = granted && c.fit
	}
	if w == api.WantAuto {
		granted = granted && len(c.items) > 0
	}
	if !granted {
		c.say(api.Ack, op, 1)
		return
	}
	c.wishes[w]++
	c.say(api.Ack, op, 0)
}

func (c *clerk) lists(armed bool) {
	if rows, ready := c.desks[0].Ready(); ready {
		items, e := mission.Of(rows)
		if e == api.OK {
			e = api.ErrArg
			if !armed {
				data, _ := mission.Encode(items)
				if e = c.shop.Put(1, data); e == api.OK {
					c.items = items
					c.run, _ = mission.New(c.par[api.Cruise], items...)
				}
			}
		}
		c.sayAll(c.desks[0].Keep(e))
	}
	if rows, ready := c.desks[1].Ready(); ready {
		f, e := fence.Of(rows)
		if e == api.OK {
			e = api.ErrArg
			if !armed {
				data, _ := fence.Encode(f)
				if e = c.shop.Put(2, data); e == api.OK {
					c.fence, c.fenced = f, true
				}
			}
		}
		c.sayAll(c.desks[1].Keep(e))
	}
}

func (c *clerk) look() {
	c.votes = map[string]api.Reading{}
	for _, name := range said {
		c.votes[name] = c.voters[name].Step(c.told[name])
	}
	dev := c.par[api.Wind] + 86
	a := c.filters[2].Axis()
	stand := a == api.Axis{} || a.P.Lo+a.V.Lo+c.asked[2]-dev <= 0
	for i, names := range [][2]string{{"x", "vx"}, {"y", "vy"}, {"altitude", "climb"}} {
		mm, speed := c.par[api.GnssPlace], c.par[api.GnssSpeed]
		if i == 2 {
			mm, speed = c.par[api.BaroHeight], c.par[api.BaroClimb]
		}
		p, v := c.votes[names[0]], c.votes[names[1]]
		c.filters[i].Step(c.asked[i], dev, stand,
			api.Measure{Ok: p.Ok, X: 6400*p.X + 3200, Err: 6400*mm + 3200},
			api.Measure{Ok: v.Ok, X: v.X, Err: speed})
	}
	r, h := c.votes["rate"], c.votes["heading"]
	c.compass.Step(api.Measure{Ok: r.Ok, X: r.X, Err: 0}, api.Measure{Ok: h.Ok, X: h.X, Err: 1})
	c.battery.Step(c.charge)
	_, v := c.filters[2].Middle()
	c.landed = c.detector.Step(c.falls, v, c.par[api.Fall])
}

func down(x int) int {
	if x < 0 {
		return -((-x + 6399) / 6400)
	}
	return x / 6400
}

func upward(x int) int { return -down(-x) }

func away(a, b int) int {
	if a < b {
		return b - a
	}
	return a - b
}

func (c *clerk) middle(i int) int {
	p, _ := c.filters[i].Middle()
	return p
}

func (c *clerk) near(i, at int) bool { return away(c.middle(i), at) <= 6400*c.par[api.Radius] }

func (c *clerk) isFit() bool {
	_, _, knows := c.compass.Heading()
	x, y := c.votes["tilt x"], c.votes["tilt y"]
	limit := c.par[api.TiltLimit]
	if !c.kept || !c.fenced || c.blind() || !knows || !x.Ok || !y.Ok || c.dead != 0 {
		return false
	}
	if away(x.X, 0) > limit || away(y.X, 0) > limit || c.battery.Tier(0, 0) != api.Full {
		return false
	}
	px, py, pz := c.filters[0].Axis().P, c.filters[1].Axis().P, c.filters[2].Axis().P
	m := c.par[api.ArmMargin]
	yes, e := fence.Holds(c.fence, api.Box{
		X: api.Span{Lo: down(px.Lo) - m, Hi: upward(px.Hi) + m},
		Y: api.Span{Lo: down(py.Lo) - m, Hi: upward(py.Hi) + m},
		Z: api.Span{Lo: 0, Hi: upward(pz.Hi) + m},
	})
	return yes && e == api.OK
}

func (c *clerk) blind() bool {
	return !c.filters[0].Good() || !c.filters[1].Good() || !c.filters[2].Good()
}

func (c *clerk) think() {
	c.fit = c.isFit()
	mode := c.machine.Mode()
	if mode == api.Auto {
		c.auto()
	}
	events := 0
	set := func(event int, is bool) {
		if is {
			events |= 1 << event
		}
	}
	distance := max(upward(away(c.middle(0), c.home[0])), upward(away(c.middle(1), c.home[1])))
	tier := c.battery.Tier(upward(c.filters[2].Axis().P.Hi), distance)
	c.notFull++
	if tier == api.Full {
		c.notFull = 0
	}
	c.mute++
	if c.linkAge <= c.par[api.LinkWait] || c.rcAge <= c.par[api.RcWait] {
		c.mute = 0
	}
	set(api.Trip, c.tripped)
	set(api.Blind, c.blind())
	set(api.Dry, tier == api.Critical)
	set(api.Landed, c.landed)
	set(api.Lean, c.notFull >= 5)
	set(api.Silent, c.mute >= 5)
	set(api.Arrived, c.arrived(mode))
	for w := range c.wishes {
		set(w, (w != api.WantArm || c.fit) && (w != api.WantAuto || len(c.items) > 0))
	}
	if mode == api.Auto {
		kind := c.run.Goal().Kind
		set(api.WantLand, kind == api.LandItem)
		set(api.WantReturn, kind == api.ReturnItem)
		set(api.WantHold, kind == 0)
	}
	set(api.Fit, c.fit)
	set(api.Unfit, !c.fit)
	c.machine.Step(events)
	c.wishes = map[int]int{}
	if now := c.machine.Mode(); now != mode {
		c.entered(now)
	}
}

func (c *clerk) auto() {
	g := c.run.Goal()
	switch g.Kind {
	case api.TakeoffItem:
		there := c.near(2, 6400*g.Z)
		if there {
			c.point[2] = 6400 * g.Z
		}
		c.run.Step(there)
	case api.WaypointItem:
		there := c.near(0, 6400*g.X) && c.near(1, 6400*g.Y) && c.near(2, 6400*g.Z)
		if there {
			c.point = [3]int{6400 * g.X, 6400 * g.Y, 6400 * g.Z}
		}
		c.run.Step(there)
	default:
		c.run.Step(false)
	}
}

func (c *clerk) arrived(mode api.Mode) bool {
	switch mode {
	case api.Takeoff:
		return c.near(2, 6400*c.par[api.TakeoffAlt])
	case api.Climb:
		return c.near(2, c.height)
	case api.Return:
		return c.near(0, c.target[0]) && c.near(1, c.target[1])
	case api.Brake:
		_, vx := c.filters[0].Middle()
		_, vy := c.filters[1].Middle()
		_, vz := c.filters[2].Middle()
		return guard.Slow([3]int{vx, vy, vz})
	}
	return false
}

func (c *clerk) entered(mode api.Mode) {
	c.point = [3]int{c.middle(0), c.middle(1), c.middle(2)}
	if mode == api.Ready {
		c.home = c.point
		c.run, _ = mission.New(c.par[api.Cruise], c.items...)
	}
	if mode == api.Climb {
		c.height = max(6400*c.par[api.ReturnAlt], c.point[2])
		c.target = c.home
		m, _ := params.Margins(c.par)
		at := api.Point{X: down(c.point[0]), Y: down(c.point[1])}
		if i, e := fence.Rally(c.fence, at, m.Lane); e == api.OK && i >= 0 {
			c.target = [3]int{6400 * c.fence.Rally[i].X, 6400 * c.fence.Rally[i].Y}
		}
	}
	if mode == api.Standby || mode == api.Locked {
		c.tripped = false
	}
}

func (c *clerk) stick(i, speed int) api.Want {
	if c.rcAge > c.par[api.RcWait] {
		return api.Want{}
	}
	return api.Want{Speed: max(-1000, min(1000, c.sticks[i])) * speed / 1000}
}

func (c *clerk) wants() [3]api.Want {
	cruise, rise, fall := c.par[api.Cruise], c.par[api.Rise], c.par[api.Fall]
	hold := func(at, speed int) api.Want { return api.Want{Hold: true, At: at, Speed: speed} }
	x, y, z := c.point[0], c.point[1], c.point[2]
	switch c.machine.Mode() {
	case api.Takeoff:
		return [3]api.Want{hold(x, cruise), hold(y, cruise), hold(6400*c.par[api.TakeoffAlt], rise)}
	case api.Hold:
		return [3]api.Want{hold(x, cruise), hold(y, cruise), hold(z, rise)}
	case api.Position:
		return [3]api.Want{c.stick(0, cruise), c.stick(1, cruise), c.stick(2, rise)}
	case api.Altitude:
		return [3]api.Want{hold(x, cruise), hold(y, cruise), c.stick(2, rise)}
	case api.Auto:
		switch g := c.run.Goal(); g.Kind {
		case api.TakeoffItem:
			return [3]api.Want{hold(x, cruise), hold(y, cruise), hold(6400*g.Z, rise)}
		case api.WaypointItem:
			pace := min(g.Speed, cruise)
			return [3]api.Want{hold(6400*g.X, pace), hold(6400*g.Y, pace), hold(6400*g.Z, rise)}
		}
		return [3]api.Want{hold(x, cruise), hold(y, cruise), hold(z, rise)}
	case api.Climb:
		return [3]api.Want{hold(x, cruise), hold(y, cruise), hold(c.height, rise)}
	case api.Return:
		return [3]api.Want{hold(c.target[0], cruise), hold(c.target[1], cruise), hold(c.height, rise)}
	case api.Descend:
		return [3]api.Want{hold(c.target[0], cruise), hold(c.target[1], cruise), {Speed: -fall}}
	case api.Land:
		return [3]api.Want{hold(x, cruise), hold(y, cruise), {Speed: -fall}}
	}
	return [3]api.Want{}
}

func (c *clerk) fly() {
	mode := c.machine.Mode()
	c.backed, c.falls = false, false
	if slices.Contains([]api.Mode{api.Locked, api.Standby, api.Ready, api.Down}, mode) {
		c.motors, c.asked = [8]int{}, [3]int{}
		c.steer.Rest([3]int{})
		c.backup = guard.NewBackup()
		return
	}
	var places, speeds [3]int
	var axes [3]api.Axis
	for i, f := range c.filters {
		places[i], speeds[i] = f.Middle()
		axes[i] = f.Axis()
	}
	c.asked = c.steer.Step(c.wants(), places, speeds)
	last := mode == api.Brake || mode == api.Sink
	if !last && !c.tripped {
		m, _ := params.Margins(c.par)
		in, e := fence.Holds(c.fence, guard.Reach(axes, c.asked, m))
		c.tripped = !in || e != api.OK || !c.fenced
	}
	fall := c.par[api.Fall]
	if c.tripped || last {
		c.asked = c.backup.Step(mode == api.Sink, speeds, fall)
		c.backed = true
	}
	h, _, _ := c.compass.Heading()
	c.motors, _ = mixer.Mix(api.Wrench{
		Lift:  392 + c.asked[2],
		X:     c.asked[0],
		Y:     c.asked[1],
		Twist: control.Twist(h, c.votes["rate"].X, c.par[api.TurnRate]),
	}, c.dead)
	switch mode {
	case api.Descend, api.Land:
		c.falls = c.steer.Refs()[2] <= -fall
	case api.Sink:
		c.falls = c.backup.Falling(fall)
	}
}

func (c *clerk) faults() int { return min(65535, c.bad+c.reader.Bad()) }

func (c *clerk) heartbeat() {
	armed := 0
	if modes.Armed(c.machine.Mode()) {
		armed = 1
	}
	c.say(api.Heartbeat, int(c.machine.Mode()), armed, c.machine.Latches(), c.run.Index(), c.faults())
}

func (c *clerk) status() {
	var fields []int
	for i := range 3 {
		fields = append(fields, down(c.middle(i)))
	}
	for _, f := range c.filters {
		_, v := f.Middle()
		fields = append(fields, v)
	}
	left, _ := c.battery.Left()
	fields = append(fields, left.Lo)
	for i, x := range fields {
		fields[i] = min(max(x, -2147483648), 2147483647)
	}
	c.say(api.Status, fields...)
}

func (c *clerk) view() api.View {
	v := api.View{Mode: c.machine.Mode(), Armed: modes.Armed(c.machine.Mode()), Latches: c.machine.Latches(), Index: c.run.Index(), Bad: c.faults(), Backup: c.backed}
	for i, f := range c.filters {
		v.Axes[i] = f.Axis()
	}
	v.Left, _ = c.battery.Left()
	return v
}
