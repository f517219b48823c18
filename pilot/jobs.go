package pilot

import (
	"math"

	"windhover/api"
	"windhover/control"
	"windhover/fence"
	"windhover/fix"
	"windhover/guard"
	"windhover/mission"
	"windhover/mixer"
	"windhover/modes"
)

// What the desks' lists are, by the first field of their messages.
const (
	missionList = 1
	fenceList   = 2
)

// switches is how many wishes the remote control's switch can make, from WantHold on.
const switches = 6

// sense reads all ports but the link.
func (p *Pilot) sense() {
	p.readUnits(p.in)
	if turned := p.readRemote(p.in.Rc); turned >= 1 && turned <= switches {
		p.wish(api.WantHold + turned - 1)
	}
	p.readMotors(p.in.Esc)
}

// hear takes what came over the link.
func (p *Pilot) hear() {
	for _, m := range p.receive(p.in.Link) {
		p.obey(m)
		p.adopt()
	}
	for _, d := range p.desks {
		p.send(d.Tick(p.plan.Now())...)
	}
}

// obey does what a message asks for.
func (p *Pilot) obey(m api.Message) {
	switch m.Kind {
	case api.Command:
		op := m.Fields[0]
		p.say(api.Ack, op, verdict(p.order(op)))
	case api.ParamSet:
		p.setParam(m.Fields[0], m.Fields[1])
	case api.Count, api.Item, api.Cancel:
		p.list(m)
	}
}

// order makes the wish that a Command stands for, or tells why not.
func (p *Pilot) order(op int) error {
	event, e := orderOf(op)
	if e != nil {
		return e
	}
	if !p.leads(event) || event == api.WantArm && !p.fit || event == api.WantAuto && len(p.items) == 0 {
		return errDenied
	}
	p.wish(event)
	return nil
}

// setParam changes a parameter, if that may be now, and tells what it is then.
func (p *Pilot) setParam(i, x int) {
	if !p.armed() && p.keepParam(i, x) == api.OK {
		p.equip()
	}
	if i < len(p.values) {
		p.say(api.ParamValue, i, p.values[i])
	}
}

// list hands a message to its desk. While the vehicle is armed no list is begun.
func (p *Pilot) list(m api.Message) {
	for _, d := range p.desks {
		switch {
		case d.what != m.Fields[0]:
		case m.Kind == api.Count && p.armed():
			p.say(api.Done, d.what, int(api.ErrArg))
		default:
			p.send(d.On(m, p.plan.Now())...)
		}
	}
}

// adopt lets each list that is ready come in force, and tells what came of it.
func (p *Pilot) adopt() {
	for _, d := range p.desks {
		if rows, ready := d.Ready(); ready {
			p.send(d.Keep(d.adopt(rows))...)
		}
	}
}

// makeDesks are the desks of missions and of fences.
func (p *Pilot) makeDesks() []desk {
	return []desk{
		newDesk(missionList, api.MaxItems, p.adoptMission),
		newDesk(fenceList, 1+api.MaxCorners+api.MaxRally, p.adoptFence),
	}
}

// adoptMission lets a list be the mission. That it is none is told ahead of that it may not come now.
func (p *Pilot) adoptMission(rows [][]int) api.Errno {
	items, e := mission.Of(rows)
	if e == api.OK && p.armed() {
		e = api.ErrArg
	}
	if e == api.OK {
		e = p.keepMission(items)
	}
	if e == api.OK {
		p.restart(p.values[api.Cruise], p.items)
	}
	return e
}

// adoptFence lets a list be the fence.
func (p *Pilot) adoptFence(rows [][]int) api.Errno {
	area, e := fence.Of(rows)
	if e == api.OK && p.armed() {
		e = api.ErrArg
	}
	if e == api.OK {
		e = p.keepFence(area)
	}
	return e
}

// look finds out where the vehicle is.
func (p *Pilot) look() {
	p.poll()
	p.locate(p.asked, p.values)
	p.orient()
	p.battery.Step(p.charge)
	_, speeds := p.middles()
	p.landed = p.detector.Step(p.falls, speeds[up], p.values[api.Fall])
}

// think finds out in which mode the vehicle shall be.
func (p *Pilot) think() {
	p.fit = p.mayArm()
	p.pursue()
	before := p.mode()
	p.machine.Step(p.events())
	p.wishes = 0
	if p.mode() != before {
		p.enter()
	}
}

// mayArm tells whether the vehicle is fit.
func (p *Pilot) mayArm() bool {
	_, _, oriented := p.compass.Heading()
	return p.kept && p.placed() && oriented && p.dead == 0 &&
		p.level(p.values[api.TiltLimit]) &&
		p.battery.Tier(0, 0) == api.Full &&
		p.within(p.around(p.values[api.ArmMargin]))
}

// pursue goes on with the mission. What the vehicle came to is where it stays then, until there is another place to go to.
func (p *Pilot) pursue() {
	if p.mode() != api.Auto {
		return
	}
	places, _ := p.middles()
	goal := p.run.Goal()
	arrived := p.reached(goal, places, p.radius())
	if arrived {
		p.point = p.spot(goal)
	}
	p.run.Step(arrived)
}

// events are all events of a thinking, bit by bit.
func (p *Pilot) events() int {
	tier := p.tier(p.home)
	p.lean = streak(p.lean, tier != api.Full)
	p.silent = streak(p.silent, p.unheard())
	there := [api.Events]bool{
		api.Trip:    p.tripped,
		api.Blind:   !p.placed(),
		api.Dry:     tier == api.Critical,
		api.Landed:  p.landed,
		api.Lean:    p.lean == patience,
		api.Silent:  p.silent == patience,
		api.Arrived: p.arrived(),
		api.Fit:     p.fit,
		api.Unfit:   !p.fit,
	}
	events := p.soundWishes() | p.goalWish()
	for event, is := range there {
		if is {
			events |= 1 << event
		}
	}
	return events
}

// unheard tells whether neither link nor remote control has been heard for too long.
func (p *Pilot) unheard() bool {
	return p.age > p.values[api.LinkWait] && p.remote.age > p.values[api.RcWait]
}

// soundWishes are the wishes that were made and may be followed still.
func (p *Pilot) soundWishes() int {
	wishes := p.wishes
	if !p.fit {
		wishes &^= 1 << api.WantArm
	}
	if len(p.items) == 0 {
		wishes &^= 1 << api.WantAuto
	}
	return wishes
}

// arrived tells whether the vehicle has done what its mode is for.
func (p *Pilot) arrived() bool {
	places, speeds := p.middles()
	wants := p.wants()
	switch p.mode() {
	case api.Takeoff, api.Climb:
		return near(wants[up:], places[up:], p.radius())
	case api.Return:
		return near(wants[:up], places[:up], p.radius())
	case api.Brake:
		return guard.Slow(speeds)
	}
	return false
}

// radius is how near to a place the vehicle is there.
func (p *Pilot) radius() int { return api.PerMM * p.values[api.Radius] }

// enter keeps what another mode begins with.
func (p *Pilot) enter() {
	p.point, _ = p.middles()
	switch p.mode() {
	case api.Ready:
		p.home = p.point
		p.restart(p.values[api.Cruise], p.items)
	case api.Climb:
		p.height = max(api.PerMM*p.values[api.ReturnAlt], p.point[up])
		p.target = p.haven()
	case api.Standby, api.Locked:
		p.tripped = false
	}
}

// haven is where to come down: the nearest rally point to which there is a lane, or home.
func (p *Pilot) haven() [axes]int {
	at := api.Point{X: floorMM(p.point[0]), Y: floorMM(p.point[1])}
	i, e := fence.Rally(p.fence, at, p.margins.Lane)
	if e != api.OK || i < 0 {
		return p.home
	}
	rally := p.fence.Rally[i]
	return [axes]int{api.PerMM * rally.X, api.PerMM * rally.Y}
}

// fly asks the motors for what the mode wants, or for what the backup does.
func (p *Pilot) fly() {
	if !modes.Flying(p.mode()) {
		p.rest()
		return
	}
	places, speeds := p.middles()
	p.asked = p.steer.Step(p.wants(), places, speeds)
	p.watch()
	fall := p.values[api.Fall]
	p.backed = p.rescued()
	if p.backed {
		p.asked = p.backup.Step(p.mode() == api.Sink, speeds, fall)
	}
	p.falls = p.falling(fall)
	north, _, _ := p.compass.Heading()
	twist := control.Twist(north, p.votes[rate].X, p.values[api.TurnRate])
	// Only a motor's number is ever kept as the dead one, so that there is no error.
	p.motors, _ = mixer.Mix(wrench(p.asked, twist), p.dead)
}

// watch lets the guard trip, if the vehicle might leave the fence before it could be stopped.
func (p *Pilot) watch() {
	if p.rescued() {
		return
	}
	var known [axes]api.Axis
	for i, f := range p.filters {
		known[i] = f.Axis()
	}
	p.tripped = !p.within(guard.Reach(known, p.asked, p.margins))
}

// wants are what the mode asks of each axis: most of them hold the point in some.
func (p *Pilot) wants() [axes]api.Want {
	cruise, rise := p.values[api.Cruise], p.values[api.Rise]
	fall := api.Want{Speed: -p.values[api.Fall]}
	wants := [axes]api.Want{held(p.point[0], cruise), held(p.point[1], cruise), held(p.point[up], rise)}
	switch p.mode() {
	case api.Takeoff:
		wants[up].At = api.PerMM * p.values[api.TakeoffAlt]
	case api.Position:
		return [axes]api.Want{p.pushed(0, cruise), p.pushed(1, cruise), p.pushed(up, rise)}
	case api.Altitude:
		wants[up] = p.pushed(up, rise)
	case api.Auto:
		return p.course(p.run.Goal(), cruise, rise)
	case api.Climb:
		wants[up].At = p.height
	case api.Return:
		return [axes]api.Want{held(p.target[0], cruise), held(p.target[1], cruise), held(p.height, rise)}
	case api.Descend:
		return [axes]api.Want{held(p.target[0], cruise), held(p.target[1], cruise), fall}
	case api.Land:
		wants[up] = fall
	}
	return wants
}

// pushed is what a stick of the remote control asks of an axis.
func (p *Pilot) pushed(i, speed int) api.Want {
	return api.Want{Speed: p.stick(i, speed, p.values[api.RcWait])}
}

// tell says how the vehicle is.
func (p *Pilot) tell() {
	v := p.View()
	armed := 0
	if v.Armed {
		armed = 1
	}
	p.say(api.Heartbeat, int(v.Mode), armed, v.Latches, v.Index, v.Bad)
}

// report says where the vehicle is, and how much charge is left.
func (p *Pilot) report() {
	places, speeds := p.middles()
	left, _ := p.battery.Left()
	var fields []int
	for _, place := range places {
		fields = append(fields, floorMM(place))
	}
	fields = append(append(fields, speeds[:]...), left.Lo)
	for i, x := range fields {
		fields[i] = fix.Clamp(x, math.MinInt32, math.MaxInt32)
	}
	p.say(api.Status, fields...)
}
