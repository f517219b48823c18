package pilot

import (
	"math"

	"windhover/api"
	"windhover/est"
	"windhover/fix"
	"windhover/power"
	"windhover/sense"
	"windhover/trig"
	"windhover/vote"
)

const (
	axes  = 3
	up    = 2 // the axis on which there is a ground
	units = 3
	// motors are numbered from 1 on where one is told to be dead.
	motors = 8
	// half of a mm: what is told of a place is its whole mm below, so that the truth lies about the middle of that one.
	half = api.PerMM / 2
	// whole is a stick at its end.
	whole = 1000
)

// What three units tell, in the order in which their fields stand: Imu, Baro, Gnss.
const (
	heading = iota
	rate
	tiltX
	tiltY
	altitude
	climb
	placeX
	placeY
	speedX
	speedY
	readings
)

// sensors is what ports tell, and what is known by it.
type sensors struct {
	said    [readings][units]api.Reading // in this tick
	charge  api.Reading                  // told in this tick
	dead    int                          // the first motor that was told to be, or 0
	garbled int                          // bad ones of all ports
	remote  remote
	voters  [readings]*vote.Voter
	votes   [readings]api.Reading // in this tick
	filters [axes]*est.Filter
	compass *est.Compass
	battery *power.Battery
}

// remote is what the remote control said last.
type remote struct {
	known  bool // whether it ever said something
	age    int  // ticks
	sticks [axes]int
	knob   int
}

// source is which votes tell of an axis, and which parameters say how far these are off.
type source struct {
	place, speed       int
	placeErr, speedErr int
}

// newSensors are ports at which nothing has been heard.
func newSensors() sensors {
	return sensors{remote: remote{age: api.MaxBad}}
}

// tune makes all anew that parameters say how to read by; these are sound, so that there is no error.
func (s *sensors) tune(values []int) {
	stale := values[api.Stale]
	for i := range s.voters {
		split := math.MaxInt
		if i == altitude || i == placeX || i == placeY {
			split = values[api.SplitLimit]
		}
		s.voters[i], _ = vote.New(stale, split)
	}
	for i := range s.filters {
		s.filters[i], _ = est.New(stale)
	}
	s.compass, _ = est.NewCompass(stale)
	s.battery, _ = power.New(values)
}

// read is the fields of a port's frame of this tick, if there is one.
func (s *sensors) read(kind api.Sensor, data string) ([]int, bool) {
	fields, ok, bad := sense.Read(kind, data)
	s.garbled = min(s.garbled+bad, api.MaxBad)
	return fields, ok
}

// readUnits takes what the units say that are voted on.
func (s *sensors) readUnits(in api.Inputs) {
	s.said = [readings][units]api.Reading{}
	for unit := range units {
		s.readUnit(unit, heading, api.Imu, in.Imu[unit])
		s.readUnit(unit, altitude, api.Baro, in.Baro[unit])
		s.readUnit(unit, placeX, api.Gnss, in.Gnss[unit])
		// Around 0, so that a vote of units that point to the north does not fall to the south.
		north := &s.said[heading][unit]
		north.X = trig.Way(0, north.X)
	}
}

// readUnit takes what one unit says, from a first reading on.
func (s *sensors) readUnit(unit, first int, kind api.Sensor, data string) {
	fields, _ := s.read(kind, data)
	for i, x := range fields {
		s.said[first+i][unit] = api.Reading{Ok: true, X: x}
	}
}

// readRemote takes what the remote control says; it tells to what its switch was turned, 0 if it was not.
func (s *sensors) readRemote(data string) int {
	fields, ok := s.read(api.Rc, data)
	if !ok {
		s.remote.age = older(s.remote.age)
		return 0
	}
	knob := fields[4]
	turned := s.remote.known && knob != s.remote.knob
	s.remote = remote{known: true, sticks: [axes]int(fields), knob: knob}
	if !turned {
		return 0
	}
	return knob
}

// readMotors takes what the motors' port says: what is left of the charge, and which motor is dead.
func (s *sensors) readMotors(data string) {
	s.charge = api.Reading{}
	fields, ok := s.read(api.Esc, data)
	if !ok {
		return
	}
	s.charge = api.Reading{Ok: true, X: fields[1]}
	if s.dead == 0 && fields[0] <= motors {
		s.dead = fields[0]
	}
}

// poll lets all voters vote.
func (s *sensors) poll() {
	for i, v := range s.voters {
		s.votes[i] = v.Step(s.said[i])
	}
}

// locate lets the axes' filters go on, by what was asked for.
func (s *sensors) locate(asked [axes]int, values []int) {
	dev := values[api.Wind] + api.Kick
	stand := s.low(asked[up], dev)
	for i, src := range sources() {
		place, speed := s.votes[src.place], s.votes[src.speed]
		s.filters[i].Step(asked[i], dev, stand,
			api.Measure{
				Ok:  place.Ok,
				X:   fix.Add(fix.Mul(api.PerMM, place.X), half),
				Err: api.PerMM*values[src.placeErr] + half,
			},
			api.Measure{Ok: speed.Ok, X: speed.X, Err: values[src.speedErr]},
		)
	}
}

// low tells whether the ground may stop the vehicle in this tick. A filter that knows nothing tells noughts, and from these no push leads up for sure.
func (s *sensors) low(push, dev int) bool {
	a := s.filters[up].Axis()
	fall := fix.Sub(fix.Add(a.V.Lo, push), dev)
	return fix.Add(a.P.Lo, fall) <= 0
}

// orient lets the compass go on.
func (s *sensors) orient() {
	turn, north := s.votes[rate], s.votes[heading]
	s.compass.Step(
		api.Measure{Ok: turn.Ok, X: turn.X},
		api.Measure{Ok: north.Ok, X: north.X, Err: 1},
	)
}

// middles are where the vehicle is taken to be, and how fast.
func (s *sensors) middles() (places, speeds [axes]int) {
	for i, f := range s.filters {
		places[i], speeds[i] = f.Middle()
	}
	return places, speeds
}

// placed tells whether the filters of all axes are good.
func (s *sensors) placed() bool {
	for _, f := range s.filters {
		if !f.Good() {
			return false
		}
	}
	return true
}

// level tells whether both tilts are known, and small.
func (s *sensors) level(most int) bool {
	for _, tilt := range [2]api.Reading{s.votes[tiltX], s.votes[tiltY]} {
		if !tilt.Ok || tilt.X < -most || tilt.X > most {
			return false
		}
	}
	return true
}

// around is a box that holds the vehicle, with room on each side but below, where it reaches to the ground.
func (s *sensors) around(room int) api.Box {
	var spans [axes]api.Span
	for i, f := range s.filters {
		p := f.Axis().P
		spans[i] = api.Span{Lo: fix.Sub(floorMM(p.Lo), room), Hi: fix.Add(ceilMM(p.Hi), room)}
	}
	spans[up].Lo = 0
	return api.Box{X: spans[0], Y: spans[1], Z: spans[up]}
}

// tier is how far the charge goes from here, if home is there.
func (s *sensors) tier(home [axes]int) api.Tier {
	places, _ := s.middles()
	far := 0
	for i := range up {
		far = max(far, apart(places[i], home[i]))
	}
	return s.battery.Tier(ceilMM(s.filters[up].Axis().P.Hi), ceilMM(far))
}

// stick is a stick of the remote control as a part of a velocity; one that has been silent for too long lets it go.
func (s *sensors) stick(i, speed, wait int) int {
	if s.remote.age > wait {
		return 0
	}
	return fix.Clamp(s.remote.sticks[i], -whole, whole) * speed / whole
}

// sources say of each axis what tells of it.
func sources() [axes]source {
	return [axes]source{
		{placeX, speedX, api.GnssPlace, api.GnssSpeed},
		{placeY, speedY, api.GnssPlace, api.GnssSpeed},
		{altitude, climb, api.BaroHeight, api.BaroClimb},
	}
}

// older is an age a tick later; ages stop where counters do.
func older(age int) int { return min(age+1, api.MaxBad) }

// apart is how far two places are from one another.
func apart(a, b int) int { return max(fix.Sub(a, b), fix.Sub(b, a)) }

// floorMM is a place in mm; a mm has parts, so that there is no error.
func floorMM(place int) int {
	mm, _ := fix.Down(place, api.PerMM)
	return mm
}

// ceilMM is a place in mm, rounded up.
func ceilMM(place int) int {
	mm, _ := fix.Up(place, api.PerMM)
	return mm
}
