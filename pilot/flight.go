package pilot

import (
	"windhover/api"
	"windhover/control"
	"windhover/fix"
	"windhover/ground"
	"windhover/guard"
	"windhover/mission"
	"windhover/modes"
)

// patience is how many thinkings, one behind the other, a battery that is low or a link that is silent takes to count.
const patience = 5

// flight is what the vehicle does.
type flight struct {
	machine  *modes.Machine
	run      *mission.Run
	steer    *control.Steer
	backup   *guard.Backup
	detector *ground.Detector
	wishes   int // that were made since the last thinking, bit by bit
	fit      bool
	lean     int // thinkings, one behind the other, with a battery that is low
	silent   int // and with nobody who is heard
	point    [axes]int
	home     [axes]int
	target   [axes]int
	height   int
	tripped  bool // the guard
	backed   bool // whether the backup was asked
	landed   bool // whether the detector says so in this tick
	falls    bool
	asked    [axes]int
	motors   [motors]int
}

// newFlight is a vehicle that is locked.
func newFlight() flight {
	return flight{machine: modes.New(), backup: guard.NewBackup(), detector: ground.New()}
}

// steerBy makes the steer anew; parameters are sound, so that there is no error.
func (f *flight) steerBy(values []int) {
	f.steer, _ = control.New(values)
}

// restart lets a mission begin anew; it is sound, so that there is no error.
func (f *flight) restart(speed int, items []api.MissionItem) {
	f.run, _ = mission.New(speed, items...)
}

// wish makes a wish.
func (f *flight) wish(event int) { f.wishes |= 1 << event }

// leads tells whether an event leads to another mode.
func (f *flight) leads(event int) bool { return modes.Next(f.mode(), event) != f.mode() }

// rest lets the motors be off.
func (f *flight) rest() {
	f.steer.Rest([axes]int{})
	f.backup = guard.NewBackup()
	f.backed, f.falls = false, false
	f.asked, f.motors = [axes]int{}, [motors]int{}
}

// rescued tells whether the backup is asked.
func (f *flight) rescued() bool {
	return f.tripped || f.mode() == api.Brake || f.mode() == api.Sink
}

// falling tells whether the whole fall to land is wanted.
func (f *flight) falling(fall int) bool {
	switch f.mode() {
	case api.Descend, api.Land:
		return f.steer.Refs()[up] <= -fall
	case api.Sink:
		return f.backup.Falling(fall)
	}
	return false
}

// course is what a mission's goal asks of each axis.
func (f *flight) course(goal api.Goal, cruise, rise int) [axes]api.Want {
	at := f.spot(goal)
	if goal.Kind == api.WaypointItem {
		cruise = min(goal.Speed, cruise)
	}
	return [axes]api.Want{held(at[0], cruise), held(at[1], cruise), held(at[up], rise)}
}

// spot is where a mission's goal lies.
func (f *flight) spot(goal api.Goal) [axes]int {
	switch goal.Kind {
	case api.TakeoffItem:
		return [axes]int{f.point[0], f.point[1], api.PerMM * goal.Z}
	case api.WaypointItem:
		return [axes]int{api.PerMM * goal.X, api.PerMM * goal.Y, api.PerMM * goal.Z}
	}
	return f.point
}

// reached tells whether a mission's goal is: what has no place never is.
func (f *flight) reached(goal api.Goal, places [axes]int, radius int) bool {
	wants := f.course(goal, 0, 0)
	switch goal.Kind {
	case api.TakeoffItem:
		return near(wants[up:], places[up:], radius)
	case api.WaypointItem:
		return near(wants[:], places[:], radius)
	}
	return false
}

// goalWish is the wish that a mission's goal makes, bit by bit.
func (f *flight) goalWish() int {
	if f.mode() != api.Auto {
		return 0
	}
	switch f.run.Goal().Kind {
	case api.LandItem:
		return 1 << api.WantLand
	case api.ReturnItem:
		return 1 << api.WantReturn
	case 0:
		return 1 << api.WantHold
	}
	return 0
}

// near tells whether each place is within a radius of where it is wanted.
func near(wants []api.Want, places []int, radius int) bool {
	for i, want := range wants {
		if apart(places[i], want.At) > radius {
			return false
		}
	}
	return true
}

// held is a want of a place.
func held(at, speed int) api.Want { return api.Want{Hold: true, At: at, Speed: speed} }

// streak is how many thinkings, one behind the other, something has been so.
func streak(count int, so bool) int {
	if !so {
		return 0
	}
	return min(count+1, patience)
}

// wrench is what motors shall do for what is asked for.
func wrench(asked [axes]int, twist int) api.Wrench {
	return api.Wrench{Lift: fix.Add(api.Gravity, asked[up]), X: asked[0], Y: asked[1], Twist: twist}
}
