package modes_test

import (
	"math"
	"math/rand"
	"slices"
	"strconv"
	"testing"

	"windhover/api"
	"windhover/modes"
)

const (
	most  = math.MaxInt
	least = math.MinInt
	all   = 1<<18 - 1 // the bits of all events
)

// The modes, by the document's numbers.
const (
	locked = iota
	standby
	ready
	takeoff
	hold
	position
	altitude
	auto
	climb
	homeward
	descend
	land
	brake
	sink
	down
)

// The events, by the document's numbers.
const (
	trip = iota
	blind
	dry
	landed
	lean
	silent
	arrived
	wantDisarm
	wantArm
	wantTakeoff
	wantHold
	wantPosition
	wantAltitude
	wantAuto
	wantReturn
	wantLand
	fit
	unfit
)

// line is one of the chapter's table: events, the modes from which they lead, and the mode to which.
type line struct {
	events, from []int
	to           int
}

// lines are the chapter's table, each mode written out.
func lines() []line {
	return []line{
		{[]int{0, 1, 2}, []int{3, 4, 5, 6, 7, 8, 9, 10, 11}, 12},
		{[]int{3}, []int{10, 11, 13}, 14},
		{[]int{4, 5}, []int{3, 4, 5, 6, 7}, 8},
		{[]int{6}, []int{3}, 4},
		{[]int{6}, []int{8}, 9},
		{[]int{6}, []int{9}, 10},
		{[]int{6}, []int{12}, 13},
		{[]int{7}, []int{2}, 1},
		{[]int{8}, []int{1}, 2},
		{[]int{9}, []int{2}, 3},
		{[]int{10}, []int{3, 5, 6, 7, 8, 9, 10, 11}, 4},
		{[]int{11}, []int{4, 6, 7, 8, 9, 10, 11}, 5},
		{[]int{12}, []int{4, 5, 7, 8, 9, 10, 11}, 6},
		{[]int{13}, []int{2, 4, 5, 6}, 7},
		{[]int{14}, []int{3, 4, 5, 6, 7, 11}, 8},
		{[]int{15}, []int{3, 4, 5, 6, 7, 8, 9, 10}, 11},
		{[]int{16}, []int{0, 14}, 1},
		{[]int{17}, []int{1, 14}, 0},
	}
}

// leads is the mode to which an event leads, by the chapter's table; the mode itself, where it leads nowhere.
func leads(mode, event int) int {
	for _, l := range lines() {
		if slices.Contains(l.events, event) && slices.Contains(l.from, mode) {
			return l.to
		}
	}
	return mode
}

// table is leads of each mode and event, asked once, since the clerks ask it millions of times.
var table = everywhere()

func everywhere() (table [15][18]int) {
	for mode := range table {
		for event := range table[mode] {
			table[mode][event] = leads(mode, event)
		}
	}
	return table
}

// clerk does a machine's steps by the document's words; it reads which events are there off the number's digits.
type clerk struct {
	mode    int
	latched [18]bool
}

// there are the events of a number, the least first.
func there(events int) []int {
	digits := strconv.FormatUint(uint64(events), 2)
	var list []int
	for event := range min(18, len(digits)) {
		if digits[len(digits)-1-event] == '1' {
			list = append(list, event)
		}
	}
	return list
}

func (c *clerk) step(events int) int {
	began, did := c.mode, -1
	for _, event := range there(events) {
		if to := table[began][event]; did < 0 && to != began {
			c.mode, did = to, event
		}
		if began >= 3 && began <= 13 && (event <= 2 || event == 4 || event == 5) {
			c.latched[event] = true
		}
	}
	if c.mode == locked || c.mode == standby {
		c.latched = [18]bool{}
	}
	return did
}

func (c *clerk) latches() int {
	sum := 0
	for event, is := range c.latched {
		if is {
			sum += 1 << event
		}
	}
	return sum
}

// pair is a machine and its clerk.
type pair struct {
	m *modes.Machine
	c clerk
}

func newPair(t *testing.T) *pair {
	t.Helper()
	p := &pair{m: modes.New()}
	if p.m == nil {
		t.Fatal("no machine")
	}
	p.look(t)
	return p
}

// look holds what a machine tells against its clerk.
func (p *pair) look(t *testing.T) {
	t.Helper()
	if int(p.m.Mode()) != p.c.mode || p.m.Latches() != p.c.latches() {
		t.Fatalf("mode %d, latches %d; asked for: %d, %d", p.m.Mode(), p.m.Latches(), p.c.mode, p.c.latches())
	}
}

// step does a step on both, and tells which event was followed.
func (p *pair) step(t *testing.T, events int) int {
	t.Helper()
	began := p.c.mode
	got, want := p.m.Step(events), p.c.step(events)
	if got != want {
		t.Fatalf("from mode %d, events %b: followed %d; asked for: %d", began, uint(events), got, want)
	}
	p.look(t)
	return got
}

// walk does a step of one event for each of them.
func (p *pair) walk(t *testing.T, events ...int) {
	t.Helper()
	for _, event := range events {
		p.step(t, 1<<event)
	}
}

// twin is the same pair once more, which goes its own way.
func (p *pair) twin() *pair {
	m := *p.m
	return &pair{m: &m, c: p.c}
}

// wayTo is how a new machine gets to a mode, by one event a step; no shorter way leads to Brake and Sink than over Trip, which is latched then.
func wayTo(mode int) []int {
	return [][]int{
		{}, {fit}, {fit, wantArm},
		{fit, wantArm, wantTakeoff},
		{fit, wantArm, wantTakeoff, arrived},
		{fit, wantArm, wantTakeoff, arrived, wantPosition},
		{fit, wantArm, wantTakeoff, arrived, wantAltitude},
		{fit, wantArm, wantAuto},
		{fit, wantArm, wantTakeoff, wantReturn},
		{fit, wantArm, wantTakeoff, wantReturn, arrived},
		{fit, wantArm, wantTakeoff, wantReturn, arrived, arrived},
		{fit, wantArm, wantTakeoff, wantLand},
		{fit, wantArm, wantTakeoff, trip},
		{fit, wantArm, wantTakeoff, trip, arrived},
		{fit, wantArm, wantTakeoff, wantLand, landed},
	}[mode]
}

// at is a pair in a mode.
func at(t *testing.T, mode int) *pair {
	t.Helper()
	p := newPair(t)
	p.walk(t, wayTo(mode)...)
	if int(p.m.Mode()) != mode {
		t.Fatalf("no way to mode %d: %d", mode, p.m.Mode())
	}
	return p
}

// flies tells whether a mode is flying, by the document's list.
func flies(mode int) bool {
	return slices.Contains([]int{3, 4, 5, 6, 7, 8, 9, 10, 11, 12, 13}, mode)
}

// bits is the number of some events.
func bits(events ...int) int {
	sum := 0
	for _, event := range events {
		sum += 1 << event
	}
	return sum
}

// stray are numbers of bits that do not count.
func stray() []int {
	return []int{1 << 18, 1 << 19, 1 << 31, 1 << 32, 1 << 62, 1<<62 + 1<<18, least, least + 1<<40, most - all, -1 - all}
}

// anyEvents are events at random: few, many, and now and then bits that do not count.
func anyEvents(r *rand.Rand) int {
	events := 0
	for range r.Intn(4) {
		events |= 1 << r.Intn(18)
	}
	switch r.Intn(6) {
	case 0:
		events |= r.Intn(all + 1)
	case 1:
		events = int(r.Uint64())
	case 2:
		events |= stray()[r.Intn(len(stray()))]
	}
	return events
}

// api: the names of modes and events have the document's numbers.
func TestNames(t *testing.T) {
	for mode, name := range []api.Mode{api.Locked, api.Standby, api.Ready, api.Takeoff, api.Hold, api.Position, api.Altitude, api.Auto, api.Climb, api.Return, api.Descend, api.Land, api.Brake, api.Sink, api.Down} {
		if int(name) != mode {
			t.Error(mode, name)
		}
	}
	for event, name := range []int{api.Trip, api.Blind, api.Dry, api.Landed, api.Lean, api.Silent, api.Arrived, api.WantDisarm, api.WantArm, api.WantTakeoff, api.WantHold, api.WantPosition, api.WantAltitude, api.WantAuto, api.WantReturn, api.WantLand, api.Fit, api.Unfit} {
		if name != event {
			t.Error(event, name)
		}
	}
}
