package modes_test

import (
	"math/rand"
	"testing"

	"windhover/api"
)

// latching are the events that are latched.
func latching() []int { return []int{trip, blind, dry, lean, silent} }

// P20.4: each event that is latched, from each mode: latched in a step that begins in a flying mode, followed or not, and in no other one.
func TestLatched(t *testing.T) {
	followed, stayed := 0, 0
	for mode := range 15 {
		for _, event := range latching() {
			p := at(t, mode)
			want := p.m.Latches()
			if flies(mode) {
				want |= 1 << event
			}
			did := p.step(t, 1<<event)
			if p.m.Latches() != want {
				t.Errorf("mode %d, event %d: latches %b; asked for: %b", mode, event, p.m.Latches(), want)
			}
			if flies(mode) && did == event {
				followed++
			} else if flies(mode) {
				stayed++
			}
		}
	}
	// Followed are three of them from nine modes and two from five.
	if followed != 37 || stayed != 18 {
		t.Error(followed, stayed)
	}
}

// P20.4: in Brake and Sink, to which a latch leads always, each event is latched beside whichever one led there.
func TestLatchedByTheBackup(t *testing.T) {
	for _, first := range []int{trip, blind, dry} {
		for _, event := range latching() {
			p := at(t, hold)
			p.walk(t, first, event)
			if p.m.Mode() != api.Brake || p.m.Latches() != 1<<first|1<<event {
				t.Error("Brake", first, event, p.m.Mode(), p.m.Latches())
			}
			p = at(t, hold)
			p.walk(t, first, arrived, event)
			if p.m.Mode() != api.Sink || p.m.Latches() != 1<<first|1<<event {
				t.Error("Sink", first, event, p.m.Mode(), p.m.Latches())
			}
		}
	}
}

// P20.4: no other event is latched, from any mode.
func TestNeverLatched(t *testing.T) {
	for mode := range 15 {
		for _, event := range []int{landed, arrived, 7, 8, 9, 10, 11, 12, 13, 14, 15, 16, 17} {
			p := at(t, mode)
			want := p.m.Latches()
			if mode == down && (event == fit || event == unfit) {
				want = 0
			}
			p.step(t, 1<<event)
			if p.m.Latches() != want {
				t.Errorf("mode %d, event %d: %b", mode, event, p.m.Latches())
			}
		}
	}
}

// P20.4: several at once, by hand: those that are not followed are latched too, ahead of the one that is and behind it.
func TestLatchedAtOnce(t *testing.T) {
	for _, c := range []struct{ mode, events, did, to, latches int }{
		{takeoff, bits(trip, blind, dry, lean, silent), trip, brake, 0b110111},
		{hold, bits(dry, silent, wantLand), dry, brake, 0b100100},
		{hold, bits(lean, silent), lean, climb, 0b110000},
		{position, bits(silent, wantHold), silent, climb, 0b100000},
		{climb, bits(lean, arrived), arrived, homeward, 0b010000},
		{climb, bits(silent, wantPosition), wantPosition, position, 0b100000},
		{descend, bits(lean, silent, landed), landed, down, 0b110000},
		{land, bits(lean, wantHold), wantHold, hold, 0b010000},
		{land, bits(trip, landed), trip, brake, 0b000001},
		{brake, bits(blind, lean, arrived), arrived, sink, 0b010011},
		{sink, bits(dry, silent, landed), landed, down, 0b100101},
		{auto, -1, trip, brake, 0b110111},
		{sink, -1, landed, down, 0b110111},
		{ready, bits(trip, blind, dry, lean, silent, wantTakeoff), wantTakeoff, takeoff, 0},
		{ready, bits(dry, wantAuto), wantAuto, auto, 0},
		{standby, bits(trip, wantArm), wantArm, ready, 0},
		{down, bits(trip, blind, dry, lean, silent), -1, down, 0},
		{locked, bits(trip, blind, dry, lean, silent), -1, locked, 0},
	} {
		p := at(t, c.mode)
		if did := p.step(t, c.events); did != c.did || int(p.m.Mode()) != c.to || p.m.Latches() != c.latches {
			t.Errorf("%+v: %d, mode %d, latches %b", c, did, p.m.Mode(), p.m.Latches())
		}
	}
}

// P20.4: all sets of events that are latched, from each mode at once and one behind the other.
func TestLatchedSets(t *testing.T) {
	for mode := range 15 {
		for set := range 64 {
			a, b := at(t, mode), at(t, mode)
			began := a.m.Latches()
			a.step(t, set)
			want := began
			if flies(mode) {
				want |= set &^ (1 << landed)
			}
			if a.m.Latches() != want {
				t.Errorf("mode %d, events %b: %b", mode, set, a.m.Latches())
			}
			for _, event := range there(set &^ (1 << landed)) {
				b.walk(t, event)
			}
			if b.m.Latches() != want {
				t.Errorf("mode %d, one behind the other of %b: %b", mode, set, b.m.Latches())
			}
		}
	}
}

// P20.4: a latch stays, once it is set, while its event is gone and whatever else comes, in the air and in Down.
func TestLatchStays(t *testing.T) {
	p := at(t, takeoff)
	p.walk(t, lean)
	for _, event := range []int{arrived, wantHold, wantPosition, wantAltitude, wantAuto, wantReturn, arrived, arrived, wantLand, wantDisarm, wantArm, fit, unfit, landed, wantArm, landed} {
		p.step(t, 1<<event)
		if p.m.Latches() != 1<<lean {
			t.Fatal(event, p.m.Mode(), p.m.Latches())
		}
	}
	if p.m.Mode() != api.Down {
		t.Fatal(p.m.Mode())
	}
	p.step(t, 0)
	p.step(t, bits(trip, blind, dry, silent)) // Down is not flying
	if p.m.Latches() != 1<<lean {
		t.Fatal(p.m.Latches())
	}
}

// P20.4: behind a step into Down the latches are left, behind one into Standby or Locked none is, whatever else is there in it.
func TestLatchGone(t *testing.T) {
	for set := range 64 {
		if set&bits(trip, blind, dry) == 0 {
			continue
		}
		latches := set &^ (1 << landed)
		for _, out := range []struct{ events, to int }{
			{bits(fit), standby}, {bits(unfit), locked}, {bits(fit, unfit), standby}, {-1, standby}, {bits(trip, dry, lean, unfit), locked},
		} {
			p := at(t, altitude)
			p.step(t, set)
			p.walk(t, arrived, landed)
			if p.m.Mode() != api.Down || p.m.Latches() != latches {
				t.Fatal(set, p.m.Mode(), p.m.Latches())
			}
			p.step(t, out.events)
			if int(p.m.Mode()) != out.to || p.m.Latches() != 0 {
				t.Fatal(set, out, p.m.Mode(), p.m.Latches())
			}
		}
	}
}

// P20.4: a step that stays in Standby or Locked leaves none; the next flight begins without any.
func TestNoneOnTheGround(t *testing.T) {
	p := at(t, sink)
	p.walk(t, landed, fit)
	for range 3 {
		p.step(t, bits(trip, blind, dry, lean, silent))
		p.step(t, 0)
		if p.m.Mode() != api.Standby || p.m.Latches() != 0 {
			t.Fatal(p.m.Mode(), p.m.Latches())
		}
	}
	p.walk(t, unfit)
	for range 3 {
		p.step(t, bits(trip, blind, dry, lean, silent, wantArm))
		if p.m.Mode() != api.Locked || p.m.Latches() != 0 {
			t.Fatal(p.m.Mode(), p.m.Latches())
		}
	}
	p.walk(t, fit, wantArm, wantTakeoff)
	if p.m.Mode() != api.Takeoff || p.m.Latches() != 0 {
		t.Fatal(p.m.Mode(), p.m.Latches())
	}
}

// state is all that a machine tells of itself.
type state struct {
	mode    api.Mode
	latches int
}

func (p *pair) state() state { return state{p.m.Mode(), p.m.Latches()} }

// sets are those of the events that are latched, of Landed and Arrived, and of one other event at most.
func sets() []int {
	var list []int
	for low := range 128 {
		list = append(list, low)
		for event := wantDisarm; event <= unfit; event++ {
			list = append(list, low|1<<event)
		}
	}
	return list
}

// explore goes from a new machine to each state that it may get to, and shows each step of each state.
func explore(t *testing.T, show func(from state, events, did int, to state)) int {
	t.Helper()
	first := newPair(t)
	seen := map[state]bool{first.state(): true}
	for open := []*pair{first}; len(open) > 0; open = open[1:] {
		for _, events := range sets() {
			p := open[0].twin()
			did := p.step(t, events)
			show(open[0].state(), events, did, p.state())
			if !seen[p.state()] {
				seen[p.state()] = true
				open = append(open, p)
			}
		}
	}
	return len(seen)
}

// P20.6: whatever state a machine in the air is in, no step leads it to Ready, Standby or Locked, and only Landed, which it tells, to Down; from Brake and Sink it follows Arrived and Landed alone.
func TestOutOfTheAirByStep(t *testing.T) {
	explore(t, func(from state, events, did int, to state) {
		if !flies(int(from.mode)) {
			return
		}
		if to.mode <= api.Ready || to.mode == api.Down && (did != landed || events&(1<<landed) == 0) {
			t.Fatalf("%+v, events %b: %d, %+v", from, events, did, to)
		}
		if (from.mode == api.Brake || from.mode == api.Sink) && did != -1 && did != arrived && did != landed {
			t.Fatalf("%+v, events %b: %d, %+v", from, events, did, to)
		}
	})
}

// P20.7: the latch Dry, once set, is there until Standby or Locked, and the mode behind the step that set it is Brake or Sink, until Down.
func TestDry(t *testing.T) {
	set, gone := 0, 0
	states := explore(t, func(from state, events, did int, to state) {
		was, is := from.latches&(1<<dry) != 0, to.latches&(1<<dry) != 0
		grounded := to.mode == api.Standby || to.mode == api.Locked
		switch {
		case was && !is:
			gone++
			if !grounded {
				t.Fatalf("gone: %+v, events %b: %+v", from, events, to)
			}
		case !was && is:
			set++
			if events&(1<<dry) == 0 || !flies(int(from.mode)) {
				t.Fatalf("set: %+v, events %b: %+v", from, events, to)
			}
		}
		if is && to.mode != api.Brake && to.mode != api.Sink && to.mode != api.Down {
			t.Fatalf("dry: %+v, events %b: %+v", from, events, to)
		}
		if flies(int(from.mode)) && events&(1<<dry) != 0 && !is {
			t.Fatalf("not set: %+v, events %b: %+v", from, events, to)
		}
	})
	// Four modes have no latch, since all that would be latched in Takeoff leads out of it; eight have Lean and Silent at most, Brake and Sink one of Trip, Blind and Dry at least, Down any.
	if states != 4+8*4+2*28+32 || set == 0 || gone == 0 {
		t.Error(states, set, gone)
	}
}

// P20.7: a machine that is dry, step by step, whatever comes: by hand, and at random.
func TestDryWays(t *testing.T) {
	r := rand.New(rand.NewSource(207))
	for mode := takeoff; mode <= sink; mode++ {
		for range 200 {
			p := at(t, mode)
			p.step(t, anyEvents(r)&^(1<<landed)|1<<dry)
			stop := false
			for step := 0; step < 60 && !stop; step++ {
				isDry := p.m.Latches()&(1<<dry) != 0
				switch p.m.Mode() {
				case api.Brake, api.Sink, api.Down:
					stop = !isDry
				case api.Standby, api.Locked:
					stop = true
					continue
				default:
					stop = true
				}
				if stop {
					t.Fatal(mode, step, p.m.Mode(), p.m.Latches())
				}
				p.step(t, anyEvents(r))
			}
		}
	}
}

// longest is how often a machine may change its mode at most, if only events 0 to 6 come, in all their sets.
func longest(t *testing.T, p *pair, known map[api.Mode]int) int {
	t.Helper()
	if n, ok := known[p.m.Mode()]; ok {
		return n
	}
	most := 0
	for events := range 128 {
		next := p.twin()
		next.step(t, events)
		if next.m.Mode() != p.m.Mode() {
			most = max(most, 1+longest(t, next, known))
		}
	}
	known[p.m.Mode()] = most
	return most
}

// P20.6: a machine in a flying mode to which only events 0 to 6 come changes its mode at most seven times; the numbers of each mode are counted by hand.
func TestSevenChanges(t *testing.T) {
	for mode, want := range map[int]int{takeoff: 7, hold: 6, position: 6, altitude: 6, auto: 6, climb: 5, homeward: 4, descend: 3, land: 3, brake: 2, sink: 1} {
		if got := longest(t, at(t, mode), map[api.Mode]int{}); got != want {
			t.Errorf("from mode %d: %d changes; asked for: %d", mode, got, want)
		}
	}
	p := at(t, takeoff)
	for i, events := range []int{bits(arrived), bits(silent), bits(arrived), bits(arrived), bits(trip), bits(arrived), bits(landed)} {
		was := p.m.Mode()
		if p.step(t, events); p.m.Mode() == was {
			t.Error(i, was)
		}
	}
	for events := range 128 {
		if p.step(t, events); p.m.Mode() != api.Down {
			t.Fatal(events, p.m.Mode())
		}
	}
}

// P20.6: the same in scripts at random, from each flying mode.
func TestSevenInScripts(t *testing.T) {
	r := rand.New(rand.NewSource(206))
	for mode := takeoff; mode <= sink; mode++ {
		for range 100 {
			p, changes := at(t, mode), 0
			for range 80 {
				was := p.m.Mode()
				p.step(t, r.Intn(128)&r.Intn(128)&r.Intn(128))
				if p.m.Mode() != was {
					changes++
				}
			}
			if changes > 7 {
				t.Fatal(mode, changes)
			}
		}
	}
}
