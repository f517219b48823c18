package modes_test

import (
	"math/rand"
	"testing"

	"windhover/api"
	"windhover/modes"
)

// P20.2: a new machine is one, in Locked, without latches; each is a new one.
func TestNew(t *testing.T) {
	a := modes.New()
	if a == nil {
		t.Fatal("no machine")
	}
	a.Step(bits(fit))
	b := modes.New()
	if b == nil || a == b || b.Mode() != api.Locked || b.Latches() != 0 || a.Mode() != api.Standby {
		t.Error("not new")
	}
}

// P20.2 to P20.5: the chapter's examples, step by step.
func TestExamples(t *testing.T) {
	m := modes.New()
	for i, c := range []struct{ events, did, mode, latches int }{
		{65536, 16, standby, 0}, {256 + 131072, 8, ready, 0}, {512, 9, takeoff, 0}, {64 + 4, 2, brake, 4}, {1024, -1, brake, 4}, {64, 6, sink, 4},
		{64, -1, sink, 4}, {8, 3, down, 4}, {65536, 16, standby, 0}, {-1, 8, ready, 0},
	} {
		if did := m.Step(c.events); did != c.did || int(m.Mode()) != c.mode || m.Latches() != c.latches {
			t.Errorf("step %d: %d, mode %d, latches %d; asked for: %+v", i, did, m.Mode(), m.Latches(), c)
		}
	}
}

// P20.3: no event: -1, and all stays, in each mode and however often.
func TestStepOfNothing(t *testing.T) {
	for mode := range 15 {
		p := at(t, mode)
		latches := p.m.Latches()
		for range 3 {
			if did := p.step(t, 0); did != -1 || int(p.m.Mode()) != mode || p.m.Latches() != latches {
				t.Error(mode, did, p.m.Mode(), p.m.Latches())
			}
		}
	}
}

// P20.3: each event alone from each mode: what is answered is its number where it leads on, and -1 where it does not.
func TestStepOfOne(t *testing.T) {
	for mode := range 15 {
		for event := range 18 {
			p := at(t, mode)
			want, to := -1, leads(mode, event)
			if to != mode {
				want = event
			}
			if did := p.step(t, 1<<event); did != want || int(p.m.Mode()) != to {
				t.Errorf("mode %d, event %d: %d, mode %d", mode, event, did, p.m.Mode())
			}
		}
	}
}

// P20.3: several at once, by hand: the first that leads on is followed, and one alone.
func TestStepOfSeveral(t *testing.T) {
	for _, c := range []struct{ mode, events, did, to int }{
		{standby, bits(wantArm, unfit), wantArm, ready},         // the lesser number of two
		{standby, bits(trip, wantDisarm, unfit), unfit, locked}, // the first ones lead nowhere
		{standby, bits(wantArm, wantTakeoff), wantArm, ready},   // what would lead on from there waits for no one
		{ready, bits(wantDisarm, wantTakeoff, wantAuto), wantDisarm, standby},
		{ready, bits(trip, blind, dry, landed, lean, silent, arrived), -1, ready},
		{ready, bits(trip, dry, wantHold, wantAuto, fit), wantAuto, auto},
		{takeoff, bits(trip, blind, dry, lean), trip, brake},
		{takeoff, bits(landed, wantArm, wantAuto, wantReturn, wantLand), wantReturn, climb},
		{hold, bits(landed, arrived, wantHold, wantPosition, wantAuto), wantPosition, position},
		{hold, bits(lean, silent, wantLand), lean, climb},
		{climb, bits(lean, silent, arrived, wantHold), arrived, homeward},
		{climb, bits(lean, wantHold), wantHold, hold}, // a latch does not hold it
		{descend, bits(landed, wantLand), landed, down},
		{descend, bits(dry, landed), dry, brake}, // even on the ground
		{land, bits(lean, silent, wantReturn), wantReturn, climb},
		{brake, bits(trip, landed, arrived, wantHold), arrived, sink},
		{brake, all &^ bits(arrived), -1, brake},
		{sink, all &^ bits(landed), -1, sink},
		{sink, all, landed, down},
		{down, bits(trip, wantArm, fit, unfit), fit, standby},
		{down, bits(trip, wantArm, unfit), unfit, locked},
		{locked, bits(wantArm, wantTakeoff, fit), fit, standby},
		{locked, all &^ bits(fit), -1, locked},
	} {
		p := at(t, c.mode)
		if did := p.step(t, c.events); did != c.did || int(p.m.Mode()) != c.to {
			t.Errorf("%+v: %d, mode %d", c, did, p.m.Mode())
		}
	}
}

// P20.3: all events at once, by all bits and by those of the events alone, from each mode.
func TestStepOfAll(t *testing.T) {
	first := []int{fit, wantArm, wantDisarm, trip, trip, trip, trip, trip, trip, trip, trip, trip, arrived, landed, fit}
	for mode, want := range first {
		for _, events := range []int{-1, all, most, least + all} {
			p := at(t, mode)
			if did := p.step(t, events); did != want || int(p.m.Mode()) != leads(mode, want) {
				t.Errorf("mode %d, events %d: %d, mode %d", mode, events, did, p.m.Mode())
			}
		}
	}
}

// P20.3, P20.4: bits above 17 do not count, alone and beside events, below 0 and at an int's ends.
func TestStrayBits(t *testing.T) {
	for mode := range 15 {
		for _, more := range stray() {
			p := at(t, mode)
			latches := p.m.Latches()
			if did := p.step(t, more); did != -1 || int(p.m.Mode()) != mode || p.m.Latches() != latches {
				t.Errorf("mode %d, events %b: %d, mode %d, latches %d", mode, uint(more), did, p.m.Mode(), p.m.Latches())
			}
			for event := range 18 {
				a, b := at(t, mode), at(t, mode)
				if did := a.step(t, more|1<<event); did != b.step(t, 1<<event) || a.m.Mode() != b.m.Mode() || a.m.Latches() != b.m.Latches() {
					t.Errorf("mode %d, event %d beside %b: %d", mode, event, uint(more), did)
				}
			}
		}
	}
}

// P20.3, P20.4: every set of up to four events, and every set of all but up to three, from every mode.
func TestSmallSets(t *testing.T) {
	for mode := range 15 {
		p := at(t, mode)
		for a := range 19 { // 18: none
			for b := range a + 1 {
				for c := range b + 1 {
					set := (1<<a | 1<<b | 1<<c) & all
					p.twin().step(t, set)
					p.twin().step(t, all&^set)
					for d := range c {
						p.twin().step(t, set|1<<d)
					}
				}
			}
		}
	}
}

// P20.3, P20.4: every set of events at all, from three modes of different sorts.
func TestAllSets(t *testing.T) {
	for _, mode := range []int{ready, land, brake} {
		p := at(t, mode)
		for set := range all + 1 {
			p.twin().step(t, set)
		}
	}
}

// P20.5: Mode and Latches change nothing, however often they are asked.
func TestAsking(t *testing.T) {
	for mode := range 15 {
		p := at(t, mode)
		for range 20 {
			p.look(t)
		}
		p.step(t, all)
	}
}

// P20.3 to P20.5: ways of machines through all modes, by hand: the mode behind each event.
func TestWays(t *testing.T) {
	for i, way := range [][][2]int{
		{ // a flight of one's own
			{fit, standby}, {wantArm, ready}, {wantTakeoff, takeoff}, {arrived, hold}, {wantPosition, position}, {wantAltitude, altitude}, {wantAuto, auto},
			{wantReturn, climb}, {arrived, homeward}, {arrived, descend}, {wantLand, land}, {landed, down}, {fit, standby}, {unfit, locked},
		},
		{ // all modes but one that is not armed
			{fit, standby}, {wantArm, ready}, {wantAuto, auto}, {silent, climb}, {wantAltitude, altitude}, {wantHold, hold}, {wantLand, land}, {wantReturn, climb},
			{arrived, homeward}, {blind, brake}, {arrived, sink}, {landed, down}, {unfit, locked}, {fit, standby}, {wantArm, ready}, {wantDisarm, standby},
		},
		{ // what leads nowhere, again and again
			{unfit, locked}, {wantArm, locked}, {fit, standby}, {fit, standby}, {wantTakeoff, standby}, {wantArm, ready}, {unfit, ready}, {landed, ready}, {wantTakeoff, takeoff},
			{wantDisarm, takeoff}, {wantAuto, takeoff}, {landed, takeoff}, {wantHold, hold}, {arrived, hold}, {lean, climb}, {lean, climb}, {wantReturn, climb}, {arrived, homeward},
			{wantReturn, homeward}, {wantPosition, position}, {silent, climb}, {arrived, homeward}, {arrived, descend}, {arrived, descend}, {trip, brake}, {landed, brake}, {arrived, sink},
			{wantLand, sink}, {landed, down}, {wantArm, down}, {wantDisarm, down}, {fit, standby},
		},
	} {
		p := newPair(t)
		for _, s := range way {
			if p.step(t, 1<<s[0]); int(p.m.Mode()) != s[1] {
				t.Fatalf("way %d: event %d led to %d; asked for: %d", i, s[0], p.m.Mode(), s[1])
			}
		}
	}
}

// P20.3 to P20.5: scripts at random are answered as the clerk answers them, and come through all modes.
func TestScripts(t *testing.T) {
	r := rand.New(rand.NewSource(20))
	var been [15]bool
	for range 400 {
		p := newPair(t)
		for range 300 {
			p.step(t, anyEvents(r))
			been[p.m.Mode()] = true
		}
	}
	for mode, is := range been {
		if !is {
			t.Error("never in", mode)
		}
	}
}

// P20.3 to P20.5 (R2): machines know nothing of each other, however their steps lie among one another.
func TestApart(t *testing.T) {
	a, b := at(t, takeoff), at(t, takeoff)
	a.step(t, bits(trip, lean))
	if b.m.Mode() != api.Takeoff || b.m.Latches() != 0 {
		t.Fatal("one's step is another one's")
	}
	b.step(t, bits(arrived))
	a.look(t)
	b.look(t)

	r := rand.New(rand.NewSource(2))
	var ps [5]*pair
	for i := range ps {
		ps[i] = newPair(t)
	}
	for range 20000 {
		ps[r.Intn(len(ps))].step(t, anyEvents(r))
		for _, p := range ps {
			p.look(t)
		}
	}
}

// P20.3 to P20.5 (R2): a machine that was copied goes its own way.
func TestCopied(t *testing.T) {
	a := at(t, hold)
	b := a.twin()
	a.step(t, bits(dry))
	b.look(t)
	b.step(t, bits(wantPosition, silent))
	a.look(t)
}

// P20.5 (R2): a nil machine: Locked, no latches, and Step answers 0, whatever the events are.
func TestNil(t *testing.T) {
	var m *modes.Machine
	for _, events := range append(stray(), -1, 0, 1, 1<<16, 1<<8, 1<<9, all, most, least, least+1) {
		if did := m.Step(events); did != 0 || m.Mode() != api.Locked || m.Latches() != 0 {
			t.Error(events, did, m.Mode(), m.Latches())
		}
	}
}

// R1: a machine that New did not make does not panic: it is as a new one.
func TestUnmade(t *testing.T) {
	p := &pair{m: &modes.Machine{}}
	p.look(t)
	p.step(t, 0)
	p.walk(t, fit, wantArm, wantTakeoff, dry, arrived, landed, unfit)
}
