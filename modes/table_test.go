package modes_test

import (
	"testing"

	"windhover/api"
	"windhover/modes"
)

// P20.1: every event from every mode, by the chapter's table.
func TestNext(t *testing.T) {
	led := 0
	for mode := range 15 {
		for event := range 18 {
			want := leads(mode, event)
			if got := int(modes.Next(api.Mode(mode), event)); got != want {
				t.Errorf("mode %d, event %d: %d; asked for: %d", mode, event, got, want)
			}
			if want != mode {
				led++
			}
		}
	}
	// 27 of the first line, 3, 10, 4, 3 of events 7 to 9, 8, 7, 7, 4, 6, 8, 2 and 2: the table says so many, counted by hand.
	if led != 91 {
		t.Error("led on:", led)
	}
}

// P20.1: rows of the table, each written out as its first and last mode, and those beside them.
func TestNextByHand(t *testing.T) {
	for _, c := range []struct{ mode, event, to int }{
		{ready, trip, ready}, {takeoff, trip, brake}, {land, trip, brake}, {brake, trip, brake}, {sink, trip, sink}, {down, trip, down},
		{ready, blind, ready}, {takeoff, blind, brake}, {land, blind, brake}, {brake, blind, brake}, {sink, blind, sink},
		{ready, dry, ready}, {takeoff, dry, brake}, {land, dry, brake}, {brake, dry, brake}, {sink, dry, sink},
		{homeward, landed, homeward}, {descend, landed, down}, {land, landed, down}, {brake, landed, brake}, {sink, landed, down}, {down, landed, down}, {takeoff, landed, takeoff}, {ready, landed, ready},
		{ready, lean, ready}, {takeoff, lean, climb}, {auto, lean, climb}, {climb, lean, climb}, {land, lean, land},
		{ready, silent, ready}, {takeoff, silent, climb}, {auto, silent, climb}, {climb, silent, climb}, {land, silent, land},
		{takeoff, arrived, hold}, {hold, arrived, hold}, {auto, arrived, auto}, {climb, arrived, homeward}, {homeward, arrived, descend}, {descend, arrived, descend}, {land, arrived, land}, {brake, arrived, sink}, {sink, arrived, sink},
		{standby, wantDisarm, standby}, {ready, wantDisarm, standby}, {takeoff, wantDisarm, takeoff}, {land, wantDisarm, land}, {down, wantDisarm, down},
		{locked, wantArm, locked}, {standby, wantArm, ready}, {ready, wantArm, ready}, {down, wantArm, down},
		{standby, wantTakeoff, standby}, {ready, wantTakeoff, takeoff}, {hold, wantTakeoff, hold},
		{ready, wantHold, ready}, {takeoff, wantHold, hold}, {hold, wantHold, hold}, {position, wantHold, hold}, {land, wantHold, hold}, {brake, wantHold, brake},
		{takeoff, wantPosition, takeoff}, {hold, wantPosition, position}, {position, wantPosition, position}, {altitude, wantPosition, position}, {land, wantPosition, position}, {brake, wantPosition, brake},
		{takeoff, wantAltitude, takeoff}, {hold, wantAltitude, altitude}, {position, wantAltitude, altitude}, {altitude, wantAltitude, altitude}, {auto, wantAltitude, altitude}, {land, wantAltitude, altitude}, {brake, wantAltitude, brake},
		{standby, wantAuto, standby}, {ready, wantAuto, auto}, {takeoff, wantAuto, takeoff}, {hold, wantAuto, auto}, {altitude, wantAuto, auto}, {auto, wantAuto, auto}, {climb, wantAuto, climb}, {land, wantAuto, land},
		{ready, wantReturn, ready}, {takeoff, wantReturn, climb}, {auto, wantReturn, climb}, {climb, wantReturn, climb}, {homeward, wantReturn, homeward}, {descend, wantReturn, descend}, {land, wantReturn, climb}, {brake, wantReturn, brake},
		{ready, wantLand, ready}, {takeoff, wantLand, land}, {descend, wantLand, land}, {land, wantLand, land}, {brake, wantLand, brake},
		{locked, fit, standby}, {standby, fit, standby}, {ready, fit, ready}, {sink, fit, sink}, {down, fit, standby},
		{locked, unfit, locked}, {standby, unfit, locked}, {ready, unfit, ready}, {sink, unfit, sink}, {down, unfit, locked},
	} {
		if got := int(modes.Next(api.Mode(c.mode), c.event)); got != c.to {
			t.Errorf("mode %d, event %d: %d; asked for: %d", c.mode, c.event, got, c.to)
		}
	}
}

// P20.1: a mode above 14 stays, whatever the event is.
func TestNextOfNoMode(t *testing.T) {
	for mode := 15; mode <= 255; mode++ {
		for _, event := range append(noEvents(), there(all)...) {
			if got := int(modes.Next(api.Mode(mode), event)); got != mode {
				t.Errorf("mode %d, event %d: %d", mode, event, got)
			}
		}
	}
}

// P20.1: what is no event leads nowhere from any mode.
func TestNextOfNoEvent(t *testing.T) {
	for mode := range 256 {
		for _, event := range noEvents() {
			if got := int(modes.Next(api.Mode(mode), event)); got != mode {
				t.Errorf("mode %d, event %d: %d", mode, event, got)
			}
		}
	}
}

// noEvents are numbers that are none, some of which would be one if they were cut off to fewer bits.
func noEvents() []int {
	list := []int{least, least + 1, -1 << 32, -18, -17, -16, -2, -1, 18, 19, 31, 32, 63, 64, 65536, 1 << 31, most - 1, most}
	for event := range 18 {
		list = append(list, 256+event, 1<<32+event, least+event)
	}
	return list
}

// P20.1: Armed and Flying of every number that a mode may have.
func TestArmedFlying(t *testing.T) {
	const armed = ".." + "++++++++++++" + "."
	const flying = "..." + "+++++++++++" + "."
	for mode := range 256 {
		wantArmed := mode < len(armed) && armed[mode] == '+'
		wantFlying := mode < len(flying) && flying[mode] == '+'
		if got := modes.Armed(api.Mode(mode)); got != wantArmed {
			t.Error("armed", mode, got)
		}
		if got := modes.Flying(api.Mode(mode)); got != wantFlying || got != flies(mode) {
			t.Error("flying", mode, got)
		}
	}
}

// P20.6: from no flying mode an event leads to Ready, Standby or Locked, and only Landed leads out of them, to Down.
func TestOutOfTheAir(t *testing.T) {
	out := 0
	for mode := takeoff; mode <= sink; mode++ {
		for event := range 18 {
			to := modes.Next(api.Mode(mode), event)
			switch {
			case to == api.Ready || to == api.Standby || to == api.Locked:
				t.Errorf("mode %d, event %d: %d", mode, event, to)
			case !modes.Flying(to):
				out++
				if event != landed || to != api.Down {
					t.Errorf("mode %d, event %d: %d", mode, event, to)
				}
			}
		}
	}
	if out != 3 { // from Descend, Land and Sink
		t.Error(out)
	}
}

// P20.6: from Brake and Sink nothing leads but Arrived (to Sink) and Landed (to Down).
func TestBackupModes(t *testing.T) {
	for event := range 18 {
		afterBrake, afterSink := api.Brake, api.Sink
		if event == arrived {
			afterBrake = api.Sink
		}
		if event == landed {
			afterSink = api.Down
		}
		if got := modes.Next(api.Brake, event); got != afterBrake {
			t.Error("Brake", event, got)
		}
		if got := modes.Next(api.Sink, event); got != afterSink {
			t.Error("Sink", event, got)
		}
	}
}
