package pilot_test

import (
	"strings"
	"testing"

	"windhover/api"
	"windhover/pilot"
)

// P24.2: of a nil Pilot.
func TestStepNil(t *testing.T) {
	var p *pilot.Pilot
	if out, e := p.Step(api.Inputs{Link: "x"}); e != api.ErrNil || out != (api.Outputs{}) {
		t.Error(out, e)
	}
}

// P24.2: tell is due each 40th tick from 0 on, report each 80th from 20 on.
func TestTellAndReportTicks(t *testing.T) {
	r := setup{}.rig(t)
	for tick := range 500 {
		r.step()
		var want []api.Kind
		if tick%40 == 0 {
			want = append(want, api.Heartbeat)
		}
		if tick >= 20 && (tick-20)%80 == 0 {
			want = append(want, api.Status)
		}
		if len(want) != len(r.heard) || len(want) == 1 && r.heard[0].Kind != want[0] {
			t.Fatal(tick, r.heard, want)
		}
	}
}

// P24.2: think is due each fourth tick from 0 on, and stands behind sense, link and look of its tick, ahead of fly.
func TestThinkTicks(t *testing.T) {
	for first := range 9 {
		r := setup{}.rig(t)
		r.alter = func(in *api.Inputs) {
			if r.tick < first {
				*in = api.Inputs{}
			}
		}
		for tick := range 20 {
			r.step()
			// In the tick in which all is told first, if that is one, it is found fit.
			if want := tick >= (first+3)/4*4; (r.view.Mode == api.Standby) != want {
				t.Fatal(first, tick, r.view.Mode)
			}
		}
	}
	for ahead := range 8 {
		r := setup{}.rig(t)
		r.run(ahead + 1)
		r.order(arm, 0)
		for r.tick%4 != 1 {
			r.is(api.Standby)
			r.step()
		}
		r.is(api.Ready)
		if r.out.Motors != ([8]int{}) {
			t.Error(r.out.Motors)
		}
		r.align(0)
		r.order(takeoff, 0)
		r.is(api.Takeoff)
		// The motors of the same tick lift.
		if r.out.Motors == ([8]int{}) {
			t.Error("off")
		}
	}
}

// P24.2: the remote control's wish of a tick is followed in the same one, as sense is due ahead of think.
func TestSenseAheadOfThink(t *testing.T) {
	r := airborne(t, setup{})
	r.align(3)
	r.rc = write(t, api.Rc, 0, 0, 0, 0, 0)
	r.step()
	r.rc = write(t, api.Rc, 0, 0, 0, 0, 2)
	r.step()
	r.is(api.Position)
}

// P24.2: what the link is answered stands ahead of Heartbeat and Status; their Seq goes on by 1, modulo 256, from 0 on.
func TestSeq(t *testing.T) {
	r := setup{}.rig(t)
	seq, turns := 0, 0
	for tick := range 300 {
		n := tick % 7
		if tick == 120 {
			n = 600
		}
		r.link = strings.Repeat(commandText(t, 200), n)
		r.step()
		for i, f := range r.frames {
			if f.Seq != seq {
				t.Fatal(tick, i, f.Seq, seq)
			}
			if seq++; seq == 256 {
				seq = 0
				turns++
			}
			if (f.ID == int(api.Ack)) != (i < n) {
				t.Fatal(tick, i, f.ID)
			}
		}
		if len(r.frames) < n {
			t.Fatal(tick, len(r.frames), n)
		}
	}
	if turns < 5 {
		t.Error(turns)
	}
}

// P24.2: a tick in which nothing comes in is a tick; nothing of what came in is there still in the next one.
func TestEmptyTicks(t *testing.T) {
	r := setup{}.rig(t)
	for range 100 {
		r.feed(api.Inputs{})
	}
	r.is(api.Locked)
	r.order(arm, 1)
	for range 100 {
		r.feed(api.Inputs{})
		for _, said := range r.heard {
			if said.Kind == api.Ack {
				t.Fatal("answered twice")
			}
		}
	}
}

// R1: a Pilot that New did not make is one without jobs: it does nothing, and does not panic.
func TestPilotOfNoughts(t *testing.T) {
	p := &pilot.Pilot{}
	for range 200 {
		if out, e := p.Step(api.Inputs{Link: commandText(t, arm), Rc: "\xa5"}); e != api.OK || out != (api.Outputs{}) {
			t.Fatal(out, e)
		}
	}
	if _, has := p.Fence(); has || p.View() != (api.View{}) || len(p.Params()) != 0 || len(p.Mission()) != 0 {
		t.Error("tells something")
	}
}
