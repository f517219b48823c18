package pilot_test

import (
	"slices"
	"strings"
	"testing"

	"windhover/api"
	"windhover/pilot"
)

// next goes on to the tick in which a message of that kind is said, and tells it.
func (r *rig) next(kind api.Kind) api.Message {
	r.t.Helper()
	for range 100 {
		r.step()
		for _, said := range r.heard {
			if said.Kind == kind {
				return said
			}
		}
	}
	r.t.Fatal("nothing said")
	return api.Message{}
}

func (r *rig) saysNext(kind api.Kind, fields ...int) {
	r.t.Helper()
	if got := r.next(kind); !slices.Equal(got.Fields, fields) {
		r.t.Errorf("tick %d: said %v, want %v", r.tick-1, got.Fields, fields)
	}
}

// P24.8: Heartbeat in each mode: the mode, whether it is armed, the latches.
func TestHeartbeatModes(t *testing.T) {
	for mode := api.Locked; mode < api.Down; mode++ {
		r := inMode(t, mode, setup{items: loiter, par: map[int]int{api.LinkWait: 40000}})
		armed := 0
		if mode >= api.Ready {
			armed = 1
		}
		got := r.next(api.Heartbeat)
		if !slices.Equal(got.Fields, []int{int(mode), armed, r.view.Latches, 0, 0}) {
			t.Error(mode, got)
		}
		if dry := got.Fields[2]>>api.Dry&1 == 1; dry != (mode >= api.Brake) {
			t.Error(mode, got)
		}
	}
	// Down is there for four ticks: of flights of any length, one ends in a tick in which it is told.
	for wait := 0; ; wait += 4 {
		r := airborne(t, setup{})
		r.run(wait)
		r.command(land)
		r.until(api.Down, 1000)
		if (r.tick-1)%40 == 0 {
			if got := r.heard[0]; !sameMessage(got, m(api.Heartbeat, int(api.Down), 0, 0, 0, 0)) {
				t.Error(got)
			}
			return
		}
	}
}

// P24.8: Heartbeat at its ends: all latches, the greatest index, the most bad ones.
func TestHeartbeatEnds(t *testing.T) {
	var long []api.MissionItem
	for range 64 {
		long = append(long, api.MissionItem{Kind: api.SpeedItem, A: 2000})
	}
	r := airborne(t, setup{items: long, par: map[int]int{api.LinkWait: 40, api.RcWait: 40, api.Stale: 1}})
	r.command(auto)
	for range 64 * 4 {
		r.link = msg(t, api.Cancel, 9)
		r.step()
	}
	r.is(api.Hold)
	r.rc = strings.Repeat("\xa5", 70000)
	r.link = msg(t, api.Cancel, 9)
	r.step()
	r.saysNext(api.Heartbeat, int(api.Hold), 1, 0, 64, 65535)
	r.command(land)
	r.w.V = [3]int{0, 0, -8000}
	r.run(100)
	r.is(api.Land)
	r.align(1)
	r.w.Charge = 0
	r.w.V[0] = 2147483647
	r.alter = func(in *api.Inputs) { in.Gnss = [3]string{} }
	r.step()
	r.alter = nil
	r.step()
	r.alter = func(in *api.Inputs) { in.Gnss = [3]string{} }
	r.run(20)
	r.is(api.Brake)
	r.saysNext(api.Heartbeat, int(api.Brake), 1, 1<<api.Trip|1<<api.Blind|1<<api.Dry|1<<api.Lean|1<<api.Silent, 64, 65535)
}

// P24.8: Status: middles of places in mm, rounded down, of velocities, and Lo of what is left.
func TestStatus(t *testing.T) {
	r := setup{}.rig(t)
	r.still = true
	r.saysNext(api.Status, 0, 0, 0, 0, 0, 0, plenty-100)
	r.w.P = [3]int{6400 * 70000, -6400 * 70000, 6400*3000 + 6399}
	r.w.V = [3]int{80, -81, 17}
	r.run(30)
	r.saysNext(api.Status, 70000, -70000, 3000, 80, -81, 17, plenty-100)
	// A middle that is no mm's, below 0: spans of two units that are apart.
	r = setup{}.rig(t)
	r.still = true
	r.alter = func(in *api.Inputs) {
		for i := range 3 {
			in.Gnss[i] = write(t, api.Gnss, -1-r.tick/20, 0, 0, 0)
		}
	}
	got := r.next(api.Status)
	middle := mid(r.view.Axes[0].P)
	if want := -((-middle + 6399) / 6400); got.Fields[0] != want || middle%6400 == 0 {
		t.Error(got, middle)
	}
	// Nothing known: noughts.
	r = newRig(t, setup{}.image(t))
	r.alter = func(in *api.Inputs) { *in = api.Inputs{} }
	r.saysNext(api.Status, 0, 0, 0, 0, 0, 0, 0)
}

// P24.8: Status's fields are kept from -2^31 to 2^31 - 1.
func TestStatusEnds(t *testing.T) {
	const most, least = 2147483647, -2147483648
	for _, row := range []struct {
		place, speed, height, charge int
		ends                         [4]int // of places, of the height, of velocities, of the charge
	}{
		{most, most, most, most, [4]int{most, most, most, most - 100}},
		// High above the ground, which does not stop it: in a tick it falls by 2^31 of 6400 mm.
		{least, least, most, least, [4]int{least, most - 335544, least, least}},
	} {
		r := setup{par: map[int]int{api.Stale: 1}}.rig(t)
		r.still = true
		for r.tick < 18 {
			r.step()
		}
		r.alter = func(in *api.Inputs) {
			for i := range 3 {
				in.Gnss[i] = write(t, api.Gnss, row.place, row.place, row.speed, row.speed)
				in.Baro[i] = write(t, api.Baro, row.height, row.speed)
				if r.tick > 18 {
					in.Gnss[i], in.Baro[i] = "", ""
				}
			}
			in.Esc = write(t, api.Esc, 0, row.charge)
		}
		for r.tick < 20 {
			r.step()
		}
		// Silent for a tick, the places go on beyond what a unit can tell.
		r.step()
		want := []int{row.ends[0], row.ends[0], row.ends[1], row.ends[2], row.ends[2], row.ends[2], row.ends[3]}
		if len(r.heard) != 1 || !slices.Equal(r.heard[0].Fields, want) {
			t.Error(r.heard, want)
		}
		if middle := mid(r.view.Axes[0].P) / 6400; middle <= most && middle >= least {
			t.Error("not beyond", middle)
		}
	}
}

// P24.9: a nil Pilot tells nothing.
func TestViewsNil(t *testing.T) {
	var p *pilot.Pilot
	if v := p.View(); v != (api.View{}) {
		t.Error(v)
	}
	f, has := p.Fence()
	if has || !sameFence(f, api.Fence{}) || len(p.Params()) != 0 || len(p.Mission()) != 0 {
		t.Error("tells something")
	}
}

// P24.9: what is told is new memory: whoever writes into it changes nothing; and telling changes nothing.
func TestViewsNew(t *testing.T) {
	r := setup{items: hop, fence: square(30000, 20000, api.Point{X: 1, Y: 2}, api.Point{X: 3, Y: 4})}.rig(t)
	r.run(8)
	f, _ := r.p.Fence()
	again, _ := r.p.Fence()
	values, items := r.p.Params(), r.p.Mission()
	values[0], items[0].A = 99, 99
	f.Poly[0], f.Rally[1], f.Ceiling = api.Point{X: 5, Y: 5}, api.Point{X: 6, Y: 6}, 1
	for _, list := range [][]api.Point{f.Poly[:cap(f.Poly)], f.Rally[:cap(f.Rally)]} {
		for i := range list {
			list[i] = api.Point{X: 7, Y: 7}
		}
	}
	for i := range items[:cap(items)] {
		items[:cap(items)][i] = api.MissionItem{}
	}
	r.compareKept()
	if !sameFence(again, r.c.fence) {
		t.Error(again)
	}
	r.run(8)
	r.command(arm, takeoff)
	r.run(100)
	r.compareKept()
	r.is(api.Takeoff)
	// Lists of one answer share nothing.
	g, _ := r.p.Fence()
	for i := range g.Poly[:cap(g.Poly)] {
		g.Poly[:cap(g.Poly)][i] = api.Point{X: 8, Y: 8}
	}
	if !slices.Equal(g.Rally, r.c.fence.Rally) {
		t.Error(g.Rally)
	}
}

// P24.9: View tells of the last tick: the mode, the latches, the index, the axes, what is left; Backup only while it was asked.
func TestView(t *testing.T) {
	r := inMode(t, api.Sink, setup{})
	v := r.p.View()
	if v.Mode != api.Sink || !v.Armed || v.Latches&(1<<api.Dry) == 0 || !v.Backup || v.Left != (api.Span{Lo: -100, Hi: 100}) {
		t.Error(v)
	}
	if v.Axes[2].V != (api.Span{Lo: -8004, Hi: -7996}) {
		t.Error(v.Axes)
	}
	r.w.V = [3]int{}
	r.until(api.Down, 500)
	if v := r.p.View(); v.Backup || v.Armed || v.Latches&(1<<api.Dry) == 0 {
		t.Error(v)
	}
	if r.p.View() != r.p.View() {
		t.Error("telling changes")
	}
}

// P24.9: two pilots side by side know nothing of one another.
func TestTwoPilots(t *testing.T) {
	a := inMode(t, api.Standby, setup{items: hop})
	b := inMode(t, api.Standby, setup{})
	a.command(arm, takeoff)
	for range 300 {
		a.step()
		b.step()
	}
	a.is(api.Takeoff)
	b.is(api.Standby)
	b.tells(msg(t, api.ParamSet, api.Wind, 2), m(api.ParamValue, api.Wind, 2))
	if a.p.Params()[api.Wind] != 6 || len(b.p.Mission()) != 0 || len(a.p.Mission()) != 2 {
		t.Error(a.p.Params(), a.p.Mission(), b.p.Mission())
	}
	a.told = 4
	a.run(4)
	b.run(4)
	b.command(arm, takeoff)
	for i, x := range b.out.Motors {
		if x == 0 {
			t.Error(i, b.out.Motors)
		}
	}
}
