package pilot_test

import (
	"math/rand"
	"slices"
	"strings"
	"testing"

	"windhover/api"
	"windhover/nor"
	"windhover/params"
	"windhover/pilot"
)

// P24.4: what msgs.Decode refuses is counted, answered by nothing, and not heard.
func TestRefused(t *testing.T) {
	r := airborne(t, setup{par: map[int]int{api.LinkWait: 40, api.RcWait: 40}})
	bad := 0
	for _, f := range []string{
		msgFrame(t, 0, ""), msgFrame(t, 12, "\x01"), msgFrame(t, 255, ""),
		msgFrame(t, 3, ""), msgFrame(t, 3, strings.Repeat("\x01", 12)), msgFrame(t, 3, strings.Repeat("\x01", 14)),
		msgFrame(t, 11, ""), msgFrame(t, 7, "\x01\x01"),
	} {
		bad++
		r.tells(f)
		if r.view.Bad != bad {
			t.Fatal(r.view.Bad, bad)
		}
	}
	for range 80 {
		r.link = msgFrame(t, 99, "")
		r.step()
	}
	if r.view.Latches>>api.Silent&1 == 0 {
		t.Error("heard")
	}
}

// P24.4: any message that is none of the others is heard, and answered by nothing.
func TestHeardAlone(t *testing.T) {
	for _, data := range []string{
		msg(t, api.Heartbeat, 1, 0, 0, 0, 0), msg(t, api.Status, 1, 2, 3, 4, 5, 6, 7), msg(t, api.Ack, 1, 1),
		msg(t, api.ParamValue, 0, 1), msg(t, api.Request, 1, 0), msg(t, api.Done, 1, 0),
		msg(t, api.Cancel, 1), msg(t, api.Cancel, 9), msg(t, api.Item, 1, 0, 0, 0, 0, 0, 0), msg(t, api.Count, 0, 4), msg(t, api.Count, 3, 4),
		msg(t, api.ParamSet, 24, 5),
	} {
		r := airborne(t, setup{par: map[int]int{api.LinkWait: 40, api.RcWait: 40}})
		for range 8 {
			r.run(36)
			r.tells(data)
		}
		r.is(api.Hold)
		if r.view.Bad != 0 {
			t.Error(r.view.Bad)
		}
		r.until(api.Climb, 100)
	}
}

// P24.4: the link is silent in the thinking that is more than LinkWait ticks behind the last message.
func TestLinkAge(t *testing.T) {
	for wait := 40; wait < 48; wait++ {
		for phase := range 4 {
			r := airborne(t, setup{par: map[int]int{api.LinkWait: wait, api.RcWait: 40}})
			r.align(phase)
			r.link = msg(t, api.Cancel, 77)
			r.step()
			heard := r.tick - 1
			first := heard + wait + 1
			first += (4 - first%4) % 4
			r.until(api.Climb, 200)
			if got := r.tick - 1; got != first+16 {
				t.Error(wait, phase, got, first)
			}
		}
	}
}

// inMode is a still rig in a mode, in which it stays as long as nothing is wished; of Down it is the tick in which it came.
func inMode(t *testing.T, mode api.Mode, s setup) *rig {
	t.Helper()
	switch mode {
	case api.Locked, api.Standby, api.Ready, api.Takeoff:
		if s.fence.Poly == nil {
			s.fence = square(200000000, 200000000)
		}
		r := s.rig(t)
		r.still = true
		r.run(1)
		switch mode {
		case api.Locked:
			r.alter = func(in *api.Inputs) { in.Esc = write(t, api.Esc, 0, 0) }
			r.run(8)
		case api.Ready:
			r.command(arm)
		case api.Takeoff:
			r.command(arm, takeoff)
		}
		r.is(mode)
		r.run(8)
		r.is(mode)
		return r
	}
	r := airborne(t, s)
	switch mode {
	case api.Position:
		r.command(position)
	case api.Altitude:
		r.command(altitude)
	case api.Auto:
		r.command(auto)
	case api.Climb:
		r.at(20000, 0, 500)
		r.command(toReturn)
	case api.Return:
		r.at(20000, 0, 5000)
		r.command(toReturn)
	case api.Descend:
		r.w.V[2] = -8000
		r.command(toReturn)
		r.run(8)
	case api.Land:
		r.w.V[2] = -8000
		r.command(land)
	case api.Brake:
		r.w.V = [3]int{700, 0, 0}
		r.w.Charge = 0
		r.until(mode, 8)
	case api.Sink, api.Down:
		r.w.Charge = 0
		r.until(api.Sink, 16)
		if mode == api.Down {
			r.until(mode, 400)
			return r
		}
		r.w.V[2] = -8000
	}
	r.run(8)
	r.is(mode)
	return r
}

// P24.4: each op in each mode: what is granted, and what comes of it.
func TestCommands(t *testing.T) {
	t.Parallel()
	from := map[int][]api.Mode{
		arm:      {api.Standby},
		disarm:   {api.Ready},
		takeoff:  {api.Ready},
		hold:     {api.Takeoff, api.Position, api.Altitude, api.Auto, api.Climb, api.Return, api.Descend, api.Land},
		position: {api.Hold, api.Altitude, api.Auto, api.Climb, api.Return, api.Descend, api.Land},
		altitude: {api.Hold, api.Position, api.Auto, api.Climb, api.Return, api.Descend, api.Land},
		auto:     {api.Ready, api.Hold, api.Position, api.Altitude},
		toReturn: {api.Takeoff, api.Hold, api.Position, api.Altitude, api.Auto, api.Land},
		land:     {api.Takeoff, api.Hold, api.Position, api.Altitude, api.Auto, api.Climb, api.Return, api.Descend},
	}
	to := map[int]api.Mode{arm: api.Ready, disarm: api.Standby, takeoff: api.Takeoff, hold: api.Hold, position: api.Position, altitude: api.Altitude, auto: api.Auto, toReturn: api.Climb, land: api.Land}
	wait := []api.MissionItem{{Kind: api.LoiterItem, A: 1000000}}
	for mode := api.Locked; mode <= api.Down; mode++ {
		for _, op := range []int{0, 1, 2, 3, 4, 5, 6, 7, 8, 9, 10, 11, 128, 255} {
			for _, items := range [][]api.MissionItem{nil, wait} {
				if mode == api.Auto && items == nil {
					continue
				}
				r := inMode(t, mode, setup{items: items})
				if mode == api.Down {
					r.order(op, map[bool]int{true: 1, false: 2}[to[op] != 0])
					continue
				}
				result := 1
				if to[op] == 0 {
					result = 2
				} else if slices.Contains(from[op], mode) && (op != auto || items != nil) {
					result = 0
				}
				r.align(1)
				r.order(op, result)
				r.is(mode)
				r.run(3)
				want := mode
				if result == 0 {
					want = to[op]
				}
				r.is(want)
			}
		}
	}
}

// P24.4: the other fields of a Command do not count.
func TestCommandFields(t *testing.T) {
	r := inMode(t, api.Standby, setup{})
	r.align(0)
	r.tells(msg(t, api.Command, arm, -1, 2147483647, -2147483648), m(api.Ack, arm, 0))
	r.is(api.Ready)
}

// P24.4: WantArm is granted as think last found the vehicle fit; then it must be so still.
func TestArmFit(t *testing.T) {
	r := inMode(t, api.Standby, setup{})
	tilted := func(in *api.Inputs) {
		for i := range 3 {
			in.Imu[i] = write(t, api.Imu, 0, 0, 4001, 0)
		}
	}
	r.align(1)
	r.alter = tilted
	r.order(arm, 0)
	r.run(3)
	r.is(api.Locked)
	// It is fit again, but think does not know yet; and what was granted ahead is forgotten.
	r.alter = nil
	r.order(arm, 1)
	r.run(3)
	r.is(api.Standby)
	r.run(20)
	r.is(api.Standby)
	// Not fit, and still in Standby.
	r.align(0)
	r.alter = tilted
	r.order(arm, 0)
	r.is(api.Locked)
}

// P24.4: several messages in a tick are answered one by one; the mode is one for all of them.
func TestSeveralCommands(t *testing.T) {
	r := inMode(t, api.Standby, setup{})
	r.align(0)
	r.tells(commandText(t, arm)+commandText(t, takeoff)+commandText(t, disarm)+commandText(t, arm)+commandText(t, 0),
		m(api.Ack, arm, 0), m(api.Ack, takeoff, 1), m(api.Ack, disarm, 1), m(api.Ack, arm, 0), m(api.Ack, 0, 2))
	r.is(api.Ready)
	// Of two wishes the one of the lesser event goes ahead, and the other one is dropped.
	r.align(1)
	r.tells(commandText(t, takeoff)+commandText(t, disarm), m(api.Ack, takeoff, 0), m(api.Ack, disarm, 0))
	r.run(11)
	r.is(api.Standby)
}

// P24.4: ParamSet of each parameter, at its ends and beyond.
func TestParamSet(t *testing.T) {
	r := inMode(t, api.Standby, setup{})
	values := params.Defaults()
	set := func(i, x int) {
		t.Helper()
		if next, e := params.Set(values, i, x); e == api.OK {
			values = next
		}
		r.tells(msg(t, api.ParamSet, i, x), m(api.ParamValue, i, values[i]))
		if !slices.Equal(r.p.Params(), values) {
			t.Fatal(i, x, r.p.Params(), values)
		}
	}
	for i := range api.Params {
		span, _ := params.Range(i)
		for _, x := range []int{span.Lo - 1, span.Lo, span.Hi, span.Hi + 1, 2147483647, -2147483648, params.Defaults()[i]} {
			set(i, min(x, 2147483647))
		}
	}
	for _, i := range []int{24, 25, 128, 255} {
		r.tells(msg(t, api.ParamSet, i, 8))
		if !slices.Equal(r.p.Params(), values) {
			t.Fatal(i)
		}
	}
	// A rule that does not hold.
	r.tells(msg(t, api.ParamSet, api.Radius, 200), m(api.ParamValue, api.Radius, 1000))
	r.tells(msg(t, api.ParamSet, api.TakeoffAlt, 6000), m(api.ParamValue, api.TakeoffAlt, 2000))
}

// P24.4: while the mode is armed no parameter is changed, but each is told.
func TestParamSetArmed(t *testing.T) {
	wait := []api.MissionItem{{Kind: api.LoiterItem, A: 1000000}}
	for mode := api.Locked; mode <= api.Down; mode++ {
		r := inMode(t, mode, setup{items: wait})
		want := 6
		if mode < api.Ready || mode > api.Sink {
			want = 9
		}
		r.tells(msg(t, api.ParamSet, api.Wind, 9), m(api.ParamValue, api.Wind, want))
		if got := r.p.Params()[api.Wind]; got != want {
			t.Error(mode, got)
		}
	}
}

// P24.4: what the store refuses is not in force; then it is told as it was.
func TestParamSetStore(t *testing.T) {
	// No room: two objects that nothing is read from.
	image := imageOf(t, map[int]string{1: strings.Repeat("x", 2000), 2: strings.Repeat("y", 1995)})
	r := newRig(t, image)
	r.tells(msg(t, api.ParamSet, api.Wind, 9), m(api.ParamValue, api.Wind, 6))
	// Just room.
	image = imageOf(t, map[int]string{1: strings.Repeat("x", 2000), 2: strings.Repeat("y", 1987)})
	r = newRig(t, image)
	r.tells(msg(t, api.ParamSet, api.Wind, 9), m(api.ParamValue, api.Wind, 9))
	// No power: not in force, now and later.
	good := setup{}.image(t)
	one, two := flashOf(t, good), flashOf(t, good)
	r = rigOn(t, one, two)
	r.run(4)
	one.Cut(99, "")
	two.Cut(99, "")
	r.tells(msg(t, api.ParamSet, api.Wind, 9), m(api.ParamValue, api.Wind, 6))
	one.On()
	two.On()
	r.tells(msg(t, api.ParamSet, api.Wind, 9), m(api.ParamValue, api.Wind, 6))
	r.run(8)
	r.is(api.Standby)
	// The next boot sees the old one, as the commit byte was cut with the junk of all zeros; then it can be set.
	again := newRig(t, one.Image())
	again.tells(msg(t, api.ParamSet, api.Wind, 10), m(api.ParamValue, api.Wind, 10))
}

// P24.4: what is set is kept: the next boot has it.
func TestParamSetKept(t *testing.T) {
	f := nor.New()
	p, _ := pilot.New(f)
	p.Step(api.Inputs{Link: msg(t, api.ParamSet, api.Rise, 5000) + msg(t, api.ParamSet, api.Fall, 4000)})
	q, e := pilot.New(f)
	if e != api.OK || q.Params()[api.Rise] != 5000 || q.Params()[api.Fall] != 4000 {
		t.Error(e, q.Params())
	}
}

// P24.4: all that was made of parameters is made anew: filters, compass, voters and the battery know nothing then, and the run is at its beginning.
func TestParamSetAnew(t *testing.T) {
	r := inMode(t, api.Ready, setup{items: []api.MissionItem{{Kind: api.SpeedItem, A: 2000}, {Kind: api.LandItem}}})
	r.command(auto)
	r.until(api.Land, 20)
	r.until(api.Down, 1000)
	r.until(api.Standby, 8)
	if r.view.Index != 1 {
		t.Fatal(r.view.Index)
	}
	// Refused: all stays.
	r.alter = func(in *api.Inputs) { *in = api.Inputs{Link: in.Link} }
	r.tells(msg(t, api.ParamSet, api.Wind, 99), m(api.ParamValue, api.Wind, 6))
	if r.view.Index != 1 || r.view.Left == (api.Span{}) || r.view.Axes[0] == (api.Axis{}) {
		t.Fatal(r.view)
	}
	r.tells(msg(t, api.ParamSet, api.Wind, 6), m(api.ParamValue, api.Wind, 6))
	if r.view.Index != 0 || r.view.Left != (api.Span{}) || r.view.Axes != [3]api.Axis{} {
		t.Error(r.view)
	}
	r.align(0)
	r.step()
	r.is(api.Locked)
	// Each sort of unit must be heard anew ahead of being fit.
	for sort := range 4 {
		r := inMode(t, api.Standby, setup{})
		r.align(2)
		r.alter = func(in *api.Inputs) {
			switch sort {
			case 0:
				in.Imu = [3]string{}
			case 1:
				in.Baro = [3]string{}
			case 2:
				in.Gnss = [3]string{}
			case 3:
				in.Esc = ""
			}
		}
		r.step()
		r.run(4)
		r.is(api.Standby)
		r.align(2)
		r.tells(msg(t, api.ParamSet, api.Wind, 6), m(api.ParamValue, api.Wind, 6))
		r.run(2)
		r.is(api.Locked)
	}
}

// P24.4: another value is at work in the same tick.
func TestParamSetAtOnce(t *testing.T) {
	r := inMode(t, api.Standby, setup{})
	r.tells(msg(t, api.ParamSet, api.GnssPlace, 50), m(api.ParamValue, api.GnssPlace, 50))
	if got := r.view.Axes[0].P; got.Hi-got.Lo != 6400*101 {
		t.Error(got)
	}
	r.tells(msg(t, api.ParamSet, api.ChargeErr, 5)+msg(t, api.ParamSet, api.BaroClimb, 9), m(api.ParamValue, api.ChargeErr, 5), m(api.ParamValue, api.BaroClimb, 9))
	if r.view.Left != (api.Span{Lo: plenty - 5, Hi: plenty + 5}) || r.view.Axes[2].V != (api.Span{Lo: -9, Hi: 9}) {
		t.Error(r.view)
	}
}

// P24.4: steer and compass are made anew as well, and what follows from parameters is that of the new ones.
func TestParamSetInFlight(t *testing.T) {
	r := inMode(t, api.Standby, setup{})
	r.tells(msg(t, api.ParamSet, api.Accel, 32), m(api.ParamValue, api.Accel, 32))
	r.run(20)
	r.at(0, 0, 0)
	r.order(arm, 0)
	r.command(takeoff)
	if got := askedBy(r.out.Motors); got != [3]int{0, 0, 32} {
		t.Error(got)
	}
	// A compass that has lost its way knows the heading at once.
	r = inMode(t, api.Standby, setup{})
	r.alter = func(in *api.Inputs) { in.Imu = [3]string{} }
	r.run(300)
	r.tells(msg(t, api.ParamSet, api.Wind, 6), m(api.ParamValue, api.Wind, 6))
	r.alter = nil
	r.align(0)
	r.run(1)
	r.is(api.Standby)
	// The guard asks for the room that the new ones need: at a velocity of 3000 that is 36 mm, or 38, if a dead motor is told 2 ticks later.
	for late, trips := range map[int]bool{2: false, 4: true} {
		r := inMode(t, api.Standby, setup{fence: square(30000, 20000)})
		r.tells(msg(t, api.ParamSet, api.DeadTicks, late), m(api.ParamValue, api.DeadTicks, late))
		r.run(20)
		r.command(arm, takeoff, hold, position)
		r.align(1)
		r.w.P = [3]int{0, 0, 6400 * 5000}
		r.step()
		r.w.P[0], r.w.V[0] = 6400*(30000-38), 3000
		r.step()
		r.is(api.Position)
		if r.view.Backup != trips {
			t.Error(late, r.view)
		}
	}
}

// listText is the messages that bring a list.
func listText(t testing.TB, what int, rows [][]int) []string {
	t.Helper()
	list := []string{msg(t, api.Count, what, len(rows))}
	for i, row := range rows {
		list = append(list, msg(t, api.Item, append([]int{what, i}, row...)...))
	}
	return list
}

// bring brings a list, a message a tick, and tells what came of it.
func (r *rig) bring(what int, rows [][]int) int {
	r.t.Helper()
	list := listText(r.t, what, rows)
	for i, data := range list[:len(list)-1] {
		r.tells(data, m(api.Request, what, i))
	}
	got := r.say(list[len(list)-1])
	if len(got) != 1 || got[0].Kind != api.Done || got[0].Fields[0] != what {
		r.t.Fatal(got)
	}
	return got[0].Fields[1]
}

var (
	hopRows    = [][]int{{1, 1500, 0, 0, 0}, {6, 0, 0, 0, 0}}
	fieldRows  = [][]int{{1, -9000, -9000, 0, 0}, {1, 9000, -9000, 0, 0}, {1, 0, 9000, 0, 0}, {2, 10, 20, 0, 0}, {3, -5, 8000, 0, 0}}
	fieldFence = api.Fence{Poly: []api.Point{{X: -9000, Y: -9000}, {X: 9000, Y: -9000}, {X: 0, Y: 9000}}, Floor: -5, Ceiling: 8000, Rally: []api.Point{{X: 10, Y: 20}}}
)

// P24.4: a mission and a fence come item by item; they are in force when Done says so, and kept.
func TestLists(t *testing.T) {
	f := nor.New()
	r := rigOn(t, f, nor.New())
	if got := r.bring(1, hopRows); got != 0 || !slices.Equal(r.p.Mission(), hop) {
		t.Error(got, r.p.Mission())
	}
	if got := r.bring(2, fieldRows); got != 0 {
		t.Error(got)
	}
	if got, has := r.p.Fence(); !has || !sameFence(got, fieldFence) {
		t.Error(got, has)
	}
	q, e := pilot.New(f)
	if e != api.OK {
		t.Fatal(e)
	}
	if got, has := q.Fence(); !has || !sameFence(got, fieldFence) || !slices.Equal(q.Mission(), hop) {
		t.Error(got, has, q.Mission())
	}
	// Another one takes its place.
	if got := r.bring(1, hopRows[1:]); got != 0 || !slices.Equal(r.p.Mission(), hop[1:]) {
		t.Error(got, r.p.Mission())
	}
}

// P24.4: until a list is whole the old one is in force; whole ones of most items, and of one more.
func TestListSizes(t *testing.T) {
	r := inMode(t, api.Standby, setup{items: hop})
	var long [][]int
	for i := range 64 {
		long = append(long, []int{2, i, -i, i, 0})
	}
	list := listText(t, 1, long)
	for i, data := range list[:64] {
		r.tells(data, m(api.Request, 1, i))
		if !slices.Equal(r.p.Mission(), hop) {
			t.Fatal(i, r.p.Mission())
		}
	}
	r.tells(list[64], m(api.Done, 1, 0))
	if len(r.p.Mission()) != 64 {
		t.Error(len(r.p.Mission()))
	}
	r.tells(msg(t, api.Count, 1, 65), m(api.Done, 1, int(api.ErrMany)))
	r.tells(msg(t, api.Count, 1, 0), m(api.Done, 1, int(api.ErrMany)))
	r.tells(msg(t, api.Count, 2, 73), m(api.Request, 2, 0))
	r.tells(msg(t, api.Count, 2, 74), m(api.Done, 2, int(api.ErrMany)))
	r.tells(msg(t, api.Count, 2, 65535), m(api.Done, 2, int(api.ErrMany)))
	r.tells(msg(t, api.Item, 2, 0, 1, 0, 0, 0, 0))
	if len(r.p.Mission()) != 64 {
		t.Error(len(r.p.Mission()))
	}
	// The greatest fence: 64 corners, 8 rally points, the limits.
	if got := r.bring(2, greatRows()); got != 0 {
		t.Error(got)
	}
	if got, _ := r.p.Fence(); len(got.Poly) != 64 || len(got.Rally) != 8 {
		t.Error(got)
	}
}

// greatRows is a fence of as many items as may be: a comb of 64 corners.
func greatRows() [][]int {
	rows := [][]int{{1, 0, 0, 0, 0}, {1, 100000, 0, 0, 0}, {1, 100000, 90000, 0, 0}}
	for i := range 60 {
		rows = append(rows, []int{1, 99000 - 1000*i, 90000 - 10000*(1-i%2), 0, 0})
	}
	rows = append(rows, []int{1, 0, 90000, 0, 0}, []int{3, 0, 50000, 0, 0})
	for i := range 8 {
		rows = append(rows, []int{2, 1000 + i, 1000, 0, 0})
	}
	return rows
}

// P24.4: a list that is refused: Done says why, and the old one is in force.
func TestListsRefused(t *testing.T) {
	r := inMode(t, api.Standby, setup{items: hop, fence: fieldFence})
	for _, row := range []struct {
		what int
		rows [][]int
		want api.Errno
	}{
		{1, [][]int{{8, 0, 0, 0, 0}}, api.ErrItem},
		{1, [][]int{{6, 0, 0, 0, 1}}, api.ErrItem},
		{1, [][]int{{4, 1, 0, 0, 0}}, api.ErrJump},
		{2, [][]int{{1, 0, 0, 0, 0}}, api.ErrItem},
		{2, [][]int{{3, 0, 9, 0, 0}}, api.ErrFew},
		{2, append([][]int{{1, -9000, -9000, 0, 0}}, fieldRows...), api.ErrTwin},
		{2, append([][]int{{1, 0, -20000, 0, 0}}, fieldRows...), api.ErrTangle},
		{2, append([][]int{{2, 9000, 9000, 0, 0}}, fieldRows...), api.ErrRally},
		{2, append(slices.Clone(fieldRows[:4]), []int{3, 1, 9, 0, 0}), api.ErrFloor},
	} {
		if got := r.bring(row.what, row.rows); got != int(row.want) {
			t.Error(row, got)
		}
		if got, _ := r.p.Fence(); !sameFence(got, fieldFence) || !slices.Equal(r.p.Mission(), hop) {
			t.Error(row, got, r.p.Mission())
		}
	}
}

// P24.4: while the mode is armed a Count is answered by Done alone: no list is begun, and none that is taken is dropped.
func TestCountArmed(t *testing.T) {
	wait := []api.MissionItem{{Kind: api.LoiterItem, A: 1000000}}
	for mode := api.Locked; mode <= api.Down; mode++ {
		for what := range 4 {
			r := inMode(t, mode, setup{items: wait})
			armed := mode >= api.Ready && mode <= api.Sink
			count, item := msg(t, api.Count, what, 2), msg(t, api.Item, what, 0, 6, 0, 0, 0, 0)
			switch {
			case what == 0 || what == 3:
				r.tells(count)
				r.tells(item)
			case armed:
				r.tells(count, m(api.Done, what, 1))
				r.tells(msg(t, api.Count, what, 999), m(api.Done, what, 1))
				r.tells(item)
			default:
				r.tells(count, m(api.Request, what, 0))
				r.tells(item, m(api.Request, what, 1))
			}
		}
	}
}

// P24.4: a list that is begun ahead of arming goes on; when it comes ready while armed it is refused, by what is wrong with it first.
func TestReadyArmed(t *testing.T) {
	for _, row := range []struct {
		what int
		rows [][]int
		want api.Errno
	}{
		{1, hopRows, api.ErrArg},
		{1, [][]int{{1, 1500, 0, 0, 0}, {8, 0, 0, 0, 0}}, api.ErrItem},
		{2, fieldRows, api.ErrArg},
		{2, [][]int{{1, 0, 0, 0, 0}, {3, 0, 9, 0, 0}}, api.ErrFew},
	} {
		r := inMode(t, api.Standby, setup{})
		before, _ := r.p.Fence()
		list := listText(t, row.what, row.rows)
		last := len(list) - 1
		r.tells(list[0], m(api.Request, row.what, 0))
		r.command(arm)
		r.is(api.Ready)
		r.tells(list[0], m(api.Done, row.what, 1))
		for i, data := range list[1:last] {
			r.tells(data, m(api.Request, row.what, i+1))
		}
		r.tells(list[last], m(api.Done, row.what, int(row.want)))
		if got, _ := r.p.Fence(); !sameFence(got, before) || len(r.p.Mission()) != 0 {
			t.Error(got, r.p.Mission())
		}
		// Called off while armed.
		r.command(disarm)
		r.tells(list[0], m(api.Request, row.what, 0))
		r.command(arm)
		r.tells(msg(t, api.Cancel, row.what), m(api.Done, row.what, int(api.ErrGone)))
	}
}

// P24.4: a list that the flash has no room for, and one whose power goes: the old one is in force.
func TestListsStore(t *testing.T) {
	image := imageOf(t, map[int]string{0: strings.Repeat("x", 2000), 1: missionText(t, hop...), 2: strings.Repeat("y", 2000)})
	r := newRig(t, image)
	var long [][]int
	for range 20 {
		long = append(long, []int{6, 0, 0, 0, 0})
	}
	if got := r.bring(1, long); got != int(api.ErrFull) || !slices.Equal(r.p.Mission(), hop) {
		t.Error(got, r.p.Mission())
	}
	// A short one has room.
	if got := r.bring(1, hopRows[1:]); got != 0 || !slices.Equal(r.p.Mission(), hop[1:]) {
		t.Error(got, r.p.Mission())
	}
	r = newRig(t, imageOf(t, map[int]string{0: strings.Repeat("x", 2000), 1: strings.Repeat("y", 2000)}))
	if got := r.bring(2, greatRows()); got != int(api.ErrFull) {
		t.Error(got)
	}
	if _, has := r.p.Fence(); has {
		t.Error("a fence")
	}
	for what, rows := range map[int][][]int{1: hopRows, 2: fieldRows} {
		one, two := nor.New(), nor.New()
		r := rigOn(t, one, two)
		one.Cut(3, "")
		two.Cut(3, "")
		if got := r.bring(what, rows); got != int(api.ErrPower) {
			t.Error(got)
		}
		if _, has := r.p.Fence(); has || len(r.p.Mission()) != 0 {
			t.Error("in force")
		}
		// The store stands; lists are taken, and refused, still.
		one.On()
		two.On()
		if got := r.bring(what, rows); got != int(api.ErrPower) {
			t.Error(got)
		}
	}
}

// P24.4: a mission that comes in force is begun anew.
func TestMissionAnew(t *testing.T) {
	r := inMode(t, api.Ready, setup{items: []api.MissionItem{{Kind: api.SpeedItem, A: 2000}, {Kind: api.LandItem}}})
	r.command(auto)
	r.until(api.Down, 1000)
	r.until(api.Standby, 8)
	if r.view.Index != 1 {
		t.Fatal(r.view.Index)
	}
	// A fence is no mission.
	r.bring(2, fieldRows)
	if r.view.Index != 1 {
		t.Error(r.view.Index)
	}
	r.bring(1, [][]int{{8, 0, 0, 0, 0}})
	if r.view.Index != 1 {
		t.Error(r.view.Index)
	}
	r.bring(1, hopRows)
	if r.view.Index != 0 {
		t.Error(r.view.Index)
	}
}

// P24.4: both desks take their lists at once, each its own; both are ready in one tick.
func TestBothDesks(t *testing.T) {
	r := inMode(t, api.Standby, setup{})
	one, two := listText(t, 1, hopRows), listText(t, 2, fieldRows)
	r.tells(one[0]+two[0], m(api.Request, 1, 0), m(api.Request, 2, 0))
	r.tells(two[1]+one[1]+two[2]+two[3]+two[4], m(api.Request, 2, 1), m(api.Request, 1, 1), m(api.Request, 2, 2), m(api.Request, 2, 3), m(api.Request, 2, 4))
	r.tells(two[5]+one[2], m(api.Done, 2, 0), m(api.Done, 1, 0))
	if got, _ := r.p.Fence(); !sameFence(got, fieldFence) || !slices.Equal(r.p.Mission(), hop) {
		t.Error(got, r.p.Mission())
	}
	// A list comes in force behind its message, ahead of the next one: the Command sees it.
	r = inMode(t, api.Ready, setup{})
	r.command(disarm)
	whole := strings.Join(listText(t, 1, hopRows), "")
	r.tells(whole+commandText(t, auto)+whole[:len(whole)/2],
		m(api.Request, 1, 0), m(api.Request, 1, 1), m(api.Done, 1, 0), m(api.Ack, auto, 1), m(api.Request, 1, 0))
}

// P24.4: the desks' ticks stand behind all messages, 1 ahead of 2, in each tick.
func TestDeskTicks(t *testing.T) {
	r := inMode(t, api.Standby, setup{})
	r.tells(msg(t, api.Count, 2, 3)+msg(t, api.Count, 1, 3), m(api.Request, 2, 0), m(api.Request, 1, 0))
	for again := range 6 {
		for range 199 {
			r.tells("")
		}
		if again == 5 {
			r.tells(commandText(t, 0), m(api.Ack, 0, 2), m(api.Done, 1, int(api.ErrLate)), m(api.Done, 2, int(api.ErrLate)))
			break
		}
		r.tells(commandText(t, 0), m(api.Ack, 0, 2), m(api.Request, 1, 0), m(api.Request, 2, 0))
	}
	for range 1000 {
		r.tells("")
	}
	// An item that comes in the last tick is in time.
	r.tells(msg(t, api.Count, 1, 2), m(api.Request, 1, 0))
	for range 199 {
		r.tells("")
	}
	r.tells(msg(t, api.Item, 1, 0, 6, 0, 0, 0, 0), m(api.Request, 1, 1))
	for range 199 {
		r.tells("")
	}
	r.tells("", m(api.Request, 1, 1))
	// Armed or not: what is taken is asked for.
	r.command(arm)
	for range 210 {
		if got := r.say(""); len(got) > 0 {
			if !sameMessage(got[0], m(api.Request, 1, 1)) {
				t.Error(got)
			}
			return
		}
	}
	t.Error("not asked for")
}

// P24.4: frames may be cut anywhere between ticks; the answers are the same ones.
func TestCutFrames(t *testing.T) {
	rng := rand.New(rand.NewSource(4))
	var whole strings.Builder
	for _, data := range slices.Concat(listText(t, 1, hopRows), listText(t, 2, fieldRows), []string{commandText(t, 0), msg(t, api.ParamSet, 2, 3), "\x00noise", commandText(t, 9), msgFrame(t, 77, "")}) {
		whole.WriteString(data)
	}
	text := whole.String()
	want := inMode(t, api.Standby, setup{}).say(text)
	if len(want) != 12 {
		t.Fatal(want)
	}
	for try := range 40 {
		r := inMode(t, api.Standby, setup{})
		var got []api.Message
		for rest := text; rest != ""; {
			n := 1
			if try > 0 {
				n = min(len(rest), 1+rng.Intn(3*try))
			}
			got = append(got, r.say(rest[:n])...)
			rest = rest[n:]
		}
		if !slices.EqualFunc(got, want, sameMessage) || r.view.Bad != 1 {
			t.Fatal(try, got, want, r.view.Bad)
		}
	}
}
