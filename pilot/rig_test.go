package pilot_test

import (
	"slices"
	"testing"

	"windhover/api"
	"windhover/fence"
	"windhover/frame"
	"windhover/mission"
	"windhover/msgs"
	"windhover/nor"
	"windhover/params"
	"windhover/pilot"
	"windhover/sense"
	"windhover/store"
	"windhover/world"
)

// A rig is a pilot, the clerk beside it, and a world that the pilot flies in, or that stands where the test sets it (still).
type rig struct {
	t testing.TB
	p *pilot.Pilot
	c *clerk
	w api.World

	still bool
	dead  int // in the world
	told  int // by the port
	wind  [3]int
	drain int // a tick
	link  string
	rc    string
	alter func(in *api.Inputs)

	tick   int // that comes next
	out    api.Outputs
	view   api.View // behind the last tick
	reader *frame.Reader
	frames []api.Frame // of the last tick
	heard  []api.Message
}

const plenty = 1000000000

// imageOf is a flash that keeps these objects.
func imageOf(t testing.TB, objects map[int]string) string {
	t.Helper()
	f := nor.New()
	s, e := store.Boot(f)
	if e != api.OK {
		t.Fatal(e)
	}
	for id := range 3 {
		if value, there := objects[id]; there {
			if e := s.Put(id, value); e != api.OK {
				t.Fatal(id, e)
			}
		}
	}
	return f.Image()
}

func paramsText(t testing.TB, changes map[int]int) string {
	t.Helper()
	values := params.Defaults()
	for i, x := range changes {
		values[i] = x
	}
	data, e := params.Encode(values)
	if e != api.OK {
		t.Fatal(e)
	}
	return data
}

func missionText(t testing.TB, items ...api.MissionItem) string {
	t.Helper()
	data, e := mission.Encode(items)
	if e != api.OK {
		t.Fatal(e)
	}
	return data
}

func fenceText(t testing.TB, f api.Fence) string {
	t.Helper()
	data, e := fence.Encode(f)
	if e != api.OK {
		t.Fatal(e)
	}
	return data
}

// square is a fence with these half sides and this ceiling, in mm.
func square(half, ceiling int, rally ...api.Point) api.Fence {
	return api.Fence{
		Poly:    []api.Point{{X: -half, Y: -half}, {X: half, Y: -half}, {X: half, Y: half}, {X: -half, Y: half}},
		Ceiling: ceiling,
		Rally:   rally,
	}
}

// A setup says what a flash keeps: parameters that differ from the defaults, a mission, a fence.
type setup struct {
	par   map[int]int
	items []api.MissionItem
	fence api.Fence
}

func (s setup) image(t testing.TB) string {
	t.Helper()
	if s.fence.Poly == nil {
		s.fence = square(400000, 200000)
	}
	return imageOf(t, map[int]string{0: paramsText(t, s.par), 1: missionText(t, s.items...), 2: fenceText(t, s.fence)})
}

func (s setup) rig(t testing.TB) *rig {
	t.Helper()
	return newRig(t, s.image(t))
}

func newRig(t testing.TB, image string) *rig {
	t.Helper()
	return rigOn(t, flashOf(t, image), flashOf(t, image))
}

// rigOn is a rig whose pilot and whose clerk have these flashes.
func rigOn(t testing.TB, flash, other *nor.Flash) *rig {
	t.Helper()
	p, e := pilot.New(flash)
	c, e2 := newClerk(other)
	if e != api.OK || e2 != api.OK || p == nil {
		t.Fatal(e, e2)
	}
	r := &rig{t: t, p: p, c: c, w: api.World{Charge: plenty}, reader: frame.New()}
	r.compareKept()
	return r
}

func flashOf(t testing.TB, image string) *nor.Flash {
	t.Helper()
	f, e := nor.Of(image)
	if e != api.OK {
		t.Fatal(e)
	}
	return f
}

func write(t testing.TB, s api.Sensor, fields ...int) string {
	t.Helper()
	data, e := sense.Write(s, fields...)
	if e != api.OK {
		t.Fatal(s, fields, e)
	}
	return data
}

// msg is the bytes of a message.
func msg(t testing.TB, kind api.Kind, fields ...int) string {
	t.Helper()
	f, e := msgs.Encode(0, api.Message{Kind: kind, Fields: fields})
	if e != api.OK {
		t.Fatal(kind, fields, e)
	}
	data, e := frame.Encode(f)
	if e != api.OK {
		t.Fatal(e)
	}
	return data
}

func commandText(t testing.TB, op int) string {
	t.Helper()
	return msg(t, api.Command, op, 0, 0, 0)
}

// sees is what all ports but link and remote control tell of the world, without errors.
func (r *rig) sees() api.Inputs {
	var in api.Inputs
	for i := range 3 {
		in.Imu[i], _ = sense.Write(api.Imu, world.Sees(r.w, api.Imu)...)
		in.Baro[i], _ = sense.Write(api.Baro, world.Sees(r.w, api.Baro)...)
		in.Gnss[i], _ = sense.Write(api.Gnss, world.Sees(r.w, api.Gnss)...)
	}
	in.Esc, _ = sense.Write(api.Esc, r.told, r.w.Charge)
	return in
}

// step does a tick of all three; what link and remote control say is said once.
func (r *rig) step() {
	r.t.Helper()
	in := r.sees()
	in.Link, in.Rc = r.link, r.rc
	r.link, r.rc = "", ""
	if r.alter != nil {
		r.alter(&in)
	}
	r.feed(in)
	if !r.still {
		r.w, _ = world.Step(r.w, r.out.Motors, r.dead, r.wind, r.drain)
	}
}

// feed does a tick of pilot and clerk, and holds the one against the other.
func (r *rig) feed(in api.Inputs) {
	r.t.Helper()
	out, e := r.p.Step(in)
	want := r.c.step(in)
	if e != api.OK || out != want {
		r.t.Fatalf("tick %d: %v\n%v %x, want\n%v %x", r.tick, e, out.Motors, out.Link, want.Motors, want.Link)
	}
	r.view = r.p.View()
	if want := r.c.view(); r.view != want {
		r.t.Fatalf("tick %d: view\n%+v, want\n%+v", r.tick, r.view, want)
	}
	if in.Link != "" || r.tick%64 == 0 {
		r.compareKept()
	}
	r.out = out
	r.frames = r.reader.Feed(out.Link)
	r.heard = nil
	for _, f := range r.frames {
		m, e := msgs.Decode(f)
		if e != api.OK {
			r.t.Fatal("what was said is no message", f)
		}
		r.heard = append(r.heard, m)
	}
	r.tick++
}

func (r *rig) compareKept() {
	r.t.Helper()
	if got := r.p.Params(); !slices.Equal(got, r.c.par) {
		r.t.Fatalf("tick %d: parameters %v, want %v", r.tick, got, r.c.par)
	}
	if got := r.p.Mission(); !slices.Equal(got, r.c.items) {
		r.t.Fatalf("tick %d: mission %v, want %v", r.tick, got, r.c.items)
	}
	f, has := r.p.Fence()
	if has != r.c.fenced || !sameFence(f, r.c.fence) {
		r.t.Fatalf("tick %d: fence %v %v, want %v %v", r.tick, f, has, r.c.fence, r.c.fenced)
	}
}

func sameFence(a, b api.Fence) bool {
	return a.Floor == b.Floor && a.Ceiling == b.Ceiling && slices.Equal(a.Poly, b.Poly) && slices.Equal(a.Rally, b.Rally)
}

func (r *rig) run(ticks int) {
	r.t.Helper()
	for range ticks {
		r.step()
	}
}

// align goes on until the next tick is so many behind a thinking.
func (r *rig) align(behind int) {
	r.t.Helper()
	for r.tick%4 != behind {
		r.step()
	}
}

// say does a tick in which this comes over the link, and tells what is answered, without what is said by the hour.
func (r *rig) say(data string) []api.Message {
	r.t.Helper()
	r.link = data
	r.step()
	return slices.DeleteFunc(slices.Clone(r.heard), func(m api.Message) bool {
		return m.Kind == api.Heartbeat || m.Kind == api.Status
	})
}

// tells asks for a tick's answers to be these.
func (r *rig) tells(data string, want ...api.Message) {
	r.t.Helper()
	got := r.say(data)
	if !slices.EqualFunc(got, want, sameMessage) {
		r.t.Fatalf("tick %d: answered %v, want %v", r.tick-1, got, want)
	}
}

func sameMessage(a, b api.Message) bool { return a.Kind == b.Kind && slices.Equal(a.Fields, b.Fields) }

func m(kind api.Kind, fields ...int) api.Message { return api.Message{Kind: kind, Fields: fields} }

// order does a tick with a Command, and asks for an Ack with this result.
func (r *rig) order(op, result int) {
	r.t.Helper()
	r.tells(commandText(r.t, op), m(api.Ack, op, result))
}

// is asks for a mode.
func (r *rig) is(mode api.Mode) {
	r.t.Helper()
	if r.view.Mode != mode {
		r.t.Fatalf("tick %d: mode %d, want %d", r.tick-1, r.view.Mode, mode)
	}
}

// until goes on until there is a mode, for so many ticks at most.
func (r *rig) until(mode api.Mode, ticks int) {
	r.t.Helper()
	for range ticks {
		if r.step(); r.view.Mode == mode {
			return
		}
	}
	r.t.Fatalf("tick %d: mode %d, and never %d", r.tick-1, r.view.Mode, mode)
}

// command does ops one by one, each in a tick of a thinking.
func (r *rig) command(ops ...int) {
	r.t.Helper()
	for _, op := range ops {
		r.align(0)
		r.order(op, 0)
	}
}

// What ops stand for.
const (
	arm = iota + 1
	disarm
	takeoff
	hold
	position
	altitude
	auto
	toReturn
	land
)

// at sets a still world at places in mm, from afar, so that no span of before is left. Behind it a thinking comes next.
func (r *rig) at(x, y, z int) {
	r.t.Helper()
	r.align(1)
	r.w.P = [3]int{6400 * (x - 1000*side(x)), 6400 * (y - 1000*side(y)), 6400 * (z - 1000*side(z))}
	r.step()
	r.w.P = [3]int{6400 * x, 6400 * y, 6400 * z}
	r.step()
	r.step()
	for i, mm := range [3]int{x, y, z} {
		if p := r.view.Axes[i].P; (p.Lo+p.Hi)/2 != 6400*mm+3200 {
			r.t.Fatal("not set:", i, mm, p)
		}
	}
}

// side is on which side of 0 a place lies: from afar is from within.
func side(x int) int {
	if x < 0 {
		return -1
	}
	return 1
}

// airborne is a still rig in mode Hold, at a height of 5 m, in a fence that is wide enough for all that a test does.
func airborne(t testing.TB, s setup) *rig {
	t.Helper()
	if s.fence.Poly == nil {
		s.fence = square(200000000, 200000000)
	}
	r := s.rig(t)
	r.still = true
	r.run(1)
	r.command(arm, takeoff, hold)
	r.is(api.Hold)
	r.at(0, 0, 5000)
	r.command(position, hold)
	r.is(api.Hold)
	return r
}

// msgFrame is the bytes of a frame with any ID and payload.
func msgFrame(t testing.TB, id int, payload string) string {
	t.Helper()
	data, e := frame.Encode(api.Frame{ID: id, Payload: payload})
	if e != api.OK {
		t.Fatal(e)
	}
	return data
}
