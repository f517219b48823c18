package pilot_test

import (
	"math/rand"
	"slices"
	"strings"
	"testing"

	"windhover/api"
	"windhover/mission"
	"windhover/nor"
	"windhover/params"
	"windhover/pilot"
)

var hop = []api.MissionItem{{Kind: api.TakeoffItem, A: 1500}, {Kind: api.LandItem}}

// P24.1: a nil flash, and one without power, have the store's errors, and no pilot.
func TestBootErrors(t *testing.T) {
	if p, e := pilot.New(nil); p != nil || e != api.ErrNil {
		t.Error(p, e)
	}
	f := nor.New()
	f.Cut(0, "")
	f.Erase(0)
	if p, e := pilot.New(f); p != nil || e != api.ErrPower {
		t.Error(p, e)
	}
	f.On()
	if p, e := pilot.New(f); p == nil || e != api.OK {
		t.Error(p, e)
	}
	for steps := range 3 {
		f := flashOf(t, strings.Repeat("\x00", 8192))
		f.Cut(steps, "\x5a")
		if p, e := pilot.New(f); p != nil || e != api.ErrPower {
			t.Error(steps, p, e)
		}
	}
}

// P24.1: an empty flash: the defaults, that are not kept, no mission, no fence; all is at noughts.
func TestBootEmpty(t *testing.T) {
	p, e := pilot.New(nor.New())
	if e != api.OK {
		t.Fatal(e)
	}
	if !slices.Equal(p.Params(), params.Defaults()) || len(p.Mission()) != 0 {
		t.Error(p.Params(), p.Mission())
	}
	if f, has := p.Fence(); has || !sameFence(f, api.Fence{}) {
		t.Error(f, has)
	}
	if v := p.View(); v != (api.View{}) {
		t.Error(v)
	}
}

// P24.1: each object that is there, is not there, or is there and is not read.
func TestBootObjects(t *testing.T) {
	area := square(30000, 20000, api.Point{X: 5, Y: 6})
	whole := map[int]string{0: paramsText(t, map[int]int{api.Wind: 7, api.Radius: 900}), 1: missionText(t, hop...), 2: fenceText(t, area)}
	values, _ := params.Decode(whole[0])
	broken := map[int][]string{
		0: {"", whole[0][:95], whole[0] + "\x00", "\x00\x00\x00\x11" + whole[0][4:], "\x00\x00\x00\x10" + whole[0][4:20] + "\x00\x00\x00\x10" + whole[0][24:]},
		1: {"", whole[1] + "\x00", whole[1][:len(whole[1])-1], "\x01\x08" + strings.Repeat("\x00", 12)},
		2: {"", whole[2][:len(whole[2])-1], whole[2] + "\x00", "\x03" + whole[2][1:]},
	}
	for state := range 27 {
		for try := range 5 {
			objects := map[int]string{}
			there := [3]bool{}
			for id := range 3 {
				switch [3]int{state % 3, state / 3 % 3, state / 9}[id] {
				case 1:
					objects[id], there[id] = whole[id], true
				case 2:
					objects[id] = broken[id][try%len(broken[id])]
				}
			}
			image := imageOf(t, objects)
			p, e := pilot.New(flashOf(t, image))
			if e != api.OK {
				t.Fatal(e)
			}
			wantValues, wantItems, wantFence := params.Defaults(), []api.MissionItem(nil), api.Fence{}
			if there[0] {
				wantValues = values
			}
			if there[1] {
				wantItems = hop
			}
			if there[2] {
				wantFence = area
			}
			f, has := p.Fence()
			if !slices.Equal(p.Params(), wantValues) || !slices.Equal(p.Mission(), wantItems) || has != there[2] || !sameFence(f, wantFence) {
				t.Fatal(objects, p.Params(), p.Mission(), f, has)
			}
			// Whether it may ever be armed hangs on parameters that are kept, and on a fence.
			r := newRig(t, image)
			r.run(9)
			if want := there[0] && there[2]; (r.view.Mode == api.Standby) != want {
				t.Fatal(objects, r.view.Mode)
			}
		}
	}
}

// P24.1: defaults that the store has are kept ones, defaults that it does not have are not; what is kept then can be seen behind the next boot.
func TestBootKept(t *testing.T) {
	fence2 := fenceText(t, square(30000, 20000))
	image := imageOf(t, map[int]string{2: fence2})
	f := flashOf(t, image)
	r := rigOn(t, f, flashOf(t, image))
	r.run(20)
	r.is(api.Locked)
	// One is set to what it was: it is kept from then on, with all others.
	r.tells(msg(t, api.ParamSet, api.Wind, 6), m(api.ParamValue, api.Wind, 6))
	r.until(api.Standby, 8)
	again := newRig(t, f.Image())
	again.step()
	again.is(api.Standby)
	if !slices.Equal(again.p.Params(), params.Defaults()) {
		t.Error(again.p.Params())
	}
	stored := newRig(t, imageOf(t, map[int]string{0: paramsText(t, nil), 2: fence2}))
	stored.step()
	stored.is(api.Standby)
}

// P24.1: neither remote control nor link has been heard for 65535 ticks: whoever is silent from the beginning is silent at once, and sticks that never moved do nothing.
func TestBootSilent(t *testing.T) {
	// The link alone is heard, and the longest that may be waited for is less than 65535.
	r := setup{par: map[int]int{api.RcWait: 40000, api.LinkWait: 40}}.rig(t)
	r.run(1)
	r.command(arm, takeoff)
	last := r.tick - 1
	r.until(api.Climb, 100)
	// 41 ticks behind the last word it is silent in the first thinking, and four thinkings later it counts.
	if got := r.tick - 1 - last; got != 44+16 {
		t.Error(got)
	}
}

// P24.1: any bytes at all are booted, and a second boot finds what the first one did.
func TestBootAnyBytes(t *testing.T) {
	rng := rand.New(rand.NewSource(1))
	good := setup{items: hop}.image(t)
	for try := range 300 {
		image := []byte(good)
		switch try % 3 {
		case 0:
			rng.Read(image)
		case 1:
			for range 1 + rng.Intn(20) {
				image[rng.Intn(600)] = byte(rng.Intn(256))
			}
		case 2:
			image[0], image[4096] = "\x0f\x33\x55\xff\x00"[rng.Intn(5)], "\x0f\x33\x55\xff\x00"[rng.Intn(5)]
			image[1+rng.Intn(700)] ^= 1 << rng.Intn(8)
		}
		f := flashOf(t, string(image))
		r := rigOn(t, f, flashOf(t, string(image)))
		r.run(9)
		steps := f.Steps()
		again, e := pilot.New(f)
		if e != api.OK || f.Steps() != steps {
			t.Fatal(e, f.Steps(), steps)
		}
		a, had := again.Fence()
		b, has := r.p.Fence()
		if !slices.Equal(again.Params(), r.p.Params()) || !slices.Equal(again.Mission(), r.p.Mission()) || had != has || !sameFence(a, b) {
			t.Fatal("another boot found something else")
		}
	}
}

// P24.1: a mission without an item, and the greatest one.
func TestBootMissions(t *testing.T) {
	var long []api.MissionItem
	for i := range 64 {
		long = append(long, api.MissionItem{Kind: api.WaypointItem, A: i, B: -i, C: i})
	}
	for _, items := range [][]api.MissionItem{nil, hop, long} {
		r := setup{items: items}.rig(t)
		if got := r.p.Mission(); !slices.Equal(got, items) || mission.Check(got) != api.OK {
			t.Error(got)
		}
		r.run(1)
		r.command(arm)
		// An empty mission is none to fly.
		r.align(0)
		r.order(auto, map[bool]int{true: 1, false: 0}[items == nil])
	}
}

// P24.1: what is made of parameters is made of those that are kept: Stale, Cruise and the battery's.
func TestBootUses(t *testing.T) {
	r := setup{par: map[int]int{api.Stale: 1, api.ChargeErr: 7, api.GnssPlace: 3, api.BaroHeight: 5, api.GnssSpeed: 1, api.BaroClimb: 2}}.rig(t)
	r.step()
	v := r.view
	if v.Left != (api.Span{Lo: plenty - 7, Hi: plenty + 7}) {
		t.Error(v.Left)
	}
	if want := (api.Axis{P: api.Span{Lo: 3200 - 6400*3 - 3200, Hi: 3200 + 6400*3 + 3200}, V: api.Span{Lo: -1, Hi: 1}}); v.Axes[0] != want || v.Axes[1] != want {
		t.Error(v.Axes)
	}
	if want := (api.Axis{P: api.Span{Lo: 3200 - 6400*5 - 3200, Hi: 3200 + 6400*5 + 3200}, V: api.Span{Lo: -2, Hi: 2}}); v.Axes[2] != want {
		t.Error(v.Axes)
	}
	// Units that fall silent are believed for one tick, and their measures missed for one more; then it is not fit.
	r.alter = func(in *api.Inputs) { in.Baro = [3]string{} }
	r.run(3)
	r.is(api.Standby)
	r.run(2)
	r.is(api.Locked)
}
