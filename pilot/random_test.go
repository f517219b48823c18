package pilot_test

import (
	"math/rand"
	"strings"
	"testing"

	"windhover/api"
)

// tour is a mission with items of all kinds.
var tour = []api.MissionItem{
	{Kind: api.TakeoffItem, A: 3000}, {Kind: api.WaypointItem, A: 5000, B: -4000, C: 6000}, {Kind: api.LoiterItem, A: 30},
	{Kind: api.SpeedItem, A: 3000}, {Kind: api.WaypointItem, A: 0, B: 0, C: 3000}, {Kind: api.JumpItem, A: 1, B: 1}, {Kind: api.LandItem},
}

// P24.1 to P24.9: flights in the air, with orders at random.
func TestFlightsAtRandom(t *testing.T) {
	t.Parallel()
	for seed := range 6 {
		rng := rand.New(rand.NewSource(int64(seed)))
		r := setup{items: tour, fence: square(30000, 20000)}.rig(t)
		for range 10000 {
			if rng.Intn(200) == 0 {
				r.link = commandText(t, 1+rng.Intn(10))
			}
			r.step()
		}
	}
}

// A puppeteer sets a still world at random, tick by tick, near to where something changes.
type puppeteer struct {
	*rig
	rng    *rand.Rand
	silent [4]int // ticks that each sort of unit is silent for still
	held   int    // ticks that nothing is changed for still
}

func (p *puppeteer) one(list ...int) int { return list[p.rng.Intn(len(list))] }

// move sets places, velocities and the charge; on the ground it lets the vehicle be fit more often than not.
func (p *puppeteer) move() {
	if !p.view.Armed && p.rng.Intn(3) > 0 {
		p.w = api.World{Charge: plenty}
		return
	}
	switch p.rng.Intn(7) {
	case 6:
		to := [][2]int{{3000, -2000}, {-7000, 0}, {0, 0}}[p.rng.Intn(3)]
		p.w.P = [3]int{6400 * to[0], 6400 * to[1], 6400 * 5000}
		p.w.V = [3]int{}
	case 0:
		for i := range p.w.P {
			p.w.P[i] = 6400 * (p.one(0, 1000, -1000, 2000, 3000, 5000, 6000, 20000, -20000) + p.rng.Intn(5) - 2)
		}
	case 1:
		p.w.P[p.rng.Intn(3)] += 6400 * (p.rng.Intn(2001) - 1000)
	case 2:
		for i := range p.w.V {
			p.w.V[i] = p.one(0, 0, 0, 64, -64, 65, -65, 3000, -3000, -8000, -4000) + p.rng.Intn(3) - 1
		}
	case 3:
		p.w.V = [3]int{}
	case 4:
		p.w.Charge = p.one(plenty, plenty, plenty, plenty, plenty, 300000, 200000, 100000, 50000, 0)
	case 5:
		p.w.H, p.w.R = p.rng.Intn(1<<20), p.rng.Intn(2001)-1000
	}
}

// says is what comes over the link.
func (p *puppeteer) says() string {
	switch p.rng.Intn(12) {
	case 0, 1, 2, 3, 4:
		return commandText(p.t, p.one(arm, takeoff, hold, position, altitude, auto, auto, toReturn, land, disarm))
	case 5:
		return msg(p.t, api.ParamSet, p.rng.Intn(26), p.rng.Intn(9000))
	case 6:
		return strings.Join(listText(p.t, 1, hopRows), "") + commandText(p.t, auto)
	case 7:
		list := listText(p.t, 2, fieldRows)
		return strings.Join(list[:p.rng.Intn(len(list))], "")
	case 8:
		noise := make([]byte, p.rng.Intn(90))
		p.rng.Read(noise)
		return string(noise)
	case 9:
		return msg(p.t, api.Cancel, p.rng.Intn(4))
	}
	return ""
}

func (p *puppeteer) act() {
	if p.held > 0 {
		p.held--
		return
	}
	switch p.rng.Intn(10) {
	case 0, 1:
		p.move()
	case 2, 3, 4:
		p.link = p.says()
	case 5:
		p.rc = write(p.t, api.Rc, p.one(0, 1000, -1000, 500, 32767), p.one(0, 1000, -1000), p.one(0, 1000, -1000), 0, p.rng.Intn(9))
	case 6:
		if p.rng.Intn(5) == 0 {
			p.silent[p.rng.Intn(4)] = p.rng.Intn(30)
		}
	case 7:
		p.held = p.rng.Intn(100)
	case 8:
		if p.rng.Intn(1000) == 0 {
			p.told = p.rng.Intn(12)
		}
	}
}

// quiet lets units be silent.
func (p *puppeteer) quiet(in *api.Inputs) {
	for i, port := range []*[3]string{&in.Imu, &in.Baro, &in.Gnss} {
		if p.silent[i] > 0 {
			*port = [3]string{}
		}
	}
	if p.silent[3] > 0 {
		in.Esc = ""
	}
	for i := range p.silent {
		p.silent[i] = max(0, p.silent[i]-1)
	}
}

// P24.1 to P24.9: a world that changes at random, with all that may come.
func TestPuppetsAtRandom(t *testing.T) {
	t.Parallel()
	seen := map[api.Mode]int{}
	for seed := range 40 {
		rng := rand.New(rand.NewSource(int64(seed)))
		par := map[int]int{api.RcWait: 40 + rng.Intn(100), api.LinkWait: 40 + rng.Intn(400), api.Stale: 1 + rng.Intn(8), api.Accel: 4 + rng.Intn(28), api.Radius: 260 + rng.Intn(900)}
		f := square(25000+rng.Intn(400000), 9000+rng.Intn(200000), api.Point{X: 3000, Y: -2000}, api.Point{X: -7000})
		p := &puppeteer{rig: setup{items: tour, par: par, fence: f}.rig(t), rng: rng}
		p.still = true
		p.alter = p.quiet
		for range 4000 {
			p.act()
			p.step()
			seen[p.view.Mode]++
		}
	}
	if len(seen) != 15 {
		t.Error("not all modes:", seen)
	}
}
