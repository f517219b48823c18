package pilot_test

import (
	"math/rand"
	"slices"
	"strings"
	"testing"

	"windhover/api"
	"windhover/nor"
	"windhover/pilot"
)

// keeps is what a pilot has in force of the three objects.
type keeps struct {
	values []int
	items  []api.MissionItem
	fence  api.Fence
	fenced bool
}

func kept(p *pilot.Pilot) keeps {
	f, has := p.Fence()
	return keeps{p.Params(), p.Mission(), f, has}
}

func (k keeps) same(other keeps) bool {
	return slices.Equal(k.values, other.values) && slices.Equal(k.items, other.items) && k.fenced == other.fenced && sameFence(k.fence, other.fence)
}

// changes are what is said over the link to change each object.
func changes(t testing.TB) []string {
	return []string{
		msg(t, api.ParamSet, api.Wind, 9),
		strings.Join(listText(t, 1, hopRows), ""),
		strings.Join(listText(t, 2, fieldRows), ""),
	}
}

// T5: power goes at each step of a change, and of the boot behind it: each object is the old one or the whole new one, and what was told to be kept is kept.
func TestPowerCuts(t *testing.T) {
	// The second flash is full to its end, so that all that is kept is moved.
	roomy := setup{items: []api.MissionItem{{Kind: api.LandItem}}}.image(t)
	full := imageNearlyFull(t, roomy)
	for number, image := range []string{roomy, full} {
		for object, text := range changes(t) {
			old, fresh := stateOf(t, image, ""), stateOf(t, image, text)
			if old.same(fresh) {
				t.Fatal("nothing changes")
			}
			for steps := 0; ; steps++ {
				junk := []string{"", "\xff", "\x5a", "\x0f\xf0"}[steps%4]
				f := flashOf(t, image)
				p, e := pilot.New(f)
				if e != api.OK {
					t.Fatal(e)
				}
				f.Cut(steps, junk)
				out, _ := p.Step(api.Inputs{Link: text})
				_, e = f.Read(0, 1)
				done := e == api.OK
				if done && !kept(p).same(fresh) || !done && !kept(p).same(old) {
					t.Fatalf("%d %d %d %x", number, object, steps, out.Link)
				}
				f.On()
				if done {
					break
				}
				bootCuts(t, f.Image(), junk, old, fresh)
			}
		}
	}
}

// bootCuts boots a flash, with power that goes at each step of that.
func bootCuts(t *testing.T, image, junk string, old, fresh keeps) {
	t.Helper()
	first := stateOf(t, image, "")
	if !first.same(old) && !first.same(fresh) {
		t.Fatal("neither the old one nor the new one", first)
	}
	for steps := 0; ; steps += 1 + steps/8 {
		f := flashOf(t, image)
		f.Cut(steps, junk)
		p, e := pilot.New(f)
		if e != api.OK {
			f.On()
			p, e = pilot.New(f)
			if e != api.OK || !kept(p).same(first) {
				t.Fatal(steps, e)
			}
			continue
		}
		if !kept(p).same(first) {
			t.Fatal(steps)
		}
		return
	}
}

func stateOf(t *testing.T, image, text string) keeps {
	t.Helper()
	p, e := pilot.New(flashOf(t, image))
	if e != api.OK {
		t.Fatal(e)
	}
	p.Step(api.Inputs{Link: text})
	return kept(p)
}

// imageNearlyFull is a flash with the same objects, and hardly any room behind them.
func imageNearlyFull(t *testing.T, image string) string {
	t.Helper()
	f := flashOf(t, image)
	p, e := pilot.New(f)
	if e != api.OK {
		t.Fatal(e)
	}
	old := kept(p)
	for i := 0; ; i++ {
		before := f.Image()
		p.Step(api.Inputs{Link: msg(t, api.ParamSet, api.Wind, 6)})
		if f.Image()[0] != image[0] || f.Image()[4096] != image[4096] || i > 100 {
			if !stateOf(t, before, "").same(old) {
				t.Fatal("changed")
			}
			return before
		}
	}
}

// T5: changes and cuts at random, one boot behind the other.
func TestPowerAtRandom(t *testing.T) {
	rng := rand.New(rand.NewSource(5))
	f := nor.New()
	p, _ := pilot.New(f)
	texts := changes(t)
	texts = append(texts, msg(t, api.ParamSet, api.Wind, 2), strings.Join(listText(t, 1, hopRows[1:]), ""), strings.Join(listText(t, 2, fieldRows[:3])[:1], ""))
	for range 3000 {
		if rng.Intn(3) == 0 {
			junk := make([]byte, rng.Intn(3))
			rng.Read(junk)
			f.Cut(rng.Intn(400), string(junk))
		}
		old := kept(p)
		p.Step(api.Inputs{Link: texts[rng.Intn(len(texts))]})
		now := kept(p)
		if rng.Intn(4) > 0 {
			continue
		}
		f.On()
		if rng.Intn(2) == 0 {
			f.Cut(rng.Intn(300), "\x33")
		}
		next, e := pilot.New(f)
		if e != api.OK {
			f.On()
			next, e = pilot.New(f)
		}
		f.On()
		if e != api.OK {
			t.Fatal(e)
		}
		// What was in force is there; where a change was cut, perhaps the one that was on its way.
		found := kept(next)
		if found.same(now) {
			p = next
			continue
		}
		if !now.same(old) {
			t.Fatal("what was in force is lost", now, found)
		}
		p = next
	}
}

// T6: whatever bytes come between whole messages, lists are what the messages brought, or the old ones; and only then is that told.
func TestListsAmongBytes(t *testing.T) {
	t.Parallel()
	rng := rand.New(rand.NewSource(6))
	for range 60 {
		r := inMode(t, api.Standby, setup{items: loiter})
		old := kept(r.p)
		var done [3]int
		list := map[int][]string{1: listText(t, 1, hopRows), 2: listText(t, 2, fieldRows)}
		at := map[int]int{}
		for range 600 {
			var text strings.Builder
			for range rng.Intn(3) {
				text.WriteString(between(t, rng))
			}
			what := 1 + rng.Intn(2)
			if rng.Intn(3) == 0 && at[what] < len(list[what]) {
				text.WriteString(list[what][at[what]])
				at[what]++
			}
			for _, said := range r.say(text.String()) {
				if said.Kind == api.Done && said.Fields[1] == 0 {
					done[said.Fields[0]]++
				}
			}
			now := kept(r.p)
			wantItems, wantFence := old.items, old.fence
			if done[1] > 0 {
				wantItems = hop
			}
			if done[2] > 0 {
				wantFence = fieldFence
			}
			if !slices.Equal(now.items, wantItems) || !sameFence(now.fence, wantFence) || !slices.Equal(now.values, old.values) {
				t.Fatal(done, now)
			}
			if done[1] > 1 || done[2] > 1 || done[1] == 1 && at[1] < len(list[1]) || done[2] == 1 && at[2] < len(list[2]) {
				t.Fatal(done, at)
			}
		}
	}
}

// between is bytes that no whole message of a list is lost or made by: noise without a frame's mark, frames that are bad, messages that bring nothing.
func between(t *testing.T, rng *rand.Rand) string {
	switch rng.Intn(6) {
	case 0:
		noise := make([]byte, rng.Intn(30))
		rng.Read(noise)
		return strings.ReplaceAll(string(noise), "\xfd", "\xfe")
	case 1:
		return "\xfd\xff"
	case 2:
		good := []byte(msg(t, api.Item, 1, rng.Intn(3), 6, 0, 0, 0, 0))
		good[len(good)-1] ^= 0x10
		return string(good)
	case 3:
		return msgFrame(t, 12+rng.Intn(200), strings.Repeat("\x01", rng.Intn(9)))
	case 4:
		return msg(t, api.Item, 1+rng.Intn(2), 40+rng.Intn(9), 6, 0, 0, 0, 0)
	}
	return msg(t, api.Request, 1, 0)
}

// T1: bad frames change nothing but counters: of two pilots the one that gets them flies as the other one.
func TestBadFramesChangeNothing(t *testing.T) {
	rng := rand.New(rand.NewSource(7))
	a, b := airborne(t, setup{items: loiter}), airborne(t, setup{items: loiter})
	for range 3000 {
		link, rc := "", ""
		if rng.Intn(30) == 0 {
			link = commandText(t, rng.Intn(11))
		}
		if rng.Intn(3) == 0 {
			rc = write(t, api.Rc, rng.Intn(2001)-1000, rng.Intn(2001)-1000, rng.Intn(2001)-1000, 0, rng.Intn(500)/70)
		}
		a.link, a.rc = link, rc
		b.link, b.rc = link+"\xfd\xff"+msgFrame(t, 200, "x"), rc+"\xa5\xa5"
		b.alter = func(in *api.Inputs) {
			for i := range 3 {
				in.Imu[i] += "\xa5\x01"
				in.Gnss[i] = "\xa5" + in.Gnss[i]
			}
		}
		a.step()
		b.step()
		v := b.view
		v.Bad = a.view.Bad
		if a.view != v || a.out.Motors != b.out.Motors {
			t.Fatal(a.view, b.view)
		}
	}
	if b.view.Bad != min(65535, 3000*(1+1+2+3+3)) {
		t.Error(b.view.Bad)
	}
}

// T1, R1: any bytes on any port are answered, and the modes follow one another as they may.
func TestAnyBytes(t *testing.T) {
	t.Parallel()
	rng := rand.New(rand.NewSource(8))
	noise := func(most int) string {
		data := make([]byte, rng.Intn(most))
		rng.Read(data)
		if rng.Intn(2) == 0 {
			for i := range data {
				data[i] = "\xa5\xfd\x01\x02\x03\x04\x05\x00\xff"[rng.Intn(9)]
			}
		}
		return string(data)
	}
	kinds := []struct {
		s      api.Sensor
		widths string
	}{{api.Imu, "Uiii"}, {api.Baro, "ll"}, {api.Gnss, "llll"}, {api.Rc, "iiiib"}, {api.Esc, "bl"}}
	number := func(width byte) int {
		most := map[byte][2]int{'U': {0, 65535}, 'i': {-32768, 32767}, 'l': {-2147483648, 2147483647}, 'b': {0, 255}}[width]
		switch rng.Intn(5) {
		case 0:
			return most[0]
		case 1:
			return most[1]
		case 2:
			return max(most[0], min(most[1], rng.Intn(21)-10))
		case 3:
			return max(most[0], min(most[1], rng.Intn(20001)-10000))
		}
		return most[0] + rng.Intn(most[1]-most[0]+1)
	}
	for range 6 {
		r := inMode(t, api.Mode(rng.Intn(int(api.Down))), setup{items: loiter, par: map[int]int{api.RcWait: 40}})
		port := func(kind int) string {
			if rng.Intn(3) == 0 {
				return noise(40)
			}
			var fields []int
			for _, w := range []byte(kinds[kind].widths) {
				fields = append(fields, number(w))
			}
			return noise(3) + write(t, kinds[kind].s, fields...) + noise(3)
		}
		for range 2500 {
			before := r.view.Mode
			wild := rng.Intn(3) == 0
			r.alter = func(in *api.Inputs) {
				if wild {
					for i := range 3 {
						in.Imu[i], in.Baro[i], in.Gnss[i] = port(0), port(1), port(2)
					}
					in.Esc = port(4)
				}
				in.Rc = port(3)
				switch rng.Intn(4) {
				case 0:
					in.Link = noise(60)
				case 1:
					in.Link = commandText(t, rng.Intn(11))
				case 2:
					in.Link = msg(t, api.ParamSet, rng.Intn(30), rng.Intn(3000))
				}
			}
			r.step()
			(&air{t: t, tick: r.tick}).followed(before, r.view.Mode)
		}
	}
}
