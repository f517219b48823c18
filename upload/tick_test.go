package upload_test

import (
	"math/big"
	"testing"

	"windhover/api"
)

// P21.3: at 199 ticks behind what was last heard nothing is said; at 200 and more it is asked again, for the item that is wanted; idle and ready, nothing.
func TestTickEdge(t *testing.T) {
	for i, p := range states(t) {
		for _, silence := range []int{-1000, -200, -1, 0, 1, 2, 100, 198, 199, 200, 201, 399, 400, 401, 1199, 1200, 1 << 40} {
			q := p.twin()
			var want []api.Message
			if p.c.state == takes && silence >= 200 {
				want = []api.Message{say(request, 7, len(p.c.items))}
			}
			if got := q.tick(t, 1000+silence); !same(got, want) {
				t.Errorf("state %d, %d ticks behind: %v; asked for: %v", i, silence, got, want)
			}
		}
	}
}

// P21.3: at an int's ends, and where the difference of two ticks is more than an int holds, it is exact.
func TestTickEnds(t *testing.T) {
	ticks := []int{least, least + 1, least + 199, least + 200, least + 201, least / 2, -201, -200, -199, -1, 0, 1, 199, 200, 201, most / 2, most - 201, most - 200, most - 199, most - 1, most}
	for _, heard := range ticks {
		for _, now := range ticks {
			p := begun(t, 9, 2, 1, heard)
			silence := new(big.Int).Sub(big.NewInt(int64(now)), big.NewInt(int64(heard)))
			var want []api.Message
			if silence.Cmp(big.NewInt(200)) >= 0 {
				want = []api.Message{say(request, 9, 1)}
			}
			if got := p.tick(t, now); !same(got, want) {
				t.Errorf("heard %d, now %d: %v; asked for: %v", heard, now, got, want)
			}
		}
	}
}

// P21.3: what it has heard now when it asks again: the next 200 ticks count from there, not from where they were due.
func TestTickHears(t *testing.T) {
	p := begun(t, 2, 3, 1, 0)
	told(t, p.tick(t, 350), say(request, 2, 1))
	told(t, p.tick(t, 350))
	told(t, p.tick(t, 400))
	told(t, p.tick(t, 549))
	told(t, p.tick(t, 550), say(request, 2, 1))
	told(t, p.tick(t, 0))
	told(t, p.tick(t, 749))
	told(t, p.tick(t, 750), say(request, 2, 1))
}

// P21.3: five times it is asked again, and the sixth time it is idle, and ErrLate; from then on nothing.
func TestTickGivesUp(t *testing.T) {
	for had := range 3 {
		for _, step := range []int{200, 201, 1000, 1 << 50} {
			p := begun(t, 4, 3, had, -7)
			now := -7
			for range 5 {
				now += step
				told(t, p.tick(t, now), say(request, 4, had))
				busy(t, p, true)
			}
			told(t, p.tick(t, now+199))
			busy(t, p, true)
			told(t, p.tick(t, now+step), say(done, 4, late))
			busy(t, p, false)
			told(t, p.tick(t, now+2*step))
			told(t, p.on(t, thing(4, had), now+2*step))
			told(t, p.on(t, say(count, 4, 1), now), say(request, 4, 0))
		}
	}
}

// P21.3: an item that is wanted begins the count anew; a double, an item that is not wanted, and what is not the desk's do not, nor are they heard.
func TestTickCount(t *testing.T) {
	for asked := range 6 {
		p := begun(t, 4, 3, 1, 0)
		for i := range asked {
			told(t, p.tick(t, 200*(i+1)), say(request, 4, 1))
		}
		now := 200 * asked
		for _, m := range []api.Message{thing(4, 0), say(item, 4, 0, 9, 9, 9, 9, 9), thing(4, 2), thing(4, 65535), thing(5, 1), say(cancel, 5), say(item, 4, 1), say(heartbeat, 4, 1, 1, 1, 1)} {
			q := p.twin()
			q.on(t, m, now+199)
			for i := asked; i < 5; i++ {
				now := 200 * (i + 1)
				told(t, q.tick(t, now-1))
				told(t, q.tick(t, now), say(request, 4, 1))
				q.on(t, m, now+100)
			}
			told(t, q.tick(t, 1199))
			told(t, q.tick(t, 1200), say(done, 4, late))
		}
		told(t, p.on(t, thing(4, 1), now+199), say(request, 4, 2))
		now += 199
		told(t, p.tick(t, now+199))
		for i := range 5 {
			told(t, p.tick(t, now+200*(i+1)), say(request, 4, 2))
		}
		told(t, p.tick(t, now+1200), say(done, 4, late))
	}
}

// P21.3: an item heard at a lesser tick than what was last heard is heard then, and not later.
func TestTickGoesBack(t *testing.T) {
	p := begun(t, 1, 3, 0, 5000)
	told(t, p.on(t, thing(1, 0), 100), say(request, 1, 1))
	told(t, p.tick(t, 299))
	told(t, p.tick(t, 300), say(request, 1, 1))
	told(t, p.on(t, say(count, 1, 2), -1000), say(request, 1, 0))
	told(t, p.tick(t, -801))
	told(t, p.tick(t, -800), say(request, 1, 0))
}

// P21.6: of who falls silent nothing is wanted any more behind 1200 ticks, wherever in the list, if Tick comes every tick; and what is said by then is five Requests and a Done.
func TestSilence(t *testing.T) {
	for n := 1; n <= 4; n++ {
		for had := range n {
			p := begun(t, 6, n, had, 77)
			for silence := 1; silence <= 1300; silence++ {
				got := p.tick(t, 77+silence)
				switch {
				case silence == 1200:
					told(t, got, say(done, 6, late))
				case silence < 1200 && silence%200 == 0:
					told(t, got, say(request, 6, had))
				default:
					told(t, got)
				}
				busy(t, p, silence < 1200)
			}
		}
	}
}
