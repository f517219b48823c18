package upload_test

import (
	"math/rand"
	"slices"
	"testing"

	"windhover/api"
	"windhover/upload"
)

// P21.1 to P21.4: the chapter's examples, step by step.
func TestExamples(t *testing.T) {
	p := newPair(t, 1, 3)
	told(t, p.on(t, say(item, 1, 0, 2, 5, 6, 7, 8), 10))
	busy(t, p, false)
	told(t, p.on(t, say(count, 1, 2), 10), say(request, 1, 0))
	busy(t, p, true)
	told(t, p.on(t, say(item, 1, 1, 9, 9, 9, 9, 9), 10))
	told(t, p.on(t, say(item, 2, 0, 2, 5, 6, 7, 8), 10))
	told(t, p.on(t, say(count, 2, 2), 10))
	told(t, p.on(t, say(item, 1, 0, 2, 5, 6, 7, 8), 10), say(request, 1, 1))
	told(t, p.on(t, say(item, 1, 0, 3, 3, 3, 3, 3), 10), say(request, 1, 1))
	told(t, p.tick(t, 209))
	told(t, p.tick(t, 210), say(request, 1, 1))
	told(t, p.on(t, say(item, 1, 1, 4, 0, 0, 0, -1), 211))
	if items, is := p.d.Ready(); !is || !sameItems(items, [][]int{{2, 5, 6, 7, 8}, {4, 0, 0, 0, -1}}) {
		t.Error(items, is)
	}
	told(t, p.on(t, say(count, 1, 1), 10))
	told(t, p.on(t, say(cancel, 1), 10))
	told(t, p.tick(t, 5000))
	told(t, p.keep(t, 0), say(done, 1, 0))
	busy(t, p, false)
	if _, is := p.d.Ready(); is {
		t.Error("ready")
	}
	told(t, p.on(t, say(count, 1, 4), 10), say(done, 1, 4))
	told(t, p.on(t, say(count, 1, 3), 10), say(request, 1, 0))
	told(t, p.on(t, say(cancel, 1), 10), say(done, 1, 211))
	told(t, p.on(t, say(count, 1, 1), 10), say(request, 1, 0))
	for _, now := range []int{210, 410, 610, 810, 1010} {
		told(t, p.tick(t, now), say(request, 1, 0))
	}
	told(t, p.tick(t, 1210), say(done, 1, 210))
	busy(t, p, false)
	for _, c := range [][2]int{{256, 1}, {1, 0}, {1, 65536}} {
		if d, e := upload.New(c[0], c[1]); d != nil || e != api.ErrArg {
			t.Error(c, e)
		}
	}
}

func busy(t *testing.T, p *pair, want bool) {
	t.Helper()
	if p.d.Busy() != want {
		t.Error("busy:", !want)
	}
}

// P21.2: Count of 0, 1, most, one more and its greatest number, from each state: a list is begun, or nothing is taken any more, and it is ErrMany; nothing while one is ready.
func TestCount(t *testing.T) {
	for i, p := range states(t) {
		for _, n := range []int{0, 1, 2, 3, 4, 5, 6, 255, 256, 65534, 65535} {
			q, want := p.twin(), []api.Message{say(request, 7, 0)}
			if n < 1 || n > 4 {
				want = []api.Message{say(done, 7, many)}
			}
			if p.c.state == ready {
				want = nil
			}
			if got := q.on(t, say(count, 7, n), 1100); !same(got, want) {
				t.Errorf("state %d, count %d: %v; asked for: %v", i, n, got, want)
			}
			q.stays(t)
		}
	}
}

// P21.2: the least and the greatest most: all counts up to it are taken, and one more is not.
func TestCountOfMost(t *testing.T) {
	for _, limit := range []int{1, 2, 255, 256, 65534, 65535} {
		p := newPair(t, 3, limit)
		told(t, p.on(t, say(count, 3, limit), 0), say(request, 3, 0))
		if limit < 65535 {
			told(t, p.on(t, say(count, 3, limit+1), 0), say(done, 3, many))
			busy(t, p, false)
		}
		told(t, p.on(t, say(count, 3, 1), 0), say(request, 3, 0))
		told(t, p.on(t, say(count, 3, 0), 0), say(done, 3, many))
		busy(t, p, false)
	}
}

// P21.2: a Count while a list is taken: what was taken is dropped, it was heard now, and was not asked again.
func TestCountAnew(t *testing.T) {
	p := newPair(t, 1, 3)
	p.on(t, say(count, 1, 3), 0)
	p.on(t, say(item, 1, 0, 9, 9, 9, 9, 9), 0)
	p.on(t, say(item, 1, 1, 9, 9, 9, 9, 9), 0)
	for now := 200; now <= 1000; now += 200 {
		told(t, p.tick(t, now), say(request, 1, 2))
	}
	told(t, p.on(t, say(count, 1, 2), 1199), say(request, 1, 0))
	told(t, p.tick(t, 1398))
	for now := 1399; now <= 2199; now += 200 {
		told(t, p.tick(t, now), say(request, 1, 0))
	}
	told(t, p.on(t, say(item, 1, 0, 1, 2, 3, 4, 5), 2200), say(request, 1, 1))
	told(t, p.on(t, say(item, 1, 1, 6, 7, 8, 9, 10), 2200))
	if items, is := p.d.Ready(); !is || !sameItems(items, [][]int{{1, 2, 3, 4, 5}, {6, 7, 8, 9, 10}}) {
		t.Error(items, is)
	}
}

// P21.2: an Item of each number from each state: only that which is wanted is had, only it and the one before are answered.
func TestItem(t *testing.T) {
	for i, p := range states(t) {
		for _, number := range []int{0, 1, 2, 3, 4, 5, 6, 255, 256, 65534, 65535} {
			q, wanted := p.twin(), len(p.c.items)
			var want []api.Message
			switch {
			case p.c.state != takes:
			case number == wanted && number+1 < p.c.n, number == wanted-1:
				want = []api.Message{say(request, 7, number+1)}
			}
			if got := q.on(t, thing(7, number), 1100); !same(got, want) {
				t.Errorf("state %d, item %d: %v; asked for: %v", i, number, got, want)
			}
			q.stays(t)
		}
	}
}

// P21.2: a list of one item: no Request follows, whatever the item is, and it is ready.
func TestListOfOne(t *testing.T) {
	for _, numbers := range [][]int{{0, 0, 0, 0, 0}, {255, 2147483647, -2147483648, 2147483647, -2147483648}, {1, -1, 1, -1, 1}} {
		p := newPair(t, 0, 1)
		told(t, p.on(t, say(count, 0, 1), 0), say(request, 0, 0))
		told(t, p.on(t, say(item, append([]int{0, 0}, numbers...)...), 0))
		if items, is := p.d.Ready(); !is || !sameItems(items, [][]int{numbers}) {
			t.Error(items, is)
		}
	}
}

// P21.2: a double of the item before, with other numbers in it, is answered each time, and the first one's numbers stay; two before is not answered.
func TestDouble(t *testing.T) {
	p := newPair(t, 5, 4)
	told(t, p.on(t, say(count, 5, 4), 0), say(request, 5, 0))
	for i := range 3 {
		told(t, p.on(t, thing(5, i), 0), say(request, 5, i+1))
		for range 3 {
			told(t, p.on(t, say(item, 5, i, 9, 9, 9, 9, 9), 0), say(request, 5, i+1))
		}
		if i > 0 {
			told(t, p.on(t, say(item, 5, i-1, 9, 9, 9, 9, 9), 0))
		}
		told(t, p.on(t, say(item, 5, i+2, 9, 9, 9, 9, 9), 0))
	}
	told(t, p.on(t, thing(5, 3), 0))
	told(t, p.on(t, thing(5, 3), 0))
	items, is := p.d.Ready()
	if !is || len(items) != 4 {
		t.Fatal(items, is)
	}
	for i, got := range items {
		if !slices.Equal(got, thing(5, i).Fields[2:]) {
			t.Error(i, got)
		}
	}
}

// P21.2: Cancel ends what is taken, and is answered only then.
func TestCancel(t *testing.T) {
	for i, p := range states(t) {
		q := p.twin()
		var want []api.Message
		if p.c.state == takes {
			want = []api.Message{say(done, 7, gone)}
		}
		if got := q.on(t, say(cancel, 7), 1100); !same(got, want) {
			t.Errorf("state %d: %v; asked for: %v", i, got, want)
		}
		if q.d.Busy() != (p.c.state == ready) {
			t.Errorf("state %d: busy", i)
		}
		told(t, q.on(t, say(cancel, 7), 1100))
		q.stays(t)
	}
}

// P21.2: messages of every other Kind, with the fields of their own and with those of the desk's Kinds, change nothing and are not answered.
func TestOtherKinds(t *testing.T) {
	for _, p := range states(t) {
		wanted := len(p.c.items)
		for kind := range 256 {
			if kind == count || kind == item || kind == cancel {
				continue
			}
			lists := [][]int{nil, {7}, {7, 1}, {7, wanted}, thing(7, wanted).Fields}
			own := make([]int, len(bounds(kind)))
			if len(own) > 0 {
				own[0] = 7
				lists = append(lists, own)
			}
			for _, fields := range lists {
				told(t, p.on(t, say(kind, fields...), 1100))
			}
		}
		p.stays(t)
	}
}

// good are messages that would do something in some state.
func good(what, wanted int) []api.Message {
	return []api.Message{say(count, what, 2), say(count, what, 0), thing(what, wanted), thing(what, max(0, wanted-1)), say(cancel, what)}
}

// P21.2: messages of another what change nothing and are not answered.
func TestOtherWhat(t *testing.T) {
	for _, p := range states(t) {
		for _, what := range []int{0, 1, 6, 8, 128, 254, 255} {
			for _, m := range good(what, len(p.c.items)) {
				told(t, p.on(t, m, 1100))
			}
		}
		p.stays(t)
	}
}

// P21.2: messages with fields too few or too many change nothing and are not answered.
func TestOtherCount(t *testing.T) {
	for _, p := range states(t) {
		for _, m := range good(7, len(p.c.items)) {
			for n := range len(m.Fields) {
				told(t, p.on(t, api.Message{Kind: m.Kind, Fields: m.Fields[:n]}, 1100))
			}
			for _, extra := range [][]int{{0}, {7}, {-1}, {0, 0}, make([]int, 100)} {
				told(t, p.on(t, api.Message{Kind: m.Kind, Fields: append(slices.Clone(m.Fields), extra...)}, 1100))
			}
			told(t, p.on(t, api.Message{Kind: m.Kind}, 1100))
		}
		p.stays(t)
	}
}

// P21.2: messages with a number that Encode refuses, at each place, change nothing and are not answered; one within is taken at each end.
func TestNumbersOfFields(t *testing.T) {
	for _, p := range states(t) {
		for _, m := range good(7, len(p.c.items)) {
			for i, b := range bounds(int(m.Kind)) {
				for _, x := range []int{least, b[0] - 1, b[1] + 1, b[1] + 1 + max(0, m.Fields[i]), m.Fields[i] + 1<<32, most} {
					bad := slices.Clone(m.Fields)
					bad[i] = x
					told(t, p.on(t, api.Message{Kind: m.Kind, Fields: bad}, 1100))
				}
				if i < 1 {
					continue
				}
				for _, x := range b {
					fields := slices.Clone(m.Fields)
					fields[i] = x
					p.twin().on(t, api.Message{Kind: m.Kind, Fields: fields}, 1100)
				}
			}
		}
		p.stays(t)
	}
}

// P21.2: a desk of the least and the greatest what takes a list as any other does.
func TestEndsOfWhat(t *testing.T) {
	for _, what := range []int{0, 255} {
		p := newPair(t, what, 2)
		for _, other := range []int{-1, 256, what ^ 1, what + 256, what - 256} {
			told(t, p.on(t, say(count, other, 2), 0))
		}
		told(t, p.on(t, say(count, what, 2), 0), say(request, what, 0))
		told(t, p.on(t, thing(what, 0), 0), say(request, what, 1))
		told(t, p.on(t, thing(what, 1), 0))
		told(t, p.keep(t, 5), say(done, what, 5))
	}
}

// P21.2: what the tick is, is never asked: each call is answered alike at all numbers.
func TestAnyTickOfOn(t *testing.T) {
	for _, now := range []int{least, least + 1, -201, -1, 0, 1, 200, most - 1, most} {
		for _, p := range states(t) {
			for _, m := range good(7, len(p.c.items)) {
				q := p.twin()
				q.on(t, m, now)
				for _, then := range []int{least, now, most} {
					q.twin().tick(t, then)
				}
			}
		}
	}
}

// P21.2 to P21.4: each script of five calls out of ten is answered as by the clerk.
func TestShortScripts(t *testing.T) {
	words := []api.Message{say(count, 7, 1), say(count, 7, 2), say(count, 7, 3), thing(7, 0), say(item, 7, 0, 9, 9, 9, 9, 9), thing(7, 1), thing(7, 2), say(cancel, 7)}
	var goOn func(p *pair, left int)
	goOn = func(p *pair, left int) {
		if left == 0 {
			return
		}
		for _, m := range words {
			q := p.twin()
			q.on(t, m, 1000)
			goOn(q, left-1)
		}
		q := p.twin()
		q.keep(t, 3)
		goOn(q, left-1)
		q = p.twin()
		q.tick(t, 1200)
		goOn(q, left-1)
	}
	goOn(newPair(t, 7, 2), 5)
}

// P21.2 to P21.4: scripts at random, of all calls.
func TestScripts(t *testing.T) {
	r := rand.New(rand.NewSource(21))
	for range 400 {
		what, limit := r.Intn(256), 1+r.Intn(6)
		p, now := newPair(t, what, limit), r.Intn(1000)-500
		if r.Intn(8) == 0 {
			now = []int{least, most - 20000, most - 300}[r.Intn(3)]
		}
		for range 200 {
			switch r.Intn(8) {
			case 0, 1:
				p.tick(t, now)
			case 2:
				p.keep(t, r.Intn(212))
			default:
				p.on(t, anyMessage(r, what, len(p.c.items), limit), now)
			}
			if step := []int{0, 1, 50, 199, 200, 201}[r.Intn(6)]; now <= most-step {
				now += step
			}
			if r.Intn(100) == 0 {
				now = []int{least, -1, 0, most}[r.Intn(4)]
			}
		}
	}
}
