package upload_test

import (
	"math/rand"
	"slices"
	"testing"

	"windhover/api"
	"windhover/upload"
)

// P21.4: Ready is nothing while no item, some, or all but one came; then all of them in their order, as often as it is asked.
func TestReady(t *testing.T) {
	for n := 1; n <= 5; n++ {
		p := newPair(t, 3, 5)
		p.on(t, say(count, 3, n), 0)
		for i := range n {
			if items, is := p.d.Ready(); is || len(items) != 0 {
				t.Error(n, i, items, is)
			}
			p.on(t, thing(3, i), 0)
		}
		for range 3 {
			items, is := p.d.Ready()
			if !is || len(items) != n {
				t.Fatal(n, items, is)
			}
			for i := range items {
				if !slices.Equal(items[i], thing(3, i).Fields[2:]) {
					t.Error(n, i, items[i])
				}
			}
		}
		busy(t, p, true)
	}
}

// P21.4: Keep: nothing but while a list is ready; then the desk is idle, and the result is told as a number, whichever it is.
func TestKeep(t *testing.T) {
	for i, p := range states(t) {
		for _, result := range []int{0, 1, 4, 5, 190, 191, 210, 211, 65535, 65536, -1, least, most} {
			q := p.twin()
			var want []api.Message
			if p.c.state == ready {
				want = []api.Message{say(done, 7, result)}
			}
			if got := q.keep(t, result); !same(got, want) {
				t.Errorf("state %d, result %d: %v; asked for: %v", i, result, got, want)
			}
			if q.d.Busy() != (p.c.state == takes) {
				t.Errorf("state %d: busy", i)
			}
			q.stays(t)
			told(t, q.keep(t, result))
		}
	}
}

// P21.4: behind Keep a desk takes the next list as a new desk does, of which nothing of the last one is left.
func TestKeepAndGoOn(t *testing.T) {
	p := newPair(t, 3, 3)
	for round, n := range []int{3, 1, 2, 3} {
		told(t, p.on(t, thing(3, 0), 0))
		told(t, p.on(t, say(count, 3, n), 0), say(request, 3, 0))
		for i := range n {
			p.on(t, say(item, 3, i, round, i, round, i, round), 0)
		}
		items, is := p.d.Ready()
		if !is || len(items) != n || items[n-1][0] != round {
			t.Error(round, items, is)
		}
		told(t, p.keep(t, round), say(done, 3, round))
	}
}

// P21.4 (R2): what was handed in is not written into and not kept; its spare room is not touched.
func TestInIsNotKept(t *testing.T) {
	p := newPair(t, 3, 2)
	p.on(t, say(count, 3, 2), 0)
	for i := range 2 {
		room := append(slices.Clone(thing(3, i).Fields), 70, 80, 90)
		fields := room[:7]
		p.on(t, api.Message{Kind: api.Item, Fields: fields}, 0)
		if !slices.Equal(room, append(slices.Clone(thing(3, i).Fields), 70, 80, 90)) {
			t.Error("written into", room)
		}
		for k := range room {
			room[k] = -99
		}
	}
	p.look(t)
}

// P21.4 (R2): what was handed out may be changed and added to: the desk, later answers and the other items do not see it.
func TestOutIsNew(t *testing.T) {
	p := newPair(t, 3, 3)
	spoil(p.on(t, say(count, 3, 3), 0))
	for i := range 3 {
		spoil(p.on(t, thing(3, i), 0))
		spoil(p.on(t, thing(3, i), 0))
	}
	items, _ := p.d.Ready()
	for i := range items {
		for k := range items[i] {
			items[i][k] = -77
		}
		p.look(t)
		items[i] = append(items[i], -77, -77, -77, -77, -77)
		p.look(t)
		for _, other := range items[i+1:] {
			if slices.Contains(other, -77) {
				t.Error("shared", items)
			}
		}
	}
	items = append(items[:1], []int{5})
	p.look(t)
	more, _ := p.d.Ready()
	for i := range more {
		if slices.Contains(more[i], -77) || !slices.Equal(more[i], thing(3, i).Fields[2:]) {
			t.Error(i, more[i])
		}
	}
	spoil(p.keep(t, 0))
	p.on(t, say(count, 3, 1), 0)
	if !slices.Equal(items[0][:3], []int{-77, -77, -77}) {
		t.Error("written into what was handed out", items)
	}
}

// spoil writes into an answer and its spare room.
func spoil(answer []api.Message) {
	for i := range answer {
		fields := append(answer[i].Fields, 9, 9)
		for k := range fields {
			fields[k] = -1
		}
		answer[i] = api.Message{}
	}
	_ = append(answer, api.Message{Kind: 99})
}

// P21.5: whatever comes, a list that is ready has as many items as the Count said, each just what an Item with its number brought behind that Count; and only Keep is answered by a Done whose result is OK.
func TestReadyIsWhatCame(t *testing.T) {
	r := rand.New(rand.NewSource(215))
	whole := 0
	for range 500 {
		d, _ := upload.New(1, 5)
		n, brought := 0, map[int][][]int{}
		now := 0
		for range 150 {
			items, _ := d.Ready()
			m := anyMessage(r, 1, len(brought), 5)
			if r.Intn(40) > 0 && m.Kind == api.Cancel || r.Intn(10) > 0 && m.Kind == api.Count && d.Busy() {
				continue
			}
			if (&clerk{what: 1}).mine(m) && items == nil {
				switch {
				case m.Kind == api.Count:
					n, brought = m.Fields[1], map[int][][]int{}
				case m.Kind == api.Item:
					brought[m.Fields[1]] = append(brought[m.Fields[1]], slices.Clone(m.Fields[2:]))
				}
			}
			now += r.Intn(30)
			for _, a := range append(d.On(m, now), d.Tick(now)...) {
				if a.Kind == api.Done && a.Fields[1] == 0 {
					t.Error("OK", m)
				}
			}
			list, is := d.Ready()
			if !is {
				continue
			}
			whole++
			if len(list) != n {
				t.Fatal(n, list)
			}
			for i := range list {
				if !slices.ContainsFunc(brought[i], func(x []int) bool { return slices.Equal(x, list[i]) }) {
					t.Fatal(i, list[i], brought[i])
				}
			}
			if r.Intn(4) == 0 {
				told(t, d.Keep(api.OK), say(done, 1, 0))
				brought = map[int][][]int{}
			}
		}
	}
	if whole < 1000 {
		t.Error("too few lists came to their end:", whole)
	}
}

// P21.6: who answers each Request is asked for each item once and in order, and then the list is ready, whatever comes between.
func TestWhoAnswers(t *testing.T) {
	r := rand.New(rand.NewSource(216))
	for round := range 300 {
		what, n := r.Intn(256), 1+r.Intn(40)
		d, _ := upload.New(what, 40)
		var asked []int
		now := r.Intn(1000)
		answer := d.On(say(count, what, n), now)
		for len(answer) > 0 {
			wanted := len(asked)
			told(t, answer, say(request, what, wanted))
			asked = append(asked, wanted)
			for range r.Intn(8) {
				between(t, d, r, what, wanted, now)
			}
			now += r.Intn(200)
			answer = d.On(thing(what, wanted), now)
		}
		items, is := d.Ready()
		if !is || len(items) != n || len(asked) != n {
			t.Fatal(round, n, asked, is)
		}
		for i := range items {
			if !slices.Equal(items[i], thing(what, i).Fields[2:]) {
				t.Error(round, i, items[i])
			}
		}
	}
}

// between hands a desk that wants an item something that is neither that item, nor a Count or Cancel of the desk's; if it asks then, it asks for the item that it wants.
func between(t *testing.T, d *upload.Desk, r *rand.Rand, what, wanted, now int) {
	t.Helper()
	m := anyMessage(r, what, wanted, 40)
	if (&clerk{what: what}).mine(m) && (m.Kind != api.Item || m.Fields[1] == wanted) {
		m = say(item, what, max(0, wanted-1), 9, 9, 9, 9, 9)
		if wanted == 0 {
			m = say(item, what, 1+r.Intn(65535), 9, 9, 9, 9, 9)
		}
	}
	for _, a := range append(d.On(m, now), d.Tick(now)...) {
		told(t, []api.Message{a}, say(request, what, wanted))
	}
}

// P21.6: a list of as many items as may be: each is asked for once, and all of them are there in their order.
func TestGreatestList(t *testing.T) {
	d, _ := upload.New(200, 65535)
	told(t, d.On(say(count, 200, 65535), 0), say(request, 200, 0))
	for i := range 65534 {
		told(t, d.On(thing(200, i), i), say(request, 200, i+1))
	}
	told(t, d.On(thing(200, 65534), 65534))
	items, is := d.Ready()
	if !is || len(items) != 65535 {
		t.Fatal(len(items), is)
	}
	for i := range items {
		if !slices.Equal(items[i], thing(200, i).Fields[2:]) {
			t.Fatal(i, items[i])
		}
	}
}

// P21.2 to P21.4 (R2): desks that are gone on in turns know nothing of one another, one of the same what and a copy among them.
func TestApart(t *testing.T) {
	r := rand.New(rand.NewSource(2))
	for range 30 {
		pairs := []*pair{newPair(t, 1, 4), newPair(t, 1, 4), newPair(t, 2, 6)}
		pairs[0].on(t, say(count, 1, 4), 0)
		pairs[0].on(t, thing(1, 0), 0)
		pairs = append(pairs, pairs[0].twin())
		for now := range 300 {
			p := pairs[r.Intn(len(pairs))]
			switch r.Intn(10) {
			case 0:
				p.tick(t, 20*now)
			case 1:
				p.keep(t, r.Intn(3))
			default:
				p.on(t, anyMessage(r, p.c.what, len(p.c.items), p.c.most), 20*now)
			}
			for _, q := range pairs {
				q.look(t)
			}
		}
	}
}

// P21.2 to P21.4 (R2): a desk that was copied in the midst of a list goes its own way.
func TestCopied(t *testing.T) {
	for had := range 5 {
		p := begun(t, 3, 5, had, 0)
		q := p.twin()
		for i := had; i < 5; i++ {
			p.on(t, say(item, 3, i, 1, 1, 1, 1, 1), 0)
			q.on(t, say(item, 3, i, 2, 2, 2, 2, 2), 0)
		}
		p.look(t)
		q.look(t)
		p.keep(t, 0)
		q.look(t)
	}
}

// R2: a nil Desk answers noughts, whatever it is asked.
func TestNil(t *testing.T) {
	var d *upload.Desk
	for _, now := range []int{least, -1, 0, 200, most} {
		for _, m := range append(good(0, 0), api.Message{}, say(255, 1, 2)) {
			told(t, d.On(m, now))
		}
		told(t, d.Tick(now))
		told(t, d.Keep(api.Errno(now)))
		if items, is := d.Ready(); is || len(items) != 0 || d.Busy() {
			t.Error("nil")
		}
	}
}

// R1: a desk that New did not make does not panic, and never takes a list.
func TestUnmade(t *testing.T) {
	d := &upload.Desk{}
	for _, m := range append(good(0, 0), good(1, 1)...) {
		d.On(m, 0)
		d.Tick(most)
		if items, is := d.Ready(); is || len(items) != 0 || d.Busy() || len(d.Keep(api.OK)) != 0 {
			t.Error(m, items)
		}
	}
}
