package upload_test

import (
	"math"
	"math/big"
	"math/rand"
	"slices"
	"testing"

	"windhover/api"
	"windhover/upload"
)

const (
	most  = math.MaxInt
	least = math.MinInt
)

// The Kinds, by the document's numbers.
const (
	heartbeat = iota + 1
	status
	command
	ack
	paramSet
	paramValue
	count
	request
	item
	done
	cancel
)

// The errors, by the document's numbers.
const (
	many = 4
	late = 210
	gone = 211
)

func say(kind int, fields ...int) api.Message {
	return api.Message{Kind: api.Kind(kind), Fields: fields}
}

// bounds are the least and the greatest number of each field of a Kind; nil of a Kind that there is not.
func bounds(kind int) [][2]int {
	u8, u16, u32 := [2]int{0, 255}, [2]int{0, 65535}, [2]int{0, 4294967295}
	i16, i32 := [2]int{-32768, 32767}, [2]int{-2147483648, 2147483647}
	switch kind {
	case heartbeat:
		return [][2]int{u8, u8, u32, i16, u16}
	case status:
		return [][2]int{i32, i32, i32, i32, i32, i32, i32}
	case command:
		return [][2]int{u8, i32, i32, i32}
	case ack, count, request, done:
		return [][2]int{u8, u16}
	case paramSet, paramValue:
		return [][2]int{u8, i32}
	case item:
		return [][2]int{u8, u16, u8, i32, i32, i32, i32}
	case cancel:
		return [][2]int{u8}
	}
	return nil
}

// The states of a desk.
const (
	idle  = "idle"
	takes = "takes"
	ready = "ready"
)

// clerk does a desk's calls by the document's words.
type clerk struct {
	what, most int
	state      string
	n          int
	items      [][]int
	heard      *big.Int
	again      int
}

func (c *clerk) mine(m api.Message) bool {
	kind := int(m.Kind)
	if kind != count && kind != item && kind != cancel {
		return false
	}
	table := bounds(kind)
	if len(m.Fields) != len(table) {
		return false
	}
	for i, b := range table {
		if m.Fields[i] < b[0] || m.Fields[i] > b[1] {
			return false
		}
	}
	return m.Fields[0] == c.what
}

func (c *clerk) on(m api.Message, now int) []api.Message {
	if !c.mine(m) || c.state == ready {
		return nil
	}
	switch int(m.Kind) {
	case count:
		return c.onCount(m.Fields[1], now)
	case item:
		return c.onItem(m.Fields[1], m.Fields[2:], now)
	}
	if c.state == takes {
		c.rest()
		return []api.Message{say(done, c.what, gone)}
	}
	return nil
}

func (c *clerk) onCount(n, now int) []api.Message {
	c.rest()
	if n == 0 || n > c.most {
		return []api.Message{say(done, c.what, many)}
	}
	c.state, c.n, c.heard = takes, n, big.NewInt(int64(now))
	return []api.Message{say(request, c.what, 0)}
}

func (c *clerk) onItem(i int, numbers []int, now int) []api.Message {
	if c.state != takes {
		return nil
	}
	switch i - len(c.items) {
	case 0:
		c.items = append(slices.Clip(c.items), slices.Clone(numbers))
		c.heard, c.again = big.NewInt(int64(now)), 0
		if len(c.items) == c.n {
			c.state = ready
			return nil
		}
		return []api.Message{say(request, c.what, i+1)}
	case -1:
		return []api.Message{say(request, c.what, i+1)}
	}
	return nil
}

func (c *clerk) tick(now int) []api.Message {
	if c.state != takes {
		return nil
	}
	silence := new(big.Int).Sub(big.NewInt(int64(now)), c.heard)
	if silence.Cmp(big.NewInt(200)) < 0 {
		return nil
	}
	if c.again == 5 {
		c.rest()
		return []api.Message{say(done, c.what, late)}
	}
	c.again++
	c.heard = big.NewInt(int64(now))
	return []api.Message{say(request, c.what, len(c.items))}
}

func (c *clerk) keep(result int) []api.Message {
	if c.state != ready {
		return nil
	}
	c.rest()
	return []api.Message{say(done, c.what, result)}
}

func (c *clerk) rest() {
	c.state, c.n, c.items, c.heard, c.again = idle, 0, nil, nil, 0
}

// same tells whether two lists of messages are one.
func same(a, b []api.Message) bool {
	return slices.EqualFunc(a, b, func(x, y api.Message) bool {
		return x.Kind == y.Kind && slices.Equal(x.Fields, y.Fields)
	})
}

func sameItems(a, b [][]int) bool { return slices.EqualFunc(a, b, slices.Equal[[]int]) }

// pair is a desk and its clerk.
type pair struct {
	d *upload.Desk
	c clerk
}

func newPair(t *testing.T, what, most int) *pair {
	t.Helper()
	d, e := upload.New(what, most)
	if d == nil || e != api.OK {
		t.Fatal(what, most, e)
	}
	p := &pair{d: d, c: clerk{what: what, most: most, state: idle}}
	p.look(t)
	return p
}

// look holds what a desk tells of itself against its clerk.
func (p *pair) look(t *testing.T) {
	t.Helper()
	if busy := p.d.Busy(); busy != (p.c.state != idle) {
		t.Fatalf("busy: %v; asked for: %s", busy, p.c.state)
	}
	items, is := p.d.Ready()
	if is != (p.c.state == ready) || is && !sameItems(items, p.c.items) || !is && len(items) != 0 {
		t.Fatalf("ready: %v, %v; asked for: %s, %v", items, is, p.c.state, p.c.items)
	}
}

// hold holds an answer against the clerk's, and looks.
func (p *pair) hold(t *testing.T, call any, got, want []api.Message) []api.Message {
	t.Helper()
	if !same(got, want) {
		t.Fatalf("%v: %v; asked for: %v", call, got, want)
	}
	p.look(t)
	return got
}

func (p *pair) on(t *testing.T, m api.Message, now int) []api.Message {
	t.Helper()
	return p.hold(t, m, p.d.On(m, now), p.c.on(m, now))
}

func (p *pair) tick(t *testing.T, now int) []api.Message {
	t.Helper()
	return p.hold(t, now, p.d.Tick(now), p.c.tick(now))
}

func (p *pair) keep(t *testing.T, result int) []api.Message {
	t.Helper()
	return p.hold(t, result, p.d.Keep(api.Errno(result)), p.c.keep(result))
}

// twin is the same pair once more, which goes its own way.
func (p *pair) twin() *pair {
	d := *p.d
	return &pair{d: &d, c: p.c}
}

// told asks for an answer written by hand.
func told(t *testing.T, got []api.Message, want ...api.Message) {
	t.Helper()
	if !same(got, want) {
		t.Errorf("%v; asked for: %v", got, want)
	}
}

// thing is item i of a list: five numbers of which no two are one.
func thing(what, i int) api.Message {
	return say(item, what, i, i%256, 10*i+1, -10*i-2, 10*i+3, -10*i-4)
}

// begun is a pair that takes a list of n items, of which it has some, heard at a tick.
func begun(t *testing.T, what, n, had, now int) *pair {
	t.Helper()
	p := newPair(t, what, n)
	told(t, p.on(t, say(count, what, n), now), say(request, what, 0))
	for i := range had {
		p.on(t, thing(what, i), now)
	}
	return p
}

// states are pairs of what 7 and at most 4 items: idle, all stages of a list of 4, one of a list of 1, and ready ones.
func states(t *testing.T) []*pair {
	t.Helper()
	list := []*pair{newPair(t, 7, 4)}
	for _, c := range [][2]int{{1, 0}, {4, 0}, {4, 1}, {4, 2}, {4, 3}, {1, 1}, {4, 4}} {
		p := newPair(t, 7, 4)
		p.on(t, say(count, 7, c[0]), 1000)
		for i := range c[1] {
			p.on(t, thing(7, i), 1000)
		}
		list = append(list, p)
	}
	return list
}

// stays asks of a pair that nothing is changed: whatever comes afterwards is answered as the clerk does, who knows nothing of what came.
func (p *pair) stays(t *testing.T) {
	t.Helper()
	p.look(t)
	p.twin().on(t, thing(p.c.what, len(p.c.items)), 1100)
	p.twin().on(t, thing(p.c.what, len(p.c.items)-1), 1100)
	p.twin().on(t, say(cancel, p.c.what), 1100)
	p.twin().keep(t, 0)
	for _, now := range []int{1199, 1200} {
		p.twin().tick(t, now)
	}
	q := p.twin()
	for now := 1200; q.c.state == takes; now += 200 {
		q.tick(t, now)
	}
}

// anyMessage is a message at random: mostly one of the desk's, or nearly one.
func anyMessage(r *rand.Rand, what, wanted, most int) api.Message {
	m := say(item, what, wanted+r.Intn(4)-2, r.Intn(256), r.Intn(9)-4, r.Intn(9)-4, r.Intn(9)-4, r.Intn(9)-4)
	switch r.Intn(12) {
	case 0, 1:
		m = say(count, what, r.Intn(most+2))
	case 2:
		m = say(cancel, what)
	case 3:
		m.Kind = api.Kind(r.Intn(14))
	case 4, 5, 6, 7, 8:
		m.Fields[1] = wanted
	}
	switch r.Intn(16) {
	case 0:
		m.Fields[r.Intn(len(m.Fields))] = []int{least, -1, 256, 65536, 1 << 31, -1<<31 - 1, most}[r.Intn(7)]
	case 1:
		m.Fields = m.Fields[:r.Intn(len(m.Fields))]
	case 2:
		m.Fields = append(m.Fields, r.Intn(3))
	case 3:
		m.Fields[0] = r.Intn(256)
	}
	return m
}

// api: the names of Kinds and errors have the document's numbers.
func TestNames(t *testing.T) {
	for i, kind := range []api.Kind{api.Heartbeat, api.Status, api.Command, api.Ack, api.ParamSet, api.ParamValue, api.Count, api.Request, api.Item, api.Done, api.Cancel} {
		if int(kind) != i+1 {
			t.Error(i, kind)
		}
	}
	if api.OK != 0 || api.ErrArg != 1 || api.ErrMany != many || api.ErrLate != late || api.ErrGone != gone {
		t.Error("errors")
	}
}

// P21.1: what from 0 to 255 and most from 1 to 65535 make a desk that is idle; all else is ErrArg, and no desk.
func TestNew(t *testing.T) {
	for _, what := range []int{least, least + 1, -256, -1, 0, 1, 2, 128, 254, 255, 256, 257, 1<<32 + 1, most - 1, most} {
		for _, n := range []int{least, least + 1, -65535, -1, 0, 1, 2, 64, 65534, 65535, 65536, 65537, 1<<32 + 1, most - 1, most} {
			d, e := upload.New(what, n)
			if what < 0 || what > 255 || n < 1 || n > 65535 {
				if d != nil || e != api.ErrArg {
					t.Error(what, n, d, e)
				}
				continue
			}
			if d == nil || e != api.OK {
				t.Fatal(what, n, e)
			}
			items, is := d.Ready()
			if d.Busy() || is || len(items) != 0 || len(d.Tick(most)) != 0 || len(d.Keep(api.OK)) != 0 {
				t.Error(what, n, "not idle")
			}
		}
	}
}

// P21.1: each desk is a new one, and answers of its own what, and takes no more than its own most.
func TestNewIsNew(t *testing.T) {
	a, _ := upload.New(0, 1)
	b, _ := upload.New(0, 1)
	if a == b {
		t.Fatal("one desk")
	}
	told(t, a.On(say(count, 0, 1), 0), say(request, 0, 0))
	if b.Busy() || !a.Busy() {
		t.Error("they know of each other")
	}
	c, _ := upload.New(255, 65535)
	told(t, c.On(say(count, 255, 65535), 0), say(request, 255, 0))
	told(t, b.On(say(count, 0, 2), 0), say(done, 0, many))
}
