package pilot

import (
	"errors"

	"windhover/api"
	"windhover/frame"
	"windhover/msgs"
	"windhover/upload"
)

// Why an order is not followed.
var (
	errUnknown = errors.New("no such order")
	errDenied  = errors.New("not now")
)

// link is what is heard and said over the link.
type link struct {
	reader  *frame.Reader
	desks   []desk
	age     int // ticks since a message was heard
	refused int // frames that are no messages
	seq     int
	out     []byte
}

// desk takes lists of one sort, and knows how they come in force.
type desk struct {
	*upload.Desk
	what  int
	adopt func(rows [][]int) api.Errno
}

// newLink is a link over which nothing has been heard.
func newLink() link {
	return link{reader: frame.New(), age: api.MaxBad}
}

// newDesk is a desk; its numbers may be, so that there is no error.
func newDesk(what, most int, adopt func(rows [][]int) api.Errno) desk {
	d, _ := upload.New(what, most)
	return desk{Desk: d, what: what, adopt: adopt}
}

// receive is the messages of a tick's bytes.
func (l *link) receive(data string) []api.Message {
	var heard []api.Message
	l.age = older(l.age)
	for _, f := range l.reader.Feed(data) {
		m, e := msgs.Decode(f)
		if e != api.OK {
			l.refused = min(l.refused+1, api.MaxBad)
			continue
		}
		l.age = 0
		heard = append(heard, m)
	}
	return heard
}

// send says messages, one behind the other. What is said always fits its fields.
func (l *link) send(list ...api.Message) {
	for _, m := range list {
		f, _ := msgs.Encode(l.seq, m)
		data, _ := frame.Encode(f)
		l.out = append(l.out, data...)
		l.seq = (l.seq + 1) % 256
	}
}

// say says one message.
func (l *link) say(kind api.Kind, fields ...int) {
	l.send(api.Message{Kind: kind, Fields: fields})
}

// sent is what was said since it was last asked.
func (l *link) sent() string {
	data := string(l.out)
	l.out = nil
	return data
}

// verdict is what an Ack says of an order.
func verdict(e error) int {
	switch {
	case errors.Is(e, errUnknown):
		return 2
	case errors.Is(e, errDenied):
		return 1
	}
	return 0
}

// orderOf is the wish that a Command's op stands for.
func orderOf(op int) (event int, e error) {
	wishes := [...]int{
		api.WantArm, api.WantDisarm, api.WantTakeoff, api.WantHold, api.WantPosition,
		api.WantAltitude, api.WantAuto, api.WantReturn, api.WantLand,
	}
	if op < 1 || op > len(wishes) {
		return 0, errUnknown
	}
	return wishes[op-1], nil
}
