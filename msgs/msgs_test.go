package msgs_test

import (
	"math"
	"math/rand"
	"slices"
	"strings"
	"testing"

	"windhover/api"
	"windhover/frame"
	"windhover/msgs"
)

// row is a row of the document's table: a message's Kind, its frame's ID, and its fields' widths.
type row struct {
	kind   api.Kind
	id     int
	widths string
}

// rows are the document's table.
func rows() []row {
	return []row{
		{api.Heartbeat, 1, "u8 u8 u32 i16 u16"},
		{api.Status, 2, "i32 i32 i32 i32 i32 i32 i32"},
		{api.Command, 3, "u8 i32 i32 i32"},
		{api.Ack, 4, "u8 u16"},
		{api.ParamSet, 5, "u8 i32"},
		{api.ParamValue, 6, "u8 i32"},
		{api.Count, 7, "u8 u16"},
		{api.Request, 8, "u8 u16"},
		{api.Item, 9, "u8 u16 u8 i32 i32 i32 i32"},
		{api.Done, 10, "u8 u16"},
		{api.Cancel, 11, "u8"},
	}
}

// bound is what the document says of a width.
type bound struct {
	bytes, least, greatest int
}

func bounds() map[string]bound {
	return map[string]bound{
		"u8":  {1, 0, 255},
		"u16": {2, 0, 65535},
		"u32": {4, 0, 4294967295},
		"i16": {2, -32768, 32767},
		"i32": {4, -2147483648, 2147483647},
	}
}

// fields are what the document says of each of a row's fields.
func (w row) fields() []bound {
	var list []bound
	for _, name := range strings.Fields(w.widths) {
		list = append(list, bounds()[name])
	}
	return list
}

// size is how many bytes a row's payload has.
func (w row) size() int {
	n := 0
	for _, b := range w.fields() {
		n += b.bytes
	}
	return n
}

// reckonPayload is a message's payload by the document's words: each field's low byte first, 2^w more for a number below 0.
func reckonPayload(w row, numbers []int) string {
	var list []byte
	for i, b := range w.fields() {
		n := numbers[i]
		if n < 0 {
			n += power(b.bytes)
		}
		for range b.bytes {
			list = append(list, byte(n%256))
			n /= 256
		}
	}
	return string(list)
}

// power is 256 to that power.
func power(n int) int {
	p := 1
	for range n {
		p *= 256
	}
	return p
}

func say(k api.Kind, fields ...int) api.Message { return api.Message{Kind: k, Fields: fields} }

// same tells whether two messages are one.
func same(a, b api.Message) bool { return a.Kind == b.Kind && slices.Equal(a.Fields, b.Fields) }

// anyNumbers are numbers that a row's fields may be, at random, now and then at an end.
func anyNumbers(r *rand.Rand, w row) []int {
	var list []int
	for _, b := range w.fields() {
		switch r.Intn(6) {
		case 0:
			list = append(list, b.least)
		case 1:
			list = append(list, b.greatest)
		default:
			list = append(list, b.least+r.Intn(b.greatest-b.least+1))
		}
	}
	return list
}

// text is n bytes at random.
func text(r *rand.Rand, n int) string {
	list := make([]byte, n)
	for i := range list {
		list[i] = byte(r.Intn(256))
	}
	return string(list)
}

// mustEncode holds what Encode answers.
func mustEncode(t *testing.T, seq int, m api.Message, want api.Frame, e api.Errno) {
	t.Helper()
	if f, got := msgs.Encode(seq, m); f != want || got != e {
		t.Fatalf("Encode(%d, %v): %#v, %v, not %#v, %v", seq, m, f, got, want, e)
	}
}

// mustRefuse holds that Encode answers an error alone.
func mustRefuse(t *testing.T, seq int, m api.Message, e api.Errno) {
	t.Helper()
	mustEncode(t, seq, m, api.Frame{}, e)
}

// mustDecode holds what Decode answers.
func mustDecode(t *testing.T, f api.Frame, want api.Message, e api.Errno) {
	t.Helper()
	if m, got := msgs.Decode(f); !same(m, want) || got != e {
		t.Fatalf("Decode(%#v): %v, %v, not %v, %v", f, m, got, want, e)
	}
}

// mustNotRead holds that Decode answers an error alone.
func mustNotRead(t *testing.T, f api.Frame, e api.Errno) {
	t.Helper()
	mustDecode(t, f, api.Message{}, e)
}

// P5.1, P5.2: the rows of the chapter's 'Examples'.
func TestExamples(t *testing.T) {
	mustEncode(t, 7, say(api.Ack, 3, 260), api.Frame{Seq: 7, ID: 4, Payload: "\x03\x04\x01"}, api.OK)
	mustEncode(t, 0, say(api.Heartbeat, 2, 1, 65536, -2, 9), api.Frame{ID: 1, Payload: "\x02\x01\x00\x00\x01\x00\xfe\xff\x09\x00"}, api.OK)
	mustEncode(t, 0, say(api.ParamSet, 255, -2147483648), api.Frame{ID: 5, Payload: "\xff\x00\x00\x00\x80"}, api.OK)
	mustDecode(t, api.Frame{ID: 11, Payload: "\x05"}, say(api.Cancel, 5), api.OK)
	mustNotRead(t, api.Frame{ID: 11}, api.ErrSize)
	mustNotRead(t, api.Frame{ID: 12, Payload: "\x05"}, api.ErrKind)
	mustNotRead(t, api.Frame{}, api.ErrKind)
	mustDecode(t, api.Frame{ID: 8, Payload: "\x01\xff\xff"}, say(api.Request, 1, 65535), api.OK)
	mustRefuse(t, 0, say(api.Cancel, 256), api.ErrRange)
	mustRefuse(t, 0, say(api.Cancel, -1), api.ErrRange)
	mustRefuse(t, 0, say(api.Cancel), api.ErrCount)
	mustRefuse(t, 0, say(api.Cancel, 1, 2), api.ErrCount)
	mustRefuse(t, 0, say(0), api.ErrKind)
	mustRefuse(t, 256, say(api.Cancel, 1), api.ErrRange)
}

// P5.1, P5.2: one message of each Kind, its bytes all written out here, there and back.
func TestWrittenOut(t *testing.T) {
	for _, x := range []struct {
		id int
		m  api.Message
		s  string
	}{
		{1, say(api.Heartbeat, 14, 1, 4294967294, -32768, 65534), "\x0e\x01\xfe\xff\xff\xff\x00\x80\xfe\xff"},
		{2, say(api.Status, 1, -1, 256, -256, 2147483647, -2147483648, 305419896),
			"\x01\x00\x00\x00" + "\xff\xff\xff\xff" + "\x00\x01\x00\x00" + "\x00\xff\xff\xff" + "\xff\xff\xff\x7f" + "\x00\x00\x00\x80" + "\x78\x56\x34\x12"},
		{3, say(api.Command, 200, -3, 70000, 0), "\xc8" + "\xfd\xff\xff\xff" + "\x70\x11\x01\x00" + "\x00\x00\x00\x00"},
		{4, say(api.Ack, 3, 513), "\x03\x01\x02"},
		{5, say(api.ParamSet, 23, -70000), "\x17\x90\xee\xfe\xff"},
		{6, say(api.ParamValue, 0, 16909060), "\x00\x04\x03\x02\x01"},
		{7, say(api.Count, 1, 64), "\x01\x40\x00"},
		{8, say(api.Request, 2, 32768), "\x02\x00\x80"},
		{9, say(api.Item, 1, 258, 7, -1, 4, -5, 6), "\x01\x02\x01\x07" + "\xff\xff\xff\xff" + "\x04\x00\x00\x00" + "\xfb\xff\xff\xff" + "\x06\x00\x00\x00"},
		{10, say(api.Done, 9, 65535), "\x09\xff\xff"},
		{11, say(api.Cancel, 255), "\xff"},
	} {
		f := api.Frame{Seq: 77, ID: x.id, Payload: x.s}
		mustEncode(t, 77, x.m, f, api.OK)
		mustDecode(t, f, x.m, api.OK)
	}
}

// P5.1: each Kind that there is; the ones out of the table are refused, whatever else is wrong beside it.
func TestEncodeKinds(t *testing.T) {
	known := map[api.Kind]row{}
	for _, w := range rows() {
		known[w.kind] = w
	}
	for n := range 256 {
		k := api.Kind(n)
		if w, ok := known[k]; ok {
			numbers := make([]int, len(w.fields()))
			mustEncode(t, 1, say(k, numbers...), api.Frame{Seq: 1, ID: n, Payload: strings.Repeat("\x00", w.size())}, api.OK)
			continue
		}
		for count := range 9 {
			mustRefuse(t, 0, say(k, make([]int, count)...), api.ErrKind)
			mustRefuse(t, 256, say(k, slices.Repeat([]int{-1 << 40}, count)...), api.ErrKind)
		}
		mustRefuse(t, -1, say(k), api.ErrKind)
	}
}

// P5.1: another number of fields than the table says, with a seq and fields that may not be beside it too.
func TestEncodeCounts(t *testing.T) {
	for _, w := range rows() {
		right := len(w.fields())
		for count := range 20 {
			if count == right {
				continue
			}
			for _, n := range []int{0, 1, -1 << 31, 1 << 32, math.MinInt, math.MaxInt} {
				m := say(w.kind, slices.Repeat([]int{n}, count)...)
				for _, seq := range []int{0, 255, -1, 256} {
					mustRefuse(t, seq, m, api.ErrCount)
				}
			}
		}
		mustRefuse(t, 0, api.Message{Kind: w.kind}, api.ErrCount)
		mustRefuse(t, 0, say(w.kind, make([]int, right+256)...), api.ErrCount)
	}
}

// P5.1, P5.2: each field alone at its width's ends and around them: within, there and back; beyond, refused.
func TestEncodeEdges(t *testing.T) {
	r := rand.New(rand.NewSource(51))
	for _, w := range rows() {
		for i, b := range w.fields() {
			within := []int{b.least, b.least + 1, 0, 1, 127, 128, 254, 255, b.greatest - 1, b.greatest}
			if b.least < 0 {
				within = append(within, -1, -2, -127, -128, -129, -255, -256, -257)
			}
			for _, n := range within {
				if n > b.greatest || n < b.least {
					continue
				}
				numbers := anyNumbers(r, w)
				numbers[i] = n
				f := api.Frame{Seq: 5, ID: w.id, Payload: reckonPayload(w, numbers)}
				mustEncode(t, 5, say(w.kind, numbers...), f, api.OK)
				mustDecode(t, f, say(w.kind, numbers...), api.OK)
			}
			whole := power(b.bytes)
			for _, n := range []int{b.least - 1, b.greatest + 1, b.least - whole, b.greatest + whole, whole, -whole, 1 << 32, -1 << 32, 1 << 62, math.MinInt, math.MaxInt} {
				numbers := anyNumbers(r, w)
				numbers[i] = n
				mustRefuse(t, 5, say(w.kind, numbers...), api.ErrRange)
			}
		}
	}
}

// P5.1: every seq that may be, and the ones that may not, with a field that may not be beside it too.
func TestEncodeSeq(t *testing.T) {
	for _, w := range rows() {
		numbers := make([]int, len(w.fields()))
		for seq := range 256 {
			mustEncode(t, seq, say(w.kind, numbers...), api.Frame{Seq: seq, ID: w.id, Payload: strings.Repeat("\x00", w.size())}, api.OK)
		}
		wrong := slices.Clone(numbers)
		wrong[len(wrong)-1] = 1 << 33
		for _, seq := range []int{-1, 256, -255, -256, 257, 511, 65536, 1 << 32, math.MinInt, math.MaxInt} {
			mustRefuse(t, seq, say(w.kind, numbers...), api.ErrRange)
			mustRefuse(t, seq, say(w.kind, wrong...), api.ErrRange)
		}
	}
}

// P5.2: IDs out of the table, of which the lowest byte alone may be one of it, with payloads of all sizes.
func TestDecodeKinds(t *testing.T) {
	beyond := []int{0, -1, -2, -11, -255, math.MinInt, math.MinInt + 1, math.MaxInt}
	for id := 12; id < 600; id++ {
		beyond = append(beyond, id)
	}
	for id := range 12 {
		beyond = append(beyond, id-256, id+1<<16, id+1<<32, id-1<<32)
	}
	for _, id := range beyond {
		for n := range 30 {
			mustNotRead(t, api.Frame{ID: id, Payload: strings.Repeat("\x01", n)}, api.ErrKind)
		}
		mustNotRead(t, api.Frame{Seq: 256, ID: id, Payload: strings.Repeat("\x01", 300)}, api.ErrKind)
	}
}

// P5.2: payloads of every size other than the widths', whatever bytes they have.
func TestDecodeSizes(t *testing.T) {
	for _, w := range rows() {
		right := w.size()
		sizes := []int{right + 256, right + 65536, right + 1<<20}
		for n := range 300 {
			sizes = append(sizes, n)
		}
		for _, n := range sizes {
			if n == right {
				continue
			}
			mustNotRead(t, api.Frame{ID: w.id, Payload: strings.Repeat("\x00", n)}, api.ErrSize)
			mustNotRead(t, api.Frame{Seq: -1, ID: w.id, Payload: strings.Repeat("\xff", n)}, api.ErrSize)
		}
		numbers := make([]int, len(w.fields()))
		mustDecode(t, api.Frame{ID: w.id, Payload: strings.Repeat("\x00", right)}, say(w.kind, numbers...), api.OK)
	}
}

// P5.1, P5.2: every number of 8 and of 16 bits, signed or not.
func TestShortNumbers(t *testing.T) {
	for n := range 256 {
		f := api.Frame{ID: 11, Payload: string([]byte{byte(n)})}
		mustEncode(t, 0, say(api.Cancel, n), f, api.OK)
		mustDecode(t, f, say(api.Cancel, n), api.OK)
	}
	for n := range 1 << 16 {
		two := string([]byte{byte(n % 256), byte(n / 256)})
		f := api.Frame{ID: 7, Payload: "\x02" + two}
		mustEncode(t, 0, say(api.Count, 2, n), f, api.OK)
		mustDecode(t, f, say(api.Count, 2, n), api.OK)
		signed := n
		if n >= 32768 {
			signed = n - 65536
		}
		f = api.Frame{ID: 1, Payload: "\x00\x00\x00\x00\x00\x00" + two + two}
		mustEncode(t, 0, say(api.Heartbeat, 0, 0, 0, signed, n), f, api.OK)
		mustDecode(t, f, say(api.Heartbeat, 0, 0, 0, signed, n), api.OK)
	}
}

// P5.1, P5.2: numbers of 32 bits, signed or not, with each byte at each place.
func TestLongNumbers(t *testing.T) {
	for place := range 4 {
		for b := range 256 {
			for _, others := range []byte{0x00, 0xff, 0x7f, 0x80} {
				four := []byte{others, others, others, others}
				four[place] = byte(b)
				n := int(four[0]) + 256*int(four[1]) + 65536*int(four[2]) + 16777216*int(four[3])
				f := api.Frame{ID: 1, Payload: "\x00\x00" + string(four) + "\x00\x00\x00\x00"}
				mustEncode(t, 0, say(api.Heartbeat, 0, 0, n, 0, 0), f, api.OK)
				mustDecode(t, f, say(api.Heartbeat, 0, 0, n, 0, 0), api.OK)
				if n >= 2147483648 {
					n -= 4294967296
				}
				f = api.Frame{ID: 6, Payload: "\x09" + string(four)}
				mustEncode(t, 0, say(api.ParamValue, 9, n), f, api.OK)
				mustDecode(t, f, say(api.ParamValue, 9, n), api.OK)
			}
		}
	}
}

// P5.2: Seq is not looked at, whatever it is.
func TestDecodeAnySeq(t *testing.T) {
	for _, seq := range []int{-1, 0, 1, 255, 256, 1 << 40, math.MinInt, math.MaxInt} {
		mustDecode(t, api.Frame{Seq: seq, ID: 4, Payload: "\x03\x04\x01"}, say(api.Ack, 3, 260), api.OK)
		mustNotRead(t, api.Frame{Seq: seq, ID: 4, Payload: "\x03\x04"}, api.ErrSize)
		mustNotRead(t, api.Frame{Seq: seq, ID: 40, Payload: "\x03\x04\x01"}, api.ErrKind)
	}
}

// P5.3: Decode of what Encode answers is the message, and that is the bytes that the document says.
func TestMessagesThereAndBack(t *testing.T) {
	r := rand.New(rand.NewSource(52))
	for _, w := range rows() {
		for range 3000 {
			numbers, seq := anyNumbers(r, w), r.Intn(256)
			f, e := msgs.Encode(seq, say(w.kind, numbers...))
			if want := (api.Frame{Seq: seq, ID: w.id, Payload: reckonPayload(w, numbers)}); e != api.OK || f != want {
				t.Fatalf("%v %v: %#v, %v, not %#v", w, numbers, f, e, want)
			}
			mustDecode(t, f, say(w.kind, numbers...), api.OK)
		}
	}
}

// P5.3: a frame that Decode reads is what Encode makes of its message and its Seq.
func TestFramesThereAndBack(t *testing.T) {
	r := rand.New(rand.NewSource(53))
	for _, w := range rows() {
		for range 3000 {
			f := api.Frame{Seq: r.Intn(256), ID: w.id, Payload: text(r, w.size())}
			m, e := msgs.Decode(f)
			if e != api.OK || m.Kind != w.kind || len(m.Fields) != len(w.fields()) {
				t.Fatalf("%#v: %v, %v", f, m, e)
			}
			mustEncode(t, f.Seq, m, f, api.OK)
			mustRefuse(t, f.Seq+256, m, api.ErrRange)
		}
	}
}

// P5.3: no payload has more than 64 bytes.
func TestPayloadSizes(t *testing.T) {
	for _, w := range rows() {
		var greatest []int
		for _, b := range w.fields() {
			greatest = append(greatest, b.greatest)
		}
		f, e := msgs.Encode(255, say(w.kind, greatest...))
		if e != api.OK || len(f.Payload) != w.size() || len(f.Payload) > 64 {
			t.Errorf("%v: %#v, %v", w, f, e)
		}
	}
}

// P4.4, P5.3: what one end of the link encodes, the other end reads as it was, in any pieces.
func TestOverTheLink(t *testing.T) {
	r := rand.New(rand.NewSource(54))
	for range 300 {
		var sent []api.Message
		var seqs []int
		var line strings.Builder
		for range r.Intn(20) {
			w := rows()[r.Intn(len(rows()))]
			m, seq := say(w.kind, anyNumbers(r, w)...), r.Intn(256)
			line.WriteString(strings.ReplaceAll(text(r, r.Intn(4)), "\xfd", "\xfc"))
			line.WriteString(onTheLine(t, seq, m))
			sent, seqs = append(sent, m), append(seqs, seq)
		}
		reader := frame.New()
		var read []api.Frame
		for s := line.String(); len(s) > 0; {
			n := min(1+r.Intn(9), len(s))
			read = append(read, reader.Feed(s[:n])...)
			s = s[n:]
		}
		if len(read) != len(sent) || reader.Bad() != 0 || reader.Held() != 0 {
			t.Fatal(len(read), len(sent), reader.Bad(), reader.Held())
		}
		for i, f := range read {
			mustDecode(t, f, sent[i], api.OK)
			if f.Seq != seqs[i] {
				t.Fatalf("%#v: not of seq %d", f, seqs[i])
			}
		}
	}
}

// onTheLine is a sound message as a frame's bytes.
func onTheLine(t *testing.T, seq int, m api.Message) string {
	t.Helper()
	f, e := msgs.Encode(seq, m)
	if e != api.OK {
		t.Fatalf("%v: %v", m, e)
	}
	s, e := frame.Encode(f)
	if e != api.OK {
		t.Fatalf("%#v: %v", f, e)
	}
	return s
}

// R1: whatever comes in is answered, and beside an error stands nothing else.
func TestAnything(t *testing.T) {
	r := rand.New(rand.NewSource(55))
	edges := []int{math.MinInt, -1 << 31, -1, 0, 1, 255, 256, 65535, 65536, 1 << 31, 1 << 32, math.MaxInt}
	for range 20000 {
		var numbers []int
		for range r.Intn(9) {
			numbers = append(numbers, edges[r.Intn(len(edges))])
		}
		f, e := msgs.Encode(edges[r.Intn(len(edges))], say(api.Kind(r.Intn(256)), numbers...))
		if e != api.OK && f != (api.Frame{}) {
			t.Fatalf("%#v, %v", f, e)
		}
		m, e := msgs.Decode(api.Frame{Seq: edges[r.Intn(len(edges))], ID: r.Intn(16) - 2, Payload: text(r, r.Intn(30))})
		if e != api.OK && !same(m, api.Message{}) {
			t.Fatalf("%v, %v", m, e)
		}
	}
}

// R2: a list that is handed in is not written into, nor its spare room, and that room is not read.
func TestFieldsAreLeftAlone(t *testing.T) {
	for _, w := range rows() {
		n := len(w.fields())
		list := slices.Repeat([]int{7}, n)
		list = append(list, -1<<40, -1<<40)
		before := slices.Clone(list)
		if _, e := msgs.Encode(0, say(w.kind, list[:n]...)); e != api.OK {
			t.Error(w, e)
		}
		mustRefuse(t, 0, say(w.kind, list[:n+1]...), api.ErrCount)
		mustRefuse(t, 0, say(w.kind, list[:n-1]...), api.ErrCount)
		if !slices.Equal(list, before) {
			t.Error(w, list)
		}
	}
}

// R2: each answer is new memory: writing into one, to its last spare room, changes no other.
func TestAnswersShareNothing(t *testing.T) {
	for _, w := range rows() {
		f := api.Frame{ID: w.id, Payload: strings.Repeat("\x05", w.size())}
		a, _ := msgs.Decode(f)
		b, _ := msgs.Decode(f)
		want := slices.Clone(b.Fields)
		room := a.Fields[:cap(a.Fields)]
		for i := range room {
			room[i] = -99
		}
		if !slices.Equal(b.Fields, want) {
			t.Error(w, b)
		}
		mustDecode(t, f, say(w.kind, want...), api.OK)
		mustEncode(t, 0, b, f, api.OK)
	}
}
