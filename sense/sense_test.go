package sense_test

import (
	"math"
	"math/rand"
	"slices"
	"strings"
	"testing"

	"windhover/api"
	"windhover/crc"
	"windhover/sense"
)

// a5 is the byte that a frame begins with.
const a5 = "\xa5"

// row is a row of the document's table: a sensor, its frames' kind, and its fields' widths.
type row struct {
	s      api.Sensor
	kind   int
	widths string
}

// rows are the document's table.
func rows() []row {
	return []row{
		{api.Imu, 1, "u16 i16 i16 i16"},
		{api.Baro, 2, "i32 i32"},
		{api.Gnss, 3, "i32 i32 i32 i32"},
		{api.Rc, 4, "i16 i16 i16 i16 u8"},
		{api.Esc, 5, "u8 i32"},
	}
}

// strangers are sensors that are none of the table's.
func strangers() []api.Sensor {
	list := []api.Sensor{0}
	for n := 6; n < 256; n++ {
		list = append(list, api.Sensor(n))
	}
	return list
}

// bound is what the document says of a width.
type bound struct {
	bytes, least, greatest int
}

func bounds() map[string]bound {
	return map[string]bound{
		"u8":  {1, 0, 255},
		"u16": {2, 0, 65535},
		"i16": {2, -32768, 32767},
		"i32": {4, -2147483648, 2147483647},
	}
}

// fields are what the document says of each of a row's fields.
func (w row) fields() []bound {
	var list []bound
	for _, name := range strings.Fields(w.widths) {
		list = append(list, bounds()[name])
	}
	return list
}

// long is how many bytes a frame of the row has.
func (w row) long() int {
	n := 1 + 1 + 2
	for _, b := range w.fields() {
		n += b.bytes
	}
	return n
}

// power is 256 to that power.
func power(n int) int {
	p := 1
	for range n {
		p *= 256
	}
	return p
}

// digits are a number's bytes, from 0 on, the low one first.
func digits(n, bytes int) string {
	var list []byte
	for range bytes {
		list = append(list, byte(n%256))
		n /= 256
	}
	return string(list)
}

// seal is a frame of any kind byte and any fields' bytes, with the check that is right.
func seal(kind int, body string) string {
	said := digits(kind, 1) + body
	return a5 + said + digits(int(crc.Sum(said)), 2)
}

// reckonBody is a frame's fields' bytes by the document's words: 2^w more for a number below 0.
func reckonBody(w row, numbers []int) string {
	out := ""
	for i, b := range w.fields() {
		n := numbers[i]
		if n < 0 {
			n += power(b.bytes)
		}
		out += digits(n, b.bytes)
	}
	return out
}

// reckonFrame is a frame's bytes by the document's words.
func reckonFrame(w row, numbers []int) string { return seal(w.kind, reckonBody(w, numbers)) }

// reckonFields are the numbers whose bytes a frame's fields are, by the document's words.
func reckonFields(w row, body string) []int {
	var list []int
	at := 0
	for _, b := range w.fields() {
		n := 0
		for k := b.bytes - 1; k >= 0; k-- {
			n = n*256 + int(body[at+k])
		}
		if n > b.greatest {
			n -= power(b.bytes)
		}
		list = append(list, n)
		at += b.bytes
	}
	return list
}

// heard is what Read answers.
type heard struct {
	fields []int
	is     bool
	bad    int
}

// reckonRead goes through the bytes by the document's words, place by place.
func reckonRead(w row, data string) heard {
	var out heard
	for at := 0; at < len(data); {
		if data[at] != 0xa5 {
			at++
			continue
		}
		end := at + w.long()
		if end <= len(data) && data[at:end] == seal(w.kind, data[at+2:end-2]) {
			out.fields, out.is = reckonFields(w, data[at+2:end-2]), true
			at = end
			continue
		}
		out.bad++
		at++
	}
	return out
}

// marks is how many A5 there are.
func marks(data string) int { return strings.Count(data, a5) }

// noughts are fields of a row that are all 0.
func (w row) noughts() []int { return make([]int, len(w.fields())) }

// with are noughts but for one field.
func (w row) with(i, n int) []int {
	list := w.noughts()
	list[i] = n
	return list
}

// withCheck is a frame of the row whose check is that number: the lowest two bytes of its second field, all of them tried, lead to each check.
func withCheck(t *testing.T, w row, sum int, numbers []int) string {
	t.Helper()
	body := []byte(reckonBody(w, numbers))
	at := w.fields()[0].bytes
	for n := range 65536 {
		copy(body[at:], digits(n, 2))
		if f := seal(w.kind, string(body)); f[len(f)-2:] == digits(sum, 2) {
			return f
		}
	}
	t.Fatalf("no frame of sensor %d has the check %x", w.s, sum)
	return ""
}

// anyNumbers are numbers that a row's fields may be, at random, now and then at an end.
func anyNumbers(r *rand.Rand, w row) []int {
	var list []int
	for _, b := range w.fields() {
		switch r.Intn(6) {
		case 0:
			list = append(list, b.least)
		case 1:
			list = append(list, b.greatest)
		case 2:
			list = append(list, max(-1, b.least))
		default:
			list = append(list, b.least+r.Intn(b.greatest-b.least+1))
		}
	}
	return list
}

// text is n bytes at random.
func text(r *rand.Rand, n int) string {
	list := make([]byte, n)
	for i := range list {
		list[i] = byte(r.Intn(256))
	}
	return string(list)
}

// quiet is n bytes at random, none of them A5.
func quiet(r *rand.Rand, n int) string { return strings.ReplaceAll(text(r, n), a5, "\x5a") }

// spoil changes a byte.
func spoil(data string, at int, by byte) string {
	return data[:at] + string([]byte{data[at] ^ by}) + data[at+1:]
}

// mustWrite holds what Write answers.
func mustWrite(t *testing.T, want string, s api.Sensor, fields ...int) {
	t.Helper()
	if got, e := sense.Write(s, fields...); got != want || e != api.OK {
		t.Fatalf("Write(%d, %v): % x, %v, not % x", s, fields, got, e, want)
	}
}

// mustRefuse holds that Write answers an error alone.
func mustRefuse(t *testing.T, want api.Errno, s api.Sensor, fields ...int) {
	t.Helper()
	if got, e := sense.Write(s, fields...); got != "" || e != want {
		t.Fatalf("Write(%d, %v): % x, %v, not %v", s, fields, got, e, want)
	}
}

// mustRead holds what Read answers of bytes with a good frame.
func mustRead(t *testing.T, s api.Sensor, data string, bad int, want ...int) {
	t.Helper()
	mustHear(t, s, data, heard{want, true, bad})
}

// mustNotRead holds that Read finds no good frame.
func mustNotRead(t *testing.T, s api.Sensor, data string, bad int) {
	t.Helper()
	mustHear(t, s, data, heard{nil, false, bad})
}

func mustHear(t *testing.T, s api.Sensor, data string, want heard) {
	t.Helper()
	fields, is, bad := sense.Read(s, data)
	if !slices.Equal(fields, want.fields) || is != want.is || bad != want.bad {
		t.Fatalf("Read(%d, % x): %v, %v, %d, not %v", s, data, fields, is, bad, want)
	}
}

// P11.1, P11.2: the rows of the chapter's 'Examples'.
func TestExamples(t *testing.T) {
	that, e := sense.Write(api.Esc, 3, -2)
	if said := "\x05\x03\xfe\xff\xff\xff"; e != api.OK || that != a5+said+digits(int(crc.Sum(said)), 2) {
		t.Fatalf("% x, %v", that, e)
	}
	other, e := sense.Write(api.Esc, 0, 7)
	if e != api.OK {
		t.Fatal(e)
	}
	mustRead(t, api.Esc, that, 0, 3, -2)
	mustNotRead(t, api.Baro, that, 1)
	mustRead(t, api.Esc, "\x00\xa5"+that+"\xa5\x05", 2, 3, -2)
	mustRead(t, api.Esc, that+other, 0, 0, 7)
	mustNotRead(t, api.Esc, that[:len(that)-1], 1)
	mustNotRead(t, 0, that, 0)
	mustNotRead(t, api.Rc, "", 0)
	mustRefuse(t, api.ErrKind, 6, 1)
	mustRefuse(t, api.ErrCount, api.Esc, 1)
	mustRefuse(t, api.ErrRange, api.Esc, 256, 0)
	mustRefuse(t, api.ErrRange, api.Imu, -1, 0, 0, 0)
}

// P11.1, P11.2: one frame of each sensor, its bytes all written out here, there and back.
func TestWrittenOut(t *testing.T) {
	for _, x := range []struct {
		s      api.Sensor
		fields []int
		said   string
	}{
		{api.Imu, []int{65534, -2, 258, -32768}, "\x01" + "\xfe\xff" + "\xfe\xff" + "\x02\x01" + "\x00\x80"},
		{api.Baro, []int{305419896, -70000}, "\x02" + "\x78\x56\x34\x12" + "\x90\xee\xfe\xff"},
		{api.Gnss, []int{-2147483648, 2147483647, 1, -256}, "\x03" + "\x00\x00\x00\x80" + "\xff\xff\xff\x7f" + "\x01\x00\x00\x00" + "\x00\xff\xff\xff"},
		{api.Rc, []int{1000, -1000, 32767, -1, 200}, "\x04" + "\xe8\x03" + "\x18\xfc" + "\xff\x7f" + "\xff\xff" + "\xc8"},
		{api.Esc, []int{8, 16909060}, "\x05" + "\x08" + "\x04\x03\x02\x01"},
	} {
		sum := crc.Sum(x.said)
		data := a5 + x.said + string([]byte{byte(sum & 255), byte(sum >> 8)})
		mustWrite(t, data, x.s, x.fields...)
		mustRead(t, x.s, data, 0, x.fields...)
	}
}

// P11.1, P11.2: sensors that are none of the table's, whatever else comes with them.
func TestStrangers(t *testing.T) {
	frames := ""
	for _, w := range rows() {
		frames += reckonFrame(w, w.noughts())
	}
	for _, s := range strangers() {
		for n := range 7 {
			mustRefuse(t, api.ErrKind, s, make([]int, n)...)
		}
		mustRefuse(t, api.ErrKind, s, math.MaxInt, math.MinInt)
		for _, data := range []string{"", a5, a5 + a5, frames, seal(int(s), ""), seal(int(s), "\x00"), seal(int(s), "\x01\x02\x03\x04")} {
			mustNotRead(t, s, data, 0)
		}
	}
}

// P11.2: no field, one too few, one too many and more, of each sensor, be they what they may or not.
func TestCounts(t *testing.T) {
	for _, w := range rows() {
		for n := range 9 {
			if n == len(w.fields()) {
				mustWrite(t, reckonFrame(w, w.noughts()), w.s, w.noughts()...)
				continue
			}
			mustRefuse(t, api.ErrCount, w.s, make([]int, n)...)
			mustRefuse(t, api.ErrCount, w.s, slices.Repeat([]int{math.MaxInt}, n)...)
		}
		mustRefuse(t, api.ErrCount, w.s)
		mustRefuse(t, api.ErrCount, w.s, make([]int, 5000)...)
	}
}

// P11.2: each field at its ends and within them, one beyond either end, and at the ends of an int; there and back.
func TestEnds(t *testing.T) {
	for _, w := range rows() {
		for i, b := range w.fields() {
			for _, n := range []int{b.least, b.least + 1, max(-1, b.least), 0, 1, 127, 128, b.greatest / 2, b.greatest/2 + 1, b.greatest - 1, b.greatest} {
				if n < b.least || n > b.greatest {
					continue
				}
				data := reckonFrame(w, w.with(i, n))
				mustWrite(t, data, w.s, w.with(i, n)...)
				mustRead(t, w.s, data, 0, w.with(i, n)...)
			}
			for _, n := range []int{b.least - 1, b.greatest + 1, b.least - power(b.bytes), b.greatest + power(b.bytes), math.MinInt, math.MinInt + 1, math.MaxInt - 1, math.MaxInt} {
				mustRefuse(t, api.ErrRange, w.s, w.with(i, n)...)
			}
		}
	}
}

// P11.2, R1: all sets of reasons to refuse; the one that the promise names first is answered.
func TestOrder(t *testing.T) {
	for _, w := range rows() {
		for faults := range 8 {
			s, fields, want := w.s, w.noughts(), api.OK
			if faults&1 != 0 {
				fields[len(fields)-1], want = math.MaxInt, api.ErrRange
			}
			if faults&2 != 0 {
				fields, want = append(fields, math.MinInt), api.ErrCount
			}
			if faults&4 != 0 {
				s, want = 6, api.ErrKind
			}
			if want == api.OK {
				mustWrite(t, reckonFrame(w, fields), s, fields...)
			} else {
				mustRefuse(t, want, s, fields...)
			}
		}
	}
}

// P11.2: all faulty ones among a frame's fields at once, and each set of them.
func TestFaultyFields(t *testing.T) {
	for _, w := range rows() {
		for set := range 1 << len(w.fields()) {
			list := w.noughts()
			for i, b := range w.fields() {
				if set>>i&1 != 0 {
					list[i] = b.greatest + 1
				}
			}
			if set == 0 {
				mustWrite(t, reckonFrame(w, list), w.s, list...)
			} else {
				mustRefuse(t, api.ErrRange, w.s, list...)
			}
		}
	}
}

// P11.1: no bytes, bytes without an A5, A5 alone and several in a row.
func TestNoFrame(t *testing.T) {
	r := rand.New(rand.NewSource(1))
	for _, w := range rows() {
		mustNotRead(t, w.s, "", 0)
		for n := range 60 {
			mustNotRead(t, w.s, quiet(r, n), 0)
			mustNotRead(t, w.s, strings.Repeat(a5, n), n)
			mustNotRead(t, w.s, strings.Repeat(a5+digits(w.kind, 1), n), n)
		}
		mustNotRead(t, w.s, reckonFrame(w, w.noughts())[1:], 0)
	}
}

// P11.1: bytes that end too early, at each place of a frame, alone and behind a good one.
func TestCutOff(t *testing.T) {
	for _, w := range rows() {
		first, second := w.with(1, 77), w.with(0, 1)
		whole, next := reckonFrame(w, first), reckonFrame(w, second)
		for n := range len(next) {
			cut := next[:n]
			mustNotRead(t, w.s, cut, marks(cut))
			mustRead(t, w.s, whole+cut, marks(cut), first...)
			mustRead(t, w.s, whole+whole+cut, marks(cut), first...)
		}
		mustRead(t, w.s, whole+next, 0, second...)
	}
}

// P11.1: each byte of a frame, each way spoiled: it is not read, and its A5 is bad.
func TestSpoiled(t *testing.T) {
	r := rand.New(rand.NewSource(2))
	for _, w := range rows() {
		for range 4 {
			whole := reckonFrame(w, anyNumbers(r, w))
			for at := range whole {
				for by := 1; by < 256; by++ {
					data := spoil(whole, at, byte(by))
					mustNotRead(t, w.s, data, marks(data))
				}
			}
		}
	}
}

// P11.1: a check that is wrong in its low byte, in its high byte, in both, the other way round, or of other bytes.
func TestWrongCheck(t *testing.T) {
	for _, w := range rows() {
		body := reckonBody(w, w.with(1, 99))
		said := digits(w.kind, 1) + body
		sum := int(crc.Sum(said))
		for _, n := range []int{sum ^ 1, sum ^ 0x100, sum ^ 0xff, sum ^ 0xff00, sum ^ 0xffff, sum<<8&0xff00 | sum>>8, int(crc.Sum(body)), int(crc.Sum(a5 + said)), 0, 0xffff} {
			data := a5 + said + digits(n, 2)
			mustNotRead(t, w.s, data, marks(data))
		}
		mustRead(t, w.s, a5+said+digits(sum, 2), 0, w.with(1, 99)...)
	}
}

// P11.1, P11.3: a frame of another sensor is not read, nor one of the sensor's length that says another kind, with the check right.
func TestOtherSensor(t *testing.T) {
	r := rand.New(rand.NewSource(3))
	for _, w := range rows() {
		for _, o := range rows() {
			for range 50 {
				numbers := anyNumbers(r, o)
				data := reckonFrame(o, numbers)
				mustWrite(t, data, o.s, numbers...)
				if o.s == w.s {
					mustRead(t, w.s, data, 0, numbers...)
				} else {
					mustNotRead(t, w.s, data, marks(data))
				}
			}
		}
		for kind := range 256 {
			if data := seal(kind, reckonBody(w, w.noughts())); kind != w.kind {
				mustNotRead(t, w.s, data, marks(data))
			}
		}
		short, wide := reckonBody(w, w.noughts())[1:], reckonBody(w, w.noughts())+"\x00"
		mustNotRead(t, w.s, seal(w.kind, short), marks(seal(w.kind, short)))
		mustNotRead(t, w.s, seal(w.kind, wide), marks(seal(w.kind, wide)))
	}
}

// P11.1: an A5 within the fields or the check of a good frame is not looked at.
func TestMarkWithin(t *testing.T) {
	for _, w := range rows() {
		plain := reckonBody(w, w.noughts())
		for at := range plain {
			body := plain[:at] + a5 + plain[at+1:]
			data := seal(w.kind, body)
			mustRead(t, w.s, data, 0, reckonFields(w, body)...)
			mustRead(t, w.s, data+data, 0, reckonFields(w, body)...)
		}
		full := strings.Repeat(a5, len(plain))
		mustRead(t, w.s, seal(w.kind, full), 0, reckonFields(w, full)...)
		for _, sum := range []int{0x00a5, 0xa500, 0xa5a5, w.kind<<8 | 0xa5, 0xa500 | w.kind} {
			data := withCheck(t, w, sum, w.noughts())
			numbers := reckonFields(w, data[2:len(data)-2])
			mustWrite(t, data, w.s, numbers...)
			mustRead(t, w.s, data, 0, numbers...)
			mustRead(t, w.s, data+a5, 1, numbers...)
		}
	}
}

// P11.1: a good frame that begins within a bad one's bytes is read, at each place where it may begin.
func TestGoodWithinBad(t *testing.T) {
	r := rand.New(rand.NewSource(4))
	for _, w := range rows() {
		for range 20 {
			numbers := anyNumbers(r, w)
			good, bad := reckonFrame(w, numbers), reckonFrame(w, anyNumbers(r, w))
			for n := 1; n < len(bad); n++ {
				mustRead(t, w.s, bad[:n]+good, marks(bad[:n]), numbers...)
			}
		}
	}
}

// P11.1: a frame that begins within a good one's bytes and ends behind them is not read, since reading goes on behind the good one; once that one is spoiled ahead of it, it is.
func TestOverlap(t *testing.T) {
	for _, w := range rows() {
		for at := 2; at < w.long(); at++ {
			first := holding(t, w, at)
			spoilt := spoil(first, 1, 0x40)
			later := a5 + digits(w.kind, 1) + first[min(at+2, len(first)):]
			body := later[2:] + strings.Repeat("\x33", w.long()-2-len(later))
			second := seal(w.kind, body)
			if second[:len(first)-at] != first[at:] {
				t.Fatalf("sensor %d, place %d: % x is no end of % x", w.s, at, first[at:], second)
			}
			tail := second[len(first)-at:]
			mustRead(t, w.s, first+tail, marks(tail), reckonFields(w, first[2:len(first)-2])...)
			mustRead(t, w.s, spoilt+tail, marks(spoilt[:at]), reckonFields(w, body)...)
		}
	}
}

// holding is a good frame that holds an A5, and the kind behind it as far as there is room, from that place on.
func holding(t *testing.T, w row, at int) string {
	t.Helper()
	n := w.long()
	body := []byte(strings.Repeat("\x11", n-4))
	pair := a5 + digits(w.kind, 1)
	switch {
	case at <= n-4:
		copy(body[at-2:], pair)
		return seal(w.kind, string(body))
	case at == n-3:
		copy(body[at-2:], a5)
		for n := range 256 {
			body[0] = byte(n)
			for m := range 256 {
				body[1] = byte(m)
				if f := seal(w.kind, string(body)); f[at:at+2] == pair {
					return f
				}
			}
		}
		t.Fatal("no such frame")
		return ""
	case at == n-2:
		return withCheck(t, w, 0xa5|w.kind<<8, w.noughts())
	default:
		return withCheck(t, w, 0xa500|0x11, w.noughts())
	}
}

// P11.1: an A5 that is bad just ahead of a good frame, just behind one, and on both sides.
func TestBadBeside(t *testing.T) {
	for _, w := range rows() {
		numbers := w.with(1, 5)
		good := reckonFrame(w, numbers)
		for n := range 5 {
			some := strings.Repeat(a5, n)
			mustRead(t, w.s, some+good, n, numbers...)
			mustRead(t, w.s, good+some, n, numbers...)
			mustRead(t, w.s, some+good+some, 2*n, numbers...)
			mustRead(t, w.s, some+"\x00"+good+"\x00"+some, 2*n, numbers...)
		}
	}
}

// P11.1, P11.3: two and three good frames on end, with other bytes and bad A5 between them; the last one counts.
func TestSeveral(t *testing.T) {
	for _, w := range rows() {
		one, two, three := w.with(0, 3), w.with(1, 2), w.with(0, 1)
		a, b, c := reckonFrame(w, one), reckonFrame(w, two), reckonFrame(w, three)
		for _, gap := range []string{"", "\x00", "\x01\x02\x03", a5, a5 + a5, "\x00" + a5 + "\x00", a5 + digits(w.kind, 1), spoil(a, 2, 1), a[:len(a)-1]} {
			n := marks(gap)
			mustRead(t, w.s, a+gap+b, n, two...)
			mustRead(t, w.s, b+gap+a, n, one...)
			mustRead(t, w.s, a+gap+b+gap+c, 2*n, three...)
			mustRead(t, w.s, c+gap+b+gap+a, 2*n, one...)
			mustRead(t, w.s, gap+c+gap+b+gap+b+gap, 4*n, two...)
		}
	}
}

// P11.1: all rows of up to five pieces, good and bad, against the reckoning.
func TestPieces(t *testing.T) {
	for _, w := range rows() {
		good := reckonFrame(w, w.with(0, 1))
		pieces := []string{
			"\x00", a5, digits(w.kind, 1),
			good, withCheck(t, w, 0xa5a5, w.with(0, 2)),
			spoil(good, len(good)-1, 1), good[:len(good)-2], good[2:],
		}
		n := len(pieces)
		for k := range n * n * n * n * n {
			data := ""
			for left := k; left > 0; left /= n {
				data += pieces[left%n]
			}
			mustHear(t, w.s, data, reckonRead(w, data))
		}
	}
}

// P11.3: what is written is read, also behind bytes that are no A5 and behind other frames of the sensor, and with bytes that are no A5 behind it.
func TestThereAndBack(t *testing.T) {
	r := rand.New(rand.NewSource(5))
	for _, w := range rows() {
		for range 3000 {
			numbers := anyNumbers(r, w)
			data, e := sense.Write(w.s, numbers...)
			if e != api.OK || data != reckonFrame(w, numbers) {
				t.Fatalf("Write(%d, %v): % x, %v", w.s, numbers, data, e)
			}
			before := quiet(r, r.Intn(30))
			for range r.Intn(4) {
				other, e := sense.Write(w.s, anyNumbers(r, w)...)
				if e != api.OK {
					t.Fatal(e)
				}
				before += other + quiet(r, r.Intn(4))
			}
			mustRead(t, w.s, data, 0, numbers...)
			mustRead(t, w.s, before+data, 0, numbers...)
			mustRead(t, w.s, before+data+quiet(r, r.Intn(30)), 0, numbers...)
		}
	}
}

// litter is bytes at random that have much of frames in them.
func litter(r *rand.Rand, w row) string {
	data := ""
	for range r.Intn(8) {
		good := reckonFrame(w, anyNumbers(r, w))
		other := rows()[r.Intn(5)]
		switch r.Intn(8) {
		case 0:
			data += good
		case 1:
			data += spoil(good, r.Intn(len(good)), byte(1+r.Intn(255)))
		case 2:
			data += good[:r.Intn(len(good))]
		case 3:
			data += good[r.Intn(len(good)):]
		case 4:
			data += a5 + digits(w.kind, 1)
		case 5:
			data += reckonFrame(other, anyNumbers(r, other))
		case 6:
			data += strings.Repeat(a5, r.Intn(4))
		default:
			data += text(r, r.Intn(20))
		}
	}
	return data
}

// P11.1, P11.3: any bytes: as reckoned; what is read stands there as it is written, and there are no more bad A5 than A5.
func TestAnyBytes(t *testing.T) {
	r := rand.New(rand.NewSource(6))
	read, missed := 0, 0
	for range 60000 {
		w := rows()[r.Intn(5)]
		data := litter(r, w)
		want := reckonRead(w, data)
		mustHear(t, w.s, data, want)
		fields, is, bad := sense.Read(w.s, data)
		if bad < 0 || bad > marks(data) {
			t.Fatalf("Read(%d, % x): %d bad of %d", w.s, data, bad, marks(data))
		}
		if !is {
			missed++
			continue
		}
		read++
		if again, e := sense.Write(w.s, fields...); e != api.OK || !strings.Contains(data, again) {
			t.Fatalf("Read(%d, % x): %v stands nowhere: % x, %v", w.s, data, fields, again, e)
		}
	}
	if read < 10000 || missed < 10000 {
		t.Fatalf("too few to tell: %d, %d", read, missed)
	}
}

// P11.2, R1: any sensor and any numbers, as many as may be: an error as the promise says, or the bytes.
func TestAnyFields(t *testing.T) {
	r := rand.New(rand.NewSource(7))
	said := map[api.Errno]int{}
	for range 60000 {
		s := api.Sensor(r.Intn(8))
		fields := make([]int, r.Intn(7))
		if int(s) >= 1 && s <= 5 && r.Intn(3) > 0 {
			fields = anyNumbers(r, rows()[s-1])
		}
		for i := range fields {
			if r.Intn(8) == 0 {
				fields[i] = []int{-1, 256, 65536, -32769, 32768, 1 << 31, -1<<31 - 1, math.MaxInt, math.MinInt, r.Int()}[r.Intn(10)]
			}
		}
		want, e := reckonWrite(s, fields)
		said[e]++
		if e == api.OK {
			mustWrite(t, want, s, fields...)
		} else {
			mustRefuse(t, e, s, fields...)
		}
	}
	for _, e := range []api.Errno{api.OK, api.ErrKind, api.ErrCount, api.ErrRange} {
		if said[e] < 1000 {
			t.Fatalf("too few to tell: %v", said)
		}
	}
}

// reckonWrite is what Write answers, by the document's words.
func reckonWrite(s api.Sensor, fields []int) (string, api.Errno) {
	for _, w := range rows() {
		if w.s != s {
			continue
		}
		if len(fields) != len(w.fields()) {
			return "", api.ErrCount
		}
		for i, b := range w.fields() {
			if fields[i] < b.least || fields[i] > b.greatest {
				return "", api.ErrRange
			}
		}
		return reckonFrame(w, fields), api.OK
	}
	return "", api.ErrKind
}

// R1: many bytes, of which each A5 is bad, and many frames, end in good time.
func TestMany(t *testing.T) {
	for _, w := range rows() {
		n := 1 << 16
		mustNotRead(t, w.s, strings.Repeat(a5, n), n)
		mustNotRead(t, w.s, strings.Repeat(a5+digits(w.kind, 1), n), n)
		numbers := w.with(1, 9)
		good := reckonFrame(w, numbers)
		mustRead(t, w.s, strings.Repeat(good, n), 0, numbers...)
		mustRead(t, w.s, good+strings.Repeat("\x00"+a5, n), n, numbers...)
		mustNotRead(t, w.s, strings.Repeat("\x00", n), 0)
	}
}

// R2: a list that is handed in is not written into, nor its spare room, and is not kept.
func TestListHandedIn(t *testing.T) {
	for _, w := range rows() {
		for _, n := range []int{0, len(w.fields()) - 1, len(w.fields()), len(w.fields()) + 1} {
			room := slices.Repeat([]int{7}, 12)
			list := room[:n]
			before, e := sense.Write(w.s, list...)
			if !slices.Equal(room, slices.Repeat([]int{7}, 12)) {
				t.Fatalf("Write(%d, ...) wrote into %v", w.s, room)
			}
			same := strings.Clone(before)
			for i := range room {
				room[i] = 9
			}
			if before != same || e == api.OK != (n == len(w.fields())) {
				t.Fatalf("Write(%d, ...): % x, once % x, %v", w.s, before, same, e)
			}
		}
	}
}

// R2: each list that is handed out is new memory, its spare room too, and no call remembers another.
func TestListHandedOut(t *testing.T) {
	for _, w := range rows() {
		numbers := w.with(1, 4)
		handed := slices.Clone(numbers)
		data, e := sense.Write(w.s, handed...)
		if e != api.OK {
			t.Fatal(e)
		}
		first, _, _ := sense.Read(w.s, data+data)
		second, _, _ := sense.Read(w.s, data+data)
		for i := range first[:cap(first)] {
			first[:cap(first)][i] = -9
		}
		if !slices.Equal(second, numbers) || !slices.Equal(handed, numbers) {
			t.Fatalf("sensor %d: %v, %v", w.s, second, handed)
		}
		mustRead(t, w.s, data, 0, numbers...)
		mustNotRead(t, w.s, "", 0)
		mustNotRead(t, w.s, data[1:], 0)
	}
}
