package store_test

import (
	"math"
	"math/rand"
	"strings"
	"testing"
	"unsafe"

	"windhover/api"
	"windhover/nor"
	"windhover/store"
)

// step is one of the flash's: a sector that is erased, or a byte that is programmed.
type step struct {
	erase  bool
	sector int
	at     int
	b      byte
}

// value is what is kept of an object.
type value struct {
	text string
	is   bool
}

// values are what is kept of all three.
type values [3]value

// junks are empty, of one byte and of several; those of one byte leave a step undone, done, and done in part.
var junks = []string{"", "\x00", "\xff", "\x0f", "\x01", "\xaa", "\x80\x0f", "\x33\x00\xff\x55\x0c"}

// reckonCode tells whether a byte is a sector's code.
func reckonCode(b byte) bool { return b == 0x0f || b == 0x33 || b == 0x55 }

// reckonNext is the code that follows.
func reckonNext(b byte) byte {
	switch b {
	case 0x0f:
		return 0x33
	case 0x33:
		return 0x55
	}
	return 0x0f
}

// reckonActive is the active sector by the document's words, -1 if there is none.
func reckonActive(image string) int {
	a, b := image[0], image[4096]
	switch {
	case reckonCode(a) && reckonCode(b):
		if a == b {
			return 0
		}
		if reckonNext(a) == b {
			return 1
		}
		return 0
	case reckonCode(a):
		return 0
	case reckonCode(b):
		return 1
	}
	return -1
}

// reckonRead reads a sector by the document's words.
func reckonRead(sector string) (kept values, end int, clean bool) {
	at := 1
	for {
		rest := sector[at:]
		if rest == strings.Repeat("\xff", len(rest)) {
			return kept, at, true
		}
		if len(rest) < 4 || rest[0] > 2 {
			return kept, at, false
		}
		n := int(rest[1]) + 256*int(rest[2])
		if n > 2000 || at+n+4 > 4096 || rest[3+n] != 0 {
			return kept, at, false
		}
		kept[rest[0]] = value{rest[3 : 3+n], true}
		at += n + 4
	}
}

// reckonRecord is a record's bytes.
func reckonRecord(id int, text string) string {
	return string([]byte{byte(id), byte(len(text) % 256), byte(len(text) / 256)}) + text + "\x00"
}

// program is the steps of programming bytes.
func program(at int, text string) []step {
	var list []step
	for i := range len(text) {
		list = append(list, step{at: at + i, b: text[i]})
	}
	return list
}

// reckonMove is the steps of a move of records.
func reckonMove(active int, code byte, kept values) []step {
	spare := 1 - active
	list := []step{{erase: true, sector: spare}}
	at := 4096*spare + 1
	for id, v := range kept {
		if v.is {
			list = append(list, program(at, reckonRecord(id, v.text))...)
			at += len(v.text) + 4
		}
	}
	return append(list, step{at: 4096 * spare, b: reckonNext(code)})
}

// reckonBoot is the steps that Boot does with an image, and what is kept behind it.
func reckonBoot(image string) (values, []step) {
	active := reckonActive(image)
	if active < 0 {
		var list []step
		if image[4096] != 0xff {
			list = append(list, step{erase: true, sector: 1})
		}
		return values{}, append(list, step{erase: true, sector: 0}, step{at: 0, b: 0x0f})
	}
	sector := image[4096*active : 4096*active+4096]
	kept, _, clean := reckonRead(sector)
	spare := image[4096*(1-active)]
	switch {
	case !clean:
		return kept, reckonMove(active, sector[0], kept)
	case spare != 0xff && !reckonCode(spare):
		return kept, []step{{erase: true, sector: 1 - active}}
	}
	return kept, nil
}

// reckonPut is what Put answers on a flash that was booted and holds an image, if power stays, and the steps that it does.
func reckonPut(image string, id int, text string) (api.Errno, []step) {
	if id != 0 && id != 1 && id != 2 || len(text) > 2000 {
		return api.ErrArg, nil
	}
	active := reckonActive(image)
	sector := image[4096*active : 4096*active+4096]
	kept, end, _ := reckonRead(sector)
	kept[id] = value{text, true}
	all := 1
	for _, v := range kept {
		if v.is {
			all += 4 + len(v.text)
		}
	}
	if all > 4096 {
		return api.ErrFull, nil
	}
	if end+4+len(text) <= 4096 {
		return api.OK, program(4096*active+end, reckonRecord(id, text))
	}
	return api.OK, reckonMove(active, sector[0], kept)
}

// reckonJunk is the byte of a junk at the place i modulo its length.
func reckonJunk(junk string, i int) byte {
	if junk == "" {
		return 0
	}
	return junk[i%len(junk)]
}

// reckonSteps is what an image is behind steps of which cut are done wholly, and the next one, if there is one, in part.
func reckonSteps(image string, list []step, cut int, junk string) string {
	cells := []byte(image)
	for i, s := range list {
		if i > cut {
			break
		}
		part := i == cut
		switch {
		case s.erase && part:
			for j := range 4096 {
				cells[4096*s.sector+j] |= reckonJunk(junk, j)
			}
		case s.erase:
			for j := range 4096 {
				cells[4096*s.sector+j] = 0xff
			}
		case part:
			cells[s.at] &= s.b | reckonJunk(junk, 0)
		default:
			cells[s.at] &= s.b
		}
	}
	return string(cells)
}

// pad is a sector that begins with bytes, and is blank behind them.
func pad(text string) string { return text + strings.Repeat("\xff", 4096-len(text)) }

// records are several, one behind the other.
func records(list ...string) string { return strings.Join(list, "") }

// long is n bytes of many sorts, FF and 00 among them, other ones for each seed.
func long(n, seed int) string {
	r := rand.New(rand.NewSource(int64(seed)))
	list := make([]byte, n)
	for i := range list {
		list[i] = byte(r.Intn(256))
	}
	return string(list)
}

func flashOf(t *testing.T, image string) *nor.Flash {
	t.Helper()
	f, e := nor.Of(image)
	if e != api.OK {
		t.Fatalf("Of %d bytes: %v", len(image), e)
	}
	return f
}

// gets is what a Store keeps; no other id has anything.
func gets(t *testing.T, s *store.Store) values {
	t.Helper()
	for _, id := range []int{-1, 3, 4, 256, -256, math.MinInt, math.MaxInt} {
		if v, is := s.Get(id); v != "" || is {
			t.Fatalf("Get(%d): %q %v", id, v, is)
		}
	}
	var kept values
	for id := range kept {
		v, is := s.Get(id)
		if !is && v != "" {
			t.Fatalf("Get(%d): %q without true", id, v)
		}
		kept[id] = value{v, is}
	}
	return kept
}

// sameImage tells where two images part.
func sameImage(t *testing.T, what string, got, want string) {
	t.Helper()
	if got == want {
		return
	}
	for i := range min(len(got), len(want)) {
		if got[i] != want[i] {
			t.Fatalf("%s: cell %d holds %#x, want %#x", what, i, got[i], want[i])
		}
	}
	t.Fatalf("%s: %d cells, want %d", what, len(got), len(want))
}

func sameKept(t *testing.T, what string, got, want values) {
	t.Helper()
	for id := range want {
		if got[id] != want[id] {
			t.Fatalf("%s: object %d is %q %v, want %q %v", what, id, got[id].text, got[id].is, want[id].text, want[id].is)
		}
	}
}

// boots boots a flash and holds all of it against the document's words: what it holds and keeps, how many steps were done, and that the next Boot does none and keeps the same.
func boots(t *testing.T, what string, f *nor.Flash) *store.Store {
	t.Helper()
	image, before := f.Image(), f.Steps()
	kept, list := reckonBoot(image)
	s, e := store.Boot(f)
	if s == nil || e != api.OK {
		t.Fatalf("%s: Boot: %v %v", what, s, e)
	}
	sameImage(t, what, f.Image(), reckonSteps(image, list, len(list), ""))
	if n := f.Steps() - before; n != len(list) {
		t.Fatalf("%s: Boot did %d steps, want %d", what, n, len(list))
	}
	sameKept(t, what, gets(t, s), kept)
	again, e := store.Boot(f)
	if again == nil || e != api.OK {
		t.Fatalf("%s: the second Boot: %v", what, e)
	}
	if n := f.Steps() - before; n != len(list) {
		t.Fatalf("%s: the second Boot did %d steps", what, n-len(list))
	}
	sameKept(t, what+", the second Boot", gets(t, again), kept)
	return again
}

// puts puts a value and holds all of it against the document's words.
func puts(t *testing.T, what string, f *nor.Flash, s *store.Store, id int, text string) api.Errno {
	t.Helper()
	image, before, kept := f.Image(), f.Steps(), gets(t, s)
	want, list := reckonPut(image, id, text)
	if e := s.Put(id, text); e != want {
		t.Fatalf("%s: Put(%d, %d bytes) = %v, want %v", what, id, len(text), e, want)
	}
	sameImage(t, what, f.Image(), reckonSteps(image, list, len(list), ""))
	if n := f.Steps() - before; n != len(list) {
		t.Fatalf("%s: Put(%d, %d bytes) did %d steps, want %d", what, id, len(text), n, len(list))
	}
	if want == api.OK {
		kept[id] = value{text, true}
	}
	sameKept(t, what, gets(t, s), kept)
	return want
}

// stands holds that a Store answers as one that stands, also with power.
func stands(t *testing.T, what string, f *nor.Flash, s *store.Store) {
	t.Helper()
	image, before := f.Image(), f.Steps()
	for _, id := range []int{-1, 0, 1, 2, 3} {
		for _, text := range []string{"", "ab", strings.Repeat("a", 2001)} {
			if e := s.Put(id, text); e != api.ErrPower {
				t.Fatalf("%s: Put(%d, %d bytes) of a Store that stands: %v", what, id, len(text), e)
			}
		}
		if v, is := s.Get(id); v != "" || is {
			t.Fatalf("%s: Get(%d) of a Store that stands: %q %v", what, id, v, is)
		}
	}
	sameImage(t, what, f.Image(), image)
	if f.Steps() != before {
		t.Fatalf("%s: a Store that stands did a step", what)
	}
}

// 'Examples', row by row: Put's records, a move from each code to the one that follows, and what does not fit.
func TestExamplePuts(t *testing.T) {
	f := nor.New()
	s := boots(t, "Boot", f)
	if f.Steps() != 2 || f.Image() != pad("\x0f")+pad("") {
		t.Fatalf("Boot: %d steps", f.Steps())
	}
	holds := func(want api.Errno, id int, text, first, second string) {
		t.Helper()
		if e := puts(t, "an example", f, s, id, text); e != want {
			t.Fatalf("Put(%d, %d bytes) = %v, want %v", id, len(text), e, want)
		}
		sameImage(t, "an example", f.Image(), pad(first)+pad(second))
	}
	a, b, c, d := long(2000, 1), long(2000, 2), long(100, 3), long(2000, 4)
	first := "\x0f\x00\x02\x00ab\x00"
	holds(api.OK, 0, "ab", first, "")
	first += "\x02\x00\x00\x00"
	holds(api.OK, 2, "", first, "")
	sameKept(t, "Get(0), Get(1), Get(2)", gets(t, s), values{{"ab", true}, {}, {"", true}})
	first += "\x00\xd0\x07" + a + "\x00"
	holds(api.OK, 0, a, first, "")
	first += "\x00\xd0\x07" + b + "\x00"
	if len(first) != 4019 {
		t.Fatal(len(first))
	}
	holds(api.OK, 0, b, first, "")
	second := "\x33\x00\xd0\x07" + b + "\x00\x01\x64\x00" + c + "\x00\x02\x00\x00\x00"
	holds(api.OK, 1, c, first, second)
	first = "\x55\x00\xd0\x07" + b + "\x00\x01\xd0\x07" + d + "\x00\x02\x00\x00\x00"
	holds(api.OK, 1, d, first, second)
	holds(api.ErrFull, 2, a, first, second)
	holds(api.ErrFull, 2, long(84, 5), first, second)
	holds(api.ErrArg, 3, "", first, second)
	holds(api.ErrArg, 0, long(2001, 6), first, second)
	last := long(83, 7)
	second = "\x0f\x00\xd0\x07" + b + "\x00\x01\xd0\x07" + d + "\x00\x02\x53\x00" + last + "\x00"
	if len(second) != 4096 {
		t.Fatal(len(second))
	}
	holds(api.OK, 2, last, first, second)
	sameKept(t, "the last row", gets(t, boots(t, "the last row", f)), values{{b, true}, {d, true}, {last, true}})
}

// 'Examples', the images behind the table.
func TestExampleBoots(t *testing.T) {
	for _, x := range []struct {
		first, second string
		kept          values
		after         string
		steps         int
	}{
		{"\x0f\x00\x02\x00ab\x0f", "", values{}, pad("\x0f\x00\x02\x00ab\x0f") + pad("\x33"), 2},
		{"\x0f", "\x33\x01\x00\x00\x00", values{{}, {"", true}, {}}, pad("\x0f") + pad("\x33\x01\x00\x00\x00"), 0},
		{"\x0f", "\x7f\x12\x34", values{}, pad("\x0f") + pad(""), 1},
	} {
		f := flashOf(t, pad(x.first)+pad(x.second))
		s := boots(t, "an example", f)
		sameKept(t, "an example", gets(t, s), x.kept)
		sameImage(t, "an example", f.Image(), x.after)
		if f.Steps() != x.steps {
			t.Errorf("%q, %q: %d steps, want %d", x.first, x.second, f.Steps(), x.steps)
		}
	}
}

// P7.1: the active sector at each first byte of either sector, beside each sort of the other one's: a code, FF, or neither; of records that end cleanly and dirty.
func TestBootActive(t *testing.T) {
	others := []int{0x0f, 0x33, 0x55, 0xff, 0x00, 0x0e, 0x7f, 0x37}
	bodies := []string{"\x00\x01\x00p\x00", "\x00\x01\x00p\x00\x01", ""}
	for b := range 256 {
		for _, o := range others {
			for i, body := range bodies {
				mine := pad(string([]byte{byte(b)}) + body)
				its := pad(string([]byte{byte(o)}) + "\x01\x02\x00qr\x00")
				if i == 1 {
					its = pad(string([]byte{byte(o)}) + "\x01\x02\x00qr\x01")
				}
				boots(t, "sector 0", flashOf(t, mine+its))
				boots(t, "sector 1", flashOf(t, its+mine))
			}
		}
	}
}

// P7.1: which sector is active, told by hand for each pair of codes.
func TestBootCodes(t *testing.T) {
	for _, x := range []struct {
		first, second byte
		active        int
	}{
		{0x0f, 0x0f, 0}, {0x0f, 0x33, 1}, {0x0f, 0x55, 0}, {0x0f, 0xff, 0},
		{0x33, 0x0f, 0}, {0x33, 0x33, 0}, {0x33, 0x55, 1}, {0x33, 0xff, 0},
		{0x55, 0x0f, 1}, {0x55, 0x33, 0}, {0x55, 0x55, 0}, {0x55, 0xff, 0},
		{0xff, 0x0f, 1}, {0xff, 0x33, 1}, {0xff, 0x55, 1}, {0xff, 0xff, -1},
	} {
		f := flashOf(t, pad(string([]byte{x.first})+"\x02\x01\x00p\x00")+pad(string([]byte{x.second})+"\x02\x01\x00q\x00"))
		want := values{{}, {}, {[]string{"", "p", "q"}[x.active+1], x.active >= 0}}
		sameKept(t, "codes", gets(t, boots(t, "codes", f)), want)
		if x.active >= 0 && f.Steps() != 0 {
			t.Errorf("codes %#x, %#x: %d steps", x.first, x.second, f.Steps())
		}
	}
}

// P7.1: a sector that ends cleanly, at each place near its end and at its last byte; and dirty, in each way that there is; of either sector, of each code.
func TestBootEnds(t *testing.T) {
	good := records(reckonRecord(0, "old"), reckonRecord(2, "fence"), reckonRecord(0, "params"), reckonRecord(1, ""))
	kept := values{{"params", true}, {"", true}, {"fence", true}}
	full := records(good, reckonRecord(2, long(1990, 1)), reckonRecord(0, long(1500, 2)))
	room := 4095 - len(full) - 4
	sectors := []struct {
		body  string
		clean bool
	}{
		{good, true},
		{good + "\xff\xff\xff\x00", false},             // not all FF, and the id is FF
		{good + "\x03\x00\x00\x00", false},             // an id above 2
		{good + "\xfe", false},                         // an id above 2
		{good + "\x00\xd1\x07" + long(2001, 2), false}, // a length above 2000
		{good + "\x00\xd1\x07" + long(2001, 2) + "\x00", false},
		{good + "\x01\xff\x00", false}, // nothing but FF behind the length
		{good + "\x01\x00\x00\x01", false},
		{good + "\x01\x00\x00\xff", false}, // a commit byte that was never programmed
		{good + "\x01\x01\x00a", false},
		{good + "\x01\x01\x00a\x80", false},
		{good + "\x01", false},
		{good + "\x01\x00", false},
		{full, true},
		{full + reckonRecord(1, long(room, 3)), true},             // ends at the last byte
		{full + reckonRecord(1, long(room-1, 3)), true},           // one byte is left
		{full + reckonRecord(1, long(room-1, 3)) + "\x01", false}, // less than a record's head
		{full + reckonRecord(1, long(room-2, 3)) + "\xff", true},  // two bytes are left
		{full + reckonRecord(1, long(room-3, 3)) + "\x01\x00", false},
		{full + reckonRecord(1, long(room-3, 3)) + "\x01\x00\x00", false},
		{full + reckonRecord(1, long(room-4, 3)) + "\x01\x00\x00\x00", true},
		{full + reckonRecord(1, long(room-5, 3)) + "\x01\x02\x00\x00", false}, // would end beyond the sector
		{full + reckonRecord(1, long(room-5, 3)) + "\x01\x02\x00\x00\x00", false},
		{full + reckonRecord(1, long(room-5, 3)) + "\x01\x01\x00\x00\x00", true},
		{full + "\x01" + string([]byte{byte(room + 1), byte((room + 1) / 256)}) + strings.Repeat("\x00", room+1), false},
		{"\x00\xd0\x07" + long(2000, 5) + "\x00", true},
		{"", true},
		{strings.Repeat("\x00", 4095), false},
		{strings.Repeat("\xff", 4094) + "\x00", false},
		{strings.Repeat("\xff", 4094) + "\xfe", false},
		{strings.Repeat("\x02\x00\x00\x00", 1023), true},
		{strings.Repeat("\x02\x00\x00\x00", 1023) + "\x02\x00\x00", false},
		{good + "\x01\x05\x00" + strings.Repeat("\xff", 5) + "\x00", true}, // a value of FF
	}
	for i, x := range sectors {
		for _, code := range []string{"\x0f", "\x33", "\x55"} {
			sector := pad(code + x.body)
			had, _, clean := reckonRead(sector)
			if clean != x.clean || i < 5 && had != kept {
				t.Fatalf("row %d is not what it is meant to be", i)
			}
			for _, spare := range []string{pad(""), pad("\xff\x00\x12"), pad("\x12"), strings.Repeat("\x00", 4096), pad(code)} {
				boots(t, "an end", flashOf(t, sector+spare))
				boots(t, "an end", flashOf(t, spare+sector))
			}
		}
	}
}

// P7.1: where neither sector has a code, sector 1 is erased only if its first byte is not FF; nothing is kept, whatever stands there.
func TestBootFormat(t *testing.T) {
	body := reckonRecord(0, "a")
	for _, first := range []string{"\xff", "\x00", "\x0e", "\x7f"} {
		for _, x := range []struct {
			second string
			steps  int
			after  string
		}{
			{"\xff", 2, "\xff"},
			{"\xff" + body, 2, "\xff" + body},
			{"\x00", 3, ""},
			{"\x32" + body, 3, ""},
			{"\xfe" + body, 3, ""},
		} {
			f := flashOf(t, pad(first+body)+pad(x.second))
			s := boots(t, "a format", f)
			sameKept(t, "a format", gets(t, s), values{})
			sameImage(t, "a format", f.Image(), pad("\x0f")+pad(x.after))
			if f.Steps() != x.steps {
				t.Errorf("%q, %q: %d steps, want %d", first, x.second, f.Steps(), x.steps)
			}
		}
	}
}

// bootImages are images of each way of Boot.
func bootImages() map[string]string {
	some := records(reckonRecord(1, "old"), reckonRecord(2, long(40, 1)), reckonRecord(1, "mission"), reckonRecord(0, ""))
	return map[string]string{
		"a format of two":   pad("") + pad(""),
		"a format of three": pad("\x0b"+some) + pad("\x05"+some),
		"a move from 0F":    pad("\x0f"+some+"\x02\x07") + pad(""),
		"a move from 33":    pad("\x33"+some+"\x02\x07") + pad("\x0f"+some),
		"a move from 55":    pad("\x33"+some) + pad("\x55"+some+"\x03"),
		"a move of nothing": pad("\x33\x00\x00\x00\x0f") + pad("\x12"),
		"a twin":            pad("\x33"+some+"\x00") + pad("\x33"+some),
		"a spare":           pad("\x0f"+some) + pad("\x7f"+some),
		"another spare":     pad("\x3b") + pad("\x55"+some),
		"a spare of no Put": pad("\x00") + pad("\x55"+some),
		"no step":           pad("\x33"+some) + pad("\x0f"+some),
	}
}

// P7.1, P7.4, P7.5: a cut within each step of each way of Boot: ErrPower and no Store, what the flash holds is what the document's steps leave, and the next Boot goes on from there.
func TestBootCuts(t *testing.T) {
	for what, image := range bootImages() {
		kept, list := reckonBoot(image)
		for left := range len(list) + 2 {
			for _, junk := range junks {
				f := flashOf(t, image)
				f.Cut(left, junk)
				s, e := store.Boot(f)
				sameImage(t, what, f.Image(), reckonSteps(image, list, left, junk))
				if f.Steps() != min(left, len(list)) {
					t.Fatalf("%s: %d steps behind a cut of %d", what, f.Steps(), left)
				}
				if left >= len(list) {
					if s == nil || e != api.OK {
						t.Fatalf("%s, cut behind %d of %d: %v", what, left, len(list), e)
					}
					continue
				}
				if s != nil || e != api.ErrPower {
					t.Fatalf("%s, cut behind %d of %d: %v %v", what, left, len(list), s, e)
				}
				if s, e := store.Boot(f); s != nil || e != api.ErrPower {
					t.Fatalf("%s: Boot without power: %v %v", what, s, e)
				}
				f.On()
				s = boots(t, what, f)
				// A spare that no Store left may get a code by a cut erase: P7.4 speaks of flashes that were booted.
				if reckonActive(image) >= 0 && what != "a spare of no Put" {
					sameKept(t, what, gets(t, s), kept)
				}
			}
		}
	}
}

// P7.1: Boot without power is ErrPower, whatever the flash holds, and does nothing; a nil Flash is ErrNil.
func TestBootPower(t *testing.T) {
	for what, image := range bootImages() {
		f := flashOf(t, image)
		f.Cut(0, "\xff")
		f.Program(8191, "\xff")
		if s, e := store.Boot(f); s != nil || e != api.ErrPower {
			t.Errorf("%s: Boot without power: %v %v", what, s, e)
		}
		sameImage(t, what, f.Image(), image)
		if f.Steps() != 0 {
			t.Errorf("%s: %d steps without power", what, f.Steps())
		}
		f.On()
		boots(t, what, f)
	}
	for range 2 {
		if s, e := store.Boot(nil); s != nil || e != api.ErrNil {
			t.Errorf("Boot(nil): %v %v", s, e)
		}
	}
}

// P7.2, P7.3, R2: a nil Store, with good arguments and bad ones, and one that no Boot made.
func TestNilStore(t *testing.T) {
	var s *store.Store
	for _, id := range []int{-1, 0, 2, 3, math.MinInt, math.MaxInt} {
		for _, text := range []string{"", "a", long(2000, 1), long(2001, 1)} {
			if e := s.Put(id, text); e != api.ErrNil {
				t.Errorf("Put(%d, %d bytes) of nil: %v", id, len(text), e)
			}
			new(store.Store).Put(id, text)
		}
		if v, is := s.Get(id); v != "" || is {
			t.Errorf("Get(%d) of nil: %q %v", id, v, is)
		}
		if v, is := new(store.Store).Get(id); v != "" || is {
			t.Errorf("Get(%d) of no Boot's: %q %v", id, v, is)
		}
	}
}

// P7.2, P7.3: ids and values at the edges, each ahead of and behind one of the same object; errors in their order.
func TestPutEdges(t *testing.T) {
	sizes := []int{0, 1, 2, 255, 256, 257, 1999, 2000, 2001, 2002, 4096, 65536, 70000}
	for _, id := range []int{-1, 0, 1, 2, 3, 255, 256, -256, math.MinInt, math.MaxInt} {
		for i, n := range sizes {
			f := nor.New()
			s := boots(t, "edges", f)
			puts(t, "edges", f, s, id, long(n, i))
			puts(t, "edges", f, s, id, long(3, i))
			puts(t, "edges", f, s, id, long(n, -i))
			want := value{long(n, -i), true}
			if n > 2000 {
				want = value{long(3, i), true}
			}
			if id < 0 || id > 2 {
				want = value{}
			}
			if v, is := s.Get(id); v != want.text || is != want.is {
				t.Errorf("Get(%d) behind %d bytes: %d bytes, %v", id, n, len(v), is)
			}
			boots(t, "edges", f)
		}
	}
	f := nor.New()
	s := boots(t, "full", f)
	puts(t, "full", f, s, 0, long(2000, 1))
	puts(t, "full", f, s, 1, long(2000, 2))
	if e := puts(t, "full", f, s, 3, long(2000, 3)); e != api.ErrArg {
		t.Errorf("a bad id of what does not fit: %v", e)
	}
	if e := puts(t, "full", f, s, 2, long(2001, 3)); e != api.ErrArg {
		t.Errorf("a value too long that does not fit: %v", e)
	}
	if e := puts(t, "full", f, s, 2, long(2000, 3)); e != api.ErrFull {
		t.Errorf("what does not fit: %v", e)
	}
}

// P7.3: a record that just fits behind the others, and one byte more, in either sector, of each id; the move then is to the code that follows.
func TestPutFits(t *testing.T) {
	for id := range 3 {
		for _, seed := range []int{1, 2} {
			f := nor.New()
			s := boots(t, "fits", f)
			codes := "\x0f"
			for round := range 8 {
				at := reckonActive(f.Image())
				_, end, _ := reckonRead(f.Image()[4096*at : 4096*at+4096])
				for 4096-end > 2004 {
					puts(t, "fits", f, s, (id+1)%3, long(1000, round))
					_, end, _ = reckonRead(f.Image()[4096*at : 4096*at+4096])
				}
				room := 4096 - end - 4
				if seed == 1 {
					puts(t, "fits", f, s, id, long(room, seed))
					if f.Image()[4096*at+4095] != 0 {
						t.Fatal("it was meant to end at the sector's last byte")
					}
					boots(t, "fits", f)
					puts(t, "fits", f, s, (id+2)%3, "")
				} else {
					puts(t, "fits", f, s, id, long(room+1, seed))
				}
				if reckonActive(f.Image()) == at {
					t.Fatal("it was meant to move")
				}
				codes += f.Image()[4096*(1-at) : 4096*(1-at)+1]
				boots(t, "fits", f)
			}
			if codes != "\x0f\x33\x55\x0f\x33\x55\x0f\x33\x55" {
				t.Errorf("codes: %q", codes)
			}
		}
	}
}

// P7.3: records of 4096 bytes in all with the first byte are kept, one more is ErrFull; what an object had does not count for its own new value.
func TestPutFull(t *testing.T) {
	for id := range 3 {
		a, b := (id+1)%3, (id+2)%3
		f := nor.New()
		s := boots(t, "full", f)
		puts(t, "full", f, s, a, long(2000, 1))
		puts(t, "full", f, s, b, long(1500, 2))
		most := 4096 - 1 - 2004 - 1504 - 4
		for _, x := range []struct {
			n    int
			want api.Errno
		}{{most + 1, api.ErrFull}, {most, api.OK}, {most + 1, api.ErrFull}, {2000, api.ErrFull}, {most, api.OK}, {0, api.OK}, {most - 1, api.OK}, {most + 1, api.ErrFull}, {most, api.OK}} {
			if e := puts(t, "full", f, s, id, long(x.n, x.n)); e != x.want {
				t.Errorf("%d of %d bytes: %v, want %v", x.n, most, e, x.want)
			}
			boots(t, "full", f)
		}
		if e := puts(t, "full", f, s, b, long(1501, 3)); e != api.ErrFull {
			t.Errorf("the other one, of one byte more: %v", e)
		}
		if e := puts(t, "full", f, s, b, long(1500, 4)); e != api.OK {
			t.Errorf("the other one, of as many bytes: %v", e)
		}
		boots(t, "full", f)
	}
}

// cutPut arms a cut within a Put on an image that is booted, and holds what it leaves against the document's words.
func cutPut(t *testing.T, what, image string, id int, text string, left int, junk string) {
	t.Helper()
	f := flashOf(t, image)
	s, e := store.Boot(f)
	if e != api.OK || f.Steps() != 0 {
		t.Fatalf("%s: Boot: %v, %d steps", what, e, f.Steps())
	}
	kept := gets(t, s)
	_, list := reckonPut(image, id, text)
	f.Cut(left, junk)
	e = s.Put(id, text)
	sameImage(t, what, f.Image(), reckonSteps(image, list, left, junk))
	if f.Steps() != min(left, len(list)) {
		t.Fatalf("%s: %d steps behind a cut of %d", what, f.Steps(), left)
	}
	after := kept
	after[id] = value{text, true}
	if left >= len(list) {
		if e != api.OK {
			t.Fatalf("%s: cut behind %d of %d: %v", what, left, len(list), e)
		}
		sameKept(t, what, gets(t, s), after)
		return
	}
	if e != api.ErrPower {
		t.Fatalf("%s: cut behind %d of %d: %v", what, left, len(list), e)
	}
	stands(t, what, f, s)
	f.On()
	stands(t, what+", with power again", f, s)
	if got := gets(t, boots(t, what, f)); got != kept && got != after {
		t.Fatalf("%s: cut behind %d of %d, junk %q: neither the old values nor the new one: %#v", what, left, len(list), junk, got)
	}
	stands(t, what+", behind a new Boot", f, s)
}

// P7.3, P7.4: a cut within each step of a Put that programs, and of one that moves: ErrPower, the Store stands, and the next Boot keeps the old value or the whole new one, and of the others what they were.
func TestPutCuts(t *testing.T) {
	some := records(reckonRecord(2, "fence"), reckonRecord(1, "old"), reckonRecord(0, "p"))
	fill := reckonRecord(1, long(1990, 1)) + reckonRecord(1, long(1990, 2))
	filled := some + fill + reckonRecord(1, long(4095-len(some)-len(fill)-8, 3)) + reckonRecord(1, "")
	for what, x := range map[string]struct {
		image, text string
		id          int
	}{
		"the first value":       {pad("\x0f") + pad(""), "now", 1},
		"a new value":           {pad("\x0f"+some) + pad(""), "\x00\xff now", 1},
		"an empty value":        {pad("") + pad("\x33"+some), "", 0},
		"a value of FF":         {pad("\x55"+some) + pad("\x33"), "\xff\xff\xff", 2},
		"a value of records":    {pad("\x55"+some) + pad("\x33"), some + "\x00\x02\x00ab\x00", 2},
		"a length of two bytes": {pad("\x0f"+some) + pad(""), long(300, 4), 2},
		"a move from 0F":        {pad("\x0f"+filled) + pad(""), "now", 1},
		"a move from 33":        {pad("\x0f"+filled) + pad("\x33"+filled), "", 0},
		"a move from 55":        {pad("\x55"+filled) + pad("\x33"+some), "\xff\xff", 2},
		"a move over rubbish":   {pad("\x55"+filled) + pad("\xff\x00\x01\x02"), "now", 0},
	} {
		_, list := reckonPut(x.image, x.id, x.text)
		for left := range len(list) + 2 {
			for _, junk := range junks {
				cutPut(t, what, x.image, x.id, x.text, left, junk)
			}
		}
	}
}

// P7.4: the moves of full sectors, cut within many of their steps, the first and the last ones among them.
func TestLongCuts(t *testing.T) {
	image := pad("\x33"+reckonRecord(0, long(2000, 1))+reckonRecord(1, long(60, 5))+reckonRecord(1, long(1900, 2))) + pad("\x0f"+long(4000, 3))
	text := long(180, 4)
	_, list := reckonPut(image, 2, text)
	if !list[0].erase || len(list) < 4000 {
		t.Fatal("it was meant to be a move")
	}
	for left := 0; left <= len(list)+1; left++ {
		if left > 8 && left < len(list)-200 && left%97 != 0 {
			continue
		}
		for _, junk := range junks[:5] {
			cutPut(t, "a long move", image, 2, text, left, junk)
		}
	}
}

// script puts values at random, cuts power in Puts and Boots, and holds the Store against the document's words and against P7.4.
func script(t *testing.T, r *rand.Rand, image string) {
	f := flashOf(t, image)
	s := boots(t, "a script", f)
	last := gets(t, s)
	sizes := []int{0, 1, 5, 100, 700, 1300, 1999, 2000, 2001}
	for range 40 {
		id, text := r.Intn(5)-1, long(sizes[r.Intn(len(sizes))], r.Int())
		if r.Intn(3) > 0 {
			if puts(t, "a script", f, s, id, text) == api.OK {
				last[id] = value{text, true}
			}
			continue
		}
		want, list := reckonPut(f.Image(), id, text)
		left, junk := r.Intn(len(list)+2), junks[r.Intn(len(junks))]
		if r.Intn(2) == 0 {
			left = r.Intn(6)
		}
		before := f.Image()
		f.Cut(left, junk)
		e := s.Put(id, text)
		sameImage(t, "a script", f.Image(), reckonSteps(before, list, left, junk))
		if left >= len(list) {
			if e != want {
				t.Fatalf("Put(%d, %d bytes): %v, want %v", id, len(text), e, want)
			}
			f.On()
			if e == api.OK {
				last[id] = value{text, true}
			}
			continue
		}
		if e != api.ErrPower {
			t.Fatalf("a cut Put(%d, %d bytes): %v", id, len(text), e)
		}
		stands(t, "a script", f, s)
		f.On()
		s = scriptBoot(t, r, f)
		now := gets(t, s)
		hoped := last
		hoped[id] = value{text, true}
		if now != last && now != hoped {
			t.Fatal("neither what was acknowledged nor what was on its way")
		}
		last = now
	}
}

// scriptBoot boots a flash, with power cut some times within.
func scriptBoot(t *testing.T, r *rand.Rand, f *nor.Flash) *store.Store {
	t.Helper()
	for range r.Intn(4) {
		image := f.Image()
		_, list := reckonBoot(image)
		left, junk := r.Intn(len(list)+1), junks[r.Intn(len(junks))]
		f.Cut(left, junk)
		s, e := store.Boot(f)
		sameImage(t, "a script's Boot", f.Image(), reckonSteps(image, list, left, junk))
		if (e == api.OK) != (left >= len(list)) || (s != nil) != (e == api.OK) {
			t.Fatalf("a Boot cut behind %d of %d: %v", left, len(list), e)
		}
		f.On()
	}
	return boots(t, "a script's Boot", f)
}

// P7.4: whatever is put and cut, in Put or in Boot, from a new flash and from any image.
func TestScripts(t *testing.T) {
	r := rand.New(rand.NewSource(7))
	for range 120 {
		script(t, r, nor.New().Image())
		script(t, r, anyImage(r))
	}
}

// anyImage is an image of junk: of all sorts of bytes, or of records that were spoilt.
func anyImage(r *rand.Rand) string {
	switch r.Intn(4) {
	case 0:
		return long(8192, r.Int())
	case 1:
		return strings.Repeat(string([]byte{byte(r.Intn(256))}), 8192)
	}
	firsts := "\x0f\x33\x55\xff\x00\x7f"
	var image []byte
	for range 2 {
		body := firsts[r.Intn(len(firsts)):][:1]
		for {
			next := reckonRecord(r.Intn(3), long([]int{0, 1, 3, 50, 900, 2000}[r.Intn(6)], r.Int()))
			if len(body)+len(next) > 4096 || r.Intn(12) == 0 {
				break
			}
			body += next
		}
		image = append(image, pad(body)...)
	}
	for range r.Intn(3) {
		image[r.Intn(len(image))] = byte(r.Intn(256))
	}
	return string(image)
}

// P7.5, R1: any image is booted; the next Boot does no step and keeps the same.
func TestAnyImage(t *testing.T) {
	r := rand.New(rand.NewSource(5))
	for range 3000 {
		boots(t, "any image", flashOf(t, anyImage(r)))
	}
	for b := range 256 {
		boots(t, "one byte", flashOf(t, strings.Repeat(string([]byte{byte(b)}), 8192)))
	}
}

// P7.5: a Put that is ErrArg or ErrFull leaves what was there, also with a cut armed, which stays armed.
func TestRefused(t *testing.T) {
	f := nor.New()
	s := boots(t, "refused", f)
	puts(t, "refused", f, s, 0, long(2000, 1))
	puts(t, "refused", f, s, 1, long(2000, 2))
	image, before, kept := f.Image(), f.Steps(), gets(t, s)
	f.Cut(0, "")
	for range 3 {
		if e := s.Put(2, long(88, 3)); e != api.ErrFull {
			t.Errorf("Put of what does not fit: %v", e)
		}
		if e := s.Put(-1, ""); e != api.ErrArg {
			t.Errorf("Put(-1): %v", e)
		}
		if e := s.Put(3, ""); e != api.ErrArg {
			t.Errorf("Put(3): %v", e)
		}
		if e := s.Put(2, long(2001, 3)); e != api.ErrArg {
			t.Errorf("Put of 2001 bytes: %v", e)
		}
	}
	sameImage(t, "refused", f.Image(), image)
	if f.Steps() != before {
		t.Errorf("%d steps", f.Steps()-before)
	}
	sameKept(t, "refused", gets(t, s), kept)
	if e := s.Put(2, ""); e != api.ErrPower {
		t.Errorf("the cut is not armed any more: %v", e)
	}
	stands(t, "refused", f, s)
}

// P7.1, P7.3: a cut that no step comes to is no error.
func TestCutBehind(t *testing.T) {
	f := nor.New()
	f.Cut(2, "")
	s, e := store.Boot(f)
	if s == nil || e != api.OK {
		t.Fatalf("Boot with a cut behind its steps: %v", e)
	}
	f.Cut(6, "")
	if e := s.Put(0, "ab"); e != api.OK {
		t.Fatalf("Put with a cut behind its steps: %v", e)
	}
	f.Cut(0, "")
	s, e = store.Boot(f)
	if s == nil || e != api.OK {
		t.Fatalf("Boot without a step: %v", e)
	}
	if v, is := s.Get(0); v != "ab" || !is {
		t.Errorf("Get(0): %q %v", v, is)
	}
	if e := s.Put(0, ""); e != api.ErrPower {
		t.Errorf("Put with a cut: %v", e)
	}
}

// R2: a value that is handed in is not kept, nor is one that is answered: what becomes of its memory does not show.
func TestMemory(t *testing.T) {
	for _, n := range []int{1, 90, 2000} {
		f := nor.New()
		s := boots(t, "memory", f)
		for range 3 {
			own := []byte(long(n, n))
			if e := s.Put(1, unsafe.String(&own[0], len(own))); e != api.OK {
				t.Fatal(e)
			}
			clear(own)
			first, _ := s.Get(1)
			second, _ := s.Get(1)
			if first != long(n, n) {
				t.Fatalf("%d bytes were kept by their memory", n)
			}
			if unsafe.StringData(first) == unsafe.StringData(second) && n > 1 {
				t.Errorf("two answers of %d bytes share memory", n)
			}
		}
	}
}

// R2: Stores of two flashes know nothing of one another.
func TestApart(t *testing.T) {
	f, g := nor.New(), nor.New()
	s, u := boots(t, "one", f), boots(t, "two", g)
	for i := range 12 {
		puts(t, "one", f, s, i%3, long(900, i))
		puts(t, "two", g, u, (i+1)%3, long(700, -i))
	}
	kept := gets(t, u)
	f.Cut(3, "")
	if e := s.Put(0, "abc"); e != api.ErrPower {
		t.Fatal(e)
	}
	stands(t, "one", f, s)
	sameKept(t, "two", gets(t, u), kept)
	puts(t, "two", g, u, 0, "abc")
}
