package frame_test

import (
	"math"
	"math/rand"
	"slices"
	"strings"
	"testing"
	"unsafe"

	"windhover/api"
	"windhover/crc"
	"windhover/frame"
)

// reckonBytes are a frame's bytes, one by one, by the document's words.
func reckonBytes(f api.Frame) string {
	list := []byte{0xfd, byte(len(f.Payload)), byte(f.Seq), byte(f.ID)}
	list = append(list, f.Payload...)
	summed := string(list[1:]) + string([]byte{byte((7*f.ID + 31) % 256)})
	c := int(crc.Sum(summed))
	return string(append(list, byte(c%256), byte(c/256)))
}

// readings are what a reader tells once some bytes have been fed.
type readings struct {
	frames    []api.Frame
	bad, held int
}

// reckonReading reads all bytes from the first one on, by the document's words.
func reckonReading(data string) readings {
	var got readings
	for at := 0; at < len(data); {
		if data[at] != 0xfd {
			at++
			continue
		}
		if at+1 < len(data) && data[at+1] > 64 {
			got.bad++
			at++
			continue
		}
		if at+1 == len(data) || at+6+int(data[at+1]) > len(data) {
			got.held = len(data) - at
			break
		}
		end := at + 6 + int(data[at+1])
		f := api.Frame{Seq: int(data[at+2]), ID: int(data[at+3]), Payload: data[at+4 : end-2]}
		if data[at:end] == reckonBytes(f) {
			got.frames = append(got.frames, f)
			at = end
		} else {
			got.bad++
			at++
		}
	}
	got.bad = min(got.bad, 65535)
	return got
}

// feedAll feeds a new reader piece by piece.
func feedAll(pieces ...string) readings {
	var got readings
	r := frame.New()
	for _, p := range pieces {
		got.frames = append(got.frames, r.Feed(p)...)
	}
	got.bad, got.held = r.Bad(), r.Held()
	return got
}

// must holds what a reader tells against what it should.
func must(t *testing.T, name string, got, want readings) {
	t.Helper()
	if !slices.Equal(got.frames, want.frames) || got.bad != want.bad || got.held != want.held {
		t.Fatalf("%q: %#v, not %#v", name, got, want)
	}
}

// encode is a sound frame's bytes.
func encode(t *testing.T, f api.Frame) string {
	t.Helper()
	s, e := frame.Encode(f)
	if e != api.OK {
		t.Fatalf("%v: %v", f, e)
	}
	return s
}

// text is n bytes at random.
func text(r *rand.Rand, n int) string {
	list := make([]byte, n)
	for i := range list {
		list[i] = byte(r.Intn(256))
	}
	return string(list)
}

// anyFrame is a frame at random; a fourth of its payload are marks, so that readers may stumble over them.
func anyFrame(r *rand.Rand) api.Frame {
	payload := []byte(text(r, r.Intn(65)))
	for i := range payload {
		if r.Intn(4) == 0 {
			payload[i] = 0xfd
		}
	}
	return api.Frame{Seq: r.Intn(256), ID: r.Intn(256), Payload: string(payload)}
}

// turn is a text with another byte at a place.
func turn(s string, at int, b byte) string {
	return s[:at] + string([]byte{b}) + s[at+1:]
}

// stream is a row of good frames, wrong ones, pieces of frames and anything else at random.
func stream(r *rand.Rand) string {
	var b strings.Builder
	for range r.Intn(12) {
		whole := reckonBytes(anyFrame(r))
		switch r.Intn(6) {
		case 0, 1:
			b.WriteString(whole)
		case 2:
			b.WriteString(turn(whole, r.Intn(len(whole)), byte(r.Intn(256))))
		case 3:
			b.WriteString(whole[:r.Intn(len(whole))])
		case 4:
			b.WriteString(text(r, r.Intn(20)))
		case 5:
			b.WriteString("\xfd" + string([]byte{byte(r.Intn(70))}))
		}
	}
	return b.String()
}

// pieces cuts a text anywhere, now and then twice at one place.
func pieces(r *rand.Rand, s string) []string {
	var list []string
	for len(s) > 0 {
		n := min(r.Intn(9), len(s))
		list = append(list, s[:n])
		s = s[n:]
	}
	return list
}

// P4.1, P4.2, P4.3: the rows of the chapter's 'Examples'.
func TestExamples(t *testing.T) {
	f := api.Frame{Seq: 1, ID: 2, Payload: "ab"}
	s := encode(t, f)
	c := crc.Sum("\x02\x01\x02\x61\x62\x2d")
	if want := "\xfd\x02\x01\x02\x61\x62" + string([]byte{byte(c), byte(c >> 8)}); s != want {
		t.Errorf("% X, not % X", s, want)
	}
	must(t, "these", feedAll(s), readings{[]api.Frame{f}, 0, 0})
	must(t, "the first 5", feedAll(s[:5]), readings{nil, 0, 5})
	must(t, "the first 5, the rest", feedAll(s[:5], s[5:]), readings{[]api.Frame{f}, 0, 0})
	must(t, "00 FE, these, FD", feedAll("\x00\xfe"+s+"\xfd"), readings{[]api.Frame{f}, 0, 1})
	must(t, "FD 41 00", feedAll("\xfd\x41\x00"), readings{nil, 1, 0})
	must(t, "FD 41 00, FD", feedAll("\xfd\x41\x00", "\xfd"), readings{nil, 1, 1})
	must(t, "63 for 62", feedAll(strings.Replace(s, "\x62", "\x63", 1)), readings{nil, 1, 0})
	must(t, "FD 03, these", feedAll("\xfd\x03", s), readings{[]api.Frame{f}, 1, 0})
	must(t, "FD 03, these but their last byte", feedAll("\xfd\x03", s[:7]), readings{nil, 1, 7})
	must(t, "FD 03, these but two", feedAll("\xfd\x03", s[:6]), readings{nil, 0, 8})
	for _, e := range []struct {
		f    api.Frame
		want api.Errno
	}{
		{api.Frame{Seq: 256, ID: 2, Payload: "ab"}, api.ErrRange},
		{api.Frame{Seq: 1, ID: -1, Payload: "ab"}, api.ErrRange},
		{api.Frame{Seq: 1, ID: 2, Payload: strings.Repeat("a", 65)}, api.ErrSize},
	} {
		if s, got := frame.Encode(e.f); s != "" || got != e.want {
			t.Errorf("%v: %q, %v, not %v", e.f, s, got, e.want)
		}
	}
}

// P4.1: frames whose bytes are all written out here, their checks reckoned bit by bit apart from package crc.
func TestEncodeWrittenOut(t *testing.T) {
	for _, e := range []struct {
		f    api.Frame
		want string
	}{
		{api.Frame{}, "\xfd\x00\x00\x00\x57\xeb"},
		{api.Frame{Seq: 1, ID: 2, Payload: "ab"}, "\xfd\x02\x01\x02ab\x87\xc1"},
		{api.Frame{Seq: 255, ID: 255, Payload: "\xfd"}, "\xfd\x01\xff\xff\xfd\x54\x68"},
	} {
		if got := encode(t, e.f); got != e.want {
			t.Errorf("%v: % X, not % X", e.f, got, e.want)
		}
	}
}

// P4.1: of every Seq and every ID from 0 to 255.
func TestEncodeSeqAndID(t *testing.T) {
	for seq := range 256 {
		for id := range 256 {
			f := api.Frame{Seq: seq, ID: id, Payload: "hover"}
			if got, want := encode(t, f), reckonBytes(f); got != want {
				t.Fatalf("%v: % X, not % X", f, got, want)
			}
		}
	}
}

// P4.1: payloads of each size that may be, of any bytes.
func TestEncodePayloads(t *testing.T) {
	r := rand.New(rand.NewSource(41))
	for n := range 65 {
		for _, payload := range []string{text(r, n), strings.Repeat("\xfd", n), strings.Repeat("\x00", n)} {
			f := api.Frame{Seq: 7, ID: 200, Payload: payload}
			got := encode(t, f)
			if want := reckonBytes(f); got != want || len(got) != n+6 {
				t.Errorf("%v: % X, not % X", f, got, want)
			}
		}
	}
}

// P4.1: Seq and ID out of bounds, payloads that are too long, and both, of which ErrRange is named first.
func TestEncodeErrors(t *testing.T) {
	beyond := []int{-1, 256, -255, 257, 511, 65536, 1 << 32, math.MinInt, math.MaxInt}
	sizes := []int{65, 66, 128, 255, 256, 257, 320, 65536}
	for _, n := range beyond {
		for _, f := range []api.Frame{
			{Seq: n}, {ID: n}, {Seq: n, ID: n}, {Seq: 255, ID: n}, {Seq: n, ID: 255},
			{Seq: n, Payload: strings.Repeat("x", 64)},
			{Seq: n, Payload: strings.Repeat("x", 65)},
			{ID: n, Payload: strings.Repeat("x", 65)},
		} {
			if s, e := frame.Encode(f); s != "" || e != api.ErrRange {
				t.Errorf("%v: %q, %v", f, s, e)
			}
		}
	}
	for _, n := range sizes {
		for _, seq := range []int{0, 255} {
			if s, e := frame.Encode(api.Frame{Seq: seq, ID: 255 - seq, Payload: strings.Repeat("x", n)}); s != "" || e != api.ErrSize {
				t.Errorf("%d bytes: %q, %v", n, s, e)
			}
		}
	}
}

// P4.2: bytes other than FD are passed over, whatever they are.
func TestFeedPassesOver(t *testing.T) {
	var other []byte
	for b := range 256 {
		if b != 0xfd {
			other = append(other, byte(b))
		}
	}
	must(t, "nothing", feedAll(), readings{})
	must(t, "empty pieces", feedAll("", ""), readings{})
	must(t, "all but FD", feedAll(string(other), string(other)), readings{})
	f := api.Frame{Seq: 9, ID: 8, Payload: "seven"}
	s := encode(t, f)
	must(t, "around a frame", feedAll(string(other)+s+string(other)), readings{[]api.Frame{f}, 0, 0})
}

// P4.2, P4.3: each byte that may stand behind an FD: up to 64 it waits for the frame's bytes, above it is bad at once.
func TestFeedLengths(t *testing.T) {
	for n := range 256 {
		start := "\xfd" + string([]byte{byte(n)})
		want := readings{nil, 0, 2}
		if n > 64 {
			want = readings{nil, 1, 0}
		}
		if n == 0xfd {
			want = readings{nil, 1, 1}
		}
		must(t, start, feedAll(start), want)
		must(t, start, feedAll(start[:1], start[1:]), want)
	}
}

// P4.2: behind a byte that is too great, reading goes on at the byte behind the FD, and that byte may be an FD.
func TestFeedMarksInARow(t *testing.T) {
	f := api.Frame{Seq: 250, ID: 251, Payload: "\xfd\xfd"}
	s := encode(t, f)
	must(t, "FD FD FD, a frame", feedAll("\xfd\xfd\xfd"+s), readings{[]api.Frame{f}, 3, 0})
	must(t, "FD 41, a frame", feedAll("\xfd\x41"+s), readings{[]api.Frame{f}, 1, 0})
	must(t, "FD FF, a frame", feedAll("\xfd\xff", s), readings{[]api.Frame{f}, 1, 0})
}

// P4.2, P4.3: each check of a frame, of which one alone is right.
func TestFeedChecks(t *testing.T) {
	f := api.Frame{Seq: 3, ID: 77, Payload: "x"}
	s := encode(t, f)
	right := int(s[5]) + 256*int(s[6])
	for c := range 1 << 16 {
		got := feedAll(s[:5] + string([]byte{byte(c), byte(c >> 8)}))
		switch {
		case c == right:
			must(t, "right", got, readings{[]api.Frame{f}, 0, 0})
		case got.bad == 0 || len(got.frames) > 0:
			t.Fatalf("%04X: %v", c, got)
		}
	}
	bare := crc.Sum(s[1:5])
	must(t, "without the byte more", feedAll(s[:5]+string([]byte{byte(bare), byte(bare >> 8)})), readings{nil, 1, 0})
	must(t, "the high byte first", feedAll(s[:5]+s[6:]+s[5:6]), readings{nil, 1, 0})
}

// P4.2: frames of every size and every ID are read as they were.
func TestFeedSizes(t *testing.T) {
	r := rand.New(rand.NewSource(42))
	reader := frame.New()
	for n := range 65 {
		for id := range 256 {
			f := api.Frame{Seq: (id + n) % 256, ID: id, Payload: text(r, n)}
			got := reader.Feed(encode(t, f))
			if len(got) != 1 || got[0] != f || reader.Bad() != 0 || reader.Held() != 0 {
				t.Fatalf("%v: %v", f, got)
			}
		}
	}
}

// P4.2: a good frame that stands within a bad one, at each place of its payload, is read; it may reach out of it, too.
func TestFeedWithinBad(t *testing.T) {
	f := api.Frame{Seq: 5, ID: 6, Payload: "in"}
	s := encode(t, f)
	for at := range 64 {
		outer := "\xfd\x40\x00\x00" + strings.Repeat(".", at) + s + strings.Repeat(".", 80)
		must(t, outer, feedAll(outer), readings{[]api.Frame{f}, 1, 0})
		waits := outer[:min(4+at+len(s), 69)]
		must(t, waits, feedAll(waits), readings{nil, 0, len(waits)})
	}
}

// P4.2: what stands within a good frame is not read again.
func TestFeedWithinGood(t *testing.T) {
	inner := encode(t, api.Frame{Seq: 5, ID: 6, Payload: "in"})
	f := api.Frame{Seq: 1, ID: 1, Payload: inner + "\xfd\xff\xfd"}
	must(t, "a frame in a frame", feedAll(encode(t, f)+"."), readings{[]api.Frame{f}, 0, 0})
}

// P4.2, P4.3: rows of all sorts at random, piece by piece, against the document's words.
func TestFeedAnything(t *testing.T) {
	r := rand.New(rand.NewSource(43))
	for range 4000 {
		s := stream(r)
		must(t, s, feedAll(pieces(r, s)...), reckonReading(s))
	}
	// Few kinds of bytes, so that marks and small lengths come thick.
	for range 4000 {
		list := make([]byte, r.Intn(120))
		for i := range list {
			list[i] = "\x00\x01\x02\x40\x41\xfd\xfd\xfd"[r.Intn(8)]
		}
		must(t, string(list), feedAll(pieces(r, string(list))...), reckonReading(string(list)))
	}
}

// P4.2: each Feed answers what became good by it, and nothing twice.
func TestFeedAnswersOnce(t *testing.T) {
	r := rand.New(rand.NewSource(44))
	for range 300 {
		s := stream(r)
		reader := frame.New()
		told := 0
		for i := range len(s) {
			got := reader.Feed(s[i : i+1])
			want := reckonReading(s[:i+1])
			if !slices.Equal(got, want.frames[told:]) || reader.Bad() != want.bad || reader.Held() != want.held {
				t.Fatalf("% X, byte %d: %v %d %d, not %v", s, i, got, reader.Bad(), reader.Held(), want)
			}
			told = len(want.frames)
		}
	}
}

// P4.3: Bad stops at 65535, in one piece and in many, and reading goes on.
func TestBadStops(t *testing.T) {
	for _, n := range []int{65534, 65535, 65536, 65537, 70000, 200000} {
		s := strings.Repeat("\xfd\xff", n)
		must(t, "one piece", feedAll(s), readings{nil, min(n, 65535), 0})
		must(t, "two pieces", feedAll(s[:131067], s[131067:]), readings{nil, min(n, 65535), 0})
	}
	r := frame.New()
	r.Feed(strings.Repeat("\xfd\xff", 65533))
	for i := range 5 {
		r.Feed("\xfd\xff")
		if want := min(65534+i, 65535); r.Bad() != want {
			t.Errorf("%d, not %d", r.Bad(), want)
		}
	}
	f := api.Frame{Seq: 1, ID: 1, Payload: "on"}
	if got := r.Feed(encode(t, f)); len(got) != 1 || got[0] != f || r.Bad() != 65535 {
		t.Error(got, r.Bad())
	}
}

// P4.3: Held grows to 69, and no further; asking changes nothing.
func TestHeldEnds(t *testing.T) {
	f := api.Frame{Seq: 1, ID: 1, Payload: strings.Repeat("y", 64)}
	s := encode(t, f)
	r := frame.New()
	for i := range 69 {
		if got := r.Feed(s[i : i+1]); len(got) != 0 || r.Held() != i+1 || r.Held() != i+1 || r.Bad() != 0 {
			t.Fatal(i, got, r.Held(), r.Bad())
		}
	}
	if got := r.Feed(s[69:]); len(got) != 1 || got[0] != f || r.Held() != 0 || r.Bad() != 0 {
		t.Error(got, r.Held(), r.Bad())
	}
	random := rand.New(rand.NewSource(45))
	for range 5000 {
		r.Feed("\xfd" + string([]byte{byte(random.Intn(66))}) + text(random, random.Intn(8)))
		if r.Held() < 0 || r.Held() > 69 {
			t.Fatal(r.Held())
		}
	}
}

// P4.4: in what pieces bytes are fed does not matter: cut in two and in three at each place, and byte by byte.
func TestPiecesDoNotMatter(t *testing.T) {
	f, g := api.Frame{Seq: 1, ID: 2, Payload: "ab"}, api.Frame{Seq: 255, ID: 0}
	wrong := turn(encode(t, f), 4, 'z')
	s := ".\xfd\x41" + encode(t, f) + "\xfd\x03" + encode(t, g) + wrong + "\xfd" + encode(t, f) + encode(t, g) + "\xfd\x02\x00"
	want := reckonReading(s)
	if len(want.frames) != 4 || want.bad != 4 || want.held != 3 {
		t.Fatal(want)
	}
	must(t, "whole", feedAll(s), want)
	var single []string
	for i := range len(s) {
		single = append(single, s[i:i+1])
	}
	must(t, "each byte alone", feedAll(single...), want)
	for i := range len(s) + 1 {
		must(t, "in two", feedAll(s[:i], s[i:]), want)
		for k := i; k <= len(s); k++ {
			must(t, "in three", feedAll(s[:i], s[i:k], s[k:]), want)
		}
	}
}

// P4.4: frames one behind the other, with any bytes but FD between, are read as they were.
func TestFramesThereAndBack(t *testing.T) {
	r := rand.New(rand.NewSource(46))
	for range 400 {
		var b strings.Builder
		var want []api.Frame
		for range r.Intn(10) {
			b.WriteString(strings.ReplaceAll(text(r, r.Intn(6)), "\xfd", "\xfc"))
			f := anyFrame(r)
			want = append(want, f)
			b.WriteString(encode(t, f))
		}
		must(t, b.String(), feedAll(pieces(r, b.String())...), readings{want, 0, 0})
	}
}

// P4.4: each frame that is read stands in the bytes as Encode writes it, behind the ones ahead of it.
func TestFramesStandInBytes(t *testing.T) {
	r := rand.New(rand.NewSource(47))
	for range 2000 {
		s := stream(r)
		rest := s
		for _, f := range feedAll(pieces(r, s)...).frames {
			whole := encode(t, f)
			at := strings.Index(rest, whole)
			if at < 0 {
				t.Fatalf("% X: %v does not stand there", s, f)
			}
			rest = rest[at+len(whole):]
		}
	}
}

// P4.4: with a byte of Seq, of the payload or of the check turned to any other one, nothing is read whose payload is as long.
func TestTurnedBytes(t *testing.T) {
	r := rand.New(rand.NewSource(48))
	list := []api.Frame{{}, {Seq: 1, ID: 2, Payload: "ab"}, {Seq: 253, ID: 253, Payload: strings.Repeat("\xfd", 64)}}
	for range 12 {
		list = append(list, anyFrame(r))
	}
	inner := encode(t, api.Frame{Seq: 4, ID: 5, Payload: "six"})
	list = append(list, api.Frame{Seq: 1, ID: 2, Payload: "." + inner + inner + "."})
	for _, f := range list {
		s := encode(t, f)
		for at := 2; at < len(s); at++ {
			if at == 3 {
				continue // the ID
			}
			for b := range 256 {
				if byte(b) != s[at] {
					mustNotRead(t, turn(s, at, byte(b)), f)
				}
			}
		}
	}
}

// mustNotRead holds that a frame that was turned is bad, and that nothing of its size is read of it.
func mustNotRead(t *testing.T, turned string, f api.Frame) {
	t.Helper()
	got := feedAll(turned)
	if got.bad == 0 {
		t.Fatalf("% X: none is bad", turned)
	}
	for _, g := range got.frames {
		if len(g.Payload) == len(f.Payload) {
			t.Fatalf("% X: %v is read", turned, g)
		}
	}
}

// R2: a nil Reader reads nothing, and tells nothing.
func TestNilReader(t *testing.T) {
	var none *frame.Reader
	s := encode(t, api.Frame{Seq: 1, ID: 2, Payload: "ab"})
	for _, data := range []string{"", s, "\xfd\xff", "\xfd\x01"} {
		if got := none.Feed(data); len(got) != 0 || none.Bad() != 0 || none.Held() != 0 {
			t.Error(got, none.Bad(), none.Held())
		}
	}
}

// R2: readers know nothing of one another.
func TestReadersAreApart(t *testing.T) {
	f := api.Frame{Seq: 1, ID: 2, Payload: "ab"}
	s := encode(t, f)
	one, two := frame.New(), frame.New()
	one.Feed("\xfd\xff" + s[:5])
	if two.Bad() != 0 || two.Held() != 0 {
		t.Error(two.Bad(), two.Held())
	}
	if got := two.Feed(s[5:]); len(got) != 0 || one.Held() != 5 || one.Bad() != 1 {
		t.Error(got, one.Held(), one.Bad())
	}
	if got := one.Feed(s[5:]); len(got) != 1 || got[0] != f {
		t.Error(got)
	}
}

// R2: a text that was fed is not kept, neither in what is held nor in a payload: its memory may become anything.
func TestFedTextsAreNotKept(t *testing.T) {
	f := api.Frame{Seq: 1, ID: 2, Payload: "ab"}
	s := encode(t, f)
	memory := []byte(s + s[:6])
	r := frame.New()
	got := r.Feed(unsafe.String(&memory[0], len(memory)))
	clear(memory)
	if len(got) != 1 || got[0] != f {
		t.Error("the answer changed with what was fed:", got)
	}
	memory = []byte(s[6:7])
	more := r.Feed(unsafe.String(&memory[0], len(memory)))
	clear(memory)
	last := r.Feed(s[7:])
	if len(more) != 0 || len(last) != 1 || last[0] != f {
		t.Error("what is held changed with what was fed:", more, last)
	}
}

// R2: a payload that is handed in is not kept in a frame's bytes.
func TestEncodedTextsAreNew(t *testing.T) {
	memory := []byte("payload")
	s := encode(t, api.Frame{Seq: 1, ID: 2, Payload: unsafe.String(&memory[0], len(memory))})
	clear(memory)
	if want := reckonBytes(api.Frame{Seq: 1, ID: 2, Payload: "payload"}); s != want {
		t.Errorf("% X, not % X", s, want)
	}
}

// R2: lists that come out share no memory: writing into one changes neither another one nor the reader.
func TestListsAreNew(t *testing.T) {
	f, g := api.Frame{Seq: 1, ID: 2, Payload: "ab"}, api.Frame{Seq: 3, ID: 4, Payload: "cd"}
	r := frame.New()
	one := r.Feed(encode(t, f) + encode(t, g))
	one = append(one[:0], api.Frame{Payload: "spoilt"}, api.Frame{Payload: "spoilt"}, api.Frame{Payload: "spoilt"})
	two := r.Feed(encode(t, g))
	if len(two) != 1 || two[0] != g || len(one) != 3 || one[0].Payload != "spoilt" {
		t.Error(one, two)
	}
}
