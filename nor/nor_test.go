package nor_test

import (
	"math"
	"math/big"
	"math/rand"
	"slices"
	"strings"
	"testing"
	"unsafe"

	"windhover/api"
	"windhover/nor"
)

// chip is a flash by the document's words, told in numbers.
type chip struct {
	cells        [8192]int
	power, armed bool
	more         int
	junk         string
	steps        int
}

// reckonOf is a chip that holds an image's bytes.
func reckonOf(image string) *chip {
	c := &chip{power: true}
	for i := range c.cells {
		c.cells[i] = int(image[i])
	}
	return c
}

// within tells whether n cells from at on are cells of a flash, in numbers that have no end.
func within(at, n int) bool {
	end := new(big.Int).Add(big.NewInt(int64(at)), big.NewInt(int64(n)))
	return at >= 0 && n >= 0 && end.Cmp(big.NewInt(8192)) <= 0
}

func (c *chip) image() string {
	list := make([]byte, 0, len(c.cells))
	for _, x := range c.cells {
		list = append(list, byte(x))
	}
	return string(list)
}

func (c *chip) read(at, n int) (string, api.Errno) {
	if !c.power {
		return "", api.ErrPower
	}
	if !within(at, n) {
		return "", api.ErrArg
	}
	return c.image()[at : at+n], api.OK
}

// partly tells whether the step that comes now is done in part, and counts it if not.
func (c *chip) partly() bool {
	if !c.armed {
		c.steps++
		return false
	}
	if c.more > 0 {
		c.more--
		c.steps++
		return false
	}
	c.power, c.armed = false, false
	return true
}

// reckonJunk is the byte of a junk at the place i modulo its length.
func reckonJunk(junk string, i int) int {
	if len(junk) == 0 {
		return 0
	}
	return int(junk[i%len(junk)])
}

func (c *chip) program(at int, data string) api.Errno {
	if !c.power {
		return api.ErrPower
	}
	if !within(at, len(data)) {
		return api.ErrArg
	}
	for i, b := range []byte(data) {
		was := c.cells[at+i]
		if c.partly() {
			c.cells[at+i] = was & (int(b) | reckonJunk(c.junk, 0))
			return api.ErrPower
		}
		c.cells[at+i] = was & int(b)
	}
	return api.OK
}

func (c *chip) erase(sector int) api.Errno {
	if !c.power {
		return api.ErrPower
	}
	if sector != 0 && sector != 1 {
		return api.ErrArg
	}
	part := c.partly()
	for i := range 4096 {
		if part {
			c.cells[4096*sector+i] |= reckonJunk(c.junk, i)
		} else {
			c.cells[4096*sector+i] = 0xff
		}
	}
	if part {
		return api.ErrPower
	}
	return api.OK
}

func (c *chip) cut(steps int, junk string) api.Errno {
	if !c.power {
		return api.ErrPower
	}
	if steps < 0 {
		return api.ErrArg
	}
	c.armed, c.more, c.junk = true, steps, junk
	return api.OK
}

func (c *chip) on() { c.power, c.armed = true, false }

// all are bytes of one sort.
func all(n int, b byte) string { return strings.Repeat(string([]byte{b}), n) }

// text is n bytes at random.
func text(r *rand.Rand, n int) string {
	list := make([]byte, n)
	for i := range list {
		list[i] = byte(r.Intn(256))
	}
	return string(list)
}

// of is a flash that holds an image.
func of(t *testing.T, image string) *nor.Flash {
	t.Helper()
	f, e := nor.Of(image)
	if f == nil || e != api.OK {
		t.Fatalf("Of an image of %d bytes: %v, %v", len(image), f, e)
	}
	return f
}

// ask holds the error of a call against the one that it should have.
func ask(t *testing.T, name string, got, want api.Errno) {
	t.Helper()
	if got != want {
		t.Fatalf("%s: %v, not %v", name, got, want)
	}
}

// holds reads cells, and holds them against what they should hold.
func holds(t *testing.T, f *nor.Flash, at int, want string) {
	t.Helper()
	if s, e := f.Read(at, len(want)); s != want || e != api.OK {
		t.Fatalf("Read(%d, %d): %q, %v, not %q", at, len(want), s, e, want)
	}
}

// isImage holds all cells against what they should hold.
func isImage(t *testing.T, name string, f *nor.Flash, want string) {
	t.Helper()
	got := f.Image()
	if len(got) != len(want) {
		t.Fatalf("%s: an image of %d bytes, not %d", name, len(got), len(want))
	}
	for i := range len(got) {
		if got[i] != want[i] {
			t.Fatalf("%s: cell %d holds %#x, not %#x", name, i, got[i], want[i])
		}
	}
}

// areSteps holds how many steps were done against how many should be.
func areSteps(t *testing.T, f *nor.Flash, want int) {
	t.Helper()
	if got := f.Steps(); got != want {
		t.Fatalf("Steps: %d, not %d", got, want)
	}
}

// noPower holds that nothing can be asked of a flash, whatever is asked for.
func noPower(t *testing.T, f *nor.Flash) {
	t.Helper()
	for _, n := range []int{math.MinInt, -1, 0, 1, 8192, 8193, math.MaxInt} {
		s, e := f.Read(n, n)
		if s != "" {
			t.Fatalf("Read without power: %q", s)
		}
		ask(t, "Read without power", e, api.ErrPower)
		ask(t, "Program without power", f.Program(n, ""), api.ErrPower)
		ask(t, "Program without power", f.Program(n, "\x00"), api.ErrPower)
		ask(t, "Erase without power", f.Erase(n), api.ErrPower)
		ask(t, "Cut without power", f.Cut(n, "\x00"), api.ErrPower)
	}
}

// uncut holds that no cut is armed: more steps than any cut of these tests counts are done wholly.
func uncut(t *testing.T, f *nor.Flash) {
	t.Helper()
	was := f.Steps()
	ask(t, "Program of all cells", f.Program(0, all(8192, 0)), api.OK)
	ask(t, "Erase(0)", f.Erase(0), api.OK)
	ask(t, "Erase(1)", f.Erase(1), api.OK)
	isImage(t, "all erased", f, all(8192, 0xff))
	areSteps(t, f, was+8194)
}

// places are numbers at and around the ends that the chapter names.
func places() []int {
	return []int{math.MinInt, math.MinInt + 1, math.MinInt + 8192, -8193, -8192, -2, -1, 0, 1, 2, 4095, 4096, 4097,
		8190, 8191, 8192, 8193, 16384, math.MaxInt - 8193, math.MaxInt - 8192, math.MaxInt - 8191, math.MaxInt - 1, math.MaxInt}
}

// junks are empty, of one byte, and of several, shorter and longer than a sector.
func junks(r *rand.Rand) []string {
	list := []string{"", "\x00", "\xff", "\x3c", "\x0f\xf0"}
	for _, n := range []int{3, 7, 255, 4095, 4096, 4097, 5000, 8192, 8193, 9001} {
		list = append(list, text(r, n))
	}
	return list
}

// The chapter's 'Examples', row by row.
func TestExamples(t *testing.T) {
	f := nor.New()
	ask(t, "Program(0, 0F F0)", f.Program(0, "\x0f\xf0"), api.OK)
	holds(t, f, 0, "\x0f\xf0\xff")
	ask(t, "Program(0, F5)", f.Program(0, "\xf5"), api.OK)
	holds(t, f, 0, "\x05")
	ask(t, "Erase(0)", f.Erase(0), api.OK)
	holds(t, f, 0, "\xff\xff")
	areSteps(t, f, 4)

	f = nor.New()
	ask(t, "Cut(1, 3C)", f.Cut(1, "\x3c"), api.OK)
	ask(t, "Program(4096, 00 00 00)", f.Program(4096, "\x00\x00\x00"), api.ErrPower)
	areSteps(t, f, 1)
	_, e := f.Read(0, 1)
	ask(t, "Read(0, 1)", e, api.ErrPower)
	ask(t, "Program(0, 00)", f.Program(0, "\x00"), api.ErrPower)
	ask(t, "Erase(1)", f.Erase(1), api.ErrPower)
	ask(t, "Cut(0, )", f.Cut(0, ""), api.ErrPower)
	f.On()
	holds(t, f, 4096, "\x00\x3c\xff")
	ask(t, "Cut(0, 0F F0)", f.Cut(0, "\x0f\xf0"), api.OK)
	ask(t, "Erase(1)", f.Erase(1), api.ErrPower)
	f.On()
	holds(t, f, 4096, "\x0f\xfc\xff")

	ask(t, "Program(8192, )", f.Program(8192, ""), api.OK)
	ask(t, "Program(8192, 00)", f.Program(8192, "\x00"), api.ErrArg)
	ask(t, "Program(-1, )", f.Program(-1, ""), api.ErrArg)
	_, e = f.Read(9223372036854775807, 9223372036854775807)
	ask(t, "Read at the greatest int", e, api.ErrArg)
	ask(t, "Erase(2)", f.Erase(2), api.ErrArg)
	none, e := nor.Of(all(8191, 0))
	if none != nil {
		t.Errorf("Of 8191 bytes: a flash")
	}
	ask(t, "Of 8191 bytes", e, api.ErrSize)
}

// P6.1: New holds FF in all its cells, has power, and no cut is armed.
func TestNew(t *testing.T) {
	f := nor.New()
	if f == nil {
		t.Fatal("New: nil")
	}
	isImage(t, "New", f, all(8192, 0xff))
	holds(t, f, 0, all(8192, 0xff))
	areSteps(t, f, 0)
	uncut(t, f)
}

// P6.1: Of takes images of just 8192 bytes, whatever they are, and holds them with power and without a cut.
func TestOf(t *testing.T) {
	r := rand.New(rand.NewSource(1))
	for _, n := range []int{0, 1, 4095, 4096, 4097, 8191, 8193, 12288, 16384, 8192 + 65536} {
		f, e := nor.Of(text(r, n))
		if f != nil || e != api.ErrSize {
			t.Fatalf("Of an image of %d bytes: %v, %v", n, f, e)
		}
	}
	images := []string{all(8192, 0), all(8192, 0xff), all(8192, 'a'), all(4096, 0) + all(4096, 0xff), strings.Repeat("é", 4096)}
	for range 20 {
		images = append(images, text(r, 8192))
	}
	for _, image := range images {
		f := of(t, image)
		isImage(t, "Of", f, image)
		holds(t, f, 0, image)
		areSteps(t, f, 0)
		uncut(t, f)
	}
}

// P6.2: Image is what all cells hold, in their order, with power and without it, and is changed by no later step.
func TestImage(t *testing.T) {
	r := rand.New(rand.NewSource(2))
	first := text(r, 8192)
	f := of(t, first)
	ask(t, "Program(4094, 00 11 22 33)", f.Program(4094, "\x00\x11\x22\x33"), api.OK)
	then := []byte(first)
	for i, b := range []byte{0x00, 0x11, 0x22, 0x33} {
		then[4094+i] &= b
	}
	isImage(t, "behind a Program", f, string(then))
	ask(t, "Cut(1, 80)", f.Cut(1, "\x80"), api.OK)
	ask(t, "Program(8190, 00 01)", f.Program(8190, "\x00\x01"), api.ErrPower)
	then[8190] = 0
	then[8191] &= 0x81
	isImage(t, "without power", f, string(then))
	isImage(t, "without power, again", f, string(then))
	early := f.Image()
	kept := strings.Clone(early)
	f.On()
	isImage(t, "behind On", f, string(then))
	uncut(t, f)
	if early != kept {
		t.Error("an image was changed by later steps")
	}
}

// P6.2: Steps counts the steps that were done wholly, those ahead of a cut among them, and nothing else.
func TestSteps(t *testing.T) {
	f := nor.New()
	want := 0
	count := func(more int) {
		t.Helper()
		want += more
		areSteps(t, f, want)
	}
	ask(t, "Program of nothing", f.Program(0, ""), api.OK)
	count(0)
	ask(t, "Program of five", f.Program(100, "abcde"), api.OK)
	count(5)
	ask(t, "Program of what is there", f.Program(100, "abcde"), api.OK)
	count(5)
	ask(t, "Program of bits that are set", f.Program(200, "\xff\xff"), api.OK)
	count(2)
	ask(t, "Erase(0)", f.Erase(0), api.OK)
	count(1)
	ask(t, "Erase of what is erased", f.Erase(1), api.OK)
	count(1)
	holds(t, f, 0, "\xff")
	f.Image()
	f.On()
	count(0)
	ask(t, "Program beyond the end", f.Program(8190, "abc"), api.ErrArg)
	ask(t, "Erase(2)", f.Erase(2), api.ErrArg)
	ask(t, "Cut(-1, )", f.Cut(-1, ""), api.ErrArg)
	count(0)
	ask(t, "Cut(3, )", f.Cut(3, ""), api.OK)
	count(0)
	ask(t, "Program that is cut", f.Program(300, "abcde"), api.ErrPower)
	count(3)
	ask(t, "Program without power", f.Program(300, "abcde"), api.ErrPower)
	ask(t, "Erase without power", f.Erase(0), api.ErrPower)
	count(0)
	f.On()
	count(0)
	ask(t, "Cut(0, )", f.Cut(0, ""), api.OK)
	ask(t, "Erase that is cut", f.Erase(0), api.ErrPower)
	count(0)
	f.On()
	ask(t, "Cut(1, )", f.Cut(1, ""), api.OK)
	ask(t, "Erase ahead of a cut", f.Erase(0), api.OK)
	count(1)
	ask(t, "Program that is cut at once", f.Program(0, "a"), api.ErrPower)
	count(0)
}

// P6.3: Read answers just the cells that were asked for, at all places and counts, and ErrArg where there are none; nothing is changed by it.
func TestRead(t *testing.T) {
	r := rand.New(rand.NewSource(3))
	image := text(r, 8192)
	f := of(t, image)
	ask(t, "Cut(0, )", f.Cut(0, ""), api.OK)
	for _, at := range places() {
		for _, n := range places() {
			want, wantErr := "", api.ErrArg
			if within(at, n) {
				want, wantErr = image[at:at+n], api.OK
			}
			if s, e := f.Read(at, n); s != want || e != wantErr {
				t.Fatalf("Read(%d, %d): %d bytes, %v, not %d, %v", at, n, len(s), e, len(want), wantErr)
			}
		}
	}
	for range 1000 {
		at := r.Intn(8193)
		holds(t, f, at, image[at:at+r.Intn(8193-at)])
	}
	for at := range 8192 {
		holds(t, f, at, image[at:at+1])
	}
	areSteps(t, f, 0)
	isImage(t, "behind all reads", f, image)
}

// P6.4: a byte that is programmed at a cell leaves both of them, bit by bit: each byte at each one.
func TestProgramByte(t *testing.T) {
	image := ""
	for c := range 8192 {
		image += string([]byte{byte(c)})
	}
	for b := range 256 {
		f := of(t, image)
		ask(t, "Program", f.Program(0, all(8192, byte(b))), api.OK)
		want := make([]byte, 8192)
		for i := range want {
			want[i] = image[i] & byte(b)
		}
		isImage(t, "programmed", f, string(want))
		areSteps(t, f, 8192)
	}
}

// P6.4: Program refuses what does not lie within the flash, and then nothing is changed; else it programs from the cell at on, across sectors too, and no other cell.
func TestProgramPlaces(t *testing.T) {
	r := rand.New(rand.NewSource(4))
	for _, at := range places() {
		for _, n := range []int{0, 1, 2, 3, 4095, 4096, 4097, 8190, 8191, 8192, 8193, 20000} {
			image, data := text(r, 8192), text(r, n)
			f, c := of(t, image), reckonOf(image)
			want := api.ErrArg
			if within(at, n) {
				want = api.OK
			}
			ask(t, "Program", f.Program(at, data), want)
			ask(t, "the words", c.program(at, data), want)
			isImage(t, "Program", f, c.image())
			areSteps(t, f, c.steps)
			if want == api.ErrArg {
				isImage(t, "refused", f, image)
			}
		}
	}
}

// P6.4: a Program that is cut behind each number of its steps, with each sort of junk: what was done stays, the next cell is done in part, what stands behind it is not touched, and power is off.
func TestProgramCut(t *testing.T) {
	r := rand.New(rand.NewSource(5))
	for _, junk := range junks(r) {
		for _, at := range []int{0, 1, 4090, 4096, 8184} {
			for steps := range 8 {
				image, data := text(r, 8192), text(r, 8)
				f := of(t, image)
				ask(t, "Cut", f.Cut(steps, junk), api.OK)
				ask(t, "Program that is cut", f.Program(at, data), api.ErrPower)
				want := []byte(image)
				for i := range steps {
					want[at+i] &= data[i]
				}
				want[at+steps] &= data[steps] | byte(reckonJunk(junk, 0))
				isImage(t, "behind a cut", f, string(want))
				areSteps(t, f, steps)
				noPower(t, f)
				isImage(t, "behind what is refused", f, string(want))
				f.On()
				holds(t, f, 0, string(want))
				uncut(t, f)
			}
		}
	}
}

// P6.4: a step that is done in part, at each byte that is held, programmed and junk's first.
func TestProgramPart(t *testing.T) {
	held := []byte{0x00, 0x01, 0x3c, 0x55, 0x80, 0xaa, 0xf0, 0xfe, 0xff}
	f := nor.New()
	for _, c := range held {
		for b := range 256 {
			for j := range 256 {
				ask(t, "Erase", f.Erase(0), api.OK)
				ask(t, "Program", f.Program(7, string([]byte{c})), api.OK)
				ask(t, "Cut", f.Cut(0, string([]byte{byte(j), 0x99})), api.OK)
				ask(t, "Program that is cut", f.Program(7, string([]byte{byte(b), 0x00})), api.ErrPower)
				f.On()
				holds(t, f, 6, string([]byte{0xff, c & byte(b|j), 0xff}))
			}
		}
	}
}

// P6.4: a cut behind just a Program's last byte does nothing to it: the step behind it is the one that is done in part, and a Program of nothing is no step.
func TestCutBehindProgram(t *testing.T) {
	f := nor.New()
	ask(t, "Cut(3, )", f.Cut(3, "\x0f"), api.OK)
	ask(t, "Program of three", f.Program(0, "abc"), api.OK)
	ask(t, "Program of nothing", f.Program(3, ""), api.OK)
	ask(t, "Program of nothing at the end", f.Program(8192, ""), api.OK)
	holds(t, f, 0, "abc\xff")
	areSteps(t, f, 3)
	ask(t, "Program of one more", f.Program(3, "\x30"), api.ErrPower)
	areSteps(t, f, 3)
	f.On()
	holds(t, f, 0, "abc\x3f\xff")

	ask(t, "Cut(2, )", f.Cut(2, ""), api.OK)
	ask(t, "Program at its last byte", f.Program(10, "\x01\x02\x03"), api.ErrPower)
	f.On()
	holds(t, f, 10, "\x01\x02\x03\xff")
	areSteps(t, f, 5)
}

// P6.5: Erase sets all bits of its sector and none of the other one's, one step; other sectors are refused.
func TestErase(t *testing.T) {
	r := rand.New(rand.NewSource(6))
	for _, sector := range append(places(), 3, 255, 256, 257, 1<<32, 1<<32+1, math.MinInt+1) {
		image := text(r, 8192)
		f := of(t, image)
		switch sector {
		case 0:
			ask(t, "Erase(0)", f.Erase(0), api.OK)
			isImage(t, "Erase(0)", f, all(4096, 0xff)+image[4096:])
			areSteps(t, f, 1)
		case 1:
			ask(t, "Erase(1)", f.Erase(1), api.OK)
			isImage(t, "Erase(1)", f, image[:4096]+all(4096, 0xff))
			areSteps(t, f, 1)
		default:
			ask(t, "Erase of no sector", f.Erase(sector), api.ErrArg)
			isImage(t, "Erase of no sector", f, image)
			areSteps(t, f, 0)
			uncut(t, f)
		}
	}
}

// P6.5: an Erase that is cut, with each sort of junk: each cell of the sector takes the junk's bits by its place within the sector, the other sector is not touched, and power is off.
func TestEraseCut(t *testing.T) {
	r := rand.New(rand.NewSource(7))
	for _, junk := range junks(r) {
		for sector := range 2 {
			image := text(r, 8192)
			f := of(t, image)
			ask(t, "Cut", f.Cut(0, junk), api.OK)
			ask(t, "Erase that is cut", f.Erase(sector), api.ErrPower)
			want := []byte(image)
			for i := range 4096 {
				want[4096*sector+i] |= byte(reckonJunk(junk, i))
			}
			isImage(t, "behind a cut", f, string(want))
			areSteps(t, f, 0)
			noPower(t, f)
			isImage(t, "behind what is refused", f, string(want))
			f.On()
			holds(t, f, 0, string(want))
			uncut(t, f)
		}
	}
}

// P6.6: Cut arms behind so many steps more, of whatever sort they are, and refuses steps below 0, which leaves a cut that is armed as it is.
func TestCut(t *testing.T) {
	for _, steps := range []int{math.MinInt, math.MinInt + 1, -8192, -2, -1} {
		f := nor.New()
		ask(t, "Cut below 0", f.Cut(steps, "a"), api.ErrArg)
		uncut(t, f)
		ask(t, "Cut(2, )", f.Cut(2, "\x0f"), api.OK)
		ask(t, "Cut below 0", f.Cut(steps, "\xf0"), api.ErrArg)
		ask(t, "Program that is cut", f.Program(0, "\x00\x00\x00\x00"), api.ErrPower)
		f.On()
		holds(t, f, 0, "\x00\x00\x0f\xff")
	}
	for _, steps := range []int{8194, 1 << 32, math.MaxInt - 1, math.MaxInt} {
		f := nor.New()
		ask(t, "Cut", f.Cut(steps, "a"), api.OK)
		uncut(t, f)
	}
	f := nor.New()
	ask(t, "Cut(4, )", f.Cut(4, "\x55"), api.OK)
	ask(t, "Erase(1)", f.Erase(1), api.OK)
	ask(t, "Program of one", f.Program(5000, "\x00"), api.OK)
	ask(t, "Erase(0)", f.Erase(0), api.OK)
	ask(t, "Program of one", f.Program(5001, "\x00"), api.OK)
	ask(t, "Erase(1)", f.Erase(1), api.ErrPower)
	f.On()
	holds(t, f, 4999, "\xff\x55\x55\xff")
	areSteps(t, f, 4)
}

// P6.6: refused calls, and calls that have no step, bring a cut no nearer.
func TestCutWaits(t *testing.T) {
	f := nor.New()
	ask(t, "Cut(1, )", f.Cut(1, ""), api.OK)
	for range 3 {
		ask(t, "Program beyond the end", f.Program(8192, "a"), api.ErrArg)
		ask(t, "Program of nothing", f.Program(0, ""), api.OK)
		ask(t, "Erase(2)", f.Erase(2), api.ErrArg)
		holds(t, f, 0, "\xff")
		f.Image()
		f.Steps()
	}
	ask(t, "Program of one", f.Program(0, "\x00"), api.OK)
	ask(t, "Program of one more", f.Program(1, "\x00"), api.ErrPower)
}

// P6.6: a cut is armed in the place of another, be it nearer or farther, with its own junk; it counts from where it was armed.
func TestCutInPlace(t *testing.T) {
	for first := range 5 {
		for second := range 5 {
			for ahead := range first + 1 {
				f := nor.New()
				ask(t, "the first cut", f.Cut(first, "\xf0"), api.OK)
				ask(t, "Program ahead", f.Program(100, all(ahead, 0)), api.OK)
				ask(t, "the second cut", f.Cut(second, "\x0f"), api.OK)
				ask(t, "Program that is cut", f.Program(0, all(8, 0)), api.ErrPower)
				f.On()
				holds(t, f, 0, all(second, 0)+"\x0f"+all(8-second, 0xff))
				areSteps(t, f, ahead+second)
				uncut(t, f)
			}
		}
	}
}

// P6.6: a cut that has come is armed no more: behind On, and behind a cut of its own, each one comes once.
func TestCutComesOnce(t *testing.T) {
	f := nor.New()
	for i := range 20 {
		ask(t, "Cut", f.Cut(0, ""), api.OK)
		ask(t, "Program that is cut", f.Program(i, "\x00"), api.ErrPower)
		f.On()
	}
	holds(t, f, 0, all(20, 0)+"\xff")
	areSteps(t, f, 0)
	uncut(t, f)
}

// P6.7: On brings power, and takes a cut away that is armed, also where there was power; the cells and the count of steps stay.
func TestOn(t *testing.T) {
	for _, steps := range []int{0, 1, 5, math.MaxInt} {
		r := rand.New(rand.NewSource(8))
		image := text(r, 8192)
		f := of(t, image)
		ask(t, "Program of one", f.Program(0, "\xff"), api.OK)
		ask(t, "Cut", f.Cut(steps, "\x0f"), api.OK)
		f.On()
		isImage(t, "On with power", f, image)
		areSteps(t, f, 1)
		uncut(t, f)
	}
	f := nor.New()
	f.On()
	f.On()
	uncut(t, f)
	ask(t, "Cut", f.Cut(0, ""), api.OK)
	ask(t, "Erase that is cut", f.Erase(0), api.ErrPower)
	noPower(t, f)
	f.On()
	f.On()
	uncut(t, f)
}

// P6.8: programming clears bits and sets none, and what is programmed twice is as if once; erasing sets bits and clears none.
func TestBitsGoOneWay(t *testing.T) {
	r := rand.New(rand.NewSource(9))
	for range 200 {
		f := of(t, text(r, 8192))
		was := f.Image()
		at := r.Intn(8193)
		data := text(r, r.Intn(8193-at))
		ask(t, "Program", f.Program(at, data), api.OK)
		once := f.Image()
		for i := range once {
			if once[i]&^was[i] != 0 {
				t.Fatalf("Program(%d, %q) set bits of cell %d: %#x, then %#x", at, data, i, was[i], once[i])
			}
		}
		ask(t, "Program twice", f.Program(at, data), api.OK)
		isImage(t, "programmed twice", f, once)
		sector := r.Intn(2)
		ask(t, "Erase", f.Erase(sector), api.OK)
		erased := f.Image()
		for i := range erased {
			if once[i]&^erased[i] != 0 || i/4096 != sector && once[i] != erased[i] {
				t.Fatalf("Erase(%d): cell %d holds %#x, then %#x", sector, i, once[i], erased[i])
			}
		}
	}
}

// act is one call that has steps: the bytes to program, or a sector to erase.
type act struct {
	erase      bool
	at, sector int
	data       string
}

func anyAct(r *rand.Rand) act {
	if r.Intn(4) == 0 {
		return act{erase: true, sector: r.Intn(2)}
	}
	at := r.Intn(8184)
	return act{at: at, data: text(r, r.Intn(9))}
}

func (a act) steps() int {
	if a.erase {
		return 1
	}
	return len(a.data)
}

func (a act) do(f *nor.Flash) api.Errno {
	if a.erase {
		return f.Erase(a.sector)
	}
	return f.Program(a.at, a.data)
}

// first does the first steps of a run on an image, wholly and without any cut; it tells which cells the last of them was at.
func first(t *testing.T, image string, run []act, steps int) (cells string, lo, hi int) {
	t.Helper()
	f := of(t, image)
	for _, a := range run {
		if a.steps() > steps {
			a.data = a.data[:steps]
		}
		if a.steps() == 0 {
			continue
		}
		ask(t, "a step of a run", a.do(f), api.OK)
		steps -= a.steps()
		lo, hi = a.at+len(a.data)-1, a.at+len(a.data)
		if a.erase {
			lo, hi = 4096*a.sector, 4096*a.sector+4096
		}
		if steps == 0 {
			break
		}
	}
	return f.Image(), lo, hi
}

// P6.8: of a run that is cut at each of its steps, the cells are those of the run of one step less, but for those of the step that was done in part, where each bit is as it was or as the step would have made it.
func TestRunsThatAreCut(t *testing.T) {
	r := rand.New(rand.NewSource(10))
	sorts := junks(r)
	for range 60 {
		image := text(r, 8192)
		var run []act
		total := 0
		for range 1 + r.Intn(6) {
			run = append(run, anyAct(r))
			total += run[len(run)-1].steps()
		}
		for steps := range total {
			f := of(t, image)
			ask(t, "Cut", f.Cut(steps, sorts[r.Intn(len(sorts))]), api.OK)
			e := api.OK
			for _, a := range run {
				if e = a.do(f); e != api.OK {
					break
				}
			}
			ask(t, "the run that is cut", e, api.ErrPower)
			areSteps(t, f, steps)
			got := f.Image()
			less := image
			if steps > 0 {
				less, _, _ = first(t, image, run, steps)
			}
			whole, lo, hi := first(t, image, run, steps+1)
			for i := range got {
				strange := (got[i] ^ less[i]) & (got[i] ^ whole[i])
				if strange != 0 || (i < lo || i >= hi) && got[i] != less[i] {
					t.Fatalf("%#v, cut behind %d steps: cell %d holds %#x; %#x ahead of the step, %#x behind it", run, steps, i, got[i], less[i], whole[i])
				}
			}
		}
	}
}

// R2: a nil Flash answers ErrNil ahead of any other reason, or zero values, and does nothing.
func TestNil(t *testing.T) {
	var f *nor.Flash
	for _, n := range places() {
		s, e := f.Read(n, n)
		if s != "" {
			t.Fatalf("Read of a nil Flash: %q", s)
		}
		ask(t, "Read", e, api.ErrNil)
		ask(t, "Program", f.Program(n, ""), api.ErrNil)
		ask(t, "Program", f.Program(n, "a"), api.ErrNil)
		ask(t, "Program", f.Program(n, all(8193, 0)), api.ErrNil)
		ask(t, "Erase", f.Erase(n), api.ErrNil)
		ask(t, "Cut", f.Cut(n, ""), api.ErrNil)
		ask(t, "Cut", f.Cut(n, "abc"), api.ErrNil)
	}
	f.On()
	if f.Image() != "" || f.Steps() != 0 {
		t.Errorf("a nil Flash: an image of %d bytes, %d steps", len(f.Image()), f.Steps())
	}
}

// P6.3 to P6.6: of a flash without power ErrPower comes ahead of ErrArg, and nothing is changed: no step, no cut that would be armed.
func TestPowerAheadOfArg(t *testing.T) {
	f := nor.New()
	ask(t, "Cut(0, )", f.Cut(0, ""), api.OK)
	ask(t, "Program that is cut", f.Program(0, "\x00"), api.ErrPower)
	was := f.Image()
	for _, n := range places() {
		s, e := f.Read(n, -1)
		if s != "" {
			t.Fatalf("Read without power: %q", s)
		}
		ask(t, "Read", e, api.ErrPower)
		ask(t, "Program", f.Program(n, all(8193, 0)), api.ErrPower)
		ask(t, "Erase", f.Erase(n), api.ErrPower)
		ask(t, "Cut", f.Cut(n, ""), api.ErrPower)
	}
	isImage(t, "without power", f, was)
	areSteps(t, f, 0)
	f.On()
	uncut(t, f)
}

// P6.1 to P6.7, R1: calls of all sorts in whatever order, with whatever numbers, answer as the document's words do.
func TestAnyCalls(t *testing.T) {
	r := rand.New(rand.NewSource(11))
	sorts := junks(r)
	number := func() int {
		if r.Intn(8) == 0 {
			list := places()
			return list[r.Intn(len(list))]
		}
		return r.Intn(8192)
	}
	for range 60 {
		image := text(r, 8192)
		f, c := of(t, image), reckonOf(image)
		for range 400 {
			switch r.Intn(8) {
			case 0:
				at, n := number(), number()
				got, e := f.Read(at, n)
				want, wantErr := c.read(at, n)
				if got != want || e != wantErr {
					t.Fatalf("Read(%d, %d): %q, %v, not %q, %v", at, n, got, e, want, wantErr)
				}
			case 1, 2, 3:
				at, data := number(), text(r, r.Intn(20))
				ask(t, "Program", f.Program(at, data), c.program(at, data))
			case 4:
				sector := r.Intn(4) - 1
				ask(t, "Erase", f.Erase(sector), c.erase(sector))
			case 5:
				steps, junk := r.Intn(40)-1, sorts[r.Intn(len(sorts))]
				ask(t, "Cut", f.Cut(steps, junk), c.cut(steps, junk))
			case 6:
				if r.Intn(2) == 0 {
					f.On()
					c.on()
				}
			case 7:
				isImage(t, "a run of any calls", f, c.image())
			}
			areSteps(t, f, c.steps)
		}
		isImage(t, "a run of any calls", f, c.image())
	}
}

// R2: flashes know nothing of one another, those of one image among them.
func TestApart(t *testing.T) {
	image := all(8192, 0xf0)
	a, b, c := of(t, image), of(t, image), nor.New()
	ask(t, "Cut", a.Cut(2, "\xff"), api.OK)
	ask(t, "Program", b.Program(0, "\x11\x22\x33"), api.OK)
	ask(t, "Erase", c.Erase(0), api.OK)
	ask(t, "Program", c.Program(0, "\x44\x55\x66\x77"), api.OK)
	ask(t, "Program that is cut", a.Program(0, "\x88\x99\xaa"), api.ErrPower)
	holds(t, b, 0, "\x10\x20\x30\xf0")
	holds(t, c, 0, "\x44\x55\x66\x77\xff")
	isImage(t, "the one that was cut", a, "\x80\x90"+all(8190, 0xf0))
	b.On()
	noPower(t, a)
	areSteps(t, a, 2)
	areSteps(t, b, 3)
	areSteps(t, c, 5)
	if image != all(8192, 0xf0) {
		t.Error("the image that was handed in was written into")
	}
}

// R2: what is told of the cells is new memory each time, and stays as it was told.
func TestToldIsNew(t *testing.T) {
	r := rand.New(rand.NewSource(12))
	image := text(r, 8192)
	f := of(t, image)
	var told []string
	var starts []*byte
	for range 3 {
		s, e := f.Read(0, 8192)
		ask(t, "Read", e, api.OK)
		told = append(told, f.Image(), s)
	}
	for _, s := range append(slices.Clone(told), image) {
		start := unsafe.StringData(s)
		if slices.Contains(starts, start) {
			t.Fatal("two answers share memory, or an answer and the image")
		}
		starts = append(starts, start)
	}
	uncut(t, f)
	for _, s := range told {
		if s != image {
			t.Fatal("what was told was changed by later steps")
		}
	}
}

// R2: the bytes that made an image or a junk are of the caller: what becomes of them later does not show.
func TestTakenAsCopies(t *testing.T) {
	bytes := []byte(all(8192, 0x5a))
	f := of(t, unsafe.String(&bytes[0], len(bytes)))
	junk := []byte{0x0f}
	ask(t, "Cut", f.Cut(0, unsafe.String(&junk[0], len(junk))), api.OK)
	bytes[0], junk[0] = 0, 0xf0
	isImage(t, "behind a change of the bytes", f, all(8192, 0x5a))
	ask(t, "Program that is cut", f.Program(1, "\x00"), api.ErrPower)
	isImage(t, "behind a change of the junk", f, "\x5a\x0a"+all(8190, 0x5a))
}
