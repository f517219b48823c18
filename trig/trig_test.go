package trig_test

import (
	"math"
	"math/big"
	"math/rand"
	"strconv"
	"strings"
	"testing"

	"windhover/api"
	"windhover/trig"
)

const (
	most  = math.MaxInt
	least = math.MinInt
)

// The document's tables, as it writes them.
const (
	sines = `
    0 402 804 1205 1606 2006 2404 2801 3196 3590 3981 4370 4756 5139 5520 5897
    6270 6639 7005 7366 7723 8076 8423 8765 9102 9434 9760 10080 10394 10702 11003 11297
    11585 11866 12140 12406 12665 12916 13160 13395 13623 13842 14053 14256 14449 14635 14811 14978
    15137 15286 15426 15557 15679 15791 15893 15986 16069 16143 16207 16261 16305 16340 16364 16379
    16384`
	angles = `
    0 163 326 489 651 813 975 1136 1297 1457 1617 1775 1933 2090 2246 2401
    2555 2708 2860 3010 3159 3307 3453 3599 3742 3884 4025 4164 4302 4438 4572 4705
    4836 4966 5094 5220 5344 5467 5589 5708 5826 5943 6058 6171 6282 6392 6500 6607
    6712 6815 6917 7018 7117 7214 7310 7405 7498 7589 7679 7768 7856 7942 8026 8110
    8192`
)

// table reads one of the document's tables.
func table(t *testing.T, text string) []int {
	t.Helper()
	var list []int
	for _, word := range strings.Fields(text) {
		n, err := strconv.Atoi(word)
		if err != nil {
			t.Fatal(err)
		}
		list = append(list, n)
	}
	if len(list) != 65 {
		t.Fatal("a table of", len(list))
	}
	return list
}

// reckonAt is the table at r, by the document's words.
func reckonAt(list []int, r int) int {
	i, f := r/256, r%256
	if f == 0 {
		return list[i]
	}
	return list[i] + ((list[i+1]-list[i])*f+128)/256
}

// reckonPlace is the angle's place, by big numbers.
func reckonPlace(a *big.Int) int {
	return int(new(big.Int).Mod(a, big.NewInt(65536)).Int64())
}

// reckonSin is the sine at a place, by the document's words.
func reckonSin(list []int, place int) int {
	q, r := place/16384, place%16384
	switch q {
	case 0:
		return reckonAt(list, r)
	case 1:
		return reckonAt(list, 16384-r)
	case 2:
		return -reckonAt(list, r)
	}
	return -reckonAt(list, 16384-r)
}

// reckonAtan2 is the angle of a direction, by the document's words and big numbers.
func reckonAtan2(list []int, y, x int) (int, bool) {
	if y == 0 && x == 0 {
		return 0, false
	}
	l := new(big.Int).Abs(big.NewInt(int64(y)))
	g := new(big.Int).Abs(big.NewInt(int64(x)))
	upright := l.Cmp(g) > 0
	if upright {
		l, g = g, l
	}
	t := new(big.Int).Mul(l, big.NewInt(16384))
	t.Quo(t, g)
	b := reckonAt(list, int(t.Int64()))
	if upright {
		b = 16384 - b
	}
	switch {
	case y >= 0 && x >= 0:
		return b, true
	case y >= 0:
		return 32768 - b, true
	case x < 0:
		return 32768 + b, true
	case b == 0:
		return 0, true
	}
	return 65536 - b, true
}

// edges are numbers at which places, quarters and quotients turn.
func edges() []int {
	list := []int{0, most, least}
	for off := 1; off <= 3; off++ {
		list = append(list, off, -off, most-off, least+off)
	}
	for quarter := -9; quarter <= 9; quarter++ {
		for off := -1; off <= 1; off++ {
			list = append(list, quarter*16384+off, most+quarter*16384/2-16384*8+off)
		}
	}
	for _, shift := range []int{31, 48, 49, 50, 51, 62} {
		for off := -1; off <= 1; off++ {
			list = append(list, 1<<shift+off, -1<<shift+off)
		}
	}
	return list
}

// source gives numbers of all lengths, the same ones in each run.
func source() func() int {
	r := rand.New(rand.NewSource(2))
	return func() int { return int(r.Uint64()) >> r.Intn(64) }
}

// eachAngle hands over all of five turns about 0, the edges, and many others.
func eachAngle(do func(a int)) {
	for a := -2*api.Turn - 5; a <= 3*api.Turn+5; a++ {
		do(a)
	}
	for _, a := range edges() {
		do(a)
	}
	next := source()
	for range 50000 {
		do(next())
	}
}

// eachPair hands over all pairs of edges, and many others.
func eachPair(do func(a, b int)) {
	for _, a := range edges() {
		for _, b := range edges() {
			do(a, b)
		}
	}
	next := source()
	for range 100000 {
		do(next(), next())
	}
}

// P2.1
func TestSinExamples(t *testing.T) {
	for _, c := range []struct{ a, want int }{
		{0, 0}, {100, 157}, {5461, 8191}, {8192, 11585}, {16384, 16384}, {32768, 0}, {49152, -16384}, {-100, -157},
	} {
		if got := trig.Sin(c.a); got != c.want {
			t.Errorf("Sin(%d) = %d, want %d", c.a, got, c.want)
		}
	}
}

// P2.1: by the table at all its numbers and between them, in all quarters, below 0 and beyond a turn.
func TestSinByTheTable(t *testing.T) {
	list := table(t, sines)
	for i, s := range list {
		if got := trig.Sin(i * 256); got != s {
			t.Errorf("Sin(%d) = %d, want %d", i*256, got, s)
		}
	}
	eachAngle(func(a int) {
		want := reckonSin(list, reckonPlace(big.NewInt(int64(a))))
		if got := trig.Sin(a); got != want {
			t.Fatalf("Sin(%d) = %d, want %d", a, got, want)
		}
	})
}

// P2.1: the least and the greatest int are a place's 0 and 65535.
func TestSinEnds(t *testing.T) {
	for _, c := range []struct{ a, want int }{
		{least, 0}, {least + 16384, 16384}, {most, -2}, {most - 16383, -16384}, {most + 1 - 32768, 0},
		{-16384, -16384}, {16383, 16384}, {-1, -2}, {1, 2}, {65535, -2}, {65536, 0}, {65536 + 16384, 16384},
	} {
		if got := trig.Sin(c.a); got != c.want {
			t.Errorf("Sin(%d) = %d, want %d", c.a, got, c.want)
		}
	}
}

// P2.2
func TestCosExamples(t *testing.T) {
	for _, c := range []struct{ a, want int }{
		{0, 16384}, {5461, 14189}, {16384, 0}, {32768, -16384},
		{49152, 0}, {65536, 16384}, {-16384, 0}, {least, 16384}, {most, 16384}, {most - 32767, -16384},
	} {
		if got := trig.Cos(c.a); got != c.want {
			t.Errorf("Cos(%d) = %d, want %d", c.a, got, c.want)
		}
	}
}

// P2.2: the quarter turn is added without passing an int.
func TestCosIsSinAQuarterOn(t *testing.T) {
	list := table(t, sines)
	eachAngle(func(a int) {
		on := new(big.Int).Add(big.NewInt(int64(a)), big.NewInt(16384))
		want := reckonSin(list, reckonPlace(on))
		if got := trig.Cos(a); got != want {
			t.Fatalf("Cos(%d) = %d, want %d", a, got, want)
		}
	})
}

// P2.3
func TestAtan2Examples(t *testing.T) {
	for _, c := range []struct {
		y, x, want int
		is         bool
	}{
		{0, 0, 0, false}, {0, 5, 0, true}, {1, 2, 4836, true}, {1, 1, 8192, true}, {3, 1, 13029, true},
		{7, 0, 16384, true}, {0, -1, 32768, true}, {-1, -2, 37604, true}, {5, -1000, 32716, true}, {-7, 1, 50632, true},
		{least, least, 40960, true}, {-1, most, 0, true},
	} {
		if got, is := trig.Atan2(c.y, c.x); got != c.want || is != c.is {
			t.Errorf("Atan2(%d, %d) = %d, %v, want %d, %v", c.y, c.x, got, is, c.want, c.is)
		}
	}
}

// P2.3: one number 0, and numbers that are the same without their signs.
func TestAtan2OnAxesAndDiagonals(t *testing.T) {
	for _, n := range []int{1, 2, 3, 63, 64, 16384, 1 << 50, most - 1, most} {
		for _, c := range []struct{ y, x, want int }{
			{0, n, 0}, {n, n, 8192}, {n, 0, 16384}, {n, -n, 24576},
			{0, -n, 32768}, {-n, -n, 40960}, {-n, 0, 49152}, {-n, n, 57344},
		} {
			if got, is := trig.Atan2(c.y, c.x); got != c.want || !is {
				t.Errorf("Atan2(%d, %d) = %d, %v, want %d", c.y, c.x, got, is, c.want)
			}
		}
	}
	// The least int without its sign is no int.
	for _, c := range []struct{ y, x, want int }{
		{0, least, 32768}, {least, 0, 49152}, {least, least, 40960}, {least, most, 57344}, {most, least, 24576},
	} {
		if got, is := trig.Atan2(c.y, c.x); got != c.want || !is {
			t.Errorf("Atan2(%d, %d) = %d, %v, want %d", c.y, c.x, got, is, c.want)
		}
	}
}

// P2.3: what would be 65536 is 0, and what is just less is not.
func TestAtan2NeverIsATurn(t *testing.T) {
	for _, c := range []struct{ y, x, want int }{
		{-1, 16385, 0}, {-1, 16384, 65535}, {-1, most, 0}, {1, most, 0}, {1, least, 32768}, {-1, least, 32768},
		{-most, 1, 49152}, {least, 1, 49152}, {most, 1, 16384},
	} {
		if got, is := trig.Atan2(c.y, c.x); got != c.want || !is {
			t.Errorf("Atan2(%d, %d) = %d, %v, want %d", c.y, c.x, got, is, c.want)
		}
	}
	eachPair(func(y, x int) {
		if got, _ := trig.Atan2(y, x); got < 0 || got >= api.Turn {
			t.Fatalf("Atan2(%d, %d) = %d", y, x, got)
		}
	})
}

// P2.3: exactly, at all numbers.
func TestAtan2ByTheTable(t *testing.T) {
	list := table(t, angles)
	check := func(y, x int) {
		want, wantIs := reckonAtan2(list, y, x)
		if got, is := trig.Atan2(y, x); got != want || is != wantIs {
			t.Fatalf("Atan2(%d, %d) = %d, %v, want %d, %v", y, x, got, is, want, wantIs)
		}
	}
	for i, a := range list {
		if got, is := trig.Atan2(i, 64); got != a || !is {
			t.Errorf("Atan2(%d, 64) = %d, %v, want %d", i, got, is, a)
		}
	}
	for n := -16384; n <= 16384; n++ {
		check(n, 16384)
		check(16384, n)
		check(n, -16384)
		check(-16384, n)
	}
	eachPair(check)
}

// P2.4
func TestWayExamples(t *testing.T) {
	for _, c := range []struct{ a, b, want int }{
		{0, 1, 1}, {1, 0, -1}, {65000, 100, 636}, {0, 32768, -32768}, {32768, 0, -32768}, {-1, 65535, 0},
		{0, 32767, 32767}, {0, 32769, -32767}, {0, -32768, -32768}, {0, -32767, -32767}, {0, -32769, 32767},
		{7, 7 + 5*65536, 0}, {least, most, -1}, {most, least, 1}, {least, 0, 0}, {most, 0, 1}, {0, most, -1},
		{most, most - 32768, -32768}, {least, least + 32768, -32768}, {least, least, 0}, {most, most, 0},
	} {
		if got := trig.Way(c.a, c.b); got != c.want {
			t.Errorf("Way(%d, %d) = %d, want %d", c.a, c.b, got, c.want)
		}
	}
}

// P2.4: within half a turn, and it leads to b's place.
func TestWayLeadsThere(t *testing.T) {
	check := func(a, b int) {
		got := trig.Way(a, b)
		if got < -32768 || got > 32767 {
			t.Fatalf("Way(%d, %d) = %d", a, b, got)
		}
		there := new(big.Int).Add(big.NewInt(int64(a)), big.NewInt(int64(got)))
		if reckonPlace(there) != reckonPlace(big.NewInt(int64(b))) {
			t.Fatalf("Way(%d, %d) = %d does not lead there", a, b, got)
		}
	}
	eachPair(check)
	for b := range api.Turn {
		check(0, b)
		check(b, 0)
		check(12345, b)
	}
}

// P2.5
func TestSinIsOddAndTurnsRound(t *testing.T) {
	for a := range api.Turn {
		s := trig.Sin(a)
		if back := trig.Sin(-a); back != -s {
			t.Fatalf("Sin(%d) = %d, Sin(%d) = %d", a, s, -a, back)
		}
		if on := trig.Sin(a + api.Turn/2); on != -s {
			t.Fatalf("Sin(%d) = %d, Sin(%d) = %d", a, s, a+api.Turn/2, on)
		}
	}
}

// P2.5
func TestSinRisesOverTheFirstQuarter(t *testing.T) {
	if first, last := trig.Sin(0), trig.Sin(api.Turn/4); first != 0 || last != api.One {
		t.Error(first, last)
	}
	for a := 1; a <= api.Turn/4; a++ {
		if trig.Sin(a) < trig.Sin(a-1) {
			t.Fatalf("Sin(%d) = %d, Sin(%d) = %d", a-1, trig.Sin(a-1), a, trig.Sin(a))
		}
	}
}

// P2.5
func TestSquaresAddUp(t *testing.T) {
	for a := range api.Turn {
		s, c := trig.Sin(a), trig.Cos(a)
		if off := s*s + c*c - 1<<28; off < -70000 || off > 70000 {
			t.Fatalf("at %d the squares are off by %d", a, off)
		}
	}
}

// P2.5
func TestAtan2OfSinAndCos(t *testing.T) {
	for _, k := range []int{1, 2, 3, 1000, 1<<49 - 1} {
		for a := range api.Turn {
			got, is := trig.Atan2(k*trig.Sin(a), k*trig.Cos(a))
			if way := trig.Way(a, got); !is || way < -1 || way > 1 {
				t.Fatalf("at %d, %d times: %d, %v", a, k, got, is)
			}
		}
	}
}

// P2.5
func TestWayThereAndBack(t *testing.T) {
	eachPair(func(a, b int) {
		sum := trig.Way(a, b) + trig.Way(b, a)
		// Half a turn is -32768 both ways, so that the turn is one below 0.
		if sum != 0 && sum != -api.Turn {
			t.Fatalf("Way(%d, %d) and back: %d", a, b, sum)
		}
	})
}
