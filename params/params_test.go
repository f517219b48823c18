package params_test

import (
	"math"
	"math/rand"
	"slices"
	"strings"
	"testing"

	"windhover/api"
	"windhover/params"
)

const (
	most  = math.MaxInt
	least = math.MinInt
	far   = 1 << 29 // mm that a height, a distance and a ceiling may be
)

// row is one of the document's table.
type row struct {
	number, from, to, usual int
}

// rows are the document's table.
func rows() []row {
	return []row{
		{0, 0, 16, 6},
		{1, 1, 200, 20},
		{2, 0, 16, 4},
		{3, 1, 200, 20},
		{4, 0, 16, 4},
		{5, 0, 4, 2},
		{6, 4, 32, 12},
		{7, 1600, 64000, 16000},
		{8, 1600, 32000, 8000},
		{9, 2000, 16000, 8000},
		{10, 1000, 120000, 5000},
		{11, 500, 120000, 2000},
		{12, 200, 10000, 1000},
		{13, 100, 10000, 500},
		{14, 40, 40000, 4000},
		{15, 40, 40000, 400},
		{16, 1, 40, 8},
		{17, 0, 1000000000, 1000},
		{18, 0, 1000000, 100},
		{19, 0, 1000, 1},
		{20, 0, 1000, 2},
		{21, 1, 10000, 500},
		{22, 0, 16384, 4000},
		{23, 16, 3200, 800},
	}
}

// with is a list with other numbers in some places: pairs of a place and a number.
func with(list []int, pairs ...int) []int {
	changed := slices.Clone(list)
	for i := 0; i < len(pairs); i += 2 {
		changed[pairs[i]] = pairs[i+1]
	}
	return changed
}

// usual is the defaults by the document's table, with other numbers in some places.
func usual(pairs ...int) []int {
	var list []int
	for _, r := range rows() {
		list = append(list, r.usual)
	}
	return with(list, pairs...)
}

// lows is each parameter at its least; the rules hold.
func lows() []int {
	var list []int
	for _, r := range rows() {
		list = append(list, r.from)
	}
	return list
}

// highs is each parameter at its greatest, but those that rule (a) holds down.
func highs() []int {
	var list []int
	for _, r := range rows() {
		list = append(list, r.to)
	}
	return with(list, api.GnssSpeed, 6, api.BaroClimb, 5)
}

// roomy leaves each parameter alone free to be at either end of its range: the rules hold all the same.
func roomy() []int {
	return with(lows(), api.Radius, 10000, api.ReturnAlt, 120000)
}

// reckonCheck is Check by the document's words.
func reckonCheck(v []int) api.Errno {
	if len(v) != 24 {
		return api.ErrSize
	}
	for i, r := range rows() {
		if v[i] < r.from || v[i] > r.to {
			return api.ErrRange
		}
	}
	a := v[0]+v[6]+2*max(v[2], v[4])+4 <= 64
	b := v[12] >= 8*max(v[1], v[3])+100
	c := v[11] <= v[10]
	if !a || !b || !c {
		return api.ErrRule
	}
	return api.OK
}

// reckonWay is v - b, v - 2b and so on, as long as these are above 0, added up.
func reckonWay(v, b int) int {
	sum := 0
	for v -= b; v > 0; v -= b {
		sum += v
	}
	return sum
}

// reckonUp is a over b, rounded up; both are above 0, or a is 0.
func reckonUp(a, b int) int { return (a + b - 1) / b }

// reckonMargins are Margins by the document's words, of sound parameters.
func reckonMargins(v []int) api.Margins {
	var m api.Margins
	m.Brake = 64 - v[0]
	m.Drift = v[0] + max(v[2], v[4]) + 2
	m.Jolt = 86 * (v[5] + 1)
	m.Fast = max(v[7], v[8], v[9]) + 128 + m.Jolt + m.Drift
	m.Lane = reckonUp(reckonWay(m.Fast, m.Brake), 6400) + 12*max(v[1], v[3]) + 100
	m.Drain = v[19] + 1824*v[20]/1024
	return m
}

// reckonLand is LandTicks by the document's words.
func reckonLand(v []int, height int) int {
	m := reckonMargins(v)
	n := m.Fast / m.Brake
	n += v[9] / 32
	n += reckonUp(6400*height+reckonWay(m.Fast, m.Brake)+16*m.Fast, v[9]-m.Drift)
	return n + 104
}

// reckonReturn is ReturnTicks by the document's words.
func reckonReturn(v []int, height, distance int) int {
	a := func(d, speed int) int { return 8*(speed/v[6]) + reckonUp(3*6400*d, speed) + 800 }
	h := max(height, v[10]) + 1000
	return a(h, v[8]) + a(distance, v[7]) + 8*((v[8]+v[9])/v[6]) + reckonUp(2*6400*h, v[9]) + 104
}

// reckonSlack is Slack by the document's words.
func reckonSlack(v []int, ceiling int) int {
	m := reckonMargins(v)
	return reckonUp(m.Drift*reckonLand(v, ceiling)+m.Jolt*64, 6400) + 2
}

// reckonBytes is four bytes a number, the highest first.
func reckonBytes(v []int) string {
	var list []byte
	for _, x := range v {
		for _, weight := range []int{1 << 24, 1 << 16, 1 << 8, 1} {
			list = append(list, byte(x/weight%256))
		}
	}
	return string(list)
}

// reckonNumbers reads four bytes a number, below 0 as the complement of two.
func reckonNumbers(s string) []int {
	var list []int
	for i := 0; i+4 <= len(s); i += 4 {
		x := 0
		for k := range 4 {
			x = 256*x + int(s[i+k])
		}
		if x >= 1<<31 {
			x -= 1 << 32
		}
		list = append(list, x)
	}
	return list
}

// anyNumbers is a list of 24 in their ranges, now and then at an end; the rules may be broken.
func anyNumbers(r *rand.Rand) []int {
	var list []int
	for _, x := range rows() {
		switch r.Intn(6) {
		case 0:
			list = append(list, x.from)
		case 1:
			list = append(list, x.to)
		case 2:
			list = append(list, x.usual)
		default:
			list = append(list, x.from+r.Intn(x.to-x.from+1))
		}
	}
	return list
}

// eachSound hands over sound parameters of many sorts, the same ones in each run.
func eachSound(do func(v []int)) {
	do(usual())
	do(lows())
	do(highs())
	do(roomy())
	r := rand.New(rand.NewSource(8))
	for n := 0; n < 3000; {
		if v := anyNumbers(r); reckonCheck(v) == api.OK {
			do(v)
			n++
		}
	}
}

// eachFault hands over lists that Check refuses, with its error; several faults at once are among them.
func eachFault(do func(v []int, e api.Errno)) {
	do(nil, api.ErrSize)
	do([]int{}, api.ErrSize)
	do(usual()[:1], api.ErrSize)
	do(usual()[:23], api.ErrSize)
	do(append(usual(), 0), api.ErrSize)
	do(append(usual(), usual()...), api.ErrSize)
	do(usual(api.Wind, 17)[:23], api.ErrSize)
	do(append(usual(api.Wind, 17, api.Radius, 259), -1), api.ErrSize)
	do(make([]int, 24), api.ErrRange)
	do(usual(api.Wind, -1), api.ErrRange)
	do(usual(api.TurnRate, 3201), api.ErrRange)
	do(usual(api.Radius, 259, api.TurnRate, 15), api.ErrRange)
	do(usual(api.TakeoffAlt, 5001, api.TiltLimit, 16385), api.ErrRange)
	do(usual(api.Wind, -1, api.TakeoffAlt, 5001), api.ErrRange)
	do(usual(api.Wind, 16, api.Accel, 32, api.GnssSpeed, 7, api.ChargeFloor, 1000000001), api.ErrRange)
	do(usual(api.Wind, 16, api.Accel, 32, api.GnssSpeed, 7), api.ErrRule)
	do(usual(api.Radius, 259), api.ErrRule)
	do(usual(api.TakeoffAlt, 5001), api.ErrRule)
	do(usual(api.Radius, 259, api.TakeoffAlt, 5001), api.ErrRule)
}

// mustCheck holds what Check answers.
func mustCheck(t *testing.T, v []int, want api.Errno) {
	t.Helper()
	if e := params.Check(v); e != want {
		t.Fatalf("Check(%v): %v, not %v", v, e, want)
	}
}

// mustSet holds what Set answers; with an error there is no list.
func mustSet(t *testing.T, v []int, i, x int, want []int, wantE api.Errno) {
	t.Helper()
	if list, e := params.Set(v, i, x); !slices.Equal(list, want) || e != wantE {
		t.Fatalf("Set(%v, %d, %d): %v, %v, not %v, %v", v, i, x, list, e, want, wantE)
	}
}

// mustMargins holds what Margins answers.
func mustMargins(t *testing.T, v []int, want api.Margins, wantE api.Errno) {
	t.Helper()
	if m, e := params.Margins(v); m != want || e != wantE {
		t.Fatalf("Margins(%v): %+v, %v, not %+v, %v", v, m, e, want, wantE)
	}
}

// mustLand holds what LandTicks answers.
func mustLand(t *testing.T, v []int, height, want int, wantE api.Errno) {
	t.Helper()
	if n, e := params.LandTicks(v, height); n != want || e != wantE {
		t.Fatalf("LandTicks(%v, %d): %d, %v, not %d, %v", v, height, n, e, want, wantE)
	}
}

// mustReturn holds what ReturnTicks answers.
func mustReturn(t *testing.T, v []int, height, distance, want int, wantE api.Errno) {
	t.Helper()
	if n, e := params.ReturnTicks(v, height, distance); n != want || e != wantE {
		t.Fatalf("ReturnTicks(%v, %d, %d): %d, %v, not %d, %v", v, height, distance, n, e, want, wantE)
	}
}

// mustSlack holds what Slack answers.
func mustSlack(t *testing.T, v []int, ceiling, want int, wantE api.Errno) {
	t.Helper()
	if n, e := params.Slack(v, ceiling); n != want || e != wantE {
		t.Fatalf("Slack(%v, %d): %d, %v, not %d, %v", v, ceiling, n, e, want, wantE)
	}
}

// mustEncode holds what Encode answers.
func mustEncode(t *testing.T, v []int, want string, wantE api.Errno) {
	t.Helper()
	if s, e := params.Encode(v); s != want || e != wantE {
		t.Fatalf("Encode(%v): %x, %v, not %x, %v", v, s, e, want, wantE)
	}
}

// mustDecode holds what Decode answers; with an error there is no list.
func mustDecode(t *testing.T, s string, want []int, wantE api.Errno) {
	t.Helper()
	if v, e := params.Decode(s); !slices.Equal(v, want) || e != wantE {
		t.Fatalf("Decode(%x): %v, %v, not %v, %v", s, v, e, want, wantE)
	}
}

// 'Examples', row by row, with what stands ahead of the table.
func TestExamples(t *testing.T) {
	mustMargins(t, params.Defaults(), api.Margins{Brake: 58, Drift: 12, Jolt: 258, Fast: 16398, Lane: 701, Drain: 4}, api.OK)
	mustLand(t, params.Defaults(), 0, 959, api.OK)
	if s, e := params.Range(23); s != (api.Span{Lo: 16, Hi: 3200}) || e != api.OK {
		t.Error("Range(23):", s, e)
	}
	for _, i := range []int{24, -1} {
		if s, e := params.Range(i); s != (api.Span{}) || e != api.ErrArg {
			t.Errorf("Range(%d): %v %v", i, s, e)
		}
	}
	mustCheck(t, nil, api.ErrSize)
	mustCheck(t, with(params.Defaults(), api.Wind, 17), api.ErrRange)
	mustCheck(t, with(params.Defaults(), api.Accel, 32, api.Wind, 16), api.OK)
	mustCheck(t, with(params.Defaults(), api.Accel, 32, api.Wind, 16, api.GnssSpeed, 7), api.ErrRule)
	mustSet(t, params.Defaults(), 12, 259, nil, api.ErrRule)
	mustSet(t, params.Defaults(), 12, 260, with(params.Defaults(), api.Radius, 260), api.OK)
	mustSet(t, params.Defaults(), 11, 6000, nil, api.ErrRule)
	mustDecode(t, strings.Repeat("\x00", 96), nil, api.ErrRange)
}

// P8.1: each parameter's range, and the numbers that are none's.
func TestRange(t *testing.T) {
	for _, r := range rows() {
		if s, e := params.Range(r.number); s != (api.Span{Lo: r.from, Hi: r.to}) || e != api.OK {
			t.Errorf("Range(%d): %v %v", r.number, s, e)
		}
	}
	for _, i := range []int{-1, -2, -24, 24, 25, 48, 255, 256, 1 << 32, -1 << 32, 1<<32 + 5, least, least + 1, most, most - 1} {
		if s, e := params.Range(i); s != (api.Span{}) || e != api.ErrArg {
			t.Errorf("Range(%d): %v %v", i, s, e)
		}
	}
}

// P8.2, P8.11: the defaults are the table's, sound, and a new list each time.
func TestDefaults(t *testing.T) {
	first := params.Defaults()
	if !slices.Equal(first, usual()) {
		t.Fatal(first)
	}
	mustCheck(t, first, api.OK)
	second := params.Defaults()
	clear(first[:cap(first)])
	if !slices.Equal(second, usual()) || !slices.Equal(params.Defaults(), usual()) {
		t.Error("two lists share memory")
	}
}

// P8.3: lists of all sizes; one of another size than 24 is refused for it, whatever it holds.
func TestCheckSizes(t *testing.T) {
	for n := range 60 {
		good := append(usual(), usual()...)
		good = append(good, usual()...)[:n]
		bad := make([]int, n)
		for i := range bad {
			bad[i] = -1 - i
		}
		if n == 24 {
			mustCheck(t, good, api.OK)
			mustCheck(t, bad, api.ErrRange)
			continue
		}
		mustCheck(t, good, api.ErrSize)
		mustCheck(t, bad, api.ErrSize)
	}
	mustCheck(t, make([]int, 24+256), api.ErrSize)
	mustCheck(t, make([]int, 24+65536), api.ErrSize)
}

// P8.3: each parameter at either end of its range, and beyond it.
func TestCheckRanges(t *testing.T) {
	mustCheck(t, lows(), api.OK)
	mustCheck(t, highs(), api.OK)
	for _, r := range rows() {
		for _, x := range []int{r.from, r.from + 1, r.to - 1, r.to} {
			mustCheck(t, with(roomy(), r.number, x), api.OK)
		}
		for _, x := range []int{r.from - 1, r.to + 1, -r.to - 1, least, most, r.from + 1<<32, r.from - 1<<32, 1 << 31, -1 << 31} {
			mustCheck(t, with(roomy(), r.number, x), api.ErrRange)
		}
	}
}

// P8.3: a number out of its range is told ahead of a rule that is broken, wherever it stands.
func TestCheckOrder(t *testing.T) {
	broken := [][]int{
		usual(api.Wind, 16, api.Accel, 32, api.GnssSpeed, 7),
		usual(api.Radius, 259),
		usual(api.TakeoffAlt, 5001),
		usual(api.Wind, 16, api.Accel, 32, api.BaroClimb, 16, api.Radius, 200, api.TakeoffAlt, 120000),
	}
	for _, v := range broken {
		mustCheck(t, v, api.ErrRule)
		for _, r := range rows() {
			mustCheck(t, with(v, r.number, r.from-1), api.ErrRange)
			mustCheck(t, with(v, r.number, r.to+1), api.ErrRange)
			mustCheck(t, with(v, r.number, least), api.ErrRange)
			mustCheck(t, with(v, r.number, most), api.ErrRange)
		}
	}
	eachFault(func(v []int, e api.Errno) { mustCheck(t, v, e) })
}

// P8.3: rule (a), told by hand just kept and just broken, and at all numbers that it speaks of.
func TestRuleA(t *testing.T) {
	for _, x := range []struct {
		wind, accel, gnss, baro int
		e                       api.Errno
	}{
		{16, 32, 6, 6, api.OK}, {16, 32, 6, 0, api.OK}, {16, 32, 0, 6, api.OK},
		{16, 32, 7, 0, api.ErrRule}, {16, 32, 0, 7, api.ErrRule}, {16, 32, 7, 7, api.ErrRule},
		{0, 28, 16, 3, api.OK}, {0, 29, 16, 3, api.ErrRule}, {1, 28, 16, 3, api.ErrRule},
		{0, 28, 3, 16, api.OK}, {0, 29, 3, 16, api.ErrRule}, {1, 28, 3, 16, api.ErrRule},
		{0, 30, 15, 15, api.OK}, {0, 31, 15, 15, api.ErrRule}, {16, 4, 16, 16, api.OK}, {16, 12, 16, 16, api.OK}, {16, 13, 16, 16, api.ErrRule},
	} {
		mustCheck(t, usual(api.Wind, x.wind, api.Accel, x.accel, api.GnssSpeed, x.gnss, api.BaroClimb, x.baro), x.e)
	}
	v := usual()
	for v[api.Wind] = 0; v[api.Wind] <= 16; v[api.Wind]++ {
		for v[api.Accel] = 4; v[api.Accel] <= 32; v[api.Accel]++ {
			for v[api.GnssSpeed] = 0; v[api.GnssSpeed] <= 16; v[api.GnssSpeed]++ {
				for v[api.BaroClimb] = 0; v[api.BaroClimb] <= 16; v[api.BaroClimb]++ {
					mustCheck(t, v, reckonCheck(v))
				}
			}
		}
	}
}

// P8.3: rule (b), told by hand, and just kept and just broken at all errors of places.
func TestRuleB(t *testing.T) {
	for _, x := range []struct {
		gnss, baro, radius int
		e                  api.Errno
	}{
		{20, 20, 260, api.OK}, {20, 20, 259, api.ErrRule},
		{13, 1, 204, api.OK}, {13, 1, 203, api.ErrRule}, {1, 13, 204, api.OK}, {1, 13, 203, api.ErrRule},
		{12, 12, 200, api.OK}, {200, 3, 1700, api.OK}, {200, 3, 1699, api.ErrRule}, {3, 200, 1700, api.OK}, {3, 200, 1699, api.ErrRule},
	} {
		mustCheck(t, usual(api.GnssPlace, x.gnss, api.BaroHeight, x.baro, api.Radius, x.radius), x.e)
	}
	v := usual()
	for v[api.GnssPlace] = 1; v[api.GnssPlace] <= 200; v[api.GnssPlace]++ {
		for v[api.BaroHeight] = 1; v[api.BaroHeight] <= 200; v[api.BaroHeight]++ {
			edge := 8*max(v[api.GnssPlace], v[api.BaroHeight]) + 100
			for _, radius := range []int{edge - 1, edge, edge + 1} {
				v[api.Radius] = radius
				mustCheck(t, v, reckonCheck(v))
			}
		}
	}
}

// P8.3: rule (c), at heights just below each other, the same, and just above.
func TestRuleC(t *testing.T) {
	for _, alt := range []int{1000, 1001, 5000, 119999, 120000} {
		mustCheck(t, usual(api.ReturnAlt, alt, api.TakeoffAlt, alt-1), api.OK)
		mustCheck(t, usual(api.ReturnAlt, alt, api.TakeoffAlt, alt), api.OK)
		if alt < 120000 {
			mustCheck(t, usual(api.ReturnAlt, alt, api.TakeoffAlt, alt+1), api.ErrRule)
		}
		mustCheck(t, usual(api.ReturnAlt, alt, api.TakeoffAlt, 500), api.OK)
	}
	mustCheck(t, usual(api.ReturnAlt, 1000, api.TakeoffAlt, 120000), api.ErrRule)
}

// P8.3: lists at random, in and out of their ranges, against the document's words.
func TestCheckAny(t *testing.T) {
	r := rand.New(rand.NewSource(3))
	seen := map[api.Errno]int{}
	for range 20000 {
		v := anyNumbers(r)
		if r.Intn(3) == 0 {
			v[r.Intn(24)] = int(r.Uint64()) >> r.Intn(64)
		}
		if r.Intn(10) == 0 {
			v = v[:r.Intn(25)]
		}
		e := reckonCheck(v)
		seen[e]++
		mustCheck(t, v, e)
	}
	for _, e := range []api.Errno{api.OK, api.ErrSize, api.ErrRange, api.ErrRule} {
		if seen[e] < 100 {
			t.Errorf("%v came %d times alone", e, seen[e])
		}
	}
}

// P8.4, P8.11: each parameter set to either end of its range, and beyond it: that one changes, and no other.
func TestSet(t *testing.T) {
	for _, r := range rows() {
		for _, x := range []int{r.from, r.from + 1, r.usual, r.to - 1, r.to} {
			mustSet(t, roomy(), r.number, x, with(roomy(), r.number, x), api.OK)
		}
		for _, x := range []int{r.from - 1, r.to + 1, least, most, r.from + 1<<32} {
			mustSet(t, roomy(), r.number, x, nil, api.ErrRange)
		}
		mustSet(t, usual(), r.number, r.usual, usual(), api.OK)
	}
}

// P8.4: of the list that Set makes, each of Check's errors but that of size; each rule just kept and just broken.
func TestSetRules(t *testing.T) {
	tight := usual(api.Wind, 16, api.Accel, 32, api.GnssSpeed, 6, api.BaroClimb, 6, api.Radius, 260, api.TakeoffAlt, 5000)
	mustCheck(t, tight, api.OK)
	for _, x := range [][2]int{
		{api.Wind, 17}, {api.Accel, 33}, {api.GnssPlace, 0}, {api.GnssPlace, 201}, {api.ReturnAlt, 999}, {api.TakeoffAlt, 120001}, {api.Radius, 199},
	} {
		mustSet(t, tight, x[0], x[1], nil, api.ErrRange)
	}
	for _, x := range [][2]int{
		{api.GnssSpeed, 7}, {api.BaroClimb, 7}, {api.GnssPlace, 21}, {api.BaroHeight, 21}, {api.Radius, 259}, {api.ReturnAlt, 4999}, {api.TakeoffAlt, 5001},
	} {
		mustSet(t, tight, x[0], x[1], nil, api.ErrRule)
	}
	for _, x := range [][2]int{
		{api.GnssSpeed, 5}, {api.BaroClimb, 0}, {api.GnssPlace, 19}, {api.BaroHeight, 1}, {api.Radius, 261}, {api.ReturnAlt, 5001}, {api.TakeoffAlt, 4999},
	} {
		mustSet(t, tight, x[0], x[1], with(tight, x[0], x[1]), api.OK)
	}
	full := usual(api.Accel, 32, api.GnssSpeed, 11)
	mustSet(t, full, api.Wind, 7, nil, api.ErrRule)
	mustSet(t, usual(api.Wind, 16, api.GnssSpeed, 9), api.Accel, 26, with(usual(), api.Wind, 16, api.GnssSpeed, 9, api.Accel, 26), api.OK)
	mustSet(t, usual(api.Wind, 16, api.GnssSpeed, 9), api.Accel, 27, nil, api.ErrRule)
}

// P8.4: numbers that are no parameter's, and the errors in their order: the list's own, the number's, the new list's.
func TestSetOrder(t *testing.T) {
	strange := []int{-1, -24, 24, 25, 256, 1 << 32, least, most}
	for _, i := range strange {
		mustSet(t, usual(), i, 6, nil, api.ErrArg)
		mustSet(t, usual(), i, least, nil, api.ErrArg)
	}
	eachFault(func(v []int, e api.Errno) {
		for _, i := range append(strange, 0, 12, 23) {
			mustSet(t, v, i, 6, nil, e)
			mustSet(t, v, i, -1, nil, e)
		}
	})
	// A number that would mend the list does not help it.
	mustSet(t, usual(api.Wind, 17), api.Wind, 6, nil, api.ErrRange)
	mustSet(t, usual(api.Radius, 259), api.Radius, 260, nil, api.ErrRule)
	// A number out of its range that would break a rule, too.
	mustSet(t, usual(), api.TakeoffAlt, 120001, nil, api.ErrRange)
	mustSet(t, usual(), api.Radius, 199, nil, api.ErrRange)
}

// P8.4, P8.11: whatever is set, Set answers what Check does, and changes one number alone.
func TestSetAny(t *testing.T) {
	r := rand.New(rand.NewSource(4))
	eachSound(func(v []int) {
		i := r.Intn(24)
		x := anyNumbers(r)[i] + r.Intn(3) - 1
		want := with(v, i, x)
		if e := reckonCheck(want); e != api.OK {
			mustSet(t, v, i, x, nil, e)
			return
		}
		mustSet(t, v, i, x, want, api.OK)
	})
}

// R2: Set leaves the list that it was handed, and its spare room, and what it answers is new memory.
func TestSetMemory(t *testing.T) {
	room := make([]int, 48)
	copy(room, usual())
	room[24] = 77
	given := room[:24]
	first, e := params.Set(given, api.Wind, 3)
	second, e2 := params.Set(given, api.Wind, 3)
	same, e3 := params.Set(given, api.Wind, 6)
	if e != api.OK || e2 != api.OK || e3 != api.OK {
		t.Fatal(e, e2, e3)
	}
	if !slices.Equal(given, usual()) || room[24] != 77 || slices.Max(room[25:]) != 0 {
		t.Error("Set wrote into what it was handed:", room)
	}
	clear(first[:cap(first)])
	if !slices.Equal(second, usual(api.Wind, 3)) || !slices.Equal(same, usual()) || !slices.Equal(given, usual()) {
		t.Error("a list that Set answered shares memory with another one")
	}
	clear(same[:cap(same)])
	if !slices.Equal(given, usual()) || room[24] != 77 {
		t.Error("a list that Set answered shares memory with the one that it was handed")
	}
	clear(room)
	if !slices.Equal(second, usual(api.Wind, 3)) {
		t.Error("Set kept what it was handed")
	}
}

// R2: no call writes into the list that it is handed, nor reads or writes what lies behind its length.
func TestArguments(t *testing.T) {
	room := append(usual(), usual()...)
	before := slices.Clone(room)
	given := room[:24]
	mustCheck(t, given, api.OK)
	mustMargins(t, given, reckonMargins(usual()), api.OK)
	mustLand(t, given, 5, reckonLand(usual(), 5), api.OK)
	mustReturn(t, given, 5, 6, reckonReturn(usual(), 5, 6), api.OK)
	mustSlack(t, given, 5, reckonSlack(usual(), 5), api.OK)
	mustEncode(t, given, reckonBytes(usual()), api.OK)
	mustCheck(t, room[:23], api.ErrSize)
	mustSet(t, room[:23], 23, 800, nil, api.ErrSize)
	mustEncode(t, room[:23], "", api.ErrSize)
	if !slices.Equal(room, before) {
		t.Error(room)
	}
}

// P8.5: margins told by hand: either one the greater of two, each of three velocities the greatest, a velocity that is a multiple of the braking, and roundings with and without a rest.
func TestMargins(t *testing.T) {
	for _, x := range []struct {
		v []int
		m api.Margins
	}{
		{usual(), api.Margins{Brake: 58, Drift: 12, Jolt: 258, Fast: 16398, Lane: 701, Drain: 4}},
		{lows(), api.Margins{Brake: 64, Drift: 2, Jolt: 86, Fast: 2216, Lane: 118, Drain: 0}},
		{highs(), api.Margins{Brake: 48, Drift: 24, Jolt: 430, Fast: 64582, Lane: 9284, Drain: 2781}},
		{usual(api.Wind, 0), api.Margins{Brake: 64, Drift: 6, Jolt: 258, Fast: 16392, Lane: 667, Drain: 4}},
		{usual(api.Wind, 16), api.Margins{Brake: 48, Drift: 22, Jolt: 258, Fast: 16408, Lane: 777, Drain: 4}},
		{usual(api.GnssSpeed, 5), api.Margins{Brake: 58, Drift: 13, Jolt: 258, Fast: 16399, Lane: 701, Drain: 4}},
		{usual(api.BaroClimb, 9), api.Margins{Brake: 58, Drift: 17, Jolt: 258, Fast: 16403, Lane: 702, Drain: 4}},
		{usual(api.DeadTicks, 0), api.Margins{Brake: 58, Drift: 12, Jolt: 86, Fast: 16226, Lane: 694, Drain: 4}},
		{usual(api.DeadTicks, 4), api.Margins{Brake: 58, Drift: 12, Jolt: 430, Fast: 16570, Lane: 709, Drain: 4}},
		{usual(api.Cruise, 64000), api.Margins{Brake: 58, Drift: 12, Jolt: 258, Fast: 64398, Lane: 5922, Drain: 4}},
		{usual(api.Cruise, 1600, api.Rise, 32000), api.Margins{Brake: 58, Drift: 12, Jolt: 258, Fast: 32398, Lane: 1752, Drain: 4}},
		{usual(api.Cruise, 1600, api.Rise, 1600, api.Fall, 16000), api.Margins{Brake: 58, Drift: 12, Jolt: 258, Fast: 16398, Lane: 701, Drain: 4}},
		{usual(api.GnssPlace, 50), api.Margins{Brake: 58, Drift: 12, Jolt: 258, Fast: 16398, Lane: 1061, Drain: 4}},
		{usual(api.BaroHeight, 51), api.Margins{Brake: 58, Drift: 12, Jolt: 258, Fast: 16398, Lane: 1073, Drain: 4}},
		{usual(api.Cruise, 16074), api.Margins{Brake: 58, Drift: 12, Jolt: 258, Fast: 16472, Lane: 705, Drain: 4}}, // 284 times 58
		{usual(api.Cruise, 8332), api.Margins{Brake: 58, Drift: 12, Jolt: 258, Fast: 8730, Lane: 442, Drain: 4}},
		{usual(api.Cruise, 8333), api.Margins{Brake: 58, Drift: 12, Jolt: 258, Fast: 8731, Lane: 442, Drain: 4}}, // the way is 102 times 6400
		{usual(api.Cruise, 8334), api.Margins{Brake: 58, Drift: 12, Jolt: 258, Fast: 8732, Lane: 443, Drain: 4}},
	} {
		mustMargins(t, x.v, x.m, api.OK)
	}
	for motor, want := range map[int]int{0: 7, 1: 8, 2: 10, 32: 64, 64: 121, 256: 463, 999: 1786, 1000: 1788} {
		if m, e := params.Margins(usual(api.PowerBase, 7, api.PowerMotor, motor)); m.Drain != want || e != api.OK {
			t.Errorf("PowerMotor %d: Drain %d, not %d; %v", motor, m.Drain, want, e)
		}
	}
}

// P8.5: sound parameters of many sorts, and velocities about a multiple of each braking, against the document's words.
func TestMarginsAny(t *testing.T) {
	eachSound(func(v []int) { mustMargins(t, v, reckonMargins(v), api.OK) })
	multiples, exact := 0, 0
	for wind := 0; wind <= 16; wind++ {
		for cruise := 16000; cruise < 16500; cruise++ {
			v := usual(api.Wind, wind, api.Cruise, cruise)
			m := reckonMargins(v)
			if m.Fast%m.Brake == 0 {
				multiples++
			}
			if reckonWay(m.Fast, m.Brake)%6400 == 0 {
				exact++
			}
			mustMargins(t, v, m, api.OK)
		}
	}
	if multiples < 17 || exact == 0 {
		t.Error(multiples, exact)
	}
}

// P8.5 to P8.9: Check's error comes first, and nothing beside it, also where the other numbers may not be.
func TestFaults(t *testing.T) {
	eachFault(func(v []int, e api.Errno) {
		mustMargins(t, v, api.Margins{}, e)
		mustEncode(t, v, "", e)
		for _, x := range []int{0, 1, 1000, far, -1, far + 1, least, most} {
			mustLand(t, v, x, 0, e)
			mustReturn(t, v, x, 0, 0, e)
			mustReturn(t, v, 0, x, 0, e)
			mustReturn(t, v, x, x, 0, e)
			mustSlack(t, v, x, 0, e)
		}
	})
}

// P8.6: ticks told by hand, with and without a rest, and heights that may not be.
func TestLandTicks(t *testing.T) {
	for _, x := range []struct {
		v            []int
		height, want int
	}{
		{usual(), 0, 959}, {usual(), 1, 959}, {usual(), 2, 960}, {usual(), 3, 961}, {usual(), 1000, 1760}, {usual(), far - 1, 430142900}, {usual(), far, 430142901},
		{lows(), 0, 237}, {lows(), 1, 240}, {lows(), far, 1719706862},
		{highs(), 0, 4732}, {highs(), 1, 4732}, {highs(), far, 215075703},
		{usual(api.Fall, 2407), 0, 1535}, {usual(api.Fall, 2407), 1, 1538}, // 2572230 is 1074 times 2395
		{usual(api.Fall, 4802), 0, 1073}, {usual(api.Fall, 7197), 0, 968}, {usual(api.Fall, 14382), 0, 1014},
		{usual(api.Cruise, 16073), 0, 962}, {usual(api.Cruise, 16074), 0, 963}, // 283 and 57 of 58; 284
		{usual(api.Wind, 16), 0, 1079}, {usual(api.DeadTicks, 4), 0, 968}, {usual(api.BaroClimb, 9), 0, 959},
	} {
		mustLand(t, x.v, x.height, x.want, api.OK)
	}
	for _, h := range []int{-1, -2, -far, far + 1, far + 2, 1 << 32, -1 << 32, least, most} {
		mustLand(t, usual(), h, 0, api.ErrArg)
		mustLand(t, highs(), h, 0, api.ErrArg)
	}
}

// P8.7: ticks told by hand, with and without a rest, and heights and distances that may not be.
func TestReturnTicks(t *testing.T) {
	for _, x := range []struct {
		v                      []int
		height, distance, want int
	}{
		{usual(), 0, 0, 52360}, {usual(), 4999, 0, 52360}, {usual(), 5000, 0, 52360}, {usual(), 5001, 0, 52365}, {usual(), 5002, 0, 52369}, {usual(), 5005, 0, 52380},
		{usual(), 0, 1, 52362}, {usual(), 0, 5, 52366}, {usual(), 0, 6, 52368},
		{usual(), far, 0, 2147516009}, {usual(), 0, far, 644297455}, {usual(), far, far, 2791761104},
		{lows(), 0, 0, 52104}, {lows(), 1, 0, 52104}, {lows(), 0, 1, 52116}, {lows(), far, far, 16320909429},
		{highs(), 0, 0, 207104}, {highs(), 0, 1, 207105}, {highs(), far, far, 912719656},
		{usual(api.Accel, 10, api.Rise, 8005, api.Fall, 8005, api.Cruise, 16010), 0, 0, 57707},
	} {
		mustReturn(t, x.v, x.height, x.distance, x.want, api.OK)
	}
	for _, bad := range []int{-1, -far, far + 1, 1 << 32, -1 << 32, least, most} {
		for _, good := range []int{0, 1, 5000, far} {
			mustReturn(t, usual(), bad, good, 0, api.ErrArg)
			mustReturn(t, usual(), good, bad, 0, api.ErrArg)
		}
		mustReturn(t, usual(), bad, bad, 0, api.ErrArg)
	}
}

// P8.8: mm told by hand, with and without a rest, and ceilings that may not be.
func TestSlack(t *testing.T) {
	for _, x := range []struct {
		v             []int
		ceiling, want int
	}{
		{usual(), 1, 7}, {usual(), 1000, 8}, {usual(), 1079, 8}, {usual(), 1080, 8}, {usual(), 1081, 9}, {usual(), 1082, 9}, {usual(), 120000, 187}, {usual(), far, 806523},
		{lows(), 1, 3}, {lows(), 2, 3}, {lows(), far, 537412},
		{highs(), 1, 25}, {highs(), far, 806541},
	} {
		mustSlack(t, x.v, x.ceiling, x.want, api.OK)
	}
	for _, c := range []int{0, -1, -far, far + 1, 1 << 32, -1 << 32, least, most} {
		mustSlack(t, usual(), c, 0, api.ErrArg)
		mustSlack(t, highs(), c, 0, api.ErrArg)
	}
}

// reaches are heights, distances and ceilings: the ends, what is near ReturnAlt, and others at random.
func reaches(r *rand.Rand, v []int) []int {
	alt := v[api.ReturnAlt]
	return []int{0, 1, 2, alt - 1, alt, alt + 1, far - 1, far, r.Intn(far), r.Intn(1 << r.Intn(30))}
}

// P8.6 to P8.8: sound parameters of many sorts, against the document's words.
func TestTicksAny(t *testing.T) {
	r := rand.New(rand.NewSource(6))
	eachSound(func(v []int) {
		for _, h := range reaches(r, v) {
			mustLand(t, v, h, reckonLand(v, h), api.OK)
			if h > 0 {
				mustSlack(t, v, h, reckonSlack(v, h), api.OK)
			}
			for _, d := range reaches(r, v) {
				mustReturn(t, v, h, d, reckonReturn(v, h, d), api.OK)
			}
		}
	})
}

// P8.11: ticks and slack rise: one mm more is never less, and enough mm are more.
func TestRise(t *testing.T) {
	land := func(v []int) func(int) int {
		return func(h int) int { n, _ := params.LandTicks(v, h); return n }
	}
	high := func(v []int) func(int) int {
		return func(h int) int { n, _ := params.ReturnTicks(v, v[api.ReturnAlt]+h, 7); return n }
	}
	wide := func(v []int) func(int) int {
		return func(d int) int { n, _ := params.ReturnTicks(v, 7, d); return n }
	}
	slack := func(v []int) func(int) int {
		return func(c int) int { n, _ := params.Slack(v, c+1); return n }
	}
	r := rand.New(rand.NewSource(11))
	eachSound(func(v []int) {
		for i, f := range []func(int) int{land(v), high(v), wide(v), slack(v)} {
			at := r.Intn(1 << r.Intn(29))
			for h := at; h < at+5; h++ {
				if f(h+1) < f(h) {
					t.Fatalf("%d of %v: %d at %d, %d behind it", i, v, f(h), h, f(h+1))
				}
			}
			// Slack's least rise by mm is 2 times 6400 over 16000 over 6400.
			if f(at+10000) <= f(at) {
				t.Fatalf("%d of %v: %d at %d, %d 10000 mm on", i, v, f(at), at, f(at+10000))
			}
		}
	})
}

// P8.9, P8.10: bytes written out here, there and back.
func TestBytes(t *testing.T) {
	const written = "\x00\x00\x00\x06" + "\x00\x00\x00\x14" + "\x00\x00\x00\x04" + "\x00\x00\x00\x14" + "\x00\x00\x00\x04" + "\x00\x00\x00\x02" +
		"\x00\x00\x00\x0c" + "\x00\x00\x3e\x80" + "\x00\x00\x1f\x40" + "\x00\x00\x1f\x40" + "\x00\x00\x13\x88" + "\x00\x00\x07\xd0" +
		"\x00\x00\x03\xe8" + "\x00\x00\x01\xf4" + "\x00\x00\x0f\xa0" + "\x00\x00\x01\x90" + "\x00\x00\x00\x08" + "\x00\x00\x03\xe8" +
		"\x00\x00\x00\x64" + "\x00\x00\x00\x01" + "\x00\x00\x00\x02" + "\x00\x00\x01\xf4" + "\x00\x00\x0f\xa0" + "\x00\x00\x03\x20"
	mustEncode(t, usual(), written, api.OK)
	mustDecode(t, written, usual(), api.OK)
	great := written[:68] + "\x3b\x9a\xca\x00" + "\x00\x0f\x42\x40" + written[76:]
	mustEncode(t, usual(api.ChargeFloor, 1000000000, api.ChargeErr, 1000000), great, api.OK)
	mustDecode(t, great, usual(api.ChargeFloor, 1000000000, api.ChargeErr, 1000000), api.OK)
	odd := written[:68] + "\x01\x02\x03\x04" + written[72:]
	mustEncode(t, usual(api.ChargeFloor, 16909060), odd, api.OK)
	mustDecode(t, odd, usual(api.ChargeFloor, 16909060), api.OK)
}

// P8.10: bytes of other sizes than 96 are refused for it, whatever they hold.
func TestDecodeSizes(t *testing.T) {
	good := reckonBytes(usual())
	for n := range 300 {
		if n == 96 {
			continue
		}
		mustDecode(t, strings.Repeat(good, 4)[:n], nil, api.ErrSize)
		mustDecode(t, strings.Repeat("\xff", n), nil, api.ErrSize)
	}
	mustDecode(t, good[1:], nil, api.ErrSize)
	mustDecode(t, good+"\x00", nil, api.ErrSize)
	mustDecode(t, "\x00"+good, nil, api.ErrSize)
	mustDecode(t, strings.Repeat("\x00", 96+256), nil, api.ErrSize)
	mustDecode(t, strings.Repeat("\x00", 96+65536), nil, api.ErrSize)
}

// P8.10: each number at either end of its range, beyond it, and with its highest bit set; errors in their order.
func TestDecodeRanges(t *testing.T) {
	four := func(x int) string { return string([]byte{byte(x >> 24), byte(x >> 16), byte(x >> 8), byte(x)}) }
	base := reckonBytes(roomy())
	for _, r := range rows() {
		at := 4 * r.number
		for _, x := range []int{r.from, r.to} {
			mustDecode(t, base[:at]+four(x)+base[at+4:], with(roomy(), r.number, x), api.OK)
		}
		for _, x := range []int{r.from - 1, r.to + 1, -1, -1 << 31, 1<<31 - 1, r.from - 1<<31, -r.to - 1} {
			mustDecode(t, base[:at]+four(x)+base[at+4:], nil, api.ErrRange)
		}
	}
	eachFault(func(v []int, e api.Errno) {
		var s string
		for _, x := range v {
			s += four(x)
		}
		mustDecode(t, s, nil, e)
	})
	mustDecode(t, strings.Repeat("\xff", 96), nil, api.ErrRange)
	mustDecode(t, strings.Repeat("\x80\x00\x00\x00", 24), nil, api.ErrRange)
}

// P8.10, P8.11: each byte of some parameters turned to each other one: refused as the document says, or read, and written as it was.
func TestDecodeEachByte(t *testing.T) {
	for _, v := range [][]int{usual(), roomy(), highs()} {
		s := []byte(reckonBytes(v))
		for at := range s {
			old := s[at]
			for b := range 256 {
				s[at] = byte(b)
				want := reckonNumbers(string(s))
				if e := reckonCheck(want); e != api.OK {
					mustDecode(t, string(s), nil, e)
					continue
				}
				mustDecode(t, string(s), want, api.OK)
				mustEncode(t, want, string(s), api.OK)
			}
			s[at] = old
		}
	}
}

// P8.9 to P8.11: Decode of Encode is the values, and Encode of Decode the bytes.
func TestThereAndBack(t *testing.T) {
	eachSound(func(v []int) {
		s, e := params.Encode(v)
		if len(s) != 96 || s != reckonBytes(v) || e != api.OK {
			t.Fatalf("Encode(%v): %x %v", v, s, e)
		}
		back, e := params.Decode(s)
		if !slices.Equal(back, v) || e != api.OK {
			t.Fatalf("Decode of Encode of %v: %v %v", v, back, e)
		}
		if again, e := params.Encode(back); again != s || e != api.OK {
			t.Fatalf("Encode of Decode of %x: %x %v", s, again, e)
		}
	})
}

// R2: Decode answers a new list each time.
func TestDecodeMemory(t *testing.T) {
	s := reckonBytes(usual())
	first, _ := params.Decode(s)
	second, _ := params.Decode(s)
	clear(first[:cap(first)])
	if !slices.Equal(second, usual()) {
		t.Error("two lists that Decode answered share memory")
	}
	mustDecode(t, s, usual(), api.OK)
}

// R1: no list, number or text makes a call panic.
func TestAnything(t *testing.T) {
	r := rand.New(rand.NewSource(1))
	number := func() int { return int(r.Uint64()) >> r.Intn(64) }
	for range 20000 {
		v := make([]int, 20+r.Intn(8))
		for i := range v {
			v[i] = number()
		}
		e := reckonCheck(v)
		mustCheck(t, v, e)
		if e == api.OK {
			continue
		}
		mustSet(t, v, number(), number(), nil, e)
		mustMargins(t, v, api.Margins{}, e)
		mustLand(t, v, number(), 0, e)
		mustReturn(t, v, number(), number(), 0, e)
		mustSlack(t, v, number(), 0, e)
		mustEncode(t, v, "", e)
		text := make([]byte, 90+r.Intn(12))
		for i := range text {
			text[i] = byte(r.Intn(256))
		}
		want := reckonCheck(reckonNumbers(string(text)))
		if len(text) != 96 {
			want = api.ErrSize
		}
		mustDecode(t, string(text), nil, want)
	}
}
