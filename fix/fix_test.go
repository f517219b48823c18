package fix_test

import (
	"math"
	"math/big"
	"math/rand"
	"testing"

	"windhover/api"
	"windhover/fix"
)

const (
	most  = math.MaxInt
	least = math.MinInt
	root  = 3037000499 // of the greatest int
)

// edges are numbers at which sums, products and quotients turn.
func edges() []int {
	list := []int{0, most, least, most - 1, least + 1, root, root + 1, -root, -root - 1, root * root, root*root - 1}
	for _, x := range []int{1, 2, 3, 7, 15, 16, 392, 6400} {
		list = append(list, x, -x)
	}
	for _, shift := range []int{31, 32, 61, 62} {
		for off := -1; off <= 1; off++ {
			list = append(list, 1<<shift+off, -1<<shift+off)
		}
	}
	return list
}

// source gives numbers of all lengths, the same ones in each run.
func source() func() int {
	r := rand.New(rand.NewSource(1))
	return func() int { return int(r.Uint64()) >> r.Intn(64) }
}

// eachPair hands over all pairs of edges, and many others.
func eachPair(do func(a, b int)) {
	for _, a := range edges() {
		for _, b := range edges() {
			do(a, b)
		}
	}
	next := source()
	for range 50000 {
		do(next(), next())
	}
}

// eachTriple hands over all triples of edges, and many others.
func eachTriple(do func(a, b, c int)) {
	for _, c := range edges() {
		for _, a := range edges() {
			for _, b := range edges() {
				do(a, b, c)
			}
		}
	}
	next := source()
	for range 50000 {
		do(next(), next(), next())
	}
}

func exact(x int) *big.Int { return big.NewInt(int64(x)) }

// kept is the document's 'kept within an int'.
func kept(x *big.Int) int {
	if x.Cmp(exact(most)) > 0 {
		return most
	}
	if x.Cmp(exact(least)) < 0 {
		return least
	}
	return int(x.Int64())
}

// roundedDown is a over b; big's own Div rounds down only where b is above 0.
func roundedDown(a, b *big.Int) *big.Int {
	if b.Sign() < 0 {
		a, b = new(big.Int).Neg(a), new(big.Int).Neg(b)
	}
	return new(big.Int).Div(a, b)
}

func TestExamples(t *testing.T) {
	for _, c := range []struct {
		call      string
		got, want int
	}{
		{"Add(2^63 - 1, 1)", fix.Add(most, 1), most},
		{"Sub(-2^63, 1)", fix.Sub(least, 1), least},
		{"Mul(2^62, -4)", fix.Mul(1<<62, -4), least},
		{"Clamp(5, 1, 3)", fix.Clamp(5, 1, 3), 3},
		{"Clamp(5, 9, 3)", fix.Clamp(5, 9, 3), 9},
		{"Clamp(10, 9, 3)", fix.Clamp(10, 9, 3), 3},
		{"Sqrt(-1)", fix.Sqrt(-1), 0},
		{"Sqrt(0)", fix.Sqrt(0), 0},
		{"Sqrt(15)", fix.Sqrt(15), 3},
		{"Sqrt(16)", fix.Sqrt(16), 4},
		{"Sqrt(2^63 - 1)", fix.Sqrt(most), 3037000499},
		{"Slew(0, 10, 3)", fix.Slew(0, 10, 3), 3},
		{"Slew(0, -2, 3)", fix.Slew(0, -2, 3), -2},
		{"Slew(0, 10, 0)", fix.Slew(0, 10, 0), 0},
		{"Slew(-2^63, 2^63 - 1, 1)", fix.Slew(least, most, 1), least + 1},
		{"Middle(-1, 0)", fix.Middle(-1, 0), -1},
		{"Middle(2^63 - 1, 2^63 - 1)", fix.Middle(most, most), most},
	} {
		if c.got != c.want {
			t.Errorf("%s: %d, not %d", c.call, c.got, c.want)
		}
	}
}

func TestExamplesOfQuotients(t *testing.T) {
	type answer struct {
		x int
		e api.Errno
	}
	pack := func(x int, e api.Errno) answer { return answer{x, e} }
	for _, c := range []struct {
		call      string
		got, want answer
	}{
		{"MulDiv(7, 3, -2)", pack(fix.MulDiv(7, 3, -2)), answer{-11, api.OK}},
		{"MulDiv(2^62, 6, 8)", pack(fix.MulDiv(1<<62, 6, 8)), answer{3458764513820540928, api.OK}},
		{"MulDiv(2^62, 6, 2)", pack(fix.MulDiv(1<<62, 6, 2)), answer{most, api.OK}},
		{"MulDiv(1, 1, 0)", pack(fix.MulDiv(1, 1, 0)), answer{0, api.ErrArg}},
		{"Up(-7, 2)", pack(fix.Up(-7, 2)), answer{-3, api.OK}},
		{"Down(-7, 2)", pack(fix.Down(-7, 2)), answer{-4, api.OK}},
		{"Up(7, 2)", pack(fix.Up(7, 2)), answer{4, api.OK}},
		{"Up(1, 0)", pack(fix.Up(1, 0)), answer{0, api.ErrArg}},
	} {
		if c.got != c.want {
			t.Errorf("%s: %v, not %v", c.call, c.got, c.want)
		}
	}
}

// P1.1
func TestAddSubMulAreKept(t *testing.T) {
	eachPair(func(a, b int) {
		if got, want := fix.Add(a, b), kept(new(big.Int).Add(exact(a), exact(b))); got != want {
			t.Errorf("Add(%d, %d): %d, not %d", a, b, got, want)
		}
		if got, want := fix.Sub(a, b), kept(new(big.Int).Sub(exact(a), exact(b))); got != want {
			t.Errorf("Sub(%d, %d): %d, not %d", a, b, got, want)
		}
		if got, want := fix.Mul(a, b), kept(new(big.Int).Mul(exact(a), exact(b))); got != want {
			t.Errorf("Mul(%d, %d): %d, not %d", a, b, got, want)
		}
	})
}

// P1.1, at ends that just are, and just are not, an int.
func TestAddSubMulAtTheEnds(t *testing.T) {
	for i, c := range [][2]int{
		{fix.Add(most-1, 1), most}, {fix.Add(least+1, -1), least}, {fix.Add(least, least), least}, {fix.Add(most, most), most},
		{fix.Add(most, least), -1}, {fix.Add(most, 0), most}, {fix.Add(least, 0), least}, {fix.Add(2, 3), 5},
		{fix.Sub(0, least), most}, {fix.Sub(-1, least), most}, {fix.Sub(-2, least), most - 1}, {fix.Sub(least, least), 0},
		{fix.Sub(0, most), least + 1}, {fix.Sub(-1, most), least}, {fix.Sub(-2, most), least}, {fix.Sub(2, 3), -1},
		{fix.Mul(least, -1), most}, {fix.Mul(-1, least), most}, {fix.Mul(least, 1), least}, {fix.Mul(least, least), most},
		{fix.Mul(least, most), least}, {fix.Mul(-1<<62, 2), least}, {fix.Mul(1<<62, 2), most}, {fix.Mul(1<<32, 1<<32), most},
		{fix.Mul(1<<32, -1<<32), least}, {fix.Mul(least, 0), 0}, {fix.Mul(0, -5), 0}, {fix.Mul(-2, 3), -6},
	} {
		if c[0] != c[1] {
			t.Errorf("%d: %d, not %d", i, c[0], c[1])
		}
	}
}

// P1.2
func TestClamp(t *testing.T) {
	for _, c := range []struct{ x, lo, hi, want int }{
		{2, 1, 3, 2}, {1, 1, 3, 1}, {3, 1, 3, 3}, {0, 1, 3, 1}, {4, 1, 3, 3}, {-9, -3, -1, -3}, {9, -3, -1, -1}, {7, 2, 2, 2}, {-7, 2, 2, 2},
		{least, -1, 1, -1}, {most, -1, 1, 1}, {least, least, most, least}, {most, least, most, most},
		{8, 9, 3, 9}, {9, 9, 3, 3}, {3, 9, 3, 9}, {2, 9, 3, 9}, {0, most, least, most}, {most, most, least, least},
	} {
		if got := fix.Clamp(c.x, c.lo, c.hi); got != c.want {
			t.Errorf("Clamp(%d, %d, %d): %d, not %d", c.x, c.lo, c.hi, got, c.want)
		}
	}
}

// P1.3
func TestSqrtOfSmallNumbers(t *testing.T) {
	want := 0
	for n := range 70000 {
		if (want+1)*(want+1) <= n {
			want++
		}
		if got := fix.Sqrt(n); got != want {
			t.Fatalf("Sqrt(%d): %d, not %d", n, got, want)
		}
	}
}

// P1.3
func TestSqrtAtSquares(t *testing.T) {
	for _, r := range []int{1, 2, 3, 4, 1 << 15, 1<<16 - 1, 1 << 16, 1 << 26, 1<<31 - 1, 1 << 31, 1<<31 + 1, 3000000000, root - 1, root} {
		if got := fix.Sqrt(r * r); got != r {
			t.Errorf("Sqrt(%d squared): %d", r, got)
		}
		if got := fix.Sqrt(r*r - 1); got != r-1 {
			t.Errorf("Sqrt(%d squared - 1): %d", r, got)
		}
		if got := fix.Sqrt(r*r + 1); got != r {
			t.Errorf("Sqrt(%d squared + 1): %d", r, got)
		}
	}
}

// P1.3
func TestSqrtBelowNought(t *testing.T) {
	for _, n := range []int{-1, -2, -4, -16, -1 << 31, -1 << 62, least + 1, least} {
		if got := fix.Sqrt(n); got != 0 {
			t.Errorf("Sqrt(%d): %d", n, got)
		}
	}
}

// P1.4
func TestMulDiv(t *testing.T) {
	eachTriple(func(a, b, c int) {
		got, e := fix.MulDiv(a, b, c)
		if c == 0 {
			if got != 0 || e != api.ErrArg {
				t.Errorf("MulDiv(%d, %d, 0): %d, %d", a, b, got, int(e))
			}
			return
		}
		product := new(big.Int).Mul(exact(a), exact(b))
		if want := kept(roundedDown(product, exact(c))); got != want || e != api.OK {
			t.Errorf("MulDiv(%d, %d, %d): %d, %d, not %d", a, b, c, got, int(e), want)
		}
	})
}

// P1.4, where the quotient's size is at 2^63 or 2^64, and where it is rounded on to an end.
func TestMulDivAtTheEnds(t *testing.T) {
	for _, c := range []struct{ a, b, c, want int }{
		{7, 3, 2, 10}, {-7, 3, 2, -11}, {7, -3, 2, -11}, {-7, -3, 2, 10}, {-7, -3, -2, -11}, {6, 3, -2, -9}, {0, 5, -3, 0}, {0, -5, 3, 0},
		{1, 1, most, 0}, {-1, 1, most, -1}, {1, 1, least, -1}, {-1, 1, least, 0}, {1, least, least, 1},
		{least, 1, -1, most}, {least, 1, 1, least}, {least, least, least, least}, {least, least, 1, most}, {least, least, -1, least}, {most, most, most, most}, {most, most, -most, -most},
		{1 << 62, 4, 1, most}, {1 << 62, 4, -1, least}, {1 << 62, 2, -1, least}, {1 << 62, 2, 1, most}, {-1 << 62, 8, 2, least}, {-1 << 62, 6, 3, least},
		{-most, 3, 3, -most}, {-most, 2, 1, least}, {-most, most, most - 1, least}, {most, most, most - 1, most}, {-1 << 32, 1 << 32, 1, least},
	} {
		if got, e := fix.MulDiv(c.a, c.b, c.c); got != c.want || e != api.OK {
			t.Errorf("MulDiv(%d, %d, %d): %d, %d, not %d", c.a, c.b, c.c, got, int(e), c.want)
		}
	}
}

// P1.5
func TestUpAndDown(t *testing.T) {
	eachPair(func(a, b int) {
		up, upErr := fix.Up(a, b)
		down, downErr := fix.Down(a, b)
		if b < 1 {
			if up != 0 || down != 0 || upErr != api.ErrArg || downErr != api.ErrArg {
				t.Errorf("%d over %d: %d, %d and %d, %d", a, b, up, int(upErr), down, int(downErr))
			}
			return
		}
		wantDown := kept(roundedDown(exact(a), exact(b)))
		wantUp := kept(new(big.Int).Neg(roundedDown(new(big.Int).Neg(exact(a)), exact(b))))
		if up != wantUp || upErr != api.OK {
			t.Errorf("Up(%d, %d): %d, %d, not %d", a, b, up, int(upErr), wantUp)
		}
		if down != wantDown || downErr != api.OK {
			t.Errorf("Down(%d, %d): %d, %d, not %d", a, b, down, int(downErr), wantDown)
		}
	})
}

// P1.5
func TestUpAndDownOfFew(t *testing.T) {
	for _, c := range []struct{ a, b, up, down int }{
		{7, 2, 4, 3}, {-7, 2, -3, -4}, {6, 2, 3, 3}, {-6, 2, -3, -3}, {0, 3, 0, 0}, {1, 3, 1, 0}, {-1, 3, 0, -1}, {5, 1, 5, 5},
		{most, 1, most, most}, {least, 1, least, least}, {most, most, 1, 1}, {least, most, -1, -2}, {most, 2, 1 << 62, 1<<62 - 1}, {least, 2, -1 << 62, -1 << 62},
	} {
		up, upErr := fix.Up(c.a, c.b)
		down, downErr := fix.Down(c.a, c.b)
		if up != c.up || down != c.down || upErr != api.OK || downErr != api.OK {
			t.Errorf("%d over %d: %d, %d", c.a, c.b, up, down)
		}
	}
	for _, b := range []int{0, -1, -2, least} {
		for _, a := range []int{0, 1, -1, most, least} {
			if up, e := fix.Up(a, b); up != 0 || e != api.ErrArg {
				t.Errorf("Up(%d, %d): %d, %d", a, b, up, int(e))
			}
			if down, e := fix.Down(a, b); down != 0 || e != api.ErrArg {
				t.Errorf("Down(%d, %d): %d, %d", a, b, down, int(e))
			}
		}
	}
}

// slewed is the promise's words, in exact numbers.
func slewed(from, to, step int) int {
	way := new(big.Int).Sub(exact(to), exact(from))
	if step < 1 {
		return from
	}
	if new(big.Int).Abs(way).Cmp(exact(step)) <= 0 {
		return to
	}
	if way.Sign() > 0 {
		return from + step
	}
	return from - step
}

// P1.6
func TestSlew(t *testing.T) {
	eachTriple(func(from, to, step int) {
		if got, want := fix.Slew(from, to, step), slewed(from, to, step); got != want {
			t.Errorf("Slew(%d, %d, %d): %d, not %d", from, to, step, got, want)
		}
	})
}

// P1.6
func TestSlewOfFew(t *testing.T) {
	for _, c := range []struct{ from, to, step, want int }{
		{0, 10, 9, 9}, {0, 10, 10, 10}, {0, 10, 11, 10}, {0, -10, 9, -9}, {0, -10, 10, -10}, {0, -10, 11, -10}, {4, 4, 1, 4}, {4, 4, most, 4},
		{3, 9, 0, 3}, {3, 9, -1, 3}, {3, 9, least, 3}, {3, -9, -1, 3},
		{most, least, most, 0}, {least, most, most, -1}, {0, least, most, -most}, {-1, least, most, least}, {0, most, most, most}, {-1, most, most, most - 1}, {5, least, most, 5 - most},
		{most, least, 1, most - 1}, {most - 1, most, 5, most}, {least + 1, least, 5, least},
	} {
		if got := fix.Slew(c.from, c.to, c.step); got != c.want {
			t.Errorf("Slew(%d, %d, %d): %d, not %d", c.from, c.to, c.step, got, c.want)
		}
	}
}

// P1.7
func TestMiddle(t *testing.T) {
	eachPair(func(a, b int) {
		sum := new(big.Int).Add(exact(a), exact(b))
		if got, want := fix.Middle(a, b), kept(roundedDown(sum, exact(2))); got != want {
			t.Errorf("Middle(%d, %d): %d, not %d", a, b, got, want)
		}
	})
	for _, c := range [][3]int{
		{3, 4, 3}, {3, 5, 4}, {-3, -4, -4}, {-3, -5, -4}, {-3, 4, 0}, {-4, 3, -1}, {0, 0, 0},
		{least, most, -1}, {least, least, least}, {most, most - 1, most - 1}, {least, least + 1, least}, {most, 0, 1<<62 - 1}, {least, 0, -1 << 62},
	} {
		if got := fix.Middle(c[0], c[1]); got != c[2] {
			t.Errorf("Middle(%d, %d): %d, not %d", c[0], c[1], got, c[2])
		}
	}
}

// P1.8
func TestOrderOfTwoDoesNotMatter(t *testing.T) {
	eachPair(func(a, b int) {
		if fix.Add(a, b) != fix.Add(b, a) {
			t.Errorf("Add of %d and %d", a, b)
		}
		if fix.Mul(a, b) != fix.Mul(b, a) {
			t.Errorf("Mul of %d and %d", a, b)
		}
	})
}

// P1.8
func TestSqrtLiesBetweenSquares(t *testing.T) {
	square := func(x int) *big.Int { return new(big.Int).Mul(exact(x), exact(x)) }
	eachPair(func(n, _ int) {
		if n < 0 {
			return
		}
		r := fix.Sqrt(n)
		if r < 0 || square(r).Cmp(exact(n)) > 0 || square(r+1).Cmp(exact(n)) <= 0 {
			t.Errorf("Sqrt(%d): %d", n, r)
		}
	})
}

// P1.8
func TestUpIsDownOrOneMore(t *testing.T) {
	eachPair(func(a, b int) {
		if b < 1 {
			return
		}
		up, _ := fix.Up(a, b)
		down, _ := fix.Down(a, b)
		more := 0
		if a%b != 0 {
			more = 1
		}
		if up != down+more {
			t.Errorf("%d over %d: %d, %d", a, b, up, down)
		}
	})
}

// P1.8
func TestSlewNeverPasses(t *testing.T) {
	eachTriple(func(from, to, step int) {
		if got := fix.Slew(from, to, step); got < min(from, to) || got > max(from, to) {
			t.Errorf("Slew(%d, %d, %d): %d", from, to, step, got)
		}
	})
}

// P1.8
func TestSlewComesInAsManySteps(t *testing.T) {
	for _, c := range []struct{ from, to, step, want int }{
		{0, 10, 3, 4}, {0, 9, 3, 3}, {0, -10, 3, 4}, {5, 5, 1, 0}, {-7, 7, 1, 14}, {0, 1000, 7, 143},
		{least, most, most, 3}, {most, least, most, 3}, {least, most, 1 << 62, 4}, {least, most, 1 << 53, 2048}, {most - 5, most, 2, 3}, {least + 5, least, 2, 3},
	} {
		at, steps := c.from, 0
		for at != c.to && steps <= c.want {
			at = fix.Slew(at, c.to, c.step)
			steps++
		}
		if at != c.to || steps != c.want {
			t.Errorf("from %d to %d by %d: at %d behind %d steps, not %d", c.from, c.to, c.step, at, steps, c.want)
		}
	}
}

// P1.8
func TestMiddleLiesBetween(t *testing.T) {
	eachPair(func(a, b int) {
		got := fix.Middle(a, b)
		if got < min(a, b) || got > max(a, b) {
			t.Errorf("Middle(%d, %d): %d", a, b, got)
		}
		if got != fix.Middle(b, a) {
			t.Errorf("Middle(%d, %d) and the other way round", a, b)
		}
	})
}
