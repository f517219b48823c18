package guard_test

import (
	"math"
	"math/big"
	"math/rand"

	"windhover/api"
)

const (
	most  = math.MaxInt
	least = math.MinInt
)

// about is a number, one less and one more.
func about(list ...int) []int {
	var out []int
	for _, x := range list {
		out = append(out, x-1, x, x+1)
	}
	return out
}

// both are numbers with both signs.
func both(list ...int) []int {
	var out []int
	for _, x := range list {
		out = append(out, x, -x)
	}
	return out
}

// ends are numbers at the ends of an int, and far from 0.
func ends() []int {
	return []int{least, least + 1, least + 2, -1 << 62, -1 << 32, 1 << 32, 1 << 62, most - 2, most - 1, most}
}

// any64 is a number of any size, near an end now and then.
func any64(r *rand.Rand) int {
	switch r.Intn(6) {
	case 0:
		return least + r.Intn(400)
	case 1:
		return most - r.Intn(400)
	}
	return int(r.Uint64()) >> r.Intn(64)
}

func whole(x int) *big.Int { return big.NewInt(int64(x)) }

// told is a number of any size, kept from lo to hi.
func told(x *big.Int, lo, hi int) int {
	if x.Cmp(whole(lo)) < 0 {
		return lo
	}
	if x.Cmp(whole(hi)) > 0 {
		return hi
	}
	return int(x.Int64())
}

// more and less are a + b and a - b, kept within an int, of numbers of any size.
func more(a, b int) int { return told(new(big.Int).Add(whole(a), whole(b)), least, most) }
func less(a, b int) int { return told(new(big.Int).Sub(whole(a), whole(b)), least, most) }

// way is the document's n times v less brake times n times (n + 1) over 2, of any size; v and brake are above 0.
func way(v, brake int) *big.Int {
	n := new(big.Int).Div(whole(v), whole(brake))
	out := new(big.Int).Mul(n, whole(v))
	taken := new(big.Int).Mul(whole(brake), n)
	taken.Mul(taken, new(big.Int).Add(n, whole(1)))
	return out.Sub(out, taken.Div(taken, whole(2)))
}

// stopped is the document's Stop.
func stopped(v, brake int) int {
	if v < 1 || brake < 1 {
		return 0
	}
	return told(way(v, brake), least, most)
}

// places is the document's span of Reach on an axis, ahead of being told in mm.
func places(a api.Axis, acc int, m api.Margins) api.Span {
	u := more(86, less(64, m.Brake))
	v := api.Span{Lo: less(more(a.V.Lo, acc), u), Hi: more(more(a.V.Hi, acc), u)}
	p := api.Span{Lo: more(a.P.Lo, v.Lo), Hi: more(a.P.Hi, v.Hi)}
	return api.Span{
		Lo: less(p.Lo, stopped(more(less(0, v.Lo), m.Jolt), m.Brake)),
		Hi: more(p.Hi, stopped(more(v.Hi, m.Jolt), m.Brake)),
	}
}

// outward is a span in mm.
func outward(s api.Span) api.Span {
	mm := whole(6400)
	lo := new(big.Int).Div(whole(s.Lo), mm) // Div rounds down, since the divisor is above 0
	hi := new(big.Int).Div(new(big.Int).Neg(whole(s.Hi)), mm)
	return api.Span{Lo: int(lo.Int64()), Hi: int(hi.Neg(hi).Int64())}
}

// reached is the document's Reach.
func reached(axes [3]api.Axis, acc [3]int, m api.Margins) api.Box {
	up := places(axes[2], acc[2], m).Hi
	return api.Box{
		X: outward(places(axes[0], acc[0], m)),
		Y: outward(places(axes[1], acc[1], m)),
		Z: outward(api.Span{Hi: max(up, 0)}),
	}
}

// clerk keeps a fall reference by the document's words.
type clerk struct{ ref int }

func (c *clerk) step(sink bool, speeds [3]int, fall int) [3]int {
	if fall < 0 {
		fall = 0
	}
	if !sink {
		c.ref = 0
	} else if c.ref = less(c.ref, 32); c.ref < -fall {
		c.ref = -fall
	}
	kept := func(from, speed int) int { return told(new(big.Int).Sub(whole(from), whole(speed)), -64, 64) }
	return [3]int{kept(0, speeds[0]), kept(0, speeds[1]), kept(c.ref, speeds[2])}
}

func (c *clerk) falling(fall int) bool {
	if fall < 0 {
		fall = 0
	}
	return c.ref <= -fall
}
