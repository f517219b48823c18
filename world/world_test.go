package world_test

import (
	"math"
	"math/big"
	"math/rand"
	"slices"
	"testing"

	"windhover/api"
	"windhover/world"
)

const (
	most  = math.MaxInt
	least = math.MinInt
)

// ends are numbers at the ends of an int, and far from 0.
func ends() []int {
	return []int{least, least + 1, least + 392, -1 << 62, -1 << 32, 1 << 32, 1 << 62, most - 392, most - 1, most}
}

// all are eight motors of one command.
func all(n int) [8]int { return [8]int{n, n, n, n, n, n, n, n} }

// total is a sum of any size.
func total(list ...int) *big.Int {
	sum := new(big.Int)
	for _, x := range list {
		sum.Add(sum, big.NewInt(int64(x)))
	}
	return sum
}

// kept is a number of any size, kept within an int.
func kept(x *big.Int) int {
	if x.IsInt64() {
		return int(x.Int64())
	}
	if x.Sign() < 0 {
		return least
	}
	return most
}

// row is a sum, number by number from the left, each time kept within an int.
func row(list ...int) int {
	sum := list[0]
	for _, x := range list[1:] {
		sum = kept(total(sum, x))
	}
	return sum
}

// less is a - b, kept within an int.
func less(a, b int) int {
	return kept(new(big.Int).Sub(big.NewInt(int64(a)), big.NewInt(int64(b))))
}

// below is a over b, which is above 0, rounded down.
func below(a, b int) int {
	q, rest := new(big.Int).DivMod(big.NewInt(int64(a)), big.NewInt(int64(b)), new(big.Int))
	if rest.Sign() < 0 {
		panic("a rest below 0")
	}
	return int(q.Int64())
}

// modulo is a sum of any size, from 0 to n - 1.
func modulo(n int, list ...int) int {
	return int(new(big.Int).Mod(total(list...), big.NewInt(int64(n))).Int64())
}

// commands are motors kept from 0 to 600.
func commands(motors [8]int) [8]int {
	for i, m := range motors {
		motors[i] = max(0, min(m, 600))
	}
	return motors
}

// worked is what motors do together, by chapter 16's words.
func worked(motors [8]int) api.Wrench {
	m := commands(motors)
	a, b, c, d := m[0]+m[1], m[2]+m[3], m[4]+m[5], m[6]+m[7]
	return api.Wrench{
		Lift:  below(a+b+c+d, 4),
		X:     below(a-b-c+d, 4),
		Y:     below(a+b-c-d, 4),
		Twist: below(m[0]-m[1]+m[2]-m[3]+m[4]-m[5]+m[6]-m[7], 4),
	}
}

// stepped is the document's Step, its numbers written out.
func stepped(w api.World, motors [8]int, dead int, wind [3]int, drain int) (api.World, api.Errno) {
	if dead < 0 || dead > 8 {
		return api.World{}, api.ErrArg
	}
	if dead > 0 {
		motors[dead-1] = 0
	}
	done := worked(motors)
	v := [3]int{
		row(w.V[0], done.X, wind[0]),
		row(w.V[1], done.Y, wind[1]),
		less(row(w.V[2], done.Lift, wind[2]), 392),
	}
	p := [3]int{row(w.P[0], v[0]), row(w.P[1], v[1]), row(w.P[2], v[2])}
	r := row(w.R, done.Twist)
	if p[2] <= 0 {
		p, v, r = [3]int{w.P[0], w.P[1], 0}, [3]int{}, 0
	}
	return api.World{P: p, V: v, H: modulo(1048576, w.H, r), R: r, Charge: less(w.Charge, drain)}, api.OK
}

// air is what comes into a step beside the world.
type air struct {
	motors [8]int
	dead   int
	wind   [3]int
	drain  int
}

// step holds a step against the clerk's answer.
func step(t *testing.T, w api.World, a air) api.World {
	t.Helper()
	got, e := world.Step(w, a.motors, a.dead, a.wind, a.drain)
	want, why := stepped(w, a.motors, a.dead, a.wind, a.drain)
	if got != want || e != why {
		t.Fatalf("Step(%v, %v) = %v %d; asked for: %v %d", w, a, got, int(e), want, int(why))
	}
	return got
}

// curved is the document's Curve.
func curved(motors [8]int, base, motor int) int {
	sum := 0
	for _, m := range commands(motors) {
		sum += m
	}
	product := new(big.Int).Mul(big.NewInt(int64(motor)), big.NewInt(int64(sum)))
	return row(base, below(kept(product), 1024))
}

// curve holds what motors take against the clerk's answer.
func curve(t *testing.T, motors [8]int, base, motor int) {
	t.Helper()
	if got, want := world.Curve(motors, base, motor), curved(motors, base, motor); got != want {
		t.Fatalf("Curve(%v, %d, %d) = %d; asked for: %d", motors, base, motor, got, want)
	}
}

// told is the document's Sees.
func told(w api.World, s api.Sensor, off ...int) []int {
	at := func(i int) int {
		if i < len(off) {
			return off[i]
		}
		return 0
	}
	switch s {
	case 1:
		return []int{modulo(65536, row(below(w.H, 16), at(0))), row(w.R, at(1)), at(2), at(3)}
	case 2:
		return []int{row(below(w.P[2], 6400), at(0)), row(w.V[2], at(1))}
	case 3:
		return []int{row(below(w.P[0], 6400), at(0)), row(below(w.P[1], 6400), at(1)), row(w.V[0], at(2)), row(w.V[1], at(3))}
	}
	return nil
}

// sees holds what a unit tells against the clerk's answer.
func sees(t *testing.T, w api.World, s api.Sensor, off ...int) []int {
	t.Helper()
	got, want := world.Sees(w, s, off...), told(w, s, off...)
	if !slices.Equal(got, want) {
		t.Fatalf("Sees(%v, %d, %v) = %v; asked for: %v", w, s, off, got, want)
	}
	return got
}

// anyNumber is a number at random: a small one, one of size, or one at an int's end.
func anyNumber(r *rand.Rand, size int) int {
	switch r.Intn(8) {
	case 0:
		return ends()[r.Intn(len(ends()))]
	case 1:
		return r.Intn(5) - 2
	case 2:
		return int(r.Uint64())
	}
	return r.Intn(2*size+1) - size
}

func anyWorld(r *rand.Rand) api.World {
	var w api.World
	for i := range 3 {
		w.P[i], w.V[i] = anyNumber(r, 100000), anyNumber(r, 3000)
	}
	w.H, w.R, w.Charge = anyNumber(r, 3000000), anyNumber(r, 500), anyNumber(r, 100000)
	return w
}

func anyAir(r *rand.Rand) air {
	a := air{dead: r.Intn(9), drain: anyNumber(r, 100)}
	for i := range a.motors {
		a.motors[i] = r.Intn(700) - 50
		if r.Intn(10) == 0 {
			a.motors[i] = anyNumber(r, 600)
		}
	}
	for i := range a.wind {
		a.wind[i] = anyNumber(r, 50)
	}
	return a
}

// api: what the document names has its numbers.
func TestNames(t *testing.T) {
	if api.OK != 0 || api.ErrArg != 1 {
		t.Error("errors")
	}
	if api.Imu != 1 || api.Baro != 2 || api.Gnss != 3 || api.Rc != 4 || api.Esc != 5 {
		t.Error("sensors")
	}
	if api.PerMM != 6400 || api.Gravity != 392 || api.Turn != 65536 || api.MaxMotor != 600 {
		t.Error("limits")
	}
}

// P23.1 to P23.3: all the calls at random.
func TestAny(t *testing.T) {
	r := rand.New(rand.NewSource(231))
	for range 100000 {
		w, a := anyWorld(r), anyAir(r)
		step(t, w, a)
		curve(t, a.motors, anyNumber(r, 50), anyNumber(r, 5000))
		off := make([]int, r.Intn(7))
		for i := range off {
			off[i] = anyNumber(r, 100000)
		}
		sees(t, w, api.Sensor(r.Intn(7)), off...)
	}
}

// P23.1: flights at random, step by step.
func TestFlights(t *testing.T) {
	r := rand.New(rand.NewSource(232))
	for range 300 {
		w := api.World{Charge: 100000}
		for range 300 {
			a := air{dead: max(0, r.Intn(80)-71), wind: [3]int{r.Intn(11) - 5, r.Intn(11) - 5, r.Intn(11) - 5}, drain: r.Intn(9)}
			for i := range a.motors {
				a.motors[i] = 170 + r.Intn(56)
			}
			w = step(t, w, a)
			sees(t, w, api.Sensor(1+r.Intn(3)))
		}
	}
}
