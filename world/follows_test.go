package world_test

import (
	"math/rand"
	"slices"
	"testing"

	"windhover/api"
	"windhover/mixer"
	"windhover/world"
)

// raised are motors that lift so much together, the first ones as much as they can.
func raised(lift int) [8]int {
	var motors [8]int
	left := 4 * lift
	for i := range motors {
		motors[i] = min(left, 600)
		left -= motors[i]
	}
	return motors
}

// P23.4: what stands stands on, as long as the motors lift no more than 392 less the wind; with one more it flies.
func TestStandsOn(t *testing.T) {
	w := api.World{P: [3]int{5, -6, 0}, H: 77, Charge: 9}
	for lift := range 1201 {
		motors := raised(lift)
		if got := mixer.Work(motors).Lift; got != lift {
			t.Fatal(lift, got)
		}
		for _, wind := range []int{least, -3000, 391 - lift, 392 - lift, 393 - lift, 394 - lift, 3000, most} {
			next := step(t, w, air{motors: motors, wind: [3]int{4, -4, wind}})
			stands := lift <= less(392, wind)
			if (next == w) != stands || (next.P[2] > 0) == stands {
				t.Fatalf("lift %d, wind %d: %v", lift, wind, next)
			}
		}
	}
}

// P23.4: it stands on for many ticks, with whatever motors of that lift, and whatever dead one.
func TestStandsLong(t *testing.T) {
	r := rand.New(rand.NewSource(234))
	for range 300 {
		w := api.World{P: [3]int{r.Intn(9) - 4, r.Intn(9) - 4, 0}, H: r.Intn(1048576), Charge: 7}
		for range 100 {
			a := air{dead: r.Intn(9), wind: [3]int{r.Intn(90) - 45, r.Intn(90) - 45, 0}}
			for i := range a.motors {
				a.motors[i] = r.Intn(600)
			}
			live := a.motors
			if a.dead > 0 {
				live[a.dead-1] = 0
			}
			a.wind[2] = 392 - mixer.Work(live).Lift - r.Intn(3)*r.Intn(50)
			if next := step(t, w, a); next != w {
				t.Fatal(w, a, next)
			}
		}
	}
}

// wrenches are wrenches within their limits, at them, beyond them and at an int's ends.
func wrenches() []api.Wrench {
	var list []api.Wrench
	for _, lift := range []int{least, 0, 327, 328, 391, 392, 393, 456, 457, most} {
		for _, x := range []int{least, -65, -64, -1, 0, 10, 64, most} {
			for _, y := range []int{least, -64, -3, 0, 1, 64, 65, most} {
				for _, twist := range []int{least, -100, -1, 0, 1, 2, 100, most} {
					list = append(list, api.Wrench{Lift: lift, X: x, Y: y, Twist: twist})
				}
			}
		}
	}
	return list
}

// P23.4: what Mix makes of a wrench adds just that wrench's limited parts to the velocities, whichever motor is dead, as Mix knows of it.
func TestMixed(t *testing.T) {
	w := api.World{P: [3]int{100, 200, 6400}, V: [3]int{30, -40, 50}, H: 60, Charge: 70}
	for _, wrench := range wrenches() {
		limited := mixer.Limit(wrench)
		for dead := range 9 {
			motors, e := mixer.Mix(wrench, dead)
			if e != api.OK {
				t.Fatal(wrench, dead, e)
			}
			a := air{motors: motors, dead: dead, wind: [3]int{5, -6, 7}, drain: 1}
			v := [3]int{30 + limited.X + 5, limited.Y - 46, 57 + limited.Lift - 392}
			next := step(t, w, a)
			if next.V != v || next.P != [3]int{100 + v[0], 200 + v[1], 6400 + v[2]} {
				t.Fatalf("%v, dead %d: %v; asked for: %v", wrench, dead, next, v)
			}
			// Without a dead motor the twist is Limit's too, or one less.
			if dead == 0 && next.R != limited.Twist && next.R != limited.Twist-1 {
				t.Fatalf("%v: R %d", wrench, next.R)
			}
		}
	}
}

// P23.4: a dead motor of which Mix does not know is missed, by no more than a kick.
func TestUnknownDead(t *testing.T) {
	w := api.World{P: [3]int{0, 0, 6400}}
	for _, wrench := range wrenches() {
		motors, _ := mixer.Mix(wrench, 0)
		limited := mixer.Limit(wrench)
		for dead := 1; dead <= 8; dead++ {
			next := after(t, w, air{motors: motors, dead: dead})
			missed := [3]int{limited.X - next.V[0], limited.Y - next.V[1], limited.Lift - 392 - next.V[2]}
			for i, m := range missed {
				if max(m, -m) > 86 || i == 2 && m < 1 {
					t.Fatalf("%v, dead %d: %v", wrench, dead, missed)
				}
			}
		}
	}
}

// P23.4: a climb by Mix, tick by tick, has the velocities and places of the wrench's sums, and comes down to stand.
func TestUpAndDown(t *testing.T) {
	for dead := range 9 {
		w, v, p := api.World{}, [3]int{}, [3]int{}
		up, _ := mixer.Mix(api.Wrench{Lift: 400, X: 2, Y: -3}, dead)
		for range 200 {
			w = step(t, w, air{motors: up, dead: dead})
			v = [3]int{v[0] + 2, v[1] - 3, v[2] + 8}
			p = [3]int{p[0] + v[0], p[1] + v[1], p[2] + v[2]}
			if w.V != v || w.P != p {
				t.Fatal(dead, w, v, p)
			}
		}
		down, _ := mixer.Mix(api.Wrench{Lift: 328}, dead)
		ticks := 0
		for w.V != [3]int{} {
			p = w.P
			w = step(t, w, air{motors: down, dead: dead})
			ticks++
			if ticks > 2000 {
				t.Fatal("still in the air", w)
			}
		}
		if w.P != [3]int{p[0], p[1], 0} || w.R != 0 {
			t.Fatal(dead, w, p)
		}
	}
}

// R2: what is handed in is not written into, nor its spare room, and is not read behind its length.
func TestHandedIn(t *testing.T) {
	room := []int{1, 2, 3, 4, 5, 6, 7, 8}
	before := slices.Clone(room)
	for n := range len(room) + 1 {
		for s := range api.Sensor(7) {
			sees(t, far(), s, room[:n]...)
			if !slices.Equal(room, before) {
				t.Fatal(n, s, room)
			}
		}
	}
	w, motors, wind := far(), mixed(), [3]int{1, 2, 3}
	world.Step(w, motors, 3, wind, 4)
	world.Curve(motors, 5, 6)
	if w != far() || motors != mixed() || wind != [3]int{1, 2, 3} {
		t.Error("written into")
	}
}

// R2: what is handed in is not kept, and what is handed out is new memory, its spare room too.
func TestHandedOut(t *testing.T) {
	off := []int{1, 2, 3, 4, 5}
	var lists, copies [][]int
	for range 3 {
		for s := range api.Sensor(7) {
			list := world.Sees(far(), s, off...)
			lists, copies = append(lists, list), append(copies, slices.Clone(list))
		}
	}
	for i := range off {
		off[i] = -77
	}
	for i, list := range lists {
		if !slices.Equal(list, copies[i]) {
			t.Fatal("kept:", i, list, copies[i])
		}
	}
	for i, list := range lists {
		all := list[:cap(list)]
		for k := range all {
			all[k] = -99
		}
		for k := i + 1; k < len(lists); k++ {
			if !slices.Equal(lists[k], copies[k]) {
				t.Fatal(i, k, lists[k])
			}
		}
	}
	for _, x := range off {
		if x != -77 {
			t.Fatal("shared:", off)
		}
	}
	for s := range api.Sensor(7) {
		sees(t, far(), s)
		sees(t, far(), s, 1, 2, 3, 4, 5)
	}
}

// R2: the same calls are answered alike, whatever was asked between them.
func TestAlike(t *testing.T) {
	r := rand.New(rand.NewSource(235))
	for range 2000 {
		w, a := anyWorld(r), anyAir(r)
		first := after(t, w, a)
		world.Step(anyWorld(r), all(9), 10, [3]int{}, 1)
		step(t, anyWorld(r), anyAir(r))
		if again := after(t, w, a); again != first {
			t.Fatal(w, a, first, again)
		}
	}
}
