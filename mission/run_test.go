package mission_test

import (
	"math/rand"
	"slices"
	"testing"

	"windhover/api"
	"windhover/mission"
)

// clerk does a mission by the document's words; it keeps how often was jumped beside each item.
type clerk struct {
	items    []api.MissionItem
	at       int
	speed    int
	loitered int
	jumped   [64]int
}

func (c *clerk) over() bool { return c.at >= len(c.items) }

func (c *clerk) step(arrived bool) {
	if c.over() {
		return
	}
	m, next := c.items[c.at], c.at
	switch int(m.Kind) {
	case takeoff, waypoint:
		if arrived {
			next++
		}
	case loiter:
		if c.loitered++; c.loitered >= m.A {
			c.loitered, next = 0, next+1
		}
	case jump:
		if c.jumped[c.at] < m.B {
			c.jumped[c.at]++
			next = m.A
		} else {
			c.jumped[c.at] = 0
			next++
		}
	case speed:
		c.speed, next = m.A, next+1
	}
	c.at = next
}

func (c *clerk) goal() api.Goal {
	if c.over() {
		return api.Goal{}
	}
	m := c.items[c.at]
	switch int(m.Kind) {
	case takeoff:
		return api.Goal{Kind: m.Kind, Z: m.A, Speed: c.speed}
	case waypoint:
		return api.Goal{Kind: m.Kind, X: m.A, Y: m.B, Z: m.C, Speed: c.speed}
	}
	return api.Goal{Kind: m.Kind, Speed: c.speed}
}

// pair is a run and its clerk.
type pair struct {
	r *mission.Run
	c clerk
}

func pairOf(t *testing.T, fast int, items []api.MissionItem) *pair {
	t.Helper()
	r, e := mission.New(fast, items...)
	if r == nil || e != api.OK {
		t.Fatalf("New of %v: %d", items, int(e))
	}
	p := &pair{r: r, c: clerk{items: slices.Clone(items), speed: fast}}
	p.look(t)
	return p
}

// look holds what a run tells against its clerk.
func (p *pair) look(t *testing.T) {
	t.Helper()
	if p.r.Index() != p.c.at || p.r.Over() != p.c.over() || p.r.Goal() != p.c.goal() {
		t.Fatalf("%v: Index %d, Over %v, Goal %+v; asked for: %d, %v, %+v", p.c.items, p.r.Index(), p.r.Over(), p.r.Goal(), p.c.at, p.c.over(), p.c.goal())
	}
}

// step does a step on both.
func (p *pair) step(t *testing.T, arrived bool) {
	t.Helper()
	p.r.Step(arrived)
	p.c.step(arrived)
	p.look(t)
}

// walk steps, arrived each time, and tells where the run was ahead of the first step and behind each.
func (p *pair) walk(t *testing.T, steps int) []int {
	t.Helper()
	way := []int{p.r.Index()}
	for range steps {
		p.step(t, true)
		way = append(way, p.r.Index())
	}
	return way
}

// goes holds a way against one by hand.
func goes(t *testing.T, items []api.MissionItem, want ...int) {
	t.Helper()
	if way := pairOf(t, 5000, items).walk(t, len(want)-1); !slices.Equal(way, want) {
		t.Errorf("%v goes %v; asked for: %v", items, way, want)
	}
}

// P19.5, P19.6, P19.7: the way of 'Examples'.
func TestRunExample(t *testing.T) {
	p := pairOf(t, 16000, list([4]int{takeoff, 2000, 0, 0}, [4]int{waypoint, 5000, 0, 2000}, [4]int{jump, 1, 2, 0}, [4]int{land}))
	first := api.Goal{Kind: api.TakeoffItem, Z: 2000, Speed: 16000}
	if p.r.Goal() != first || p.r.Index() != 0 || p.r.Over() {
		t.Error(p.r.Goal())
	}
	p.step(t, false)
	if p.r.Goal() != first || p.r.Index() != 0 {
		t.Error(p.r.Goal(), p.r.Index())
	}
	goals := []api.Goal{first, {Kind: api.WaypointItem, X: 5000, Z: 2000, Speed: 16000}, {Kind: api.JumpItem, Speed: 16000}, {Kind: api.LandItem, Speed: 16000}}
	for i, c := range []struct {
		arrived bool
		at      int
	}{{true, 1}, {true, 2}, {false, 1}, {true, 2}, {false, 1}, {true, 2}, {true, 3}, {true, 3}, {false, 3}, {true, 3}} {
		p.step(t, c.arrived)
		if p.r.Index() != c.at || p.r.Over() || p.r.Goal() != goals[c.at] {
			t.Errorf("%d: Index %d, Goal %+v", i, p.r.Index(), p.r.Goal())
		}
	}
}

// P19.5: each error of Check, and no run beside it.
func TestNewRefuses(t *testing.T) {
	for i, c := range wrongs() {
		for _, fast := range []int{least, 0, 16000, most} {
			if r, e := mission.New(fast, c.items...); r != nil || e != c.e {
				t.Errorf("%d: %v, %d", i, r, int(e))
			}
		}
	}
}

// P19.5: no item at all is a run that is over; nothing goes on from there.
func TestNewOfNothing(t *testing.T) {
	for _, items := range [][]api.MissionItem{nil, {}} {
		p := pairOf(t, 16000, items)
		for i := range 6 {
			if p.r.Index() != 0 || !p.r.Over() || p.r.Goal() != (api.Goal{}) {
				t.Error(i, p.r.Index(), p.r.Over(), p.r.Goal())
			}
			p.step(t, i%2 == 0)
		}
	}
}

// P19.5: any speed is told as it is; it is no item's, so that no bound holds for it.
func TestNewSpeeds(t *testing.T) {
	for _, fast := range append(edges(), 1599, 1600, 16000, 64000, 64001) {
		for kind := takeoff; kind <= home; kind++ {
			may, _ := table(kind)
			p := pairOf(t, fast, list([4]int{kind, max(may[0][0], 0), 0, 0}))
			if p.r.Goal().Speed != fast || p.r.Index() != 0 || p.r.Over() {
				t.Errorf("New(%d, kind %d): %+v", fast, kind, p.r.Goal())
			}
		}
	}
}

// P19.5, R2: the caller's list may be changed afterwards.
func TestNewKeepsNothing(t *testing.T) {
	items := list([4]int{takeoff, 10, 0, 0}, [4]int{waypoint, 1, 2, 3}, [4]int{loiter, 2, 0, 0}, [4]int{jump, 0, 1, 0}, [4]int{land})
	p := pairOf(t, 16000, items)
	for i := range items {
		items[i] = item([4]int{jump, most, most, most})
	}
	p.look(t)
	want := []int{0, 1, 2, 2, 3, 0, 1, 2, 2, 3, 4, 4}
	if way := p.walk(t, len(want)-1); !slices.Equal(way, want) {
		t.Error(way)
	}
}

// P19.6: at each kind of item, arrived and not: what goes on, and what stays.
func TestStepEachKind(t *testing.T) {
	for _, c := range []struct {
		row             [4]int
		arrived, absent int // where the run is behind a step
	}{
		{[4]int{takeoff, 9, 0, 0}, 2, 1}, {[4]int{waypoint, -7, 8, 9}, 2, 1}, {[4]int{waypoint, 0, 0, 0}, 2, 1},
		{[4]int{loiter, 0, 0, 0}, 2, 2}, {[4]int{loiter, 1, 0, 0}, 2, 2}, {[4]int{loiter, 2, 0, 0}, 1, 1},
		{[4]int{jump, 0, 0, 0}, 2, 2}, {[4]int{jump, 0, 1, 0}, 0, 0}, {[4]int{jump, 1, 1, 0}, 1, 1}, {[4]int{jump, 2, 1, 0}, 2, 2}, {[4]int{jump, 3, 255, 0}, 3, 3},
		{[4]int{speed, 1700, 0, 0}, 2, 2}, {[4]int{land}, 1, 1}, {[4]int{home}, 1, 1},
	} {
		for _, arrived := range []bool{true, false} {
			p := pairOf(t, 16000, list([4]int{waypoint, 1, 1, 1}, c.row, [4]int{waypoint, 2, 2, 2}, [4]int{waypoint, 3, 3, 3}))
			p.step(t, true)
			want := c.absent
			if arrived {
				want = c.arrived
			}
			if p.step(t, arrived); p.r.Index() != want || p.r.Over() {
				t.Errorf("%v, arrived %v: %d; asked for: %d", c.row, arrived, p.r.Index(), want)
			}
		}
	}
}

// P19.6, P19.7: a goal is told as it is until it is reached, however long that takes.
func TestStepWaits(t *testing.T) {
	p := pairOf(t, 16000, list([4]int{takeoff, 120000, 0, 0}, [4]int{waypoint, end, -end, 120000}, [4]int{waypoint, -end, end, 0}))
	for i, goal := range []api.Goal{{Kind: 1, Z: 120000, Speed: 16000}, {Kind: 2, X: end, Y: -end, Z: 120000, Speed: 16000}, {Kind: 2, X: -end, Y: end, Speed: 16000}, {}} {
		for range 500 {
			if p.r.Index() != i || p.r.Goal() != goal || p.r.Over() != (i == 3) {
				t.Fatal(i, p.r.Index(), p.r.Goal())
			}
			p.step(t, false)
		}
		p.step(t, true)
	}
}

// P19.6: from a land and from a return nothing goes on, wherever they stand.
func TestStepEnds(t *testing.T) {
	for _, kind := range []int{land, home} {
		for n := range 5 {
			items := append(times(n, [4]int{speed, 2000, 0, 0}), list([4]int{kind}, [4]int{jump, 0, 3, 0}, [4]int{waypoint, 1, 2, 3})...)
			p := pairOf(t, 2000, items)
			p.walk(t, n)
			for i := range 300 {
				if p.r.Index() != n || p.r.Over() || p.r.Goal() != (api.Goal{Kind: api.ItemKind(kind), Speed: 2000}) {
					t.Fatal(kind, n, p.r.Index(), p.r.Goal())
				}
				p.step(t, i%2 == 0)
			}
		}
	}
}

// P19.6, P19.7: behind its last item a run is over, its Index is how many items there are, and it stays so.
func TestStepOver(t *testing.T) {
	for _, row := range [][4]int{{takeoff, 3, 0, 0}, {waypoint, 1, 2, 3}, {loiter, 0, 0, 0}, {loiter, 1, 0, 0}, {jump, 0, 0, 0}, {speed, 2000, 0, 0}} {
		for _, n := range []int{1, 2, 63, 64} {
			p := pairOf(t, 7, times(n, row))
			for i := range n {
				if p.r.Over() || p.r.Index() != i {
					t.Fatal(row, n, p.r.Index())
				}
				p.step(t, true)
			}
			for i := range 70 {
				if !p.r.Over() || p.r.Index() != n || p.r.Goal() != (api.Goal{}) {
					t.Fatal(row, n, p.r.Index(), p.r.Goal())
				}
				p.step(t, i%2 == 0)
			}
		}
	}
}

// loiterSteps is how many steps a loiter takes: one at least.
func loiterSteps(a int) int { return max(a, 1) }

// P19.6: loiters of 0, 1 and many steps, whether the run has arrived or not; the next one begins anew.
func TestLoiter(t *testing.T) {
	for _, a := range []int{0, 1, 2, 3, 10, 255, 256, 1000, 65537, 1000000} {
		for _, b := range []int{0, 1, 5} {
			r, _ := mission.New(9, list([4]int{loiter, a, 0, 0}, [4]int{loiter, b, 0, 0})...)
			for i := 1; i <= loiterSteps(a)+loiterSteps(b); i++ {
				r.Step(i%3 == 0)
				want := 0
				if i >= loiterSteps(a) {
					want = 1
				}
				if i == loiterSteps(a)+loiterSteps(b) {
					want = 2
				}
				if r.Index() != want || r.Over() != (want == 2) {
					t.Fatalf("loiters of %d and %d, step %d: %d", a, b, i, r.Index())
				}
			}
		}
	}
}

// P19.6: the same loiter once more behind a jump takes as many steps as ahead of it.
func TestLoiterAgain(t *testing.T) {
	goes(t, list([4]int{loiter, 3, 0, 0}, [4]int{jump, 0, 2, 0}), 0, 0, 0, 1, 0, 0, 0, 1, 0, 0, 0, 1, 2, 2)
	goes(t, list([4]int{loiter, 0, 0, 0}, [4]int{jump, 0, 2, 0}), 0, 1, 0, 1, 0, 1, 2)
	goes(t, list([4]int{loiter, 1, 0, 0}, [4]int{jump, 0, 2, 0}), 0, 1, 0, 1, 0, 1, 2)
	goes(t, list([4]int{loiter, 2, 0, 0}, [4]int{loiter, 3, 0, 0}, [4]int{jump, 0, 1, 0}, [4]int{home}), 0, 0, 1, 1, 1, 2, 0, 0, 1, 1, 1, 2, 3, 3)
	goes(t, list([4]int{loiter, 2, 0, 0}, [4]int{loiter, 2, 0, 0}, [4]int{jump, 1, 1, 0}), 0, 0, 1, 1, 2, 1, 1, 2, 3)
}

// P19.6: jumps by hand: of 0, 1 and 2 times; back, ahead and to themselves; the last item's as well.
func TestJumpsByHand(t *testing.T) {
	point := [4]int{waypoint, 1, 2, 3}
	goes(t, list(point, [4]int{jump, 0, 0, 0}, point), 0, 1, 2, 3, 3)
	goes(t, list(point, [4]int{jump, 0, 1, 0}, point), 0, 1, 0, 1, 2, 3, 3)
	goes(t, list(point, [4]int{jump, 0, 2, 0}), 0, 1, 0, 1, 0, 1, 2, 2)
	goes(t, list([4]int{jump, 0, 0, 0}, point), 0, 1, 2)
	goes(t, list([4]int{jump, 0, 1, 0}, point), 0, 0, 1, 2)
	goes(t, list([4]int{jump, 0, 3, 0}, point), 0, 0, 0, 0, 1, 2)
	goes(t, list([4]int{jump, 2, 0, 0}, point, point), 0, 1, 2, 3)
	goes(t, list([4]int{jump, 2, 1, 0}, point, point), 0, 2, 3, 3)
	goes(t, list([4]int{jump, 1, 5, 0}, point), 0, 1, 2)
	// A jump back over one ahead: the one ahead was taken once, and so it is passed now.
	goes(t, list([4]int{jump, 2, 1, 0}, point, point, [4]int{jump, 0, 2, 0}), 0, 2, 3, 0, 1, 2, 3, 0, 2, 3, 4)
	// Two that lead to each other.
	goes(t, list([4]int{jump, 1, 2, 0}, [4]int{jump, 0, 1, 0}), 0, 1, 0, 1, 2, 2)
	goes(t, list([4]int{jump, 1, 1, 0}, [4]int{jump, 0, 3, 0}), 0, 1, 0, 1, 0, 1, 0, 1, 2, 2)
}

// P19.6: a jump within a jump is taken anew each time; by hand.
func TestJumpsWithinJumps(t *testing.T) {
	point := [4]int{waypoint, 1, 2, 3}
	goes(t, list(point, [4]int{jump, 0, 1, 0}, [4]int{jump, 0, 2, 0}, [4]int{land}), 0, 1, 0, 1, 2, 0, 1, 0, 1, 2, 0, 1, 0, 1, 2, 3, 3)
	goes(t, list([4]int{jump, 0, 1, 0}, [4]int{jump, 0, 1, 0}, [4]int{jump, 0, 1, 0}), 0, 0, 1, 0, 0, 1, 2, 0, 0, 1, 0, 0, 1, 2, 3)
	goes(t, list(point, [4]int{jump, 1, 2, 0}, [4]int{jump, 0, 1, 0}), 0, 1, 1, 1, 2, 0, 1, 1, 1, 2, 3)
	// An inner one that leads out of the outer one's round, of which the count stays.
	goes(t, list(point, [4]int{jump, 3, 1, 0}, [4]int{jump, 0, 1, 0}, point, [4]int{jump, 0, 1, 0}), 0, 1, 3, 4, 0, 1, 2, 0, 1, 3, 4, 5)
}

// P19.6, P19.8: a jump of n times is taken n times, and passed; then once more the same, and once more.
func TestJumpTimes(t *testing.T) {
	for _, n := range []int{0, 1, 2, 3, 127, 128, 254, 255} {
		for _, back := range []int{0, 1} { // to the item ahead of it, and to itself
			p := pairOf(t, 1, list([4]int{speed, 2000, 0, 0}, [4]int{jump, back, n, 0}, [4]int{jump, 0, 2, 0}, [4]int{land}))
			for pass := range 3 {
				taken := 0
				for p.r.Index() != 2 {
					at := p.r.Index()
					p.step(t, false)
					if at == 1 && p.r.Index() == back {
						taken++
					}
				}
				if taken != n {
					t.Fatalf("jump to %d, %d times, pass %d: %d", back, n, pass, taken)
				}
				p.step(t, false)
			}
			if p.r.Index() != 3 {
				t.Error(p.r.Index())
			}
		}
	}
}

// P19.6: all jumps that a mission of 64 items may have, each to any item; each place has a count of its own.
func TestManyJumps(t *testing.T) {
	for _, n := range []int{0, 1, 255} {
		for to := range 64 {
			items := times(64, [4]int{jump, to, n, 0})
			p := pairOf(t, 1, items)
			for range 2000 {
				p.step(t, false)
			}
		}
	}
	// Each to itself, of as many times as its place: all its steps are known.
	items := times(64, [4]int{})
	var want []int
	for i := range items {
		items[i] = item([4]int{jump, i, i, 0})
		want = append(want, slices.Repeat([]int{i}, i+1)...)
	}
	goes(t, items, append(want, 64, 64)...)
}

// P19.6, P19.7: speeds in turn; the last one that was gone through is told, at each kind of item.
func TestSpeeds(t *testing.T) {
	p := pairOf(t, 16000, list([4]int{takeoff, 5, 0, 0}, [4]int{speed, 1600, 0, 0}, [4]int{waypoint, 1, 2, 3}, [4]int{speed, 64000, 0, 0}, [4]int{loiter, 1, 0, 0}, [4]int{jump, 1, 1, 0}, [4]int{speed, 3000, 0, 0}, [4]int{speed, 3001, 0, 0}, [4]int{home}))
	want := [][2]int{{0, 16000}, {1, 16000}, {2, 1600}, {3, 1600}, {4, 64000}, {5, 64000}, {1, 64000}, {2, 1600}, {3, 1600}, {4, 64000}, {5, 64000}, {6, 64000}, {7, 3000}, {8, 3001}, {8, 3001}}
	for i, c := range want {
		if p.r.Index() != c[0] || p.r.Goal().Speed != c[1] {
			t.Errorf("%d: %d, %+v; asked for: %v", i, p.r.Index(), p.r.Goal(), c)
		}
		p.step(t, true)
	}
}

// P19.7: the goal of each kind of item has no fields but its own.
func TestGoals(t *testing.T) {
	for _, c := range []struct {
		row  [4]int
		want api.Goal
	}{
		{[4]int{takeoff, 2000, 0, 0}, api.Goal{Kind: api.TakeoffItem, Z: 2000, Speed: 4}},
		{[4]int{waypoint, 5, -6, 7}, api.Goal{Kind: api.WaypointItem, X: 5, Y: -6, Z: 7, Speed: 4}},
		{[4]int{loiter, 9, 0, 0}, api.Goal{Kind: api.LoiterItem, Speed: 4}},
		{[4]int{jump, 1, 9, 0}, api.Goal{Kind: api.JumpItem, Speed: 4}},
		{[4]int{speed, 1700, 0, 0}, api.Goal{Kind: api.SpeedItem, Speed: 4}},
		{[4]int{land}, api.Goal{Kind: api.LandItem, Speed: 4}},
		{[4]int{home}, api.Goal{Kind: api.ReturnItem, Speed: 4}},
	} {
		r, _ := mission.New(4, list(c.row, [4]int{land})...)
		for range 3 { // asking changes nothing
			if r.Goal() != c.want || r.Index() != 0 || r.Over() {
				t.Errorf("%v: %+v, %d", c.row, r.Goal(), r.Index())
			}
		}
	}
}

// P19.5 to P19.7: any sound missions, small ones above all, so that their jumps and loiters are come by again and again.
func TestRunsOfAnyMission(t *testing.T) {
	r := rand.New(rand.NewSource(198))
	for i := range 4000 {
		n := 1 + r.Intn(6)
		if i%10 == 0 {
			n = 1 + r.Intn(64)
		}
		items := soundMission(r, n)
		for k := range items {
			switch int(items[k].Kind) {
			case loiter:
				items[k].A %= 5
			case jump:
				items[k].B %= 4
			case land, home:
				if r.Intn(4) > 0 { // else most runs would be at their end soon
					items[k] = item([4]int{jump, r.Intn(n), r.Intn(4), 0})
				}
			}
		}
		p := pairOf(t, any64(r), items)
		for range 200 {
			p.step(t, r.Intn(3) > 0)
		}
	}
}

// aheadOnly is any mission whose jumps lead ahead, and which ends behind its last item.
func aheadOnly(r *rand.Rand, n int) []api.MissionItem {
	items := soundMission(r, n)
	for k := range items {
		m := &items[k]
		switch int(m.Kind) {
		case loiter:
			m.A %= 9
		case land, home:
			*m = item([4]int{waypoint, k, k, k})
		case jump:
			if k == n-1 {
				m.A, m.B = r.Intn(n), 0
			} else {
				m.A = k + 1 + r.Intn(n-1-k)
			}
		}
	}
	return items
}

// P19.8: a mission without jumps back goes through its items once, in order; without any jump taken through all of them.
func TestOnceInOrder(t *testing.T) {
	r := rand.New(rand.NewSource(199))
	for i := range 3000 {
		items := aheadOnly(r, 1+r.Intn(64))
		if i%2 == 0 {
			for k := range items {
				if int(items[k].Kind) == jump {
					items[k].A, items[k].B = r.Intn(len(items)), 0
				}
			}
		}
		p := pairOf(t, 16000, items)
		var way []int
		for steps := 0; !p.r.Over(); steps++ {
			if at := p.r.Index(); len(way) == 0 || at != way[len(way)-1] {
				way = append(way, at)
			}
			if p.step(t, true); steps > 64*9 {
				t.Fatalf("%v is not over", items)
			}
		}
		for k := range way {
			if k > 0 && way[k] <= way[k-1] {
				t.Fatalf("%v goes %v", items, way)
			}
		}
		if i%2 == 0 && len(way) != len(items) {
			t.Fatalf("%v goes %v", items, way)
		}
	}
}

// P19.8: in whatever mission, between two passes a jump is taken as often as it says.
func TestTakenBetweenPasses(t *testing.T) {
	r := rand.New(rand.NewSource(200))
	passes := 0
	for range 2000 {
		n := 2 + r.Intn(5)
		items := times(n, [4]int{speed, 2000, 0, 0})
		for k := range items {
			if r.Intn(2) == 0 {
				items[k] = item([4]int{jump, r.Intn(n), r.Intn(4), 0})
			}
		}
		run, _ := mission.New(5, items...)
		var taken [6]int
		for range 300 {
			at := run.Index()
			if run.Step(false); run.Over() {
				break
			}
			m := items[at]
			if int(m.Kind) != jump || m.A == at+1 { // of one to the next item it is not to be seen which it was
				continue
			}
			if run.Index() == m.A {
				taken[at]++
				continue
			}
			if run.Index() != at+1 || taken[at] != m.B {
				t.Fatalf("%v: %d taken %d times, then %d", items, at, taken[at], run.Index())
			}
			taken[at] = 0
			passes++
		}
	}
	if passes < 2000 {
		t.Error(passes)
	}
}

// R2: runs know nothing of each other, be it of one list or of two; nor does a copy of its first one.
func TestRunsApart(t *testing.T) {
	r := rand.New(rand.NewSource(201))
	items := list([4]int{waypoint, 1, 2, 3}, [4]int{loiter, 2, 0, 0}, [4]int{jump, 0, 3, 0}, [4]int{speed, 3000, 0, 0}, [4]int{jump, 2, 2, 0}, [4]int{jump, 0, 200, 0})
	other := list([4]int{jump, 1, 2, 0}, [4]int{loiter, 3, 0, 0}, [4]int{jump, 0, 255, 0})
	pairs := []*pair{pairOf(t, 1, items), pairOf(t, 2, items), pairOf(t, 3, other)}
	pairs[0].walk(t, 30)
	copied := *pairs[0].r
	pairs = append(pairs, &pair{r: &copied, c: pairs[0].c})
	for range 3000 {
		pairs[r.Intn(len(pairs))].step(t, r.Intn(2) == 0)
		for _, p := range pairs {
			p.look(t)
		}
	}
}

// R2: a nil run answers zero values and does nothing; one that New did not make does not panic.
func TestNilRun(t *testing.T) {
	var none *mission.Run
	var blank mission.Run
	for i := range 4 {
		none.Step(i%2 == 0)
		if none.Index() != 0 || none.Over() || none.Goal() != (api.Goal{}) {
			t.Error(none.Index(), none.Over(), none.Goal())
		}
		blank.Step(i%2 == 0)
		if blank.Index() != 0 || blank.Goal() != (api.Goal{}) {
			t.Error(blank.Index(), blank.Goal())
		}
		blank.Over()
	}
}
