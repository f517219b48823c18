package mission_test

import (
	"math/rand"
	"slices"
	"testing"

	"windhover/api"
	"windhover/mission"
)

// check holds Check against the document's, and against what is asked for.
func check(t *testing.T, items []api.MissionItem, want api.Errno) {
	t.Helper()
	if e := mission.Check(items); e != want || checked(items) != want {
		t.Errorf("Check(%v) = %d; asked for: %d (%d)", items, int(e), int(want), int(checked(items)))
	}
}

// P19.1: the rows of 'Examples'.
func TestCheckExamples(t *testing.T) {
	good := [4]int{waypoint, 5000, 0, 2000}
	check(t, list(good, good, good, [4]int{jump, 4, 1, 0}), api.ErrJump)
	check(t, list(good, good, good, [4]int{jump, 3, 1, 0}), api.OK)
	check(t, list([4]int{speed, 100, 0, 0}), api.ErrItem)
	check(t, list([4]int{land, 0, 0, 1}), api.ErrItem)
	check(t, list([4]int{takeoff, 2000, 0, 0}, good, [4]int{jump, 1, 2, 0}, [4]int{land, 0, 0, 0}), api.OK)
}

// P19.1: none, 64 and 65 items; too many are told ahead of whatever else is wrong.
func TestCheckMany(t *testing.T) {
	check(t, nil, api.OK)
	check(t, []api.MissionItem{}, api.OK)
	for _, row := range [][4]int{{land}, {takeoff, 5}, {waypoint, -1, -1, 1}, {loiter, 9}, {jump, 0, 1}, {speed, 1600}, {home}} {
		for _, n := range []int{1, 2, 63, 64} {
			check(t, times(n, row), api.OK)
		}
		for _, n := range []int{65, 66, 128, 255, 256, 257, 320, 1000, 65536 + 1} {
			check(t, times(n, row), api.ErrMany)
		}
	}
	for _, row := range [][4]int{{}, {8}, {jump, -1, 1, 0}, {jump, 65, 1, 0}, {jump, 0, 256, 0}, {takeoff, 0, 0, 0}} {
		check(t, times(65, row), api.ErrMany)
		check(t, append(list(row), times(64, [4]int{land})...), api.ErrMany)
		check(t, append(times(64, [4]int{land}), item(row)), api.ErrMany)
	}
}

// P19.1: each kind of the table; any other one may not be, whatever its numbers are.
func TestCheckKinds(t *testing.T) {
	for _, row := range [][4]int{{takeoff, 1, 0, 0}, {waypoint, 0, 0, 0}, {loiter, 0, 0, 0}, {jump, 0, 0, 0}, {speed, 1600, 0, 0}, {land, 0, 0, 0}, {home, 0, 0, 0}} {
		check(t, list(row), api.OK)
	}
	for kind := range 256 {
		if kind >= takeoff && kind <= home {
			continue
		}
		for _, row := range [][4]int{{kind, 0, 0, 0}, {kind, 1, 0, 0}, {kind, 1600, 0, 0}, {kind, -1, 1, 5}, {kind, least, most, 0}} {
			check(t, list(row), api.ErrItem)
			check(t, list([4]int{land}, row, [4]int{land}), api.ErrItem)
		}
	}
}

// numbersOf are what is asked of a number from lo to hi: its ends, one beyond them, and far away.
func numbersOf(lo, hi int) []int {
	return append(edges(), lo-1, lo, lo+1, (lo+hi)/2, hi-1, hi, hi+1, lo+1<<32, hi+1<<32, lo-1<<32, -hi, 600, 120000, 120001, 1000001, 64001, end+1)
}

// P19.1: each number of each kind, the others being what they may be; a jump's A is asked of in TestCheckJumps.
func TestCheckNumbers(t *testing.T) {
	for kind := takeoff; kind <= home; kind++ {
		may, _ := table(kind)
		for place, ends := range may {
			if kind == jump && place == 0 {
				continue
			}
			for _, x := range numbersOf(ends[0], ends[1]) {
				for _, other := range []int{0, 1} {
					row := [4]int{kind, may[0][other], may[1][other], may[2][other]}
					if kind == jump {
						row[1] = 1 // which is an item of the mission below
					}
					row[1+place] = x
					want := api.OK
					if x < ends[0] || x > ends[1] {
						want = api.ErrItem
					}
					check(t, list([4]int{land}, row), want)
					check(t, list(row, [4]int{land}), want)
				}
			}
		}
	}
}

// P19.1: the table's rows once more, by hand.
func TestCheckNumbersByHand(t *testing.T) {
	for _, c := range []struct {
		row [4]int
		may bool
	}{
		{[4]int{takeoff, 1, 0, 0}, true}, {[4]int{takeoff, 120000, 0, 0}, true}, {[4]int{takeoff, 0, 0, 0}, false}, {[4]int{takeoff, 120001, 0, 0}, false}, {[4]int{takeoff, 5, 1, 0}, false}, {[4]int{takeoff, 5, 0, -1}, false},
		{[4]int{waypoint, -536870912, 536870912, 0}, true}, {[4]int{waypoint, 536870912, -536870912, 120000}, true}, {[4]int{waypoint, -536870913, 0, 0}, false}, {[4]int{waypoint, 536870913, 0, 0}, false},
		{[4]int{waypoint, 0, -536870913, 0}, false}, {[4]int{waypoint, 0, 536870913, 0}, false}, {[4]int{waypoint, 0, 0, -1}, false}, {[4]int{waypoint, 0, 0, 120001}, false},
		{[4]int{loiter, 0, 0, 0}, true}, {[4]int{loiter, 1000000, 0, 0}, true}, {[4]int{loiter, -1, 0, 0}, false}, {[4]int{loiter, 1000001, 0, 0}, false}, {[4]int{loiter, 0, -1, 0}, false}, {[4]int{loiter, 0, 0, 1}, false},
		{[4]int{jump, 0, 0, 0}, true}, {[4]int{jump, 0, 255, 0}, true}, {[4]int{jump, 0, -1, 0}, false}, {[4]int{jump, 0, 256, 0}, false}, {[4]int{jump, 0, 1, 1}, false}, {[4]int{jump, 0, 1, -1}, false},
		{[4]int{speed, 1600, 0, 0}, true}, {[4]int{speed, 64000, 0, 0}, true}, {[4]int{speed, 1599, 0, 0}, false}, {[4]int{speed, 64001, 0, 0}, false}, {[4]int{speed, 1600, 1, 0}, false}, {[4]int{speed, 1600, 0, 1}, false},
		{[4]int{land, 0, 0, 0}, true}, {[4]int{land, 1, 0, 0}, false}, {[4]int{land, -1, 0, 0}, false}, {[4]int{land, 0, 1, 0}, false}, {[4]int{land, 0, -1, 0}, false}, {[4]int{land, 0, 0, -1}, false},
		{[4]int{home, 0, 0, 0}, true}, {[4]int{home, 1, 0, 0}, false}, {[4]int{home, -1, 0, 0}, false}, {[4]int{home, 0, 1, 0}, false}, {[4]int{home, 0, -1, 0}, false}, {[4]int{home, 0, 0, 1}, false}, {[4]int{home, 0, 0, -1}, false},
	} {
		want := api.ErrItem
		if c.may {
			want = api.OK
		}
		check(t, list(c.row), want)
	}
}

// P19.1: a jump to -1, to each item, itself among them, and to one behind the last; far away; from each place.
func TestCheckJumps(t *testing.T) {
	for _, n := range []int{1, 2, 3, 4, 63, 64} {
		for at := range n {
			items := times(n, [4]int{land})
			for to := -3; to <= n+3; to++ {
				items[at] = item([4]int{jump, to, 255, 0})
				want := api.OK
				if to < 0 || to >= n {
					want = api.ErrJump
				}
				check(t, items, want)
			}
			for _, to := range []int{least, least + 1, -1 << 32, -256, 256, 1 << 32, 1<<32 + n - 1, most - 1, most} {
				items[at] = item([4]int{jump, to, 0, 0})
				check(t, items, api.ErrJump)
			}
		}
	}
}

// P19.1: of a jump that is wrong in two ways, and of two items, the first is told.
func TestCheckOrder(t *testing.T) {
	for _, to := range []int{-1, 1, most, least} {
		check(t, list([4]int{jump, to, 0, 0}), api.ErrJump)
		check(t, list([4]int{jump, to, 256, 0}), api.ErrItem)
		check(t, list([4]int{jump, to, -1, 0}), api.ErrItem)
		check(t, list([4]int{jump, to, 0, 1}), api.ErrItem)
	}
	nowhere := [4]int{jump, 5, 1, 0}
	for _, bad := range [][4]int{{}, {8}, {255}, {takeoff, 0, 0, 0}, {waypoint, 0, 0, -1}, {loiter, -1, 0, 0}, {jump, 0, 256, 0}, {jump, 9, 0, 1}, {speed, 100, 0, 0}, {land, 0, 0, 1}, {home, 1, 0, 0}} {
		check(t, list(nowhere, bad), api.ErrJump)
		check(t, list(bad, nowhere), api.ErrItem)
		check(t, list([4]int{land}, nowhere, [4]int{land}, bad), api.ErrJump)
		check(t, list([4]int{land}, bad, [4]int{land}, nowhere), api.ErrItem)
		check(t, list(bad, nowhere, bad), api.ErrItem)
		check(t, list(nowhere, bad, nowhere), api.ErrJump)
	}
}

// P19.1: a sound item leads to nothing, a wrong one in any place is found.
func TestCheckEachPlace(t *testing.T) {
	for _, n := range []int{1, 2, 5, 64} {
		for at := range n {
			items := times(n, [4]int{speed, 1600, 0, 0})
			items[at].B = 1
			check(t, items, api.ErrItem)
			items[at] = item([4]int{jump, n, 0, 0})
			check(t, items, api.ErrJump)
		}
	}
}

// P19.1: missions of any numbers, and sound ones in which one number is another one.
func TestCheckAny(t *testing.T) {
	r := rand.New(rand.NewSource(191))
	for range 20000 {
		n := r.Intn(66)
		items := soundMission(r, n)
		check(t, items, checked(items))
		if n == 0 {
			continue
		}
		for range 1 + r.Intn(2) {
			m := &items[r.Intn(n)]
			switch r.Intn(4) {
			case 0:
				m.Kind = api.ItemKind(r.Intn(256))
			case 1:
				m.A = any64(r)
			case 2:
				m.B = any64(r)
			case 3:
				m.C = any64(r)
			}
		}
		check(t, items, checked(items))
	}
}

// R2: what lies behind a list's length is not read, and nothing is written.
func TestCheckLeavesItsList(t *testing.T) {
	r := rand.New(rand.NewSource(192))
	for range 2000 {
		items := soundMission(r, 1+r.Intn(40))
		items = append(items, times(30, [4]int{9, 9, 9, 9})...)
		before := slices.Clone(items)
		n := len(items) - 30
		check(t, items[:n], api.OK)
		if data, e := mission.Encode(items[:n]); e != api.OK || len(data) != 1+13*n {
			t.Fatal(len(data), int(e))
		}
		run, e := mission.New(5, items[:n]...)
		for range 100 {
			run.Step(true)
		}
		if e != api.OK || !slices.Equal(items, before) {
			t.Fatal(int(e))
		}
	}
}
