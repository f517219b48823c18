package mission_test

import (
	"math"
	"math/rand"
	"slices"

	"windhover/api"
)

const (
	most  = math.MaxInt
	least = math.MinInt
	end   = 536870912 // what a coordinate may be, either way
)

// The kinds, by the document's numbers.
const (
	takeoff = iota + 1
	waypoint
	loiter
	jump
	speed
	land
	home
)

// list is a mission of the kind, A, B and C of each item.
func list(rows ...[4]int) []api.MissionItem {
	var items []api.MissionItem
	for _, row := range rows {
		items = append(items, item(row))
	}
	return items
}

func item(row [4]int) api.MissionItem {
	return api.MissionItem{Kind: api.ItemKind(row[0]), A: row[1], B: row[2], C: row[3]}
}

// times is n times the same item.
func times(n int, row [4]int) []api.MissionItem {
	return slices.Repeat(list(row), n)
}

// table is the document's: what A, B and C of a kind may be, from and to; of a jump's A nothing is asked.
func table(kind int) ([3][2]int, bool) {
	none := [2]int{0, 0}
	switch kind {
	case takeoff:
		return [3][2]int{{1, 120000}, none, none}, true
	case waypoint:
		return [3][2]int{{-end, end}, {-end, end}, {0, 120000}}, true
	case loiter:
		return [3][2]int{{0, 1000000}, none, none}, true
	case jump:
		return [3][2]int{{least, most}, {0, 255}, none}, true
	case speed:
		return [3][2]int{{1600, 64000}, none, none}, true
	case land, home:
		return [3][2]int{none, none, none}, true
	}
	return [3][2]int{}, false
}

// checked is the document's Check.
func checked(items []api.MissionItem) api.Errno {
	if len(items) > 64 {
		return 4
	}
	for _, m := range items {
		may, ok := table(int(m.Kind))
		for i, x := range []int{m.A, m.B, m.C} {
			ok = ok && x >= may[i][0] && x <= may[i][1]
		}
		if !ok {
			return 191
		}
		if int(m.Kind) == jump && (m.A < 0 || m.A >= len(items)) {
			return 190
		}
	}
	return 0
}

// wrong is a mission and Check's error of it.
type wrong struct {
	items []api.MissionItem
	e     api.Errno
}

// wrongs are missions that Check refuses, with each of its errors.
func wrongs() []wrong {
	good, nowhere, bad := [4]int{waypoint, 1, -1, 1}, [4]int{jump, 2, 0, 0}, [4]int{speed, 1599, 0, 0}
	return []wrong{
		{times(65, good), api.ErrMany}, {times(65, bad), api.ErrMany}, {append(times(64, good), item(nowhere)), api.ErrMany}, {times(300, good), api.ErrMany},
		{list(bad), api.ErrItem}, {list(good, bad), api.ErrItem}, {list(bad, nowhere), api.ErrItem}, {append(times(63, good), item(bad)), api.ErrItem},
		{list([4]int{}), api.ErrItem}, {list([4]int{8}), api.ErrItem}, {list([4]int{255}), api.ErrItem}, {list([4]int{land, 0, 0, 1}), api.ErrItem}, {list([4]int{jump, -1, 256, 0}), api.ErrItem},
		{list(good, nowhere), api.ErrJump}, {list(nowhere, bad), api.ErrJump}, {list([4]int{jump, -1, 0, 0}), api.ErrJump}, {append(times(63, good), item([4]int{jump, 64, 0, 0})), api.ErrJump},
	}
}

// within is a number from lo to hi, often an end.
func within(r *rand.Rand, lo, hi int) int {
	switch r.Intn(6) {
	case 0:
		return lo
	case 1:
		return hi
	}
	return lo + r.Intn(hi-lo+1)
}

// soundItem is any item that may be in a mission of n.
func soundItem(r *rand.Rand, n int) api.MissionItem {
	kind := 1 + r.Intn(7)
	may, _ := table(kind)
	if kind == jump {
		may[0] = [2]int{0, n - 1}
	}
	return item([4]int{kind, within(r, may[0][0], may[0][1]), within(r, may[1][0], may[1][1]), within(r, may[2][0], may[2][1])})
}

// soundMission is any mission of n items that may be.
func soundMission(r *rand.Rand, n int) []api.MissionItem {
	var items []api.MissionItem
	for range n {
		items = append(items, soundItem(r, n))
	}
	return items
}

// any64 is a number of any size, near an end now and then.
func any64(r *rand.Rand) int {
	switch r.Intn(6) {
	case 0:
		return least + r.Intn(400)
	case 1:
		return most - r.Intn(400)
	}
	return int(r.Uint64()) >> r.Intn(64)
}

// edges are numbers at the ends of an int, of 32 bits, and about 0.
func edges() []int {
	return []int{least, least + 1, -1 << 32, -1<<32 + 1, -1 << 31, -1<<31 - 1, -2, -1, 0, 1, 2, 1<<31 - 1, 1 << 31, 1 << 32, 1<<32 + 1, most - 1, most}
}
