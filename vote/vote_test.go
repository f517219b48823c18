package vote_test

import (
	"math"
	"math/big"
	"math/rand"
	"slices"
	"testing"

	"windhover/api"
	"windhover/vote"
)

// never is the age of a unit that has not spoken, or not for so long.
const never = 65535

// says is a unit that speaks.
func says(x int) api.Reading { return api.Reading{Ok: true, X: x} }

// mute is a unit that does not speak.
func mute() api.Reading { return api.Reading{} }

// silence is a tick in which no unit speaks.
func silence() [3]api.Reading { return [3]api.Reading{} }

// all are three units that speak.
func all(a, b, c int) [3]api.Reading { return [3]api.Reading{says(a), says(b), says(c)} }

// ends are numbers at the ends of an int, about 0, and between.
func ends() []int {
	return []int{
		math.MinInt, math.MinInt + 1, math.MinInt + 2, math.MinInt / 2, math.MinInt/2 - 1, -1 << 32, -10, -3, -2, -1,
		0, 1, 2, 3, 10, 1 << 32, math.MaxInt / 2, math.MaxInt/2 + 1, math.MaxInt - 2, math.MaxInt - 1, math.MaxInt,
	}
}

// orders are all orders of three units: which one stands in each place.
func orders() [][3]int {
	return [][3]int{{0, 1, 2}, {0, 2, 1}, {1, 0, 2}, {1, 2, 0}, {2, 0, 1}, {2, 1, 0}}
}

// shuffled are the units in another order.
func shuffled(units [3]api.Reading, order [3]int) [3]api.Reading {
	return [3]api.Reading{units[order[0]], units[order[1]], units[order[2]]}
}

// told is what a voter tells behind a Step.
type told struct {
	vote   api.Reading
	ages   [3]int
	splits int
}

// tell is a Step, and what the voter tells behind it.
func tell(v *vote.Voter, units [3]api.Reading) told {
	r := v.Step(units)
	return told{r, v.Ages(), v.Splits()}
}

// fresh is a voter that there must be.
func fresh(t *testing.T, stale, split int) *vote.Voter {
	t.Helper()
	v, e := vote.New(stale, split)
	if v == nil || e != api.OK {
		t.Fatalf("New(%d, %d): %v, %v", stale, split, v, e)
	}
	return v
}

// must holds what a voter tells against what it should.
func must(t *testing.T, name any, got, want told) {
	t.Helper()
	if got != want {
		t.Fatalf("%v: %+v, not %+v", name, got, want)
	}
}

// clerk reckons by the document's words, in numbers of any size, from the tick in which each unit spoke last.
type clerk struct {
	stale  int
	split  *big.Int
	now    int
	when   [3]int // 0: it has never spoken; ticks count from 1 on
	values [3]*big.Int
	splits int
}

func newClerk(stale, split int) *clerk {
	return &clerk{stale: stale, split: big.NewInt(int64(split))}
}

func (c *clerk) ages() [3]int {
	var list [3]int
	for i, tick := range c.when {
		if tick == 0 || c.now-tick > never {
			list[i] = never
		} else {
			list[i] = c.now - tick
		}
	}
	return list
}

// valid are the valid units' values, in the units' order.
func (c *clerk) valid() []*big.Int {
	var list []*big.Int
	for i, age := range c.ages() {
		if age <= c.stale {
			list = append(list, c.values[i])
		}
	}
	return list
}

// middleOf is the one of three values of which one of the others is at least as great, and the other at least as little.
func middleOf(list []*big.Int) *big.Int {
	for _, o := range orders() {
		least, mid, most := list[o[0]], list[o[1]], list[o[2]]
		if least.Cmp(mid) <= 0 && mid.Cmp(most) <= 0 {
			return mid
		}
	}
	return nil
}

// voteOf is the vote of valid values.
func voteOf(list []*big.Int) api.Reading {
	switch len(list) {
	case 0:
		return api.Reading{}
	case 1:
		return says(int(list[0].Int64()))
	case 2:
		sum := new(big.Int).Add(list[0], list[1])
		// Div by a number above 0 rounds towards below.
		return says(int(sum.Div(sum, big.NewInt(2)).Int64()))
	}
	return says(int(middleOf(list).Int64()))
}

// splitIn tells whether two of the values are more than split apart.
func (c *clerk) splitIn(list []*big.Int) bool {
	for i, a := range list {
		for _, b := range list[:i] {
			way := new(big.Int).Sub(a, b)
			if way.Abs(way).Cmp(c.split) > 0 {
				return true
			}
		}
	}
	return false
}

func (c *clerk) tell(units [3]api.Reading) told {
	c.now++
	for i, u := range units {
		if u.Ok {
			c.when[i], c.values[i] = c.now, big.NewInt(int64(u.X))
		}
	}
	list := c.valid()
	if c.splitIn(list) {
		c.splits++
	}
	return told{voteOf(list), c.ages(), min(c.splits, 65535)}
}

// follow holds a voter against the clerk over a script.
func follow(t *testing.T, stale, split int, script [][3]api.Reading) {
	t.Helper()
	v, c := fresh(t, stale, split), newClerk(stale, split)
	for i, units := range script {
		if got, want := tell(v, units), c.tell(units); got != want {
			t.Fatalf("New(%d, %d), tick %d of %v: %+v, not %+v", stale, split, i, script, got, want)
		}
	}
}

// someValue is a number at random: small, near an end, or any.
func someValue(r *rand.Rand) int {
	switch r.Intn(4) {
	case 0:
		return r.Intn(9) - 4
	case 1:
		return ends()[r.Intn(len(ends()))]
	case 2:
		return r.Intn(2000) - 1000
	}
	return int(r.Uint64())
}

// someUnits are three units at random; those that do not speak have an X all the same.
func someUnits(r *rand.Rand) [3]api.Reading {
	var units [3]api.Reading
	often := r.Intn(5)
	for i := range units {
		units[i] = api.Reading{Ok: r.Intn(4) < often, X: someValue(r)}
	}
	return units
}

// someScript is a script at random.
func someScript(r *rand.Rand) [][3]api.Reading {
	var script [][3]api.Reading
	for range 1 + r.Intn(30) {
		script = append(script, someUnits(r))
	}
	return script
}

// someVoter is what a voter may be made of, at random.
func someVoter(r *rand.Rand) (stale, split int) {
	stales := []int{0, 0, 1, 2, 3, 5, 65534}
	splits := []int{0, 1, 3, 10, 100, math.MaxInt / 2, math.MaxInt - 1, math.MaxInt}
	return stales[r.Intn(len(stales))], splits[r.Intn(len(splits))]
}

// P12.1 to P12.3: all rows of 'Examples'.
func TestExamples(t *testing.T) {
	v := fresh(t, 2, 10)
	no := mute()
	for i, row := range []struct {
		units [3]api.Reading
		want  told
	}{
		{[3]api.Reading{no, no, no}, told{mute(), [3]int{65535, 65535, 65535}, 0}},
		{[3]api.Reading{says(5), no, no}, told{says(5), [3]int{0, 65535, 65535}, 0}},
		{[3]api.Reading{says(6), says(9), no}, told{says(7), [3]int{0, 0, 65535}, 0}},
		{[3]api.Reading{no, says(-8), says(100)}, told{says(6), [3]int{1, 0, 0}, 1}},
		{[3]api.Reading{no, no, says(101)}, told{says(6), [3]int{2, 1, 0}, 2}},
		{[3]api.Reading{no, no, says(102)}, told{says(47), [3]int{3, 2, 0}, 3}},
		{[3]api.Reading{no, no, no}, told{says(102), [3]int{4, 3, 1}, 3}},
		{[3]api.Reading{no, no, no}, told{says(102), [3]int{5, 4, 2}, 3}},
		{[3]api.Reading{no, no, no}, told{mute(), [3]int{6, 5, 3}, 3}},
		{[3]api.Reading{says(-9223372036854775808), says(9223372036854775807), no}, told{says(-1), [3]int{0, 0, 4}, 4}},
	} {
		must(t, i, tell(v, row.units), row.want)
	}
	for _, x := range [][2]int{{-1, 0}, {65535, 0}, {0, -1}} {
		if v, e := vote.New(x[0], x[1]); v != nil || e != api.ErrArg {
			t.Errorf("New(%d, %d): %v, %v", x[0], x[1], v, e)
		}
	}
}

// P12.1: each edge of stale beside each edge of split, and so one reason to refuse, two, or none.
func TestNew(t *testing.T) {
	stales := map[int]bool{
		math.MinInt: false, math.MinInt + 1: false, -65535: false, -2: false, -1: false,
		0: true, 1: true, 2: true, 65533: true, 65534: true,
		65535: false, 65536: false, 1 << 32: false, math.MaxInt - 1: false, math.MaxInt: false,
	}
	splits := map[int]bool{
		math.MinInt: false, math.MinInt + 1: false, -65536: false, -2: false, -1: false,
		0: true, 1: true, 65535: true, 65536: true, 1 << 32: true, math.MaxInt - 1: true, math.MaxInt: true,
	}
	for stale, may := range stales {
		for split, mayToo := range splits {
			v, e := vote.New(stale, split)
			switch {
			case may && mayToo && (v == nil || e != api.OK):
				t.Errorf("New(%d, %d) is refused: %v", stale, split, e)
			case !(may && mayToo) && (v != nil || e != api.ErrArg):
				t.Errorf("New(%d, %d): %v, %v", stale, split, v, e)
			}
		}
	}
}

// P12.1, P12.3: ahead of the first Step no unit has spoken, and nothing was split, whatever the voter was made of.
func TestAheadOfTheFirstStep(t *testing.T) {
	for _, stale := range []int{0, 1, 2, 65533, 65534} {
		for _, split := range []int{0, 1, math.MaxInt} {
			v := fresh(t, stale, split)
			for range 2 { // asking is no tick
				if v.Ages() != [3]int{never, never, never} || v.Splits() != 0 {
					t.Errorf("New(%d, %d): %v, %d", stale, split, v.Ages(), v.Splits())
				}
			}
			must(t, stale, tell(v, silence()), told{mute(), [3]int{never, never, never}, 0})
		}
	}
}

// P12.2: units that have never spoken are never valid, however long nobody speaks.
func TestNeverSpoken(t *testing.T) {
	v := fresh(t, 65534, 0)
	for i := range 70000 {
		must(t, i, tell(v, silence()), told{mute(), [3]int{never, never, never}, 0})
	}
	for i := range 70000 {
		must(t, i, tell(v, [3]api.Reading{mute(), says(i), mute()}), told{says(i), [3]int{never, 0, never}, 0})
	}
}

// P12.2: none, one, two and three units that speak, in every place, written out.
func TestWhoSpeaks(t *testing.T) {
	no := mute()
	for i, row := range []struct {
		units [3]api.Reading
		want  told
	}{
		{[3]api.Reading{no, no, no}, told{no, [3]int{never, never, never}, 0}},
		{[3]api.Reading{says(4), no, no}, told{says(4), [3]int{0, never, never}, 0}},
		{[3]api.Reading{no, says(4), no}, told{says(4), [3]int{never, 0, never}, 0}},
		{[3]api.Reading{no, no, says(4)}, told{says(4), [3]int{never, never, 0}, 0}},
		{[3]api.Reading{says(4), says(10), no}, told{says(7), [3]int{0, 0, never}, 1}},
		{[3]api.Reading{says(4), no, says(10)}, told{says(7), [3]int{0, never, 0}, 1}},
		{[3]api.Reading{no, says(4), says(10)}, told{says(7), [3]int{never, 0, 0}, 1}},
		{all(4, 10, 5), told{says(5), [3]int{0, 0, 0}, 1}},
	} {
		must(t, i, tell(fresh(t, 0, 5), row.units), row.want)
	}
}

// P12.2, P12.3: all scripts of four ticks by which units speak in them, so that none, one, two and three are valid in every place, of every age.
func TestAllScripts(t *testing.T) {
	said := [4][3]int{{1, 20, -300}, {-7, 6, 40}, {9, 9, 1000}, {-1, -1, -1}}
	for stale := range 4 {
		for who := range 8 * 8 * 8 * 8 {
			var script [][3]api.Reading
			for tick, row := range said {
				var units [3]api.Reading
				for i, x := range row {
					// The X of one that does not speak is told too, so that a voter that looks at it is found out.
					units[i] = api.Reading{Ok: who>>(3*tick+i)&1 == 1, X: x}
				}
				script = append(script, units)
			}
			follow(t, stale, 16, script)
		}
	}
}

// P12.2: a unit is valid up to the age of stale, and no longer.
func TestStale(t *testing.T) {
	for _, stale := range []int{0, 1, 2, 3, 400, 65533, 65534} {
		for place := range 3 {
			v := fresh(t, stale, 0)
			units, ages := silence(), [3]int{never, never, never}
			units[place], ages[place] = says(-77), 0
			must(t, stale, tell(v, units), told{says(-77), ages, 0})
			for age := 1; age <= stale; age++ {
				ages[place] = age
				must(t, age, tell(v, silence()), told{says(-77), ages, 0})
			}
			ages[place] = stale + 1
			must(t, stale+1, tell(v, silence()), told{mute(), ages, 0})
		}
	}
}

// P12.2, P12.3: an age comes to 65535 and stays there; a unit that speaks again behind it is as good as ever.
func TestAgeStops(t *testing.T) {
	for _, stale := range []int{0, 65534} {
		for place := range 3 {
			v := fresh(t, stale, 0)
			units := silence()
			units[place] = says(12)
			v.Step(units)
			want := [3]int{never, never, never}
			for age := 1; age <= 131080; age++ {
				want[place] = min(age, 65535)
				vote := says(12)
				if age > stale {
					vote = mute()
				}
				must(t, age, tell(v, silence()), told{vote, want, 0})
			}
			units[place] = says(-13)
			want[place] = 0
			must(t, "again", tell(v, units), told{says(-13), want, 0})
			want[place] = 1
			vote := says(-13)
			if stale == 0 {
				vote = mute()
			}
			must(t, "behind it", tell(v, silence()), told{vote, want, 0})
		}
	}
}

// P12.2: a unit that speaks again is counted by what it says then, not by what it said.
func TestSpeaksAgain(t *testing.T) {
	v := fresh(t, 1, 5)
	must(t, 0, tell(v, all(1, 2, 3)), told{says(2), [3]int{0, 0, 0}, 0})
	must(t, 1, tell(v, [3]api.Reading{says(50), mute(), mute()}), told{says(3), [3]int{0, 1, 1}, 1})
	must(t, 2, tell(v, [3]api.Reading{mute(), mute(), mute()}), told{says(50), [3]int{1, 2, 2}, 1})
	must(t, 3, tell(v, [3]api.Reading{mute(), says(60), mute()}), told{says(60), [3]int{2, 0, 3}, 1})
	must(t, 4, tell(v, [3]api.Reading{says(61), mute(), says(62)}), told{says(61), [3]int{0, 1, 0}, 1})
}

// P12.2: the X of a unit that does not speak is not looked at, whatever it is: of one that has never spoken, of one that is valid still, and of one that is too old.
func TestMuteNumbers(t *testing.T) {
	for _, x := range ends() {
		loud := api.Reading{X: x}
		for place := range 3 {
			v := fresh(t, 1, 0)
			units, ages := silence(), [3]int{never, never, never}
			units[place] = loud
			must(t, x, tell(v, units), told{mute(), ages, 0})
			units[place], ages[place] = says(7), 0
			must(t, x, tell(v, units), told{says(7), ages, 0})
			units[place], ages[place] = loud, 1
			must(t, x, tell(v, units), told{says(7), ages, 0})
			ages[place] = 2
			must(t, x, tell(v, units), told{mute(), ages, 0})
			ages[place], ages[(place+1)%3] = 3, 0
			units[(place+1)%3] = says(8)
			must(t, x, tell(v, units), told{says(8), ages, 0})
		}
	}
}

// P12.2: of three the middle one, of which two or all may be alike, in every order.
func TestMiddle(t *testing.T) {
	for _, row := range []struct{ least, mid, most int }{
		{1, 2, 3}, {2, 2, 3}, {1, 2, 2}, {2, 2, 2}, {-3, -2, -1}, {-3, -3, 5}, {-3, 5, 5}, {-5, 0, 5}, {0, 0, 0}, {1, 2, 1000}, {-1000, 1, 2},
		{math.MinInt, 0, math.MaxInt}, {math.MinInt, math.MinInt, math.MaxInt}, {math.MinInt, math.MaxInt, math.MaxInt},
		{math.MinInt, math.MinInt, math.MinInt}, {math.MaxInt, math.MaxInt, math.MaxInt},
		{math.MinInt, math.MinInt + 1, math.MinInt + 2}, {math.MaxInt - 2, math.MaxInt - 1, math.MaxInt},
	} {
		units := all(row.least, row.mid, row.most)
		for _, o := range orders() {
			if r := fresh(t, 0, 0).Step(shuffled(units, o)); r != says(row.mid) {
				t.Errorf("%v in the order %v: %v", row, o, r)
			}
		}
	}
}

// P12.2, P12.3: all threes of numbers at the ends and about 0.
func TestAllThrees(t *testing.T) {
	for _, a := range ends() {
		for _, b := range ends() {
			for _, c := range ends() {
				follow(t, 0, math.MaxInt, [][3]api.Reading{all(a, b, c)})
			}
		}
	}
}

// P12.2: of two half the sum, rounded down, exactly: odd, below 0, and at the ends of an int.
func TestHalf(t *testing.T) {
	for _, row := range []struct{ a, b, want int }{
		{6, 9, 7}, {6, 8, 7}, {0, 0, 0}, {0, 1, 0}, {1, 1, 1}, {-1, 0, -1}, {-1, 1, 0}, {-2, 1, -1}, {-1, -1, -1}, {-1, -2, -2}, {-3, -2, -3}, {-4, -2, -3}, {-9, 2, -4}, {-8, 100, 46},
		{math.MinInt, math.MaxInt, -1}, {math.MinInt, math.MaxInt - 1, -1}, {math.MinInt + 1, math.MaxInt, 0}, {math.MinInt + 2, math.MaxInt, 0},
		{math.MaxInt, math.MaxInt, math.MaxInt}, {math.MaxInt, math.MaxInt - 1, math.MaxInt - 1}, {math.MaxInt, math.MaxInt - 2, math.MaxInt - 1},
		{math.MinInt, math.MinInt, math.MinInt}, {math.MinInt, math.MinInt + 1, math.MinInt}, {math.MinInt, math.MinInt + 2, math.MinInt + 1},
		{math.MaxInt, 0, math.MaxInt / 2}, {math.MaxInt, 1, math.MaxInt/2 + 1}, {math.MaxInt, -1, math.MaxInt / 2},
		{math.MinInt, 0, math.MinInt / 2}, {math.MinInt, 1, math.MinInt / 2}, {math.MinInt, -1, math.MinInt/2 - 1},
	} {
		for _, o := range orders() {
			units := shuffled([3]api.Reading{says(row.a), says(row.b), mute()}, o)
			if r := fresh(t, 0, 0).Step(units); r != says(row.want) {
				t.Errorf("%v in the order %v: %v", row, o, r)
			}
		}
	}
}

// P12.2, P12.3: all pairs of numbers at the ends and about 0, in every place, with splits of all sizes.
func TestAllPairs(t *testing.T) {
	for _, a := range ends() {
		for _, b := range ends() {
			for _, o := range orders() {
				units := shuffled([3]api.Reading{says(a), says(b), mute()}, o)
				for _, split := range ends() {
					if split >= 0 {
						follow(t, 0, split, [][3]api.Reading{units})
					}
				}
			}
		}
	}
}

// P12.3: two valid values that are just split apart, and one more, also where an int does not hold how far that is.
func TestJustSplit(t *testing.T) {
	for _, row := range []struct{ split, a, b, splits int }{
		{0, 5, 5, 0}, {0, 5, 6, 1}, {0, -1, 0, 1}, {1, -1, 0, 0}, {1, -1, 1, 1},
		{10, 0, 10, 0}, {10, 0, 11, 1}, {10, -5, 5, 0}, {10, -5, 6, 1}, {10, -20, -10, 0}, {10, -21, -10, 1},
		{10, math.MaxInt - 10, math.MaxInt, 0}, {10, math.MaxInt - 11, math.MaxInt, 1},
		{10, math.MinInt, math.MinInt + 10, 0}, {10, math.MinInt, math.MinInt + 11, 1},
		{0, math.MinInt, math.MinInt, 0}, {0, math.MaxInt, math.MaxInt, 0}, {0, math.MinInt, math.MaxInt, 1},
		{1, math.MinInt, math.MaxInt, 1}, {10, math.MinInt, math.MaxInt - 5, 1},
		{math.MaxInt, 0, math.MaxInt, 0}, {math.MaxInt, -1, math.MaxInt, 1}, {math.MaxInt, -1, math.MaxInt - 1, 0},
		{math.MaxInt, math.MinInt, -1, 0}, {math.MaxInt, math.MinInt, 0, 1}, {math.MaxInt, math.MinInt, math.MaxInt, 1},
		{math.MaxInt - 1, 0, math.MaxInt - 1, 0}, {math.MaxInt - 1, 0, math.MaxInt, 1},
		{math.MaxInt - 1, math.MinInt, -2, 0}, {math.MaxInt - 1, math.MinInt, -1, 1},
	} {
		for _, o := range orders() {
			for _, third := range []api.Reading{mute(), says(row.a), says(row.b)} {
				v := fresh(t, 0, row.split)
				v.Step(shuffled([3]api.Reading{says(row.a), says(row.b), third}, o))
				if v.Splits() != row.splits {
					t.Errorf("%v beside %v in the order %v: %d", row, third, o, v.Splits())
				}
			}
		}
	}
}

// P12.3: Steps are counted, not pairs; the two may be any two, and one in the middle that is near both does not mend it.
func TestSplitOfThree(t *testing.T) {
	for _, row := range []struct{ a, b, c, splits int }{
		{0, 5, 10, 0}, {0, 5, 11, 1}, {0, 100, 200, 1}, {0, 0, 11, 1}, {0, 11, 11, 1}, {7, 7, 7, 0}, {-6, -1, 5, 1}, {-5, 0, 5, 0},
		{math.MinInt, 0, math.MaxInt, 1},
	} {
		for _, o := range orders() {
			v := fresh(t, 0, 10)
			for n := 1; n <= 3; n++ {
				v.Step(shuffled(all(row.a, row.b, row.c), o))
				if v.Splits() != n*row.splits {
					t.Errorf("%v in the order %v: %d behind %d Steps", row, o, v.Splits(), n)
				}
			}
		}
	}
}

// P12.3: two valid units make a split also while one of them, or both, do not speak; a unit that is too old, or that has never spoken, makes none.
func TestSplitOfTheMute(t *testing.T) {
	for _, o := range orders() {
		v := fresh(t, 2, 10)
		for i, row := range []struct {
			units  [3]api.Reading
			splits int
		}{
			{[3]api.Reading{says(100), mute(), mute()}, 0},
			{[3]api.Reading{mute(), says(0), mute()}, 1},
			{[3]api.Reading{mute(), mute(), mute()}, 2},
			{[3]api.Reading{mute(), mute(), mute()}, 2},  // the first one is too old
			{[3]api.Reading{says(9), mute(), mute()}, 2}, // the second one is too old
			{[3]api.Reading{says(9), says(9), api.Reading{X: 1000}}, 2},
			{[3]api.Reading{mute(), mute(), says(20)}, 3},
			{[3]api.Reading{says(19), says(21), mute()}, 3},
		} {
			v.Step(shuffled(row.units, o))
			if v.Splits() != row.splits {
				t.Errorf("tick %d in the order %v: %d, not %d", i, o, v.Splits(), row.splits)
			}
		}
	}
}

// P12.3: Splits comes to 65535 and stays there, through splits and else.
func TestSplitsStop(t *testing.T) {
	v := fresh(t, 0, 0)
	for n := 1; n <= 131080; n++ {
		must(t, n, tell(v, all(1, 2, 3)), told{says(2), [3]int{0, 0, 0}, min(n, 65535)})
	}
	must(t, "alike", tell(v, all(4, 4, 4)), told{says(4), [3]int{0, 0, 0}, 65535})
	must(t, "silent", tell(v, silence()), told{mute(), [3]int{1, 1, 1}, 65535})
	must(t, "split", tell(v, all(5, 6, 7)), told{says(6), [3]int{0, 0, 0}, 65535})
}

// P12.3: Ages and Splits may be asked at any time, and however often; what they answered is nobody's but the asker's.
func TestAsking(t *testing.T) {
	asked, left := fresh(t, 1, 0), fresh(t, 1, 0)
	r := rand.New(rand.NewSource(12))
	for i := range 200 {
		units := someUnits(r)
		a, b := asked.Step(units), left.Step(units)
		for range 3 {
			ages := asked.Ages()
			ages[0], ages[1], ages[2] = -1, -1, -1
			asked.Splits()
		}
		if a != b || asked.Ages() != left.Ages() || asked.Splits() != left.Splits() {
			t.Fatalf("tick %d: %v, %v", i, a, b)
		}
	}
}

// P12.4: if two units speak, the vote lies between any two numbers between which they lie, whatever the third one says, or has said, in every place.
func TestOneBadUnit(t *testing.T) {
	for _, a := range ends() {
		for _, b := range ends() {
			for _, bad := range ends() {
				for _, late := range []bool{false, true} {
					for place := range 3 {
						v := fresh(t, 1, 0)
						units := silence()
						units[place] = says(bad)
						if late { // it speaks a tick ahead of the others alone, and is valid still
							v.Step(units)
							units[place] = api.Reading{X: bad}
						}
						units[(place+1)%3], units[(place+2)%3] = says(a), says(b)
						if got := v.Step(units); !got.Ok || got.X < min(a, b) || got.X > max(a, b) {
							t.Fatalf("%d and %d beside %d (late: %v): %v", a, b, bad, late, got)
						}
					}
				}
			}
		}
	}
}

// P12.4: so it is behind any script.
func TestOneBadUnitBehindAnything(t *testing.T) {
	r := rand.New(rand.NewSource(121))
	for range 20000 {
		stale, split := someVoter(r)
		v := fresh(t, stale, split)
		for _, units := range someScript(r) {
			v.Step(units)
		}
		units, place := someUnits(r), r.Intn(3)
		a, b := someValue(r), someValue(r)
		units[(place+1)%3], units[(place+2)%3] = says(a), says(b)
		if got := v.Step(units); !got.Ok || got.X < min(a, b) || got.X > max(a, b) {
			t.Fatalf("%v, the third one in place %d: %v", units, place, got)
		}
	}
}

// P12.4: it does not matter in which order the units stand.
func TestOrder(t *testing.T) {
	r := rand.New(rand.NewSource(122))
	for range 5000 {
		stale, split := someVoter(r)
		script := someScript(r)
		for _, o := range orders() {
			first, other := fresh(t, stale, split), fresh(t, stale, split)
			for i, units := range script {
				want, got := tell(first, units), tell(other, shuffled(units, o))
				want.ages = [3]int{want.ages[o[0]], want.ages[o[1]], want.ages[o[2]]}
				if got != want {
					t.Fatalf("tick %d of %v in the order %v: %+v, not %+v", i, script, o, got, want)
				}
			}
		}
	}
}

// P12.4: a vote is never below the least valid value, nor above the greatest one; there is one if a unit is valid, and else none.
func TestBetween(t *testing.T) {
	r := rand.New(rand.NewSource(123))
	for range 20000 {
		stale, split := someVoter(r)
		v := fresh(t, stale, split)
		var values [3]int
		for _, units := range someScript(r) {
			got := v.Step(units)
			var valid []int
			for i, age := range v.Ages() {
				if units[i].Ok {
					values[i] = units[i].X
				}
				if age <= stale {
					valid = append(valid, values[i])
				}
			}
			if len(valid) == 0 && got == mute() {
				continue
			}
			if len(valid) == 0 || !got.Ok || got.X < slices.Min(valid) || got.X > slices.Max(valid) {
				t.Fatalf("%v of %v", got, valid)
			}
		}
	}
}

// P12.1 to P12.3: any script, held against the document's words.
func TestAnyScript(t *testing.T) {
	r := rand.New(rand.NewSource(124))
	for range 20000 {
		stale, split := someVoter(r)
		follow(t, stale, split, someScript(r))
	}
}

// P12.2, P12.3: a script so long that ages and splits come to their ends while a great stale is just kept, and just not.
func TestLongScript(t *testing.T) {
	r := rand.New(rand.NewSource(125))
	v, c := fresh(t, 65534, 3), newClerk(65534, 3)
	for tick := range 400000 {
		units := silence()
		// Each unit speaks now and then; the third one is silent for stretches that just pass stale.
		if r.Intn(3) == 0 {
			units[0] = says(r.Intn(9))
		}
		if tick%40000 < 3 {
			units[1] = says(someValue(r))
		}
		if tick%65536 == 0 {
			units[2] = says(someValue(r))
		}
		must(t, tick, tell(v, units), c.tell(units))
	}
}

// R2: voters know nothing of each other.
func TestApart(t *testing.T) {
	r := rand.New(rand.NewSource(126))
	a, b := fresh(t, 1, 0), fresh(t, 3, 100)
	ca, cb := newClerk(1, 0), newClerk(3, 100)
	for i := range 5000 {
		if r.Intn(2) == 0 {
			units := someUnits(r)
			must(t, i, tell(a, units), ca.tell(units))
		} else {
			units := someUnits(r)
			must(t, i, tell(b, units), cb.tell(units))
		}
		if a.Ages() != ca.ages() || b.Ages() != cb.ages() {
			t.Fatalf("call %d: %v, %v", i, a.Ages(), b.Ages())
		}
	}
	if n := fresh(t, 1, 0); n.Ages() != [3]int{never, never, never} || n.Splits() != 0 {
		t.Errorf("a new one behind them: %v, %d", n.Ages(), n.Splits())
	}
}

// R2: the units that are handed in are not written into.
func TestUnitsHandedIn(t *testing.T) {
	units := [3]api.Reading{says(3), {X: 9}, says(-1)}
	was := units
	v := fresh(t, 1, 0)
	v.Step(units)
	v.Step(units)
	if units != was {
		t.Errorf("%v", units)
	}
}

// R2: a nil Voter answers zero values to each call, and does nothing.
func TestNil(t *testing.T) {
	var none *vote.Voter
	for _, x := range ends() {
		for who := range 8 {
			var units [3]api.Reading
			for i := range units {
				units[i] = api.Reading{Ok: who>>i&1 == 1, X: x}
			}
			must(t, who, tell(none, units), told{})
		}
	}
	if none.Ages() != [3]int{} || none.Splits() != 0 {
		t.Errorf("%v, %d", none.Ages(), none.Splits())
	}
}
