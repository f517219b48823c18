package exec_test

import (
	"math/big"
	"math/rand"
	"slices"
	"testing"

	"windhover/api"
	"windhover/exec"
)

// diary is what a plan of some jobs tells in so many ticks.
func diary(t *testing.T, ticks int, jobs []api.Job) [][]int {
	t.Helper()
	p, e := exec.New(jobs...)
	if e != api.OK {
		t.Fatal(jobs, e)
	}
	var days [][]int
	for range ticks {
		days = append(days, p.Due())
	}
	return days
}

// moments are the ticks in which a job is due.
func moments(days [][]int, number int) []int {
	var ticks []int
	for tick, due := range days {
		for _, n := range due {
			if n == number {
				ticks = append(ticks, tick)
			}
		}
	}
	return ticks
}

// below is how many moments of a job are below n: 0 where n is not above its phase, else one more than the whole periods between its phase and n - 1.
func below(j api.Job, n int) int {
	room := big.NewInt(int64(n) - 1)
	room.Sub(room, big.NewInt(int64(j.Phase)))
	if room.Sign() < 0 {
		return 0
	}
	return int(room.Div(room, big.NewInt(int64(j.Period))).Int64()) + 1
}

// P22.4: in n ticks a job is due once for each of its moments below n, and no two are nearer than its period.
func TestOnceEach(t *testing.T) {
	r := rand.New(rand.NewSource(224))
	for range 400 {
		jobs := anyJobs(r)
		days := diary(t, 50, jobs)
		for n := range 51 {
			for number, j := range jobs {
				ticks := moments(days[:n], number)
				if len(ticks) != below(j, n) {
					t.Fatalf("%v in %d ticks: %v", j, n, ticks)
				}
				for i := 1; i < len(ticks); i++ {
					if ticks[i]-ticks[i-1] < j.Period {
						t.Fatalf("%v: %v", j, ticks)
					}
				}
			}
		}
	}
}

// P22.4: no number is told that is none of a job, and none twice in a tick.
func TestNumbers(t *testing.T) {
	r := rand.New(rand.NewSource(2240))
	for range 400 {
		jobs := anyJobs(r)
		for _, due := range diary(t, 30, jobs) {
			slices.Sort(due)
			if len(slices.Compact(slices.Clone(due))) != len(due) || len(due) > 0 && (due[0] < 0 || due[len(due)-1] >= len(jobs)) {
				t.Fatal(jobs, due)
			}
		}
	}
}

// P22.4: of jobs of unlike ranks the order in which they are handed in counts for nothing: what is told of them is the same but for their numbers.
func TestOrderOfUnlikeRanks(t *testing.T) {
	r := rand.New(rand.NewSource(2241))
	for range 300 {
		jobs := anyJobs(r)
		for i, rank := range r.Perm(len(jobs)) {
			jobs[i].Rank = rank - 5
		}
		days := diary(t, 30, jobs)
		perm := r.Perm(len(jobs))
		other := make([]api.Job, len(jobs))
		for old, number := range perm {
			other[number] = jobs[old]
		}
		for tick, due := range diary(t, 30, other) {
			for i, old := range days[tick] {
				if len(due) != len(days[tick]) || due[i] != perm[old] {
					t.Fatal(jobs, perm, tick, days[tick], due)
				}
			}
		}
	}
}

// P22.4: among jobs of some ranks, it counts only which of one rank is handed in first.
func TestOrderOfLikeRanks(t *testing.T) {
	a, b, c := job(1, 0, 1), job(1, 0, 1), job(1, 0, 0)
	for _, k := range []struct {
		jobs []api.Job
		due  []int
	}{
		{[]api.Job{a, b, c}, []int{2, 0, 1}},
		{[]api.Job{a, c, b}, []int{1, 0, 2}},
		{[]api.Job{c, a, b}, []int{0, 1, 2}},
	} {
		p, _ := exec.New(k.jobs...)
		told(t, p, k.due, k.due, k.due)
	}
}

// P22.4: a plan of some of the jobs tells just what the plan of all tells of them.
func TestSome(t *testing.T) {
	r := rand.New(rand.NewSource(2242))
	for range 500 {
		jobs := anyJobs(r)
		days := diary(t, 30, jobs)
		var some []api.Job
		var old []int
		for number, j := range jobs {
			if r.Intn(2) == 0 {
				some, old = append(some, j), append(old, number)
			}
		}
		for tick, due := range diary(t, 30, some) {
			var got []int
			for _, n := range due {
				got = append(got, old[n])
			}
			want := slices.DeleteFunc(days[tick], func(n int) bool { return !slices.Contains(old, n) })
			if !slices.Equal(got, want) {
				t.Fatal(jobs, old, tick, got, want)
			}
		}
	}
}

// R2: a nil plan is none.
func TestNilPlan(t *testing.T) {
	var none *exec.Plan
	for range 3 {
		if due := none.Due(); len(due) != 0 || none.Now() != 0 {
			t.Error(due, none.Now())
		}
	}
}

// R1: a plan that New did not make has no jobs, and panics at nothing.
func TestUnmade(t *testing.T) {
	var p exec.Plan
	for range 3 {
		told(t, &p, nil)
	}
}

// R2: jobs that are handed in are not written into, nor what lies behind them, and are not kept.
func TestHandedIn(t *testing.T) {
	room := append(good(40), job(-7, -7, -7), job(-8, -8, -8))
	before := slices.Clone(room)
	jobs := room[:40]
	w := newPair(t, jobs...)
	w.run(t, 30)
	if !slices.Equal(room, before) {
		t.Error("written into")
	}
	for i := range room {
		room[i] = job(1, 0, i)
	}
	w.run(t, 60)
}

// R2: what is handed out is new memory, its spare room too.
func TestHandedOut(t *testing.T) {
	w := newPair(t, job(1, 0, 3), job(2, 0, 2), job(1, 0, 1), job(3, 2, 1), job(1, 4, 0))
	var lists, copies [][]int
	for range 30 {
		due := w.due(t)
		lists, copies = append(lists, due), append(copies, slices.Clone(due))
		for i, list := range lists {
			if !slices.Equal(list, copies[i]) {
				t.Fatal(i, list, copies[i])
			}
		}
	}
	for i, list := range lists {
		all := list[:cap(list)]
		for k := range all {
			all[k] = -99
		}
		for k := i + 1; k < len(lists); k++ {
			if !slices.Equal(lists[k], copies[k]) {
				t.Fatal(i, k, lists[k])
			}
		}
	}
	w.run(t, 30)
}

// R2: what is written into an answer on the spot changes no later one.
func TestWrittenOn(t *testing.T) {
	w := newPair(t, good(20)...)
	for range 60 {
		due := w.due(t)
		for i := range due {
			due[i] = -1
		}
		_ = append(due, 5, 6, 7)
	}
}

// R2: two plans know nothing of each other, though they are made of one list.
func TestApart(t *testing.T) {
	r := rand.New(rand.NewSource(2243))
	for range 200 {
		jobs := anyJobs(r)
		a, b := newPair(t, jobs...), newPair(t, jobs...)
		c := newPair(t, anyJobs(r)...)
		for range 120 {
			[]*pair{a, b, c}[r.Intn(3)].due(t)
		}
	}
}

// R2: a plan that is copied goes its own way, and so do copies of it.
func TestCopied(t *testing.T) {
	r := rand.New(rand.NewSource(2244))
	for range 200 {
		all := []*pair{newPair(t, anyJobs(r)...)}
		for range 150 {
			w := all[r.Intn(len(all))]
			w.due(t)
			if len(all) < 6 && r.Intn(4) == 0 {
				all = append(all, w.twin())
			}
		}
	}
}

// R2: the same calls are answered alike.
func TestAlike(t *testing.T) {
	r := rand.New(rand.NewSource(2245))
	for range 100 {
		jobs := anyJobs(r)
		a, b := diary(t, 40, jobs), diary(t, 40, jobs)
		if !slices.EqualFunc(a, b, slices.Equal[[]int]) {
			t.Fatal(jobs)
		}
	}
}
