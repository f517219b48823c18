package exec_test

import (
	"math/rand"
	"slices"
	"testing"

	"windhover/api"
	"windhover/exec"
)

// P22.1 to P22.3: the chapter's 'Examples'.
func TestExamples(t *testing.T) {
	p, e := exec.New(job(2, 0, 5), job(3, 1, 0), job(2, 0, 5))
	if e != api.OK {
		t.Fatal(e)
	}
	told(t, p, []int{0, 2}, []int{1}, []int{0, 2}, nil, []int{1, 0, 2})
	if p.Now() != 5 {
		t.Error(p.Now())
	}
	p, e = exec.New()
	if e != api.OK {
		t.Fatal(e)
	}
	for range 100 {
		told(t, p, nil)
	}
	if p, e = exec.New(api.Job{Period: 0}); p != nil || e != api.ErrArg {
		t.Error(e)
	}
	p, e = exec.New(api.Job{Period: 9223372036854775807, Phase: 1})
	if e != api.OK {
		t.Fatal(e)
	}
	told(t, p, nil, []int{0})
	for range 1000 {
		told(t, p, nil)
	}
}

// P22.2: in a tick none, one, some and all jobs are due, by hand.
func TestDue(t *testing.T) {
	p, _ := exec.New(job(2, 0, 0), job(3, 0, 0), job(4, 2, 0))
	told(t, p, []int{0, 1}, nil, []int{0, 2}, []int{1}, []int{0}, nil, []int{0, 1, 2}, nil, []int{0}, []int{1}, []int{0, 2}, nil, []int{0, 1})
}

// P22.2: a job of period 1 is due in each tick from its phase on.
func TestEachTick(t *testing.T) {
	for phase := range 6 {
		p, _ := exec.New(job(1, phase, 0))
		for tick := range 40 {
			want := []int{0}
			if tick < phase {
				want = nil
			}
			told(t, p, want)
		}
	}
}

// P22.2: a phase above the period is waited for, however many periods go by.
func TestLatePhase(t *testing.T) {
	p, _ := exec.New(job(2, 7, 0), job(3, 3, 0), job(2, 2, 0))
	told(t, p, nil, nil, []int{2}, []int{1}, []int{2}, nil, []int{1, 2}, []int{0}, []int{2}, []int{0, 1}, []int{2}, []int{0}, []int{1, 2}, []int{0})
}

// P22.2: lesser ranks go first, in whatever order the jobs are handed in, and at an int's ends too.
func TestOrderOfRanks(t *testing.T) {
	p, _ := exec.New(job(1, 0, most), job(1, 0, least), job(1, 0, 0), job(1, 0, -1), job(1, 0, 1), job(1, 0, least+1), job(1, 0, most-1))
	for range 5 {
		told(t, p, []int{1, 5, 3, 2, 4, 6, 0})
	}
	p, _ = exec.New(job(1, 0, least), job(1, 0, most))
	told(t, p, []int{0, 1}, []int{0, 1})
	p, _ = exec.New(job(1, 0, most), job(1, 0, least))
	told(t, p, []int{1, 0}, []int{1, 0})
	p, _ = exec.New(job(1, 0, least), job(1, 0, 1))
	told(t, p, []int{0, 1}, []int{0, 1})
	p, _ = exec.New(job(1, 0, -2), job(1, 0, most))
	told(t, p, []int{0, 1}, []int{0, 1})
}

// P22.2: jobs of one rank go by their numbers, whatever their periods and phases are.
func TestOrderOfNumbers(t *testing.T) {
	for _, rank := range []int{least, -1, 0, 7, most} {
		p, _ := exec.New(job(4, 0, rank), job(1, 3, rank), job(2, 0, rank), job(3, 1, rank), job(1, 0, rank))
		told(t, p, []int{0, 2, 4}, []int{3, 4}, []int{2, 4}, []int{1, 4}, []int{0, 1, 2, 3, 4}, []int{1, 4})
	}
	p, _ := exec.New(slices.Repeat([]api.Job{job(1, 0, 0)}, 64)...)
	all := make([]int, 64)
	for i := range all {
		all[i] = i
	}
	for range 9 {
		told(t, p, all)
	}
}

// P22.2: neither the period nor the phase makes a job go ahead, nor when it was due last.
func TestOrderOfNothingElse(t *testing.T) {
	p, _ := exec.New(job(1, 6, 1), job(6, 0, 0), job(2, 0, 2), job(3, 0, 1))
	told(t, p, []int{1, 3, 2}, nil, []int{2}, []int{3}, []int{2}, nil, []int{1, 0, 3, 2}, []int{0}, []int{0, 2}, []int{0, 3})
}

// P22.2: all orders of five jobs, of which some are of one rank.
func TestAllOrders(t *testing.T) {
	jobs := []api.Job{job(1, 0, 3), job(2, 1, -3), job(2, 0, 3), job(3, 0, most), job(1, 2, least)}
	orders(jobs, func(l []api.Job) { newPair(t, l...).run(t, 14) })
}

// orders hands out every order of some jobs.
func orders(jobs []api.Job, each func([]api.Job)) {
	if len(jobs) < 2 {
		each(jobs)
		return
	}
	for i := range jobs {
		rest := slices.Delete(slices.Clone(jobs), i, i+1)
		orders(rest, func(l []api.Job) { each(append([]api.Job{jobs[i]}, l...)) })
	}
}

// P22.2: all plans of two jobs of small numbers.
func TestAllPairs(t *testing.T) {
	var jobs []api.Job
	for period := 1; period <= 5; period++ {
		for phase := range 7 {
			for rank := range 2 {
				jobs = append(jobs, job(period, phase, rank))
			}
		}
	}
	for _, a := range jobs {
		for _, b := range jobs {
			newPair(t, a, b).run(t, 24)
		}
	}
}

// P22.2: a moment that an int does not hold is none: the job is not due again, and the others go on.
func TestBeyondInt(t *testing.T) {
	for _, period := range []int{most, most - 1, most - 2, most - 5, most/2 + 1, 1 << 62, 1 << 40} {
		for _, phase := range []int{0, 1, 2, 3, 5, 6, 9} {
			w := newPair(t, job(period, phase, 0), job(3, 1, 0), job(period, phase, -1))
			w.run(t, 300)
		}
	}
	p, _ := exec.New(job(most, 0, 0))
	told(t, p, []int{0}, nil, nil)
	p, _ = exec.New(job(most, 2, 0), job(most, most, 0), job(1, most, 0))
	told(t, p, nil, nil, []int{0}, nil, nil)
	p, _ = exec.New(job(most, 0, 1), job(most, 1, 1), job(most, 1, 0))
	told(t, p, []int{0}, []int{2, 1}, nil, nil)
}

// P22.2: many ticks, with periods that divide each other and that do not.
func TestLongRun(t *testing.T) {
	newPair(t, job(1, 0, 9), job(2, 0, 8), job(4, 0, 7), job(8, 0, 6), job(16, 0, 5), job(1024, 1000, 4)).run(t, 5000)
	newPair(t, job(7, 6, 0), job(11, 3, -4), job(13, 20, 2), job(97, 96, 0), job(101, 0, -4)).run(t, 20000)
	newPair(t, good(64)...).run(t, 2000)
}

// P22.2: jobs at random.
func TestRandom(t *testing.T) {
	r := rand.New(rand.NewSource(22))
	for range 2000 {
		newPair(t, anyJobs(r)...).run(t, 40)
	}
}

// P22.3: a new plan is at tick 0, and one tick later behind each Due, whether anything is due or not; Now itself changes nothing.
func TestNow(t *testing.T) {
	for _, jobs := range [][]api.Job{nil, {job(1, 0, 0)}, {job(3, 2, 0)}, {job(5, 0, -1), job(2, 1, 4)}, {job(1, most, 0)}, good(64)} {
		p, e := exec.New(jobs...)
		if e != api.OK {
			t.Fatal(e)
		}
		for tick := range 300 {
			for range tick % 3 {
				p.Now()
			}
			if now := p.Now(); now != tick {
				t.Fatalf("%v: %d; asked for: %d", jobs, now, tick)
			}
			p.Due()
		}
	}
}
