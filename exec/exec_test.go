package exec_test

import (
	"math"
	"math/big"
	"math/rand"
	"slices"
	"testing"

	"windhover/api"
	"windhover/exec"
)

const (
	most  = math.MaxInt
	least = math.MinInt
)

func job(period, phase, rank int) api.Job {
	return api.Job{Period: period, Phase: phase, Rank: rank}
}

// good are n jobs that a plan takes, of periods 1, 2, 3 .. and of ranks that go down.
func good(n int) []api.Job {
	var jobs []api.Job
	for i := range n {
		jobs = append(jobs, job(i+1, i/2, n-i))
	}
	return jobs
}

// clerk does a plan's calls by the document's words: it holds each tick against each job.
type clerk struct {
	jobs []api.Job
	tick int
}

// isDue tells whether a tick is a job's phase, or a whole number of its periods later.
func isDue(j api.Job, tick int) bool {
	later := new(big.Int).Sub(big.NewInt(int64(tick)), big.NewInt(int64(j.Phase)))
	rest := new(big.Int).Mod(later, big.NewInt(int64(j.Period)))
	return later.Sign() >= 0 && rest.Sign() == 0
}

func (c *clerk) due() []int {
	var ranks []int
	for _, j := range c.jobs {
		ranks = append(ranks, j.Rank)
	}
	slices.Sort(ranks)
	var due []int
	for _, rank := range slices.Compact(ranks) {
		for number, j := range c.jobs {
			if j.Rank == rank && isDue(j, c.tick) {
				due = append(due, number)
			}
		}
	}
	c.tick++
	return due
}

// pair is a plan and its clerk.
type pair struct {
	p *exec.Plan
	c clerk
}

func newPair(t *testing.T, jobs ...api.Job) *pair {
	t.Helper()
	p, e := exec.New(jobs...)
	if p == nil || e != api.OK {
		t.Fatal(jobs, e)
	}
	w := &pair{p: p, c: clerk{jobs: slices.Clone(jobs)}}
	w.look(t)
	return w
}

// look holds the plan's tick against the clerk's, twice, since asking changes nothing.
func (w *pair) look(t *testing.T) {
	t.Helper()
	for range 2 {
		if now := w.p.Now(); now != w.c.tick {
			t.Fatalf("now: %d; asked for: %d", now, w.c.tick)
		}
	}
}

// due holds what is due against the clerk's answer.
func (w *pair) due(t *testing.T) []int {
	t.Helper()
	tick := w.c.tick
	got, want := w.p.Due(), w.c.due()
	if !slices.Equal(got, want) {
		t.Fatalf("%v, tick %d: %v; asked for: %v", w.c.jobs, tick, got, want)
	}
	w.look(t)
	return got
}

func (w *pair) run(t *testing.T, ticks int) {
	t.Helper()
	for range ticks {
		w.due(t)
	}
}

// twin is the same pair once more, which goes its own way.
func (w *pair) twin() *pair {
	p := *w.p
	return &pair{p: &p, c: w.c}
}

// told asks tick by tick for answers written by hand.
func told(t *testing.T, p *exec.Plan, want ...[]int) {
	t.Helper()
	for _, due := range want {
		now := p.Now()
		if got := p.Due(); !slices.Equal(got, due) {
			t.Errorf("tick %d: %v; asked for: %v", now, got, due)
		}
		if p.Now() != now+1 {
			t.Errorf("tick %d: then %d", now, p.Now())
		}
	}
}

// refused asks that there is no plan, and why.
func refused(t *testing.T, jobs []api.Job, why api.Errno) {
	t.Helper()
	before := slices.Clone(jobs)
	if p, e := exec.New(jobs...); p != nil || e != why {
		t.Errorf("%d jobs: %v, %v; asked for: %v", len(jobs), p, e, why)
	}
	if !slices.Equal(jobs, before) {
		t.Errorf("%d jobs: written into", len(jobs))
	}
}

// anyJobs are jobs at random: mostly of small numbers, with some at an int's ends.
func anyJobs(r *rand.Rand) []api.Job {
	jobs := make([]api.Job, r.Intn(9))
	if r.Intn(8) == 0 {
		jobs = make([]api.Job, 55+r.Intn(10))
	}
	ranks := []int{least, least + 1, -2, -1, 0, 1, 2, most - 1, most}
	for i := range jobs {
		jobs[i] = job(1+r.Intn(12), r.Intn(15), ranks[r.Intn(len(ranks))])
		switch r.Intn(12) {
		case 0:
			jobs[i].Period = most - r.Intn(3)
		case 1:
			jobs[i].Phase = most - r.Intn(3)
		case 2:
			jobs[i].Phase = 0
		}
	}
	return jobs
}

// api: the errors have the document's numbers, and a job its three fields.
func TestNames(t *testing.T) {
	if api.OK != 0 || api.ErrArg != 1 || api.ErrMany != 4 {
		t.Error("errors")
	}
	if (api.Job{Period: 1, Phase: 2, Rank: 3}) != job(1, 2, 3) {
		t.Error("job")
	}
}

// P22.1: a plan has no job to 64 jobs; more are ErrMany.
func TestHowMany(t *testing.T) {
	for n := range 65 {
		w := newPair(t, good(n)...)
		w.run(t, 70)
	}
	for _, n := range []int{65, 66, 127, 128, 256, 257, 1 << 16, 1<<16 + 1} {
		refused(t, good(n), api.ErrMany)
	}
}

// P22.1: ErrMany goes ahead of ErrArg: of more than 64 jobs none is looked at.
func TestManyAheadOfWrong(t *testing.T) {
	for _, n := range []int{65, 66, 128} {
		refused(t, make([]api.Job, n), api.ErrMany)
		for _, i := range []int{0, n / 2, 63, 64, n - 1} {
			for _, bad := range wrongJobs() {
				jobs := good(n)
				jobs[i] = bad
				refused(t, jobs, api.ErrMany)
			}
		}
	}
}

// wrongJobs are jobs that no plan takes.
func wrongJobs() []api.Job {
	return []api.Job{
		{}, job(0, 1, 1), job(-1, 0, 0), job(-2, 3, 0), job(least, 0, 0), job(least+1, 0, 0), job(-most, most, most),
		job(1, -1, 0), job(2, -2, 0), job(1, least, 0), job(1, least+1, 0), job(most, -1, 0), job(most, least, most),
		job(0, -1, 0), job(least, least, least),
	}
}

// P22.1: a job of a period below 1, or of a phase below 0, is ErrArg, in whatever place it stands.
func TestWrongJob(t *testing.T) {
	for _, bad := range wrongJobs() {
		for _, n := range []int{1, 2, 3, 63, 64} {
			for _, i := range []int{0, n / 2, n - 1} {
				jobs := good(n)
				jobs[i] = bad
				refused(t, jobs, api.ErrArg)
			}
		}
		refused(t, []api.Job{bad, bad}, api.ErrArg)
		refused(t, []api.Job{bad, job(1, 0, 0), bad}, api.ErrArg)
	}
	refused(t, wrongJobs(), api.ErrArg)
	refused(t, make([]api.Job, 64), api.ErrArg)
}

// P22.1: every place of 64 is looked at, its period and its phase.
func TestWrongPlace(t *testing.T) {
	for i := range 64 {
		for _, bad := range []api.Job{job(0, 0, 0), job(1, -1, 0)} {
			jobs := good(64)
			jobs[i] = bad
			refused(t, jobs, api.ErrArg)
		}
	}
}

// P22.1: periods and phases, each against each, at their edges.
func TestEdges(t *testing.T) {
	periods := []int{least, least + 1, -2, -1, 0, 1, 2, 3, 1 << 32, most - 1, most}
	phases := []int{least, least + 1, -2, -1, 0, 1, 2, 3, 1 << 32, most - 1, most}
	for _, period := range periods {
		for _, phase := range phases {
			for _, rank := range []int{least, -1, 0, 1, most} {
				if period < 1 || phase < 0 {
					refused(t, []api.Job{job(period, phase, rank)}, api.ErrArg)
					continue
				}
				newPair(t, job(period, phase, rank)).run(t, 8)
			}
		}
	}
}

// P22.1: a rank is any int.
func TestRanks(t *testing.T) {
	for _, rank := range []int{least, least + 1, -1 << 32, -2, -1, 0, 1, 2, 1 << 32, most - 1, most} {
		w := newPair(t, job(2, 1, rank))
		told(t, w.p, nil, []int{0}, nil, []int{0})
	}
}

// P22.1: each plan is a new one, at tick 0, whatever was refused or made before.
func TestNewIsNew(t *testing.T) {
	a, _ := exec.New(job(1, 0, 0))
	told(t, a, []int{0}, []int{0})
	exec.New(job(0, 0, 0))
	b, _ := exec.New(job(1, 0, 0))
	if a == b || b.Now() != 0 || a.Now() != 2 {
		t.Fatal(a.Now(), b.Now())
	}
}
