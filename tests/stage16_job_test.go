package tests

import (
	"math"
	"slices"
	"testing"

	"loop.example/g00451/impl"
)

func job(r relay, left []impl.Move, moved []impl.Move, failed int) impl.Job {
	return impl.Job{At: r.at, Want: r.want, Left: left, Moved: moved, Failed: failed}
}

func cloneJob(j impl.Job) impl.Job {
	return job(relay{slices.Clone(j.At), slices.Clone(j.Want)}, slices.Clone(j.Left), slices.Clone(j.Moved), j.Failed)
}

func sameJob(a impl.Job, b impl.Job) bool {
	return slices.Equal(a.At, b.At) && slices.Equal(a.Want, b.Want) && slices.Equal(a.Left, b.Left) && slices.Equal(a.Moved, b.Moved) && a.Failed == b.Failed
}

func isNoJob(j impl.Job) bool {
	return sameJob(j, impl.Job{})
}

// plainlyLed answers nil where one of the moves can't be done.
func plainlyLed(at []int, l []impl.Move) []int {
	for _, m := range l {
		at = plainlyMoved(at, m)
	}
	return at
}

// plainStart answers nil where the moves can't be led back.
func plainStart(j impl.Job) []int {
	at := j.At
	for n := len(j.Moved) - 1; n >= 0; n-- {
		at = plainlyMoved(at, move(j.Moved[n].To, j.Moved[n].From))
	}
	return at
}

func plainlyJob(j impl.Job) bool {
	if !plainlySpots(j.At) || !plainlySpots(j.Want) || len(j.At) != len(j.Want) {
		return false
	}
	here, home := spotsByGood(j.At), spotsByGood(j.Want)
	for good := range here {
		if _, wanted := home[good]; !wanted {
			return false
		}
	}
	if len(here) != len(home) || len(j.Left) > 20 || len(j.Moved) > 60 || j.Failed < 0 || j.Failed > 60 {
		return false
	}
	return (len(j.Left) == 0 || slices.Equal(plainlyLed(j.At, j.Left), j.Want)) && plainStart(j) != nil
}

// plainDone needs a good job.
func plainDone(j impl.Job, order int) (impl.Job, bool) {
	next := cloneJob(j)
	switch {
	case order == 1 && len(j.Left) > 0 && len(j.Moved) < 60:
		next.At = plainlyMoved(j.At, j.Left[0])
		next.Left = next.Left[1:]
		next.Moved = append(next.Moved, j.Left[0])
	case order == 2 && len(j.Left) > 0 && j.Failed < 60:
		next.Left = nil
		next.Failed++
	case order == 3:
		next.Left, _ = plainPlan(relay{j.At, j.Want})
	case order == 4:
		next.Left = nil
	default:
		return impl.Job{}, false
	}
	return next, true
}

// plainPlay needs spots and wanted ones with the same goods.
func plainPlay(r relay, orders []int) (impl.Job, []bool) {
	plan, _ := plainPlan(r)
	j, did := job(r, plan, nil, 0), []bool{}
	for _, order := range orders {
		next, ok := plainDone(j, order)
		if ok {
			j = next
		}
		did = append(did, ok)
	}
	return j, did
}

var someOrders = append([]int{0, 1, 2, 3, 4, 5, 6, -2, -3, -4, 60, 61, 1<<32 + 1, 1<<32 + 3, 256 + 4}, endInts...)

// drawnLeft are moves that can be done, and where they lead: what is wanted then.
func drawnLeft(d *dice, at []int) ([]impl.Move, []int) {
	want := d.shuffled(at)
	plan, _ := plainPlan(relay{at, want})
	switch d.below(6) {
	case 0:
		return nil, want
	case 1:
		return nil, slices.Clone(at)
	case 2:
		return drawnMoves(d.below(1000), at, []int{1, 2, 3, 12, 19, 20}[d.below(6)])
	case 3:
		first, now := drawnMoves(d.below(1000), at, d.below(9))
		rest, _ := plainPlan(relay{now, want})
		return append(first, rest...), want
	}
	return plan, want
}

// drawnJob is good; some have a plan, some other moves that lead there, some none.
func drawnJob(i int) impl.Job {
	d := diceOf(i)
	places := 2 + d.below(8)
	goods := d.below(places)
	start := mixedRelay(d.below(1000), places, goods)
	failed := []int{0, 1, d.below(61), 58, 59, 60}[d.below(6)]
	if goods == 0 {
		return job(start, nil, nil, failed)
	}
	moved, at := drawnMoves(d.below(1000), start.at, []int{0, 1, 2, d.below(61), 19, 20, 21, 40, 41, 58, 59, 60}[d.below(12)])
	left, want := drawnLeft(d, at)
	return job(relay{at, want}, left, moved, failed)
}

// edgeJobs are good: of the fewest and the most places, with one free and with more, and with as much of each thing as may be.
func edgeJobs() []impl.Job {
	var all []impl.Job
	for _, r := range []relay{
		{[]int{0, 0}, []int{0, 0}}, {[]int{1, 0}, []int{1, 0}}, {[]int{20, 0}, []int{0, 20}}, {[]int{1, 2, 0}, []int{2, 1, 0}}, {[]int{1, 0, 0}, []int{0, 0, 1}},
		{countUp(9), countUp(9)}, {countUp(9), countDown(9)}, {make([]int, 9), make([]int, 9)}, {append(make([]int, 8), 20), append([]int{20}, make([]int, 8)...)}, {[]int{2, 1, 4, 3, 6, 5, 8, 7, 0}, []int{1, 2, 3, 4, 5, 6, 7, 8, 0}}, {[]int{2, 1, 4, 3, 0, 0, 0, 0, 0}, []int{1, 2, 3, 4, 0, 0, 0, 0, 0}},
	} {
		plan, _ := plainPlan(r)
		for _, failed := range []int{0, 1, 59, 60} {
			all = append(all, job(r, plan, nil, failed), job(r, nil, nil, failed))
		}
	}
	for _, many := range []int{1, 2, 19, 20, 21, 58, 59, 60} {
		// Led back from 1, 0: the last one led to place 0.
		moved := toAndFro([]int{1, 0}[(many+1)%2], []int{0, 1}[(many+1)%2], many)
		all = append(all, job(relay{[]int{1, 0}, []int{0, 1}}, moves(0, 1), moved, 0), job(relay{[]int{1, 0}, []int{1, 0}}, toAndFro(0, 1, 20), moved, 60), job(relay{[]int{1, 0}, []int{0, 1}}, toAndFro(0, 1, 19), moved, 59), job(relay{[]int{1, 0}, []int{1, 0}}, nil, moved, 0))
	}
	return all
}

func manyJobs() []impl.Job {
	all := edgeJobs()
	for i := range 3000 {
		all = append(all, drawnJob(i))
	}
	return all
}

// spoiltMoves have one move changed, left out or put in, or the last one ahead of all.
func spoiltMoves(d *dice, l []impl.Move, places int) [][]impl.Move {
	all := [][]impl.Move{append(slices.Clone(l), move(d.below(places), d.below(places)))}
	for range 4 {
		if len(l) == 0 {
			break
		}
		k := d.below(len(l))
		m := l[k]
		for _, other := range []impl.Move{move(m.To, m.From), move(m.From, m.From), move(-1, m.To), move(m.From, places), move(d.below(places), m.To), move(m.From, d.below(places)), move(math.MinInt, math.MaxInt)} {
			all = append(all, slices.Replace(slices.Clone(l), k, k+1, other))
		}
		all = append(all, slices.Delete(slices.Clone(l), k, k+1), slices.Insert(slices.Clone(l), k, m), slices.Insert(slices.Clone(l), k, move(m.To, m.From)))
	}
	return all
}

// spoiltJobs have one thing changed, so that most of them are not good.
func spoiltJobs(i int, j impl.Job) []impl.Job {
	d := diceOf(i)
	r := relay{j.At, j.Want}
	var all []impl.Job
	for _, left := range append(spoiltMoves(d, j.Left, len(j.At)), append(slices.Clone(j.Left), toAndFro(0, 1, 20)...), slices.Repeat(moves(0, 1), 21)) {
		all = append(all, job(r, left, j.Moved, j.Failed))
	}
	for _, moved := range append(spoiltMoves(d, j.Moved, len(j.At)), append(slices.Clone(j.Moved), toAndFro(0, 1, 60)...), slices.Repeat(moves(1, 0), 61)) {
		all = append(all, job(r, j.Left, moved, j.Failed))
	}
	for _, failed := range append([]int{61, -60, 100}, endInts...) {
		all = append(all, job(r, j.Left, j.Moved, failed))
	}
	for _, other := range [][]int{nil, j.At[1:], append([]int{0}, j.At...), append(slices.Clone(j.At), 0), d.shuffled(j.At), slices.Repeat([]int{1}, len(j.At)), slices.Replace(slices.Clone(j.At), 0, 1, 19)} {
		all = append(all, job(relay{other, j.Want}, j.Left, j.Moved, j.Failed), job(relay{j.At, other}, j.Left, j.Moved, j.Failed), job(relay{other, j.Want}, nil, nil, j.Failed), job(relay{j.At, other}, nil, j.Moved, j.Failed))
	}
	return all
}

// wrongJobs are such alone as are not good.
func wrongJobs() []impl.Job {
	all := []impl.Job{{}, job(relay{}, moves(0, 1), moves(0, 1), 1)}
	for _, at := range wrongSpots() {
		for _, want := range [][]int{at, {1, 0}, {0, 0}, {1, 2, 0}, countUp(9)} {
			all = append(all, job(relay{at, want}, nil, nil, 0), job(relay{want, at}, nil, nil, 0), job(relay{at, want}, moves(0, 1), moves(0, 1), 60))
		}
	}
	for i, j := range slices.Concat(edgeJobs(), manyJobs()[:800]) {
		all = append(all, slices.DeleteFunc(spoiltJobs(i, j), plainlyJob)...)
	}
	return all
}

func TestJobNumbers(t *testing.T) {
	if got, want := []int{impl.MaxOrders, impl.JbConfirm, impl.JbFail, impl.JbReplan, impl.JbAbort}, []int{60, 1, 2, 3, 4}; !slices.Equal(got, want) {
		t.Error(got)
	}
}

func TestNewJobOfManyRelays(t *testing.T) {
	for _, r := range manyRelays() {
		plan, _ := plainPlan(r)
		want := job(r, plan, nil, 0)
		got, ok := impl.NewJob(r.at, r.want)
		if !sameJob(got, want) || !ok {
			t.Fatalf("NewJob(%v, %v) = %v %v, not %v", r.at, r.want, got, ok, want)
		}
		if !impl.GoodJob(got) {
			t.Fatalf("GoodJob(%v) is false", got)
		}
	}
}

func TestGoodJobByHand(t *testing.T) {
	ring := relay{[]int{1, 2, 0}, []int{2, 1, 0}}
	there, fro := relay{[]int{1, 0}, []int{0, 1}}, relay{[]int{1, 0}, []int{1, 0}}
	full := relay{countUp(9), countUp(9)}
	for _, c := range []struct {
		j    impl.Job
		want bool
	}{
		{impl.Job{}, false}, {job(ring, nil, nil, 0), true}, {job(ring, []impl.Move{}, []impl.Move{}, 0), true}, {job(relay{[]int{0, 0}, []int{0, 0}}, nil, nil, 0), true}, {job(full, nil, nil, 0), true},
		// Left: the plan, another way there, a way round, one that leads elsewhere, and one that can't be done.
		{job(ring, moves(0, 2, 1, 0, 2, 1), nil, 0), true}, {job(ring, moves(1, 2, 0, 1, 2, 0), nil, 0), true}, {job(ring, moves(0, 2, 2, 0, 0, 2, 1, 0, 2, 1), nil, 0), true}, {job(ring, moves(0, 2, 1, 0), nil, 0), false}, {job(ring, moves(0, 2), nil, 0), false}, {job(ring, moves(0, 2, 2, 0), nil, 0), false}, {job(ring, moves(0, 1), nil, 0), false}, {job(ring, moves(0, 2, 1, 0, 2, 1, 0, 1), nil, 0), false}, {job(ring, moves(0, 2, 1, 0, 2, 1, 1, 2), nil, 0), false}, {job(ring, moves(2, 1, 1, 0, 0, 2), nil, 0), false}, {job(ring, moves(0, 2, 1, 0, 2, 3), nil, 0), false}, {job(ring, moves(0, 0), nil, 0), false}, {job(full, moves(8, 0, 0, 8), nil, 0), true}, {job(full, moves(8, 0), nil, 0), false}, {job(full, moves(0, 8, 8, 0), nil, 0), false}, {job(full, moves(8, 9, 9, 8), nil, 0), false}, {job(fro, moves(0, 0), nil, 0), false}, {job(relay{[]int{0, 0}, []int{0, 0}}, moves(0, 1), nil, 0), false},
		// As many as may be, and one more.
		{job(there, toAndFro(0, 1, 19), nil, 0), true}, {job(fro, toAndFro(0, 1, 20), nil, 0), true}, {job(there, toAndFro(0, 1, 21), nil, 0), false}, {job(fro, toAndFro(0, 1, 22), nil, 0), false}, {job(there, toAndFro(0, 1, 20), nil, 0), false}, {job(fro, toAndFro(0, 1, 19), nil, 0), false},
		// Moved: such as can be led back from At, and not; where the first one came from nobody asks.
		{job(ring, nil, moves(2, 0), 0), true}, {job(ring, nil, moves(2, 1, 1, 2, 2, 1), 0), true}, {job(ring, nil, moves(0, 2), 0), false}, {job(ring, nil, moves(0, 1), 0), false}, {job(ring, nil, moves(1, 0), 0), false}, {job(ring, nil, moves(2, 2), 0), false}, {job(ring, nil, moves(3, 0), 0), false}, {job(ring, nil, moves(-1, 0), 0), false}, {job(ring, nil, moves(2, 0, 2, 0), 0), false}, {job(ring, nil, moves(1, 2, 2, 0), 0), false}, {job(ring, nil, moves(0, 1, 2, 0), 0), true}, {job(ring, nil, moves(2, 1, 2, 0), 0), false}, {job(ring, nil, moves(2, 0, 2, 1), 0), false}, {job(full, nil, moves(0, 8), 0), true}, {job(full, nil, moves(8, 0), 0), false}, {job(full, nil, moves(9, 8), 0), false}, {job(relay{[]int{0, 0}, []int{0, 0}}, nil, moves(0, 1), 0), false},
		// Both are led through from At on: one of them alone is not enough.
		{job(ring, moves(0, 2, 1, 0, 2, 1), moves(2, 0), 0), true}, {job(ring, moves(0, 2, 1, 0, 2, 1), moves(0, 2), 0), false}, {job(ring, moves(0, 2, 1, 0), moves(2, 0), 0), false},
		{job(fro, nil, toAndFro(0, 1, 60), 0), true}, {job(there, moves(0, 1), toAndFro(1, 0, 59), 60), true}, {job(fro, nil, toAndFro(1, 0, 61), 0), false}, {job(fro, nil, toAndFro(0, 1, 62), 0), false}, {job(fro, nil, toAndFro(0, 1, 59), 0), false}, {job(fro, nil, toAndFro(1, 0, 60), 0), false}, {job(fro, nil, slices.Concat(toAndFro(0, 1, 38), moves(0, 0), toAndFro(1, 0, 21)), 0), false}, {job(fro, nil, slices.Concat(moves(1, 1), toAndFro(1, 0, 59)), 0), false}, {job(fro, nil, slices.Concat(moves(0, 1), toAndFro(0, 1, 58)), 0), false},
		{job(ring, nil, nil, 1), true}, {job(ring, nil, nil, 59), true}, {job(ring, nil, nil, 60), true}, {job(ring, nil, nil, 61), false}, {job(ring, nil, nil, -1), false}, {job(ring, nil, nil, math.MaxInt), false}, {job(ring, nil, nil, math.MinInt), false},
		// No spots, or other goods.
		{job(relay{[]int{1, 2, 0}, nil}, nil, nil, 0), false}, {job(relay{nil, []int{1, 2, 0}}, nil, nil, 0), false}, {job(relay{[]int{1, 2}, []int{2, 1}}, nil, nil, 0), false}, {job(relay{[]int{0}, []int{0}}, nil, nil, 0), false}, {job(relay{[]int{1, 1, 0}, []int{1, 1, 0}}, nil, nil, 0), false}, {job(relay{[]int{21, 0}, []int{21, 0}}, nil, nil, 0), false}, {job(relay{make([]int, 10), make([]int, 10)}, nil, nil, 0), false}, {job(relay{[]int{1, 2, 0}, []int{1, 3, 0}}, nil, nil, 0), false}, {job(relay{[]int{1, 2, 0}, []int{1, 0, 0}}, nil, nil, 0), false}, {job(relay{[]int{1, 0, 0}, []int{1, 2, 0}}, nil, nil, 0), false}, {job(relay{[]int{1, 0}, []int{1, 0, 0}}, nil, nil, 0), false}, {job(relay{[]int{1, 0, 0}, []int{1, 0}}, nil, nil, 0), false}, {job(relay{[]int{1, 2, 0}, []int{0, 3, 1}}, moves(0, 2), nil, 0), false},
	} {
		if impl.GoodJob(c.j) != c.want || plainlyJob(c.j) != c.want {
			t.Errorf("GoodJob(%v) is not %v", c.j, c.want)
		}
	}
}

func TestGoodJobOfManyJobs(t *testing.T) {
	moved, left, planned := map[int]int{}, map[int]int{}, map[bool]int{}
	for _, j := range manyJobs() {
		if !impl.GoodJob(j) || !plainlyJob(j) {
			t.Fatalf("GoodJob(%v) is %v", j, impl.GoodJob(j))
		}
		moved[len(j.Moved)]++
		left[len(j.Left)]++
		plan, _ := plainPlan(relay{j.At, j.Want})
		planned[slices.Equal(j.Left, plan)]++
	}
	if moved[0] == 0 || moved[59] == 0 || moved[60] == 0 || left[0] == 0 || left[1] == 0 || left[20] == 0 || len(left) < 19 || planned[true] < 100 || planned[false] < 100 {
		t.Errorf("so many were Moved: %v, and Left: %v, as planned: %v", moved, left, planned)
	}
}

func TestGoodJobOfSpoiltOnes(t *testing.T) {
	told := map[bool]int{}
	for i, j := range manyJobs()[:1500] {
		for _, other := range spoiltJobs(i, j) {
			want := plainlyJob(other)
			if got := impl.GoodJob(other); got != want {
				t.Fatalf("GoodJob(%v) is %v", other, got)
			}
			told[want]++
		}
	}
	if told[true] < 1000 || told[false] < 10000 {
		t.Errorf("of the spoilt jobs were good: %v", told)
	}
}

// everyMoves has all lists of so many moves between places 0 up to 2.
func everyMoves(most int) [][]impl.Move {
	all := [][]impl.Move{nil}
	for from := 0; len(all[from]) < most; from++ {
		for _, places := range everyList(countUp(3), 2) {
			if len(places) == 2 {
				all = append(all, append(slices.Clone(all[from]), move(places[0], places[1])))
			}
		}
	}
	return all
}

func TestGoodJobOfEachSmallJob(t *testing.T) {
	told := map[bool]int{}
	ask := func(j impl.Job) {
		want := plainlyJob(j)
		if got := impl.GoodJob(j); got != want {
			t.Fatalf("GoodJob(%v) is %v", j, got)
		}
		told[want]++
	}
	spots := [][]int{{1, 0}, {0, 1}, {0, 0}, {1, 1}, {1, 0, 0}, {0, 1, 0}, {0, 0, 1}, {1, 2, 0}, {2, 1, 0}, {1, 0, 2}, {0, 2, 1}, {3, 1, 0}}
	one, two, three := everyMoves(1), everyMoves(2), everyMoves(3)
	if len(one) != 1+9 || len(two) != 1+9+81 || len(three) != 1+9+81+729 {
		t.Fatal(len(one), len(two), len(three))
	}
	for _, at := range spots {
		for _, want := range spots {
			r := relay{at, want}
			for _, l := range three {
				ask(job(r, l, nil, 0))
				ask(job(r, nil, l, 60))
			}
			for _, l := range two {
				for _, other := range one {
					ask(job(r, l, other, 0))
					ask(job(r, other, l, 0))
				}
			}
		}
	}
	if told[true] < 1000 || told[false] < 100000 {
		t.Errorf("of the small jobs were good: %v", told)
	}
}

func TestNextMoveDistanceLeftAndStartOf(t *testing.T) {
	is := map[bool]int{}
	for _, j := range manyJobs() {
		next, isNext := impl.NextMove(j)
		if isNext != (len(j.Left) > 0) || isNext && next != j.Left[0] || !isNext && next != move(0, 0) {
			t.Fatalf("NextMove(%v) = %v %v", j, next, isNext)
		}
		is[isNext]++
		elsewhere, rings := plainRingsOf(relay{j.At, j.Want})
		needed, neededOk := impl.MovesNeeded(j.At, j.Want)
		if got, ok := impl.DistanceLeft(j); got != elsewhere+rings || got != needed || !ok || !neededOk {
			t.Fatalf("DistanceLeft(%v) = %v %v, not %v", j, got, ok, elsewhere+rings)
		}
		got, ok := impl.StartOf(j)
		if !slices.Equal(got, plainStart(j)) || !ok || !slices.Equal(plainlyLed(got, j.Moved), j.At) {
			t.Fatalf("StartOf(%v) = %v %v, not %v", j, got, ok, plainStart(j))
		}
	}
	if is[true] == 0 || is[false] == 0 {
		t.Errorf("so many had a next move: %v", is)
	}
}

func TestStartOfByHand(t *testing.T) {
	for _, c := range []struct {
		j     impl.Job
		start []int
	}{
		{job(relay{[]int{1, 2, 0}, []int{2, 1, 0}}, nil, nil, 0), []int{1, 2, 0}}, {job(relay{[]int{1, 2, 0}, []int{2, 1, 0}}, nil, moves(2, 0), 0), []int{0, 2, 1}}, {job(relay{[]int{2, 1, 0}, []int{2, 1, 0}}, nil, moves(0, 2, 1, 0, 2, 1), 0), []int{1, 2, 0}}, {job(relay{[]int{1, 0}, []int{1, 0}}, nil, toAndFro(0, 1, 60), 0), []int{1, 0}}, {job(relay{[]int{1, 0}, []int{1, 0}}, nil, toAndFro(1, 0, 59), 0), []int{0, 1}}, {job(relay{[]int{1, 0}, []int{0, 1}}, nil, toAndFro(1, 0, 21), 0), []int{0, 1}}, {job(relay{countUp(9), countUp(9)}, nil, moves(0, 8), 0), []int{8, 1, 2, 3, 4, 5, 6, 7, 0}}, {job(relay{make([]int, 9), make([]int, 9)}, nil, nil, 60), make([]int, 9)},
	} {
		if got, ok := impl.StartOf(c.j); !slices.Equal(got, c.start) || !ok {
			t.Errorf("StartOf(%v) = %v %v, not %v", c.j, got, ok, c.start)
		}
	}
}

// isDoneAs asks for a job that is told by hand, or for none.
func isDoneAs(t *testing.T, j impl.Job, order int, want impl.Job, wantOk bool) {
	if got, ok := impl.DoJob(j, order); !sameJob(got, want) || ok != wantOk {
		t.Errorf("DoJob(%v, %v) = %v %v, not %v %v", j, order, got, ok, want, wantOk)
	}
}

func isNotDone(t *testing.T, j impl.Job, order int) {
	isDoneAs(t, j, order, impl.Job{}, false)
}

func TestDoJobByHand(t *testing.T) {
	at, want := []int{1, 2, 0}, []int{2, 1, 0}
	plan := moves(0, 2, 1, 0, 2, 1)
	j := job(relay{at, want}, plan, nil, 0)
	first := job(relay{[]int{0, 2, 1}, want}, plan[1:], plan[:1], 0)
	isDoneAs(t, j, 1, first, true)
	isDoneAs(t, j, 2, job(relay{at, want}, nil, nil, 1), true)
	isDoneAs(t, j, 3, j, true)
	isDoneAs(t, j, 4, job(relay{at, want}, nil, nil, 0), true)
	isDoneAs(t, first, 1, job(relay{[]int{2, 0, 1}, want}, plan[2:], plan[:2], 0), true)
	isDoneAs(t, first, 3, first, true)
	isDoneAs(t, job(relay{[]int{2, 0, 1}, want}, plan[2:], plan[:2], 7), 1, job(relay{want, want}, nil, plan, 7), true)
	// What is left need not be the plan; a new one takes its place.
	longer := moves(1, 2, 0, 1, 2, 0)
	isDoneAs(t, job(relay{at, want}, longer, nil, 0), 1, job(relay{[]int{1, 0, 2}, want}, longer[1:], longer[:1], 0), true)
	isDoneAs(t, job(relay{at, want}, longer, nil, 3), 3, job(relay{at, want}, plan, nil, 3), true)
	isDoneAs(t, job(relay{want, want}, toAndFro(0, 2, 20), plan, 0), 3, job(relay{want, want}, nil, plan, 0), true)
	isDoneAs(t, job(relay{want, want}, toAndFro(0, 2, 20), plan, 0), 1, job(relay{[]int{0, 1, 2}, want}, toAndFro(2, 0, 19), append(slices.Clone(plan), move(0, 2)), 0), true)
}

func TestDoJobWhereNothingIsLeft(t *testing.T) {
	r := relay{[]int{1, 2, 0}, []int{2, 1, 0}}
	plan := moves(0, 2, 1, 0, 2, 1)
	failed, none := job(r, nil, nil, 1), job(r, nil, nil, 0)
	for _, order := range []int{1, 2} {
		isNotDone(t, failed, order)
		isNotDone(t, none, order)
	}
	isDoneAs(t, failed, 3, job(r, plan, nil, 1), true)
	isDoneAs(t, failed, 4, failed, true)
	isDoneAs(t, none, 3, job(r, plan, nil, 0), true)
	isDoneAs(t, none, 4, none, true)
	// All is as wanted.
	for _, at := range goodSpots() {
		j, ok := impl.NewJob(at, at)
		if !sameJob(j, job(relay{at, at}, nil, nil, 0)) || !ok {
			t.Errorf("NewJob(%v, %v) = %v %v", at, at, j, ok)
		}
		isNotDone(t, j, 1)
		isNotDone(t, j, 2)
		isDoneAs(t, j, 3, j, true)
		isDoneAs(t, j, 4, j, true)
	}
}

func TestDoJobAtItsBounds(t *testing.T) {
	for _, many := range []int{57, 58, 59, 60} {
		// From place 1 to 0 comes last, so that 1, 0 is what it leads to.
		moved := toAndFro(many%2, 1-many%2, many)
		r, next := relay{[]int{1, 0}, []int{0, 1}}, relay{[]int{0, 1}, []int{0, 1}}
		j := job(r, moves(0, 1), moved, many)
		if many < 60 {
			isDoneAs(t, j, 1, job(next, nil, append(slices.Clone(moved), move(0, 1)), many), true)
			isDoneAs(t, j, 2, job(r, nil, moved, many+1), true)
		} else {
			isNotDone(t, j, 1)
			isNotDone(t, j, 2)
		}
		// One of both bounds does not hinder the other order.
		isDoneAs(t, job(r, moves(0, 1), nil, many), 1, job(next, nil, moves(0, 1), many), true)
		isDoneAs(t, job(r, moves(0, 1), moved, 0), 2, job(r, nil, moved, 1), true)
		isDoneAs(t, j, 3, j, true)
		isDoneAs(t, j, 4, job(r, nil, moved, many), true)
	}
	over := job(relay{[]int{1, 0}, []int{0, 1}}, moves(0, 1), toAndFro(1, 0, 61), 0)
	for _, order := range someOrders {
		isNotDone(t, over, order)
	}
}

func TestDoJobOfManyJobs(t *testing.T) {
	type kind struct {
		order int
		ok    bool
	}
	told := map[kind]int{}
	for _, j := range manyJobs() {
		for _, order := range someOrders {
			want, wantOk := plainDone(j, order)
			got, ok := impl.DoJob(j, order)
			if !sameJob(got, want) || ok != wantOk {
				t.Fatalf("DoJob(%v, %v) = %v %v, not %v %v", j, order, got, ok, want, wantOk)
			}
			if impl.GoodJob(got) != ok {
				t.Fatalf("DoJob(%v, %v) = %v, which GoodJob tells %v of", j, order, got, !ok)
			}
			told[kind{order, ok}]++
		}
	}
	for order := -1; order <= 6; order++ {
		if (told[kind{order, true}] > 100) != (order >= 1 && order <= 4) || (told[kind{order, false}] > 100) != (order != 3 && order != 4) {
			t.Errorf("so often were orders done: %v", told)
		}
	}
}

// drawnOrders are mostly such as there are; some jobs are confirmed more often than they fail.
func drawnOrders(i int) []int {
	d := diceOf(i)
	orders := []int{}
	for range []int{d.below(61), d.below(12), 60}[d.below(3)] {
		orders = append(orders, [][]int{{1, 2, 3, 4}, {1, 1, 1, 1, 1, 1, 2, 3, 3, 4}, {1, 1, 1, 3}, {1, 2, 3, 4, 0, 5, -1, math.MinInt, math.MaxInt}}[i%4][d.below([]int{4, 10, 4, 9}[i%4])])
	}
	return orders
}

func drawnRelay(i int) relay {
	d := diceOf(i)
	if i%3 == 0 {
		return ringRelay(i, [][]int{{2}, {3}, {2, 2}, {2, 3}, {2, 2, 2}, {4, 4}, {2, 2, 2, 2}}[d.below(7)], 0, 0)
	}
	places := 2 + d.below(8)
	return mixedRelay(i, places, places-1-d.below(min(3, places)))
}

// isPlayedAs holds PlayJob against the document's words, and DoJob order by order, and answers the job.
func isPlayedAs(t *testing.T, r relay, orders []int) impl.Job {
	want, wantDid := plainPlay(r, orders)
	got, did, ok := impl.PlayJob(r.at, r.want, orders)
	if !sameJob(got, want) || !slices.Equal(did, wantDid) || !ok {
		t.Fatalf("PlayJob(%v, %v, %v) = %v %v %v, not %v %v", r.at, r.want, orders, got, did, ok, want, wantDid)
	}
	j, _ := impl.NewJob(r.at, r.want)
	for i, order := range orders {
		next, done := impl.DoJob(j, order)
		if done != did[i] || !done && !isNoJob(next) {
			t.Fatalf("DoJob(%v, %v) = %v %v, behind %v of %v", j, order, next, done, i, orders)
		}
		if done {
			j = next
		}
	}
	if !sameJob(j, got) {
		t.Fatalf("PlayJob(%v, %v, %v) = %v, DoJob leads to %v", r.at, r.want, orders, got, j)
	}
	return got
}

func TestPlayJobByHand(t *testing.T) {
	at, want := []int{1, 2, 0}, []int{2, 1, 0}
	plan := moves(0, 2, 1, 0, 2, 1)
	for _, c := range []struct {
		orders []int
		did    []bool
		j      impl.Job
	}{
		{nil, nil, job(relay{at, want}, plan, nil, 0)}, {[]int{}, nil, job(relay{at, want}, plan, nil, 0)}, {[]int{1}, []bool{true}, job(relay{[]int{0, 2, 1}, want}, plan[1:], plan[:1], 0)}, {[]int{1, 1, 1}, []bool{true, true, true}, job(relay{want, want}, nil, plan, 0)}, {[]int{1, 1, 1, 1, 2, 3, 4}, []bool{true, true, true, false, false, true, true}, job(relay{want, want}, nil, plan, 0)},
		{[]int{2, 1, 3}, []bool{true, false, true}, job(relay{at, want}, plan, nil, 1)}, {[]int{2, 2, 1, 3, 2}, []bool{true, false, false, true, true}, job(relay{at, want}, nil, nil, 2)}, {[]int{4, 4, 1, 2}, []bool{true, true, false, false}, job(relay{at, want}, nil, nil, 0)}, {[]int{1, 4, 4, 3, 1}, []bool{true, true, true, true, true}, job(relay{[]int{2, 0, 1}, want}, plan[2:], plan[:2], 0)}, {[]int{1, 2, 1, 3, 1, 1}, []bool{true, true, false, true, true, true}, job(relay{want, want}, nil, plan, 1)},
		{[]int{0, 5, -1, 1, math.MinInt, math.MaxInt}, []bool{false, false, false, true, false, false}, job(relay{[]int{0, 2, 1}, want}, plan[1:], plan[:1], 0)},
		{slices.Repeat([]int{3, 2}, 30), slices.Repeat([]bool{true}, 60), job(relay{at, want}, nil, nil, 30)}, {slices.Repeat([]int{1}, 60), append(slices.Repeat([]bool{true}, 3), make([]bool, 57)...), job(relay{want, want}, nil, plan, 0)}, {make([]int, 60), make([]bool, 60), job(relay{at, want}, plan, nil, 0)},
	} {
		got, did, ok := impl.PlayJob(at, want, c.orders)
		if !sameJob(got, c.j) || !slices.Equal(did, c.did) || !ok {
			t.Errorf("PlayJob(%v, %v, %v) = %v %v %v, not %v %v", at, want, c.orders, got, did, ok, c.j, c.did)
		}
		isPlayedAs(t, relay{at, want}, c.orders)
	}
}

func TestPlayJobOfEachFewOrders(t *testing.T) {
	for _, r := range []relay{{[]int{1, 2, 0}, []int{2, 1, 0}}, {[]int{1, 0}, []int{0, 1}}, {[]int{0, 0}, []int{0, 0}}, {countUp(9), countUp(9)}, {[]int{2, 1, 4, 3, 0, 0}, []int{1, 2, 3, 4, 0, 0}}, {countUp(9), countDown(9)}} {
		for _, orders := range everyList(countUp(6), 4) {
			isPlayedAs(t, r, orders)
		}
		for _, orders := range everyList([]int{1, 2, 3}, 6) {
			isPlayedAs(t, r, orders)
		}
	}
}

// comesFrom asks of a job that PlayJob made what promise 16 says of where goods stand.
func comesFrom(t *testing.T, j impl.Job, r relay) {
	if !impl.GoodJob(j) || !slices.Equal(plainlyLed(r.at, j.Moved), j.At) || !slices.Equal(j.Want, r.want) {
		t.Fatalf("of %v and %v came %v", r.at, r.want, j)
	}
	if start, ok := impl.StartOf(j); !slices.Equal(start, r.at) || !ok {
		t.Fatalf("StartOf(%v) = %v %v, not %v", j, start, ok, r.at)
	}
	now := r.at
	for _, m := range j.Moved {
		now, _ = impl.DoMove(now, m)
	}
	if !slices.Equal(now, j.At) {
		t.Fatalf("the moves of %v lead from %v to %v", j, r.at, now)
	}
	needed, _ := impl.MovesNeeded(j.At, j.Want)
	if far, ok := impl.DistanceLeft(j); far != needed || !ok {
		t.Fatalf("DistanceLeft(%v) = %v %v, not %v", j, far, ok, needed)
	}
	next, is := impl.NextMove(j)
	if is != (len(j.Left) > 0) || is && next != j.Left[0] {
		t.Fatalf("NextMove(%v) = %v %v", j, next, is)
	}
}

func TestPromise16GoodsStandWhereMovesBroughtThem(t *testing.T) {
	many, ends := map[int]int{}, map[string]int{}
	for i := range 4000 {
		r, orders := drawnRelay(i), drawnOrders(i)
		j := isPlayedAs(t, r, orders)
		comesFrom(t, j, r)
		many[len(orders)]++
		switch {
		case slices.Equal(j.At, r.want) && len(j.Moved) > 0:
			ends["as wanted"]++
		case len(j.Left) == 0:
			ends["none left"]++
		case len(j.Moved) > 0:
			ends["some left"]++
		}
		ends["failed"] += min(1, j.Failed)
	}
	if many[0] == 0 || many[60] == 0 || len(many) < 55 || ends["as wanted"] < 100 || ends["none left"] < 100 || ends["some left"] < 100 || ends["failed"] < 100 {
		t.Errorf("so many orders were drawn: %v; so jobs ended: %v", many, ends)
	}
	for i, r := range smallRelays() {
		comesFrom(t, isPlayedAs(t, r, drawnOrders(i)[:min(6, len(drawnOrders(i)))]), r)
	}
}

// isCarriedOut asks of a job behind a new plan what promise 16 says of its moves, and answers how many there were.
func isCarriedOut(t *testing.T, j impl.Job) int {
	for confirmed := 0; ; confirmed++ {
		far, ok := impl.DistanceLeft(j)
		if far != len(j.Left) || !ok {
			t.Fatalf("DistanceLeft(%v) = %v %v", j, far, ok)
		}
		next, done := impl.DoJob(j, impl.JbConfirm)
		if done != (far > 0) {
			t.Fatalf("DoJob(%v, JbConfirm) tells %v", j, done)
		}
		if !done {
			if !slices.Equal(j.At, j.Want) {
				t.Fatalf("no move is left in %v", j)
			}
			return confirmed
		}
		if nextFar, ok := impl.DistanceLeft(next); nextFar != far-1 || !ok || next.Moved[len(next.Moved)-1] != j.Left[0] || !slices.Equal(next.Left, j.Left[1:]) {
			t.Fatalf("DoJob(%v, JbConfirm) = %v, far off: %v", j, next, nextFar)
		}
		j = next
	}
}

func TestPromise16EachMoveConfirmedLeavesOneLess(t *testing.T) {
	carried := map[int]int{}
	for i := range 4000 {
		r, orders := drawnRelay(i), drawnOrders(i)
		orders = append(orders[:min(40, len(orders))], impl.JbReplan)
		j, did, ok := impl.PlayJob(r.at, r.want, orders)
		if !ok || !did[len(did)-1] {
			t.Fatal(r, orders, j, did)
		}
		many := isCarriedOut(t, j)
		carried[many]++
		far, _ := impl.DistanceLeft(j)
		// The same by PlayJob alone: as many more orders are done, and no further one is.
		for more := range many + 2 {
			now, did, ok := impl.PlayJob(r.at, r.want, append(slices.Clone(orders), slices.Repeat([]int{impl.JbConfirm}, more)...))
			left, leftOk := impl.DistanceLeft(now)
			if !ok || !leftOk || left != far-min(more, many) || left != len(now.Left) || did[len(did)-1] != (more <= many) {
				t.Fatalf("PlayJob(%v, %v, %v) and %v more confirmed: %v %v", r.at, r.want, orders, more, now, did)
			}
		}
	}
	for many := range 13 {
		// One good alone is elsewhere, or none: both are rarer the more places there are.
		if carried[many] < 5 {
			t.Errorf("so many moves were carried out: %v", carried)
		}
	}
	for _, r := range manyRelays() {
		j, _ := impl.NewJob(r.at, r.want)
		if needed, _ := impl.MovesNeeded(r.at, r.want); isCarriedOut(t, j) != needed {
			t.Fatalf("%v is not carried out in %v moves", j, needed)
		}
	}
}

func isRefusedJob(t *testing.T, j impl.Job) {
	if impl.GoodJob(j) {
		t.Errorf("GoodJob(%v) is true", j)
	}
	if m, ok := impl.NextMove(j); m != move(0, 0) || ok {
		t.Errorf("NextMove(%v) = %v %v", j, m, ok)
	}
	if far, ok := impl.DistanceLeft(j); far != 0 || ok {
		t.Errorf("DistanceLeft(%v) = %v %v", j, far, ok)
	}
	if start, ok := impl.StartOf(j); len(start) != 0 || ok {
		t.Errorf("StartOf(%v) = %v %v", j, start, ok)
	}
	for _, order := range someOrders {
		isNotDone(t, j, order)
	}
}

func TestPromise19NoWrongJobIsTaken(t *testing.T) {
	wrong := wrongJobs()
	if len(wrong) < 10000 {
		t.Errorf("%d wrong jobs", len(wrong))
	}
	for _, j := range wrong {
		isRefusedJob(t, j)
	}
	for i, j := range edgeJobs() {
		for _, l := range [][]impl.Move{slices.Repeat(moves(0, 1), 1000), toAndFro(0, 1, 1000), toAndFro(1, 0, 1001), slices.Repeat(moves(math.MinInt, math.MaxInt), i+1), slices.Repeat(moves(math.MaxInt, 0), i+1)} {
			isRefusedJob(t, job(relay{j.At, j.Want}, l, j.Moved, j.Failed))
			isRefusedJob(t, job(relay{j.At, j.Want}, j.Left, l, j.Failed))
			isRefusedJob(t, job(relay{j.At, j.Want}, l, l, j.Failed))
		}
		for _, at := range [][]int{make([]int, 1000), slices.Repeat(endInts, 100), endInts} {
			isRefusedJob(t, job(relay{at, j.Want}, j.Left, j.Moved, j.Failed))
			isRefusedJob(t, job(relay{j.At, at}, j.Left, j.Moved, j.Failed))
			isRefusedJob(t, job(relay{at, at}, nil, nil, 0))
		}
	}
}

func isRefusedPlay(t *testing.T, at []int, want []int, orders []int) {
	if j, did, ok := impl.PlayJob(at, want, orders); !isNoJob(j) || len(did) != 0 || ok {
		t.Errorf("PlayJob(%v, %v, %v) = %v %v %v", at, want, orders, j, did, ok)
	}
}

func isRefusedStart(t *testing.T, at []int, want []int) {
	if j, ok := impl.NewJob(at, want); !isNoJob(j) || ok {
		t.Errorf("NewJob(%v, %v) = %v %v", at, want, j, ok)
	}
	for _, orders := range [][]int{nil, {}, {1}, {3}, {0}, {4, 4, 3, 1}, make([]int, 60), make([]int, 61), endInts} {
		isRefusedPlay(t, at, want, orders)
	}
}

func TestPromise19NoJobIsMadeOfWrongSpots(t *testing.T) {
	for _, at := range wrongSpots() {
		isRefusedStart(t, at, at)
		isRefusedStart(t, at, nil)
		isRefusedStart(t, nil, at)
		for _, good := range [][]int{{0, 0}, {1, 0}, {0, 1, 2}, countUp(9), make([]int, max(2, min(9, len(at))))} {
			isRefusedStart(t, at, good)
			isRefusedStart(t, good, at)
		}
	}
	for i, at := range goodSpots() {
		want := diceOf(i).shuffled(at)
		for _, other := range [][]int{append(slices.Clone(want), 0), append([]int{0}, want...), want[1:], slices.Replace(slices.Clone(want), 0, 1, 18)} {
			isRefusedStart(t, at, other)
			isRefusedStart(t, other, at)
		}
	}
}

func TestPromise19NoMoreOrdersThanMayBe(t *testing.T) {
	for i := range 60 {
		r := drawnRelay(i)
		for _, many := range []int{58, 59, 60, 61, 62, 120, 1000} {
			for _, kinds := range [][]int{{1}, {2, 3}, {3}, {4}, {0}, endInts, {1, 3}} {
				orders := slices.Repeat(kinds, many)[:many]
				if many <= 60 {
					isPlayedAs(t, r, orders)
				} else {
					isRefusedPlay(t, r.at, r.want, orders)
				}
			}
		}
	}
}

// shareNoPlaces fills the lists of each job, up to their capacity, and asks whether others change by that.
func shareNoPlaces(t *testing.T, all ...impl.Job) {
	var spots [][]int
	var lists [][]impl.Move
	for _, j := range all {
		spots = append(spots, j.At, j.Want)
		lists = append(lists, j.Left, j.Moved)
	}
	shareNone(t, "chapter 16", spots...)
	shareNoneOf(t, "chapter 16", fillMove, lists...)
}

func TestPromise19JobsShareNothing(t *testing.T) {
	for _, plain := range manyJobs()[:600] {
		j := cloneJob(plain)
		answers := []impl.Job{j}
		for _, order := range []int{1, 2, 3, 4, 1, 2, 3, 4} {
			want, wantOk := plainDone(plain, order)
			got, ok := impl.DoJob(j, order)
			if !sameJob(got, want) || ok != wantOk {
				t.Fatalf("DoJob(%v, %v) = %v %v, not %v", plain, order, got, ok, want)
			}
			answers = append(answers, got)
		}
		start, _ := impl.StartOf(j)
		again, _ := impl.StartOf(j)
		answers = append(answers, impl.Job{At: start, Want: again})
		shareNoPlaces(t, answers...)
		for _, order := range []int{1, 2, 3, 4} {
			want, wantOk := plainDone(plain, order)
			isDoneAs(t, plain, order, want, wantOk)
		}
	}
}

func TestPromise19PlayedJobsShareNothing(t *testing.T) {
	for i := range 600 {
		plain, orders := drawnRelay(i), drawnOrders(i)
		r := relay{slices.Clone(plain.at), slices.Clone(plain.want)}
		if i%5 == 0 {
			// As wanted already: what is wanted and what stands there are the same list here.
			r.want = r.at
			plain.want = plain.at
		}
		answers := []impl.Job{{At: r.at}, {Want: orders}}
		if i%5 > 0 {
			answers = append(answers, impl.Job{At: r.want})
		}
		var told [][]bool
		for range 2 {
			j, ok := impl.NewJob(r.at, r.want)
			played, did, playedOk := impl.PlayJob(r.at, r.want, orders)
			if !ok || !playedOk {
				t.Fatal(r, orders)
			}
			answers = append(answers, j, played)
			told = append(told, did)
		}
		before := slices.Clone(orders)
		shareNoPlaces(t, answers...)
		for k := range told[0] {
			told[0][k] = !told[0][k]
			if told[0][k] == told[1][k] {
				t.Fatalf("what was done of %v is told twice in the same memory", before)
			}
		}
		isPlayedAs(t, plain, before)
	}
}

// cutJob lets two more stand behind each list's length.
func cutJob(j impl.Job, behind int, behindMove impl.Move) impl.Job {
	return job(relay{cutList(j.At, behind), cutList(j.Want, behind)}, cutMoves(j.Left, behindMove), cutMoves(j.Moved, behindMove), j.Failed)
}

func isJobAsBefore(t *testing.T, cut impl.Job, plain impl.Job, behind int, behindMove impl.Move) {
	isAsBefore(t, cut.At, plain.At, behind)
	isAsBefore(t, cut.Want, plain.Want, behind)
	areAsBefore(t, cut.Left, plain.Left, behindMove)
	areAsBefore(t, cut.Moved, plain.Moved, behindMove)
}

// hasBehind tells whether such a number or move lies behind the length of a job's list.
func hasBehind(j impl.Job, behind int, behindMove impl.Move) bool {
	for _, l := range [][]int{j.At, j.Want} {
		if slices.Contains(l[len(l):cap(l)], behind) {
			return true
		}
	}
	for _, l := range [][]impl.Move{j.Left, j.Moved} {
		if slices.Contains(l[len(l):cap(l)], behindMove) {
			return true
		}
	}
	return false
}

// jobHangsOn tells whether a function of a job answers otherwise for a cut than for a plain one, which is not handed out itself.
func jobHangsOn(plain impl.Job, cut impl.Job) bool {
	j := cloneJob(plain)
	next, nextOk := impl.NextMove(j)
	cutNext, cutNextOk := impl.NextMove(cut)
	far, farOk := impl.DistanceLeft(j)
	cutFar, cutFarOk := impl.DistanceLeft(cut)
	start, startOk := impl.StartOf(j)
	cutStart, cutStartOk := impl.StartOf(cut)
	for order := range 6 {
		done, doneOk := impl.DoJob(j, order)
		cutDone, cutDoneOk := impl.DoJob(cut, order)
		if !sameJob(done, cutDone) || doneOk != cutDoneOk {
			return true
		}
	}
	return impl.GoodJob(j) != impl.GoodJob(cut) || next != cutNext || nextOk != cutNextOk || far != cutFar || farOk != cutFarOk || !slices.Equal(start, cutStart) || startOk != cutStartOk
}

func TestPromise19NoJobIsWritten(t *testing.T) {
	jobs := manyJobs()[:1500]
	for i, j := range wrongJobs() {
		if i%20 == 0 {
			jobs = append(jobs, j)
		}
	}
	for _, j := range jobs {
		behinds := []impl.Move{move(0, 1), move(-1, 9), move(7, 7)}
		if len(j.Left) > 0 {
			behinds = append(behinds, move(j.Left[len(j.Left)-1].To, j.Left[len(j.Left)-1].From))
		}
		for k, behindMove := range behinds {
			behind := []int{21, 0, -1, 18}[k]
			cut := cutJob(j, behind, behindMove)
			if jobHangsOn(j, cut) {
				t.Errorf("what is told of %v hangs on what lies behind it", j)
			}
			if k != 1 && k != 0 {
				for order := range 6 {
					if done, _ := impl.DoJob(cut, order); hasBehind(done, behind, behindMove) {
						t.Errorf("DoJob(%v, %v) hands out what lies behind it", j, order)
					}
				}
			}
			isJobAsBefore(t, cut, j, behind, behindMove)
		}
	}
}

// playHangsOn tells whether a job is made otherwise of cut spots and orders than of plain ones, which are not handed out themselves.
func playHangsOn(r relay, orders []int, cut relay, cutOrders []int) bool {
	r = relay{slices.Clone(r.at), slices.Clone(r.want)}
	j, ok := impl.NewJob(r.at, r.want)
	cutJ, cutOk := impl.NewJob(cut.at, cut.want)
	played, did, playedOk := impl.PlayJob(r.at, r.want, slices.Clone(orders))
	cutPlayed, cutDid, cutPlayedOk := impl.PlayJob(cut.at, cut.want, cutOrders)
	return !sameJob(j, cutJ) || ok != cutOk || !sameJob(played, cutPlayed) || !slices.Equal(did, cutDid) || playedOk != cutPlayedOk
}

func TestPromise19NoSpotsOrOrdersAreWritten(t *testing.T) {
	var relays []relay
	for i := range 1500 {
		relays = append(relays, drawnRelay(i))
	}
	for i, at := range wrongSpots() {
		relays = append(relays, relay{at, at}, relay{at, diceOf(i).shuffled(at)}, relay{at, countUp(len(at))}, relay{countUp(len(at)), at})
	}
	for i, r := range relays {
		for _, orders := range [][]int{drawnOrders(i), {1}, nil, slices.Repeat([]int{1, 2, 3}, 20), make([]int, 61)} {
			for _, behind := range []int{-1, 0, 1, 21} {
				cut, cutOrders := relay{cutList(r.at, behind), cutList(r.want, behind)}, cutList(orders, behind)
				if playHangsOn(r, orders, cut, cutOrders) {
					t.Errorf("what is told of %v, %v and %v hangs on what lies behind them", r.at, r.want, orders)
				}
				isAsBefore(t, cut.at, r.at, behind)
				isAsBefore(t, cut.want, r.want, behind)
				isAsBefore(t, cutOrders, orders, behind)
			}
		}
	}
}
