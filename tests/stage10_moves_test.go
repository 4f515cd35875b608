package tests

import (
	"math"
	"slices"
	"testing"

	"loop.example/g00451/impl"
)

func move(from int, to int) impl.Move {
	return impl.Move{From: from, To: to}
}

// moves reads pairs: where each one is from, and where it goes.
func moves(places ...int) []impl.Move {
	l := []impl.Move{}
	for pair := range slices.Chunk(places, 2) {
		l = append(l, move(pair[0], pair[1]))
	}
	return l
}

// toAndFro are so many moves between two places.
func toAndFro(a int, b int, many int) []impl.Move {
	l := []impl.Move{}
	for i := range many {
		l = append(l, []impl.Move{move(a, b), move(b, a)}[i%2])
	}
	return l
}

// A relay is what stands at each place, and what is wanted there.
type relay struct {
	at   []int
	want []int
}

// everySpots has all spots of so many places with just these goods.
func everySpots(places int, goods []int) [][]int {
	all := [][]int{make([]int, places)}
	for _, good := range goods {
		var next [][]int
		for _, at := range all {
			for place, n := range at {
				if n == 0 {
					with := slices.Clone(at)
					with[place] = good
					next = append(next, with)
				}
			}
		}
		all = next
	}
	return all
}

// someGoods are in no plain order, the least and the greatest number among them.
func someGoods(many int) []int {
	return []int{20, 1, 7, 13, 2, 19, 5, 11, 8}[:many]
}

// smallRelays are all of up to 5 places.
func smallRelays() []relay {
	var all []relay
	for places := 2; places <= 5; places++ {
		for many := range places {
			spots := everySpots(places, someGoods(many))
			for _, at := range spots {
				for _, want := range spots {
					all = append(all, relay{at, want})
				}
			}
		}
	}
	return all
}

// A dice makes numbers in no plain order, the same ones each time.
type dice uint32

func (d *dice) below(n int) int {
	*d = *d*1664525 + 1013904223
	return int(uint32(*d)>>16) % n
}

func diceOf(i int) *dice {
	d := dice(i*2654435761 + 4242)
	return &d
}

func (d *dice) shuffled(l []int) []int {
	mixed := slices.Clone(l)
	for i := range mixed {
		j := d.below(i + 1)
		mixed[i], mixed[j] = mixed[j], mixed[i]
	}
	return mixed
}

func mixedRelay(i int, places int, goods int) relay {
	d := diceOf(i)
	at := append(someGoods(goods), make([]int, places-goods)...)
	at = d.shuffled(at)
	return relay{at, d.shuffled(at)}
}

// ringRelay has rings of these sizes at places in no plain order, then standing goods, then goods that go one behind the other to the free place, which is the only one.
func ringRelay(i int, sizes []int, standing int, going int) relay {
	d := diceOf(i)
	many := standing + going + 1
	for _, size := range sizes {
		many += size
	}
	places, goods := d.shuffled(countUp(many)), d.shuffled(someGoods(many-1))
	r := relay{make([]int, many), make([]int, many)}
	for place, good := range goods {
		r.at[places[place]] = good
		r.want[places[place]] = good
	}
	from := 0
	for _, size := range sizes {
		for n := range size {
			r.want[places[from+n]] = goods[from+(n+1)%size]
		}
		from += size
	}
	from += standing
	if going > 0 {
		r.want[places[from]] = 0
		for n := range going {
			r.want[places[from+n+1]] = goods[from+n]
		}
	}
	return r
}

// greatRelays are up to 9 places, with one free place and more, and with up to 4 rings.
func greatRelays() []relay {
	var all []relay
	for i := range 4000 {
		places := 6 + i%4
		all = append(all, mixedRelay(i, places, i/4%places))
	}
	for i := range 20 {
		for _, sizes := range [][]int{{2}, {3}, {4}, {5}, {6}, {7}, {8}, {2, 2}, {2, 3}, {3, 3}, {2, 4}, {2, 5}, {3, 4}, {2, 6}, {3, 5}, {4, 4}, {2, 2, 2}, {2, 2, 3}, {2, 2, 4}, {2, 3, 3}, {2, 2, 2, 2}} {
			left := 8 - plainTotal(sizes)
			for going := range left + 1 {
				all = append(all, ringRelay(i, sizes, left-going, going), ringRelay(i, sizes, 0, going))
			}
		}
	}
	return all
}

func manyRelays() []relay {
	return append(smallRelays(), greatRelays()...)
}

// spotsByGood has for each good its place.
func spotsByGood(at []int) map[int]int {
	by := map[int]int{}
	for place, good := range at {
		if good != 0 {
			by[good] = place
		}
	}
	return by
}

func plainlySpots(at []int) bool {
	seen := map[int]int{}
	for _, n := range at {
		seen[n]++
	}
	for n, times := range seen {
		if n < 0 || n > 20 || n > 0 && times > 1 {
			return false
		}
	}
	return seen[0] >= 1 && len(at) >= 2 && len(at) <= 9
}

// plainlyMoved answers nil where the move can't be done.
func plainlyMoved(at []int, m impl.Move) []int {
	moved := slices.Clone(at)
	for from := range at {
		for to := range at {
			if m == move(from, to) && at[from] > 0 && at[to] == 0 {
				moved[to], moved[from] = at[from], 0
				return moved
			}
		}
	}
	return nil
}

// plainPlan is the document's way, good by good; it tells how many of its moves were not to a wanted place.
func plainPlan(r relay) ([]impl.Move, int) {
	here, home := spotsByGood(r.at), spotsByGood(r.want)
	plan, aside := []impl.Move{}, 0
	for {
		taken := map[int]int{}
		for good, place := range here {
			taken[place] = good
		}
		goes, first, firstFree := 0, -1, -1
		for place := len(r.at) - 1; place >= 0; place-- {
			if taken[place] == 0 {
				firstFree = place
			}
			for good := range here {
				if here[good] != home[good] && home[good] == place && taken[place] == 0 {
					goes = good
				}
			}
			if taken[place] != r.want[place] {
				first = place
			}
		}
		if first == -1 {
			return plan, aside
		}
		to := home[goes]
		if goes == 0 {
			goes, to = taken[first], firstFree
			aside++
		}
		plan = append(plan, move(here[goes], to))
		here[goes] = to
	}
}

// plainElsewhere has the goods that are elsewhere, and of these those that are left when goods, one behind the other, leave that no good stands in the way of.
func plainElsewhere(r relay) ([]int, []int) {
	here, home := spotsByGood(r.at), spotsByGood(r.want)
	var elsewhere []int
	for good := range here {
		if here[good] != home[good] {
			elsewhere = append(elsewhere, good)
		}
	}
	left := slices.Clone(elsewhere)
	for range r.at {
		left = slices.DeleteFunc(slices.Clone(left), func(good int) bool {
			return !slices.ContainsFunc(left, func(other int) bool { return here[other] == home[good] })
		})
	}
	return elsewhere, left
}

// plainRingsOf takes ring by ring out of what is left.
func plainRingsOf(r relay) (int, int) {
	home := spotsByGood(r.want)
	elsewhere, left := plainElsewhere(r)
	rings := 0
	for len(left) > 0 {
		rings++
		for good := left[0]; slices.Contains(left, good); good = r.at[home[good]] {
			left = slices.DeleteFunc(slices.Clone(left), func(n int) bool { return n == good })
		}
	}
	return len(elsewhere), rings
}

func keyOf(at []int) [9]int {
	var key [9]int
	copy(key[:], at)
	return key
}

// fewestFrom has the fewest moves that lead to each spots: all moves are tried, from what is come to by the fewest on.
func fewestFrom(at []int) map[[9]int]int {
	fewest := map[[9]int]int{keyOf(at): 0}
	for next := [][]int{at}; len(next) > 0; next = next[1:] {
		done := fewest[keyOf(next[0])]
		for from, good := range next[0] {
			for to, other := range next[0] {
				if good == 0 || other != 0 {
					continue
				}
				moved := slices.Clone(next[0])
				moved[from], moved[to] = 0, good
				if _, come := fewest[keyOf(moved)]; !come {
					fewest[keyOf(moved)] = done + 1
					next = append(next, moved)
				}
			}
		}
	}
	return fewest
}

// drawnMoves are so many moves that can be done one after the other, and the spots to which they lead.
func drawnMoves(i int, at []int, many int) ([]impl.Move, []int) {
	d := diceOf(i)
	l, now := []impl.Move{}, slices.Clone(at)
	for len(l) < many {
		m := move(d.below(len(at)), d.below(len(at)))
		if moved := plainlyMoved(now, m); moved != nil {
			l, now = append(l, m), moved
		}
	}
	return l, now
}

// wrongSpots are too few or too many places, without a free one, with a good twice or a number that is no good.
func wrongSpots() [][]int {
	l := [][]int{nil, {}, {0}, {1}, {20}, {1, 2}, {1, 1}, {1, 1, 0}, {0, 1, 1}, {1, 0, 1}, {20, 0, 20}, {1, 2, 0, 1}, {0, 3, 2, 3}, {1, 2, 3, 4, 5, 6, 7, 8, 9}, {0, 1, 2, 3, 4, 5, 6, 7, 7}, {7, 1, 2, 3, 4, 5, 6, 0, 7}, {0, 1, 2, 3, 4, 5, 6, 7, 8, 9}, {1, 2, 3, 4, 5, 6, 7, 8, 9, 0}, make([]int, 10), make([]int, 11), make([]int, 1000), append(make([]int, 9), 1), append([]int{1}, make([]int, 9)...), countUp(10), countUp(20), countUp(21)}
	for _, n := range append([]int{-2, -20, 21, 22, 100}, endInts...) {
		for _, at := range [][]int{{0, 0}, {0, 1}, {1, 0}, {0, 1, 2}, {3, 0, 0, 20}, make([]int, 9), countUp(9), countDown(9)} {
			for place := range at {
				with := slices.Clone(at)
				with[place] = n
				l = append(l, with)
			}
		}
	}
	return l
}

// goodSpots are of each number of places, with no goods, with as many as may be, and some.
func goodSpots() [][]int {
	var l [][]int
	for places := 2; places <= 9; places++ {
		l = append(l, make([]int, places), countUp(places), countDown(places), append([]int{20}, make([]int, places-1)...), append(make([]int, places-1), 1))
		for i := range places {
			l = append(l, mixedRelay(i, places, i).at)
		}
	}
	return l
}

func TestGoodSpotsAtItsEdges(t *testing.T) {
	for places := range 13 {
		for _, n := range append([]int{0, 1, 2, 19, 20, 21, 22}, endInts...) {
			for place := range places {
				at := make([]int, places)
				at[place] = n
				want := places >= 2 && places <= 9 && n >= 0 && n <= 20
				if got := impl.GoodSpots(at); got != want {
					t.Errorf("GoodSpots(%v) is %v", at, got)
				}
			}
		}
		// Without a free place, and with one.
		full := countUp(places + 1)[1:]
		if impl.GoodSpots(full) {
			t.Errorf("GoodSpots(%v) is true", full)
		}
		for place := range full {
			at := slices.Clone(full)
			at[place] = 0
			if got := impl.GoodSpots(at); got != (places >= 2 && places <= 9) {
				t.Errorf("GoodSpots(%v) is %v", at, got)
			}
		}
	}
	for _, at := range goodSpots() {
		if !impl.GoodSpots(at) {
			t.Errorf("GoodSpots(%v) is false", at)
		}
	}
	for _, at := range wrongSpots() {
		if impl.GoodSpots(at) {
			t.Errorf("GoodSpots(%v) is true", at)
		}
	}
}

func TestGoodSpotsOfEachList(t *testing.T) {
	told := map[bool]int{}
	for _, at := range everyList([]int{-1, 0, 1, 2, 20, 21}, 5) {
		want := plainlySpots(at)
		if got := impl.GoodSpots(at); got != want {
			t.Fatalf("GoodSpots(%v) is %v", at, got)
		}
		told[want]++
	}
	// With 1, 2 and 20 as goods, of 2, 3, 4 and 5 places: one way with no good, and so on.
	if told[true] != (1+3*2)+(1+3*3+3*6)+(1+3*4+3*12+24)+(1+3*5+3*20+60) {
		t.Errorf("%d lists are spots", told[true])
	}
}

func TestDoMoveByHand(t *testing.T) {
	for _, c := range []struct {
		at   []int
		m    impl.Move
		want []int
	}{
		{[]int{1, 0}, move(0, 1), []int{0, 1}}, {[]int{0, 20}, move(1, 0), []int{20, 0}}, {[]int{1, 2, 0}, move(0, 2), []int{0, 2, 1}}, {[]int{1, 2, 0}, move(1, 2), []int{1, 0, 2}}, {[]int{3, 0, 0}, move(0, 2), []int{0, 0, 3}}, {[]int{3, 0, 0}, move(0, 1), []int{0, 3, 0}}, {countUp(9), move(8, 0), []int{8, 1, 2, 3, 4, 5, 6, 7, 0}}, {countDown(9), move(0, 8), []int{0, 7, 6, 5, 4, 3, 2, 1, 8}},
		// No place, nothing to move, a place that is taken, or the same place.
		{[]int{1, 0}, move(0, -1), nil}, {[]int{1, 0}, move(-1, 1), nil}, {[]int{1, 0}, move(0, 2), nil}, {[]int{1, 0}, move(2, 1), nil}, {[]int{1, 0}, move(1, 0), nil}, {[]int{1, 0}, move(0, 0), nil}, {[]int{1, 0}, move(1, 1), nil}, {[]int{1, 2, 0}, move(0, 1), nil}, {[]int{1, 2, 0}, move(2, 2), nil}, {[]int{1, 0, 0}, move(1, 2), nil}, {[]int{0, 0}, move(0, 1), nil}, {countUp(9), move(9, 0), nil}, {countDown(9), move(0, 9), nil}, {countDown(9), move(-1, 8), nil}, {countUp(9), move(8, -1), nil}, {countUp(9), move(8, 1), nil},
	} {
		if got, ok := impl.DoMove(c.at, c.m); !slices.Equal(got, c.want) || ok != (c.want != nil) {
			t.Errorf("DoMove(%v, %v) = %v %v, not %v", c.at, c.m, got, ok, c.want)
		}
	}
}

func TestDoMoveOfEachMove(t *testing.T) {
	done := map[bool]int{}
	for _, at := range goodSpots() {
		places := append([]int{-2, len(at), len(at) + 1, 9, 10}, endInts...)
		places = append(places, countUp(len(at))...)
		for _, from := range places {
			for _, to := range places {
				m := move(from, to)
				want := plainlyMoved(at, m)
				got, ok := impl.DoMove(at, m)
				if !slices.Equal(got, want) || ok != (want != nil) {
					t.Fatalf("DoMove(%v, %v) = %v %v, not %v", at, m, got, ok, want)
				}
				if alone, aloneOk := impl.DoMoves(at, []impl.Move{m}); !slices.Equal(alone, want) || aloneOk != ok {
					t.Fatalf("DoMoves(%v, %v) = %v %v, not %v", at, m, alone, aloneOk, want)
				}
				if ok && !impl.GoodSpots(got) {
					t.Fatalf("DoMove(%v, %v) = %v", at, m, got)
				}
				done[ok]++
			}
		}
	}
	if done[true] == 0 || done[false] == 0 {
		t.Errorf("moves were done: %v", done)
	}
}

func TestDoMovesByHand(t *testing.T) {
	for _, c := range []struct {
		at   []int
		l    []impl.Move
		want []int
	}{
		{[]int{1, 0}, nil, []int{1, 0}}, {[]int{0, 0}, nil, []int{0, 0}}, {countUp(9), moves(), countUp(9)}, {[]int{1, 0}, moves(0, 1), []int{0, 1}}, {[]int{1, 0}, moves(0, 1, 1, 0), []int{1, 0}}, {[]int{1, 2, 0}, moves(0, 2, 1, 0, 2, 1), []int{2, 1, 0}}, {[]int{1, 0, 0}, moves(0, 1, 1, 2), []int{0, 0, 1}}, {[]int{5, 6, 0, 0}, moves(0, 3, 1, 2, 3, 1), []int{0, 5, 6, 0}},
		// A later one that can't be done: what stands there has gone, a place is no longer free, or there is none such.
		{[]int{1, 0}, moves(0, 1, 0, 1), nil}, {[]int{1, 2, 0}, moves(0, 2, 1, 2), nil}, {[]int{1, 2, 0}, moves(0, 2, 1, 0, 2, 3), nil}, {[]int{1, 2, 0}, moves(0, 2, 1, 0, -1, 1), nil}, {[]int{1, 2, 0}, moves(0, 2, 1, 0, 2, 2), nil}, {[]int{1, 2, 0}, moves(0, 2, 1, 0, 1, 1), nil}, {[]int{1, 2, 0}, moves(0, 1, 0, 2), nil}, {[]int{1, 0}, moves(1, 0, 0, 1), nil}, {[]int{0, 0}, moves(0, 1), nil},
		{[]int{1, 0}, toAndFro(0, 1, 19), []int{0, 1}}, {[]int{1, 0}, toAndFro(0, 1, 20), []int{1, 0}}, {[]int{1, 0}, toAndFro(0, 1, 21), nil}, {[]int{1, 0}, toAndFro(0, 1, 22), nil}, {[]int{1, 0}, toAndFro(0, 1, 1000), nil}, {countUp(9), toAndFro(8, 0, 20), countUp(9)}, {countUp(9), toAndFro(8, 0, 21), nil}, {[]int{1, 0}, append(toAndFro(0, 1, 19), move(0, 1)), nil},
	} {
		if got, ok := impl.DoMoves(c.at, c.l); !slices.Equal(got, c.want) || ok != (c.want != nil) {
			t.Errorf("DoMoves(%v, %v) = %v %v, not %v", c.at, c.l, got, ok, c.want)
		}
	}
}

// Each move that can't be done, in the place of each one of many, makes all of them be refused.
func TestDoMovesOneAfterTheOther(t *testing.T) {
	for i, at := range goodSpots() {
		if plainTotal(at) == 0 {
			continue
		}
		for _, many := range []int{0, 1, 2, 5, 20} {
			l, want := drawnMoves(i, at, many)
			if got, ok := impl.DoMoves(at, l); !slices.Equal(got, want) || !ok {
				t.Fatalf("DoMoves(%v, %v) = %v %v, not %v", at, l, got, ok, want)
			}
			if back, ok := impl.BackMoves(l); !ok || !isLedTo(want, back, at) {
				t.Fatalf("BackMoves(%v) = %v %v, from %v to %v", l, back, ok, want, at)
			}
			now := at
			for k, m := range l {
				for _, wrong := range []impl.Move{move(m.To, m.From), move(m.From, m.From), move(m.To, m.To), move(m.From, -1), move(-1, m.To), move(m.From, len(at)), move(len(at), m.To)} {
					isRefusedMoves(t, at, slices.Replace(slices.Clone(l), k, k+1, wrong))
				}
				now, _ = impl.DoMove(now, m)
			}
			if !slices.Equal(now, want) {
				t.Fatalf("DoMove of each of %v leads from %v to %v, not %v", l, at, now, want)
			}
		}
		l, _ := drawnMoves(i, at, 21)
		isRefusedMoves(t, at, l)
	}
}

func isLedTo(at []int, l []impl.Move, want []int) bool {
	got, ok := impl.DoMoves(at, l)
	return ok && slices.Equal(got, want)
}

func isRefusedMoves(t *testing.T, at []int, l []impl.Move) {
	if got, ok := impl.DoMoves(at, l); len(got) != 0 || ok {
		t.Errorf("DoMoves(%v, %v) = %v %v", at, l, got, ok)
	}
}

func TestBackMovesByHand(t *testing.T) {
	for _, c := range []struct {
		l, want []impl.Move
	}{
		{nil, nil}, {moves(), nil}, {moves(0, 1), moves(1, 0)}, {moves(0, 2, 1, 0, 2, 1), moves(1, 2, 0, 1, 2, 0)}, {moves(0, 8), moves(8, 0)}, {moves(8, 0, 3, 4), moves(4, 3, 0, 8)}, {moves(1, 2, 3, 4, 5, 6, 7, 8), moves(8, 7, 6, 5, 4, 3, 2, 1)},
		// They need not be such as can be done.
		{moves(0, 0), moves(0, 0)}, {moves(8, 8, 0, 1, 0, 1), moves(1, 0, 1, 0, 8, 8)}, {toAndFro(0, 8, 20), toAndFro(0, 8, 20)}, {toAndFro(0, 8, 19), toAndFro(8, 0, 19)}, {append(toAndFro(2, 3, 19), move(5, 6)), append(moves(6, 5), toAndFro(3, 2, 19)...)},
	} {
		if got, ok := impl.BackMoves(c.l); !slices.Equal(got, c.want) || !ok {
			t.Errorf("BackMoves(%v) = %v %v, not %v", c.l, got, ok, c.want)
		}
	}
}

func isRefusedBack(t *testing.T, l []impl.Move) {
	if got, ok := impl.BackMoves(l); len(got) != 0 || ok {
		t.Errorf("BackMoves(%v) = %v %v", l, got, ok)
	}
}

func TestBackMovesAtItsEdges(t *testing.T) {
	numbers := append([]int{0, 1, 7, 8, 9, 10, 20}, endInts...)
	for _, from := range numbers {
		for _, to := range numbers {
			for _, many := range []int{1, 2, 3, 19, 20} {
				for k := range many {
					l := toAndFro(0, 8, many)
					l[k] = move(from, to)
					if from < 0 || from > 8 || to < 0 || to > 8 {
						isRefusedBack(t, l)
						continue
					}
					want := toAndFro(0, 8, many)
					if many%2 == 1 {
						want = toAndFro(8, 0, many)
					}
					want[many-1-k] = move(to, from)
					if got, ok := impl.BackMoves(l); !slices.Equal(got, want) || !ok {
						t.Fatalf("BackMoves(%v) = %v %v, not %v", l, got, ok, want)
					}
				}
			}
		}
	}
	for _, many := range []int{21, 22, 40, 1000} {
		isRefusedBack(t, toAndFro(0, 1, many))
		isRefusedBack(t, slices.Repeat(moves(-1, 9), many))
	}
}

func TestPlanMovesByHand(t *testing.T) {
	for _, c := range []struct {
		at, want []int
		plan     []impl.Move
	}{
		{[]int{0, 0}, []int{0, 0}, nil}, {[]int{1, 0}, []int{1, 0}, nil}, {countUp(9), countUp(9), nil}, {[]int{1, 0}, []int{0, 1}, moves(0, 1)}, {[]int{0, 20}, []int{20, 0}, moves(1, 0)}, {[]int{0, 1, 2}, []int{1, 2, 0}, moves(1, 0, 2, 1)}, {[]int{2, 1, 0}, []int{0, 2, 1}, moves(1, 2, 0, 1)},
		// Rings: the good at the first place goes aside.
		{[]int{1, 2, 0}, []int{2, 1, 0}, moves(0, 2, 1, 0, 2, 1)}, {[]int{0, 2, 1}, []int{0, 1, 2}, moves(1, 0, 2, 1, 0, 2)}, {[]int{3, 1, 2, 0}, []int{1, 2, 3, 0}, moves(0, 3, 1, 0, 2, 1, 3, 2)}, {[]int{2, 3, 1, 0}, []int{1, 2, 3, 0}, moves(0, 3, 2, 0, 1, 2, 3, 1)}, {[]int{5, 2, 0, 1}, []int{5, 1, 0, 2}, moves(1, 2, 3, 1, 2, 3)},
		// With two free places: the first wanted place goes ahead, not the first good, and not the first place that is wrong.
		{[]int{1, 2, 0, 0}, []int{0, 0, 2, 1}, moves(1, 2, 0, 3)}, {[]int{0, 0, 1, 2}, []int{2, 1, 0, 0}, moves(3, 0, 2, 1)}, {[]int{0, 0, 2, 1}, []int{2, 1, 0, 0}, moves(2, 0, 3, 1)}, {[]int{1, 2, 0, 0}, []int{0, 1, 0, 2}, moves(1, 3, 0, 1)},
		// The first free place is taken to go aside, also where it lies ahead.
		{[]int{0, 2, 1, 0}, []int{0, 1, 2, 0}, moves(1, 0, 2, 1, 0, 2)}, {[]int{2, 0, 0, 1}, []int{1, 0, 0, 2}, moves(0, 1, 3, 0, 1, 3)},
		// Goods that can go home go ahead of a ring, and a ring is done ahead of the next one.
		{[]int{2, 1, 3, 0, 0}, []int{1, 2, 0, 3, 0}, moves(2, 3, 0, 2, 1, 0, 2, 1)}, {[]int{2, 1, 0, 3, 0}, []int{1, 2, 0, 0, 3}, moves(3, 4, 0, 2, 1, 0, 2, 1)}, {[]int{2, 1, 4, 3, 0}, []int{1, 2, 3, 4, 0}, moves(0, 4, 1, 0, 4, 1, 2, 4, 3, 2, 4, 3)}, {[]int{3, 4, 1, 2, 0}, []int{1, 2, 3, 4, 0}, moves(0, 4, 2, 0, 4, 2, 1, 4, 3, 1, 4, 3)},
		{[]int{2, 1, 4, 3, 6, 5, 8, 7, 0}, []int{1, 2, 3, 4, 5, 6, 7, 8, 0}, moves(0, 8, 1, 0, 8, 1, 2, 8, 3, 2, 8, 3, 4, 8, 5, 4, 8, 5, 6, 8, 7, 6, 8, 7)},
	} {
		if got, ok := impl.PlanMoves(c.at, c.want); !slices.Equal(got, c.plan) || !ok {
			t.Errorf("PlanMoves(%v, %v) = %v %v, not %v", c.at, c.want, got, ok, c.plan)
		}
		if got, ok := impl.MovesNeeded(c.at, c.want); got != len(c.plan) || !ok {
			t.Errorf("MovesNeeded(%v, %v) = %v %v, not %v", c.at, c.want, got, ok, len(c.plan))
		}
	}
}

func TestPlanMovesIsTheOneOfTheDocument(t *testing.T) {
	asides, free := map[int]int{}, map[int]int{}
	for _, r := range manyRelays() {
		want, aside := plainPlan(r)
		if got, ok := impl.PlanMoves(r.at, r.want); !slices.Equal(got, want) || !ok {
			t.Fatalf("PlanMoves(%v, %v) = %v %v, not %v", r.at, r.want, got, ok, want)
		}
		asides[aside]++
		if aside > 0 {
			free[len(r.at)-len(spotsByGood(r.at))]++
		}
	}
	for aside := range 5 {
		if asides[aside] == 0 {
			t.Errorf("no plan had just %d goods go aside: %v", aside, asides)
		}
	}
	for places := 1; places <= 5; places++ {
		if free[places] == 0 {
			t.Errorf("no good went aside with just %d free places: %v", places, free)
		}
	}
}

func TestRingsOfByHand(t *testing.T) {
	for _, c := range []struct {
		at, want         []int
		elsewhere, rings int
	}{
		{[]int{0, 0}, []int{0, 0}, 0, 0}, {[]int{1, 0}, []int{1, 0}, 0, 0}, {[]int{1, 0}, []int{0, 1}, 1, 0}, {countUp(9), countUp(9), 0, 0},
		{[]int{1, 2, 0}, []int{2, 1, 0}, 2, 1}, {[]int{0, 1, 2}, []int{1, 2, 0}, 2, 0}, {[]int{0, 1, 2}, []int{2, 0, 1}, 2, 0}, {[]int{1, 2, 0}, []int{0, 2, 1}, 1, 0}, {[]int{1, 2, 0}, []int{2, 0, 1}, 2, 0}, {[]int{3, 1, 2, 0}, []int{1, 2, 3, 0}, 3, 1}, {[]int{3, 1, 2, 0}, []int{2, 3, 1, 0}, 3, 1}, {[]int{3, 0, 1}, []int{1, 0, 3}, 2, 1},
		// Two rings, apart and one around the other; a ring beside goods that are elsewhere, or stand right.
		{[]int{2, 1, 4, 3, 0}, []int{1, 2, 3, 4, 0}, 4, 2}, {[]int{4, 3, 2, 1, 0}, []int{1, 2, 3, 4, 0}, 4, 2}, {[]int{3, 4, 1, 2, 0}, []int{1, 2, 3, 4, 0}, 4, 2}, {[]int{4, 1, 2, 3, 0}, []int{1, 2, 3, 4, 0}, 4, 1}, {[]int{2, 1, 3, 0}, []int{1, 2, 0, 3}, 3, 1}, {[]int{2, 1, 3, 0}, []int{1, 2, 3, 0}, 2, 1}, {[]int{3, 0, 2, 1}, []int{0, 3, 1, 2}, 3, 1}, {[]int{5, 2, 3, 1, 0, 0}, []int{5, 1, 2, 3, 0, 0}, 3, 1},
		{countUp(9), []int{8, 0, 1, 2, 3, 4, 5, 6, 7}, 8, 0}, {countUp(9), []int{0, 8, 1, 2, 3, 4, 5, 6, 7}, 8, 1}, {countUp(9), []int{0, 2, 1, 4, 3, 6, 5, 8, 7}, 8, 4}, {countUp(9), []int{0, 3, 1, 2, 6, 4, 5, 8, 7}, 8, 3}, {countUp(9), countDown(9), 7, 3},
	} {
		elsewhere, rings, ok := impl.RingsOf(c.at, c.want)
		if elsewhere != c.elsewhere || rings != c.rings || !ok {
			t.Errorf("RingsOf(%v, %v) = %v %v %v, not %v %v", c.at, c.want, elsewhere, rings, ok, c.elsewhere, c.rings)
		}
		if got, ok := impl.MovesNeeded(c.at, c.want); got != c.elsewhere+c.rings || !ok {
			t.Errorf("MovesNeeded(%v, %v) = %v %v", c.at, c.want, got, ok)
		}
	}
}

func TestRingsOfManyRelays(t *testing.T) {
	type found struct {
		elsewhere, rings int
	}
	told := map[found]int{}
	for _, r := range manyRelays() {
		elsewhere, rings := plainRingsOf(r)
		gotElsewhere, gotRings, ok := impl.RingsOf(r.at, r.want)
		if gotElsewhere != elsewhere || gotRings != rings || !ok {
			t.Fatalf("RingsOf(%v, %v) = %v %v %v, not %v %v", r.at, r.want, gotElsewhere, gotRings, ok, elsewhere, rings)
		}
		if got, ok := impl.MovesNeeded(r.at, r.want); got != elsewhere+rings || !ok {
			t.Fatalf("MovesNeeded(%v, %v) = %v %v, not %v", r.at, r.want, got, ok, elsewhere+rings)
		}
		// The way back has as many goods elsewhere, in the same rings the other way round.
		if back, backRings, ok := impl.RingsOf(r.want, r.at); back != elsewhere || backRings != rings || !ok {
			t.Fatalf("RingsOf(%v, %v) = %v %v %v, not %v %v", r.want, r.at, back, backRings, ok, elsewhere, rings)
		}
		told[found{elsewhere, rings}]++
	}
	for elsewhere := range 9 {
		for rings := range elsewhere/2 + 1 {
			if told[found{elsewhere, rings}] == 0 {
				t.Errorf("none had %d goods elsewhere and %d rings", elsewhere, rings)
			}
		}
	}
}

// leadsThere asks of the plan what promise 10 says but for the fewest, and answers how many moves it has.
func leadsThere(t *testing.T, r relay) int {
	plan, ok := impl.PlanMoves(r.at, r.want)
	if !ok || !isLedTo(r.at, plan, r.want) {
		t.Fatalf("PlanMoves(%v, %v) = %v %v does not lead there", r.at, r.want, plan, ok)
	}
	if needed, ok := impl.MovesNeeded(r.at, r.want); needed != len(plan) || !ok {
		t.Fatalf("MovesNeeded(%v, %v) = %v %v, the plan is %v", r.at, r.want, needed, ok, plan)
	}
	if back, ok := impl.BackMoves(plan); !ok || !isLedTo(r.want, back, r.at) {
		t.Fatalf("BackMoves(%v) = %v %v does not lead from %v to %v", plan, back, ok, r.want, r.at)
	}
	return len(plan)
}

func TestPromise10ThePlannedMovesLeadToWhatIsWanted(t *testing.T) {
	most := 0
	for _, r := range manyRelays() {
		most = max(most, leadsThere(t, r))
	}
	if most != 12 {
		t.Errorf("the longest plan has %d moves", most)
	}
}

func areFewest(t *testing.T, at []int) int {
	fewest := fewestFrom(at)
	for key, want := range fewest {
		r := relay{at, slices.Clone(key[:len(at)])}
		if got := leadsThere(t, r); got != want {
			t.Fatalf("PlanMoves(%v, %v) has %d moves, %d lead there", r.at, r.want, got, want)
		}
	}
	return len(fewest)
}

func TestPromise10NoFewerMovesLeadThere(t *testing.T) {
	for places := 2; places <= 5; places++ {
		for many := range places {
			spots := everySpots(places, someGoods(many))
			for _, at := range spots {
				// With a good somewhere all spots of these goods are come to.
				if come := areFewest(t, at); come != len(spots) {
					t.Fatalf("%d of %d spots are come to from %v", come, len(spots), at)
				}
			}
		}
	}
	for i, size := range [][2]int{{6, 5}, {6, 4}, {6, 3}, {7, 6}, {7, 5}, {7, 3}, {8, 7}, {8, 4}, {9, 4}, {9, 1}, {9, 5}} {
		areFewest(t, mixedRelay(i, size[0], size[1]).at)
	}
}

// No step leaves more than one move less to do, so that no plan has fewer moves than are needed; and some step leaves one less.
func TestPromise10EachMoveLeavesAtMostOneLess(t *testing.T) {
	for _, r := range greatRelays() {
		needed, _ := impl.MovesNeeded(r.at, r.want)
		least := needed
		for from := range r.at {
			for to := range r.at {
				if now, ok := impl.DoMove(r.at, move(from, to)); ok {
					left, leftOk := impl.MovesNeeded(now, r.want)
					if !leftOk || left < needed-1 {
						t.Fatalf("of %d moves from %v to %v %v leaves %d %v", needed, r.at, r.want, move(from, to), left, leftOk)
					}
					least = min(least, left)
				}
			}
		}
		if needed > 0 && least != needed-1 {
			t.Fatalf("of %d moves from %v to %v each one leaves %d or more", needed, r.at, r.want, least)
		}
	}
}

func isRefusedRelay(t *testing.T, at []int, want []int) {
	if got, ok := impl.PlanMoves(at, want); len(got) != 0 || ok {
		t.Errorf("PlanMoves(%v, %v) = %v %v", at, want, got, ok)
	}
	if got, ok := impl.MovesNeeded(at, want); got != 0 || ok {
		t.Errorf("MovesNeeded(%v, %v) = %v %v", at, want, got, ok)
	}
	if elsewhere, rings, ok := impl.RingsOf(at, want); elsewhere != 0 || rings != 0 || ok {
		t.Errorf("RingsOf(%v, %v) = %v %v %v", at, want, elsewhere, rings, ok)
	}
}

func TestPromise19NoWrongSpotsAreMoved(t *testing.T) {
	for _, at := range wrongSpots() {
		for _, n := range append([]int{0, 1, 2, 8, 9, len(at) - 1, len(at)}, endInts...) {
			for _, m := range []impl.Move{move(n, 0), move(0, n), move(n, 1), move(1, n), move(n, n), move(n, 8), move(8, n)} {
				if got, ok := impl.DoMove(at, m); len(got) != 0 || ok {
					t.Errorf("DoMove(%v, %v) = %v %v", at, m, got, ok)
				}
				isRefusedMoves(t, at, []impl.Move{m})
			}
		}
		isRefusedMoves(t, at, nil)
		isRefusedMoves(t, at, toAndFro(0, 1, 20))
		isRefusedMoves(t, at, toAndFro(1, 0, 21))
		isRefusedRelay(t, at, at)
		isRefusedRelay(t, at, nil)
		isRefusedRelay(t, nil, at)
		reversed := slices.Clone(at)
		slices.Reverse(reversed)
		isRefusedRelay(t, at, reversed)
		for _, good := range [][]int{{0, 0}, {1, 0}, {0, 1}, {0, 1, 2}, make([]int, 9), countUp(9), countDown(9), make([]int, max(2, min(9, len(at))))} {
			isRefusedRelay(t, at, good)
			isRefusedRelay(t, good, at)
		}
	}
}

func TestPromise19NoEndsOfIntAreMoved(t *testing.T) {
	for _, at := range goodSpots() {
		for _, a := range endInts {
			for _, b := range append([]int{0, 1, len(at) - 1}, endInts...) {
				for _, m := range []impl.Move{move(a, b), move(b, a)} {
					if got, ok := impl.DoMove(at, m); len(got) != 0 || ok {
						t.Errorf("DoMove(%v, %v) = %v %v", at, m, got, ok)
					}
					isRefusedMoves(t, at, []impl.Move{m})
					isRefusedMoves(t, at, slices.Repeat([]impl.Move{m}, 20))
					isRefusedMoves(t, at, slices.Repeat([]impl.Move{m}, 1000))
					isRefusedBack(t, []impl.Move{m})
					isRefusedBack(t, slices.Repeat([]impl.Move{m}, 20))
					isRefusedBack(t, slices.Repeat([]impl.Move{m}, 1000))
				}
			}
		}
	}
}

func TestPromise19NoUnlikeGoodsArePlanned(t *testing.T) {
	for _, c := range []relay{
		{[]int{1, 0}, []int{2, 0}}, {[]int{1, 0}, []int{0, 2}}, {[]int{1, 0}, []int{0, 0}}, {[]int{1, 0}, []int{1, 0, 0}}, {[]int{1, 0}, []int{0, 0, 1}}, {[]int{0, 0}, []int{0, 0, 0}}, {[]int{1, 2, 0}, []int{1, 3, 0}}, {[]int{1, 2, 0}, []int{3, 2, 0}}, {[]int{1, 2, 0}, []int{1, 0, 0}}, {[]int{1, 2, 0}, []int{2, 1, 0, 0}}, {[]int{1, 4, 0}, []int{2, 3, 0}}, {countUp(9), countUp(8)}, {countUp(9), []int{0, 1, 2, 3, 4, 5, 6, 7, 9}}, {make([]int, 9), make([]int, 8)}, {[]int{20, 0}, []int{19, 0}},
	} {
		isRefusedRelay(t, c.at, c.want)
		isRefusedRelay(t, c.want, c.at)
	}
	for i, at := range goodSpots() {
		want := diceOf(i).shuffled(at)
		leadsThere(t, relay{at, want})
		for place, n := range want {
			if with := slices.Clone(want); n > 0 {
				with[place] = 0
				isRefusedRelay(t, at, with)
				isRefusedRelay(t, with, at)
			}
			with := slices.Clone(want)
			with[place] = 18
			isRefusedRelay(t, at, with)
			isRefusedRelay(t, with, at)
		}
		isRefusedRelay(t, at, append(slices.Clone(want), 0))
		isRefusedRelay(t, append(slices.Clone(want), 0), at)
		isRefusedRelay(t, at, append([]int{0}, want...))
		isRefusedRelay(t, at, want[:len(want)-1])
		isRefusedRelay(t, want[1:], at)
		isRefusedRelay(t, at, slices.Repeat([]int{math.MinInt}, len(at)))
		isRefusedRelay(t, slices.Repeat([]int{math.MaxInt}, len(at)), at)
	}
}

// fillMove is no move that an answer has.
func fillMove(i int) impl.Move {
	return move(-7777-i, 7777)
}

func TestPromise19SpotsShareNothing(t *testing.T) {
	// Moves to and fro, and none, leave what is, so that handing it out would not be seen by what it holds.
	at, none, round := []int{1, 2, 0}, []impl.Move{}, toAndFro(0, 2, 20)
	var lists [][]int
	for range 2 {
		stayed, stayedOk := impl.DoMoves(at, none)
		back, backOk := impl.DoMoves(at, round)
		moved, movedOk := impl.DoMove(at, move(0, 2))
		if !stayedOk || !backOk || !movedOk || !slices.Equal(stayed, at) || !slices.Equal(back, at) || !slices.Equal(moved, []int{0, 2, 1}) {
			t.Fatal(stayed, back, moved)
		}
		lists = append(lists, stayed, back, moved)
	}
	shareNone(t, "chapter 10", append(lists, at)...)
	if got, ok := impl.DoMove([]int{1, 2, 0}, move(0, 2)); !slices.Equal(got, []int{0, 2, 1}) || !ok {
		t.Errorf("DoMove = %v %v behind a write into earlier answers", got, ok)
	}
}

func TestPromise19PlansShareNothing(t *testing.T) {
	at, want := []int{1, 2, 0}, []int{2, 1, 0}
	round, same := toAndFro(0, 2, 20), moves(4, 4)
	var lists [][]impl.Move
	for range 2 {
		plan, ok := impl.PlanMoves(at, want)
		back, backOk := impl.BackMoves(round)
		sameBack, sameOk := impl.BackMoves(same)
		if !ok || !backOk || !sameOk || len(plan) != 3 || !slices.Equal(back, round) || !slices.Equal(sameBack, same) {
			t.Fatal(plan, back, sameBack)
		}
		lists = append(lists, plan, back, sameBack)
	}
	shareNoneOf(t, "chapter 10", fillMove, append(lists, round, same)...)
	if got, ok := impl.PlanMoves(at, want); !slices.Equal(got, moves(0, 2, 1, 0, 2, 1)) || !ok {
		t.Errorf("PlanMoves = %v %v behind a write into earlier answers", got, ok)
	}
}

// cutMoves lets two more stand behind the moves' length.
func cutMoves(l []impl.Move, behind impl.Move) []impl.Move {
	return append(slices.Clone(l), behind, behind)[:len(l)]
}

func areAsBefore(t *testing.T, cut []impl.Move, plain []impl.Move, behind impl.Move) {
	if !slices.Equal(cut[:len(plain)+2], append(slices.Clone(plain), behind, behind)) {
		t.Errorf("%v was made of %v", cut[:len(plain)+2], plain)
	}
}

// movesHangOn tells whether a function of moves answers otherwise for cut than for plain ones.
func movesHangOn(at []int, l []impl.Move, cut []int, cutL []impl.Move) bool {
	at, l = slices.Clone(at), slices.Clone(l)
	done, doneOk := impl.DoMoves(at, l)
	cutDone, cutDoneOk := impl.DoMoves(cut, cutL)
	back, backOk := impl.BackMoves(l)
	cutBack, cutBackOk := impl.BackMoves(cutL)
	return !slices.Equal(done, cutDone) || doneOk != cutDoneOk || !slices.Equal(back, cutBack) || backOk != cutBackOk
}

// relayHangsOn tells whether a function of spots and wanted ones answers otherwise for cut than for plain ones.
func relayHangsOn(r relay, cut relay) bool {
	r = relay{slices.Clone(r.at), slices.Clone(r.want)}
	plan, planOk := impl.PlanMoves(r.at, r.want)
	cutPlan, cutPlanOk := impl.PlanMoves(cut.at, cut.want)
	needed, neededOk := impl.MovesNeeded(r.at, r.want)
	cutNeeded, cutNeededOk := impl.MovesNeeded(cut.at, cut.want)
	elsewhere, rings, ringsOk := impl.RingsOf(r.at, r.want)
	cutElsewhere, cutRings, cutRingsOk := impl.RingsOf(cut.at, cut.want)
	return !slices.Equal(plan, cutPlan) || planOk != cutPlanOk || needed != cutNeeded || neededOk != cutNeededOk || elsewhere != cutElsewhere || rings != cutRings || ringsOk != cutRingsOk
}

func TestPromise19NoSpotsOrMovesAreWritten(t *testing.T) {
	for i, at := range append(wrongSpots(), goodSpots()...) {
		lists := [][]impl.Move{nil, moves(0, 1), moves(1, 0), moves(-1, 9), toAndFro(0, 1, 20), toAndFro(1, 0, 20), toAndFro(0, 1, 21)}
		if plainlySpots(at) && plainTotal(at) > 0 {
			drawn, _ := drawnMoves(i, at, 20)
			lists = append(lists, drawn, drawn[:1], append(drawn[:19:19], move(9, 9)))
		}
		for _, behind := range []int{-1, 0, 1, 21} {
			cut := cutList(at, behind)
			if impl.GoodSpots(cut) != impl.GoodSpots(slices.Clone(at)) {
				t.Errorf("GoodSpots(%v) hangs on what lies behind them", at)
			}
			for _, l := range lists {
				behindMove := move(behind, 0)
				cutL := cutMoves(l, behindMove)
				if movesHangOn(at, l, cut, cutL) {
					t.Errorf("what is told of %v and %v hangs on what lies behind them", at, l)
				}
				if len(l) > 0 {
					got, ok := impl.DoMove(slices.Clone(at), l[0])
					if cutGot, cutOk := impl.DoMove(cut, l[0]); !slices.Equal(got, cutGot) || ok != cutOk {
						t.Errorf("DoMove(%v, %v) hangs on what lies behind them", at, l[0])
					}
				}
				areAsBefore(t, cutL, l, behindMove)
			}
			isAsBefore(t, cut, at, behind)
		}
	}
}

func TestPromise19NoWantedSpotsAreWritten(t *testing.T) {
	relays := greatRelays()
	for i, at := range wrongSpots() {
		relays = append(relays, relay{at, at}, relay{at, diceOf(i).shuffled(at)}, relay{at, countUp(len(at))}, relay{countUp(len(at)), at})
	}
	for _, at := range goodSpots() {
		relays = append(relays, relay{at, at[1:]}, relay{at[1:], at}, relay{at, append([]int{0}, at...)})
	}
	for _, r := range relays {
		for _, behind := range []int{-1, 0, 1, 21} {
			cut := relay{cutList(r.at, behind), cutList(r.want, behind)}
			if relayHangsOn(r, cut) {
				t.Errorf("what is told of %v and %v hangs on what lies behind them", r.at, r.want)
			}
			isAsBefore(t, cut.at, r.at, behind)
			isAsBefore(t, cut.want, r.want, behind)
		}
	}
}
