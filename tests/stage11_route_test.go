package tests

import (
	"math"
	"slices"
	"testing"

	"loop.example/g00451/impl"
)

func spot(aisle int, deep int) impl.Spot {
	return impl.Spot{Aisle: aisle, Deep: deep}
}

// stops reads pairs: the aisle of each one, and how deep it is.
func stops(numbers ...int) []impl.Spot {
	l := []impl.Spot{}
	for pair := range slices.Chunk(numbers, 2) {
		l = append(l, spot(pair[0], pair[1]))
	}
	return l
}

// allSpots has each spot of the house.
func allSpots() []impl.Spot {
	var l []impl.Spot
	for aisle := range 10 {
		for deep := range 21 {
			l = append(l, spot(aisle, deep))
		}
	}
	return l
}

// wrongOnes are no spots: the numbers behind the edges, and the ends of int.
func wrongOnes() []impl.Spot {
	l := stops(10, 0, 10, 20, 10, 21, 0, 21, 9, 21, 0, 22, 11, 0, 20, 9, 0, 40, 100, 100)
	for _, n := range endInts {
		l = append(l, spot(n, 0), spot(n, 20), spot(0, n), spot(9, n), spot(n, n), spot(n, -n), spot(-n, n))
	}
	return slices.DeleteFunc(l, plainlySpot)
}

func plainlySpot(s impl.Spot) bool {
	return slices.Contains(allSpots(), s)
}

// plainWay tells both ways between two aisles as they are walked: out of the one, along, and into the other one.
func plainWay(a impl.Spot, b impl.Spot) int {
	if a.Aisle == b.Aisle {
		return max(a.Deep-b.Deep, b.Deep-a.Deep)
	}
	along := 3 * max(a.Aisle-b.Aisle, b.Aisle-a.Aisle)
	front := a.Deep + along + b.Deep
	back := (20 - a.Deep) + along + (20 - b.Deep)
	if front < back {
		return front
	}
	return back
}

// plainWays has the way from each stop to each one.
func plainWays(l []impl.Spot) [][]int {
	var ways [][]int
	for _, a := range l {
		var row []int
		for _, b := range l {
			row = append(row, plainWay(a, b))
		}
		ways = append(ways, row)
	}
	return ways
}

func plainRound(ways [][]int, order []int) int {
	cost := 0
	for i, stop := range order {
		cost += ways[stop][order[(i+1)%len(order)]]
	}
	return cost
}

// plainBest goes through all of these orders; it tells how many of those that begin with 0 cost least, and the least cost of all of them.
func plainBest(ways [][]int, all [][]int) ([]int, int, int, int) {
	var best []int
	least, alike, leastOfAll := math.MaxInt, 0, math.MaxInt
	for _, order := range all {
		cost := plainRound(ways, order)
		leastOfAll = min(leastOfAll, cost)
		if order[0] != 0 || cost > least {
			continue
		}
		if cost < least {
			best, least, alike = order, cost, 0
		}
		alike++
		if slices.Compare(order, best) < 0 {
			best = order
		}
	}
	return best, least, alike, leastOfAll
}

// plainTree is the document's way: how near each one not joined is to one that is joined, then which of these it is.
func plainTree(ways [][]int) *treeFound {
	f := &treeFound{by: slices.Repeat([]int{-1}, len(ways)), order: []int{0}}
	for len(f.order) < len(ways) {
		left := withoutThese(len(ways), f.order)
		near := func(stop int) int {
			least := math.MaxInt
			for _, to := range f.order {
				least = min(least, ways[stop][to])
			}
			return least
		}
		slices.SortStableFunc(left, func(a int, b int) int { return near(a) - near(b) })
		next := left[0]
		if len(left) > 1 && near(left[1]) == near(next) {
			f.asNear++
		}
		nearest := slices.DeleteFunc(slices.Clone(f.order), func(to int) bool { return ways[next][to] != near(next) })
		f.by[next] = slices.Min(nearest)
		if f.by[next] != nearest[0] {
			f.lateJoin++
		}
		if len(nearest) > 1 {
			f.twoNearest++
		}
		f.sum += near(next)
		f.order = append(f.order, next)
	}
	return f
}

// A treeFound tells of a tree, too, in which order its stops were joined, and how often: one of several that are as near was joined; one was as near to several; and one that was joined later was the first of these.
type treeFound struct {
	by         []int
	sum        int
	order      []int
	asNear     int
	twoNearest int
	lateJoin   int
}

// pathTo has the stops from 0 to a stop by which it is joined.
func pathTo(by []int, stop int) []int {
	path := []int{stop}
	for by[stop] != -1 {
		stop = by[stop]
		path = append([]int{stop}, path...)
	}
	return path
}

// plainTreeTour sorts the stops by their paths from 0, number by number: so each one comes behind those that it is joined by, and ahead of what is joined by a later one.
func plainTreeTour(by []int) []int {
	tour := countUp(len(by))
	slices.SortFunc(tour, func(a int, b int) int { return slices.Compare(pathTo(by, a), pathTo(by, b)) })
	return tour
}

// everyTree has all ways to join so many stops, each told by the next one on the way to 0.
func everyTree(many int) [][]int {
	all := [][]int{{-1}}
	for range many - 1 {
		var next [][]int
		for _, by := range all {
			for n := range many {
				next = append(next, append(slices.Clone(by), n))
			}
		}
		all = next
	}
	return slices.DeleteFunc(all, func(by []int) bool { return !isTree(by) })
}

// isTree tells whether each stop comes to 0.
func isTree(by []int) bool {
	for stop := range by {
		for range by {
			if stop != 0 {
				stop = by[stop]
			}
		}
		if stop != 0 {
			return false
		}
	}
	return true
}

func leastTree(ways [][]int, trees [][]int) int {
	least := math.MaxInt
	for _, by := range trees {
		sum := 0
		for stop, next := range by[1:] {
			sum += ways[stop+1][next]
		}
		least = min(least, sum)
	}
	return least
}

// smallStops are all lists of up to 4 of some spots, several of which are as far from each other.
func smallStops() [][]impl.Spot {
	some := stops(0, 0, 0, 5, 0, 10, 0, 20, 1, 10, 2, 0, 9, 17)
	var all [][]impl.Spot
	for _, numbers := range everyList(countUp(len(some)), 4)[1:] {
		var l []impl.Spot
		for _, n := range numbers {
			l = append(l, some[n])
		}
		all = append(all, l)
	}
	return all
}

// drawnStops are so many from the whole house, from few aisles, from few depths, or from few of both.
func drawnStops(i int, many int) []impl.Spot {
	d := diceOf(i)
	aisles := []int{10, 2, 10, 3, 1, 2}[i%6]
	deeps := []int{21, 21, 3, 2, 21, 3}[i%6]
	l := []impl.Spot{}
	for range many {
		l = append(l, spot(d.below(aisles), d.below(deeps)*20/(deeps-1)))
	}
	return l
}

// greatStops are up to 7, all of them in many places, in few, and at one.
func greatStops() [][]impl.Spot {
	var all [][]impl.Spot
	for i := range 600 {
		all = append(all, drawnStops(i, 1+i/6%7))
	}
	for many := 1; many <= 7; many++ {
		for _, s := range stops(0, 0, 9, 20, 4, 10) {
			all = append(all, slices.Repeat([]impl.Spot{s}, many))
		}
		two := slices.Repeat(stops(9, 20, 0, 0), many)
		all = append(all, two[:many], two[1:][:many])
	}
	return append(all, edgeStops()...)
}

// edgeStops lie at the ends of aisles, of the house, and one behind the other.
func edgeStops() [][]impl.Spot {
	return [][]impl.Spot{
		stops(0, 0), stops(9, 20), stops(0, 20, 9, 0), stops(0, 0, 9, 20), stops(0, 0, 0, 20, 9, 0, 9, 20),
		stops(0, 0, 0, 3, 0, 6, 0, 9, 0, 12, 0, 15, 0, 18), stops(0, 18, 0, 15, 0, 12, 0, 9, 0, 6, 0, 3, 0, 0), stops(0, 9, 0, 0, 0, 18, 0, 3, 0, 15, 0, 6, 0, 12),
		stops(0, 0, 1, 0, 2, 0, 3, 0, 4, 0, 5, 0, 6, 0), stops(9, 20, 8, 20, 7, 20, 6, 20, 5, 20, 4, 20, 3, 20), stops(0, 10, 1, 10, 2, 10, 3, 10, 4, 10, 5, 10, 6, 10), stops(5, 10, 3, 10, 7, 10, 1, 10, 9, 10, 0, 10, 4, 10),
		stops(0, 0, 0, 20, 1, 0, 1, 20, 2, 0, 2, 20, 3, 10), stops(0, 20, 1, 0, 2, 20, 3, 0, 4, 20, 5, 0, 6, 20), stops(4, 10, 4, 10, 0, 0, 9, 20, 4, 10, 0, 0, 9, 20),
	}
}

func manyStops() [][]impl.Spot {
	return append(smallStops(), greatStops()...)
}

// wrongStops are none, too many, or have one that is no spot at each place.
func wrongStops() [][]impl.Spot {
	l := [][]impl.Spot{nil, {}, make([]impl.Spot, 8), make([]impl.Spot, 9), make([]impl.Spot, 1000), allSpots()[:8], allSpots(), drawnStops(1, 8), wrongOnes()}
	for _, wrong := range wrongOnes() {
		for _, many := range []int{1, 2, 3, 7} {
			for place := range many {
				with := drawnStops(many, many)
				with[place] = wrong
				l = append(l, with)
			}
		}
		l = append(l, slices.Repeat([]impl.Spot{wrong}, 7), slices.Repeat([]impl.Spot{wrong}, 8), append(drawnStops(2, 7), wrong))
	}
	return l
}

func TestGoodStopsAtItsEdges(t *testing.T) {
	for many := range 12 {
		if got := impl.GoodStops(make([]impl.Spot, many)); got != (many >= 1 && many <= 7) {
			t.Errorf("GoodStops of %d is %v", many, got)
		}
	}
	for _, aisle := range append([]int{0, 1, 8, 9, 10, 11, 20, 21}, endInts...) {
		for _, deep := range append([]int{0, 1, 9, 10, 19, 20, 21, 22}, endInts...) {
			want := aisle >= 0 && aisle <= 9 && deep >= 0 && deep <= 20
			for many := 1; many <= 7; many++ {
				for place := range many {
					l := drawnStops(many, many)
					l[place] = spot(aisle, deep)
					if got := impl.GoodStops(l); got != want {
						t.Fatalf("GoodStops(%v) is %v", l, got)
					}
				}
			}
		}
	}
	for _, l := range manyStops() {
		if !impl.GoodStops(l) {
			t.Errorf("GoodStops(%v) is false", l)
		}
	}
	for _, l := range wrongStops() {
		if impl.GoodStops(l) {
			t.Errorf("GoodStops(%v) is true", l)
		}
	}
}

func TestWayBetweenByHand(t *testing.T) {
	for _, c := range []struct {
		a, b impl.Spot
		want int
	}{
		{spot(0, 0), spot(0, 0), 0}, {spot(9, 20), spot(9, 20), 0}, {spot(0, 0), spot(0, 20), 20}, {spot(3, 7), spot(3, 12), 5}, {spot(9, 19), spot(9, 20), 1},
		// By the front, by the back, and where both are alike.
		{spot(0, 0), spot(1, 0), 3}, {spot(0, 18), spot(1, 18), 7}, {spot(0, 20), spot(9, 20), 27}, {spot(0, 0), spot(9, 0), 27}, {spot(0, 5), spot(1, 7), 15}, {spot(0, 10), spot(1, 10), 23}, {spot(0, 0), spot(1, 20), 23}, {spot(0, 0), spot(9, 20), 47}, {spot(2, 9), spot(4, 10), 25}, {spot(2, 10), spot(4, 11), 25}, {spot(2, 9), spot(4, 11), 26}, {spot(0, 1), spot(1, 18), 22}, {spot(0, 1), spot(1, 20), 22},
	} {
		for _, pair := range [][2]impl.Spot{{c.a, c.b}, {c.b, c.a}} {
			if got, ok := impl.WayBetween(pair[0], pair[1]); got != c.want || !ok {
				t.Errorf("WayBetween(%v, %v) = %v %v, not %v", pair[0], pair[1], got, ok, c.want)
			}
		}
	}
}

// waysTold has WayBetween of each two spots of the house.
func waysTold(t *testing.T) [][]int {
	var ways [][]int
	for _, a := range allSpots() {
		var row []int
		for _, b := range allSpots() {
			way, ok := impl.WayBetween(a, b)
			if !ok {
				t.Fatalf("WayBetween(%v, %v) is false", a, b)
			}
			row = append(row, way)
		}
		ways = append(ways, row)
	}
	return ways
}

func TestWayBetweenOfEachTwoSpots(t *testing.T) {
	by := map[string]int{}
	ways := waysTold(t)
	for i, a := range allSpots() {
		for j, b := range allSpots() {
			if want := plainWay(a, b); ways[i][j] != want || ways[j][i] != want {
				t.Fatalf("WayBetween(%v, %v) is %d there, %d back, not %d", a, b, ways[i][j], ways[j][i], want)
			}
			if (ways[i][j] == 0) != (a == b) {
				t.Fatalf("WayBetween(%v, %v) is %d", a, b, ways[i][j])
			}
			switch deeps := a.Deep + b.Deep; {
			case a.Aisle == b.Aisle:
				by["one aisle"]++
			case deeps < 20:
				by["front"]++
			case deeps > 20:
				by["back"]++
			default:
				by["both alike"]++
			}
		}
	}
	if len(by) != 4 {
		t.Errorf("the ways were by %v", by)
	}
}

// The house as it is walked: step by step along an aisle, and from aisle to aisle at the front and at the back.
func TestWayBetweenIsTheShortestWalk(t *testing.T) {
	house := allSpots()
	walk := make([][]int, len(house))
	for i, a := range house {
		for _, b := range house {
			step := 1000
			switch aisles, deeps := a.Aisle-b.Aisle, a.Deep-b.Deep; {
			case aisles == 0 && deeps >= -1 && deeps <= 1:
				step = deeps * deeps
			case deeps == 0 && (a.Deep == 0 || a.Deep == 20) && (aisles == 1 || aisles == -1):
				step = 3
			}
			walk[i] = append(walk[i], step)
		}
	}
	for by := range house {
		for from := range house {
			for to := range house {
				walk[from][to] = min(walk[from][to], walk[from][by]+walk[by][to])
			}
		}
	}
	if !equalRows(walk, waysTold(t)) {
		t.Error("some WayBetween is not the shortest walk")
	}
}

// No way round by a third spot is shorter, and OnWay tells where it is as short.
func TestOnWayOfEachThreeSpots(t *testing.T) {
	ways := waysTold(t)
	told := map[bool]int{}
	for i, a := range allSpots() {
		for j, b := range allSpots() {
			for k, c := range allSpots() {
				round := ways[i][j] + ways[j][k]
				if round < ways[i][k] {
					t.Fatalf("from %v to %v it is %d, by %v %d", a, c, ways[i][k], b, round)
				}
				want := round == ways[i][k]
				if on, ok := impl.OnWay(a, b, c); on != want || !ok {
					t.Fatalf("OnWay(%v, %v, %v) = %v %v", a, b, c, on, ok)
				}
				told[want]++
			}
		}
	}
	if told[true] == 0 || told[false] == 0 {
		t.Errorf("OnWay told %v", told)
	}
}

func TestOnWayByHand(t *testing.T) {
	for _, c := range []struct {
		a, b, c impl.Spot
		want    bool
	}{
		{spot(0, 0), spot(0, 5), spot(0, 10), true}, {spot(0, 10), spot(0, 5), spot(0, 0), true}, {spot(0, 0), spot(0, 10), spot(0, 5), false}, {spot(0, 5), spot(0, 0), spot(0, 10), false}, {spot(4, 4), spot(4, 4), spot(4, 4), true}, {spot(4, 4), spot(4, 4), spot(9, 1), true}, {spot(9, 1), spot(4, 4), spot(4, 4), true}, {spot(4, 4), spot(4, 5), spot(4, 4), false},
		// By the front: what is ahead in both aisles, and at the front of those between.
		{spot(0, 5), spot(0, 3), spot(2, 5), true}, {spot(0, 5), spot(2, 3), spot(2, 5), true}, {spot(0, 5), spot(1, 0), spot(2, 5), true}, {spot(0, 5), spot(1, 1), spot(2, 5), false}, {spot(0, 5), spot(0, 6), spot(2, 5), false}, {spot(0, 5), spot(2, 6), spot(2, 5), false}, {spot(0, 5), spot(3, 0), spot(2, 5), false},
		// By the back likewise; where both are alike each is on the way.
		{spot(0, 18), spot(1, 20), spot(2, 18), true}, {spot(0, 18), spot(1, 0), spot(2, 18), false}, {spot(0, 18), spot(0, 19), spot(2, 18), true}, {spot(0, 18), spot(0, 17), spot(2, 18), false}, {spot(0, 10), spot(1, 0), spot(2, 10), true}, {spot(0, 10), spot(1, 20), spot(2, 10), true}, {spot(0, 10), spot(1, 10), spot(2, 10), false},
	} {
		if on, ok := impl.OnWay(c.a, c.b, c.c); on != c.want || !ok {
			t.Errorf("OnWay(%v, %v, %v) = %v %v", c.a, c.b, c.c, on, ok)
		}
	}
}

func TestTourCostByHand(t *testing.T) {
	for _, c := range []struct {
		l     []impl.Spot
		order []int
		want  int
	}{
		{stops(3, 7), []int{0}, 0}, {stops(0, 0, 0, 10), []int{0, 1}, 20}, {stops(0, 0, 0, 10), []int{1, 0}, 20}, {stops(0, 0, 9, 20), []int{0, 1}, 94}, {stops(4, 4, 4, 4), []int{1, 0}, 0}, {stops(0, 0, 0, 10, 0, 5), []int{0, 2, 1}, 20}, {stops(0, 0, 0, 10, 0, 5), []int{0, 1, 2}, 20},
		{stops(0, 0, 0, 20, 1, 0, 1, 20), []int{0, 1, 3, 2}, 46}, {stops(0, 0, 0, 20, 1, 0, 1, 20), []int{0, 1, 2, 3}, 86}, {stops(0, 0, 0, 20, 1, 0, 1, 20), []int{2, 0, 1, 3}, 46}, {stops(0, 0, 0, 20, 1, 0, 1, 20), []int{0, 3, 1, 2}, 52}, {slices.Repeat(stops(2, 2), 7), countDown(7), 0},
	} {
		if got, ok := impl.TourCost(c.l, c.order); got != c.want || !ok {
			t.Errorf("TourCost(%v, %v) = %v %v, not %v", c.l, c.order, got, ok, c.want)
		}
	}
}

func TestTourCostOfManyOrders(t *testing.T) {
	small := map[int][][]int{}
	for many := 1; many <= 4; many++ {
		small[many] = everyOrder(many)
	}
	for i, l := range manyStops() {
		orders := small[len(l)]
		for k := range 20 {
			orders = append(orders[:len(orders):len(orders)], diceOf(i*20+k).shuffled(countUp(len(l))))
		}
		for _, order := range orders {
			want := 0
			for k := range order[1:] {
				want += plainWay(l[order[k]], l[order[k+1]])
			}
			want += plainWay(l[order[len(l)-1]], l[order[0]])
			if got, ok := impl.TourCost(l, order); got != want || !ok {
				t.Fatalf("TourCost(%v, %v) = %v %v, not %v", l, order, got, ok, want)
			}
		}
	}
}

func TestBestTourByHand(t *testing.T) {
	for _, c := range []struct {
		l    []impl.Spot
		want []int
		cost int
	}{
		{stops(3, 7), []int{0}, 0}, {stops(0, 0, 9, 20), []int{0, 1}, 94}, {stops(0, 0, 0, 10, 0, 5), []int{0, 1, 2}, 20}, {stops(5, 5, 5, 5), []int{0, 1}, 0}, {slices.Repeat(stops(9, 0), 7), countUp(7), 0},
		// Both ways round cost alike: the one whose second number is less.
		{stops(0, 0, 0, 20, 1, 0, 1, 20), []int{0, 1, 3, 2}, 46}, {stops(0, 0, 1, 0, 0, 20, 1, 20), []int{0, 1, 3, 2}, 46}, {stops(0, 0, 1, 20, 1, 0, 0, 20), []int{0, 2, 1, 3}, 46}, {stops(0, 5, 1, 5, 2, 5), []int{0, 1, 2}, 42},
		// In one aisle all orders that go up and then down.
		{stops(0, 0, 0, 18, 0, 3, 0, 15, 0, 6, 0, 12, 0, 9), []int{0, 1, 3, 5, 6, 4, 2}, 36}, {stops(0, 9, 0, 0, 0, 18), []int{0, 1, 2}, 36}, {stops(0, 0, 0, 9, 0, 0), []int{0, 1, 2}, 18}, {stops(0, 0, 1, 0, 2, 0, 3, 0, 4, 0, 5, 0, 6, 0), countUp(7), 36},
	} {
		if got, cost, ok := impl.BestTour(c.l); !slices.Equal(got, c.want) || cost != c.cost || !ok {
			t.Errorf("BestTour(%v) = %v %v %v, not %v %v", c.l, got, cost, ok, c.want, c.cost)
		}
	}
}

// toursOf has for each number of stops all their orders.
func toursOf() map[int][][]int {
	by := map[int][][]int{}
	for many := 1; many <= 7; many++ {
		by[many] = everyOrder(many)
	}
	return by
}

func TestPromise11NoOrderIsShorterThanTheBest(t *testing.T) {
	tours := toursOf()
	sizes, alikes := map[int]int{}, map[int]int{}
	for _, l := range manyStops() {
		best, least, alike, leastOfAll := plainBest(plainWays(l), tours[len(l)])
		got, cost, ok := impl.BestTour(l)
		if !slices.Equal(got, best) || cost != least || !ok {
			t.Fatalf("BestTour(%v) = %v %v %v, not %v %v", l, got, cost, ok, best, least)
		}
		if cost != leastOfAll {
			t.Fatalf("BestTour(%v) costs %d, some order %d", l, cost, leastOfAll)
		}
		if told, ok := impl.TourCost(l, got); told != cost || !ok {
			t.Fatalf("TourCost(%v, %v) = %v %v, BestTour tells %v", l, got, told, ok, cost)
		}
		sizes[len(l)]++
		alikes[alike]++
	}
	// From three stops on at least both ways round cost alike.
	if alikes[1] == 0 || alikes[2] == 0 || alikes[720] == 0 || len(alikes) < 10 || len(sizes) != 7 {
		t.Errorf("of stops %v the least cost was met so often: %v", sizes, alikes)
	}
}

func TestTreeOfByHand(t *testing.T) {
	for _, c := range []struct {
		l    []impl.Spot
		want []int
		sum  int
		tour []int
		cost int
	}{
		{stops(3, 7), []int{-1}, 0, []int{0}, 0}, {stops(0, 0, 9, 20), []int{-1, 0}, 47, []int{0, 1}, 94}, {stops(0, 0, 0, 10, 0, 5), []int{-1, 2, 0}, 10, []int{0, 2, 1}, 20}, {slices.Repeat(stops(9, 0), 7), []int{-1, 0, 0, 0, 0, 0, 0}, 0, countUp(7), 0},
		// Of as near ones the first one is joined, by the first one to which it is nearest.
		{stops(0, 10, 0, 15, 0, 5), []int{-1, 0, 0}, 10, []int{0, 1, 2}, 20}, {stops(0, 0, 0, 3, 1, 0, 1, 3), []int{-1, 0, 0, 2}, 9, []int{0, 1, 2, 3}, 18}, {stops(0, 0, 0, 5, 0, 5), []int{-1, 0, 1}, 5, []int{0, 1, 2}, 10}, {stops(0, 0, 0, 0, 0, 5), []int{-1, 0, 0}, 5, []int{0, 1, 2}, 10},
		// Stop 1 is joined behind 2, both are as near to 3: the first of them in the list joins it, not the one that was there earlier.
		{stops(0, 20, 5, 9, 5, 11, 9, 10), []int{-1, 2, 0, 1}, 57, []int{0, 2, 1, 3}, 94},
		// Stop 2 is joined ahead of 1; the round goes in their order in the list.
		{stops(0, 10, 0, 16, 0, 5), []int{-1, 0, 0}, 11, []int{0, 1, 2}, 22}, {stops(1, 0, 0, 4, 1, 3, 2, 4), []int{-1, 0, 0, 0}, 17, []int{0, 1, 2, 3}, 34},
		// All behind a stop come ahead of the next one.
		{stops(0, 0, 0, 12, 0, 4, 0, 8), []int{-1, 3, 0, 2}, 12, []int{0, 2, 3, 1}, 24}, {stops(2, 0, 0, 0, 1, 0, 1, 6, 0, 6), []int{-1, 2, 0, 2, 1}, 18, []int{0, 2, 1, 4, 3}, 36}, {stops(0, 10, 0, 11, 0, 9, 0, 12, 0, 8), []int{-1, 0, 0, 1, 2}, 4, []int{0, 1, 3, 2, 4}, 8},
	} {
		by, sum, ok := impl.TreeOf(c.l)
		if !slices.Equal(by, c.want) || sum != c.sum || !ok {
			t.Errorf("TreeOf(%v) = %v %v %v, not %v %v", c.l, by, sum, ok, c.want, c.sum)
		}
		tour, cost, ok := impl.TreeTour(c.l)
		if !slices.Equal(tour, c.tour) || cost != c.cost || !ok {
			t.Errorf("TreeTour(%v) = %v %v %v, not %v %v", c.l, tour, cost, ok, c.tour, c.cost)
		}
	}
}

func TestTreeOfIsTheOneOfTheDocument(t *testing.T) {
	var asNear, twoNearest, lateJoin, unlike int
	for _, l := range manyStops() {
		want := plainTree(plainWays(l))
		by, sum, ok := impl.TreeOf(l)
		if !slices.Equal(by, want.by) || sum != want.sum || !ok {
			t.Fatalf("TreeOf(%v) = %v %v %v, not %v %v", l, by, sum, ok, want.by, want.sum)
		}
		asNear += want.asNear
		twoNearest += want.twoNearest
		lateJoin += want.lateJoin
		if !slices.IsSorted(want.order) {
			unlike++
		}
	}
	if asNear == 0 || twoNearest == 0 || lateJoin == 0 || unlike == 0 {
		t.Errorf("several were as near %d times, to several %d times, the first of these joined later %d times, not in order %d", asNear, twoNearest, lateJoin, unlike)
	}
}

func TestTreeOfHasTheLeastSum(t *testing.T) {
	trees := map[int][][]int{}
	for many := 1; many <= 7; many++ {
		trees[many] = everyTree(many)
	}
	if len(trees[4]) != 16 || len(trees[7]) != 16807 {
		t.Fatalf("%d and %d trees of 4 and 7", len(trees[4]), len(trees[7]))
	}
	for _, l := range manyStops() {
		if by, sum, ok := impl.TreeOf(l); sum != leastTree(plainWays(l), trees[len(l)]) || !isTree(by) || !ok {
			t.Fatalf("TreeOf(%v) = %v %v %v, not %v", l, by, sum, ok, leastTree(plainWays(l), trees[len(l)]))
		}
	}
}

func TestTreeTourIsTheOneOfTheDocument(t *testing.T) {
	deep, unlike := map[int]int{}, 0
	for _, l := range manyStops() {
		tree := plainTree(plainWays(l))
		want := plainTreeTour(tree.by)
		cost := plainRound(plainWays(l), want)
		if got, gotCost, ok := impl.TreeTour(l); !slices.Equal(got, want) || gotCost != cost || !ok {
			t.Fatalf("TreeTour(%v) = %v %v %v, not %v %v", l, got, gotCost, ok, want, cost)
		}
		longest := 0
		for stop := range l {
			longest = max(longest, len(pathTo(tree.by, stop)))
		}
		deep[longest]++
		if !slices.Equal(want, tree.order) && !slices.IsSorted(want) {
			unlike++
		}
	}
	if len(deep) != 7 || unlike == 0 {
		t.Errorf("the longest ways of the trees had so many stops: %v; %d tours were neither in order nor as they were joined", deep, unlike)
	}
}

func TestPromise11TheTreesRoundIsAtMostTwiceTheTree(t *testing.T) {
	twice, longer, best := 0, 0, 0
	for _, l := range manyStops() {
		_, sum, ok := impl.TreeOf(l)
		tour, cost, tourOk := impl.TreeTour(l)
		if !ok || !tourOk || cost > 2*sum || !plainlyOrder(tour, len(l)) || tour[0] != 0 {
			t.Fatalf("TreeTour(%v) = %v %v %v, the tree %v %v", l, tour, cost, tourOk, sum, ok)
		}
		if told, ok := impl.TourCost(l, tour); told != cost || !ok {
			t.Fatalf("TourCost(%v, %v) = %v %v, TreeTour tells %v", l, tour, told, ok, cost)
		}
		_, least, _ := impl.BestTour(l)
		if least > cost || least < sum {
			t.Fatalf("of %v the best costs %d, the tree's round %d, the tree %d", l, least, cost, sum)
		}
		switch {
		case cost == 2*sum:
			twice++
		case cost == least:
			best++
		}
		if cost > least {
			longer++
		}
	}
	if twice == 0 || longer == 0 || best == 0 {
		t.Errorf("twice the tree %d times, longer than the best %d times, as short %d times", twice, longer, best)
	}
}

func isRefusedTour(t *testing.T, l []impl.Spot, order []int) {
	if got, ok := impl.TourCost(l, order); got != 0 || ok {
		t.Errorf("TourCost(%v, %v) = %v %v", l, order, got, ok)
	}
}

func TestPromise19NoWrongSpotsAreWalked(t *testing.T) {
	wrong := wrongOnes()
	if len(wrong) < 50 {
		t.Errorf("%d wrong spots", len(wrong))
	}
	others := append(stops(0, 0, 9, 20, 4, 10), wrong...)
	for _, a := range wrong {
		for _, b := range others {
			for _, pair := range [][2]impl.Spot{{a, b}, {b, a}} {
				if got, ok := impl.WayBetween(pair[0], pair[1]); got != 0 || ok {
					t.Errorf("WayBetween(%v, %v) = %v %v", pair[0], pair[1], got, ok)
				}
			}
			for _, c := range others {
				for _, three := range [][3]impl.Spot{{a, b, c}, {b, a, c}, {b, c, a}} {
					if on, ok := impl.OnWay(three[0], three[1], three[2]); on || ok {
						t.Errorf("OnWay(%v) = %v %v", three, on, ok)
					}
				}
			}
		}
	}
}

func TestPromise19NoWrongStopsAreToured(t *testing.T) {
	for _, l := range wrongStops() {
		for _, order := range [][]int{nil, {0}, countUp(len(l)), countDown(len(l)), countUp(7), countUp(8)} {
			isRefusedTour(t, l, order)
		}
		if got, cost, ok := impl.BestTour(l); len(got) != 0 || cost != 0 || ok {
			t.Errorf("BestTour(%v) = %v %v %v", l, got, cost, ok)
		}
		if by, sum, ok := impl.TreeOf(l); len(by) != 0 || sum != 0 || ok {
			t.Errorf("TreeOf(%v) = %v %v %v", l, by, sum, ok)
		}
		if got, cost, ok := impl.TreeTour(l); len(got) != 0 || cost != 0 || ok {
			t.Errorf("TreeTour(%v) = %v %v %v", l, got, cost, ok)
		}
	}
}

func TestPromise19NoWrongOrdersAreToured(t *testing.T) {
	for i, l := range greatStops() {
		order := diceOf(i).shuffled(countUp(len(l)))
		if _, ok := impl.TourCost(l, order); !ok {
			t.Errorf("TourCost(%v, %v) is false", l, order)
		}
		isRefusedTour(t, l, nil)
		for _, wrong := range noOrders(order) {
			isRefusedTour(t, l, wrong)
		}
		for _, n := range []int{math.MinInt, -1, len(l), math.MaxInt} {
			isRefusedTour(t, l, slices.Repeat([]int{n}, len(l)))
		}
	}
}

func TestPromise19ToursShareNothing(t *testing.T) {
	for many := 1; many <= 7; many++ {
		l := drawnStops(many, many)
		var lists [][]int
		for range 2 {
			best, _, bestOk := impl.BestTour(l)
			by, _, byOk := impl.TreeOf(l)
			tour, _, tourOk := impl.TreeTour(l)
			if !bestOk || !byOk || !tourOk || len(best) != many || len(by) != many || len(tour) != many {
				t.Fatal(best, by, tour)
			}
			lists = append(lists, best, by, tour)
		}
		before := slices.Concat(lists[0], lists[1], lists[2])
		shareNone(t, "chapter 11", lists...)
		best, _, _ := impl.BestTour(l)
		by, _, _ := impl.TreeOf(l)
		tour, _, _ := impl.TreeTour(l)
		if !slices.Equal(slices.Concat(best, by, tour), before) {
			t.Errorf("%v %v %v behind a write into earlier answers", best, by, tour)
		}
	}
}

// cutStops lets two more stand behind the stops' length.
func cutStops(l []impl.Spot, behind impl.Spot) []impl.Spot {
	return append(slices.Clone(l), behind, behind)[:len(l)]
}

// toursHangOn tells whether a function of stops answers otherwise for cut than for plain ones.
func toursHangOn(l []impl.Spot, cut []impl.Spot) bool {
	l = slices.Clone(l)
	best, least, bestOk := impl.BestTour(l)
	cutBest, cutLeast, cutBestOk := impl.BestTour(cut)
	by, sum, byOk := impl.TreeOf(l)
	cutBy, cutSum, cutByOk := impl.TreeOf(cut)
	tour, cost, tourOk := impl.TreeTour(l)
	cutTour, cutCost, cutTourOk := impl.TreeTour(cut)
	return impl.GoodStops(l) != impl.GoodStops(cut) ||
		!slices.Equal(best, cutBest) || least != cutLeast || bestOk != cutBestOk ||
		!slices.Equal(by, cutBy) || sum != cutSum || byOk != cutByOk ||
		!slices.Equal(tour, cutTour) || cost != cutCost || tourOk != cutTourOk
}

func TestPromise19NoStopsOrOrdersAreWritten(t *testing.T) {
	for i, l := range append(wrongStops(), greatStops()...) {
		for _, behind := range stops(0, 0, 9, 20, -1, 21) {
			cut := cutStops(l, behind)
			if toursHangOn(l, cut) {
				t.Errorf("what is told of %v hangs on what lies behind them", l)
			}
			for _, order := range [][]int{nil, countUp(len(l)), diceOf(i).shuffled(countUp(len(l))), countUp(len(l) + 1), {-1}, {math.MaxInt, 0}} {
				cutOrder := cutList(order, behind.Aisle)
				cost, ok := impl.TourCost(slices.Clone(l), slices.Clone(order))
				if cutCost, cutOk := impl.TourCost(cut, cutOrder); cost != cutCost || ok != cutOk {
					t.Errorf("TourCost(%v, %v) hangs on what lies behind them", l, order)
				}
				isAsBefore(t, cutOrder, order, behind.Aisle)
			}
			if !slices.Equal(cut[:len(l)+2], append(slices.Clone(l), behind, behind)) {
				t.Errorf("%v was made of %v", cut[:len(l)+2], l)
			}
		}
	}
}
