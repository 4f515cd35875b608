package tests

import (
	"math"
	"slices"
	"testing"

	"loop.example/g00451/impl"
)

func pricesOf(loads []int, bins []int) impl.Prices {
	return impl.Prices{Loads: loads, Bins: bins}
}

func samePrices(a impl.Prices, b impl.Prices) bool {
	return slices.Equal(a.Loads, b.Loads) && slices.Equal(a.Bins, b.Bins)
}

func isNoPrices(p impl.Prices) bool {
	return len(p.Loads) == 0 && len(p.Bins) == 0
}

// sameCosts has so many rows, each as long as told, of one number.
func sameCosts(rows int, long int, n int) [][]int {
	c := [][]int{}
	for range rows {
		c = append(c, slices.Repeat([]int{n}, long))
	}
	return c
}

func equalRows(a [][]int, b [][]int) bool {
	return slices.EqualFunc(a, b, slices.Equal)
}

func cloneRows(c [][]int) [][]int {
	var l [][]int
	for _, row := range c {
		l = append(l, slices.Clone(row))
	}
	return l
}

// everyCosts has all costs of so many rows and of these values.
func everyCosts(values []int, many int) [][][]int {
	all := [][][]int{nil}
	var rows [][]int
	for _, row := range everyList(values, many) {
		if len(row) == many {
			rows = append(rows, row)
		}
	}
	for range many {
		var next [][][]int
		for _, c := range all {
			for _, row := range rows {
				next = append(next, append(slices.Clone(c), row))
			}
		}
		all = next
	}
	return all
}

// mixedCosts are in no plain order, of few values, so that many are alike, or of all.
func mixedCosts(i int, many int) [][]int {
	span := []int{2, 3, 5, 12, 101}[i%5]
	c := sameCosts(many, many, 0)
	state := uint32(i*2654435761 + 777)
	for load := range c {
		for bin := range c[load] {
			state = state*1664525 + 1013904223
			c[load][bin] = int(state>>16) % span
		}
	}
	return c
}

// timesCosts has each load cost its number times the bin's number: the later loads are cheaper ahead, so that all others change their bins for each one.
func timesCosts(many int) [][]int {
	c := sameCosts(many, many, 0)
	for load := range c {
		for bin := range c[load] {
			c[load][bin] = load * bin
		}
	}
	return c
}

// steepCosts has each load cost 100 in all bins but the first ones, as many as it has loads behind it and one.
func steepCosts(many int) [][]int {
	c := sameCosts(many, many, 100)
	for load := range c {
		for bin := range many - load {
			c[load][bin] = bin
		}
	}
	return c
}

func smallCosts() [][][]int {
	all := everyCosts(countUp(101), 1)
	all = append(all, everyCosts([]int{0, 1, 2, 5, 100}, 2)...)
	all = append(all, everyCosts([]int{0, 1, 2}, 3)...)
	for i := range 400 {
		all = append(all, mixedCosts(i, 3+i%3))
	}
	return all
}

// greatCosts are up to ten rows, among them the least and the greatest of all.
func greatCosts() [][][]int {
	var all [][][]int
	for _, many := range []int{1, 2, 3, 7, 9, 10} {
		all = append(all, sameCosts(many, many, 0), sameCosts(many, many, 7), sameCosts(many, many, 100), timesCosts(many), steepCosts(many))
		reversed := cloneRows(steepCosts(many))
		slices.Reverse(reversed)
		all = append(all, reversed)
	}
	for i := range 500 {
		all = append(all, mixedCosts(i, 6+i/5%5))
	}
	return all
}

func manyCosts() [][][]int {
	return append(smallCosts(), greatCosts()...)
}

func plainFitCost(c [][]int, fit []int) int {
	cost := 0
	for bin := range c {
		cost += c[slices.Index(fit, bin)][bin]
	}
	return cost
}

// leastFitCost is the least of all orders: for each set of bins the least with which the first loads have just these.
func leastFitCost(c [][]int) int {
	least := make([]int, 1<<len(c))
	for set := 1; set < len(least); set++ {
		least[set] = math.MaxInt
		load := sizeOf(set) - 1
		for bin := range c {
			if set>>bin&1 == 1 {
				least[set] = min(least[set], least[set&^(1<<bin)]+c[load][bin])
			}
		}
	}
	return least[len(least)-1]
}

// A plainFit is the document's way, and what it came by: each least is reckoned anew from all loads on the way.
type plainFit struct {
	fit    []int
	prices impl.Prices
	// longest is the most bins with a load that one way went over.
	longest int
	// fell tells how often a bin's price fell, alike how often a least was seen from two loads.
	fell  int
	alike int
}

func (p *plainFit) rest(c [][]int, load int, bin int) int {
	return c[load][bin] - p.prices.Loads[load] - p.prices.Bins[bin]
}

// nearest goes through bins not gone to, and through loads on the way as they came to be on it.
func (p *plainFit) nearest(c [][]int, way []int, gone []int) (int, int, map[int]int) {
	best, smallest := -1, 0
	seen := map[int]int{}
	for _, bin := range withoutThese(len(c), gone) {
		least := math.MaxInt
		for _, load := range way {
			rest := p.rest(c, load, bin)
			if rest == least {
				p.alike++
			}
			if rest < least {
				least = rest
				seen[bin] = load
			}
		}
		if best == -1 || least < smallest {
			best, smallest = bin, least
		}
	}
	return best, smallest, seen
}

func (p *plainFit) add(c [][]int, load int) {
	way, gone := []int{load}, []int{}
	from := map[int]int{}
	bin := -1
	for free := false; !free; {
		next, by, seen := p.nearest(c, way, gone)
		for _, load := range way {
			p.prices.Loads[load] += by
		}
		for _, before := range gone {
			p.prices.Bins[before] -= by
			if by > 0 {
				p.fell++
			}
		}
		bin = next
		from[bin] = seen[bin]
		gone = append(gone, bin)
		owner := slices.Index(p.fit, bin)
		free = owner == -1
		if !free {
			way = append(way, owner)
		}
	}
	p.longest = max(p.longest, len(gone)-1)
	for bin != -1 {
		load := from[bin]
		left := p.fit[load]
		p.fit[load] = bin
		bin = left
	}
}

func plainFitOf(c [][]int) *plainFit {
	p := &plainFit{fit: slices.Repeat([]int{-1}, len(c)), prices: pricesOf(make([]int, len(c)), make([]int, len(c)))}
	for load := range c {
		p.add(c, load)
	}
	return p
}

// wrongCosts are too few or too many rows, a row that is shorter or longer than the rows are many, or a number that is no cost.
func wrongCosts() [][][]int {
	l := [][][]int{nil, {}, {nil}, {{}}, {{}, {}}, {nil, nil}, {{1, 2}}, {{1}, {2}}, {{1, 2}, {3}}, {{1}, {2, 3}}, {{1, 2, 3}, {4}}, {{1, 2}, nil}, {nil, {1, 2}}, {{1, 2, 3}, {4, 5, 6}}, {{1, 2}, {3, 4}, {5, 6}}}
	for _, n := range []int{0, 1, 100} {
		for _, size := range [][2]int{{11, 11}, {11, 10}, {10, 11}, {12, 12}, {10, 9}, {9, 10}, {10, 0}, {1, 0}, {1, 2}, {2, 1}, {1, 10}, {10, 1}, {100, 100}, {1000, 1}, {1, 1000}} {
			l = append(l, sameCosts(size[0], size[1], n))
		}
		for _, many := range []int{1, 2, 3, 10} {
			for load := range many {
				for _, long := range []int{0, many - 1, many + 1, 10, 11, 1000} {
					if long != many {
						c := sameCosts(many, many, n)
						c[load] = slices.Repeat([]int{n}, long)
						l = append(l, c)
					}
				}
			}
		}
	}
	for _, n := range append([]int{-2, -100, 101, 102, 100000}, endInts...) {
		for _, many := range []int{1, 2, 3, 10} {
			for i := range many * many {
				c := sameCosts(many, many, 100)
				c[i/many][i%many] = n
				l = append(l, c)
			}
		}
	}
	return l
}

// wrongPrices are made of good ones of so many: other counts, or a number that is no price.
func wrongPrices(many int) []impl.Prices {
	same := func(n int, long int) []int { return slices.Repeat([]int{n}, long) }
	l := []impl.Prices{pricesOf(same(0, 11), same(0, 11)), pricesOf(same(0, 11), same(0, 10)), pricesOf(same(0, 10), same(0, 11)), pricesOf(same(1, 1000), same(1, 1000)), pricesOf(same(0, many), same(0, many+1)), pricesOf(same(0, many+1), same(0, many)), pricesOf(nil, []int{0}), pricesOf([]int{0}, nil), pricesOf(same(math.MinInt, many+1), same(math.MaxInt, many+1))}
	if many > 0 {
		l = append(l, pricesOf(same(0, many), nil), pricesOf(nil, same(0, many)), pricesOf(same(0, many), same(0, many-1)), pricesOf(same(0, many-1), same(0, many)), pricesOf(same(math.MaxInt, many), same(math.MinInt, many)), pricesOf(same(1<<62, many), same(-1<<62, many)), pricesOf(same(100001, many), same(-100001, many)))
	}
	for _, n := range []int{-100002, -100001, 100001, 100002, math.MinInt, math.MinInt + 1, -1 << 32, 1 << 32, 1 << 62, math.MaxInt - 1, math.MaxInt} {
		for i := range many {
			list := same(0, many)
			list[i] = n
			l = append(l, pricesOf(list, same(0, many)), pricesOf(same(0, many), list))
		}
	}
	return l
}

func TestGoodCostsAtItsEdges(t *testing.T) {
	for rows := range 13 {
		for long := range 13 {
			for _, n := range append([]int{0, 1, 99, 100, 101}, endInts...) {
				want := rows == long && rows >= 1 && rows <= 10 && n >= 0 && n <= 100
				if got := impl.GoodCosts(sameCosts(rows, long, n)); got != want {
					t.Errorf("GoodCosts of %d rows of %d times %d is %v", rows, long, n, got)
				}
			}
		}
	}
	for _, c := range manyCosts() {
		if !impl.GoodCosts(c) {
			t.Fatalf("GoodCosts(%v) is false", c)
		}
	}
	for _, c := range wrongCosts() {
		if impl.GoodCosts(c) {
			t.Errorf("GoodCosts(%v) is true", c)
		}
	}
}

func TestCheapestFitByHand(t *testing.T) {
	for _, c := range []struct {
		cost        [][]int
		fit         []int
		loads, bins []int
	}{
		{[][]int{{0}}, []int{0}, []int{0}, []int{0}},
		{[][]int{{100}}, []int{0}, []int{100}, []int{0}},
		{[][]int{{4, 1}, {2, 3}}, []int{1, 0}, []int{1, 2}, []int{0, 0}},
		// Load 1 goes to bin 0 by 1 and, seen from load 0, to bin 1 by 1 more: bin 0 falls, bin 1 does not.
		{[][]int{{1, 2}, {1, 4}}, []int{1, 0}, []int{2, 2}, []int{-1, 0}},
		// It comes to bin 1 itself, and load 0 stays.
		{[][]int{{1, 4}, {1, 2}}, []int{0, 1}, []int{2, 2}, []int{-1, 0}},
		// Costs alike: the first bin with the smallest least, and the load that saw bin 1 first has it.
		{[][]int{{1, 1}, {1, 1}}, []int{0, 1}, []int{1, 1}, []int{0, 0}},
		{[][]int{{0, 0}, {0, 0}}, []int{0, 1}, []int{0, 0}, []int{0, 0}},
		{[][]int{{3, 3, 3}, {3, 3, 3}, {3, 3, 3}}, []int{0, 1, 2}, []int{3, 3, 3}, []int{0, 0, 0}},
		{[][]int{{1, 3}, {2, 4}}, []int{0, 1}, []int{3, 4}, []int{-2, 0}},
		{[][]int{{2, 1, 1}, {2, 1, 1}, {2, 1, 1}}, []int{1, 2, 0}, []int{2, 2, 2}, []int{0, -1, -1}},
		// Load 2 goes by bin 0 and bin 1 to bin 2, and both other loads change their bins for it. By 0, 1 and 0: bin 0 alone falls.
		{[][]int{{0, 0, 0}, {0, 1, 2}, {0, 2, 4}}, []int{2, 1, 0}, []int{0, 1, 1}, []int{-1, 0, 0}},
		// Likewise by 2, 1 and 2: bin 0 falls twice more, bin 1 once, and bin 2 not.
		{[][]int{{1, 2, 4}, {1, 3, 6}, {1, 4, 8}}, []int{2, 1, 0}, []int{4, 5, 5}, []int{-4, -2, 0}},
		{[][]int{{0, 9, 9}, {9, 0, 9}, {9, 9, 0}}, []int{0, 1, 2}, []int{0, 0, 0}, []int{0, 0, 0}},
		{[][]int{{9, 9, 0}, {0, 9, 9}, {9, 0, 9}}, []int{2, 0, 1}, []int{0, 0, 0}, []int{0, 0, 0}},
	} {
		if fit, p, ok := impl.CheapestFit(c.cost); !slices.Equal(fit, c.fit) || !samePrices(p, pricesOf(c.loads, c.bins)) || !ok {
			t.Errorf("CheapestFit(%v) = %v %v %v, not %v %v %v", c.cost, fit, p, ok, c.fit, c.loads, c.bins)
		}
	}
}

func TestCheapestFitIsTheOneOfTheDocument(t *testing.T) {
	longest, fell, alike := map[int]int{}, 0, 0
	for _, c := range manyCosts() {
		want := plainFitOf(c)
		if fit, p, ok := impl.CheapestFit(c); !slices.Equal(fit, want.fit) || !samePrices(p, want.prices) || !ok {
			t.Fatalf("CheapestFit(%v) = %v %v %v, not %v %v", c, fit, p, ok, want.fit, want.prices)
		}
		longest[want.longest]++
		fell += want.fell
		alike += want.alike
	}
	for bins := range 10 {
		if longest[bins] == 0 {
			t.Errorf("no way went over just %d bins with a load: %v", bins, longest)
		}
	}
	if fell == 0 || alike == 0 {
		t.Errorf("prices fell %d times, leasts were seen alike %d times", fell, alike)
	}
}

// isProved asks of the fit and the prices what promise 9 says, and answers what they cost.
func isProved(t *testing.T, c [][]int) int {
	fit, p, ok := impl.CheapestFit(c)
	is, isOk := impl.IsOrder(fit, len(c))
	cost, costOk := impl.FitCost(c, fit)
	sum, sumOk := impl.PriceSum(p)
	hold, holdOk := impl.PricesHold(c, p)
	tight, tightOk := impl.TightAt(c, p)
	if !ok || !is || !isOk || !costOk || !sumOk || !hold || !holdOk || !tightOk || len(tight) != len(c) {
		t.Fatalf("CheapestFit(%v) = %v %v %v: IsOrder %v %v, FitCost %v, PriceSum %v, PricesHold %v %v, TightAt %v %v", c, fit, p, ok, is, isOk, costOk, sumOk, hold, holdOk, tight, tightOk)
	}
	for load, bin := range fit {
		if !tight[load][bin] {
			t.Fatalf("CheapestFit(%v) = %v %v is not tight at load %d", c, fit, p, load)
		}
	}
	if cost != sum {
		t.Fatalf("CheapestFit(%v) = %v %v costs %d, its prices are %d", c, fit, p, cost, sum)
	}
	return cost
}

func TestPromise9NoOrderCostsLess(t *testing.T) {
	more := 0
	orders := map[int][][]int{}
	for many := range 6 {
		orders[many] = everyOrder(many)
	}
	for _, c := range smallCosts() {
		least := isProved(t, c)
		for _, order := range orders[len(c)] {
			cost, ok := impl.FitCost(c, order)
			if !ok || cost < least {
				t.Fatalf("FitCost(%v, %v) = %d %v, CheapestFit's costs %d", c, order, cost, ok, least)
			}
			if cost > least {
				more++
			}
		}
	}
	if more == 0 {
		t.Error("no order cost more than another one")
	}
}

func TestPromise9NoOrderOfTenCostsLess(t *testing.T) {
	for _, c := range greatCosts() {
		least := isProved(t, c)
		if want := leastFitCost(c); least != want {
			t.Fatalf("CheapestFit(%v) costs %d, not %d", c, least, want)
		}
		fit, _, _ := impl.CheapestFit(c)
		others := [][]int{countUp(len(c)), countDown(len(c)), oneRing(len(c))}
		for a := range fit {
			for b := range a {
				swapped := slices.Clone(fit)
				swapped[a], swapped[b] = fit[b], fit[a]
				others = append(others, swapped)
			}
		}
		for _, order := range others {
			if cost, ok := impl.FitCost(c, order); !ok || cost < least {
				t.Fatalf("FitCost(%v, %v) = %d %v, CheapestFit's costs %d", c, order, cost, ok, least)
			}
		}
	}
}

// Prices that hold never make up more than an order costs: so they prove that none costs less.
func TestPromise9PricesThatHoldAreNoMoreThanAnyOrder(t *testing.T) {
	held := map[bool]int{}
	lists := everyList([]int{-2, 0, 1, 3}, 2)
	for _, c := range everyCosts([]int{0, 1, 4}, 2) {
		for _, loads := range lists {
			for _, bins := range lists {
				if len(loads) != 2 || len(bins) != 2 {
					continue
				}
				p := pricesOf(loads, bins)
				hold, ok := impl.PricesHold(c, p)
				sum, sumOk := impl.PriceSum(p)
				if !ok || !sumOk || hold && sum > leastFitCost(c) {
					t.Fatalf("of %v: PricesHold(%v) %v %v, PriceSum %v %v, least %d", c, p, hold, ok, sum, sumOk, leastFitCost(c))
				}
				held[hold]++
			}
		}
	}
	if held[true] == 0 || held[false] == 0 {
		t.Errorf("prices held: %v", held)
	}
}

func TestFitCostByHand(t *testing.T) {
	c := [][]int{{4, 1, 7}, {2, 3, 0}, {5, 100, 6}}
	for _, k := range []struct {
		cost [][]int
		fit  []int
		want int
	}{
		{c, []int{0, 1, 2}, 13}, {c, []int{1, 2, 0}, 6}, {c, []int{2, 0, 1}, 109}, {c, []int{1, 0, 2}, 9}, {c, []int{2, 1, 0}, 15}, {c, []int{0, 2, 1}, 104},
		{[][]int{{0}}, []int{0}, 0}, {[][]int{{100}}, []int{0}, 100}, {sameCosts(10, 10, 100), oneRing(10), 1000}, {sameCosts(10, 10, 0), countDown(10), 0}, {timesCosts(10), countDown(10), 120}, {timesCosts(10), countUp(10), 285},
	} {
		if got, ok := impl.FitCost(k.cost, k.fit); got != k.want || !ok {
			t.Errorf("FitCost(%v, %v) = %v %v, not %v", k.cost, k.fit, got, ok, k.want)
		}
	}
}

func TestFitCostOfEachList(t *testing.T) {
	lists := everyList([]int{-1, 0, 1, 2, 3}, 4)
	for i := range 60 {
		c := mixedCosts(i, 1+i%4)
		for _, l := range lists {
			want := 0
			is := plainlyOrder(l, len(c))
			if is {
				want = plainFitCost(c, l)
			}
			if got, ok := impl.FitCost(c, l); got != want || ok != is {
				t.Fatalf("FitCost(%v, %v) = %v %v, not %v %v", c, l, got, ok, want, is)
			}
		}
	}
}

func TestFitCostOfManyOrders(t *testing.T) {
	for i, c := range greatCosts() {
		order := everyOrder(5)[i%120]
		for many := 5; many < len(c); many++ {
			order = slices.Insert(order, (i*7+many)%(many+1), many)
		}
		if len(order) != len(c) {
			order = countDown(len(c))
		}
		if got, ok := impl.FitCost(c, order); got != plainFitCost(c, order) || !ok {
			t.Fatalf("FitCost(%v, %v) = %v %v, not %v", c, order, got, ok, plainFitCost(c, order))
		}
	}
}

func TestPriceSumByHand(t *testing.T) {
	most := slices.Repeat([]int{100000}, 10)
	least := slices.Repeat([]int{-100000}, 10)
	for _, c := range []struct {
		loads, bins []int
		want        int
	}{
		{nil, nil, 0}, {[]int{}, nil, 0}, {nil, []int{}, 0}, {[]int{3}, []int{-5}, -2}, {[]int{1, 2, 3}, []int{10, 20, 30}, 66}, {[]int{7, 0}, []int{0, 0}, 7}, {[]int{0, 0}, []int{0, 7}, 7}, {most, most, 2000000}, {least, least, -2000000}, {most, least, 0}, {least, most, 0}, {countUp(10), countDown(10), 90},
	} {
		if got, ok := impl.PriceSum(pricesOf(c.loads, c.bins)); got != c.want || !ok {
			t.Errorf("PriceSum(%v, %v) = %v %v, not %v", c.loads, c.bins, got, ok, c.want)
		}
	}
}

func TestPriceSumAtItsEdges(t *testing.T) {
	for loads := range 13 {
		for bins := range 13 {
			for _, n := range []int{-100001, -100000, -99999, 0, 99999, 100000, 100001} {
				for _, m := range []int{-100001, -100000, 0, 100000, 100001} {
					isLoad := loads == 0 || n >= -100000 && n <= 100000
					isBin := bins == 0 || m >= -100000 && m <= 100000
					wantOk := loads == bins && loads <= 10 && isLoad && isBin
					want := 0
					if wantOk {
						want = loads*n + bins*m
					}
					got, ok := impl.PriceSum(pricesOf(slices.Repeat([]int{n}, loads), slices.Repeat([]int{m}, bins)))
					if got != want || ok != wantOk {
						t.Errorf("PriceSum of %d times %d and %d times %d = %v %v, not %v %v", loads, n, bins, m, got, ok, want, wantOk)
					}
				}
			}
		}
	}
}

// plainlyHold and plainTight go by bins first, and by one number after the other.
func plainlyHold(c [][]int, p impl.Prices) bool {
	for bin := range c {
		for load := range c {
			if p.Loads[load]+p.Bins[bin] > c[load][bin] {
				return false
			}
		}
	}
	return true
}

func plainTight(c [][]int, p impl.Prices) [][]bool {
	tight := sameFits(len(c), len(c), false)
	for bin := range c {
		for load := range c {
			tight[load][bin] = c[load][bin]-p.Bins[bin] == p.Loads[load]
		}
	}
	return tight
}

func TestPricesByHand(t *testing.T) {
	c := [][]int{{4, 1}, {2, 3}}
	for _, k := range []struct {
		cost        [][]int
		loads, bins []int
		hold        bool
		tight       [][]bool
	}{
		{c, []int{1, 2}, []int{0, 0}, true, fits(".x", "x.")},
		{c, []int{0, 0}, []int{0, 0}, true, fits("..", "..")},
		{c, []int{2, 2}, []int{0, 0}, false, fits("..", "x.")},
		{c, []int{1, 3}, []int{0, 0}, false, fits(".x", ".x")},
		{c, []int{4, 2}, []int{0, -3}, true, fits("xx", "x.")},
		{c, []int{0, 1}, []int{1, 1}, true, fits(".x", "x.")},
		{c, []int{0, 1}, []int{1, 2}, false, fits("..", "xx")},
		{c, []int{0, 1}, []int{2, 1}, false, fits(".x", "..")},
		{c, []int{-100000, -100000}, []int{-100000, -100000}, true, fits("..", "..")},
		{c, []int{-100000, -100000}, []int{100000, 100000}, true, fits("..", "..")},
		{c, []int{-99998, -99998}, []int{100000, 99999}, true, fits(".x", "x.")},
		{c, []int{100000, 100000}, []int{100000, 100000}, false, fits("..", "..")},
		{[][]int{{0}}, []int{0}, []int{0}, true, fits("x")},
		{[][]int{{0}}, []int{1}, []int{0}, false, fits(".")},
		{[][]int{{0}}, []int{0}, []int{1}, false, fits(".")},
		{[][]int{{0}}, []int{-1}, []int{1}, true, fits("x")},
		{[][]int{{100}}, []int{50}, []int{50}, true, fits("x")},
		{[][]int{{100}}, []int{51}, []int{50}, false, fits(".")},
		{[][]int{{100}}, []int{50}, []int{49}, true, fits(".")},
	} {
		p := pricesOf(k.loads, k.bins)
		if is, ok := impl.PricesHold(k.cost, p); is != k.hold || !ok {
			t.Errorf("PricesHold(%v, %v) = %v %v, not %v", k.cost, p, is, ok, k.hold)
		}
		if got, ok := impl.TightAt(k.cost, p); !equalFits(got, k.tight) || !ok {
			t.Errorf("TightAt(%v, %v) = %v %v, not %v", k.cost, p, got, ok, k.tight)
		}
	}
}

// arePricesAsSaid holds both functions of costs and prices against the document's sentence, and answers whether the prices hold.
func arePricesAsSaid(t *testing.T, c [][]int, p impl.Prices) bool {
	want := plainlyHold(c, p)
	if is, ok := impl.PricesHold(c, p); is != want || !ok {
		t.Fatalf("PricesHold(%v, %v) = %v %v, not %v", c, p, is, ok, want)
	}
	if got, ok := impl.TightAt(c, p); !equalFits(got, plainTight(c, p)) || !ok {
		t.Fatalf("TightAt(%v, %v) = %v %v, not %v", c, p, got, ok, plainTight(c, p))
	}
	return want
}

func TestPricesOfEachList(t *testing.T) {
	held := map[bool]int{}
	lists := everyList([]int{-3, -1, 0, 1, 2}, 2)
	for _, many := range []int{1, 2} {
		for _, c := range everyCosts([]int{0, 1, 3}, many) {
			for _, loads := range lists {
				for _, bins := range lists {
					if len(loads) == many && len(bins) == many {
						held[arePricesAsSaid(t, c, pricesOf(loads, bins))]++
					}
				}
			}
		}
	}
	if held[true] == 0 || held[false] == 0 {
		t.Errorf("prices held: %v", held)
	}
}

// Of the prices of the cheapest fit each one is as high as may be: one more of any makes them more than some cost.
func TestPricesOfTheCheapestFitRiseNoMore(t *testing.T) {
	for _, c := range greatCosts() {
		_, p, _ := impl.CheapestFit(c)
		for _, l := range [][]int{p.Loads, p.Bins} {
			for i := range l {
				for _, by := range []int{-1, 1} {
					l[i] += by
					if hold := arePricesAsSaid(t, c, p); hold != (by < 0) {
						t.Fatalf("PricesHold(%v, %v) is %v", c, p, hold)
					}
					l[i] -= by
				}
			}
		}
	}
}

func TestPricesOfOtherCountsAreRefused(t *testing.T) {
	for rows := 1; rows <= 10; rows++ {
		c := sameCosts(rows, rows, 1)
		for loads := range 13 {
			for bins := range 13 {
				p := pricesOf(make([]int, loads), make([]int, bins))
				want := loads == rows && bins == rows
				if is, ok := impl.PricesHold(c, p); is != want || ok != want {
					t.Errorf("PricesHold of %d rows, %d and %d prices = %v %v", rows, loads, bins, is, ok)
				}
				if got, ok := impl.TightAt(c, p); ok != want || !want && len(got) != 0 || want && len(got) != rows {
					t.Errorf("TightAt of %d rows, %d and %d prices = %v %v", rows, loads, bins, got, ok)
				}
			}
		}
	}
}

func TestPricesAtTheirEdges(t *testing.T) {
	for _, many := range []int{1, 2, 10} {
		c := sameCosts(many, many, 100)
		for _, n := range []int{-100001, -100000, 100000, 100001} {
			for _, m := range []int{-100001, -100000, -99900, -99899, 0, 100, 101, 100000, 100001} {
				p := pricesOf(slices.Repeat([]int{n}, many), slices.Repeat([]int{m}, many))
				if n < -100000 || n > 100000 || m < -100000 || m > 100000 {
					isRefusedPrices(t, c, p)
					continue
				}
				arePricesAsSaid(t, c, p)
			}
		}
	}
}

func TestReduceRowsByHand(t *testing.T) {
	for _, k := range []struct {
		cost, want [][]int
	}{
		{[][]int{{0}}, [][]int{{0}}}, {[][]int{{100}}, [][]int{{0}}}, {[][]int{{4, 1}, {2, 3}}, [][]int{{3, 0}, {0, 1}}}, {[][]int{{0, 1}, {2, 0}}, [][]int{{0, 1}, {2, 0}}}, {[][]int{{100, 0}, {100, 100}}, [][]int{{100, 0}, {0, 0}}},
		{[][]int{{5, 6, 7}, {7, 6, 5}, {6, 5, 7}}, [][]int{{0, 1, 2}, {2, 1, 0}, {1, 0, 2}}}, {[][]int{{9, 9, 1}, {9, 9, 2}, {9, 9, 3}}, [][]int{{8, 8, 0}, {7, 7, 0}, {6, 6, 0}}}, {sameCosts(10, 10, 100), sameCosts(10, 10, 0)}, {sameCosts(10, 10, 0), sameCosts(10, 10, 0)},
	} {
		if got, ok := impl.ReduceRows(k.cost); !equalRows(got, k.want) || !ok {
			t.Errorf("ReduceRows(%v) = %v %v, not %v", k.cost, got, ok, k.want)
		}
	}
}

func TestReduceRowsOfManyCosts(t *testing.T) {
	for _, c := range manyCosts() {
		reduced, ok := impl.ReduceRows(c)
		if !ok || !impl.GoodCosts(reduced) || len(reduced) != len(c) {
			t.Fatalf("ReduceRows(%v) = %v %v", c, reduced, ok)
		}
		taken := 0
		for load, row := range c {
			by := row[0] - reduced[load][0]
			taken += by
			for bin := range row {
				if row[bin]-reduced[load][bin] != by {
					t.Fatalf("ReduceRows(%v) = %v: row %d is less by unlike numbers", c, reduced, load)
				}
			}
			if !slices.Contains(reduced[load], 0) {
				t.Fatalf("ReduceRows(%v) = %v: no 0 in row %d", c, reduced, load)
			}
		}
		if cost, less := isProved(t, c), isProved(t, reduced); less != cost-taken {
			t.Fatalf("of %v the fit costs %d, with %d taken away %d", c, cost, taken, less)
		}
		if again, ok := impl.ReduceRows(reduced); !equalRows(again, reduced) || !ok {
			t.Fatalf("ReduceRows(%v) = %v %v", reduced, again, ok)
		}
	}
}

func isRefusedPrices(t *testing.T, c [][]int, p impl.Prices) {
	if is, ok := impl.PricesHold(c, p); is || ok {
		t.Errorf("PricesHold(%v, %v) = %v %v", c, p, is, ok)
	}
	if got, ok := impl.TightAt(c, p); len(got) != 0 || ok {
		t.Errorf("TightAt(%v, %v) = %v %v", c, p, got, ok)
	}
}

func isRefusedFit(t *testing.T, c [][]int, fit []int) {
	if got, ok := impl.FitCost(c, fit); got != 0 || ok {
		t.Errorf("FitCost(%v, %v) = %v %v", c, fit, got, ok)
	}
}

func TestPromise19NoWrongCostsAreFitted(t *testing.T) {
	for _, c := range wrongCosts() {
		if fit, p, ok := impl.CheapestFit(c); len(fit) != 0 || !isNoPrices(p) || ok {
			t.Errorf("CheapestFit(%v) = %v %v %v", c, fit, p, ok)
		}
		if got, ok := impl.ReduceRows(c); len(got) != 0 || ok {
			t.Errorf("ReduceRows(%v) = %v %v", c, got, ok)
		}
		for _, fit := range [][]int{nil, {0}, {-1}, countUp(len(c)), countDown(len(c)), make([]int, len(c)), {math.MinInt}, {math.MaxInt}} {
			isRefusedFit(t, c, fit)
		}
		for _, many := range []int{0, 1, len(c), 10} {
			isRefusedPrices(t, c, pricesOf(make([]int, many), make([]int, many)))
			isRefusedPrices(t, c, pricesOf(slices.Repeat([]int{-50}, many), slices.Repeat([]int{-50}, many)))
		}
		isRefusedPrices(t, c, pricesOf(slices.Repeat([]int{math.MinInt}, len(c)), slices.Repeat([]int{math.MaxInt}, len(c))))
	}
}

func TestPromise19NoWrongOrderIsAFit(t *testing.T) {
	for _, many := range []int{1, 2, 3, 7, 10} {
		c := mixedCosts(many, many)
		for _, order := range [][]int{countUp(many), countDown(many), oneRing(many)} {
			if got, ok := impl.FitCost(c, order); got != plainFitCost(c, order) || !ok {
				t.Errorf("FitCost(%v, %v) = %v %v", c, order, got, ok)
			}
			for _, fit := range noOrders(order) {
				if !plainlyOrder(fit, many) {
					isRefusedFit(t, c, fit)
				}
			}
		}
		isRefusedFit(t, c, nil)
		isRefusedFit(t, c, []int{})
		isRefusedFit(t, c, countUp(many+1))
		isRefusedFit(t, c, countUp(many-1))
		isRefusedFit(t, c, countUp(1000))
		isRefusedFit(t, c, slices.Repeat([]int{-1}, many))
	}
}

func TestPromise19NoWrongPricesAreTaken(t *testing.T) {
	for many := range 11 {
		for _, p := range wrongPrices(many) {
			if got, ok := impl.PriceSum(p); got != 0 || ok {
				t.Errorf("PriceSum(%v) = %v %v", p, got, ok)
			}
			for _, rows := range []int{many, len(p.Loads), len(p.Bins)} {
				isRefusedPrices(t, sameCosts(rows, rows, 100), p)
			}
		}
	}
}

func TestPromise19FitsShareNothing(t *testing.T) {
	// Each row has a 0, so that handing it out would not be seen by what it holds; and so are the fit and the prices alike.
	c := [][]int{{0, 9, 9}, {9, 0, 9}, {9, 9, 0}}
	p := pricesOf([]int{0, 0, 0}, []int{0, 0, 0})
	var lists [][]int
	for range 2 {
		fit, prices, ok := impl.CheapestFit(c)
		reduced, reducedOk := impl.ReduceRows(c)
		if !ok || !reducedOk || len(fit) != 3 || !samePrices(prices, p) || !equalRows(reduced, c) {
			t.Fatal(fit, prices, reduced)
		}
		lists = append(append(lists, fit, prices.Loads, prices.Bins), reduced...)
	}
	shareNone(t, "chapter 9", append(append(lists, p.Loads, p.Bins), c...)...)
	again := [][]int{{1, 2}, {1, 4}}
	if fit, prices, ok := impl.CheapestFit(again); !slices.Equal(fit, []int{1, 0}) || !samePrices(prices, pricesOf([]int{2, 2}, []int{-1, 0})) || !ok {
		t.Errorf("CheapestFit = %v %v %v behind a write into earlier answers", fit, prices, ok)
	}
	// The list of rows is new, too.
	reduced, _ := impl.ReduceRows([][]int{{0, 1}, {3, 0}})
	whole := reduced[:cap(reduced)]
	clear(whole)
	if got, ok := impl.ReduceRows([][]int{{0, 1}, {3, 0}}); !equalRows(got, [][]int{{0, 1}, {3, 0}}) || !ok {
		t.Errorf("ReduceRows = %v %v behind a write into its rows", got, ok)
	}
}

func TestPromise19ManyFitsShareNothing(t *testing.T) {
	for _, c := range greatCosts() {
		fit, p, _ := impl.CheapestFit(c)
		reduced, _ := impl.ReduceRows(c)
		shareNone(t, "CheapestFit", fit, p.Loads, p.Bins)
		shareNone(t, "ReduceRows", append(reduced, cloneRows(c)...)...)
	}
}

func TestPromise19TightRowsShareNothing(t *testing.T) {
	c := sameCosts(3, 3, 1)
	p := pricesOf([]int{1, 1, 1}, []int{0, 0, 0})
	first, _ := impl.TightAt(c, p)
	second, _ := impl.TightAt(c, p)
	rows := slices.Concat(first, second)
	for i, row := range rows {
		whole := row[:cap(row)]
		for j := range whole {
			whole[j] = false
		}
		for k, other := range rows {
			if len(other) != 3 || slices.Contains(other, k <= i) {
				t.Fatalf("TightAt: rows %d and %d share memory: %v", i, k, rows)
			}
		}
	}
	clear(first[:cap(first)])
	if got, ok := impl.TightAt(c, p); !equalFits(got, sameFits(3, 3, true)) || !ok {
		t.Errorf("TightAt = %v %v behind a write into earlier answers", got, ok)
	}
}

// cutCosts lets two more numbers stand behind each row's length, and two more rows behind the last one.
func cutCosts(c [][]int, behind int) [][]int {
	var full [][]int
	for _, row := range c {
		full = append(full, cutList(row, behind))
	}
	row := slices.Repeat([]int{behind}, len(c)+1)
	return append(full, row, slices.Clone(row))[:len(c)]
}

// fullCosts has what stands behind the lengths, too.
func fullCosts(cut [][]int) [][]int {
	var full [][]int
	for load, row := range cut[:len(cut)+2] {
		if load < len(cut) {
			row = row[:len(row)+2]
		}
		full = append(full, slices.Clone(row))
	}
	return full
}

// costsHangOn tells whether a function of costs alone answers otherwise for cut than for plain ones.
func costsHangOn(c [][]int, cut [][]int) bool {
	fit, p, ok := impl.CheapestFit(c)
	cutFit, cutP, cutOk := impl.CheapestFit(cut)
	reduced, reducedOk := impl.ReduceRows(c)
	cutReduced, cutReducedOk := impl.ReduceRows(cut)
	return impl.GoodCosts(c) != impl.GoodCosts(cut) || !slices.Equal(fit, cutFit) || !samePrices(p, cutP) || ok != cutOk || !equalRows(reduced, cutReduced) || reducedOk != cutReducedOk
}

// pricesHangOn tells whether a function of prices answers otherwise for cut than for plain ones.
func pricesHangOn(c [][]int, p impl.Prices, cut [][]int, cutP impl.Prices) bool {
	p = pricesOf(slices.Clone(p.Loads), slices.Clone(p.Bins))
	hold, holdOk := impl.PricesHold(c, p)
	cutHold, cutHoldOk := impl.PricesHold(cut, cutP)
	tight, tightOk := impl.TightAt(c, p)
	cutTight, cutTightOk := impl.TightAt(cut, cutP)
	sum, sumOk := impl.PriceSum(p)
	cutSum, cutSumOk := impl.PriceSum(cutP)
	return hold != cutHold || holdOk != cutHoldOk || !equalFits(tight, cutTight) || tightOk != cutTightOk || sum != cutSum || sumOk != cutSumOk
}

// somePrices are those that prove a fit, where there is one, and some that are not as said.
func somePrices(c [][]int) []impl.Prices {
	many := len(c)
	l := []impl.Prices{{}, pricesOf(make([]int, many), make([]int, many)), pricesOf(countUp(many), countDown(many)), pricesOf(make([]int, many+1), make([]int, many+1)), pricesOf(make([]int, many), nil), pricesOf([]int{math.MinInt}, []int{math.MaxInt})}
	if impl.GoodCosts(c) {
		l = append(l, plainFitOf(c).prices)
	}
	return l
}

func TestPromise19NoCostsFitsOrPricesAreWritten(t *testing.T) {
	for _, c := range append(wrongCosts(), greatCosts()...) {
		for _, behind := range []int{-1, 0, len(c), 100} {
			cut := cutCosts(c, behind)
			before := fullCosts(cut)
			if costsHangOn(c, cut) {
				t.Errorf("what is told of %v hangs on what lies behind it", c)
			}
			for _, fit := range [][]int{nil, countUp(len(c)), countDown(len(c)), oneRing(len(c)), countUp(len(c) + 1), make([]int, len(c))} {
				cutFit := cutList(fit, behind)
				cost, ok := impl.FitCost(c, slices.Clone(fit))
				if cutCost, cutOk := impl.FitCost(cut, cutFit); cutCost != cost || cutOk != ok {
					t.Errorf("FitCost(%v, %v) hangs on what lies behind them", c, fit)
				}
				isAsBefore(t, cutFit, fit, behind)
			}
			for _, p := range somePrices(c) {
				cutP := pricesOf(cutList(p.Loads, behind), cutList(p.Bins, behind))
				if pricesHangOn(c, p, cut, cutP) {
					t.Errorf("what is told of %v and %v hangs on what lies behind them", c, p)
				}
				isAsBefore(t, cutP.Loads, p.Loads, behind)
				isAsBefore(t, cutP.Bins, p.Bins, behind)
			}
			if !equalRows(fullCosts(cut), before) {
				t.Errorf("%v was made of %v", fullCosts(cut), before)
			}
		}
	}
}
