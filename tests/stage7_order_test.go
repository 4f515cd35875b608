package tests

import (
	"math"
	"slices"
	"testing"

	"loop.example/g00451/impl"
)

func family(weight int, many int) impl.Family {
	return impl.Family{Weight: weight, Many: many}
}

// countUp has 0 up to many - 1.
func countUp(many int) []int {
	l := []int{}
	for i := range many {
		l = append(l, i)
	}
	return l
}

// countDown has many - 1 down to 0.
func countDown(many int) []int {
	l := countUp(many)
	slices.Reverse(l)
	return l
}

// oneRing leads each number to the next one, and the last one to the first one.
func oneRing(many int) []int {
	l := []int{}
	for i := range many {
		l = append(l, (i+1)%many)
	}
	return l
}

// everyOrder has all orders of so many: each one of one fewer with the last number put in at each place.
func everyOrder(many int) [][]int {
	all := [][]int{{}}
	for n := range many {
		var next [][]int
		for _, order := range all {
			for at := range len(order) + 1 {
				next = append(next, slices.Insert(slices.Clone(order), at, n))
			}
		}
		all = next
	}
	return all
}

// A stock is what the functions of uses and ways are asked of.
type stock struct {
	use []int
	way []int
}

// smallStocks are few enough that all of their orders can be gone through: many have uses or ways that are alike.
func smallStocks() []stock {
	var l []stock
	values := everyList([]int{0, 1, 3}, 3)
	for _, use := range values {
		for _, way := range values {
			if len(use) == len(way) {
				l = append(l, stock{use, way})
			}
		}
	}
	for i := range 120 {
		l = append(l, mixedStock(i, 4+i%2))
	}
	for i := range 24 {
		l = append(l, mixedStock(i, 6))
	}
	return l
}

// mixedStock has uses and ways in no plain order, of few values or of many.
func mixedStock(i int, many int) stock {
	span := []int{2, 3, 12, 1001}[i%4]
	var s stock
	for j := range many {
		s.use = append(s.use, (i*i*101+j*j*617+i*j*37+j*211)%span)
		s.way = append(s.way, (i*i*83+j*j*409+i*j*59+i*7+j*31)%span)
	}
	return s
}

// greatStocks are up to ten goods, among them the least and the greatest of all.
func greatStocks() []stock {
	same := func(n int) []int { return slices.Repeat([]int{n}, 10) }
	l := []stock{
		{nil, nil}, {[]int{}, []int{}}, {nil, []int{}}, {[]int{0}, []int{0}}, {[]int{1000}, []int{1000}}, {same(0), same(0)}, {same(1000), same(1000)}, {same(0), same(1000)}, {same(1000), same(0)}, {countUp(10), countUp(10)}, {countUp(10), countDown(10)}, {countDown(10), countUp(10)}, {countDown(10), countDown(10)}, {same(7), countDown(10)}, {countUp(10), same(7)},
	}
	for i := range 150 {
		l = append(l, mixedStock(i, 7+i%4))
	}
	return l
}

func plainPairs(use []int, way []int) int {
	cost := 0
	for i := range way {
		cost += use[i] * way[i]
	}
	return cost
}

// plainOrderCost goes by goods, not by places: each one's use times the way of the place that has it.
func plainOrderCost(use []int, way []int, order []int) int {
	cost := 0
	for good := range use {
		cost += use[good] * way[slices.Index(order, good)]
	}
	return cost
}

// leastOrderCost is the least of all orders: for each set of goods the least with which these fill the first places.
func leastOrderCost(use []int, way []int) int {
	least := make([]int, 1<<len(use))
	for set := 1; set < len(least); set++ {
		least[set] = math.MaxInt
		place := -1
		for good := range use {
			place += set >> good & 1
		}
		for good := range use {
			if set>>good&1 == 1 {
				least[set] = min(least[set], least[set&^(1<<good)]+use[good]*way[place])
			}
		}
	}
	return least[len(least)-1]
}

// plainOrderFor takes place by place the first nearest one that is left, for the first good with the most use that is left.
func plainOrderFor(use []int, way []int) []int {
	order := slices.Repeat([]int{-1}, len(way))
	for range way {
		place, good := -1, -1
		for i := range way {
			if order[i] == -1 && (place == -1 || way[i] < way[place]) {
				place = i
			}
			if !slices.Contains(order, i) && (good == -1 || use[i] > use[good]) {
				good = i
			}
		}
		order[place] = good
	}
	return order
}

func TestPairCostByHand(t *testing.T) {
	ten := slices.Repeat([]int{1000}, 10)
	for _, c := range []struct {
		use, way []int
		want     int
	}{
		{nil, nil, 0}, {[]int{}, nil, 0}, {[]int{0}, []int{0}, 0}, {[]int{3}, []int{5}, 15}, {[]int{0}, []int{1000}, 0}, {[]int{1000}, []int{0}, 0}, {[]int{1000}, []int{1000}, 1000000}, {[]int{1, 5}, []int{2, 3}, 17}, {[]int{5, 1}, []int{2, 3}, 13}, {[]int{1, 2, 3}, []int{4, 5, 6}, 32}, {[]int{1, 2, 3}, []int{6, 5, 4}, 28}, {ten, ten, 10000000}, {countUp(10), countUp(10), 285}, {countUp(10), countDown(10), 120},
	} {
		if got, ok := impl.PairCost(c.use, c.way); got != c.want || !ok {
			t.Errorf("PairCost(%v, %v) = %v %v, not %v", c.use, c.way, got, ok, c.want)
		}
	}
}

func TestPairCostOfManyStocks(t *testing.T) {
	for _, s := range append(smallStocks(), greatStocks()...) {
		if got, ok := impl.PairCost(s.use, s.way); got != plainPairs(s.use, s.way) || !ok {
			t.Fatalf("PairCost(%v, %v) = %v %v, not %v", s.use, s.way, got, ok, plainPairs(s.use, s.way))
		}
	}
}

func TestOrderCostByHand(t *testing.T) {
	for _, c := range []struct {
		use, way, order []int
		want            int
	}{
		{nil, nil, nil, 0}, {nil, nil, []int{}, 0}, {[]int{3}, []int{5}, []int{0}, 15}, {[]int{1, 5}, []int{2, 3}, []int{0, 1}, 17}, {[]int{1, 5}, []int{2, 3}, []int{1, 0}, 13},
		// An order that is not its own way back tells whether it is read by places or by goods.
		{[]int{1, 10, 100}, []int{2, 3, 5}, []int{1, 2, 0}, 325}, {[]int{1, 10, 100}, []int{2, 3, 5}, []int{2, 0, 1}, 253}, {[]int{1, 10, 100}, []int{2, 3, 5}, []int{0, 1, 2}, 532},
		{slices.Repeat([]int{1000}, 10), slices.Repeat([]int{1000}, 10), countDown(10), 10000000}, {countUp(10), countUp(10), countDown(10), 120}, {countUp(10), countUp(10), oneRing(10), 240},
	} {
		if got, ok := impl.OrderCost(c.use, c.way, c.order); got != c.want || !ok {
			t.Errorf("OrderCost(%v, %v, %v) = %v %v, not %v", c.use, c.way, c.order, got, ok, c.want)
		}
	}
}

func TestOrderCostOfEachOrder(t *testing.T) {
	for _, s := range smallStocks() {
		for _, order := range everyOrder(len(s.use)) {
			want := plainOrderCost(s.use, s.way, order)
			if got, ok := impl.OrderCost(s.use, s.way, order); got != want || !ok {
				t.Fatalf("OrderCost(%v, %v, %v) = %v %v, not %v", s.use, s.way, order, got, ok, want)
			}
		}
	}
	for _, s := range greatStocks() {
		many := len(s.use)
		pairs, _ := impl.PairCost(s.use, s.way)
		if got, ok := impl.OrderCost(s.use, s.way, countUp(many)); got != pairs || !ok {
			t.Fatalf("OrderCost(%v, %v) number by number is %v %v, not %v", s.use, s.way, got, ok, pairs)
		}
		for _, order := range [][]int{countDown(many), oneRing(many)} {
			want := plainOrderCost(s.use, s.way, order)
			if got, ok := impl.OrderCost(s.use, s.way, order); got != want || !ok {
				t.Fatalf("OrderCost(%v, %v, %v) = %v %v, not %v", s.use, s.way, order, got, ok, want)
			}
		}
	}
}

func TestOrderForByHand(t *testing.T) {
	for _, c := range []struct{ use, way, want []int }{
		{nil, nil, nil}, {[]int{}, nil, nil}, {[]int{0}, []int{1000}, []int{0}}, {[]int{1, 5}, []int{2, 3}, []int{1, 0}}, {[]int{5, 1}, []int{2, 3}, []int{0, 1}}, {[]int{1, 5}, []int{3, 2}, []int{0, 1}}, {[]int{5, 1}, []int{3, 2}, []int{1, 0}},
		// The order tells each place its good, not each good its place.
		{[]int{1, 10, 100}, []int{3, 5, 2}, []int{1, 0, 2}}, {[]int{10, 100, 1}, []int{2, 3, 5}, []int{1, 0, 2}}, {[]int{10, 1, 100}, []int{2, 3, 5}, []int{2, 0, 1}}, {[]int{100, 10, 1}, []int{5, 2, 3}, []int{2, 0, 1}},
		// As near ones, and goods of as much use, are taken in order.
		{[]int{1, 5}, []int{4, 4}, []int{1, 0}}, {[]int{5, 1}, []int{4, 4}, []int{0, 1}}, {[]int{4, 4}, []int{1, 5}, []int{0, 1}}, {[]int{4, 4}, []int{5, 1}, []int{1, 0}}, {[]int{4, 4, 4}, []int{7, 7, 7}, []int{0, 1, 2}}, {[]int{0, 0, 0}, []int{0, 0, 0}, []int{0, 1, 2}}, {[]int{2, 9, 2, 9}, []int{6, 1, 6, 1}, []int{0, 1, 2, 3}}, {[]int{2, 9, 2, 9}, []int{1, 6, 1, 6}, []int{1, 0, 3, 2}}, {[]int{3, 3, 8, 3}, []int{5, 5, 5, 0}, []int{0, 1, 3, 2}},
		{slices.Repeat([]int{1000}, 10), slices.Repeat([]int{1000}, 10), countUp(10)}, {countUp(10), countUp(10), countDown(10)}, {countUp(10), countDown(10), countUp(10)}, {slices.Repeat([]int{7}, 10), countDown(10), countDown(10)}, {countUp(10), slices.Repeat([]int{7}, 10), countDown(10)},
	} {
		if got, ok := impl.OrderFor(c.use, c.way); !slices.Equal(got, c.want) || !ok {
			t.Errorf("OrderFor(%v, %v) = %v %v, not %v", c.use, c.way, got, ok, c.want)
		}
	}
}

func TestOrderForOfManyStocks(t *testing.T) {
	for _, s := range append(smallStocks(), greatStocks()...) {
		want := plainOrderFor(s.use, s.way)
		if got, ok := impl.OrderFor(s.use, s.way); !slices.Equal(got, want) || !ok {
			t.Fatalf("OrderFor(%v, %v) = %v %v, not %v", s.use, s.way, got, ok, want)
		}
	}
}

func TestPromise7NoOrderCostsLess(t *testing.T) {
	more := 0
	for _, s := range smallStocks() {
		best, ok := impl.OrderFor(s.use, s.way)
		least, leastOk := impl.OrderCost(s.use, s.way, best)
		for _, order := range everyOrder(len(s.use)) {
			cost, costOk := impl.OrderCost(s.use, s.way, order)
			if !ok || !leastOk || !costOk || cost < least {
				t.Fatalf("of %v and %v %v costs %d %v, but OrderFor's %v %d %v", s.use, s.way, order, cost, costOk, best, least, leastOk)
			}
			if cost > least {
				more++
			}
		}
	}
	if more == 0 {
		t.Error("no order cost more than another one")
	}
}

func TestPromise7NoOrderOfTenCostsLess(t *testing.T) {
	for _, s := range greatStocks() {
		best, ok := impl.OrderFor(s.use, s.way)
		want := leastOrderCost(s.use, s.way)
		if got, costOk := impl.OrderCost(s.use, s.way, best); got != want || !ok || !costOk {
			t.Fatalf("OrderFor(%v, %v) = %v costs %d %v, the least is %d", s.use, s.way, best, got, costOk, want)
		}
	}
}

func TestSwapGainByHand(t *testing.T) {
	use, way := []int{1, 10, 100}, []int{2, 3, 5}
	for _, c := range []struct {
		use, way, order []int
		a, b            int
		want            int
	}{
		{[]int{1, 5}, []int{2, 3}, []int{0, 1}, 0, 1, 4}, {[]int{1, 5}, []int{2, 3}, []int{0, 1}, 1, 0, 4}, {[]int{1, 5}, []int{2, 3}, []int{1, 0}, 0, 1, -4}, {[]int{1, 5}, []int{2, 3}, []int{1, 0}, 0, 0, 0}, {[]int{1, 5}, []int{2, 3}, []int{1, 0}, 1, 1, 0}, {[]int{1000}, []int{1000}, []int{0}, 0, 0, 0},
		// a and b are places, not goods: here place 0 has good 1, place 1 good 2, and place 2 good 0.
		{use, way, []int{1, 2, 0}, 0, 1, 90}, {use, way, []int{1, 2, 0}, 0, 2, -27}, {use, way, []int{1, 2, 0}, 1, 2, -198}, {use, way, []int{1, 2, 0}, 2, 1, -198},
		// Alike uses, or places as near, gain nothing.
		{[]int{4, 4}, []int{1, 9}, []int{0, 1}, 0, 1, 0}, {[]int{1, 9}, []int{4, 4}, []int{0, 1}, 0, 1, 0},
		{[]int{0, 1000}, []int{0, 1000}, []int{0, 1}, 0, 1, 1000000}, {[]int{0, 1000}, []int{0, 1000}, []int{1, 0}, 0, 1, -1000000}, {countUp(10), countUp(10), countUp(10), 0, 9, 81}, {countUp(10), countUp(10), countDown(10), 9, 0, -81},
	} {
		if got, ok := impl.SwapGain(c.use, c.way, c.order, c.a, c.b); got != c.want || !ok {
			t.Errorf("SwapGain(%v, %v, %v, %d, %d) = %v %v, not %v", c.use, c.way, c.order, c.a, c.b, got, ok, c.want)
		}
	}
}

// isLessBySwap asks at each two places how much less an order costs with their goods changed, and counts the gains above, at and below 0.
func isLessBySwap(t *testing.T, s stock, order []int, signs map[string]int) {
	cost := plainOrderCost(s.use, s.way, order)
	for a := range order {
		for b := range order {
			other := slices.Clone(order)
			other[a], other[b] = order[b], order[a]
			want := cost - plainOrderCost(s.use, s.way, other)
			if got, ok := impl.SwapGain(s.use, s.way, order, a, b); got != want || !ok {
				t.Fatalf("SwapGain(%v, %v, %v, %d, %d) = %v %v, not %v", s.use, s.way, order, a, b, got, ok, want)
			}
			switch {
			case want > 0:
				signs["above"]++
			case want < 0:
				signs["below"]++
			case a != b:
				signs["at"]++
			}
		}
	}
}

func TestSwapGainIsHowMuchLessAnOrderCosts(t *testing.T) {
	signs := map[string]int{}
	for _, s := range smallStocks() {
		if len(s.use) > 5 {
			continue
		}
		for _, order := range everyOrder(len(s.use)) {
			isLessBySwap(t, s, order, signs)
		}
	}
	for _, s := range greatStocks() {
		for _, order := range [][]int{countUp(len(s.use)), countDown(len(s.use)), oneRing(len(s.use))} {
			isLessBySwap(t, s, order, signs)
		}
	}
	if signs["above"] == 0 || signs["below"] == 0 || signs["at"] == 0 {
		t.Errorf("gains were %v", signs)
	}
}

func TestPromise7NoSwapBettersTheBest(t *testing.T) {
	for _, s := range append(smallStocks(), greatStocks()...) {
		best, _ := impl.OrderFor(s.use, s.way)
		for a := range best {
			for b := range best {
				if got, ok := impl.SwapGain(s.use, s.way, best, a, b); got > 0 || !ok {
					t.Fatalf("SwapGain(%v, %v, %v, %d, %d) = %v %v", s.use, s.way, best, a, b, got, ok)
				}
			}
		}
	}
}

// everyFamilies has all lists of up to so many of these families.
func everyFamilies(each []impl.Family, many int) [][]impl.Family {
	var all [][]impl.Family
	for _, list := range everyList(countUp(len(each)), many) {
		var l []impl.Family
		for _, n := range list {
			l = append(l, each[n])
		}
		all = append(all, l)
	}
	return all
}

// manyFamilies are up to six, among them those that are as great but not alike, and those that a division would make alike.
func manyFamilies() [][]impl.Family {
	l := everyFamilies([]impl.Family{family(0, 1), family(0, 9), family(1, 1), family(2, 1), family(4, 2), family(5, 2), family(6, 3), family(1000, 9)}, 3)
	l = append(l, everyFamilies([]impl.Family{family(2, 1), family(4, 2), family(7, 3)}, 5)...)
	for i := range 200 {
		l = append(l, mixedFamilies(i, 4+i%3))
	}
	return l
}

func mixedFamilies(i int, many int) []impl.Family {
	span := []int{3, 10, 1001}[i%3]
	var l []impl.Family
	for j := range many {
		l = append(l, family((i*i*101+j*j*617+i*j*37+j*211)%span, 1+(i*i*7+j*j*5+i*j*3+j)%9))
	}
	return l
}

// plainSmith has each Weight as often as the Many of those up to it.
func plainSmith(l []impl.Family, order []int) int {
	cost := 0
	for i, n := range order {
		for _, ahead := range order[:i+1] {
			cost += l[n].Weight * l[ahead].Many
		}
	}
	return cost
}

// isHeavier tells whether a family has more Weight for each of its Many than another one: nine and less parts are all told by 2520.
func isHeavier(a impl.Family, b impl.Family) bool {
	return a.Weight*(2520/a.Many) > b.Weight*(2520/b.Many)
}

// plainSmithOrder takes the first heaviest of those that are left.
func plainSmithOrder(l []impl.Family) []int {
	var order []int
	for range l {
		best := -1
		for i := range l {
			if !slices.Contains(order, i) && (best == -1 || isHeavier(l[i], l[best])) {
				best = i
			}
		}
		order = append(order, best)
	}
	return order
}

func TestSmithCostByHand(t *testing.T) {
	two := []impl.Family{family(3, 3), family(4, 1)}
	three := []impl.Family{family(1, 2), family(10, 3), family(100, 5)}
	for _, c := range []struct {
		l     []impl.Family
		order []int
		want  int
	}{
		{nil, nil, 0}, {[]impl.Family{}, []int{}, 0}, {[]impl.Family{family(0, 1)}, []int{0}, 0}, {[]impl.Family{family(5, 3)}, []int{0}, 15}, {[]impl.Family{family(1000, 9)}, []int{0}, 9000}, {two, []int{1, 0}, 16}, {two, []int{0, 1}, 25},
		// An order that is not its own way back: the families come as it tells, the first one first.
		{three, []int{0, 1, 2}, 2 + 50 + 1000}, {three, []int{1, 2, 0}, 30 + 800 + 10}, {three, []int{2, 0, 1}, 500 + 7 + 100}, {three, []int{2, 1, 0}, 500 + 80 + 10},
		{slices.Repeat([]impl.Family{family(1000, 9)}, 6), countUp(6), 189000}, {slices.Repeat([]impl.Family{family(1, 1)}, 6), countDown(6), 21}, {slices.Repeat([]impl.Family{family(0, 9)}, 6), countDown(6), 0},
	} {
		if got, ok := impl.SmithCost(c.l, c.order); got != c.want || !ok {
			t.Errorf("SmithCost(%v, %v) = %v %v, not %v", c.l, c.order, got, ok, c.want)
		}
	}
}

func TestSmithOrderByHand(t *testing.T) {
	for _, c := range []struct {
		l    []impl.Family
		want []int
	}{
		{nil, nil}, {[]impl.Family{}, nil}, {[]impl.Family{family(0, 1)}, []int{0}}, {[]impl.Family{family(3, 3), family(4, 1)}, []int{1, 0}}, {[]impl.Family{family(4, 1), family(3, 3)}, []int{0, 1}},
		// It goes neither by Weight alone nor by Many alone.
		{[]impl.Family{family(8, 9), family(2, 1)}, []int{1, 0}}, {[]impl.Family{family(2, 1), family(9, 2)}, []int{1, 0}}, {[]impl.Family{family(0, 1), family(1, 9)}, []int{1, 0}}, {[]impl.Family{family(999, 1), family(1000, 9)}, []int{0, 1}},
		// As great ones are taken in order, also where they are not alike.
		{[]impl.Family{family(2, 1), family(4, 2)}, []int{0, 1}}, {[]impl.Family{family(4, 2), family(2, 1)}, []int{0, 1}}, {[]impl.Family{family(6, 3), family(2, 1), family(4, 2)}, []int{0, 1, 2}}, {[]impl.Family{family(1, 1), family(6, 3), family(2, 1), family(3, 1), family(4, 2)}, []int{3, 1, 2, 4, 0}}, {[]impl.Family{family(0, 9), family(0, 1), family(0, 5)}, []int{0, 1, 2}}, {slices.Repeat([]impl.Family{family(1000, 9)}, 6), countUp(6)},
		// What a division would make alike is not: 5/2 is above 2, 7/3 between them, and 1000/9 just above 999/9.
		{[]impl.Family{family(2, 1), family(7, 3), family(5, 2)}, []int{2, 1, 0}}, {[]impl.Family{family(999, 9), family(1000, 9)}, []int{1, 0}}, {[]impl.Family{family(111, 1), family(1000, 9), family(889, 8)}, []int{2, 1, 0}}, {[]impl.Family{family(1, 9), family(1, 8), family(1, 7), family(1, 3), family(1, 2), family(1, 1)}, countDown(6)},
	} {
		if got, ok := impl.SmithOrder(c.l); !slices.Equal(got, c.want) || !ok {
			t.Errorf("SmithOrder(%v) = %v %v, not %v", c.l, got, ok, c.want)
		}
	}
}

func TestSmithOrderOfManyFamilies(t *testing.T) {
	for _, l := range manyFamilies() {
		if got, ok := impl.SmithOrder(l); !slices.Equal(got, plainSmithOrder(l)) || !ok {
			t.Fatalf("SmithOrder(%v) = %v %v, not %v", l, got, ok, plainSmithOrder(l))
		}
	}
}

func TestSmithOrderOfEachTwoFamilies(t *testing.T) {
	for weight := range 60 {
		for many := range 81 {
			a, b := family(weight, 1+many/9), family(weight*3/2, 1+many%9)
			for _, l := range [][]impl.Family{{a, b}, {b, a}} {
				if got, ok := impl.SmithOrder(l); !slices.Equal(got, plainSmithOrder(l)) || !ok {
					t.Fatalf("SmithOrder(%v) = %v %v, not %v", l, got, ok, plainSmithOrder(l))
				}
			}
		}
	}
}

func TestPromise7NoOrderOfFamiliesCostsLess(t *testing.T) {
	more := 0
	for _, l := range manyFamilies() {
		best, ok := impl.SmithOrder(l)
		least, leastOk := impl.SmithCost(l, best)
		for _, order := range everyOrder(len(l)) {
			cost, costOk := impl.SmithCost(l, order)
			if !ok || !leastOk || !costOk || cost < least || cost != plainSmith(l, order) {
				t.Fatalf("of %v %v costs %d %v, not %d; SmithOrder's %v %d %v", l, order, cost, costOk, plainSmith(l, order), best, least, leastOk)
			}
			if cost > least {
				more++
			}
		}
	}
	if more == 0 {
		t.Error("no order of families cost more than another one")
	}
}

// plainlyOrder holds a list, sorted, against 0 up to many - 1.
func plainlyOrder(order []int, many int) bool {
	return slices.Equal(slices.Sorted(slices.Values(order)), countUp(many))
}

func TestIsOrderOfEachList(t *testing.T) {
	orders := 0
	for _, order := range everyList([]int{-1, 0, 1, 2, 3, 4}, 5) {
		for many := range 7 {
			want := plainlyOrder(order, many)
			if is, ok := impl.IsOrder(order, many); is != want || !ok {
				t.Fatalf("IsOrder(%v, %d) = %v %v, not %v", order, many, is, ok, want)
			}
			if want {
				orders++
			}
		}
	}
	if orders != 1+1+2+6+24+120 {
		t.Errorf("%d lists are orders", orders)
	}
}

func TestIsOrderAtItsEdges(t *testing.T) {
	for many := 0; many <= 10; many++ {
		for _, order := range [][]int{countUp(many), countDown(many), oneRing(many)} {
			for other := 0; other <= 10; other++ {
				if is, ok := impl.IsOrder(order, other); is != (other == many) || !ok {
					t.Errorf("IsOrder(%v, %d) = %v %v", order, other, is, ok)
				}
			}
			for _, list := range noOrders(order) {
				if is, ok := impl.IsOrder(list, many); is || !ok {
					t.Errorf("IsOrder(%v, %d) = %v %v", list, many, is, ok)
				}
			}
		}
	}
	if is, ok := impl.IsOrder(nil, 0); !is || !ok {
		t.Errorf("IsOrder(nil, 0) = %v %v", is, ok)
	}
}

func TestPromise19NoWrongManyAreOrdered(t *testing.T) {
	for _, many := range append([]int{11, 12, 100, -2, -10}, endInts...) {
		for _, order := range [][]int{nil, {}, {0}, {-1}, countUp(10), countUp(11), countUp(12), countDown(11), {many}, slices.Repeat([]int{0}, 11)} {
			if is, ok := impl.IsOrder(order, many); is || ok {
				t.Errorf("IsOrder(%v, %d) = %v %v", order, many, is, ok)
			}
		}
	}
}

// noOrders are lists made of an order that are no orders of as many: a number twice, beyond, below 0, one fewer and one more.
func noOrders(order []int) [][]int {
	many := len(order)
	l := [][]int{append(slices.Clone(order), many), append(slices.Clone(order), 0), append(slices.Clone(order), -1), append([]int{many}, order...), slices.Concat(order, order, []int{0}), make([]int, many+100)}
	for i := range order {
		l = append(l, order[:i], order[i+1:])
		for _, n := range append([]int{many, many + 1, 10, 11, -many, order[(i+1)%many], order[(i+many-1)%many]}, endInts...) {
			if n != order[i] {
				list := slices.Clone(order)
				list[i] = n
				l = append(l, list)
			}
		}
	}
	return l
}

func TestCyclesInByHand(t *testing.T) {
	for _, c := range []struct {
		order []int
		want  int
	}{
		{nil, 0}, {[]int{}, 0}, {[]int{0}, 1}, {[]int{0, 1}, 2}, {[]int{1, 0}, 1}, {[]int{1, 0, 2}, 2}, {[]int{1, 2, 0}, 1}, {[]int{2, 0, 1}, 1}, {[]int{2, 1, 0}, 2}, {[]int{1, 0, 3, 2}, 2}, {[]int{2, 3, 0, 1}, 2}, {[]int{3, 0, 1, 2}, 1}, {[]int{1, 2, 0, 4, 3, 5}, 3}, {[]int{5, 3, 1, 2, 4, 0}, 3}, {countDown(9), 5}, {countDown(10), 5}, {[]int{9, 1, 2, 3, 4, 5, 6, 7, 8, 0}, 9},
	} {
		if got, ok := impl.CyclesIn(c.order); got != c.want || !ok {
			t.Errorf("CyclesIn(%v) = %v %v, not %v", c.order, got, ok, c.want)
		}
	}
	for many := 1; many <= 10; many++ {
		all, allOk := impl.CyclesIn(countUp(many))
		one, oneOk := impl.CyclesIn(oneRing(many))
		if all != many || one != 1 || !allOk || !oneOk {
			t.Errorf("of %d: CyclesIn tells %d %v where all is left, %d %v in one ring", many, all, allOk, one, oneOk)
		}
	}
}

// plainRings counts the numbers that are the least of all to which they lead.
func plainRings(order []int) int {
	rings := 0
	for n := range order {
		least := n
		for at, steps := n, 0; steps < len(order); steps++ {
			at = order[at]
			least = min(least, at)
		}
		if least == n {
			rings++
		}
	}
	return rings
}

func TestCyclesInEachOrder(t *testing.T) {
	for many := range 8 {
		for _, order := range everyOrder(many) {
			if got, ok := impl.CyclesIn(order); got != plainRings(order) || !ok {
				t.Fatalf("CyclesIn(%v) = %v %v, not %v", order, got, ok, plainRings(order))
			}
		}
	}
}

func TestCyclesInIsOneOffBySwap(t *testing.T) {
	// Two numbers that change places part a ring, or join two.
	for _, order := range [][]int{countUp(10), countDown(10), oneRing(10), {3, 4, 5, 6, 7, 8, 9, 0, 1, 2}, {1, 0, 3, 4, 2, 6, 7, 8, 5, 9}} {
		rings, ok := impl.CyclesIn(order)
		for a := range order {
			for b := range a {
				other := slices.Clone(order)
				other[a], other[b] = order[b], order[a]
				got, otherOk := impl.CyclesIn(other)
				if !ok || !otherOk || got != rings+1 && got != rings-1 || got != plainRings(other) {
					t.Errorf("CyclesIn(%v) = %v %v, that of %v %v", other, got, otherOk, order, rings)
				}
			}
		}
	}
}

func TestCyclesInEachList(t *testing.T) {
	for _, order := range everyList([]int{-1, 0, 1, 2, 3, 4}, 5) {
		want := plainlyOrder(order, len(order))
		got, ok := impl.CyclesIn(order)
		if ok != want || !want && got != 0 || want && got != plainRings(order) {
			t.Fatalf("CyclesIn(%v) = %v %v", order, got, ok)
		}
	}
}

func TestPromise19NoWrongOrderHasRings(t *testing.T) {
	wrong := [][]int{countUp(11), countDown(11), oneRing(11), oneRing(12), countUp(1000), slices.Repeat([]int{0}, 10), {1}, {0, 0}, {1, 1}, {1, 2}, {0, 2, 1, 1}}
	for _, n := range endInts {
		wrong = append(wrong, []int{n}, []int{0, n}, []int{n, 0}, append(countUp(9), n), append([]int{n}, countUp(9)...), slices.Repeat([]int{n}, 10))
	}
	for many := 1; many <= 10; many++ {
		for _, list := range noOrders(oneRing(many)) {
			// A list cut short may be an order of fewer.
			if !plainlyOrder(list, len(list)) || len(list) > 10 {
				wrong = append(wrong, list)
			}
		}
	}
	for _, order := range wrong {
		if got, ok := impl.CyclesIn(order); got != 0 || ok {
			t.Errorf("CyclesIn(%v) = %v %v", order, got, ok)
		}
	}
}

// wrongNumbers are none that a use or a way may be.
var wrongNumbers = append([]int{1001, 1002, -1000}, endInts...)

// wrongStocks are too many, not as many, or have one number that is not as said, at the beginning, in the middle or in the end of one list or of both.
func wrongStocks() []stock {
	var l []stock
	for _, many := range []int{11, 12, 100} {
		l = append(l, stock{make([]int, many), make([]int, many)}, stock{countUp(many), countDown(many)})
	}
	for _, many := range [][2]int{{0, 1}, {1, 2}, {2, 3}, {9, 10}, {10, 11}, {0, 10}, {0, 11}, {5, 1000}} {
		l = append(l, stock{make([]int, many[0]), make([]int, many[1])}, stock{make([]int, many[1]), make([]int, many[0])})
	}
	for _, n := range wrongNumbers {
		for _, list := range [][]int{{n}, {n, 5}, {5, n}, {5, n, 5}, append(countUp(9), n), append([]int{n}, countUp(9)...)} {
			l = append(l, stock{list, make([]int, len(list))}, stock{make([]int, len(list)), list}, stock{list, slices.Repeat([]int{1000}, len(list))}, stock{slices.Repeat([]int{1000}, len(list)), list}, stock{list, list})
		}
	}
	return l
}

// isRefusedOrder asks whether each function of an order gives the zero answer and false.
func isRefusedOrder(t *testing.T, s stock, order []int) {
	if got, ok := impl.OrderCost(s.use, s.way, order); got != 0 || ok {
		t.Errorf("OrderCost(%v, %v, %v) = %v %v", s.use, s.way, order, got, ok)
	}
	for _, places := range [][2]int{{0, 0}, {0, 1}, {1, 0}, {-1, 0}, {0, len(order)}, {0, len(s.use) - 1}, {math.MinInt, math.MaxInt}} {
		isRefusedSwap(t, s, order, places[0], places[1])
	}
}

func isRefusedSwap(t *testing.T, s stock, order []int, a int, b int) {
	if got, ok := impl.SwapGain(s.use, s.way, order, a, b); got != 0 || ok {
		t.Errorf("SwapGain(%v, %v, %v, %d, %d) = %v %v", s.use, s.way, order, a, b, got, ok)
	}
}

func TestPromise19NoWrongStockIsOrdered(t *testing.T) {
	for _, s := range wrongStocks() {
		if got, ok := impl.PairCost(s.use, s.way); got != 0 || ok {
			t.Errorf("PairCost(%v, %v) = %v %v", s.use, s.way, got, ok)
		}
		if got, ok := impl.OrderFor(s.use, s.way); len(got) != 0 || ok {
			t.Errorf("OrderFor(%v, %v) = %v %v", s.use, s.way, got, ok)
		}
		for _, order := range [][]int{nil, {0}, countUp(len(s.use)), countUp(len(s.way)), countDown(len(s.use)), s.use, s.way, countUp(10)} {
			isRefusedOrder(t, s, order)
		}
	}
}

func TestPromise19StocksAtTheirEdges(t *testing.T) {
	for _, n := range []int{-1, 0, 1, 999, 1000, 1001} {
		for many := 1; many <= 11; many++ {
			for i := range many {
				list := make([]int, many)
				list[i] = n
				want := n >= 0 && n <= 1000 && many <= 10
				for _, s := range []stock{{list, countUp(many)}, {countUp(many), list}} {
					_, pairOk := impl.PairCost(s.use, s.way)
					_, forOk := impl.OrderFor(s.use, s.way)
					_, costOk := impl.OrderCost(s.use, s.way, countUp(many))
					_, gainOk := impl.SwapGain(s.use, s.way, countUp(many), 0, many-1)
					if pairOk != want || forOk != want || costOk != want || gainOk != want {
						t.Errorf("%v and %v tell %v %v %v %v, not %v", s.use, s.way, pairOk, forOk, costOk, gainOk, want)
					}
				}
			}
		}
	}
}

func TestPromise19NoWrongOrderCosts(t *testing.T) {
	for many := 0; many <= 10; many++ {
		s := mixedStock(3, many)
		l := slices.Repeat([]impl.Family{family(7, 3)}, min(many, 6))
		for _, order := range [][]int{countUp(many), countDown(many), oneRing(many)} {
			for _, wrong := range noOrders(order) {
				isRefusedOrder(t, s, wrong)
			}
			if _, ok := impl.OrderCost(s.use, s.way, order); !ok {
				t.Errorf("OrderCost(%v, %v, %v) tells false", s.use, s.way, order)
			}
			if many > 6 {
				isRefusedSmith(t, l, order)
				continue
			}
			for _, wrong := range noOrders(order) {
				isRefusedSmith(t, l, wrong)
			}
			if _, ok := impl.SmithCost(l, order); !ok {
				t.Errorf("SmithCost(%v, %v) tells false", l, order)
			}
		}
	}
}

func TestPromise19NoWrongPlacesAreSwapped(t *testing.T) {
	for many := 0; many <= 10; many++ {
		s := mixedStock(3, many)
		order := oneRing(many)
		for _, wrong := range append([]int{many, many + 1, 10, 11, -2, -many - 1}, endInts...) {
			isRefusedSwap(t, s, order, wrong, wrong)
			for place := range many {
				isRefusedSwap(t, s, order, wrong, place)
				isRefusedSwap(t, s, order, place, wrong)
			}
		}
		for place := range many {
			if got, ok := impl.SwapGain(s.use, s.way, order, place, place); got != 0 || !ok {
				t.Errorf("SwapGain(%v, %v, %v) of %d twice = %v %v", s.use, s.way, order, place, got, ok)
			}
			if _, ok := impl.SwapGain(s.use, s.way, order, place, many-1); !ok {
				t.Errorf("SwapGain(%v, %v, %v, %d, %d) tells false", s.use, s.way, order, place, many-1)
			}
		}
	}
}

// wrongFamilies are too many, or have one that is not as said, at the beginning, in the middle or in the end.
func wrongFamilies() [][]impl.Family {
	l := [][]impl.Family{slices.Repeat([]impl.Family{family(1, 1)}, 7), slices.Repeat([]impl.Family{family(1000, 9)}, 8), slices.Repeat([]impl.Family{family(1, 1)}, 100), make([]impl.Family, 1), make([]impl.Family, 6)}
	var wrong []impl.Family
	for _, n := range wrongNumbers {
		wrong = append(wrong, family(n, 1), family(n, 9), family(n, n))
	}
	for _, n := range append([]int{0, 10, 11, 1000, -9}, endInts...) {
		wrong = append(wrong, family(0, n), family(1000, n))
	}
	for _, w := range wrong {
		good := family(5, 2)
		l = append(l, []impl.Family{w}, []impl.Family{w, good}, []impl.Family{good, w}, []impl.Family{good, w, good}, append(slices.Repeat([]impl.Family{good}, 5), w), append([]impl.Family{w}, slices.Repeat([]impl.Family{good}, 5)...))
	}
	return l
}

func isRefusedSmith(t *testing.T, l []impl.Family, order []int) {
	if got, ok := impl.SmithCost(l, order); got != 0 || ok {
		t.Errorf("SmithCost(%v, %v) = %v %v", l, order, got, ok)
	}
}

func TestPromise19NoWrongFamiliesAreOrdered(t *testing.T) {
	for _, l := range wrongFamilies() {
		if got, ok := impl.SmithOrder(l); len(got) != 0 || ok {
			t.Errorf("SmithOrder(%v) = %v %v", l, got, ok)
		}
		for _, order := range [][]int{nil, {0}, countUp(len(l)), countDown(len(l)), make([]int, len(l)), countUp(6)} {
			isRefusedSmith(t, l, order)
		}
	}
}

func TestPromise19FamiliesAtTheirEdges(t *testing.T) {
	for _, weight := range []int{-1, 0, 1, 999, 1000, 1001} {
		for _, each := range []int{-1, 0, 1, 2, 8, 9, 10} {
			for many := range 8 {
				l := slices.Repeat([]impl.Family{family(weight, each)}, many)
				want := many == 0 || many <= 6 && weight >= 0 && weight <= 1000 && each >= 1 && each <= 9
				order, orderOk := impl.SmithOrder(l)
				cost, costOk := impl.SmithCost(l, countUp(many))
				wantCost := 0
				if want {
					wantCost = weight * each * many * (many + 1) / 2
				}
				if orderOk != want || costOk != want || cost != wantCost || want && !slices.Equal(order, countUp(many)) {
					t.Errorf("%v: %v %v, %v %v", l, order, orderOk, cost, costOk)
				}
			}
		}
	}
}

func TestPromise19OrdersShareNothing(t *testing.T) {
	// The ways are like the answers, so that handing them out would not be seen by what they hold.
	use, way := []int{2, 1, 0}, []int{0, 1, 2}
	l := []impl.Family{family(0, 1), family(0, 1), family(0, 1)}
	var lists [][]int
	for range 2 {
		order, ok := impl.OrderFor(use, way)
		other, otherOk := impl.OrderFor(way, use)
		families, familiesOk := impl.SmithOrder(l)
		if !ok || !otherOk || !familiesOk {
			t.Fatal(order, other, families)
		}
		for _, list := range [][]int{order, other, families} {
			if len(list) != 3 {
				t.Fatal(order, other, families)
			}
			lists = append(lists, list)
		}
	}
	shareNone(t, "chapter 7", append(lists, use, way)...)
	if got, ok := impl.OrderFor([]int{1, 5}, []int{2, 3}); !slices.Equal(got, []int{1, 0}) || !ok {
		t.Errorf("OrderFor = %v %v behind a write into earlier answers", got, ok)
	}
	if got, ok := impl.SmithOrder([]impl.Family{family(3, 3), family(4, 1)}); !slices.Equal(got, []int{1, 0}) || !ok {
		t.Errorf("SmithOrder = %v %v behind a write into earlier answers", got, ok)
	}
}

// isAsBefore asks whether a cut list has what it had, also behind its length.
func isAsBefore(t *testing.T, cut []int, plain []int, behind int) {
	if !slices.Equal(cut[:len(plain)+2], append(slices.Clone(plain), behind, behind)) {
		t.Errorf("%v was made of %v", cut[:len(plain)+2], plain)
	}
}

// orderHangsOn tells whether a function of an order answers otherwise for cut than for plain lists.
func orderHangsOn(s stock, order []int, cut stock, cutOrder []int) bool {
	s, order = stock{slices.Clone(s.use), slices.Clone(s.way)}, slices.Clone(order)
	cost, costOk := impl.OrderCost(s.use, s.way, order)
	cutCost, cutCostOk := impl.OrderCost(cut.use, cut.way, cutOrder)
	rings, ringsOk := impl.CyclesIn(order)
	cutRings, cutRingsOk := impl.CyclesIn(cutOrder)
	for _, places := range [][2]int{{0, 0}, {0, 1}, {1, 2}, {0, len(order) - 1}, {0, len(order)}, {len(order), len(order) + 1}} {
		gain, ok := impl.SwapGain(s.use, s.way, order, places[0], places[1])
		cutGain, cutOk := impl.SwapGain(cut.use, cut.way, cutOrder, places[0], places[1])
		if gain != cutGain || ok != cutOk {
			return true
		}
	}
	for _, many := range []int{-1, 0, len(order), len(order) + 1, len(order) + 2, 10, 11} {
		is, ok := impl.IsOrder(order, many)
		cutIs, cutOk := impl.IsOrder(cutOrder, many)
		if is != cutIs || ok != cutOk {
			return true
		}
	}
	return cost != cutCost || costOk != cutCostOk || rings != cutRings || ringsOk != cutRingsOk
}

// stockHangsOn tells whether a function of uses and ways alone answers otherwise for cut than for plain lists.
func stockHangsOn(s stock, cut stock) bool {
	s = stock{slices.Clone(s.use), slices.Clone(s.way)}
	pairs, pairsOk := impl.PairCost(s.use, s.way)
	cutPairs, cutPairsOk := impl.PairCost(cut.use, cut.way)
	order, ok := impl.OrderFor(s.use, s.way)
	cutOrder, cutOk := impl.OrderFor(cut.use, cut.way)
	return pairs != cutPairs || pairsOk != cutPairsOk || !slices.Equal(order, cutOrder) || ok != cutOk
}

func TestPromise19NoStockOrOrderIsWritten(t *testing.T) {
	for _, s := range append(wrongStocks(), greatStocks()...) {
		many := len(s.use)
		for _, behind := range []int{-1, 0, many, 1001} {
			cut := stock{cutList(s.use, behind), cutList(s.way, behind)}
			if stockHangsOn(s, cut) {
				t.Errorf("%v and %v hang on what lies behind them", s.use, s.way)
			}
			for _, order := range [][]int{nil, countUp(many), countDown(many), oneRing(many), countUp(many + 1), make([]int, many), slices.Repeat([]int{-1}, many)} {
				cutOrder := cutList(order, behind)
				if orderHangsOn(s, order, cut, cutOrder) {
					t.Errorf("%v, %v and %v hang on what lies behind them", s.use, s.way, order)
				}
				isAsBefore(t, cutOrder, order, behind)
			}
			isAsBefore(t, cut.use, s.use, behind)
			isAsBefore(t, cut.way, s.way, behind)
		}
	}
}

func TestPromise19NoFamiliesAreWritten(t *testing.T) {
	for _, l := range append(wrongFamilies(), manyFamilies()...) {
		for _, behind := range []impl.Family{family(-1, 0), family(1000, 1), family(1001, 10)} {
			full := append(slices.Clone(l), behind, behind)
			before := slices.Clone(full)
			cut := full[:len(l)]
			want, wantOk := impl.SmithOrder(slices.Clone(l))
			if got, ok := impl.SmithOrder(cut); !slices.Equal(got, want) || ok != wantOk {
				t.Errorf("SmithOrder(%v) hangs on what lies behind", l)
			}
			for _, order := range [][]int{nil, countUp(len(l)), countDown(len(l)), countUp(len(l) + 1), make([]int, len(l))} {
				cutOrder := cutList(order, len(l))
				want, wantOk := impl.SmithCost(slices.Clone(l), slices.Clone(order))
				if got, ok := impl.SmithCost(cut, cutOrder); got != want || ok != wantOk {
					t.Errorf("SmithCost(%v, %v) hangs on what lies behind them", l, order)
				}
				isAsBefore(t, cutOrder, order, len(l))
			}
			if !slices.Equal(full, before) {
				t.Errorf("%v was made of %v", full, before)
			}
		}
	}
}
