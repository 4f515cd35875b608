package tests

import (
	"math"
	"slices"
	"testing"

	"loop.example/g00451/impl"
)

func trade(start int, keep int, need ...int) impl.Trade {
	return impl.Trade{Need: need, Start: start, Keep: keep}
}

func cloneTrade(x impl.Trade) impl.Trade {
	return trade(x.Start, x.Keep, slices.Clone(x.Need)...)
}

// firstDays is the same trade for so many days.
func firstDays(x impl.Trade, many int) impl.Trade {
	return trade(x.Start, x.Keep, slices.Clone(x.Need[:many])...)
}

func plainlyTrade(x impl.Trade) bool {
	if len(x.Need) < 1 || len(x.Need) > 10 || x.Start < 0 || x.Start > 100 || x.Keep < 0 || x.Keep > 10 {
		return false
	}
	return slices.Min(x.Need) >= 0 && slices.Max(x.Need) <= 20
}

// plainLeft is all that has come up to the end of a day, less all that has gone.
func plainLeft(x impl.Trade, lots []int, day int) int {
	return plainTotal(lots[:day+1]) - plainTotal(x.Need[:day+1])
}

func plainLotCost(x impl.Trade, lots []int) (int, bool) {
	if !plainlyTrade(x) || len(lots) != len(x.Need) {
		return 0, false
	}
	cost := 0
	for day, lot := range lots {
		if lot < 0 || lot > 200 || plainLeft(x, lots, day) < 0 {
			return 0, false
		}
		if lot != 0 {
			cost += x.Start
		}
		cost += x.Keep * plainLeft(x, lots, day)
	}
	return cost, true
}

// plainlyLean needs lots of which LotCost tells true.
func plainlyLean(x impl.Trade, lots []int) bool {
	for day := 1; day < len(lots); day++ {
		if lots[day] != 0 && plainLeft(x, lots, day-1) != 0 {
			return false
		}
	}
	return true
}

// plainLotsFor needs rising days, the first one 0.
func plainLotsFor(x impl.Trade, days []int) []int {
	lots := make([]int, len(x.Need))
	for i, day := range days {
		next := append(slices.Clone(days[i+1:]), len(x.Need))[0]
		lots[day] = plainTotal(x.Need[day:next])
	}
	return lots
}

// daysFrom0 has all rising lists of so many days, the first one 0.
func daysFrom0(many int) [][]int {
	return slices.DeleteFunc(setLists(many), func(days []int) bool { return !slices.Contains(days, 0) })
}

// bestLotDays goes through all days on which lots may come, and has those that cost least: first those whose latest day is the latest, of these those whose day ahead of it is the latest, and so on. It tells the cost, too, and all lots that cost as little.
func bestLotDays(x impl.Trade) ([]int, int, [][]int) {
	var best []int
	var asGood [][]int
	least := math.MaxInt
	for _, days := range daysFrom0(len(x.Need)) {
		lots := plainLotsFor(x, days)
		cost, _ := plainLotCost(x, lots)
		if cost > least {
			continue
		}
		slices.Reverse(days)
		if cost < least {
			best, least, asGood = nil, cost, nil
		}
		if slices.Compare(days, best) > 0 {
			best = days
		}
		if !slices.ContainsFunc(asGood, func(other []int) bool { return slices.Equal(other, lots) }) {
			asGood = append(asGood, lots)
		}
	}
	slices.Reverse(best)
	return best, least, asGood
}

// leastByStock goes day by day through all lots and all that can be left, up to so much, lean or not.
func leastByStock(x impl.Trade, most int) int {
	costs := slices.Repeat([]int{math.MaxInt}, most+1)
	costs[0] = 0
	for _, need := range x.Need {
		next := slices.Repeat([]int{math.MaxInt}, most+1)
		for left, cost := range costs {
			if cost == math.MaxInt {
				continue
			}
			for lot := max(0, need-left); lot <= min(200, most+need-left); lot++ {
				now := left + lot - need
				with := cost + x.Keep*now
				if lot != 0 {
					with += x.Start
				}
				next[now] = min(next[now], with)
			}
		}
		costs = next
	}
	return slices.Min(costs)
}

// smallTrades are of up to 4 days, with all needs of these and some costs that make lots alike.
func smallTrades() []impl.Trade {
	var all []impl.Trade
	for _, need := range everyList([]int{0, 1, 2}, 4)[1:] {
		for _, start := range []int{0, 1, 2, 5} {
			for _, keep := range []int{0, 1, 2} {
				all = append(all, trade(start, keep, need...))
			}
		}
	}
	return all
}

// drawnTrade has needs of all sizes, small ones, many of 0, none at the front, in the middle or at the end, alike ones, or 20 each.
func drawnTrade(i int, days int) impl.Trade {
	d := diceOf(i)
	x := trade([]int{d.below(101), 1 + d.below(100), 10 * d.below(11), d.below(21), 0}[d.below(5)], []int{d.below(11), 1 + d.below(2), 1, d.below(3)}[d.below(4)])
	alike, free := 1+d.below(20), d.below(days)
	for day := range days {
		all, few := d.below(21), d.below(4)
		n := []int{all, few, all * (few / 3), alike, all, all, all, 20}[i%8]
		if i%8 == 4 && day <= free || i%8 == 5 && day >= free || i%8 == 6 && (day == free || day == free+1) {
			n = 0
		}
		x.Need = append(x.Need, n)
	}
	return x
}

// greatTrades are of up to 10 days, drawn, with alike needs, and with all at their ends.
func greatTrades() []impl.Trade {
	var all []impl.Trade
	for i := range 640 {
		all = append(all, drawnTrade(i, 1+i/8%10))
	}
	for _, days := range []int{1, 2, 9, 10} {
		for _, need := range []int{0, 1, 20} {
			for _, start := range []int{0, 1, 100} {
				for _, keep := range []int{0, 1, 10} {
					all = append(all, trade(start, keep, slices.Repeat([]int{need}, days)...))
				}
			}
		}
	}
	return append(all,
		trade(10, 1, 3, 0, 5), trade(11, 1, 3, 0, 5), trade(9, 1, 3, 0, 5), trade(10, 1, countUp(10)...), trade(10, 1, countDown(10)...), trade(40, 2, 0, 0, 20, 0, 0, 0, 20, 1, 0, 0), trade(50, 1, 10, 12, 3, 0, 17, 5, 5, 0, 20, 8), trade(60, 3, 20, 0, 0, 0, 0, 0, 0, 0, 0, 2),
	)
}

func manyTrades() []impl.Trade {
	return append(smallTrades(), greatTrades()...)
}

// drawnLots are often too few or more than are needed; or come all in time, each need with a day that is not behind it; or are for some days; or that with one lot more or less.
func drawnLots(d *dice, x impl.Trade) []int {
	days := len(x.Need)
	lots := make([]int, days)
	kind := d.below(5)
	switch kind {
	case 0, 1:
		for day := range lots {
			lots[day] = d.below([]int{201, 30}[kind]) * min(d.below(3), 1)
		}
	case 2:
		for day, need := range x.Need {
			part := d.below(need + 1)
			lots[d.below(day+1)] += part
			lots[d.below(day+1)] += need - part
		}
	default:
		lots = plainLotsFor(x, slices.DeleteFunc(countUp(days), func(day int) bool { return day > 0 && d.below(2) == 0 }))
	}
	if kind == 4 {
		lots[d.below(days)] += d.below(3) - 1
	}
	return lots
}

// sampleTrades are of the fewest and the most days, and between them.
func sampleTrades() []impl.Trade {
	return []impl.Trade{trade(10, 1, 3, 0, 5), trade(0, 0, 0), trade(100, 10, 20), trade(7, 2, 1, 2, 3, 4, 5, 6, 7, 8, 9, 10), trade(100, 10, slices.Repeat([]int{20}, 10)...), trade(30, 1, 0, 4, 0, 0, 9)}
}

// wrongTrades have one thing that is not as said.
func wrongTrades() []impl.Trade {
	var all []impl.Trade
	for _, x := range sampleTrades() {
		for _, need := range [][]int{nil, {}, make([]int, 11), countUp(11), countDown(12), slices.Repeat([]int{20}, 11), make([]int, 1000)} {
			all = append(all, trade(x.Start, x.Keep, need...))
		}
		for _, n := range append([]int{21, 22, 100, 200, -2, -20}, endInts...) {
			for _, need := range badNumbers(x.Need, n) {
				all = append(all, trade(x.Start, x.Keep, need...))
			}
		}
		for _, n := range append([]int{101, 102, 200, -2, -100}, endInts...) {
			all = append(all, trade(n, x.Keep, x.Need...))
		}
		for _, n := range append([]int{11, 12, 100, -2, -10}, endInts...) {
			all = append(all, trade(x.Start, n, x.Need...))
		}
	}
	return append(all, impl.Trade{}, trade(math.MinInt, math.MinInt, math.MinInt), trade(math.MaxInt, math.MaxInt, math.MaxInt))
}

func TestLotLimits(t *testing.T) {
	if impl.MaxDays != 10 {
		t.Error(impl.MaxDays)
	}
}

func TestGoodTradeAtItsEdges(t *testing.T) {
	for _, x := range append(manyTrades(), sampleTrades()...) {
		if !impl.GoodTrade(x) || !plainlyTrade(x) {
			t.Errorf("GoodTrade(%v) = %v", x, impl.GoodTrade(x))
		}
	}
	wrong := wrongTrades()
	if len(wrong) < 500 {
		t.Errorf("%d wrong trades", len(wrong))
	}
	for _, x := range wrong {
		if impl.GoodTrade(x) || plainlyTrade(x) {
			t.Errorf("GoodTrade(%v) = %v", x, impl.GoodTrade(x))
		}
	}
	for days := range 13 {
		for _, need := range []int{-1, 0, 20, 21} {
			for _, start := range []int{-1, 0, 100, 101} {
				for _, keep := range []int{-1, 0, 10, 11} {
					x := trade(start, keep, slices.Repeat([]int{need}, days)...)
					want := days >= 1 && days <= 10 && need >= 0 && need <= 20 && start >= 0 && start <= 100 && keep >= 0 && keep <= 10
					if impl.GoodTrade(x) != want {
						t.Errorf("GoodTrade(%v) = %v", x, !want)
					}
				}
			}
		}
	}
	for _, need := range everyList([]int{-1, 0, 20, 21}, 4) {
		if x := trade(10, 1, need...); impl.GoodTrade(x) != plainlyTrade(x) {
			t.Errorf("GoodTrade(%v) = %v", x, impl.GoodTrade(x))
		}
	}
}

func TestLotCostByHand(t *testing.T) {
	for _, c := range []struct {
		x        impl.Trade
		lots     []int
		want     int
		lean, ok bool
	}{
		{trade(10, 1, 3, 0, 5), []int{3, 0, 5}, 20, true, true}, {trade(10, 1, 3, 0, 5), []int{8, 0, 0}, 20, true, true}, {trade(10, 1, 3, 0, 5), []int{4, 0, 4}, 22, false, true}, {trade(10, 1, 3, 0, 5), []int{3, 5, 0}, 25, true, true},
		// More than goes: it is kept in the end, too.
		{trade(10, 1, 3, 0, 5), []int{3, 0, 6}, 21, true, true}, {trade(10, 1, 3, 0, 5), []int{9, 0, 0}, 23, true, true}, {trade(10, 1, 3, 0, 5), []int{4, 4, 0}, 26, false, true}, {trade(10, 1, 3, 0, 5), []int{200, 200, 200}, 1216, false, true}, {trade(10, 1, 3, 0, 5), []int{200, 0, 0}, 10 + 197 + 197 + 192, true, true}, {trade(100, 10, make([]int, 10)...), slices.Repeat([]int{200}, 10), 1000 + 10*200*55, false, true},
		// Less than goes: on the first day, on a later one, in the end, and with more than enough behind it.
		{trade(10, 1, 3, 0, 5), []int{0, 0, 0}, 0, false, false}, {trade(10, 1, 3, 0, 5), []int{2, 0, 6}, 0, false, false}, {trade(10, 1, 3, 0, 5), []int{2, 200, 200}, 0, false, false}, {trade(10, 1, 3, 0, 5), []int{0, 3, 5}, 0, false, false}, {trade(10, 1, 3, 0, 5), []int{3, 0, 4}, 0, false, false}, {trade(10, 1, 3, 0, 5), []int{7, 0, 0}, 0, false, false}, {trade(10, 1, 3, 1, 5), []int{3, 0, 200}, 0, false, false},
		// A lot of nothing starts nothing, and days without need go by.
		{trade(100, 10, 0), []int{0}, 0, true, true}, {trade(100, 10, 0), []int{1}, 110, true, true}, {trade(100, 10, 0, 0, 0), []int{0, 0, 0}, 0, true, true}, {trade(100, 10, 0, 0, 0), []int{0, 0, 1}, 110, true, true}, {trade(100, 10, 0, 0, 0), []int{1, 0, 0}, 130, true, true}, {trade(100, 10, 0, 7, 0), []int{0, 7, 0}, 100, true, true}, {trade(100, 10, 0, 7, 0), []int{7, 0, 0}, 170, true, true}, {trade(100, 10, 0, 7, 0), []int{6, 1, 0}, 260, false, true},
		// Something left, but no lot that comes to it; and a lot that comes to what is left from days ahead.
		{trade(5, 2, 1, 1, 1, 1), []int{2, 0, 2, 0}, 14, true, true}, {trade(5, 2, 1, 1, 1, 1), []int{3, 0, 0, 1}, 16, true, true}, {trade(5, 2, 1, 1, 1, 1), []int{3, 0, 1, 0}, 18, false, true}, {trade(5, 2, 1, 1, 1, 1), []int{1, 1, 1, 1}, 20, true, true}, {trade(5, 2, 1, 1, 1, 1), []int{1, 1, 2, 1}, 24, false, true}, {trade(5, 2, 1, 1, 1, 1), []int{1, 1, 1, 2}, 22, true, true}, {trade(5, 2, 1, 1, 1, 1), []int{4, 0, 0, 1}, 24, false, true}, {trade(5, 2, 1, 1, 1, 1), []int{2, 1, 1, 0}, 21, false, true},
		{trade(0, 0, 20, 20), []int{200, 200}, 0, false, true}, {trade(0, 10, 20, 20), []int{40, 0}, 200, true, true}, {trade(100, 0, 20, 20), []int{40, 0}, 100, true, true}, {trade(100, 0, 20, 20), []int{20, 20}, 200, true, true}, {trade(1, 1, 20), []int{20}, 1, true, true}, {trade(1, 1, 20), []int{19}, 0, false, false}, {trade(1, 1, 20), []int{200}, 181, true, true},
		// No lots, or of another trade.
		{trade(1, 1, 0), []int{201}, 0, false, false}, {trade(1, 1, 0), []int{-1}, 0, false, false}, {trade(1, 1, 0, 0), []int{1, -1}, 0, false, false}, {trade(1, 1, 0), nil, 0, false, false}, {trade(1, 1, 0), []int{0, 0}, 0, false, false}, {trade(1, 1, 0, 0), []int{0}, 0, false, false}, {impl.Trade{}, nil, 0, false, false}, {trade(1, 1, make([]int, 11)...), make([]int, 11), 0, false, false},
	} {
		if cost, ok := impl.LotCost(c.x, c.lots); cost != c.want || ok != c.ok {
			t.Errorf("LotCost(%v, %v) = %v %v, not %v %v", c.x, c.lots, cost, ok, c.want, c.ok)
		}
		if lean, ok := impl.IsLean(c.x, c.lots); lean != c.lean || ok != c.ok {
			t.Errorf("IsLean(%v, %v) = %v %v, not %v %v", c.x, c.lots, lean, ok, c.lean, c.ok)
		}
	}
}

// areLotsAs holds LotCost and IsLean against the document's words, and tells what these say.
func areLotsAs(t *testing.T, x impl.Trade, lots []int) (int, bool, bool) {
	cost, ok := plainLotCost(x, lots)
	lean := ok && plainlyLean(x, lots)
	if got, gotOk := impl.LotCost(x, lots); got != cost || gotOk != ok {
		t.Fatalf("LotCost(%v, %v) = %v %v, not %v %v", x, lots, got, gotOk, cost, ok)
	}
	if got, gotOk := impl.IsLean(x, lots); got != lean || gotOk != ok {
		t.Fatalf("IsLean(%v, %v) = %v %v, not %v %v", x, lots, got, gotOk, lean, ok)
	}
	return cost, lean, ok
}

func TestLotCostOfDrawnLots(t *testing.T) {
	kinds := map[string]int{}
	for i, x := range manyTrades() {
		d := diceOf(i)
		for range 30 {
			lots := drawnLots(d, x)
			_, lean, ok := areLotsAs(t, x, lots)
			switch {
			case !ok:
				kinds["false"]++
			case lean:
				kinds["lean"]++
			default:
				kinds["not lean"]++
			}
			if ok && plainLeft(x, lots, len(lots)-1) > 0 {
				kinds["left in the end"]++
			}
		}
	}
	for _, kind := range []string{"false", "lean", "not lean", "left in the end"} {
		if kinds[kind] < 1000 {
			t.Errorf("lots drawn were: %v", kinds)
		}
	}
}

func TestLotCostOfEachLot(t *testing.T) {
	for _, n := range append([]int{-2, 0, 1, 19, 20, 21, 199, 200, 201, 202}, endInts...) {
		for _, x := range append(sampleTrades(), greatTrades()...) {
			for day := range x.Need {
				for _, lots := range [][]int{make([]int, len(x.Need)), slices.Clone(x.Need), slices.Repeat([]int{200}, len(x.Need))} {
					lots[day] = n
					areLotsAs(t, x, lots)
				}
			}
		}
	}
	for _, x := range []impl.Trade{trade(3, 2, 0, 0), trade(3, 2, 20, 0), trade(3, 2, 0, 20), trade(3, 2, 7, 13), trade(0, 0, 20, 20)} {
		for first := -1; first <= 201; first++ {
			for next := -1; next <= 201; next++ {
				areLotsAs(t, x, []int{first, next})
			}
		}
	}
}

// keptByPiece takes the first one that came for the first one that goes: each is kept for the days between, and what is left in the end for all days from its coming on.
func keptByPiece(x impl.Trade, lots []int) int {
	var came []int
	kept := 0
	for day, need := range x.Need {
		came = append(came, slices.Repeat([]int{day}, lots[day])...)
		for _, from := range came[:need] {
			kept += day - from
		}
		came = came[need:]
	}
	for _, from := range came {
		kept += len(lots) - from
	}
	return kept
}

func TestLotCostIsOfEachPiece(t *testing.T) {
	for i, x := range manyTrades() {
		d := diceOf(i)
		for range 5 {
			lots := drawnLots(d, x)
			got, ok := impl.LotCost(x, lots)
			if !ok {
				continue
			}
			come := len(lots) - plainCountOf(lots, 0)
			if want := x.Start*come + x.Keep*keptByPiece(x, lots); got != want {
				t.Fatalf("LotCost(%v, %v) = %v, not %v", x, lots, got, want)
			}
		}
	}
}

func plainCountOf(l []int, n int) int {
	return len(l) - len(slices.DeleteFunc(slices.Clone(l), func(m int) bool { return m == n }))
}

func TestLotsForByHand(t *testing.T) {
	x := trade(10, 1, 1, 2, 4, 8)
	for _, c := range []struct {
		days, want []int
	}{
		{[]int{0}, []int{15, 0, 0, 0}}, {[]int{0, 1}, []int{1, 14, 0, 0}}, {[]int{0, 2}, []int{3, 0, 12, 0}}, {[]int{0, 3}, []int{7, 0, 0, 8}}, {[]int{0, 1, 2}, []int{1, 2, 12, 0}}, {[]int{0, 1, 3}, []int{1, 6, 0, 8}}, {[]int{0, 2, 3}, []int{3, 0, 4, 8}}, {[]int{0, 1, 2, 3}, []int{1, 2, 4, 8}},
		// None, such as begin elsewhere, are not rising, or reach beyond the last day.
		{nil, nil}, {[]int{}, nil}, {[]int{1}, nil}, {[]int{3}, nil}, {[]int{1, 2, 3}, nil}, {[]int{-1}, nil}, {[]int{-1, 0}, nil}, {[]int{0, -1}, nil}, {[]int{0, 0}, nil}, {[]int{0, 1, 1}, nil}, {[]int{0, 2, 1}, nil}, {[]int{1, 0}, nil}, {[]int{0, 4}, nil}, {[]int{4}, nil}, {[]int{0, 1, 2, 3, 4}, nil}, {[]int{0, 1, 2, 3, 3}, nil},
	} {
		if lots, ok := impl.LotsFor(x, c.days); !slices.Equal(lots, c.want) || ok != (c.want != nil) {
			t.Errorf("LotsFor(%v, %v) = %v %v, not %v", x, c.days, lots, ok, c.want)
		}
	}
}

// areForDays asks whether LotsFor has just what is needed on these days, and whether its lots are lean.
func areForDays(t *testing.T, x impl.Trade, days []int) {
	want := plainLotsFor(x, days)
	lots, ok := impl.LotsFor(x, days)
	if !slices.Equal(lots, want) || !ok {
		t.Fatalf("LotsFor(%v, %v) = %v %v, not %v", x, days, lots, ok, want)
	}
	for day, lot := range lots {
		if lot != 0 && !slices.Contains(days, day) {
			t.Fatalf("LotsFor(%v, %v) = %v has one on day %d", x, days, lots, day)
		}
	}
	if plainTotal(lots) != plainTotal(x.Need) {
		t.Fatalf("LotsFor(%v, %v) = %v", x, days, lots)
	}
	if _, ok := impl.LotCost(x, lots); !ok {
		t.Fatalf("LotCost(%v, %v) tells false, of LotsFor %v", x, lots, days)
	}
	if lean, ok := impl.IsLean(x, lots); !lean || !ok {
		t.Fatalf("IsLean(%v, %v) = %v %v, of LotsFor %v", x, lots, lean, ok, days)
	}
}

func TestLotsForAllDays(t *testing.T) {
	for i, x := range manyTrades() {
		for k, days := range daysFrom0(len(x.Need)) {
			// Of long trades some of all days are enough.
			if len(x.Need) < 7 || (k+i)%16 == 0 {
				areForDays(t, x, days)
			}
		}
		areForDays(t, x, []int{0})
		areForDays(t, x, countUp(len(x.Need)))
	}
	for many := 1; many <= 4; many++ {
		x := trade(10, 1, countUp(many + 1)[1:]...)
		told := 0
		for _, days := range everyList(append([]int{-1, many}, countUp(many)...), many+1) {
			var want []int
			if plainlyRising(days, many) && slices.Contains(days, 0) {
				want = plainLotsFor(x, days)
				told++
			}
			if lots, ok := impl.LotsFor(x, days); !slices.Equal(lots, want) || ok != (want != nil) {
				t.Fatalf("LotsFor(%v, %v) = %v %v, not %v", x, days, lots, ok, want)
			}
		}
		if told != 1<<(many-1) {
			t.Errorf("LotsFor told true of %d lists of %d days", told, many)
		}
	}
}

func TestEachDayIsLotsForAllDays(t *testing.T) {
	for _, x := range append(manyTrades(), sampleTrades()...) {
		lots, ok := impl.EachDay(x)
		of, ofOk := impl.LotsFor(x, countUp(len(x.Need)))
		if !slices.Equal(lots, of) || !slices.Equal(lots, x.Need) || !ok || !ofOk {
			t.Fatalf("EachDay(%v) = %v %v, LotsFor all days %v %v", x, lots, ok, of, ofOk)
		}
		want := x.Start * (len(x.Need) - plainCountOf(x.Need, 0))
		if cost, ok := impl.LotCost(x, lots); cost != want || !ok {
			t.Fatalf("LotCost(%v, %v) = %v %v: with nothing kept %v", x, lots, cost, ok, want)
		}
		if lean, ok := impl.IsLean(x, lots); !lean || !ok {
			t.Fatalf("IsLean(%v, %v) = %v %v", x, lots, lean, ok)
		}
	}
}

func TestBestLotsByHand(t *testing.T) {
	for _, c := range []struct {
		x     impl.Trade
		lots  []int
		table []int
	}{
		// One lot costs as much as two: the latest day.
		{trade(10, 1, 3, 0, 5), []int{3, 0, 5}, []int{0, 10, 10, 20}}, {trade(11, 1, 3, 0, 5), []int{8, 0, 0}, []int{0, 11, 11, 21}}, {trade(9, 1, 3, 0, 5), []int{3, 0, 5}, []int{0, 9, 9, 18}}, {trade(10, 2, 5, 5), []int{5, 5}, []int{0, 10, 20}}, {trade(11, 2, 5, 5), []int{10, 0}, []int{0, 11, 21}}, {trade(9, 2, 5, 5), []int{5, 5}, []int{0, 9, 18}},
		// Also where three days of lots are as good; and where one lot is best for the first two days, but not for all.
		{trade(4, 1, 1, 3, 3), []int{4, 0, 3}, []int{0, 4, 7, 11}}, {trade(2, 1, 1, 1, 1), []int{2, 0, 1}, []int{0, 2, 3, 5}}, {trade(3, 1, 1, 1, 1), []int{3, 0, 0}, []int{0, 3, 4, 6}}, {trade(5, 1, 1, 2, 3), []int{3, 0, 3}, []int{0, 5, 7, 12}}, {trade(2, 1, 1, 1, 1, 1), []int{2, 0, 2, 0}, []int{0, 2, 3, 5, 6}},
		// Nothing to start, nothing to keep, neither, and nothing needed.
		{trade(0, 10, 4, 0, 6), []int{4, 0, 6}, []int{0, 0, 0, 0}}, {trade(100, 0, 4, 0, 6), []int{10, 0, 0}, []int{0, 100, 100, 100}}, {trade(0, 0, 4, 0, 6), []int{4, 0, 6}, []int{0, 0, 0, 0}}, {trade(100, 10, 0, 0, 0), []int{0, 0, 0}, []int{0, 0, 0, 0}}, {trade(100, 10, 0), []int{0}, []int{0, 0}}, {trade(100, 10, 20), []int{20}, []int{0, 100}}, {trade(7, 0, 1), []int{1}, []int{0, 7}},
		// Days without need at the front, in the middle, at the end: the lot comes when it is needed.
		{trade(8, 1, 0, 0, 5), []int{0, 0, 5}, []int{0, 0, 0, 8}}, {trade(8, 1, 5, 0, 0), []int{5, 0, 0}, []int{0, 8, 8, 8}}, {trade(8, 1, 5, 0, 0, 5), []int{5, 0, 0, 5}, []int{0, 8, 8, 8, 16}}, {trade(8, 1, 5, 0, 0, 2), []int{7, 0, 0, 0}, []int{0, 8, 8, 8, 14}}, {trade(8, 0, 0, 5, 0, 2), []int{0, 7, 0, 0}, []int{0, 0, 8, 8, 8}},
		{trade(100, 10, slices.Repeat([]int{20}, 10)...), slices.Repeat([]int{20}, 10), []int{0, 100, 200, 300, 400, 500, 600, 700, 800, 900, 1000}}, {trade(100, 0, slices.Repeat([]int{20}, 10)...), append([]int{200}, make([]int, 9)...), append([]int{0}, slices.Repeat([]int{100}, 10)...)}, {trade(100, 1, slices.Repeat([]int{1}, 10)...), append([]int{10}, make([]int, 9)...), []int{0, 100, 101, 103, 106, 110, 115, 121, 128, 136, 145}},
	} {
		lots, cost, ok := impl.BestLots(c.x)
		table, tableOk := impl.CostTable(c.x)
		if !slices.Equal(lots, c.lots) || cost != c.table[len(c.x.Need)] || !ok {
			t.Errorf("BestLots(%v) = %v %v %v, not %v %v", c.x, lots, cost, ok, c.lots, c.table)
		}
		if !slices.Equal(table, c.table) || !tableOk {
			t.Errorf("CostTable(%v) = %v %v, not %v", c.x, table, tableOk, c.table)
		}
	}
}

// isBestAs asks whether BestLots and CostTable are as the document says, also for fewer days, and answers whether other lots cost as little.
func isBestAs(t *testing.T, x impl.Trade) bool {
	days, least, asGood := bestLotDays(x)
	want := plainLotsFor(x, days)
	lots, cost, ok := impl.BestLots(x)
	if !slices.Equal(lots, want) || cost != least || !ok {
		t.Fatalf("BestLots(%v) = %v %v %v, not %v %v", x, lots, cost, ok, want, least)
	}
	table, tableOk := impl.CostTable(x)
	if len(table) != len(x.Need)+1 || !tableOk || table[0] != 0 || table[len(x.Need)] != least {
		t.Fatalf("CostTable(%v) = %v %v, the least cost is %v", x, table, tableOk, least)
	}
	for many := 1; many < len(x.Need); many++ {
		if _, least, _ := bestLotDays(firstDays(x, many)); table[many] != least {
			t.Fatalf("CostTable(%v) = %v, for %d days the least cost is %v", x, table, many, least)
		}
	}
	return len(asGood) > 1
}

func TestBestLotsAreTheLatest(t *testing.T) {
	several, comes := 0, map[int]int{}
	for _, x := range manyTrades() {
		if isBestAs(t, x) {
			several++
		}
		lots, _, _ := impl.BestLots(x)
		comes[len(lots)-plainCountOf(lots, 0)]++
	}
	if several < 100 || len(comes) != 11 {
		t.Errorf("%d times several lots cost as little; so many lots came: %v", several, comes)
	}
}

func TestCostTableOfFewerDays(t *testing.T) {
	for _, x := range append(greatTrades(), sampleTrades()...) {
		table, ok := impl.CostTable(x)
		for many := 1; many <= len(x.Need); many++ {
			part, partOk := impl.CostTable(firstDays(x, many))
			if !slices.Equal(part, table[:many+1]) || !ok || !partOk {
				t.Fatalf("CostTable(%v) = %v %v, for %d days %v %v", x, table, ok, many, part, partOk)
			}
			if _, cost, ok := impl.BestLots(firstDays(x, many)); cost != table[many] || !ok {
				t.Fatalf("CostTable(%v) = %v, BestLots for %d days cost %v %v", x, table, many, cost, ok)
			}
		}
	}
}

// everyLots has all lots of so many days, each up to so much.
func everyLots(days int, most int) [][]int {
	lists := everyList(countUp(most+1), days)
	return slices.DeleteFunc(lists, func(l []int) bool { return len(l) != days })
}

// Of small trades all lots are gone through, up to one more than is needed in all.
func TestPromise14NoLotsOfSmallTradesCostLess(t *testing.T) {
	alike := 0
	for _, need := range everyList([]int{0, 1, 2}, 4)[1:] {
		all := everyLots(len(need), plainTotal(need)+1)
		for _, x := range []impl.Trade{trade(0, 0, need...), trade(0, 1, need...), trade(1, 0, need...), trade(1, 1, need...), trade(5, 2, need...)} {
			best, least, _ := impl.BestLots(x)
			for _, lots := range all {
				cost, ok := impl.LotCost(x, lots)
				if ok && cost < least {
					t.Fatalf("BestLots(%v) = %v %v, but %v cost %v", x, best, least, lots, cost)
				}
				if ok && cost == least && !slices.Equal(lots, best) {
					alike++
				}
			}
			table, _ := impl.CostTable(x)
			if cost, ok := impl.LotCost(x, best); cost != least || table[len(need)] != least || !ok {
				t.Fatalf("BestLots(%v) = %v %v, LotCost %v %v, CostTable %v", x, best, least, cost, ok, table)
			}
		}
	}
	if alike == 0 {
		t.Error("no other lots cost as little")
	}
}

func TestPromise14NoLotsAtAllCostLess(t *testing.T) {
	for i, x := range append(greatTrades(), sampleTrades()...) {
		most := plainTotal(x.Need)
		// Of some all is gone through that can be left.
		if i%40 == 0 {
			most = 200 * len(x.Need)
		}
		want := leastByStock(x, most)
		if lots, cost, ok := impl.BestLots(x); cost != want || !ok {
			t.Fatalf("BestLots(%v) = %v %v %v, the least is %v", x, lots, cost, ok, want)
		}
	}
}

func TestPromise14NoDrawnLotsCostLess(t *testing.T) {
	more, alike := 0, 0
	for i, x := range manyTrades() {
		best, least, ok := impl.BestLots(x)
		if !ok {
			t.Fatalf("BestLots(%v) tells false", x)
		}
		d := diceOf(i)
		for range 60 {
			lots := drawnLots(d, x)
			cost, ok := impl.LotCost(x, lots)
			if ok && cost < least {
				t.Fatalf("BestLots(%v) = %v %v, but %v cost %v", x, best, least, lots, cost)
			}
			if ok && cost > least {
				more++
			}
			if ok && cost == least && !slices.Equal(lots, best) {
				alike++
			}
		}
	}
	if more < 10000 || alike < 1000 {
		t.Errorf("%d times drawn lots cost more, %d times others cost as little", more, alike)
	}
}

func TestPromise14TheBestComeWhenNothingIsLeft(t *testing.T) {
	kept := 0
	for _, x := range append(manyTrades(), sampleTrades()...) {
		lots, cost, ok := impl.BestLots(x)
		if got, gotOk := impl.LotCost(x, lots); got != cost || !gotOk || !ok {
			t.Fatalf("BestLots(%v) = %v %v %v, LotCost %v %v", x, lots, cost, ok, got, gotOk)
		}
		if lean, ok := impl.IsLean(x, lots); !lean || !ok || !plainlyLean(x, lots) {
			t.Fatalf("IsLean(%v, %v) = %v %v, of BestLots", x, lots, lean, ok)
		}
		if plainLeft(x, lots, len(lots)-1) != 0 {
			t.Fatalf("BestLots(%v) = %v leave some in the end", x, lots)
		}
		if plainLeft(x, lots, 0) > 0 {
			kept++
		}
	}
	if kept < 100 {
		t.Errorf("%d times the best lots kept some of the first one", kept)
	}
}

func TestWithoutStartALotOnEachDayIsBest(t *testing.T) {
	dearer := 0
	for _, x := range manyTrades() {
		x.Start = 0
		each, _ := impl.EachDay(x)
		one, _ := impl.LotsFor(x, []int{0})
		eachCost, eachOk := impl.LotCost(x, each)
		oneCost, oneOk := impl.LotCost(x, one)
		if eachCost != 0 || oneCost < eachCost || !eachOk || !oneOk {
			t.Fatalf("of %v: %v cost %v %v, %v cost %v %v", x, each, eachCost, eachOk, one, oneCost, oneOk)
		}
		if oneCost > eachCost {
			dearer++
		}
		if lots, cost, ok := impl.BestLots(x); !slices.Equal(lots, x.Need) || cost != 0 || !ok {
			t.Fatalf("BestLots(%v) = %v %v %v", x, lots, cost, ok)
		}
	}
	if dearer == 0 {
		t.Error("one lot for all never cost more")
	}
}

// isRefusedTrade asks all functions of a trade.
func isRefusedTrade(t *testing.T, x impl.Trade, lots []int, days []int) {
	if impl.GoodTrade(x) {
		t.Errorf("GoodTrade(%v) is true", x)
	}
	if best, cost, ok := impl.BestLots(x); len(best) != 0 || cost != 0 || ok {
		t.Errorf("BestLots(%v) = %v %v %v", x, best, cost, ok)
	}
	if each, ok := impl.EachDay(x); len(each) != 0 || ok {
		t.Errorf("EachDay(%v) = %v %v", x, each, ok)
	}
	if table, ok := impl.CostTable(x); len(table) != 0 || ok {
		t.Errorf("CostTable(%v) = %v %v", x, table, ok)
	}
	isRefusedLots(t, x, lots)
	isRefusedDays(t, x, days)
}

func isRefusedLots(t *testing.T, x impl.Trade, lots []int) {
	if cost, ok := impl.LotCost(x, lots); cost != 0 || ok {
		t.Errorf("LotCost(%v, %v) = %v %v", x, lots, cost, ok)
	}
	if lean, ok := impl.IsLean(x, lots); lean || ok {
		t.Errorf("IsLean(%v, %v) = %v %v", x, lots, lean, ok)
	}
}

func isRefusedDays(t *testing.T, x impl.Trade, days []int) {
	if lots, ok := impl.LotsFor(x, days); len(lots) != 0 || ok {
		t.Errorf("LotsFor(%v, %v) = %v %v", x, days, lots, ok)
	}
}

func TestPromise19NoWrongTradeHasLots(t *testing.T) {
	for _, x := range wrongTrades() {
		many := len(x.Need)
		for _, lots := range [][]int{nil, {0}, slices.Clone(x.Need), make([]int, many), slices.Repeat([]int{200}, many), slices.Repeat([]int{20}, 10), {math.MaxInt, math.MinInt}} {
			isRefusedTrade(t, x, lots, []int{0})
		}
		for _, days := range [][]int{nil, {}, {0, 1}, {0, many - 1}, countUp(many), countUp(10), {math.MinInt, math.MaxInt}} {
			isRefusedDays(t, x, days)
		}
	}
}

func TestPromise19NoWrongLotsCost(t *testing.T) {
	for _, x := range append(sampleTrades(), greatTrades()...) {
		many := len(x.Need)
		enough, ok := impl.LotCost(x, slices.Repeat([]int{200}, many))
		if want, _ := plainLotCost(x, slices.Repeat([]int{200}, many)); enough != want || !ok {
			t.Fatalf("LotCost(%v, 200 each) = %v %v, not %v", x, enough, ok, want)
		}
		wrong := [][]int{nil, {}, make([]int, many+1), slices.Repeat([]int{200}, many-1), slices.Repeat([]int{200}, many+1), slices.Repeat([]int{200}, 10000), append(slices.Clone(x.Need), 0), x.Need[:many-1]}
		for _, n := range append([]int{-2, -20, -200, 201, 202, 400}, endInts...) {
			wrong = append(wrong, slices.Repeat([]int{n}, many))
			wrong = append(wrong, badNumbers(slices.Repeat([]int{200}, many), n)...)
			wrong = append(wrong, badNumbers(x.Need, n)...)
		}
		// With all at both ends of int what comes wraps round.
		wrong = append(wrong, slices.Repeat([]int{math.MaxInt, math.MinInt}, 5)[:many], slices.Repeat([]int{math.MinInt, math.MaxInt}, 5)[:many], slices.Repeat([]int{1 << 62}, many))
		for _, lots := range wrong {
			isRefusedLots(t, x, slices.Clone(lots))
		}
	}
}

func TestPromise19LotsThatAreTooFewCostNothing(t *testing.T) {
	few := 0
	for _, x := range manyTrades() {
		for _, days := range [][]int{{0}, countUp(len(x.Need)), countUp((len(x.Need) + 1) / 2)} {
			lots := plainLotsFor(x, days)
			for _, day := range days {
				if lots[day] == 0 {
					continue
				}
				few++
				less := slices.Clone(lots)
				less[day]--
				isRefusedLots(t, x, less)
				less[day] = 0
				isRefusedLots(t, x, less)
				// What comes too late does not make up for it.
				if last := len(lots) - 1; day < last && plainTotal(x.Need[day:last]) == lots[day] {
					less[last] = 200
					isRefusedLots(t, x, less)
				}
			}
		}
	}
	if few < 1000 {
		t.Errorf("%d lots were made less", few)
	}
}

func TestPromise19NoWrongDaysHaveLots(t *testing.T) {
	for _, x := range append(sampleTrades(), greatTrades()...) {
		many := len(x.Need)
		wrong := [][]int{nil, {}, {0, 0}, countUp(many + 1), countUp(many)[1:], countUp(10000), make([]int, 10000), slices.Repeat([]int{0, 1}, 5000), append(countUp(many), many-1), {many - 1, 0}, {1, 0}}
		if many > 1 {
			wrong = append(wrong, countDown(many), []int{many - 1})
		}
		for _, n := range append([]int{many, many + 1, 10, 11, -2}, endInts...) {
			wrong = append(wrong, badNumbers([]int{0}, n)...)
			wrong = append(wrong, badNumbers(countUp(many), n)...)
		}
		for _, days := range wrong {
			isRefusedDays(t, x, days)
		}
	}
}

func TestPromise19LotsShareNothing(t *testing.T) {
	for _, plain := range append(greatTrades(), sampleTrades()...) {
		x, days := cloneTrade(plain), countUp(len(plain.Need))
		best, _, _ := impl.BestLots(x)
		again, _, _ := impl.BestLots(x)
		each, _ := impl.EachDay(x)
		lots, _ := impl.LotsFor(x, days)
		one, _ := impl.LotsFor(x, days[:1])
		table, ok := impl.CostTable(x)
		wantBest, wantTable := slices.Clone(best), slices.Clone(table)
		if !ok || len(best) != len(days) || len(each) != len(days) || len(lots) != len(days) || len(one) != len(days) {
			t.Fatal(best, each, lots, one, table)
		}
		shareNone(t, "chapter 14", best, again, each, lots, one, table, x.Need, days)
		x = cloneTrade(plain)
		best, _, _ = impl.BestLots(x)
		each, _ = impl.EachDay(x)
		table, _ = impl.CostTable(x)
		if !slices.Equal(best, wantBest) || !slices.Equal(each, plain.Need) || !slices.Equal(table, wantTable) {
			t.Errorf("%v %v %v behind a write into earlier answers", best, each, table)
		}
	}
}

func cutTrade(x impl.Trade, behind int) impl.Trade {
	return trade(x.Start, x.Keep, cutList(x.Need, behind)...)
}

// tradeHangsOn tells whether a function of a trade alone answers otherwise for a cut than for a plain one.
func tradeHangsOn(x impl.Trade, cut impl.Trade) bool {
	x = cloneTrade(x)
	best, cost, ok := impl.BestLots(x)
	cutBest, cutCost, cutOk := impl.BestLots(cut)
	each, eachOk := impl.EachDay(x)
	cutEach, cutEachOk := impl.EachDay(cut)
	table, tableOk := impl.CostTable(x)
	cutTable, cutTableOk := impl.CostTable(cut)
	return impl.GoodTrade(x) != impl.GoodTrade(cut) ||
		!slices.Equal(best, cutBest) || cost != cutCost || ok != cutOk ||
		!slices.Equal(each, cutEach) || eachOk != cutEachOk || !slices.Equal(table, cutTable) || tableOk != cutTableOk
}

// lotsHangOn tells the same of the functions of lots, or of days.
func lotsHangOn(x impl.Trade, cut impl.Trade, l []int, cutL []int) bool {
	x, l = cloneTrade(x), slices.Clone(l)
	cost, costOk := impl.LotCost(x, l)
	cutCost, cutCostOk := impl.LotCost(cut, cutL)
	lean, leanOk := impl.IsLean(x, l)
	cutLean, cutLeanOk := impl.IsLean(cut, cutL)
	lots, lotsOk := impl.LotsFor(x, l)
	cutLots, cutLotsOk := impl.LotsFor(cut, cutL)
	return cost != cutCost || costOk != cutCostOk || lean != cutLean || leanOk != cutLeanOk || !slices.Equal(lots, cutLots) || lotsOk != cutLotsOk
}

func TestPromise19NoTradesLotsOrDaysAreWritten(t *testing.T) {
	for i, x := range slices.Concat(wrongTrades(), greatTrades(), sampleTrades()) {
		many := len(x.Need)
		lists := [][]int{nil, countUp(many), countUp(many + 1), countDown(many), {0, math.MaxInt, math.MinInt}, append([]int{200, 0, 199}, countUp(10)...)[:min(many, 10)], slices.Clone(x.Need)}
		if plainlyTrade(x) {
			lists = append(lists, drawnLots(diceOf(i), x), drawnLots(diceOf(i+1), x))
		}
		for _, behind := range []int{-1, 0, 1, 20, 200, many} {
			cut := cutTrade(x, behind)
			if tradeHangsOn(x, cut) {
				t.Errorf("what is told of %v hangs on what lies behind it", x)
			}
			for _, l := range lists {
				cutL := cutList(l, behind)
				if lotsHangOn(x, cut, l, cutL) {
					t.Errorf("what is told of %v and %v hangs on what lies behind them", x, l)
				}
				isAsBefore(t, cutL, l, behind)
			}
			isAsBefore(t, cut.Need, x.Need, behind)
		}
	}
}
