package tests

import (
	"math"
	"slices"
	"testing"

	"loop.example/g00451/impl"
)

func offer(gains ...int) impl.Offer {
	return impl.Offer{Gains: gains}
}

func cloneOffers(l []impl.Offer) []impl.Offer {
	var clone []impl.Offer
	for _, o := range l {
		clone = append(clone, offer(slices.Clone(o.Gains)...))
	}
	return clone
}

func sameOffers(a []impl.Offer, b []impl.Offer) bool {
	return slices.EqualFunc(a, b, func(x impl.Offer, y impl.Offer) bool { return slices.Equal(x.Gains, y.Gains) })
}

// everyOffers has all lists of up to so many offers, each of up to so many of these gains.
func everyOffers(gains []int, long int, many int) [][]impl.Offer {
	each := everyList(gains, long)
	var numbers []int
	for i := range each {
		numbers = append(numbers, i)
	}
	var all [][]impl.Offer
	for _, list := range everyList(numbers, many) {
		var l []impl.Offer
		for _, n := range list {
			l = append(l, offer(each[n]...))
		}
		all = append(all, l)
	}
	return all
}

// smallOffers are few enough that all of their counts can be gone through.
func smallOffers() [][]impl.Offer {
	l := slices.Concat(everyOffers([]int{-1, 0, 2}, 2, 3), everyOffers([]int{-2, 1, 3}, 3, 2), everyOffers([]int{-1000, 5, 1000}, 1, 5))
	for i := range 200 {
		var offers []impl.Offer
		for j := range 1 + i%4 {
			offers = append(offers, offer(mixedGains(i, j, 7)...))
		}
		l = append(l, offers)
	}
	return l
}

// mixedGains are up to six gains from -span to span, in no plain order.
func mixedGains(i int, j int, span int) []int {
	var gains []int
	for k := range (i*5 + j*3 + i*j) % 7 {
		gains = append(gains, (i*i*101+j*j*617+k*k*1009+i*j*37+i*k*211+j*k*83)%(2*span+1)-span)
	}
	return gains
}

// greatOffers are up to twelve offers, among them those that use all places, and those where many counts are as good.
func greatOffers() [][]impl.Offer {
	full := func(gains ...int) []impl.Offer { return slices.Repeat([]impl.Offer{offer(gains...)}, 12) }
	l := [][]impl.Offer{
		nil, {}, {offer()}, {offer(1000)}, {offer(-1000)}, full(), full(0), full(1), full(-1), full(0, 0, 0, 0, 0, 0), full(1, 2, 3, 4, 5, 6), full(1, 1, 1, 1, 1, 1), full(6, 5, 4, 3, 2, 1), full(0, 0, 0, 0, 0, 1), full(-1, -1, -1, -1, -1, -1), full(-1000, -1000, -1000, -1000, -1000, -1000), full(1000, 1000, 1000, 1000, 1000, 1000), full(-1000, -1000, -1000, -1000, -1000, 1000), full(-1000, 1000, -1000, 1000, -1000, 1000), full(3, 5, 6, 6, 6, 6), full(0, 5, 5, 10, 10, 15),
	}
	for i := range 150 {
		var offers []impl.Offer
		for j := range 1 + (i*7)%12 {
			offers = append(offers, offer(mixedGains(i, j, []int{1, 3, 20, 1000}[i%4])...))
		}
		l = append(l, offers)
	}
	return l
}

func everyCountsOf(l []impl.Offer) [][]int {
	all := [][]int{nil}
	for _, o := range l {
		var next [][]int
		for _, counts := range all {
			for count := range len(o.Gains) + 1 {
				next = append(next, append(slices.Clone(counts), count))
			}
		}
		all = next
	}
	return all
}

// fullCounts are as many as each offer has Gains.
func fullCounts(l []impl.Offer) []int {
	var counts []int
	for _, o := range l {
		counts = append(counts, len(o.Gains))
	}
	return counts
}

func plainValue(l []impl.Offer, counts []int) int {
	value := 0
	for i, count := range counts {
		if count > 0 {
			value += l[i].Gains[count-1]
		}
	}
	return value
}

// plainMost is the most by going through the offers from the last one back, with the places that are left as an argument: no table of the program's own.
func plainMost(l []impl.Offer, places int) int {
	seen := map[[2]int]int{}
	var most func(many int, left int) int
	most = func(many int, left int) int {
		if many == 0 {
			return 0
		}
		if value, ok := seen[[2]int{many, left}]; ok {
			return value
		}
		value := most(many-1, left)
		for i, gain := range l[many-1].Gains {
			if i+1 <= left {
				value = max(value, most(many-1, left-i-1)+gain)
			}
		}
		seen[[2]int{many, left}] = value
		return value
	}
	return most(len(l), places)
}

func TestGoodOffers(t *testing.T) {
	for _, l := range append(greatOffers(), smallOffers()...) {
		if !impl.GoodOffers(l) {
			t.Fatalf("GoodOffers(%v) = false", l)
		}
	}
	for _, l := range wrongOffers() {
		if impl.GoodOffers(l) {
			t.Errorf("GoodOffers(%v) = true", l)
		}
	}
	for many := range 20 {
		if got := impl.GoodOffers(make([]impl.Offer, many)); got != (many <= 12) {
			t.Errorf("GoodOffers of %d = %v", many, got)
		}
		if got := impl.GoodOffers([]impl.Offer{offer(1), offer(make([]int, many)...)}); got != (many <= 6) {
			t.Errorf("GoodOffers of one with %d gains = %v", many, got)
		}
	}
	for gain := -1100; gain <= 1100; gain++ {
		want := gain >= -1000 && gain <= 1000
		if impl.GoodOffers([]impl.Offer{offer(gain)}) != want || impl.GoodOffers([]impl.Offer{offer(), offer(0, 0, 0, 0, 0, gain)}) != want {
			t.Errorf("GoodOffers with %d is not %v", gain, want)
		}
	}
}

func TestGainsOfByHand(t *testing.T) {
	for _, c := range []struct {
		picks, flow, saved, cost int
		want                     []int
	}{
		{10, 6, 2, 3, []int{2, 11, 14, 15, 16, 17}}, {0, 0, 0, 0, []int{0, 0, 0, 0, 0, 0}}, {100, 100, 0, 0, []int{0, 0, 0, 0, 0, 0}}, {0, 0, 10, 10, []int{0, 0, 0, 0, 0, 0}},
		// What is divided is cost times flow alone, and up: one part of it costs 1 with any number of places.
		{0, 1, 0, 1, []int{-1, -1, -1, -1, -1, -1}}, {1, 1, 1, 1, []int{0, 0, 0, 0, 0, 0}}, {3, 7, 2, 1, []int{-1, 2, 3, 4, 4, 4}}, {7, 7, 1, 1, []int{0, 3, 4, 5, 5, 5}}, {0, 13, 10, 1, []int{-13, -7, -5, -4, -3, -3}},
		{1, 60, 1, 1, []int{-59, -29, -19, -14, -11, -9}}, {1, 61, 1, 1, []int{-60, -30, -20, -15, -12, -10}},
		// Just an offer.
		{100, 0, 10, 10, []int{1000, 1000, 1000, 1000, 1000, 1000}}, {100, 100, 10, 0, []int{1000, 1000, 1000, 1000, 1000, 1000}}, {0, 100, 10, 10, []int{-1000, -500, -334, -250, -200, -167}}, {100, 100, 0, 10, []int{-1000, -500, -334, -250, -200, -167}}, {100, 100, 10, 10, []int{0, 500, 666, 750, 800, 833}},
	} {
		if got, ok := impl.GainsOf(c.picks, c.flow, c.saved, c.cost); !slices.Equal(got.Gains, c.want) || !ok {
			t.Errorf("GainsOf(%d, %d, %d, %d) = %v %v, not %v", c.picks, c.flow, c.saved, c.cost, got, ok, c.want)
		}
	}
}

// areGainsOf asks whether what each n takes off is the least number that, n times, is not below cost times flow.
func areGainsOf(gains []int, gained int, spent int) bool {
	for i, gain := range gains {
		n, off := i+1, gained-gain
		if off*n < spent || (off-1)*n >= spent {
			return false
		}
	}
	return len(gains) == 6
}

func TestGainsOfEachNumber(t *testing.T) {
	least, greatest := 0, 0
	for picks := 0; picks <= 100; picks++ {
		for flow := 0; flow <= 100; flow++ {
			for rates := range 121 {
				saved, cost := rates/11, rates%11
				got, ok := impl.GainsOf(picks, flow, saved, cost)
				if !ok || !areGainsOf(got.Gains, saved*picks, cost*flow) {
					t.Fatalf("GainsOf(%d, %d, %d, %d) = %v %v", picks, flow, saved, cost, got, ok)
				}
				least, greatest = min(least, got.Gains[0]), max(greatest, got.Gains[5])
			}
		}
	}
	// No numbers as said lead beyond MaxGain, so none are refused for that.
	if least != -impl.MaxGain || greatest != impl.MaxGain {
		t.Errorf("gains are from %d to %d", least, greatest)
	}
}

func TestGainsOfAreOffers(t *testing.T) {
	var l []impl.Offer
	for _, n := range []int{0, 1, 50, 99, 100} {
		for _, rate := range []int{0, 1, 9, 10} {
			got, ok := impl.GainsOf(n, 100-n, rate, 10-rate)
			if !ok || !impl.GoodOffers([]impl.Offer{got}) {
				t.Fatalf("GainsOf(%d, %d, %d, %d) = %v %v", n, 100-n, rate, 10-rate, got, ok)
			}
			l = append(l, got)
		}
	}
	for i := range len(l) - 11 {
		isBest(t, l[i:i+12], 40)
	}
}

func TestValueOfByHand(t *testing.T) {
	two := []impl.Offer{offer(5, 8), offer(4, 4)}
	mixed := []impl.Offer{offer(-1000, 1000), offer(), offer(1, 2, 3, 4, 5, 6), offer(0)}
	for _, c := range []struct {
		l      []impl.Offer
		counts []int
		want   int
	}{
		{nil, nil, 0}, {nil, []int{}, 0}, {[]impl.Offer{offer()}, []int{0}, 0}, {two, []int{0, 0}, 0}, {two, []int{1, 0}, 5}, {two, []int{2, 0}, 8}, {two, []int{0, 1}, 4}, {two, []int{0, 2}, 4}, {two, []int{1, 1}, 9}, {two, []int{2, 2}, 12},
		{mixed, []int{0, 0, 0, 0}, 0}, {mixed, []int{1, 0, 6, 1}, -994}, {mixed, []int{2, 0, 1, 0}, 1001}, {mixed, []int{2, 0, 6, 1}, 1006},
		// Counts may be more than 40 together: each of them is held to its own Gains alone.
		{slices.Repeat([]impl.Offer{offer(0, 0, 0, 0, 0, 1000)}, 12), slices.Repeat([]int{6}, 12), 12000}, {slices.Repeat([]impl.Offer{offer(0, 0, 0, 0, 0, -1000)}, 12), slices.Repeat([]int{6}, 12), -12000}, {slices.Repeat([]impl.Offer{offer(7, 0, 0, 0, 0, 1000)}, 12), slices.Repeat([]int{1}, 12), 84},
	} {
		if got, ok := impl.ValueOf(c.l, c.counts); got != c.want || !ok {
			t.Errorf("ValueOf(%v, %v) = %v %v, not %v", c.l, c.counts, got, ok, c.want)
		}
	}
}

func TestValueOfEachCounts(t *testing.T) {
	for _, l := range smallOffers() {
		for _, counts := range everyCountsOf(l) {
			if got, ok := impl.ValueOf(l, counts); got != plainValue(l, counts) || !ok {
				t.Fatalf("ValueOf(%v, %v) = %v %v, not %v", l, counts, got, ok, plainValue(l, counts))
			}
		}
	}
}

func TestBestChoiceByHand(t *testing.T) {
	two := []impl.Offer{offer(5, 8), offer(4, 4)}
	late := []impl.Offer{offer(-5, -5, 9), offer(1, 2, 2)}
	alike := []impl.Offer{offer(3, 3), offer(3, 3), offer(3, 3)}
	full := slices.Repeat([]impl.Offer{offer(1, 2, 3, 4, 5, 6)}, 12)
	for _, c := range []struct {
		l      []impl.Offer
		places int
		counts []int
		most   int
	}{
		{nil, 0, nil, 0}, {nil, 40, nil, 0}, {[]impl.Offer{offer()}, 0, []int{0}, 0}, {[]impl.Offer{offer(), offer()}, 40, []int{0, 0}, 0}, {two, 0, []int{0, 0}, 0}, {two, 1, []int{1, 0}, 5}, {two, 2, []int{1, 1}, 9}, {two, 3, []int{2, 1}, 12}, {two, 4, []int{2, 1}, 12}, {two, 40, []int{2, 1}, 12},
		// What is below 0 at first may be worth it in the end.
		{late, 0, []int{0, 0}, 0}, {late, 1, []int{0, 1}, 1}, {late, 2, []int{0, 2}, 2}, {late, 3, []int{3, 0}, 9}, {late, 4, []int{3, 1}, 10}, {late, 5, []int{3, 2}, 11}, {late, 40, []int{3, 2}, 11},
		// Of alike ones the last offer has the least count: the first one takes what there is.
		{alike, 1, []int{1, 0, 0}, 3}, {alike, 2, []int{1, 1, 0}, 6}, {alike, 3, []int{1, 1, 1}, 9}, {alike, 40, []int{1, 1, 1}, 9}, {full, 40, []int{6, 6, 6, 6, 6, 6, 4, 0, 0, 0, 0, 0}, 40}, {full, 6, []int{6, 0, 0, 0, 0, 0, 0, 0, 0, 0, 0, 0}, 6}, {full, 7, []int{6, 1, 0, 0, 0, 0, 0, 0, 0, 0, 0, 0}, 7},
		{[]impl.Offer{offer(2, 4), offer(2, 4)}, 3, []int{2, 1}, 6}, {[]impl.Offer{offer(1), offer(0, 2)}, 2, []int{0, 2}, 2}, {[]impl.Offer{offer(2), offer(0, 2)}, 2, []int{1, 0}, 2}, {[]impl.Offer{offer(2), offer(1, 3)}, 2, []int{1, 1}, 3},
		// A count that gains nothing is not taken, however many places there are.
		{[]impl.Offer{offer(0, 0), offer(0), offer(-1, 0)}, 40, []int{0, 0, 0}, 0}, {[]impl.Offer{offer(-1), offer(-1000, -1)}, 40, []int{0, 0}, 0}, {[]impl.Offer{offer(4, 4, 4)}, 40, []int{1}, 4}, {[]impl.Offer{offer(4, 3, 5, 5, 2)}, 40, []int{3}, 5}, {[]impl.Offer{offer(4, 3, 5, 5, 2)}, 2, []int{1}, 4},
		{slices.Repeat([]impl.Offer{offer(1000)}, 12), 12, slices.Repeat([]int{1}, 12), 12000}, {slices.Repeat([]impl.Offer{offer(1000)}, 12), 11, append(slices.Repeat([]int{1}, 11), 0), 11000},
	} {
		if counts, most, ok := impl.BestChoice(c.l, c.places); !slices.Equal(counts, c.counts) || most != c.most || !ok {
			t.Errorf("BestChoice(%v, %d) = %v %v %v, not %v %v", c.l, c.places, counts, most, ok, c.counts, c.most)
		}
	}
}

func TestBestTableByHand(t *testing.T) {
	for _, c := range []struct {
		l      []impl.Offer
		places int
		want   []int
	}{
		{nil, 0, []int{0}}, {nil, 3, []int{0, 0, 0, 0}}, {nil, 40, make([]int, 41)}, {[]impl.Offer{offer(7)}, 0, []int{0}}, {[]impl.Offer{offer(7)}, 3, []int{0, 7, 7, 7}}, {[]impl.Offer{offer(-7)}, 2, []int{0, 0, 0}}, {[]impl.Offer{offer(5, 8), offer(4, 4)}, 2, []int{0, 5, 9}}, {[]impl.Offer{offer(5, 8), offer(4, 4)}, 5, []int{0, 5, 9, 12, 12, 12}},
		// With more places a choice may turn to wholly other offers, and one with places left is no worse.
		{[]impl.Offer{offer(-5, -5, 9), offer(1, 2, 2)}, 6, []int{0, 1, 2, 9, 10, 11, 11}}, {[]impl.Offer{offer(8, -3)}, 4, []int{0, 8, 8, 8, 8}}, {[]impl.Offer{offer(), offer(1, 2, 3, 4, 5, 6)}, 8, []int{0, 1, 2, 3, 4, 5, 6, 6, 6}},
	} {
		if got, ok := impl.BestTable(c.l, c.places); !slices.Equal(got, c.want) || !ok {
			t.Errorf("BestTable(%v, %d) = %v %v, not %v", c.l, c.places, got, ok, c.want)
		}
	}
}

// lessFromTheEnd holds counts against each other from the last one back.
func lessFromTheEnd(a []int, b []int) bool {
	for i := len(a) - 1; i >= 0; i-- {
		if a[i] != b[i] {
			return a[i] < b[i]
		}
	}
	return false
}

// bestOfEvery goes through all counts: the most with at most so many places, and of those that gain it the least ones from the end.
func bestOfEvery(l []impl.Offer, all [][]int, places int) ([]int, int) {
	best := make([]int, len(l))
	for _, counts := range all {
		if plainTotal(counts) > places {
			continue
		}
		gap := plainValue(l, counts) - plainValue(l, best)
		if gap > 0 || gap == 0 && lessFromTheEnd(counts, best) {
			best = counts
		}
	}
	return best, plainValue(l, best)
}

func TestPromise6NoCountsGainMore(t *testing.T) {
	for _, l := range smallOffers() {
		all := everyCountsOf(l)
		for places := range 9 {
			counts, most, ok := impl.BestChoice(l, places)
			for _, other := range all {
				value, valueOk := impl.ValueOf(l, other)
				if !ok || !valueOk || plainTotal(other) <= places && value > most {
					t.Fatalf("of %v with %d places %v gain %d %v, the best ones %v %d", l, places, other, value, valueOk, counts, most)
				}
			}
			wantCounts, want := bestOfEvery(l, all, places)
			if !slices.Equal(counts, wantCounts) || most != want {
				t.Fatalf("BestChoice(%v, %d) = %v %v, not %v %v", l, places, counts, most, wantCounts, want)
			}
		}
	}
}

// isBest asks for what the document says of a choice, by counts that no table of the program's own has led to.
func isBest(t *testing.T, l []impl.Offer, places int) {
	counts, most, ok := impl.BestChoice(l, places)
	want := plainMost(l, places)
	if !ok || most != want || len(counts) != len(l) || plainTotal(counts) > places {
		t.Fatalf("BestChoice(%v, %d) = %v %v %v, not %d", l, places, counts, most, ok, want)
	}
	if value, ok := impl.ValueOf(l, counts); value != most || !ok {
		t.Fatalf("BestChoice(%v, %d) = %v %v, but they gain %v %v", l, places, counts, most, value, ok)
	}
	behind, left := 0, places
	for i := len(l) - 1; i >= 0; i-- {
		for less := range counts[i] {
			if behind+plainValue(l[i:i+1], []int{less})+plainMost(l[:i], left-less) >= most {
				t.Fatalf("BestChoice(%v, %d) = %v: at %d a count of %d does, too", l, places, counts, i, less)
			}
		}
		behind += plainValue(l[i:i+1], counts[i:i+1])
		left -= counts[i]
	}
}

func TestPromise6BestChoiceUpTo40Places(t *testing.T) {
	full := 0
	for _, l := range greatOffers() {
		for _, places := range []int{0, 1, 2, 5, 6, 7, 12, 23, 39, 40} {
			isBest(t, l, places)
		}
		if counts, _, _ := impl.BestChoice(l, 40); plainTotal(counts) == 40 {
			full++
		}
	}
	if full == 0 {
		t.Error("no choice used all 40 places")
	}
}

func TestPromise6BestTableIsWhatEachChoiceGains(t *testing.T) {
	for _, l := range append(greatOffers(), smallOffers()...) {
		longest, ok := impl.BestTable(l, 40)
		if len(longest) != 41 || !ok || longest[0] != 0 || !slices.IsSorted(longest) {
			t.Fatalf("BestTable(%v, 40) = %v %v", l, longest, ok)
		}
		for places := 0; places <= 40; places++ {
			if _, most, ok := impl.BestChoice(l, places); most != longest[places] || !ok {
				t.Fatalf("BestChoice(%v, %d) gains %d %v, not %d", l, places, most, ok, longest[places])
			}
		}
		for _, places := range []int{0, 1, 3, 7, 39} {
			if got, ok := impl.BestTable(l, places); !slices.Equal(got, longest[:places+1]) || !ok {
				t.Fatalf("BestTable(%v, %d) = %v %v, not the beginning of %v", l, places, got, ok, longest)
			}
		}
	}
}

func TestPromise6BestTableIsTheMost(t *testing.T) {
	for _, l := range greatOffers() {
		table, ok := impl.BestTable(l, 40)
		for places, most := range table {
			if want := plainMost(l, places); most != want || !ok {
				t.Fatalf("BestTable(%v, 40) has %d %v at %d, not %d", l, most, ok, places, want)
			}
		}
	}
}

func TestBoundOfByHand(t *testing.T) {
	for _, c := range []struct {
		l    []impl.Offer
		want int
	}{
		{nil, 0}, {[]impl.Offer{offer()}, 0}, {[]impl.Offer{offer(-1), offer(-1000, -1)}, 0}, {[]impl.Offer{offer(0)}, 0}, {[]impl.Offer{offer(1)}, 1}, {[]impl.Offer{offer(5, 8), offer(4, 4)}, 12}, {[]impl.Offer{offer(5, 8), offer(-4, -4), offer(), offer(9, 3, 1)}, 17}, {[]impl.Offer{offer(-1, -1, -1, -1, -1, 3)}, 3},
		{slices.Repeat([]impl.Offer{offer(0, 0, 0, 0, 0, 1000)}, 12), 12000}, {slices.Repeat([]impl.Offer{offer(1000)}, 12), 12000}, {slices.Repeat([]impl.Offer{offer(-1000)}, 12), 0},
	} {
		// The places bound nothing here, as long as they are as said.
		for places := 0; places <= 40; places++ {
			if got, ok := impl.BoundOf(c.l, places); got != c.want || !ok {
				t.Errorf("BoundOf(%v, %d) = %v %v, not %v", c.l, places, got, ok, c.want)
			}
		}
	}
}

// plainBound is what the offers gain where each one has the places that it likes best.
func plainBound(l []impl.Offer) int {
	return plainMost(l, 72)
}

func TestBoundOfIsNotBelowTheMost(t *testing.T) {
	above := 0
	for _, l := range append(greatOffers(), smallOffers()...) {
		for _, places := range []int{0, 1, 2, 6, 20, 40} {
			bound, ok := impl.BoundOf(l, places)
			_, most, mostOk := impl.BestChoice(l, places)
			if !ok || !mostOk || bound < most || bound != plainBound(l) {
				t.Fatalf("BoundOf(%v, %d) = %d %v, not %d; the most is %d", l, places, bound, ok, plainBound(l), most)
			}
			if bound > most {
				above++
			}
			if room := len(slices.Concat(gainLists(l)...)); room <= places && bound != most {
				t.Fatalf("BoundOf(%v, %d) = %d, but %d with a place for each", l, places, bound, most)
			}
		}
	}
	if above == 0 {
		t.Error("no bound was above the most")
	}
}

func gainLists(l []impl.Offer) [][]int {
	var lists [][]int
	for _, o := range l {
		lists = append(lists, o.Gains)
	}
	return lists
}

func TestDropOfferByHand(t *testing.T) {
	two := []impl.Offer{offer(5, 8), offer(4, 4)}
	late := []impl.Offer{offer(-5, -5, 9), offer(1, 2, 2), offer(), offer(-3)}
	for _, c := range []struct {
		l         []impl.Offer
		k, places int
		want      int
	}{
		{two, 0, 0, 0}, {two, 1, 0, 0}, {two, 0, 1, 1}, {two, 1, 1, 0}, {two, 0, 2, 5}, {two, 1, 2, 1}, {two, 0, 3, 8}, {two, 1, 3, 4}, {two, 0, 40, 8}, {two, 1, 40, 4},
		{late, 0, 2, 0}, {late, 0, 3, 7}, {late, 1, 3, 0}, {late, 1, 4, 1}, {late, 1, 5, 2}, {late, 2, 40, 0}, {late, 3, 40, 0}, {late, 3, 0, 0},
		// Of alike ones each is worth nothing where places are few.
		{[]impl.Offer{offer(3), offer(3)}, 0, 1, 0}, {[]impl.Offer{offer(3), offer(3)}, 1, 1, 0}, {[]impl.Offer{offer(3), offer(3)}, 0, 2, 3}, {[]impl.Offer{offer(1000)}, 0, 1, 1000}, {[]impl.Offer{offer(-1000)}, 0, 1, 0},
		{slices.Repeat([]impl.Offer{offer(1, 2, 3, 4, 5, 6)}, 12), 11, 40, 0}, {slices.Repeat([]impl.Offer{offer(1000)}, 12), 11, 40, 1000},
	} {
		if got, ok := impl.DropOffer(c.l, c.k, c.places); got != c.want || !ok {
			t.Errorf("DropOffer(%v, %d, %d) = %v %v, not %v", c.l, c.k, c.places, got, ok, c.want)
		}
	}
}

func TestDropOfferIsWhatTheMostIsLess(t *testing.T) {
	for _, l := range append(greatOffers(), smallOffers()...) {
		for _, places := range []int{0, 1, 3, 11, 40} {
			_, most, _ := impl.BestChoice(l, places)
			for k := range l {
				without := slices.Delete(slices.Clone(l), k, k+1)
				_, rest, restOk := impl.BestChoice(without, places)
				if got, ok := impl.DropOffer(l, k, places); got != most-rest || got < 0 || !ok || !restOk {
					t.Fatalf("DropOffer(%v, %d, %d) = %v %v, not %d less %d", l, k, places, got, ok, most, rest)
				}
			}
		}
	}
	for _, l := range greatOffers() {
		for k := range l {
			want := plainMost(l, 17) - plainMost(slices.Delete(slices.Clone(l), k, k+1), 17)
			if got, ok := impl.DropOffer(l, k, 17); got != want || !ok {
				t.Fatalf("DropOffer(%v, %d, 17) = %v %v, not %v", l, k, got, ok, want)
			}
		}
	}
}

// wrongOffers have one thing that is not as said, in the end, in the middle or at the beginning.
func wrongOffers() [][]impl.Offer {
	l := [][]impl.Offer{make([]impl.Offer, 13), make([]impl.Offer, 14), make([]impl.Offer, 200), slices.Repeat([]impl.Offer{offer(1, 2)}, 13)}
	wrong := []impl.Offer{offer(0, 0, 0, 0, 0, 0, 0), offer(1, 2, 3, 4, 5, 6, 7), offer(make([]int, 100)...)}
	for _, n := range []int{math.MinInt, math.MinInt + 1, -1 << 32, -1001, 1001, 1 << 32, 1 << 62, math.MaxInt - 1, math.MaxInt} {
		wrong = append(wrong, offer(n), offer(0, n), offer(n, 0), offer(1, 2, 3, 4, 5, n), offer(1, 2, n, 4, 5, 6), offer(n, n, n, n, n, n))
	}
	for _, o := range wrong {
		l = append(l, []impl.Offer{o}, []impl.Offer{o, offer(1)}, []impl.Offer{offer(1), o}, []impl.Offer{offer(1), o, offer()}, append(slices.Repeat([]impl.Offer{offer(1, 2)}, 11), o))
	}
	return l
}

// isRefusedChoice asks whether each function of offers and places gives the zero answer and false.
func isRefusedChoice(t *testing.T, l []impl.Offer, places int) {
	if got, ok := impl.BestTable(l, places); len(got) != 0 || ok {
		t.Errorf("BestTable(%v, %d) = %v %v", l, places, got, ok)
	}
	if counts, most, ok := impl.BestChoice(l, places); len(counts) != 0 || most != 0 || ok {
		t.Errorf("BestChoice(%v, %d) = %v %v %v", l, places, counts, most, ok)
	}
	if got, ok := impl.BoundOf(l, places); got != 0 || ok {
		t.Errorf("BoundOf(%v, %d) = %v %v", l, places, got, ok)
	}
	for _, k := range append([]int{0, 1, len(l) - 1, len(l)}, endInts...) {
		isRefusedDrop(t, l, k, places)
	}
}

func isRefusedDrop(t *testing.T, l []impl.Offer, k int, places int) {
	if got, ok := impl.DropOffer(l, k, places); got != 0 || ok {
		t.Errorf("DropOffer(%v, %d, %d) = %v %v", l, k, places, got, ok)
	}
}

func isRefusedValue(t *testing.T, l []impl.Offer, counts []int) {
	if got, ok := impl.ValueOf(l, counts); got != 0 || ok {
		t.Errorf("ValueOf(%v, %v) = %v %v", l, counts, got, ok)
	}
}

func TestPromise19NoWrongOfferIsChosen(t *testing.T) {
	for _, l := range wrongOffers() {
		for _, places := range append([]int{0, 1, 6, 13, 40, 41}, endInts...) {
			isRefusedChoice(t, l, places)
		}
		for _, counts := range [][]int{nil, {0}, make([]int, len(l)), slices.Repeat([]int{1}, len(l)), make([]int, 12)} {
			isRefusedValue(t, l, counts)
		}
	}
}

func TestPromise19NoWrongPlacesAreFilled(t *testing.T) {
	for _, l := range greatOffers() {
		for _, places := range append([]int{41, 42, 72, 73, 1000, -2, -40}, endInts...) {
			isRefusedChoice(t, l, places)
		}
		for _, places := range []int{0, 40} {
			table, ok := impl.BestTable(l, places)
			counts, _, choiceOk := impl.BestChoice(l, places)
			_, boundOk := impl.BoundOf(l, places)
			if len(table) != places+1 || len(counts) != len(l) || !ok || !choiceOk || !boundOk {
				t.Errorf("%v with %d places: %v %v %v %v %v", l, places, table, ok, counts, choiceOk, boundOk)
			}
		}
	}
}

func TestPromise19NoWrongOfferIsDropped(t *testing.T) {
	for _, l := range greatOffers() {
		for _, places := range []int{0, 1, 12, 40} {
			for _, k := range append([]int{len(l), len(l) + 1, 12, 13, 1000, -len(l) - 1}, endInts...) {
				isRefusedDrop(t, l, k, places)
			}
			for k := range l {
				if _, ok := impl.DropOffer(l, k, places); !ok {
					t.Errorf("DropOffer(%v, %d, %d) tells false", l, k, places)
				}
			}
		}
	}
}

func TestPromise19NoWrongCountsAreValued(t *testing.T) {
	for _, l := range greatOffers() {
		isRefusedValue(t, l, make([]int, len(l)+1))
		isRefusedValue(t, l, make([]int, len(l)+100))
		if len(l) > 0 {
			isRefusedValue(t, l, nil)
			isRefusedValue(t, l, make([]int, len(l)-1))
		}
		for i, o := range l {
			for _, count := range append([]int{len(o.Gains) + 1, len(o.Gains) + 2, 7, 41, -2, -6}, endInts...) {
				counts := make([]int, len(l))
				counts[i] = count
				isRefusedValue(t, l, counts)
				// What the others gain is not told beside a false either.
				full := fullCounts(l)
				full[i] = count
				isRefusedValue(t, l, full)
			}
			for _, count := range []int{0, len(o.Gains)} {
				counts := make([]int, len(l))
				counts[i] = count
				if got, ok := impl.ValueOf(l, counts); got != plainValue(l, counts) || !ok {
					t.Errorf("ValueOf(%v, %v) = %v %v", l, counts, got, ok)
				}
			}
		}
	}
}

func TestPromise19NoWrongNumbersGain(t *testing.T) {
	// Each of the four alone is beyond, and all are together.
	for _, n := range append([]int{101, 102, 1000, -100}, endInts...) {
		for _, a := range [][4]int{{n, 1, 1, 1}, {1, n, 1, 1}, {n, 0, 0, 0}, {0, n, 0, 0}, {n, 100, 10, 10}, {100, n, 10, 10}, {n, n, n, n}} {
			if got, ok := impl.GainsOf(a[0], a[1], a[2], a[3]); len(got.Gains) != 0 || ok {
				t.Errorf("GainsOf%v = %v %v", a, got, ok)
			}
		}
	}
	for _, n := range append([]int{11, 12, 100, 101, -10}, endInts...) {
		for _, a := range [][4]int{{1, 1, n, 1}, {1, 1, 1, n}, {0, 0, n, 0}, {0, 0, 0, n}, {100, 100, n, 10}, {100, 100, 10, n}} {
			if got, ok := impl.GainsOf(a[0], a[1], a[2], a[3]); len(got.Gains) != 0 || ok {
				t.Errorf("GainsOf%v = %v %v", a, got, ok)
			}
		}
	}
}

func TestPromise19ChoicesShareNothing(t *testing.T) {
	// The gains are like all answers, so that handing them out would not be seen by what they hold.
	l := []impl.Offer{offer(0), offer(0, 0)}
	var lists [][]int
	for range 2 {
		table, ok := impl.BestTable(l, 3)
		other, otherOk := impl.BestTable(nil, 3)
		counts, _, countsOk := impl.BestChoice(l, 3)
		gains, gainsOk := impl.GainsOf(0, 0, 0, 0)
		if !ok || !otherOk || !countsOk || !gainsOk || len(table) != 4 || len(other) != 4 || len(counts) != 2 || len(gains.Gains) != 6 {
			t.Fatal(table, other, counts, gains)
		}
		lists = append(lists, table, other, counts, gains.Gains)
	}
	shareNone(t, "chapter 6", append(lists, gainLists(l)...)...)
	two := []impl.Offer{offer(5, 8), offer(4, 4)}
	if got, ok := impl.BestTable(two, 3); !slices.Equal(got, []int{0, 5, 9, 12}) || !ok {
		t.Errorf("BestTable = %v %v behind a write into earlier answers", got, ok)
	}
	if counts, most, ok := impl.BestChoice(two, 3); !slices.Equal(counts, []int{2, 1}) || most != 12 || !ok {
		t.Errorf("BestChoice = %v %v %v behind a write into earlier answers", counts, most, ok)
	}
	if got, ok := impl.GainsOf(10, 6, 2, 3); !slices.Equal(got.Gains, []int{2, 11, 14, 15, 16, 17}) || !ok {
		t.Errorf("GainsOf = %v %v behind a write into earlier answers", got, ok)
	}
}

// cutOffers lets two more offers stand behind the list's length, and two more gains behind each offer's.
func cutOffers(l []impl.Offer, behind int) []impl.Offer {
	cut := make([]impl.Offer, 0, len(l)+2)
	for _, o := range l {
		cut = append(cut, offer(cutList(o.Gains, behind)...))
	}
	return append(cut, offer(behind), offer(behind, behind))[:len(l)]
}

// fullOffers has what stands behind the lengths, too.
func fullOffers(cut []impl.Offer) []impl.Offer {
	full := slices.Clone(cut[:len(cut)+2])
	for i := range cut {
		full[i] = offer(cut[i].Gains[:len(cut[i].Gains)+2]...)
	}
	return full
}

// choiceHangsOn tells whether a function of offers and places answers otherwise for cut than for plain ones.
func choiceHangsOn(l []impl.Offer, cut []impl.Offer, places int) bool {
	l = cloneOffers(l)
	table, tableOk := impl.BestTable(l, places)
	cutTable, cutTableOk := impl.BestTable(cut, places)
	counts, most, ok := impl.BestChoice(l, places)
	cutCounts, cutMost, cutOk := impl.BestChoice(cut, places)
	bound, boundOk := impl.BoundOf(l, places)
	cutBound, cutBoundOk := impl.BoundOf(cut, places)
	for k := -1; k < len(l)+3; k++ {
		drop, dropOk := impl.DropOffer(l, k, places)
		cutDrop, cutDropOk := impl.DropOffer(cut, k, places)
		if drop != cutDrop || dropOk != cutDropOk {
			return true
		}
	}
	return !slices.Equal(table, cutTable) || tableOk != cutTableOk || !slices.Equal(counts, cutCounts) || most != cutMost || ok != cutOk || bound != cutBound || boundOk != cutBoundOk || impl.GoodOffers(l) != impl.GoodOffers(cut)
}

func TestPromise19NoOffersOrCountsAreWritten(t *testing.T) {
	for _, l := range append(wrongOffers(), greatOffers()...) {
		for _, behind := range []int{-1, 1000, 1001} {
			cut := cutOffers(l, behind)
			before := cloneOffers(fullOffers(cut))
			for _, places := range []int{-1, 0, 1, 7, 40, 41} {
				if choiceHangsOn(l, cut, places) {
					t.Errorf("%v and %d places hang on what lies behind", l, places)
				}
			}
			for _, counts := range [][]int{nil, make([]int, len(l)), slices.Repeat([]int{1}, len(l)), slices.Repeat([]int{6}, len(l)), countUp(len(l)), make([]int, len(l)+1)} {
				cutCounts := cutList(counts, behind)
				want, wantOk := impl.ValueOf(cloneOffers(l), slices.Clone(counts))
				if got, ok := impl.ValueOf(cut, cutCounts); got != want || ok != wantOk {
					t.Errorf("ValueOf(%v, %v) hangs on what lies behind them", l, counts)
				}
				if !slices.Equal(cutCounts[:len(counts)+2], append(slices.Clone(counts), behind, behind)) {
					t.Errorf("%v was made of %v", cutCounts[:len(counts)+2], counts)
				}
			}
			if !sameOffers(fullOffers(cut), before) {
				t.Errorf("%v was made of %v", fullOffers(cut), before)
			}
		}
	}
}
