package tests

import (
	"math"
	"math/big"
	"slices"
	"testing"

	"loop.example/g00451/impl"
)

// allCommon is what each of 1..40 divides: so many times any cost is a whole number, and still an int.
const allCommon = 5342931457063200

// partOfCost is allCommon times a flow divided by its count.
func partOfCost(flow int, count int) int {
	return allCommon / count * flow
}

func TestAllCommonIsDividedByEachCount(t *testing.T) {
	for count := 1; count <= 40; count++ {
		if allCommon%count != 0 {
			t.Errorf("%d does not divide it", count)
		}
	}
}

// costIn is allCommon times what counts cost.
func costIn(flow []int, counts []int) int {
	cost := 0
	for i, count := range counts {
		cost += partOfCost(flow[i], count)
	}
	return cost
}

// plainCost says what the document says, by fractions that have no bounds.
func plainCost(flow []int, counts []int) impl.Frac {
	sum := new(big.Rat)
	for i, count := range counts {
		sum.Add(sum, big.NewRat(int64(flow[i]), int64(count)))
	}
	cost, _ := answerOf(sum)
	return cost
}

func plainGain(flow int, count int) impl.Frac {
	gain, _ := answerOf(big.NewRat(int64(flow), int64(count*(count+1))))
	return gain
}

// everyCounts has all counts of so many kinds with so many places together.
func everyCounts(kinds int, places int) [][]int {
	if kinds == 0 {
		if places == 0 {
			return [][]int{nil}
		}
		return nil
	}
	var all [][]int
	for last := 1; last <= places; last++ {
		for _, l := range everyCounts(kinds-1, places-last) {
			all = append(all, append(slices.Clone(l), last))
		}
	}
	return all
}

// smallFlows are all flows of one to four kinds of a few numbers, the least and the greatest one among them.
func smallFlows() [][]int {
	var l [][]int
	for _, flow := range append(everyList([]int{1, 2, 7, 30}, 4), everyList([]int{1, 3, 6, 8, 12, 24, 29}, 2)...) {
		if len(flow) > 0 {
			l = append(l, flow)
		}
	}
	return l
}

// greatFlows are flows of up to eight kinds, in no plain order.
func greatFlows() [][]int {
	l := [][]int{
		{1}, {30}, {30, 1}, {1, 30}, {8, 2}, {30, 30, 30}, {1, 1, 1, 1, 1, 1, 1, 1}, {30, 30, 30, 30, 30, 30, 30, 30}, {30, 1, 1, 1, 1, 1, 1, 1}, {1, 1, 1, 1, 1, 1, 1, 30},
		{1, 2, 3, 4, 5, 6, 7, 8}, {8, 7, 6, 5, 4, 3, 2, 1}, {2, 6, 12, 20, 30, 1, 3, 10}, {30, 29, 28, 27, 26, 25, 24, 23},
	}
	for i := range 120 {
		var flow []int
		for j := range 1 + i%8 {
			flow = append(flow, 1+(i*i*31+j*j*17+i*j*7)%30)
		}
		l = append(l, flow)
	}
	return l
}

func TestGoodKinds(t *testing.T) {
	for _, c := range []struct {
		flow   []int
		places int
	}{
		{[]int{1}, 1}, {[]int{30}, 40}, {[]int{8, 2}, 2}, {[]int{8, 2}, 4}, {[]int{8, 2}, 40}, {[]int{1, 30}, 39}, {[]int{5, 5, 5, 5, 5, 5, 5}, 7},
		{[]int{1, 1, 1, 1, 30, 30, 30, 30}, 8}, {[]int{1, 2, 3, 4, 5, 6, 7, 8}, 9}, {[]int{1, 2, 3, 4, 5, 6, 7, 8}, 40},
	} {
		if !impl.GoodKinds(c.flow, c.places) {
			t.Errorf("GoodKinds(%v, %d) = false", c.flow, c.places)
		}
	}
	for _, flow := range greatFlows() {
		for places := -1; places <= 45; places++ {
			if got := impl.GoodKinds(flow, places); got != (places >= len(flow) && places <= 40) {
				t.Errorf("GoodKinds(%v, %d) = %v", flow, places, got)
			}
		}
	}
	for _, flow := range wrongFlows() {
		for _, places := range []int{0, 1, 2, 8, 9, 40, len(flow)} {
			if impl.GoodKinds(flow, places) {
				t.Errorf("GoodKinds(%v, %d) = true", flow, places)
			}
		}
	}
}

func TestCostOfByHand(t *testing.T) {
	cases := []struct {
		flow, counts []int
		want         impl.Frac
	}{
		{[]int{8}, []int{1}, whole(8)}, {[]int{8}, []int{40}, frac(1, 5)}, {[]int{1}, []int{40}, frac(1, 40)}, {[]int{30}, []int{40}, frac(3, 4)}, {[]int{8, 2}, []int{1, 1}, whole(10)}, {[]int{8, 2}, []int{3, 1}, frac(14, 3)}, {[]int{8, 2}, []int{2, 2}, whole(5)}, {[]int{8, 2}, []int{1, 3}, frac(26, 3)},
		{[]int{1, 30}, []int{39, 1}, frac(1171, 39)}, {[]int{7, 7, 7}, []int{2, 3, 6}, whole(7)}, {[]int{30, 30, 30, 30, 30, 30, 30, 30}, []int{1, 1, 1, 1, 1, 1, 1, 1}, whole(240)}, {[]int{30, 30, 30, 30, 30, 30, 30, 30}, []int{5, 5, 5, 5, 5, 5, 5, 5}, whole(48)},
		// The greatest denominator that counts can lead to.
		{[]int{1, 1, 1, 1, 1}, []int{8, 9, 5, 7, 11}, frac(18569, 27720)},
	}
	for _, c := range cases {
		if got, ok := impl.CostOf(c.flow, c.counts); got != c.want || !ok {
			t.Errorf("CostOf(%v, %v) = %v %v, not %v", c.flow, c.counts, got, ok, c.want)
		}
	}
}

// risingCounts has all counts of so many kinds with at most so many places together, none less than the one ahead of it.
func risingCounts(kinds int, least int, places int) [][]int {
	if kinds == 0 {
		return [][]int{nil}
	}
	var all [][]int
	for first := least; first*kinds <= places; first++ {
		for _, l := range risingCounts(kinds-1, first, places-first) {
			all = append(all, append([]int{first}, l...))
		}
	}
	return all
}

func leastCommon(l []int) int {
	common := 1
	for _, n := range l {
		a, b := common, n
		for b != 0 {
			a, b = b, a%b
		}
		common = common / a * n
	}
	return common
}

func TestCostOfIsGoodOnTheWay(t *testing.T) {
	// A cost is at most 240, and its denominator at most what all counts divide. So no counts as said lead beyond chapter 1, nor does what comes on the way, which is the cost of the kinds ahead: there is nothing to refuse.
	greatest := 0
	for kinds := 1; kinds <= 8; kinds++ {
		flow := slices.Repeat([]int{30, 29, 1, 23}, 2)[:kinds]
		for _, counts := range risingCounts(kinds, 1, 40) {
			greatest = max(greatest, leastCommon(counts))
			for range 2 {
				if got, ok := impl.CostOf(flow, counts); got != plainCost(flow, counts) || !ok {
					t.Fatalf("CostOf(%v, %v) = %v %v, not %v", flow, counts, got, ok, plainCost(flow, counts))
				}
				slices.Reverse(counts)
			}
		}
	}
	if greatest != 27720 || greatest*240 > most {
		t.Errorf("the greatest denominator is %d", greatest)
	}
}

func TestGainOfByHand(t *testing.T) {
	cases := []struct {
		flow, counts []int
		k            int
		want         impl.Frac
	}{
		{[]int{8}, []int{1}, 0, whole(4)}, {[]int{1}, []int{1}, 0, frac(1, 2)}, {[]int{8, 2}, []int{2, 1}, 0, frac(4, 3)}, {[]int{8, 2}, []int{2, 1}, 1, whole(1)}, {[]int{30}, []int{39}, 0, frac(1, 52)}, {[]int{8, 2}, []int{1, 3}, 1, frac(1, 6)},
		// With 40 places together there is still told what one more would gain.
		{[]int{30}, []int{40}, 0, frac(3, 164)}, {[]int{1}, []int{40}, 0, frac(1, 1640)}, {[]int{8, 2}, []int{38, 2}, 1, frac(1, 3)}, {[]int{1, 2, 3, 4, 5, 6, 7, 8}, []int{1, 1, 1, 1, 1, 1, 1, 33}, 7, frac(4, 561)}, {[]int{1, 2, 3, 4, 5, 6, 7, 8}, []int{33, 1, 1, 1, 1, 1, 1, 1}, 6, frac(7, 2)},
	}
	for _, c := range cases {
		if got, ok := impl.GainOf(c.flow, c.counts, c.k); got != c.want || !ok {
			t.Errorf("GainOf(%v, %v, %d) = %v %v, not %v", c.flow, c.counts, c.k, got, ok, c.want)
		}
	}
}

func TestGainOfEachFlowAndCount(t *testing.T) {
	for flow := 1; flow <= 30; flow++ {
		for count := 1; count <= 40; count++ {
			if got, ok := impl.GainOf([]int{flow}, []int{count}, 0); got != plainGain(flow, count) || !ok {
				t.Errorf("GainOf of %d and %d = %v %v, not %v", flow, count, got, ok, plainGain(flow, count))
			}
		}
	}
}

// gainIsLessCost asks of one kind whether its gain is what the cost is less with one more.
func gainIsLessCost(t *testing.T, flow []int, counts []int, k int) {
	more := slices.Clone(counts)
	more[k]++
	before, beforeOk := impl.CostOf(flow, counts)
	behind, behindOk := impl.CostOf(flow, more)
	want, wantOk := impl.SubFrac(before, behind)
	got, ok := impl.GainOf(flow, counts, k)
	if !beforeOk || !behindOk || !wantOk || !ok || got != want {
		t.Errorf("GainOf(%v, %v, %d) = %v %v, but the cost goes from %v to %v", flow, counts, k, got, ok, before, behind)
	}
}

func TestGainOfIsWhatCostOfIsLess(t *testing.T) {
	for _, flow := range greatFlows() {
		for places := len(flow); places < 40; places += 3 {
			counts := slices.Repeat([]int{1}, len(flow))
			for i := range places - len(flow) {
				counts[(i*i+places)%len(flow)]++
			}
			for k := range flow {
				gainIsLessCost(t, flow, counts, k)
			}
		}
	}
	for _, flow := range [][]int{{8, 2, 5}, {1, 30, 7}, {6, 6, 6}} {
		for places := 3; places <= 12; places++ {
			for _, counts := range everyCounts(3, places) {
				for k := range flow {
					gainIsLessCost(t, flow, counts, k)
				}
			}
		}
	}
}

func TestNextForByHand(t *testing.T) {
	cases := []struct {
		flow, counts []int
		want         int
	}{
		{[]int{8}, []int{1}, 0}, {[]int{8}, []int{40}, 0}, {[]int{8, 2}, []int{1, 1}, 0}, {[]int{2, 8}, []int{1, 1}, 1}, {[]int{8, 2}, []int{3, 1}, 1}, {[]int{8, 2}, []int{2, 1}, 0}, {[]int{8, 2}, []int{1, 39}, 0}, {[]int{8, 2}, []int{39, 1}, 1},
		// Of alike gains it is the first one's: 6 at 2 and 2 at 1 both gain 1.
		{[]int{6, 2}, []int{2, 1}, 0}, {[]int{2, 6}, []int{1, 2}, 0}, {[]int{1, 2, 6}, []int{1, 1, 2}, 1}, {[]int{6, 2, 12}, []int{2, 1, 3}, 0}, {[]int{5, 6, 2, 12}, []int{3, 2, 1, 3}, 1}, {[]int{7, 7, 7}, []int{1, 1, 1}, 0}, {[]int{7, 7, 7}, []int{2, 1, 1}, 1}, {[]int{7, 7, 7}, []int{2, 2, 1}, 2}, {[]int{7, 7, 7}, []int{2, 2, 2}, 0},
		{[]int{1, 1, 1, 1, 1, 1, 1, 1}, []int{5, 5, 5, 5, 5, 5, 5, 5}, 0}, {[]int{1, 1, 1, 1, 1, 1, 1, 2}, []int{1, 1, 1, 1, 1, 1, 1, 1}, 7}, {[]int{30, 30, 30, 30, 30, 30, 30, 30}, []int{5, 5, 5, 5, 5, 5, 4, 5}, 6},
	}
	for _, c := range cases {
		if got, ok := impl.NextFor(c.flow, c.counts); got != c.want || !ok {
			t.Errorf("NextFor(%v, %v) = %d %v, not %d", c.flow, c.counts, got, ok, c.want)
		}
	}
}

// isFirstGreatest tells whether no kind gains more than k, and none ahead of it as much.
func isFirstGreatest(flow []int, counts []int, k int) bool {
	for i := range flow {
		other := ratOf(plainGain(flow[i], counts[i])).Cmp(ratOf(plainGain(flow[k], counts[k])))
		if other > 0 || other == 0 && i < k {
			return false
		}
	}
	return true
}

func TestNextForIsTheFirstWithTheGreatestGain(t *testing.T) {
	for _, flow := range smallFlows() {
		for places := len(flow); places <= 9; places++ {
			for _, counts := range everyCounts(len(flow), places) {
				if got, ok := impl.NextFor(flow, counts); !ok || got < 0 || got >= len(flow) || !isFirstGreatest(flow, counts, got) {
					t.Fatalf("NextFor(%v, %v) = %d %v", flow, counts, got, ok)
				}
			}
		}
	}
}

func TestShareOutByHand(t *testing.T) {
	cases := []struct {
		flow   []int
		places int
		want   []int
	}{
		{[]int{8}, 1, []int{1}}, {[]int{1}, 40, []int{40}}, {[]int{8, 2}, 2, []int{1, 1}}, {[]int{8, 2}, 3, []int{2, 1}}, {[]int{8, 2}, 4, []int{3, 1}}, {[]int{8, 2}, 5, []int{3, 2}}, {[]int{2, 8}, 4, []int{1, 3}}, {[]int{8, 2}, 40, []int{27, 13}},
		// Of alike gains the first one goes first.
		{[]int{7, 7, 7}, 3, []int{1, 1, 1}}, {[]int{7, 7, 7}, 4, []int{2, 1, 1}}, {[]int{7, 7, 7}, 5, []int{2, 2, 1}}, {[]int{7, 7, 7}, 40, []int{14, 13, 13}}, {[]int{6, 2}, 4, []int{3, 1}}, {[]int{2, 6}, 4, []int{2, 2}},
		{[]int{1, 2, 3, 4, 5, 6, 7, 8}, 8, []int{1, 1, 1, 1, 1, 1, 1, 1}}, {[]int{1, 2, 3, 4, 5, 6, 7, 8}, 9, []int{1, 1, 1, 1, 1, 1, 1, 2}}, {[]int{30, 30, 30, 30, 30, 30, 30, 30}, 40, []int{5, 5, 5, 5, 5, 5, 5, 5}}, {[]int{1, 1, 1, 1, 1, 1, 1, 1}, 39, []int{5, 5, 5, 5, 5, 5, 5, 4}},
	}
	for _, c := range cases {
		if got, ok := impl.ShareOut(c.flow, c.places); !slices.Equal(got, c.want) || !ok {
			t.Errorf("ShareOut(%v, %d) = %v %v, not %v", c.flow, c.places, got, ok, c.want)
		}
	}
}

// areCountsOf tells whether counts are of these kinds and of just so many places.
func areCountsOf(flow []int, counts []int, places int) bool {
	return len(counts) == len(flow) && slices.Min(counts) >= 1 && plainTotal(counts) == places
}

func TestPromise4NoOtherCountsCostLess(t *testing.T) {
	for _, flow := range smallFlows() {
		for places := len(flow); places <= 10; places++ {
			shared, ok := impl.ShareOut(flow, places)
			if !ok || !areCountsOf(flow, shared, places) {
				t.Fatalf("ShareOut(%v, %d) = %v %v", flow, places, shared, ok)
			}
			cost, _ := impl.CostOf(flow, shared)
			for _, counts := range everyCounts(len(flow), places) {
				other, otherOk := impl.CostOf(flow, counts)
				if less, lessOk := impl.LessFrac(other, cost); less || !lessOk || !otherOk {
					t.Fatalf("of %v the counts %v cost %v, but ShareOut's %v cost %v", flow, counts, other, shared, cost)
				}
			}
		}
	}
}

// leastCosts are allCommon times the least that any counts of up to 40 places cost, kind by kind.
func leastCosts(flow []int) [41]int {
	var least [41]int
	for places := range least {
		least[places] = math.MaxInt
	}
	least[0] = 0
	for _, f := range flow {
		var next [41]int
		for places := range next {
			next[places] = math.MaxInt
			for count := 1; count <= places; count++ {
				if before := least[places-count]; before != math.MaxInt {
					next[places] = min(next[places], before+partOfCost(f, count))
				}
			}
		}
		least = next
	}
	return least
}

func TestPromise4UpTo40Places(t *testing.T) {
	for _, flow := range greatFlows() {
		least := leastCosts(flow)
		for places := len(flow); places <= 40; places++ {
			counts, ok := impl.ShareOut(flow, places)
			if !ok || !areCountsOf(flow, counts, places) {
				t.Fatalf("ShareOut(%v, %d) = %v %v", flow, places, counts, ok)
			}
			if cost := costIn(flow, counts); cost != least[places] {
				t.Errorf("ShareOut(%v, %d) = %v, which costs %d, and not %d", flow, places, counts, cost, least[places])
			}
			if got, ok := impl.CostOf(flow, counts); got != plainCost(flow, counts) || !ok {
				t.Errorf("CostOf(%v, %v) = %v %v", flow, counts, got, ok)
			}
			if stable, ok := impl.IsStable(flow, counts); !stable || !ok {
				t.Errorf("IsStable(%v, %v) = %v %v", flow, counts, stable, ok)
			}
		}
	}
}

func TestPromise4StableJustWhereNoneCostLess(t *testing.T) {
	seen := map[bool]int{}
	for _, flow := range smallFlows() {
		least := leastCosts(flow)
		for places := len(flow); places <= 10; places++ {
			for _, counts := range everyCounts(len(flow), places) {
				want := costIn(flow, counts) == least[places]
				seen[want]++
				if got, ok := impl.IsStable(flow, counts); got != want || !ok {
					t.Fatalf("IsStable(%v, %v) = %v %v", flow, counts, got, ok)
				}
			}
		}
	}
	if seen[true] < 1000 || seen[false] < 1000 {
		t.Errorf("%v are no test", seen)
	}
}

func TestPromise4StableUpTo40Places(t *testing.T) {
	for _, flow := range greatFlows() {
		least := leastCosts(flow)
		for places := len(flow); places <= 40; places++ {
			best, _ := impl.ShareOut(flow, places)
			for from := range flow {
				for to := range flow {
					counts := slices.Clone(best)
					counts[from]--
					counts[to]++
					if counts[from] == 0 {
						continue
					}
					want := costIn(flow, counts) == least[places]
					if got, ok := impl.IsStable(flow, counts); got != want || !ok {
						t.Fatalf("IsStable(%v, %v) = %v %v", flow, counts, got, ok)
					}
				}
			}
		}
	}
}

func TestIsStableByHand(t *testing.T) {
	cases := []struct {
		flow, counts []int
		want         bool
	}{
		{[]int{8}, []int{1}, true}, {[]int{8}, []int{2}, true}, {[]int{8}, []int{40}, true}, {[]int{8, 2}, []int{3, 1}, true}, {[]int{8, 2}, []int{2, 2}, false}, {[]int{8, 2}, []int{1, 3}, false}, {[]int{8, 2}, []int{2, 1}, true}, {[]int{8, 2}, []int{1, 2}, false}, {[]int{8, 2}, []int{4, 1}, false}, {[]int{8, 2}, []int{27, 13}, true}, {[]int{8, 2}, []int{28, 12}, false},
		// No kind has more than one: none has a place to give.
		{[]int{1, 30}, []int{1, 1}, true}, {[]int{30, 1}, []int{1, 1}, true}, {[]int{1, 2, 3, 4, 5, 6, 7, 30}, []int{1, 1, 1, 1, 1, 1, 1, 1}, true},
		// What is given is worth just what is gained: 6 at 3 gives 1, 2 at 1 gains 1.
		{[]int{6, 2}, []int{3, 1}, true}, {[]int{6, 2}, []int{2, 2}, true}, {[]int{2, 6}, []int{1, 3}, true}, {[]int{6, 2}, []int{4, 1}, false}, {[]int{7, 7}, []int{2, 1}, true}, {[]int{7, 7}, []int{1, 2}, true}, {[]int{7, 7}, []int{3, 1}, false}, {[]int{7, 7}, []int{1, 3}, false},
		// The one that would give stands in the middle, the one that gains at either end.
		{[]int{30, 1, 1}, []int{1, 2, 1}, false}, {[]int{1, 1, 30}, []int{1, 2, 1}, false}, {[]int{30, 1, 30}, []int{5, 2, 5}, false}, {[]int{30, 1, 30}, []int{5, 1, 5}, true}, {[]int{30, 1, 30}, []int{6, 1, 5}, true}, {[]int{30, 1, 30}, []int{7, 1, 5}, false},
	}
	for _, c := range cases {
		if got, ok := impl.IsStable(c.flow, c.counts); got != c.want || !ok {
			t.Errorf("IsStable(%v, %v) = %v %v, not %v", c.flow, c.counts, got, ok, c.want)
		}
	}
}

func TestShareOutGivesNextForOneMore(t *testing.T) {
	for _, flow := range append(greatFlows(), smallFlows()...) {
		want := slices.Repeat([]int{1}, len(flow))
		for places := len(flow); places <= 40; places++ {
			if got, ok := impl.ShareOut(flow, places); !slices.Equal(got, want) || !ok {
				t.Fatalf("ShareOut(%v, %d) = %v %v, not %v", flow, places, got, ok, want)
			}
			next, ok := impl.NextFor(flow, want)
			if !ok || !isFirstGreatest(flow, want, next) {
				t.Fatalf("NextFor(%v, %v) = %v %v", flow, want, next, ok)
			}
			want[next]++
		}
	}
}

func TestShareMore(t *testing.T) {
	if got, ok := impl.ShareMore([]int{8, 2}, 5); !ok || !slices.EqualFunc(got, [][]int{{1, 1}, {2, 1}, {3, 1}, {3, 2}}, slices.Equal) {
		t.Errorf("ShareMore of 8 and 2 and 5 places = %v %v", got, ok)
	}
	if got, ok := impl.ShareMore([]int{4, 4, 4, 4, 4, 4, 4, 4}, 8); !ok || !slices.EqualFunc(got, [][]int{{1, 1, 1, 1, 1, 1, 1, 1}}, slices.Equal) {
		t.Errorf("ShareMore of as many places as kinds = %v %v", got, ok)
	}
	for _, flow := range greatFlows() {
		for _, places := range []int{len(flow), len(flow) + 1, 17, 39, 40} {
			var want [][]int
			for many := len(flow); many <= places; many++ {
				counts, _ := impl.ShareOut(flow, many)
				want = append(want, counts)
			}
			if got, ok := impl.ShareMore(flow, places); !slices.EqualFunc(got, want, slices.Equal) || !ok {
				t.Errorf("ShareMore(%v, %d) = %v %v, not %v", flow, places, got, ok, want)
			}
		}
	}
}

// wrongFlows are none, too many, or have one number that is not as said, at the beginning, in the middle or in the end.
func wrongFlows() [][]int {
	l := [][]int{nil, {}, slices.Repeat([]int{1}, 9), slices.Repeat([]int{30}, 9), slices.Repeat([]int{5}, 40), slices.Repeat([]int{5}, 1000), {0, 0}, {31, 31, 31}}
	for _, n := range append([]int{0, 31, 32, -30}, endInts...) {
		l = append(l, []int{n}, []int{n, 5}, []int{5, n}, []int{5, n, 5}, append(slices.Repeat([]int{5}, 7), n), append([]int{n}, slices.Repeat([]int{5}, 7)...))
	}
	return l
}

// wrongCounts are not as many as so many kinds, below 1, or more than 40 together, even where their sum wraps round.
func wrongCounts(kinds int) [][]int {
	ones := func(many int) []int { return slices.Repeat([]int{1}, many) }
	l := [][]int{ones(kinds - 1), ones(kinds + 1), ones(kinds + 100), make([]int, kinds), append(ones(kinds-1), 42-kinds), append([]int{42 - kinds}, ones(kinds-1)...), append(ones(kinds-1), 40+kinds), slices.Repeat([]int{40/kinds + 1}, kinds), slices.Repeat([]int{41}, kinds)}
	for _, n := range append([]int{0, 41, -40}, endInts...) {
		l = append(l, append(ones(kinds-1), n), append([]int{n}, ones(kinds-1)...), slices.Repeat([]int{n}, kinds))
	}
	if kinds >= 3 {
		l = append(l, append(ones(kinds-3), math.MaxInt, math.MaxInt, 3), append(ones(kinds-3), 1, -1, 1), append(ones(kinds-3), 20, 0, 20))
	}
	if kinds >= 5 {
		l = append(l, append(ones(kinds-4), 1<<62, 1<<62, 1<<62, 1<<62))
	}
	return l
}

// isRefusedShare asks whether each function of flow and counts gives the zero answer and false.
func isRefusedShare(t *testing.T, flow []int, counts []int, k int) {
	if got, ok := impl.CostOf(flow, counts); got != (impl.Frac{}) || ok {
		t.Errorf("CostOf(%v, %v) = %v %v", flow, counts, got, ok)
	}
	if got, ok := impl.NextFor(flow, counts); got != 0 || ok {
		t.Errorf("NextFor(%v, %v) = %v %v", flow, counts, got, ok)
	}
	if got, ok := impl.IsStable(flow, counts); got || ok {
		t.Errorf("IsStable(%v, %v) = %v %v", flow, counts, got, ok)
	}
	if got, ok := impl.GainOf(flow, counts, k); got != (impl.Frac{}) || ok {
		t.Errorf("GainOf(%v, %v, %d) = %v %v", flow, counts, k, got, ok)
	}
}

// isRefusedPlaces asks whether each function of flow and places gives the zero answer and false.
func isRefusedPlaces(t *testing.T, flow []int, places int) {
	if impl.GoodKinds(flow, places) {
		t.Errorf("GoodKinds(%v, %d) = true", flow, places)
	}
	if got, ok := impl.ShareOut(flow, places); len(got) != 0 || ok {
		t.Errorf("ShareOut(%v, %d) = %v %v", flow, places, got, ok)
	}
	if got, ok := impl.ShareMore(flow, places); len(got) != 0 || ok {
		t.Errorf("ShareMore(%v, %d) = %v %v", flow, places, got, ok)
	}
}

func TestPromise19AnswersAtWrongFlows(t *testing.T) {
	for _, flow := range wrongFlows() {
		for _, counts := range [][]int{nil, {1}, slices.Repeat([]int{1}, len(flow)), slices.Repeat([]int{2}, len(flow)), flow} {
			for _, k := range []int{0, 1, len(flow) - 1, math.MinInt, math.MaxInt} {
				isRefusedShare(t, flow, counts, k)
			}
		}
		for _, places := range append([]int{0, 1, 2, 8, 9, 40, 41, len(flow)}, endInts...) {
			isRefusedPlaces(t, flow, places)
		}
	}
}

func TestPromise19AnswersAtWrongCounts(t *testing.T) {
	for kinds := 1; kinds <= 8; kinds++ {
		flow := slices.Repeat([]int{6, 30, 1, 7}, 2)[:kinds]
		for _, counts := range wrongCounts(kinds) {
			for _, k := range []int{0, kinds - 1, math.MinInt, math.MaxInt} {
				isRefusedShare(t, flow, counts, k)
			}
		}
		full := append(slices.Repeat([]int{1}, kinds-1), 41-kinds)
		if _, ok := impl.CostOf(flow, full); !ok {
			t.Errorf("CostOf(%v, %v) tells false", flow, full)
		}
		if _, ok := impl.NextFor(flow, full); !ok {
			t.Errorf("NextFor(%v, %v) tells false", flow, full)
		}
		if _, ok := impl.IsStable(flow, full); !ok {
			t.Errorf("IsStable(%v, %v) tells false", flow, full)
		}
	}
}

func TestPromise19AnswersAtWrongKinds(t *testing.T) {
	for kinds := 1; kinds <= 8; kinds++ {
		flow := slices.Repeat([]int{6, 30, 1, 7}, 2)[:kinds]
		for _, counts := range [][]int{slices.Repeat([]int{1}, kinds), slices.Repeat([]int{5}, kinds)} {
			for _, k := range append([]int{kinds, kinds + 1, 8, 40}, endInts...) {
				if got, ok := impl.GainOf(flow, counts, k); got != (impl.Frac{}) || ok {
					t.Errorf("GainOf(%v, %v, %d) = %v %v", flow, counts, k, got, ok)
				}
			}
			for k := range kinds {
				if got, ok := impl.GainOf(flow, counts, k); got != plainGain(flow[k], counts[k]) || !ok {
					t.Errorf("GainOf(%v, %v, %d) = %v %v", flow, counts, k, got, ok)
				}
			}
		}
	}
}

func TestPromise19AnswersAtWrongPlaces(t *testing.T) {
	for _, flow := range greatFlows() {
		for _, places := range append([]int{0, len(flow) - 1, 41, 42, -40}, endInts...) {
			isRefusedPlaces(t, flow, places)
		}
		for _, places := range []int{len(flow), 40} {
			if got, ok := impl.ShareOut(flow, places); len(got) != len(flow) || !ok {
				t.Errorf("ShareOut(%v, %d) = %v %v", flow, places, got, ok)
			}
			if got, ok := impl.ShareMore(flow, places); len(got) != places-len(flow)+1 || !ok {
				t.Errorf("ShareMore(%v, %d) = %v %v", flow, places, got, ok)
			}
		}
	}
}

func TestPromise19SharesShareNothing(t *testing.T) {
	// The flow is like its counts of three places, so that handing it out would not be seen by what it holds.
	flow := []int{1, 1, 1}
	more, ok := impl.ShareMore(flow, 12)
	again, againOk := impl.ShareMore(flow, 12)
	one, oneOk := impl.ShareOut(flow, 3)
	other, otherOk := impl.ShareOut(flow, 12)
	if !ok || !againOk || !oneOk || !otherOk || len(more) != 10 || len(again) != 10 {
		t.Fatal(more, again, one, other)
	}
	shareNone(t, "chapter 4", append(slices.Concat(more, again), one, other, flow)...)
	if got, ok := impl.ShareOut([]int{1, 1, 1}, 12); !slices.Equal(got, []int{4, 4, 4}) || !ok {
		t.Errorf("ShareOut = %v %v behind a write into earlier answers", got, ok)
	}
	if got, ok := impl.ShareMore([]int{1, 1, 1}, 4); !slices.EqualFunc(got, [][]int{{1, 1, 1}, {2, 1, 1}}, slices.Equal) || !ok {
		t.Errorf("ShareMore = %v %v behind a write into earlier answers", got, ok)
	}
	// The list of lists is new, too.
	rows, _ := impl.ShareMore([]int{8, 2}, 4)
	rest := rows[:cap(rows)]
	for i := range rest {
		rest[i] = nil
	}
	if got, ok := impl.ShareMore([]int{8, 2}, 4); !slices.EqualFunc(got, [][]int{{1, 1}, {2, 1}, {3, 1}}, slices.Equal) || !ok {
		t.Errorf("ShareMore = %v %v behind a write into its rows", got, ok)
	}
}

// cutList lets two more stand behind a list's length.
func cutList(l []int, behind int) []int {
	return append(slices.Clone(l), behind, behind)[:len(l)]
}

// countsHangOn tells whether a function of flow and counts answers otherwise for cut than for plain ones. The plain ones are not handed out themselves: what is written into cut ones is held against them.
func countsHangOn(flow []int, counts []int, cutFlow []int, cutCounts []int) bool {
	flow, counts = slices.Clone(flow), slices.Clone(counts)
	cost, costOk := impl.CostOf(flow, counts)
	next, nextOk := impl.NextFor(flow, counts)
	stable, stableOk := impl.IsStable(flow, counts)
	cutCost, cutCostOk := impl.CostOf(cutFlow, cutCounts)
	cutNext, cutNextOk := impl.NextFor(cutFlow, cutCounts)
	cutStable, cutStableOk := impl.IsStable(cutFlow, cutCounts)
	for k := range len(flow) + 3 {
		gain, gainOk := impl.GainOf(flow, counts, k)
		cutGain, cutGainOk := impl.GainOf(cutFlow, cutCounts, k)
		if gain != cutGain || gainOk != cutGainOk {
			return true
		}
	}
	return cost != cutCost || costOk != cutCostOk || next != cutNext || nextOk != cutNextOk || stable != cutStable || stableOk != cutStableOk
}

// placesHangOn tells whether a function of flow and places answers otherwise for cut than for plain ones.
func placesHangOn(flow []int, cutFlow []int, places int) bool {
	flow = slices.Clone(flow)
	counts, ok := impl.ShareOut(flow, places)
	more, moreOk := impl.ShareMore(flow, places)
	cutCounts, cutOk := impl.ShareOut(cutFlow, places)
	cutMore, cutMoreOk := impl.ShareMore(cutFlow, places)
	return impl.GoodKinds(flow, places) != impl.GoodKinds(cutFlow, places) || !slices.Equal(counts, cutCounts) || ok != cutOk || !slices.EqualFunc(more, cutMore, slices.Equal) || moreOk != cutMoreOk
}

func TestPromise19NoFlowOrCountsAreWritten(t *testing.T) {
	flows := append(wrongFlows(), greatFlows()...)
	for _, flow := range flows {
		countsLists := [][]int{nil, {1}, slices.Repeat([]int{1}, len(flow)), slices.Repeat([]int{5}, len(flow)), countUp(len(flow) + 1)[1:], slices.Repeat([]int{1}, len(flow)+1), make([]int, len(flow))}
		for _, behind := range []int{-1, 1, 31} {
			cutFlow := cutList(flow, behind)
			for _, counts := range countsLists {
				cutCounts := cutList(counts, behind)
				if countsHangOn(flow, counts, cutFlow, cutCounts) {
					t.Errorf("%v and %v hang on what lies behind them", flow, counts)
				}
				if !slices.Equal(cutCounts[:len(counts)+2], append(slices.Clone(counts), behind, behind)) {
					t.Errorf("%v was made of %v", cutCounts[:len(counts)+2], counts)
				}
			}
			for _, places := range []int{-1, 0, 1, 2, 8, 12, 40, 41} {
				if placesHangOn(flow, cutFlow, places) {
					t.Errorf("%v and %d places hang on what lies behind", flow, places)
				}
			}
			if !slices.Equal(cutFlow[:len(flow)+2], append(slices.Clone(flow), behind, behind)) {
				t.Errorf("%v was made of %v", cutFlow[:len(flow)+2], flow)
			}
		}
	}
}
