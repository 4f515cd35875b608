package tests

import (
	"math"
	"math/big"
	"slices"
	"testing"

	"loop.example/g00451/impl"
)

func house(ways []int, counts []int, owners []int) impl.House {
	return impl.House{Ways: ways, Counts: counts, Owners: owners}
}

func cloneHouse(h impl.House) impl.House {
	return house(slices.Clone(h.Ways), slices.Clone(h.Counts), slices.Clone(h.Owners))
}

func sameHouse(a impl.House, b impl.House) bool {
	return slices.Equal(a.Ways, b.Ways) && slices.Equal(a.Counts, b.Counts) && slices.Equal(a.Owners, b.Owners)
}

func isNoHouse(h impl.House) bool {
	return sameHouse(h, impl.House{})
}

// A floor is what the functions of picks, counts and ways are asked of.
type floor struct {
	picks  []int
	counts []int
	ways   []int
}

func (f floor) house(owners []int) impl.House {
	return house(f.ways, f.counts, owners)
}

func plainlyPicks(picks []int) bool {
	return len(picks) >= 1 && len(picks) <= 8 && slices.Min(picks) >= 1 && slices.Max(picks) <= 30
}

func plainlyCounts(counts []int) bool {
	return len(counts) >= 1 && len(counts) <= 8 && slices.Min(counts) >= 1 && slices.Max(counts) <= 10 && plainTotal(counts) <= 10
}

func plainlyWays(counts []int, ways []int) bool {
	return plainlyCounts(counts) && len(ways) == plainTotal(counts) && slices.Min(ways) >= 0 && slices.Max(ways) <= 1000
}

func plainlyFloor(f floor) bool {
	return plainlyPicks(f.picks) && len(f.picks) == len(f.counts) && plainlyWays(f.counts, f.ways)
}

// plainlyOwned goes by sorted lists: each good as often as its count, and none else.
func plainlyOwned(counts []int, owners []int) bool {
	var want []int
	for good, count := range counts {
		want = append(want, slices.Repeat([]int{good}, count)...)
	}
	return slices.Equal(slices.Sorted(slices.Values(owners)), want)
}

func plainlyHouse(h impl.House) bool {
	return plainlyWays(h.Counts, h.Ways) && plainlyOwned(h.Counts, h.Owners)
}

// plainTravel says what the document says, by fractions that have no bounds.
func plainTravel(f floor, owners []int) impl.Frac {
	sum := new(big.Rat)
	for slot, good := range owners {
		sum.Add(sum, big.NewRat(int64(f.ways[slot]*f.picks[good]), int64(f.counts[good])))
	}
	travel, _ := answerOf(sum)
	return travel
}

// slotsAhead is how many slots are nearer, or as near and come first.
func slotsAhead(f floor, slot int) int {
	ahead := 0
	for other, way := range f.ways {
		if way < f.ways[slot] || way == f.ways[slot] && other < slot {
			ahead++
		}
	}
	return ahead
}

// takenAhead is how many slots the goods have that choose ahead of a good.
func takenAhead(f floor, good int) int {
	taken := 0
	for other := range f.picks {
		theirs, own := f.picks[other]*f.counts[good], f.picks[good]*f.counts[other]
		if theirs > own || theirs == own && other < good {
			taken += f.counts[other]
		}
	}
	return taken
}

// plainSlots asks slot by slot in whose turn it comes.
func plainSlots(f floor) []int {
	var owners []int
	for slot := range f.ways {
		for good := range f.picks {
			if turn := slotsAhead(f, slot) - takenAhead(f, good); turn >= 0 && turn < f.counts[good] {
				owners = append(owners, good)
			}
		}
	}
	return owners
}

// everyOwners has all owners that fit.
func everyOwners(counts []int) [][]int {
	if plainTotal(counts) == 0 {
		return [][]int{{}}
	}
	var all [][]int
	for good, count := range counts {
		if count == 0 {
			continue
		}
		rest := slices.Clone(counts)
		rest[good]--
		for _, owners := range everyOwners(rest) {
			all = append(all, append(owners, good))
		}
	}
	return all
}

// someOwners are good by good, the last one first, and drawn.
func someOwners(d *dice, counts []int, many int) [][]int {
	var owners []int
	for good, count := range counts {
		owners = append(owners, slices.Repeat([]int{good}, count)...)
	}
	all := [][]int{slices.Clone(owners)}
	slices.Reverse(owners)
	all = append(all, owners)
	for range many {
		all = append(all, d.shuffled(owners))
	}
	return all
}

// smallFloors are few enough that all owners that fit can be gone through: many goods are picked alike, and many slots as near.
func smallFloors() []floor {
	var l []floor
	for kinds := 1; kinds <= 3; kinds++ {
		for slots := kinds; slots <= 4; slots++ {
			ways := slices.DeleteFunc(everyList([]int{0, 1, 1000}, slots), func(w []int) bool { return len(w) != slots })
			picks := slices.DeleteFunc(everyList([]int{1, 2, 30}, kinds), func(p []int) bool { return len(p) != kinds })
			for _, counts := range everyCounts(kinds, slots) {
				for _, w := range ways {
					for _, p := range picks {
						l = append(l, floor{p, counts, w})
					}
				}
			}
		}
	}
	return l
}

// drawnCounts are of so many goods, with so many slots together.
func drawnCounts(d *dice, goods int, slots int) []int {
	counts := slices.Repeat([]int{1}, goods)
	for range slots - goods {
		counts[d.below(goods)]++
	}
	return counts
}

func drawnWays(d *dice, slots int) []int {
	span := []int{2, 5, 40, 1001}[d.below(4)]
	var ways []int
	for range slots {
		ways = append(ways, []int{d.below(span), 1000 - d.below(span)}[d.below(4)/3])
	}
	return ways
}

func drawnFloor(i int, slots int) floor {
	d := diceOf(i)
	goods := 1 + d.below(min(8, slots))
	f := floor{nil, drawnCounts(d, goods, slots), drawnWays(d, slots)}
	for good := range goods {
		// Times its count, so that goods with other counts are often as much picked for each of them.
		f.picks = append(f.picks, []int{1 + d.below(30), 1 + d.below(3), min(30, f.counts[good]*(1+d.below(3)))}[i%3])
	}
	return f
}

// edgeFloors have the fewest and the most of each thing, and the least and the greatest numbers.
func edgeFloors() []floor {
	ones := func(many int) []int { return slices.Repeat([]int{1}, many) }
	all := func(n int, many int) []int { return slices.Repeat([]int{n}, many) }
	return []floor{
		{[]int{1}, []int{1}, []int{0}}, {[]int{30}, []int{1}, []int{1000}}, {[]int{1}, []int{10}, all(0, 10)}, {[]int{30}, []int{10}, all(1000, 10)}, {[]int{7}, []int{10}, countDown(10)},
		{ones(8), ones(8), all(0, 8)}, {all(30, 8), ones(8), all(1000, 8)}, {countUp(9)[1:], ones(8), countDown(8)}, {countDown(9)[:8], ones(8), countUp(8)}, {all(30, 8), []int{3, 1, 1, 1, 1, 1, 1, 1}, countUp(10)}, {ones(8), []int{1, 1, 1, 1, 1, 1, 1, 3}, countUp(10)}, {[]int{30, 1, 30, 1, 30, 1, 30, 1}, []int{1, 1, 1, 2, 1, 1, 2, 1}, []int{1000, 0, 1000, 0, 1000, 0, 1000, 0, 500, 500}},
		{[]int{30, 1}, []int{9, 1}, countUp(10)}, {[]int{30, 4}, []int{9, 1}, countUp(10)}, {[]int{27, 3}, []int{9, 1}, countUp(10)}, {[]int{3, 27}, []int{1, 9}, countUp(10)}, {[]int{1, 30}, []int{5, 5}, countDown(10)},
	}
}

func manyFloors() []floor {
	all := append(edgeFloors(), smallFloors()...)
	for i := range 2000 {
		all = append(all, drawnFloor(i, 1+i%10))
	}
	return all
}

// sampleFloors are fewer, of each kind.
func sampleFloors() []floor {
	all := edgeFloors()
	for i := range 150 {
		all = append(all, drawnFloor(i, 1+i%10))
	}
	return all
}

func TestSlotsForByHand(t *testing.T) {
	for _, c := range []struct{ picks, counts, ways, want []int }{
		{[]int{6, 1}, []int{2, 1}, []int{5, 1, 3}, []int{1, 0, 0}}, {[]int{1}, []int{1}, []int{0}, []int{0}}, {[]int{30}, []int{3}, []int{1000, 0, 1000}, []int{0, 0, 0}}, {[]int{1, 2, 3}, []int{1, 1, 1}, []int{0, 1, 2}, []int{2, 1, 0}}, {[]int{1, 2, 3}, []int{1, 1, 1}, []int{2, 1, 0}, []int{0, 1, 2}}, {[]int{2, 3, 1}, []int{1, 1, 1}, []int{5, 9, 7}, []int{1, 2, 0}},
		// Of as near slots the first one goes first, also to two goods.
		{[]int{1, 2}, []int{1, 1}, []int{4, 4}, []int{1, 0}}, {[]int{2, 1}, []int{1, 1}, []int{4, 4}, []int{0, 1}}, {[]int{1, 1}, []int{2, 2}, []int{4, 4, 4, 4}, []int{0, 0, 1, 1}}, {[]int{1, 3}, []int{2, 2}, []int{4, 4, 4, 4}, []int{1, 1, 0, 0}}, {[]int{1, 3}, []int{2, 1}, []int{4, 9, 4}, []int{1, 0, 0}}, {[]int{1, 3}, []int{1, 2}, []int{7, 4, 7}, []int{1, 1, 0}}, {[]int{3, 1}, []int{1, 2}, []int{7, 7, 4}, []int{1, 1, 0}},
		// Of goods picked as much for each count the first one goes first.
		{[]int{2, 4}, []int{1, 2}, []int{1, 2, 3}, []int{0, 1, 1}}, {[]int{4, 2}, []int{2, 1}, []int{1, 2, 3}, []int{0, 0, 1}}, {[]int{2, 4}, []int{1, 2}, []int{3, 2, 1}, []int{1, 1, 0}}, {[]int{1, 1, 1}, []int{1, 1, 1}, []int{5, 6, 7}, []int{0, 1, 2}}, {[]int{9, 3, 6}, []int{3, 1, 2}, []int{6, 5, 4, 3, 2, 1}, []int{2, 2, 1, 0, 0, 0}}, {[]int{1, 9, 3, 6}, []int{1, 3, 1, 2}, []int{1, 2, 3, 4, 5, 6, 7}, []int{1, 1, 1, 2, 3, 3, 0}},
		// More picks, but fewer for each count; and what a division down would not tell apart.
		{[]int{9, 4}, []int{3, 1}, []int{1, 2, 3, 4}, []int{1, 0, 0, 0}}, {[]int{4, 9}, []int{1, 3}, []int{1, 2, 3, 4}, []int{0, 1, 1, 1}}, {[]int{30, 29}, []int{9, 1}, countUp(10), []int{1, 0, 0, 0, 0, 0, 0, 0, 0, 0}}, {[]int{3, 4}, []int{2, 2}, []int{1, 2, 3, 4}, []int{1, 1, 0, 0}}, {[]int{4, 7}, []int{3, 5}, countUp(8), []int{1, 1, 1, 1, 1, 0, 0, 0}}, {[]int{1, 2}, []int{3, 5}, countUp(8), []int{1, 1, 1, 1, 1, 0, 0, 0}}, {[]int{2, 1}, []int{5, 3}, countUp(8), []int{0, 0, 0, 0, 0, 1, 1, 1}},
		{[]int{1, 2, 3, 4, 5, 6, 7, 8}, []int{1, 1, 1, 1, 1, 1, 1, 3}, []int{9, 8, 7, 6, 5, 4, 3, 2, 1, 0}, []int{0, 1, 7, 7, 7, 2, 3, 4, 5, 6}},
	} {
		if got, ok := impl.SlotsFor(c.picks, c.counts, c.ways); !slices.Equal(got, c.want) || !ok {
			t.Errorf("SlotsFor(%v, %v, %v) = %v %v, not %v", c.picks, c.counts, c.ways, got, ok, c.want)
		}
		if want := plainSlots(floor{c.picks, c.counts, c.ways}); !slices.Equal(want, c.want) {
			t.Errorf("by the document's words %v %v %v give %v", c.picks, c.counts, c.ways, want)
		}
	}
}

func TestSlotsForOfManyFloors(t *testing.T) {
	goods, slots, alikeGoods, alikeWays, turned := map[int]int{}, map[int]int{}, 0, 0, 0
	for _, f := range manyFloors() {
		want := plainSlots(f)
		got, ok := impl.SlotsFor(f.picks, f.counts, f.ways)
		if !slices.Equal(got, want) || !ok {
			t.Fatalf("SlotsFor(%v, %v, %v) = %v %v, not %v", f.picks, f.counts, f.ways, got, ok, want)
		}
		if fit, ok := impl.OwnersFit(f.counts, got); !fit || !ok || !plainlyOwned(f.counts, got) {
			t.Fatalf("OwnersFit(%v, %v) = %v %v", f.counts, got, fit, ok)
		}
		goods[len(f.picks)]++
		slots[len(f.ways)]++
		for b := range f.picks {
			for a := range b {
				if f.picks[a]*f.counts[b] == f.picks[b]*f.counts[a] && f.counts[a] != f.counts[b] {
					alikeGoods++
				}
				if f.picks[a] > f.picks[b] && f.picks[a]*f.counts[b] < f.picks[b]*f.counts[a] {
					turned++
				}
			}
		}
		if len(slices.Compact(slices.Sorted(slices.Values(f.ways)))) < len(f.ways) {
			alikeWays++
		}
	}
	if len(goods) != 8 || len(slots) != 10 || alikeGoods < 100 || alikeWays < 100 || turned < 100 {
		t.Errorf("so many goods and slots were drawn: %v, %v; alike and turned: %d, %d, %d", goods, slots, alikeGoods, alikeWays, turned)
	}
}

func TestTravelOfByHand(t *testing.T) {
	for _, c := range []struct {
		picks, counts, ways, owners []int
		want                        impl.Frac
	}{
		{[]int{6, 1}, []int{2, 1}, []int{5, 1, 3}, []int{1, 0, 0}, whole(17)}, {[]int{6, 1}, []int{2, 1}, []int{5, 1, 3}, []int{0, 0, 1}, whole(21)}, {[]int{6, 1}, []int{2, 1}, []int{5, 1, 3}, []int{0, 1, 0}, whole(25)}, {[]int{1}, []int{1}, []int{0}, []int{0}, whole(0)}, {[]int{30}, []int{1}, []int{1000}, []int{0}, whole(30000)}, {[]int{1}, []int{2}, []int{0, 1}, []int{0, 0}, frac(1, 2)}, {[]int{1}, []int{10}, []int{0, 0, 0, 1, 0, 0, 0, 0, 0, 0}, slices.Repeat([]int{0}, 10), frac(1, 10)}, {[]int{30}, []int{10}, slices.Repeat([]int{1000}, 10), slices.Repeat([]int{0}, 10), whole(30000)},
		{[]int{7, 5}, []int{3, 1}, []int{1, 1, 2, 3}, []int{0, 1, 0, 0}, whole(19)}, {[]int{7, 5}, []int{3, 1}, []int{1, 1, 2, 3}, []int{0, 0, 0, 1}, frac(73, 3)}, {[]int{1, 1, 1}, []int{2, 3, 5}, []int{1, 0, 1, 0, 0, 1, 0, 0, 0, 0}, []int{0, 0, 1, 1, 1, 2, 2, 2, 2, 2}, frac(31, 30)}, {[]int{2, 4}, []int{1, 2}, []int{10, 20, 30}, []int{0, 1, 1}, whole(120)}, {[]int{2, 4}, []int{1, 2}, []int{10, 20, 30}, []int{1, 1, 0}, whole(120)},
		{slices.Repeat([]int{30}, 8), slices.Repeat([]int{1}, 8), slices.Repeat([]int{1000}, 8), countDown(8), whole(240000)}, {slices.Repeat([]int{30}, 8), []int{2, 2, 1, 1, 1, 1, 1, 1}, slices.Repeat([]int{1000}, 10), []int{0, 1, 2, 3, 4, 5, 6, 7, 1, 0}, whole(240000)},
	} {
		if got, ok := impl.TravelOf(c.picks, c.counts, c.ways, c.owners); got != c.want || !ok {
			t.Errorf("TravelOf(%v, %v, %v, %v) = %v %v, not %v", c.picks, c.counts, c.ways, c.owners, got, ok, c.want)
		}
	}
}

func isTravelAs(t *testing.T, f floor, owners []int) impl.Frac {
	want := plainTravel(f, owners)
	got, ok := impl.TravelOf(f.picks, f.counts, f.ways, owners)
	if got != want || !ok {
		t.Fatalf("TravelOf(%v, %v, %v, %v) = %v %v, not %v", f.picks, f.counts, f.ways, owners, got, ok, want)
	}
	return got
}

func TestTravelOfManyFloors(t *testing.T) {
	wholes, parted := 0, 0
	for i, f := range manyFloors() {
		for _, owners := range append(someOwners(diceOf(i), f.counts, 4), plainSlots(f)) {
			if isTravelAs(t, f, owners).Den == 1 {
				wholes++
			} else {
				parted++
			}
		}
	}
	if wholes < 1000 || parted < 1000 {
		t.Errorf("%d travels were whole, %d not", wholes, parted)
	}
}

// A sum of counts of at most 10 leads to no denominator above 30, and a travel is at most 300000: so nothing goes beyond chapter 1, nor does what comes on the way, which is the travel of the slots ahead.
func TestTravelOfIsGoodOnTheWay(t *testing.T) {
	greatest := 0
	for kinds := 1; kinds <= 8; kinds++ {
		for _, counts := range risingCounts(kinds, 1, 10) {
			greatest = max(greatest, leastCommon(counts))
			for _, picks := range [][]int{{30, 29, 1, 23, 30, 29, 1, 23}, {1, 1, 1, 1, 1, 1, 1, 1}, {29, 29, 29, 29, 29, 29, 29, 29}, {30, 30, 30, 30, 30, 30, 30, 30}} {
				for _, ways := range [][]int{{1000, 999, 997, 991, 983, 1000, 1, 0, 977, 999}, slices.Repeat([]int{1000}, 10), slices.Repeat([]int{999}, 10), slices.Repeat([]int{1}, 10)} {
					f := floor{picks[:kinds], counts, ways[:plainTotal(counts)]}
					for _, owners := range someOwners(diceOf(kinds), counts, 2) {
						isTravelAs(t, f, owners)
					}
				}
			}
		}
	}
	if greatest != 30 || greatest*300000 > most {
		t.Errorf("the greatest denominator is %d", greatest)
	}
}

func TestOwnersFitByHand(t *testing.T) {
	for _, c := range []struct {
		counts, owners []int
		fit            bool
	}{
		{[]int{1}, []int{0}, true}, {[]int{10}, slices.Repeat([]int{0}, 10), true}, {slices.Repeat([]int{1}, 8), countUp(8), true}, {slices.Repeat([]int{1}, 8), countDown(8), true}, {[]int{1, 1, 1, 1, 1, 1, 1, 3}, []int{7, 0, 7, 1, 2, 3, 4, 5, 6, 7}, true}, {[]int{2, 1}, []int{0, 1, 0}, true}, {[]int{2, 1}, []int{1, 0, 0}, true}, {[]int{2, 1}, []int{0, 0, 1}, true},
		// One more of one good and one fewer of another; all of one.
		{[]int{2, 1}, []int{0, 1, 1}, false}, {[]int{2, 1}, []int{1, 1, 1}, false}, {[]int{2, 1}, []int{0, 0, 0}, false}, {[]int{2, 2}, []int{0, 1, 1, 1}, false}, {slices.Repeat([]int{1}, 8), []int{0, 1, 2, 3, 4, 5, 6, 6}, false},
		// Shorter and longer than all counts together.
		{[]int{2, 1}, nil, false}, {[]int{2, 1}, []int{}, false}, {[]int{2, 1}, []int{0}, false}, {[]int{2, 1}, []int{0, 1}, false}, {[]int{2, 1}, []int{0, 0}, false}, {[]int{2, 1}, []int{0, 0, 1, 0}, false}, {[]int{2, 1}, []int{0, 0, 1, 1}, false}, {[]int{2, 1}, []int{0, 0, 1, 0, 0, 1}, false}, {[]int{1}, []int{0, 0}, false}, {[]int{10}, slices.Repeat([]int{0}, 9), false}, {[]int{10}, slices.Repeat([]int{0}, 11), false}, {[]int{1}, make([]int, 1000), false}, {[]int{1, 1}, []int{0, 1, 0, 1}, false},
		// A number that is no good's, instead of one and beside all.
		{[]int{2, 1}, []int{0, 0, -1}, false}, {[]int{2, 1}, []int{0, 0, 2}, false}, {[]int{2, 1}, []int{0, -1, 1}, false}, {[]int{2, 1}, []int{2, 0, 1}, false}, {[]int{2, 1}, []int{0, 0, 1, -1}, false}, {[]int{2, 1}, []int{0, 0, 1, 2}, false}, {[]int{2, 1}, []int{-1, 0, 0, 1}, false}, {[]int{1}, []int{-1}, false}, {[]int{1}, []int{1}, false}, {[]int{1}, []int{0, 1}, false}, {[]int{1}, []int{math.MinInt}, false}, {[]int{1}, []int{math.MaxInt}, false}, {[]int{1}, []int{0, math.MinInt, math.MaxInt}, false}, {slices.Repeat([]int{1}, 8), []int{0, 1, 2, 3, 4, 5, 6, 8}, false}, {[]int{1}, []int{256}, false}, {[]int{1}, []int{1 << 32}, false},
	} {
		if got, ok := impl.OwnersFit(c.counts, c.owners); got != c.fit || !ok || plainlyOwned(c.counts, c.owners) != c.fit {
			t.Errorf("OwnersFit(%v, %v) = %v %v, not %v", c.counts, c.owners, got, ok, c.fit)
		}
	}
}

func TestOwnersFitOfEachFewOwners(t *testing.T) {
	told := map[bool]int{}
	for kinds := 1; kinds <= 3; kinds++ {
		for slots := kinds; slots <= 5; slots++ {
			for _, counts := range everyCounts(kinds, slots) {
				for _, owners := range everyList([]int{-1, 0, 1, 2, 3}, 5) {
					want := plainlyOwned(counts, owners)
					if got, ok := impl.OwnersFit(counts, owners); got != want || !ok {
						t.Fatalf("OwnersFit(%v, %v) = %v %v", counts, owners, got, ok)
					}
					told[want]++
				}
			}
		}
	}
	if told[true] < 100 || told[false] < 1000 {
		t.Errorf("of the owners fit: %v", told)
	}
}

func TestOwnersFitOfManyFloors(t *testing.T) {
	for i, f := range manyFloors() {
		d := diceOf(i)
		for _, owners := range someOwners(d, f.counts, 3) {
			if fit, ok := impl.OwnersFit(f.counts, owners); !fit || !ok {
				t.Fatalf("OwnersFit(%v, %v) = %v %v", f.counts, owners, fit, ok)
			}
			// One slot goes to another good, or to none.
			other := slices.Clone(owners)
			other[d.below(len(other))] += 1 - 2*d.below(2)
			if fit, ok := impl.OwnersFit(f.counts, other); fit || !ok {
				t.Fatalf("OwnersFit(%v, %v) = %v %v", f.counts, other, fit, ok)
			}
		}
	}
}

// isNotLess holds owners that fit against the best ones, and tells whether they carry more.
func isNotLess(t *testing.T, f floor, best []int, owners []int) bool {
	least, leastOk := impl.TravelOf(f.picks, f.counts, f.ways, best)
	other, otherOk := impl.TravelOf(f.picks, f.counts, f.ways, owners)
	less, lessOk := impl.LessFrac(other, least)
	more, moreOk := impl.LessFrac(least, other)
	if less || !leastOk || !otherOk || !lessOk || !moreOk {
		t.Fatalf("of %v, %v and %v owners %v carry %v %v, but SlotsFor's %v %v %v", f.picks, f.counts, f.ways, owners, other, otherOk, best, least, leastOk)
	}
	return more
}

func TestPromise17NoOwnersCarryLess(t *testing.T) {
	more := 0
	floors := smallFloors()
	for i := range 240 {
		floors = append(floors, drawnFloor(i, 5+i%2))
	}
	for i := range 12 {
		floors = append(floors, drawnFloor(i, 7))
	}
	for _, f := range floors {
		best, ok := impl.SlotsFor(f.picks, f.counts, f.ways)
		if !ok {
			t.Fatal(f)
		}
		for _, owners := range everyOwners(f.counts) {
			if isNotLess(t, f, best, owners) {
				more++
			}
		}
	}
	if more < 10000 {
		t.Errorf("%d owners carried more", more)
	}
}

// commonCount is what each of 1..10 divides: so many times any travel is a whole number.
const commonCount = 2520

// leastTravel is commonCount times the least of all owners that fit: for each set of slots the least with which the first goods have them.
func leastTravel(f floor) int {
	turns := someOwners(diceOf(0), f.counts, 0)[0]
	least := make([]int, 1<<len(f.ways))
	for set := 1; set < len(least); set++ {
		least[set] = math.MaxInt
		good := turns[sizeOf(set)-1]
		for slot, way := range f.ways {
			if set>>slot&1 == 1 {
				least[set] = min(least[set], least[set&^(1<<slot)]+commonCount/f.counts[good]*f.picks[good]*way)
			}
		}
	}
	return least[len(least)-1]
}

func TestPromise17UpToTenSlots(t *testing.T) {
	more := 0
	floors := edgeFloors()
	for i := range 400 {
		floors = append(floors, drawnFloor(i, 7+i%4))
	}
	for i, f := range floors {
		best, ok := impl.SlotsFor(f.picks, f.counts, f.ways)
		travel, travelOk := impl.TravelOf(f.picks, f.counts, f.ways, best)
		want := leastTravel(f)
		if ratOf(travel).Cmp(big.NewRat(int64(want), commonCount)) != 0 || !ok || !travelOk {
			t.Fatalf("SlotsFor(%v, %v, %v) = %v carries %v, the least is %d/%d", f.picks, f.counts, f.ways, best, travel, want, commonCount)
		}
		for _, owners := range someOwners(diceOf(i), f.counts, 40) {
			if isNotLess(t, f, best, owners) {
				more++
			}
		}
	}
	if more < 1000 {
		t.Errorf("%d owners carried more", more)
	}
}

func TestGoodHouseByHand(t *testing.T) {
	ten := slices.Repeat([]int{1000}, 10)
	for _, c := range []struct {
		h    impl.House
		want bool
	}{
		{impl.House{}, false}, {house([]int{}, []int{}, []int{}), false}, {house([]int{0}, []int{1}, []int{0}), true}, {house([]int{1000}, []int{1}, []int{0}), true}, {house([]int{1001}, []int{1}, []int{0}), false}, {house([]int{-1}, []int{1}, []int{0}), false}, {house(ten, []int{10}, make([]int, 10)), true}, {house(ten, []int{5, 5}, []int{0, 1, 0, 1, 0, 1, 0, 1, 0, 1}), true}, {house(ten[:8], slices.Repeat([]int{1}, 8), countDown(8)), true}, {house(ten[:9], slices.Repeat([]int{1}, 9), countDown(9)), false}, {house(append(ten, 0), []int{11}, make([]int, 11)), false}, {house(append(ten, 0), []int{10, 1}, append(make([]int, 10), 1)), false},
		// Counts: none, below 1, or as many as neither ways nor owners.
		{house([]int{5, 1, 3}, nil, []int{0, 0, 1}), false}, {house(nil, []int{0}, nil), false}, {house([]int{4}, []int{1, 0}, []int{0}), false}, {house([]int{4}, []int{0, 1}, []int{1}), false}, {house([]int{4, 4}, []int{3, -1}, []int{0, 0}), false}, {house([]int{5, 1, 3}, []int{2, 1}, []int{1, 0, 0}), true}, {house([]int{5, 1, 3}, []int{1, 2}, []int{1, 0, 0}), false}, {house([]int{5, 1, 3}, []int{2, 2}, []int{1, 0, 0}), false}, {house([]int{5, 1, 3}, []int{3}, []int{1, 0, 0}), false}, {house([]int{5, 1, 3}, []int{1, 1, 1}, []int{1, 0, 0}), false}, {house([]int{4, 4}, []int{math.MaxInt, math.MaxInt, 4}, []int{0, 0}), false},
		// Ways: fewer and more.
		{house(nil, []int{2, 1}, []int{1, 0, 0}), false}, {house([]int{5, 1}, []int{2, 1}, []int{1, 0, 0}), false}, {house([]int{5, 1, 3, 0}, []int{2, 1}, []int{1, 0, 0}), false}, {house([]int{5, 1, 1001}, []int{2, 1}, []int{1, 0, 0}), false}, {house([]int{5, -1, 3}, []int{2, 1}, []int{1, 0, 0}), false}, {house([]int{math.MinInt, 1, 3}, []int{2, 1}, []int{1, 0, 0}), false}, {house([]int{5, math.MaxInt, 3}, []int{2, 1}, []int{1, 0, 0}), false}, {house([]int{5, 5, 5}, []int{2, 1}, []int{1, 0, 0}), true},
		// Owners that don't fit.
		{house([]int{5, 1, 3}, []int{2, 1}, nil), false}, {house([]int{5, 1, 3}, []int{2, 1}, []int{1, 0}), false}, {house([]int{5, 1, 3}, []int{2, 1}, []int{1, 0, 0, 0}), false}, {house([]int{5, 1, 3}, []int{2, 1}, []int{1, 0, 1}), false}, {house([]int{5, 1, 3}, []int{2, 1}, []int{1, 0, 2}), false}, {house([]int{5, 1, 3}, []int{2, 1}, []int{-1, 0, 0}), false}, {house([]int{5, 1, 3}, []int{2, 1}, []int{0, 0, 0}), false}, {house([]int{5, 1, 3}, []int{2, 1}, []int{0, 1, 0}), true},
	} {
		if impl.GoodHouse(c.h) != c.want || plainlyHouse(c.h) != c.want {
			t.Errorf("GoodHouse(%v) is not %v", c.h, c.want)
		}
	}
}

// manyHouses are good.
func manyHouses() []impl.House {
	var all []impl.House
	for i, f := range sampleFloors() {
		for _, owners := range append(someOwners(diceOf(i), f.counts, 2), plainSlots(f)) {
			all = append(all, f.house(owners))
		}
	}
	for i := range 1500 {
		f := drawnFloor(i, 1+i%10)
		all = append(all, f.house(someOwners(diceOf(i), f.counts, 1)[2]))
	}
	return all
}

// spoiltLists have one number changed, left out or put in, so that most of them are no longer as said.
func spoiltLists(d *dice, l []int) [][]int {
	all := [][]int{nil, l[1:], l[:len(l)-1], append(slices.Clone(l), 0), append(slices.Clone(l), 1), append([]int{1}, l...), append([]int{-1}, l...), d.shuffled(l), slices.Concat(l, l), slices.Repeat(l[:1], 11)}
	k := d.below(len(l))
	for _, n := range append([]int{0, 1, l[k] - 1, l[k] + 1, 9, 10, 11, 1000, 1001}, endInts...) {
		all = append(all, slices.Replace(slices.Clone(l), k, k+1, n))
	}
	return all
}

func spoiltHouses(i int, h impl.House) []impl.House {
	d := diceOf(i)
	var all []impl.House
	for _, l := range spoiltLists(d, h.Ways) {
		all = append(all, house(l, h.Counts, h.Owners))
	}
	for _, l := range spoiltLists(d, h.Counts) {
		all = append(all, house(h.Ways, l, h.Owners))
	}
	for _, l := range spoiltLists(d, h.Owners) {
		all = append(all, house(h.Ways, h.Counts, l))
	}
	return append(all, house(h.Counts, h.Ways, h.Owners), house(h.Ways, h.Owners, h.Counts))
}

// wrongHouses are such alone as are not good.
func wrongHouses() []impl.House {
	all := []impl.House{{}, house([]int{}, []int{}, []int{}), house(endInts, endInts, endInts), house(make([]int, 1000), []int{1000}, make([]int, 1000)), house(make([]int, 9), slices.Repeat([]int{1}, 9), countUp(9)), house(make([]int, 11), []int{11}, make([]int, 11)), house(make([]int, 11), []int{1, 10}, append(slices.Repeat([]int{1}, 10), 0)), house(make([]int, 10), make([]int, 10), countUp(10))}
	for i, h := range manyHouses()[:400] {
		all = append(all, slices.DeleteFunc(spoiltHouses(i, h), plainlyHouse)...)
	}
	return all
}

func TestGoodHouseOfManyHouses(t *testing.T) {
	told := map[bool]int{}
	for i, h := range manyHouses() {
		if !impl.GoodHouse(h) || !plainlyHouse(h) {
			t.Fatalf("GoodHouse(%v) is %v", h, impl.GoodHouse(h))
		}
		for _, other := range spoiltHouses(i, h) {
			want := plainlyHouse(other)
			if got := impl.GoodHouse(other); got != want {
				t.Fatalf("GoodHouse(%v) is %v", other, got)
			}
			told[want]++
		}
	}
	if told[true] < 1000 || told[false] < 10000 {
		t.Errorf("of the spoilt houses were good: %v", told)
	}
}

func TestNearestOfByHand(t *testing.T) {
	for _, c := range []struct {
		ways, counts, owners []int
		want                 []int
	}{
		{[]int{4, 2, 9}, []int{2, 1}, []int{0, 0, 1}, []int{1, 2}}, {[]int{5, 1, 3}, []int{2, 1}, []int{1, 0, 0}, []int{1, 0}}, {[]int{5, 1, 3}, []int{2, 1}, []int{0, 1, 0}, []int{2, 1}}, {[]int{0}, []int{1}, []int{0}, []int{0}}, {[]int{1000}, []int{1}, []int{0}, []int{0}},
		// Of as near ones the first one, wherever the others stand.
		{[]int{7, 7, 7}, []int{3}, []int{0, 0, 0}, []int{0}}, {[]int{9, 7, 7}, []int{3}, []int{0, 0, 0}, []int{1}}, {[]int{7, 9, 7}, []int{3}, []int{0, 0, 0}, []int{0}}, {[]int{7, 7, 7, 7}, []int{2, 2}, []int{1, 0, 1, 0}, []int{1, 0}}, {[]int{7, 7, 7, 0}, []int{2, 2}, []int{1, 0, 0, 1}, []int{1, 3}}, {[]int{0, 0, 0, 0, 0, 0, 0, 0, 0, 0}, []int{1, 1, 1, 1, 1, 1, 1, 3}, []int{7, 6, 5, 7, 4, 3, 2, 1, 0, 7}, []int{8, 7, 6, 5, 4, 2, 1, 0}}, {[]int{1000, 1000, 999, 1000, 999, 0, 0, 0, 0, 0}, []int{5, 5}, []int{0, 0, 0, 0, 0, 1, 1, 1, 1, 1}, []int{2, 5}},
	} {
		h := house(c.ways, c.counts, c.owners)
		for good, want := range c.want {
			if got, ok := impl.NearestOf(h, good); got != want || !ok {
				t.Errorf("NearestOf(%v, %d) = %v %v, not %v", h, good, got, ok, want)
			}
		}
		for _, good := range append([]int{-1, len(c.counts), len(c.counts) + 1, 8, 1000}, endInts...) {
			isNotNearest(t, h, good)
		}
	}
}

func isNotNearest(t *testing.T, h impl.House, good int) {
	if got, ok := impl.NearestOf(h, good); got != 0 || ok {
		t.Errorf("NearestOf(%v, %d) = %v %v", h, good, got, ok)
	}
}

// plainNearest is the last of those that no other one of the good is nearer than, from the end on.
func plainNearest(h impl.House, good int) int {
	nearest := -1
	for slot := len(h.Ways) - 1; slot >= 0; slot-- {
		if h.Owners[slot] == good && (nearest == -1 || h.Ways[slot] <= h.Ways[nearest]) {
			nearest = slot
		}
	}
	return nearest
}

func TestNearestOfManyHouses(t *testing.T) {
	for _, h := range manyHouses() {
		for good := -2; good <= len(h.Counts)+1; good++ {
			if good < 0 || good >= len(h.Counts) {
				isNotNearest(t, h, good)
				continue
			}
			if got, ok := impl.NearestOf(h, good); got != plainNearest(h, good) || !ok {
				t.Fatalf("NearestOf(%v, %d) = %v %v, not %v", h, good, got, ok, plainNearest(h, good))
			}
		}
	}
}

// pickedSheet has for each good as many lines as it has picks, in no plain order.
func pickedSheet(d *dice, picks ...int) impl.Sheet {
	var numbers []int
	for good, many := range picks {
		numbers = append(numbers, slices.Repeat([]int{good}, many)...)
	}
	s := sheet(manyGoods(len(picks)))
	for _, good := range d.shuffled(numbers) {
		s.Lines = append(s.Lines, line(good, 1+d.below(99)))
	}
	return s
}

// drawnPicks are 1..30 for each good, and at most 80 together.
func drawnPicks(d *dice, goods int) []int {
	picks := slices.Repeat([]int{1}, goods)
	for range []int{d.below(81 - goods), d.below(6), 80 - goods}[d.below(3)] {
		if good := d.below(goods); picks[good] < 30 {
			picks[good]++
		}
	}
	return picks
}

// A visit is a sheet, and ways that a house for it has.
type visit struct {
	s     impl.Sheet
	picks []int
	ways  []int
}

func drawnVisit(i int) visit {
	d := diceOf(i)
	goods := 1 + d.below(8)
	picks := drawnPicks(d, goods)
	slots := []int{goods, 10, goods + d.below(11-goods)}[d.below(3)]
	return visit{pickedSheet(d, picks...), picks, drawnWays(d, slots)}
}

// edgeVisits have the fewest and the most goods, picks and ways.
func edgeVisits() []visit {
	var all []visit
	for i, picks := range [][]int{{1}, {30}, {1, 30}, {30, 1}, {30, 30}, {30, 30, 20}, {1, 1, 1, 1, 1, 1, 1, 1}, {10, 10, 10, 10, 10, 10, 10, 10}, {30, 1, 30, 1, 1, 1, 1, 1}, {1, 2, 3, 4, 5, 6, 7, 8}, {29, 30, 21}, {6, 2, 12}, {2, 6}} {
		for slots := len(picks); slots <= 10; slots++ {
			d := diceOf(i)
			for _, ways := range [][]int{countUp(slots), countDown(slots), make([]int, slots), slices.Repeat([]int{1000}, slots), drawnWays(d, slots)} {
				all = append(all, visit{pickedSheet(d, picks...), picks, ways})
			}
		}
	}
	return all
}

func manyVisits() []visit {
	all := edgeVisits()
	for i := range 2000 {
		all = append(all, drawnVisit(i))
	}
	return all
}

// plainHouse is made of the document's words, but for ShareOut, which promise 4 speaks of.
func plainHouse(v visit) impl.House {
	counts, _ := impl.ShareOut(v.picks, len(v.ways))
	return house(v.ways, counts, plainSlots(floor{v.picks, counts, v.ways}))
}

func TestHouseForByHand(t *testing.T) {
	nails := sheet([]impl.Good{good("nail", 3), good("bolt", 5)}, line(0, 2), line(1, 1), line(0, 4))
	turned := sheet([]impl.Good{good("nail", 3), good("bolt", 5)}, line(1, 2), line(0, 99), line(1, 4))
	one := sheet(manyGoods(1), line(0, 7))
	for _, c := range []struct {
		s    impl.Sheet
		want impl.House
	}{
		{nails, house([]int{4, 2}, []int{1, 1}, []int{1, 0})}, {nails, house([]int{4, 2, 9}, []int{2, 1}, []int{0, 0, 1})}, {nails, house([]int{0, 0, 0}, []int{2, 1}, []int{0, 0, 1})}, {nails, house([]int{9, 5, 9, 1}, []int{2, 2}, []int{1, 0, 1, 0})}, {turned, house([]int{4, 2, 9}, []int{1, 2}, []int{1, 0, 1})}, {turned, house([]int{4, 2}, []int{1, 1}, []int{0, 1})},
		{one, house([]int{3}, []int{1}, []int{0})}, {one, house(countDown(10), []int{10}, make([]int, 10))}, {pickedSheet(diceOf(1), 8, 2), house([]int{1, 2, 3, 4}, []int{3, 1}, []int{0, 0, 0, 1})}, {pickedSheet(diceOf(2), 2, 8), house([]int{1, 2, 3, 4}, []int{1, 3}, []int{1, 1, 1, 0})}, {pickedSheet(diceOf(3), 5, 8), house([]int{1, 2, 3}, []int{1, 2}, []int{0, 1, 1})}, {pickedSheet(diceOf(4), 1, 1, 1, 1, 1, 1, 1, 1), house(countDown(10), []int{2, 2, 1, 1, 1, 1, 1, 1}, []int{1, 1, 0, 0, 7, 6, 5, 4, 3, 2})},
	} {
		if got, ok := impl.HouseFor(c.s, c.want.Ways); !sameHouse(got, c.want) || !ok {
			t.Errorf("HouseFor(%v, %v) = %v %v, not %v", c.s, c.want.Ways, got, ok, c.want)
		}
	}
}

// isHouseFor holds HouseFor against the document's words, and answers the house.
func isHouseFor(t *testing.T, v visit) impl.House {
	want := plainHouse(v)
	got, ok := impl.HouseFor(v.s, v.ways)
	if !sameHouse(got, want) || !ok {
		t.Fatalf("HouseFor(%v, %v) = %v %v, not %v", v.s, v.ways, got, ok, want)
	}
	return got
}

func TestHouseForOfManyVisits(t *testing.T) {
	goods, slots := map[int]int{}, map[int]int{}
	for _, v := range manyVisits() {
		h := isHouseFor(t, v)
		p, _ := impl.SheetProfile(v.s)
		counts, countsOk := impl.ShareOut(p.Picks, len(v.ways))
		owners, ok := impl.SlotsFor(p.Picks, counts, v.ways)
		if !slices.Equal(p.Picks, v.picks) || !slices.Equal(h.Counts, counts) || !slices.Equal(h.Owners, owners) || !slices.Equal(h.Ways, v.ways) || !countsOk || !ok {
			t.Fatalf("HouseFor(%v, %v) = %v, not of %v and %v", v.s, v.ways, h, counts, owners)
		}
		if !impl.GoodHouse(h) {
			t.Fatalf("GoodHouse(%v) is false", h)
		}
		goods[len(h.Counts)]++
		slots[len(h.Ways)]++
	}
	if len(goods) != 8 || len(slots) != 10 {
		t.Errorf("so many goods and slots were drawn: %v, %v", goods, slots)
	}
}

func isNotHouseFor(t *testing.T, s impl.Sheet, ways []int) {
	if h, ok := impl.HouseFor(s, ways); !isNoHouse(h) || ok {
		t.Errorf("HouseFor(%v, %v) = %v %v", s, ways, h, ok)
	}
}

func TestHouseForAtItsBounds(t *testing.T) {
	for kinds := range 13 {
		s := pickedSheet(diceOf(kinds), slices.Repeat([]int{3}, kinds)...)
		for slots := range 45 {
			h, ok := impl.HouseFor(s, countUp(slots))
			if want := kinds >= 1 && kinds <= 8 && slots >= kinds && slots <= 10; ok != want || impl.GoodHouse(h) != want || !want && !isNoHouse(h) {
				t.Errorf("HouseFor of %d goods and %d ways = %v %v", kinds, slots, h, ok)
			}
		}
	}
	for many := range 81 {
		for _, picks := range [][]int{{many}, {many, 1}, {1, many}, {1, many, 1}, {1, 1, 1, 1, 1, 1, 1, many}} {
			if plainTotal(picks) > 80 {
				continue
			}
			v := visit{pickedSheet(diceOf(many), picks...), picks, countUp(10)}
			if many >= 1 && many <= 30 {
				isHouseFor(t, v)
			} else {
				isNotHouseFor(t, v.s, v.ways)
			}
		}
	}
	for _, v := range edgeVisits() {
		for k := range v.ways {
			for _, n := range wrongNumbers {
				isNotHouseFor(t, v.s, slices.Replace(slices.Clone(v.ways), k, k+1, n))
			}
		}
	}
}

func TestDayCostByHand(t *testing.T) {
	nails := sheet([]impl.Good{good("nail", 3), good("bolt", 5)}, line(0, 2), line(1, 1), line(0, 4))
	for _, c := range []struct {
		s    impl.Sheet
		h    impl.House
		want impl.Frac
	}{
		{nails, house([]int{4, 2, 9}, []int{2, 1}, []int{0, 0, 1}), whole(15)}, {nails, house([]int{4, 2, 9}, []int{2, 1}, []int{1, 0, 0}), whole(15)}, {nails, house([]int{4, 2, 9}, []int{2, 1}, []int{0, 1, 0}), whole(15)}, {nails, house([]int{4, 2, 9}, []int{1, 2}, []int{0, 1, 1}), frac(27, 2)}, {nails, house([]int{4, 2, 9}, []int{1, 2}, []int{1, 0, 1}), frac(21, 2)}, {nails, house([]int{4, 2}, []int{1, 1}, []int{1, 0}), whole(8)}, {nails, house([]int{0, 0}, []int{1, 1}, []int{1, 0}), whole(0)},
		{pickedSheet(diceOf(1), 30), house([]int{1000}, []int{1}, []int{0}), whole(30000)}, {pickedSheet(diceOf(2), 1), house([]int{1, 0, 0}, []int{3}, []int{0, 0, 0}), frac(1, 3)},
	} {
		if got, ok := impl.DayCost(c.s, c.h); got != c.want || !ok {
			t.Errorf("DayCost(%v, %v) = %v %v, not %v", c.s, c.h, got, ok, c.want)
		}
	}
}

// otherHouse has as many goods as a visit, with other counts and owners.
func otherHouse(i int, v visit) impl.House {
	d := diceOf(i)
	counts := drawnCounts(d, len(v.picks), len(v.picks)+d.below(11-len(v.picks)))
	return house(drawnWays(d, plainTotal(counts)), counts, someOwners(d, counts, 1)[2])
}

func TestDayCostOfManyVisits(t *testing.T) {
	for i, v := range manyVisits() {
		for _, h := range []impl.House{plainHouse(v), otherHouse(i, v)} {
			p, _ := impl.SheetProfile(v.s)
			travel, travelOk := impl.TravelOf(p.Picks, h.Counts, h.Ways, h.Owners)
			want := plainTravel(floor{v.picks, h.Counts, h.Ways}, h.Owners)
			if got, ok := impl.DayCost(v.s, h); got != want || got != travel || !ok || !travelOk {
				t.Fatalf("DayCost(%v, %v) = %v %v, not %v", v.s, h, got, ok, want)
			}
		}
	}
}

// isRenewedAs holds RenewHouse against the document's words, and answers how many slots have another owner.
func isRenewedAs(t *testing.T, v visit, h impl.House) int {
	want, moved := plainHouse(visit{v.s, v.picks, h.Ways}), 0
	for slot := range h.Owners {
		if h.Owners[slot] != want.Owners[slot] {
			moved++
		}
	}
	if got, many, ok := impl.RenewHouse(v.s, h); !sameHouse(got, want) || many != moved || !ok {
		t.Fatalf("RenewHouse(%v, %v) = %v %v %v, not %v %v", v.s, h, got, many, ok, want, moved)
	}
	return moved
}

func TestRenewHouseByHand(t *testing.T) {
	nails := sheet([]impl.Good{good("nail", 3), good("bolt", 5)}, line(0, 2), line(1, 1), line(0, 4))
	for _, c := range []struct {
		h, want impl.House
		moved   int
	}{
		{house([]int{4, 2, 9}, []int{2, 1}, []int{0, 0, 1}), house([]int{4, 2, 9}, []int{2, 1}, []int{0, 0, 1}), 0}, {house([]int{4, 2, 9}, []int{2, 1}, []int{0, 1, 0}), house([]int{4, 2, 9}, []int{2, 1}, []int{0, 0, 1}), 2}, {house([]int{4, 2, 9}, []int{1, 2}, []int{0, 1, 1}), house([]int{4, 2, 9}, []int{2, 1}, []int{0, 0, 1}), 1}, {house([]int{4, 2, 9}, []int{1, 2}, []int{1, 1, 0}), house([]int{4, 2, 9}, []int{2, 1}, []int{0, 0, 1}), 3}, {house([]int{4, 2}, []int{1, 1}, []int{0, 1}), house([]int{4, 2}, []int{1, 1}, []int{1, 0}), 2}, {house([]int{4, 2}, []int{1, 1}, []int{1, 0}), house([]int{4, 2}, []int{1, 1}, []int{1, 0}), 0},
	} {
		if got, moved, ok := impl.RenewHouse(nails, c.h); !sameHouse(got, c.want) || moved != c.moved || !ok {
			t.Errorf("RenewHouse(%v, %v) = %v %v %v, not %v %v", nails, c.h, got, moved, ok, c.want, c.moved)
		}
	}
}

func TestRenewHouseOfManyVisits(t *testing.T) {
	moved := map[int]int{}
	for i, v := range manyVisits() {
		if many := isRenewedAs(t, v, plainHouse(v)); many != 0 {
			t.Fatalf("RenewHouse of the same %v moves %d", v, many)
		}
		moved[isRenewedAs(t, v, otherHouse(i, v))]++
		// The same goods, on a day with other picks.
		d := diceOf(i)
		picks := drawnPicks(d, len(v.picks))
		moved[isRenewedAs(t, visit{pickedSheet(d, picks...), picks, v.ways}, plainHouse(v))]++
	}
	for many := range 11 {
		if moved[many] == 0 {
			t.Errorf("so many slots were moved: %v", moved)
		}
	}
}

func isNoDay(t *testing.T, s impl.Sheet, h impl.House) {
	if cost, ok := impl.DayCost(s, h); cost != (impl.Frac{}) || ok {
		t.Errorf("DayCost(%v, %v) = %v %v", s, h, cost, ok)
	}
	if renewed, many, ok := impl.RenewHouse(s, h); !isNoHouse(renewed) || many != 0 || ok {
		t.Errorf("RenewHouse(%v, %v) = %v %v %v", s, h, renewed, many, ok)
	}
}

func TestDaysInHousesOfFewerAndMoreGoods(t *testing.T) {
	for goods := range 13 {
		s := pickedSheet(diceOf(goods), slices.Repeat([]int{2}, goods)...)
		for kinds := 1; kinds <= 8; kinds++ {
			for slots := kinds; slots <= 10; slots++ {
				d := diceOf(slots)
				counts := drawnCounts(d, kinds, slots)
				h := house(drawnWays(d, slots), counts, someOwners(d, counts, 1)[2])
				if goods != kinds {
					isNoDay(t, s, h)
					continue
				}
				_, ok := impl.DayCost(s, h)
				_, _, renewedOk := impl.RenewHouse(s, h)
				if !ok || !renewedOk {
					t.Errorf("%v is no day in %v", s, h)
				}
			}
		}
	}
}

func TestDaysOfGoodsPickedTooSeldomOrTooOften(t *testing.T) {
	for _, v := range edgeVisits() {
		for k := range v.picks {
			for _, n := range []int{0, 31, 32} {
				picks := slices.Replace(slices.Clone(v.picks), k, k+1, n)
				if plainTotal(picks) <= 80 {
					isNoDay(t, pickedSheet(diceOf(k), picks...), plainHouse(v))
				}
			}
		}
	}
}

func isRefusedFloor(t *testing.T, f floor, owners []int) {
	if got, ok := impl.SlotsFor(f.picks, f.counts, f.ways); len(got) != 0 || ok {
		t.Errorf("SlotsFor(%v, %v, %v) = %v %v", f.picks, f.counts, f.ways, got, ok)
	}
	isRefusedTravel(t, f, owners)
}

func isRefusedTravel(t *testing.T, f floor, owners []int) {
	if got, ok := impl.TravelOf(f.picks, f.counts, f.ways, owners); got != (impl.Frac{}) || ok {
		t.Errorf("TravelOf(%v, %v, %v, %v) = %v %v", f.picks, f.counts, f.ways, owners, got, ok)
	}
}

func TestFloorsAtTheirBounds(t *testing.T) {
	for picks := range 11 {
		for kinds := range 11 {
			for _, slots := range []int{kinds - 1, kinds, 9, 10, 11, 12, 40, 41} {
				if slots < kinds || kinds == 0 && slots > 0 {
					continue
				}
				counts := drawnCounts(diceOf(slots), kinds, slots)
				for _, ways := range []int{slots - 1, slots, slots + 1} {
					f := floor{slices.Repeat([]int{5}, picks), counts, make([]int, max(0, ways))}
					owners := someOwners(diceOf(ways), counts, 1)[2]
					if kinds < 1 || kinds > 8 || slots > 10 || picks != kinds || ways != slots {
						isRefusedFloor(t, f, owners)
						continue
					}
					isTravelAs(t, f, owners)
					if got, ok := impl.SlotsFor(f.picks, f.counts, f.ways); !slices.Equal(got, plainSlots(f)) || !ok {
						t.Errorf("SlotsFor(%v, %v, %v) = %v %v", f.picks, f.counts, f.ways, got, ok)
					}
				}
			}
		}
	}
}

func TestPromise19NoWrongFloorIsTaken(t *testing.T) {
	wrong := 0
	for i, f := range sampleFloors() {
		d := diceOf(i)
		owners := plainSlots(f)
		var all []floor
		for _, l := range slices.Concat(spoiltLists(d, f.picks), wrongFlows()) {
			all = append(all, floor{l, f.counts, f.ways})
		}
		for _, l := range slices.Concat(spoiltLists(d, f.counts), wrongCounts(len(f.counts))) {
			all = append(all, floor{f.picks, l, f.ways}, floor{f.picks, l, make([]int, len(f.picks))})
		}
		for _, l := range slices.Concat(spoiltLists(d, f.ways), [][]int{{}, endInts, make([]int, 1000)}) {
			all = append(all, floor{f.picks, f.counts, l})
		}
		for _, other := range all {
			if !plainlyFloor(other) {
				wrong++
				isRefusedFloor(t, other, owners)
				isRefusedTravel(t, other, make([]int, len(other.ways)))
			}
		}
	}
	if wrong < 10000 {
		t.Errorf("%d wrong floors", wrong)
	}
}

func TestPromise19NoWrongOwnersAreTaken(t *testing.T) {
	wrong := 0
	for i, f := range sampleFloors() {
		for _, owners := range append(spoiltLists(diceOf(i), plainSlots(f)), f.picks, f.ways, endInts, make([]int, 1000), slices.Repeat([]int{len(f.picks)}, len(f.ways))) {
			want := plainlyOwned(f.counts, owners)
			if got, ok := impl.OwnersFit(f.counts, owners); got != want || !ok {
				t.Errorf("OwnersFit(%v, %v) = %v %v", f.counts, owners, got, ok)
			}
			if want {
				isTravelAs(t, f, owners)
				continue
			}
			wrong++
			isRefusedTravel(t, f, owners)
		}
	}
	if wrong < 1000 {
		t.Errorf("%d wrong owners", wrong)
	}
}

func TestPromise19NoWrongCountsAreOwned(t *testing.T) {
	wrong := [][]int{nil, {}, {11}, {10, 1}, {1, 10}, {5, 6}, {40}, {1, 1, 1, 1, 1, 1, 1, 4}, slices.Repeat([]int{1}, 9), slices.Repeat([]int{1}, 10), make([]int, 8), {math.MaxInt, math.MaxInt, 4}, {1 << 62, 1 << 62, 1 << 62, 1 << 62}, {1, -1, 1}, {3, 0}, {0, 3}, {0}, {-1}, endInts}
	for kinds := 1; kinds <= 8; kinds++ {
		wrong = append(wrong, wrongCounts(kinds)...)
	}
	for _, counts := range wrong {
		if plainlyCounts(counts) {
			continue
		}
		var owners []int
		for good, count := range counts {
			owners = append(owners, slices.Repeat([]int{good}, max(0, min(50, count)))...)
		}
		for _, l := range [][]int{nil, {}, {0}, owners, {0, 0, 0}, {0, 1}, make([]int, 11), endInts} {
			if got, ok := impl.OwnersFit(counts, l); got || ok {
				t.Errorf("OwnersFit(%v, %v) = %v %v", counts, l, got, ok)
			}
			if h := house(make([]int, len(l)), counts, l); impl.GoodHouse(h) {
				t.Errorf("GoodHouse(%v) is true", h)
			}
		}
	}
}

func TestPromise19NoWrongHouseIsTaken(t *testing.T) {
	wrong := wrongHouses()
	if len(wrong) < 10000 {
		t.Errorf("%d wrong houses", len(wrong))
	}
	for _, h := range wrong {
		if impl.GoodHouse(h) {
			t.Errorf("GoodHouse(%v) is true", h)
		}
		for _, good := range []int{0, 1, len(h.Counts) - 1, len(h.Counts), -1, math.MinInt, math.MaxInt} {
			isNotNearest(t, h, good)
		}
		for _, goods := range []int{1, 2, len(h.Counts)} {
			if goods <= 12 {
				isNoDay(t, pickedSheet(diceOf(goods), slices.Repeat([]int{3}, goods)...), h)
			}
		}
		isNoDay(t, impl.Sheet{}, h)
	}
}

func TestPromise19NoHouseIsMadeOfWrongSheets(t *testing.T) {
	for _, s := range wrongSheets() {
		for _, ways := range [][]int{nil, {}, {0}, countUp(2), make([]int, len(s.Goods)), countUp(10), make([]int, 11)} {
			isNotHouseFor(t, s, ways)
		}
		for _, kinds := range []int{1, 2, 8, min(8, max(1, len(s.Goods)))} {
			counts := slices.Repeat([]int{1}, kinds)
			isNoDay(t, s, house(countUp(kinds), counts, countUp(kinds)))
		}
	}
	// One thing of a sheet that is as said otherwise.
	for _, v := range edgeVisits() {
		h := plainHouse(v)
		for _, other := range []impl.Sheet{sheet(v.s.Goods), sheet(nil, v.s.Lines...), sheet(v.s.Goods, append(slices.Clone(v.s.Lines), line(-1, 1))...), sheet(v.s.Goods, append(slices.Clone(v.s.Lines), line(len(v.picks), 1))...), sheet(v.s.Goods, append(slices.Clone(v.s.Lines), line(0, 0))...), sheet(v.s.Goods, append(slices.Clone(v.s.Lines), line(0, 100))...), sheet(append(v.s.Goods[:len(v.picks)-1:len(v.picks)-1], good("Nail", 1)), v.s.Lines...), sheet(append(v.s.Goods[:len(v.picks)-1:len(v.picks)-1], good("nail", 101)), v.s.Lines...), {}} {
			isNotHouseFor(t, other, v.ways)
			isNoDay(t, other, h)
		}
	}
}

func TestPromise19NoHouseIsMadeOfWrongWays(t *testing.T) {
	wrong := 0
	for i, v := range append(edgeVisits(), drawnVisit(1), drawnVisit(2), drawnVisit(3)) {
		for _, ways := range append(spoiltLists(diceOf(i), v.ways), nil, []int{}, endInts, make([]int, 11), make([]int, 40), make([]int, 41), make([]int, 1000)) {
			if len(ways) >= len(v.picks) && len(ways) <= 10 && slices.Min(ways) >= 0 && slices.Max(ways) <= 1000 {
				isHouseFor(t, visit{v.s, v.picks, ways})
				continue
			}
			wrong++
			isNotHouseFor(t, v.s, ways)
		}
	}
	if wrong < 1000 {
		t.Errorf("%d wrong ways", wrong)
	}
}

func TestPromise19OwnersShareNothing(t *testing.T) {
	// The first one is as its counts and ways are, so that handing out one of these would not be seen by what it holds.
	for _, plain := range append([]floor{{[]int{1}, []int{1}, []int{0}}, {[]int{1, 1}, []int{1, 1}, []int{0, 1}}}, sampleFloors()...) {
		f := floor{slices.Clone(plain.picks), slices.Clone(plain.counts), slices.Clone(plain.ways)}
		owners, ok := impl.SlotsFor(f.picks, f.counts, f.ways)
		again, againOk := impl.SlotsFor(f.picks, f.counts, f.ways)
		if !ok || !againOk || !slices.Equal(owners, again) {
			t.Fatal(f, owners, again)
		}
		shareNone(t, "chapter 17", f.picks, f.counts, f.ways, owners, again)
		if got, ok := impl.SlotsFor(plain.picks, plain.counts, plain.ways); !slices.Equal(got, plainSlots(plain)) || !ok {
			t.Errorf("SlotsFor(%v, %v, %v) = %v %v behind a write into earlier answers", plain.picks, plain.counts, plain.ways, got, ok)
		}
	}
}

func TestPromise19HousesShareNothing(t *testing.T) {
	for i, plain := range manyVisits()[:500] {
		v := visit{cloneSheet(plain.s), slices.Clone(plain.picks), slices.Clone(plain.ways)}
		h := plainHouse(v)
		h.Ways = v.ways
		other := otherHouse(i, v)
		lists := [][]int{v.ways, h.Counts, h.Owners, other.Ways, other.Counts, other.Owners}
		for range 2 {
			made, ok := impl.HouseFor(v.s, v.ways)
			same, _, sameOk := impl.RenewHouse(v.s, h)
			renewed, _, renewedOk := impl.RenewHouse(v.s, other)
			if !ok || !sameOk || !renewedOk || !sameHouse(made, plainHouse(plain)) || !sameHouse(same, made) {
				t.Fatal(v, made, same, renewed)
			}
			for _, answer := range []impl.House{made, same, renewed} {
				lists = append(lists, answer.Ways, answer.Counts, answer.Owners)
			}
		}
		shareNone(t, "chapter 17", lists...)
		if !sameSheet(v.s, plain.s) {
			t.Errorf("%v was made of %v", v.s, plain.s)
		}
		isRenewedAs(t, plain, isHouseFor(t, plain))
	}
}

// cutFloor lets two more stand behind each list's length.
func cutFloor(f floor, behind int) floor {
	return floor{cutList(f.picks, behind), cutList(f.counts, behind), cutList(f.ways, behind)}
}

func isFloorAsBefore(t *testing.T, cut floor, plain floor, behind int) {
	isAsBefore(t, cut.picks, plain.picks, behind)
	isAsBefore(t, cut.counts, plain.counts, behind)
	isAsBefore(t, cut.ways, plain.ways, behind)
}

// floorHangsOn tells whether a function of picks, counts, ways and owners answers otherwise for cut lists than for plain ones, which are not handed out themselves.
func floorHangsOn(f floor, owners []int, cut floor, cutOwners []int) bool {
	picks, counts, ways, owners := slices.Clone(f.picks), slices.Clone(f.counts), slices.Clone(f.ways), slices.Clone(owners)
	slots, ok := impl.SlotsFor(picks, counts, ways)
	cutSlots, cutOk := impl.SlotsFor(cut.picks, cut.counts, cut.ways)
	travel, travelOk := impl.TravelOf(picks, counts, ways, owners)
	cutTravel, cutTravelOk := impl.TravelOf(cut.picks, cut.counts, cut.ways, cutOwners)
	fit, fitOk := impl.OwnersFit(counts, owners)
	cutFit, cutFitOk := impl.OwnersFit(cut.counts, cutOwners)
	return !slices.Equal(slots, cutSlots) || ok != cutOk || travel != cutTravel || travelOk != cutTravelOk || fit != cutFit || fitOk != cutFitOk
}

func TestPromise19NoFloorOrOwnersAreWritten(t *testing.T) {
	for i, f := range sampleFloors() {
		best := plainSlots(f)
		all := []floor{f}
		for _, l := range spoiltLists(diceOf(i), f.ways)[:10] {
			all = append(all, floor{f.picks, f.counts, l}, floor{f.picks, l, f.ways}, floor{l, f.counts, f.ways})
		}
		for _, other := range all {
			for _, owners := range append(spoiltLists(diceOf(i), best)[:10], best) {
				for _, behind := range []int{-1, 0, 1, 1001} {
					cut, cutOwners := cutFloor(other, behind), cutList(owners, behind)
					if floorHangsOn(other, owners, cut, cutOwners) {
						t.Errorf("what is told of %v and %v hangs on what lies behind them", other, owners)
					}
					isFloorAsBefore(t, cut, other, behind)
					isAsBefore(t, cutOwners, owners, behind)
				}
			}
		}
	}
}

// cutHouse lets two more stand behind each list's length.
func cutHouse(h impl.House, behind int) impl.House {
	return house(cutList(h.Ways, behind), cutList(h.Counts, behind), cutList(h.Owners, behind))
}

func isHouseAsBefore(t *testing.T, cut impl.House, plain impl.House, behind int) {
	isAsBefore(t, cut.Ways, plain.Ways, behind)
	isAsBefore(t, cut.Counts, plain.Counts, behind)
	isAsBefore(t, cut.Owners, plain.Owners, behind)
}

// hasNumberBehind tells whether such a number lies behind the length of a house's list.
func hasNumberBehind(h impl.House, behind int) bool {
	return slices.ContainsFunc([][]int{h.Ways, h.Counts, h.Owners}, func(l []int) bool {
		return slices.Contains(l[len(l):cap(l)], behind)
	})
}

// houseHangsOn tells whether a function of a house answers otherwise for a cut than for a plain one, which is not handed out itself.
func houseHangsOn(plain impl.House, cut impl.House) bool {
	h := cloneHouse(plain)
	for good := -1; good <= len(h.Counts)+1; good++ {
		slot, ok := impl.NearestOf(h, good)
		cutSlot, cutOk := impl.NearestOf(cut, good)
		if slot != cutSlot || ok != cutOk {
			return true
		}
	}
	return impl.GoodHouse(h) != impl.GoodHouse(cut)
}

// dayHangsOn tells whether a function of a sheet and a house, or its ways, answers otherwise for cut ones than for plain ones, which are not handed out themselves.
func dayHangsOn(plainSheet impl.Sheet, plain impl.House, cutS impl.Sheet, cut impl.House) bool {
	s, h := cloneSheet(plainSheet), cloneHouse(plain)
	made, ok := impl.HouseFor(s, h.Ways)
	cutMade, cutOk := impl.HouseFor(cutS, cut.Ways)
	cost, costOk := impl.DayCost(s, h)
	cutCost, cutCostOk := impl.DayCost(cutS, cut)
	renewed, many, renewedOk := impl.RenewHouse(s, h)
	cutRenewed, cutMany, cutRenewedOk := impl.RenewHouse(cutS, cut)
	return !sameHouse(made, cutMade) || ok != cutOk || cost != cutCost || costOk != cutCostOk || !sameHouse(renewed, cutRenewed) || many != cutMany || renewedOk != cutRenewedOk
}

func TestPromise19NoHouseIsWritten(t *testing.T) {
	var houses []impl.House
	for i, h := range manyHouses()[:200] {
		houses = append(append(houses, h), spoiltHouses(i, h)...)
	}
	for _, h := range houses {
		goods := max(1, min(8, len(h.Counts)))
		s := pickedSheet(diceOf(goods), slices.Repeat([]int{3}, goods)...)
		for k, behind := range []int{-1, 0, 1, 7777} {
			cut := cutHouse(h, behind)
			cutS := cutSheet(s, []impl.Good{good("behind", 1), good("", 0)}[k%2], []impl.Line{line(0, 1), line(-1, 0)}[k/2])
			if houseHangsOn(h, cut) || dayHangsOn(s, h, cutS, cut) {
				t.Errorf("what is told of %v and %v hangs on what lies behind them", s, h)
			}
			if made, _ := impl.HouseFor(cutS, cut.Ways); k == 3 && hasNumberBehind(made, behind) {
				t.Errorf("HouseFor(%v, %v) hands out what lies behind it", s, h.Ways)
			}
			isHouseAsBefore(t, cut, h, behind)
			isSheetAsBefore(t, cutS, s, []impl.Good{good("behind", 1), good("", 0)}[k%2], []impl.Line{line(0, 1), line(-1, 0)}[k/2])
		}
	}
}

func TestPromise19NoSheetOfAHouseIsWritten(t *testing.T) {
	var all []impl.Sheet
	for _, v := range manyVisits()[:400] {
		all = append(all, v.s)
	}
	for _, s := range append(all, wrongSheets()...) {
		goods := max(1, min(8, len(s.Goods)))
		h := house(countDown(10), drawnCounts(diceOf(goods), goods, 10), nil)
		h.Owners = someOwners(diceOf(goods), h.Counts, 1)[2]
		for _, behindLine := range []impl.Line{line(0, 1), line(-1, 0)} {
			cutS, cut := cutSheet(s, good("behind", 1), behindLine), cutHouse(h, 1)
			if dayHangsOn(s, h, cutS, cut) {
				t.Errorf("what is told of %v and %v hangs on what lies behind them", s, h)
			}
			isSheetAsBefore(t, cutS, s, good("behind", 1), behindLine)
			isHouseAsBefore(t, cut, h, 1)
		}
	}
}
