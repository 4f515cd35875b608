package tests

import (
	"math"
	"slices"
	"testing"

	"loop.example/g00451/impl"
)

// fits reads a row of each text: an x is a bin that the load fits.
func fits(rows ...string) [][]bool {
	var f [][]bool
	for _, text := range rows {
		row := []bool{}
		for _, letter := range text {
			row = append(row, letter == 'x')
		}
		f = append(f, row)
	}
	return f
}

// sameFits has loads that fit all bins, or none.
func sameFits(loads int, bins int, fit bool) [][]bool {
	f := [][]bool{}
	for range loads {
		f = append(f, slices.Repeat([]bool{fit}, bins))
	}
	return f
}

// everyFits has all fits of so many loads and bins.
func everyFits(loads int, bins int) [][][]bool {
	var all [][][]bool
	for set := range 1 << (loads * bins) {
		f := sameFits(loads, bins, false)
		for i := range loads * bins {
			f[i/bins][i%bins] = set>>i&1 == 1
		}
		all = append(all, f)
	}
	return all
}

// smallFits are all fits of at most 4 loads and 4 bins but those of 4 and 4.
func smallFits() [][][]bool {
	var all [][][]bool
	for loads := range 5 {
		for bins := range 5 {
			if loads*bins <= 12 {
				all = append(all, everyFits(loads, bins)...)
			}
		}
	}
	return all
}

// mixedFits are in no plain order, from few fits to many.
func mixedFits(i int, loads int, bins int) [][]bool {
	f := sameFits(loads, bins, false)
	state := uint32(i*2654435761 + 12345)
	for load := range f {
		for bin := range f[load] {
			state = state*1664525 + 1013904223
			f[load][bin] = int(state>>24)%10 < 1+i%6
		}
	}
	return f
}

// stairFits has each load fit the bin of its number and the one ahead of it, so that the last load moves all the others.
func stairFits(many int) [][]bool {
	f := sameFits(many, many, false)
	for load := range f {
		f[load][load] = true
		f[load][max(load-1, 0)] = true
	}
	return f
}

// leaningFits has each load fit the bin of its number and the next one, and the last load the first bin alone.
func leaningFits(many int) [][]bool {
	f := sameFits(many, many, false)
	for load := range many - 1 {
		f[load][load], f[load][load+1] = true, true
	}
	f[many-1][0] = true
	return f
}

// greatFits are up to 8 loads and 8 bins.
func greatFits() [][][]bool {
	all := [][][]bool{nil, {}, {nil}, {{}, nil}, {nil, {}}}
	for _, many := range []int{1, 2, 5, 8} {
		all = append(all, stairFits(many), leaningFits(many))
		for _, fit := range []bool{false, true} {
			all = append(all, sameFits(many, 8, fit), sameFits(8, many, fit), sameFits(many, 0, fit))
		}
	}
	for i := range 600 {
		all = append(all, mixedFits(i, 4+i%5, 8-i/5%5))
	}
	return all
}

func manyFits() [][][]bool {
	return append(smallFits(), greatFits()...)
}

func binsOf(f [][]bool) int {
	if len(f) == 0 {
		return 0
	}
	return len(f[0])
}

// plainlyMatching counts how many loads have each bin.
func plainlyMatching(f [][]bool, m []int) bool {
	held := map[int]int{}
	for load, bin := range m {
		if bin == -1 {
			continue
		}
		if load >= len(f) || bin < 0 || bin >= len(f[load]) || !f[load][bin] {
			return false
		}
		held[bin]++
		if held[bin] > 1 {
			return false
		}
	}
	return len(m) == len(f)
}

func plainCount(m []int) int {
	count := 0
	for _, bin := range m {
		if bin >= 0 {
			count++
		}
	}
	return count
}

// everyMatching has all matchings.
func everyMatching(f [][]bool) [][]int {
	all := [][]int{{}}
	for load := range f {
		var next [][]int
		for _, m := range all {
			next = append(next, append(slices.Clone(m), -1))
			for bin, fit := range f[load] {
				if fit && !slices.Contains(m, bin) {
					next = append(next, append(slices.Clone(m), bin))
				}
			}
		}
		all = next
	}
	return all
}

// plainTake is the document's sentence: the first bin that fits and is free, or whose load can likewise take another one.
func plainTake(f [][]bool, m []int, load int, tried map[int]int) bool {
	for bin := range f[load] {
		if !f[load][bin] || tried[bin] > 0 {
			continue
		}
		tried[bin]++
		owner := slices.Index(m, bin)
		if owner == -1 || plainTake(f, m, owner, tried) {
			m[load] = bin
			return true
		}
	}
	return false
}

func plainMatch(f [][]bool) []int {
	m := slices.Repeat([]int{-1}, len(f))
	for load := range f {
		plainTake(f, m, load, map[int]int{})
	}
	return m
}

// binSets has for each set of loads the set of all bins that some of them fits.
func binSets(f [][]bool) []int {
	sets := make([]int, 1<<len(f))
	for set := range sets {
		for load, row := range f {
			for bin, fit := range row {
				if set>>load&1 == 1 && fit {
					sets[set] |= 1 << bin
				}
			}
		}
	}
	return sets
}

func sizeOf(set int) int {
	size := 0
	for ; set > 0; set >>= 1 {
		size += set & 1
	}
	return size
}

// greatestLack is by how much some loads are more than all bins that some of them fits, at most.
func greatestLack(f [][]bool) int {
	lack := 0
	for set, bins := range binSets(f) {
		lack = max(lack, sizeOf(set)-sizeOf(bins))
	}
	return lack
}

// greatestCount is the most loads that have a bin in a matching: load by load it is kept for each set of bins whether loads so far can have just these.
func greatestCount(f [][]bool) int {
	can := make([]bool, 1<<binsOf(f))
	can[0] = true
	for _, row := range f {
		for set, was := range slices.Clone(can) {
			for bin, fit := range row {
				can[set|1<<bin] = can[set|1<<bin] || was && fit && set>>bin&1 == 0
			}
		}
	}
	most := 0
	for set, is := range can {
		if is {
			most = max(most, sizeOf(set))
		}
	}
	return most
}

// smallestCover is the fewest loads and bins together: with these loads in it all bins that the other ones fit are.
func smallestCover(f [][]bool) int {
	least := math.MaxInt
	for set, bins := range binSets(f) {
		least = min(least, len(f)-sizeOf(set)+sizeOf(bins))
	}
	return least
}

// plainReach goes round over all loads and bins till nothing more is come to.
func plainReach(f [][]bool, m []int) ([]int, []int) {
	loads, bins := []int{}, []int{}
	for again := true; again; {
		again = false
		for load, bin := range m {
			if !slices.Contains(loads, load) && (bin == -1 || slices.Contains(bins, bin)) {
				loads, again = append(loads, load), true
			}
		}
		for _, load := range loads {
			for bin, fit := range f[load] {
				if fit && !slices.Contains(bins, bin) {
					bins, again = append(bins, bin), true
				}
			}
		}
	}
	return slices.Sorted(slices.Values(loads)), slices.Sorted(slices.Values(bins))
}

// withoutThese has 0 up to many - 1 without some of them.
func withoutThese(many int, some []int) []int {
	return slices.DeleteFunc(countUp(many), func(n int) bool { return slices.Contains(some, n) })
}

func plainlyCover(f [][]bool, loads []int, bins []int) bool {
	for _, load := range withoutThese(len(f), loads) {
		for _, bin := range withoutThese(binsOf(f), bins) {
			if f[load][bin] {
				return false
			}
		}
	}
	return true
}

// plainlyRising holds a list against all numbers of so many that it has, sorted.
func plainlyRising(l []int, many int) bool {
	var have []int
	for n := range many {
		if slices.Contains(l, n) {
			have = append(have, n)
		}
	}
	return slices.Equal(l, have)
}

func TestGoodFitsAtItsEdges(t *testing.T) {
	for loads := range 11 {
		for bins := range 11 {
			for _, fit := range []bool{false, true} {
				want := loads == 0 || loads <= 8 && bins <= 8
				if got := impl.GoodFits(sameFits(loads, bins, fit)); got != want {
					t.Errorf("GoodFits of %d loads and %d bins is %v", loads, bins, got)
				}
			}
		}
	}
	for _, f := range manyFits() {
		if !impl.GoodFits(f) {
			t.Fatalf("GoodFits(%v) is false", f)
		}
	}
	for _, f := range wrongFits() {
		if impl.GoodFits(f) {
			t.Errorf("GoodFits(%v) is true", f)
		}
	}
}

func TestMatchLoadsByHand(t *testing.T) {
	for _, c := range []struct {
		f    [][]bool
		want []int
	}{
		{nil, nil}, {[][]bool{}, nil}, {[][]bool{nil}, []int{-1}}, {[][]bool{{}, nil, {}}, []int{-1, -1, -1}}, {fits("x"), []int{0}}, {fits("."), []int{-1}}, {fits("x", "x"), []int{0, -1}}, {fits(".", "x"), []int{-1, 0}}, {fits("..x"), []int{2}}, {fits("xxx"), []int{0}}, {fits("xx", "xx"), []int{1, 0}}, {fits("xxx", "xxx", "xxx"), []int{2, 1, 0}},
		// A load changes its bin for a later one, though a free one is there for the other load, too.
		{fits("xx", "x."), []int{1, 0}}, {fits("xx.", "x.x"), []int{1, 0}}, {fits("x.x", "xx."), []int{2, 0}}, {fits(".x.x", ".xx."), []int{3, 1}},
		// It stays where there is no other one, and the load goes on to the next bin.
		{fits("x..", "x.x"), []int{0, 2}}, {fits("x..", ".x.", "xxx"), []int{0, 1, 2}},
		// Two of them change one behind the other.
		{fits("xx.", ".xx", "x.."), []int{1, 2, 0}}, {fits(".xx", "xx.", "x.."), []int{2, 1, 0}}, {fits("xx..", ".xx.", "x..x"), []int{1, 2, 0}}, {fits("xx..", ".x.x", "x..."), []int{1, 3, 0}},
		// Three of them do.
		{fits("xx..", ".xx.", "..xx", "x..."), []int{1, 2, 3, 0}},
		// A way that leads nowhere is left, and the bins tried on it are not gone to again.
		{fits("x..", "xx.", "xx."), []int{0, 1, -1}}, {fits("x..", "xx.", "xxx"), []int{0, 1, 2}}, {fits("xx.", "xx.", "xxx"), []int{1, 0, 2}}, {fits("xx..", "xx..", "xxx.", "xxxx"), []int{1, 0, 2, 3}}, {fits("x.", "x.", "xx"), []int{0, -1, 1}},
		// A load without a bin has none in the end either, and what it tried is free for others.
		{fits("x.", "x.", ".x"), []int{0, -1, 1}}, {fits("xx", "x.", "xx", ".x"), []int{1, 0, -1, -1}}, {fits("xx.", "x..", "xx.", "..x"), []int{1, 0, -1, 2}},
		// The bin that a load leaves is taken by the one that asked, not by another one.
		{fits("xx.x", "x.x.", "xxx."), []int{1, 2, 0}},
		{sameFits(8, 8, true), countDown(8)}, {sameFits(8, 8, false), slices.Repeat([]int{-1}, 8)}, {leaningFits(8), []int{1, 2, 3, 4, 5, 6, 7, 0}}, {stairFits(8), countUp(8)}, {sameFits(8, 1, true), []int{0, -1, -1, -1, -1, -1, -1, -1}}, {sameFits(1, 8, true), []int{0}},
	} {
		if got, ok := impl.MatchLoads(c.f); !slices.Equal(got, c.want) || !ok {
			t.Errorf("MatchLoads(%v) = %v %v, not %v", c.f, got, ok, c.want)
		}
	}
}

func TestMatchLoadsIsTheOneOfTheDocument(t *testing.T) {
	for _, f := range append(manyFits(), everyFits(4, 4)...) {
		want := plainMatch(f)
		if got, ok := impl.MatchLoads(f); !slices.Equal(got, want) || !ok {
			t.Fatalf("MatchLoads(%v) = %v %v, not %v", f, got, ok, want)
		}
	}
}

// changesIn goes load by load, and tells how many loads ahead changed their bin at once, at most.
func changesIn(t *testing.T, f [][]bool) int {
	most := 0
	var before []int
	for many := range len(f) + 1 {
		m, ok := impl.MatchLoads(f[:many])
		if !ok || len(m) != many {
			t.Fatalf("MatchLoads(%v) = %v %v", f[:many], m, ok)
		}
		changed := 0
		for load, bin := range before {
			if m[load] != bin {
				changed++
			}
			if (m[load] == -1) != (bin == -1) {
				t.Fatalf("MatchLoads(%v) = %v, but with one load fewer %v", f[:many], m, before)
			}
		}
		if changed > 0 && m[many-1] == -1 {
			t.Fatalf("MatchLoads(%v) = %v, but with one load fewer %v: they changed for none", f[:many], m, before)
		}
		most = max(most, changed)
		before = m
	}
	return most
}

func TestMatchLoadsGoesLoadByLoad(t *testing.T) {
	seen := map[int]int{}
	for _, f := range manyFits() {
		seen[changesIn(t, f)]++
	}
	for changes := range 4 {
		if seen[changes] == 0 {
			t.Errorf("%d loads never changed their bins at once: %v", changes, seen)
		}
	}
}

func TestPromise8NoMatchingHasMore(t *testing.T) {
	fewer := 0
	for _, f := range smallFits() {
		best, ok := impl.MatchLoads(f)
		is, isOk := impl.IsMatching(f, best)
		most, countOk := impl.CountIn(best)
		if !ok || !is || !isOk || !countOk {
			t.Fatalf("MatchLoads(%v) = %v %v, IsMatching %v %v, CountIn %v %v", f, best, ok, is, isOk, most, countOk)
		}
		for _, m := range everyMatching(f) {
			is, isOk := impl.IsMatching(f, m)
			count, countOk := impl.CountIn(m)
			if !is || !isOk || !countOk || count > most {
				t.Fatalf("%v of %v: IsMatching %v %v, CountIn %v %v; MatchLoads' %v has %d", m, f, is, isOk, count, countOk, best, most)
			}
			if count < most {
				fewer++
			}
		}
	}
	if fewer == 0 {
		t.Error("no matching had fewer loads than another one")
	}
}

func TestPromise8NoGreatMatchingHasMore(t *testing.T) {
	for _, f := range greatFits() {
		best, ok := impl.MatchLoads(f)
		is, isOk := impl.IsMatching(f, best)
		most, countOk := impl.CountIn(best)
		if !ok || !is || !isOk || !countOk || most != greatestCount(f) {
			t.Fatalf("MatchLoads(%v) = %v %v, IsMatching %v %v, CountIn %v %v, not %d", f, best, ok, is, isOk, most, countOk, greatestCount(f))
		}
	}
}

func TestIsMatchingByHand(t *testing.T) {
	f := fits("xx.", ".x.", "..x")
	for _, c := range []struct {
		f    [][]bool
		m    []int
		want bool
	}{
		{nil, nil, true}, {[][]bool{}, []int{}, true}, {nil, []int{-1}, false}, {nil, []int{0}, false}, {[][]bool{nil}, []int{-1}, true}, {[][]bool{nil}, []int{0}, false}, {[][]bool{nil}, nil, false}, {[][]bool{{}, nil}, []int{-1, -1}, true},
		{f, []int{0, 1, 2}, true}, {f, []int{1, -1, 2}, true}, {f, []int{-1, -1, -1}, true}, {f, []int{-1, 1, -1}, true}, {f, []int{-1, -1, 2}, true},
		// A bin twice, the first two or the last two of the loads.
		{f, []int{1, 1, -1}, false}, {f, []int{1, 1, 2}, false}, {sameFits(3, 3, true), []int{0, 1, 1}, false}, {sameFits(3, 3, true), []int{1, 0, 1}, false}, {sameFits(3, 3, true), []int{0, 0, 2}, false}, {sameFits(3, 3, true), []int{0, 2, 1}, true},
		// A bin that does not fit.
		{f, []int{2, 1, -1}, false}, {f, []int{0, 2, -1}, false}, {f, []int{-1, 1, 0}, false}, {f, []int{-1, 0, -1}, false},
		// Shorter and longer than the loads.
		{f, nil, false}, {f, []int{0, 1}, false}, {f, []int{-1, -1}, false}, {f, []int{0, 1, 2, -1}, false}, {f, []int{0, 1, 2, 0}, false}, {f, []int{-1, -1, -1, -1}, false},
		// The last bin, one beyond, and below -1.
		{sameFits(1, 3, true), []int{2}, true}, {sameFits(1, 3, true), []int{3}, false}, {sameFits(1, 3, true), []int{-2}, false}, {sameFits(1, 8, true), []int{7}, true}, {sameFits(1, 8, true), []int{8}, false}, {sameFits(3, 1, true), []int{-1, 0, -1}, true}, {sameFits(3, 1, true), []int{-1, 1, -1}, false}, {sameFits(3, 1, true), []int{-1, -2, -1}, false},
		{sameFits(8, 8, true), countUp(8), true}, {sameFits(8, 8, true), countDown(8), true}, {sameFits(8, 8, true), oneRing(8), true}, {sameFits(8, 8, true), countUp(9), false}, {sameFits(8, 8, true), countUp(7), false}, {sameFits(8, 8, true), []int{0, 1, 2, 3, 4, 5, 6, 0}, false}, {sameFits(8, 8, true), []int{1, 2, 3, 4, 5, 6, 7, 8}, false},
	} {
		if is, ok := impl.IsMatching(c.f, c.m); is != c.want || !ok {
			t.Errorf("IsMatching(%v, %v) = %v %v, not %v", c.f, c.m, is, ok, c.want)
		}
	}
}

func TestIsMatchingOfEachList(t *testing.T) {
	lists := everyList([]int{-2, -1, 0, 1, 2, 3}, 4)
	matchings := 0
	for loads := range 4 {
		for bins := range 4 {
			for _, f := range everyFits(loads, bins) {
				for _, m := range lists {
					want := plainlyMatching(f, m)
					if is, ok := impl.IsMatching(f, m); is != want || !ok {
						t.Fatalf("IsMatching(%v, %v) = %v %v, not %v", f, m, is, ok, want)
					}
					if want {
						matchings++
					}
				}
			}
		}
	}
	if matchings == 0 {
		t.Error("no list was a matching")
	}
}

func TestCountInByHand(t *testing.T) {
	for _, c := range []struct {
		m    []int
		want int
	}{
		{nil, 0}, {[]int{}, 0}, {[]int{-1}, 0}, {[]int{0}, 1}, {[]int{7}, 1}, {[]int{-1, -1}, 0}, {[]int{0, -1}, 1}, {[]int{-1, 0}, 1}, {[]int{3, 3}, 2}, {[]int{0, 0, 0}, 3}, {countUp(8), 8}, {slices.Repeat([]int{-1}, 8), 0}, {slices.Repeat([]int{7}, 8), 8}, {[]int{-1, 7, -1, 0, -1, 7, -1, -1}, 3},
	} {
		if got, ok := impl.CountIn(c.m); got != c.want || !ok {
			t.Errorf("CountIn(%v) = %v %v, not %v", c.m, got, ok, c.want)
		}
	}
}

func TestCountInOfEachList(t *testing.T) {
	for _, m := range everyList([]int{-2, -1, 0, 1, 6, 7, 8}, 5) {
		good := !slices.Contains(m, -2) && !slices.Contains(m, 8)
		want := 0
		if good {
			want = plainCount(m)
		}
		if got, ok := impl.CountIn(m); got != want || ok != good {
			t.Fatalf("CountIn(%v) = %v %v, not %v %v", m, got, ok, want, good)
		}
	}
}

func TestPromise19CountInAtItsEdges(t *testing.T) {
	for many := range 12 {
		for _, n := range append([]int{-2, 0, 1, 6, 7, 8, 9}, endInts...) {
			m := slices.Repeat([]int{n}, many)
			good := many == 0 || many <= 8 && n >= -1 && n <= 7
			want := 0
			if good {
				want = plainCount(m)
			}
			if got, ok := impl.CountIn(m); got != want || ok != good {
				t.Errorf("CountIn(%v) = %v %v, not %v %v", m, got, ok, want, good)
			}
			for i := range many {
				m := slices.Repeat([]int{3}, many)
				m[i] = n
				good := many <= 8 && n >= -1 && n <= 7
				want := 0
				if good {
					want = plainCount(m)
				}
				if got, ok := impl.CountIn(m); got != want || ok != good {
					t.Errorf("CountIn(%v) = %v %v, not %v %v", m, got, ok, want, good)
				}
			}
		}
	}
	if got, ok := impl.CountIn(slices.Repeat([]int{-1}, 1000)); got != 0 || ok {
		t.Errorf("CountIn of a thousand is %v %v", got, ok)
	}
}

func TestCoverOfByHand(t *testing.T) {
	for _, c := range []struct {
		f           [][]bool
		loads, bins []int
	}{
		{nil, nil, nil}, {[][]bool{}, nil, nil}, {[][]bool{nil}, nil, nil}, {[][]bool{{}, nil}, nil, nil}, {fits("."), nil, nil}, {fits("x"), []int{0}, nil}, {fits("x", "x"), nil, []int{0}}, {fits("xx"), []int{0}, nil}, {fits("xx", "xx"), []int{0, 1}, nil}, {fits("xx", "xx", "xx"), nil, []int{0, 1}},
		// Loads not come to, and bins come to.
		{fits("x..", "x..", ".xx"), []int{2}, []int{0}}, {fits(".xx", "x..", "x.."), []int{0}, []int{0}}, {fits("..x", "xx.", "..x"), []int{1}, []int{2}},
		// A load that has a bin is come to by it, and goes on to the next bin.
		{fits("xx", "x.", ".x"), nil, []int{0, 1}}, {fits("xx.", "x..", ".x.", "..x"), []int{3}, []int{0, 1}}, {fits("xx..", ".xx.", "x...", "..x.", "...x"), []int{4}, []int{0, 1, 2}},
		// From a load without a fit no bin is come to; a load that fits a bin but is not come to is in the cover.
		{fits("...", "xx."), []int{1}, nil}, {fits("..", "x.", "xx"), []int{1, 2}, nil}, {fits("xx.", "xx.", "xx.", "xxx"), []int{3}, []int{0, 1}},
		{sameFits(8, 8, true), countUp(8), nil}, {sameFits(8, 8, false), nil, nil}, {sameFits(8, 7, true), nil, countUp(7)}, {sameFits(7, 8, true), countUp(7), nil}, {stairFits(8), countUp(8), nil},
	} {
		loads, bins, ok := impl.CoverOf(c.f)
		if !slices.Equal(loads, c.loads) || !slices.Equal(bins, c.bins) || !ok {
			t.Errorf("CoverOf(%v) = %v %v %v, not %v %v", c.f, loads, bins, ok, c.loads, c.bins)
		}
	}
}

func TestCoverOfIsTheOneOfTheDocument(t *testing.T) {
	for _, f := range append(manyFits(), everyFits(4, 4)...) {
		reached, wantBins := plainReach(f, plainMatch(f))
		wantLoads := withoutThese(len(f), reached)
		loads, bins, ok := impl.CoverOf(f)
		if !slices.Equal(loads, wantLoads) || !slices.Equal(bins, wantBins) || !ok {
			t.Fatalf("CoverOf(%v) = %v %v %v, not %v %v", f, loads, bins, ok, wantLoads, wantBins)
		}
	}
}

func TestPromise8ACoverIsAsSmallAsAMatchingIsGreat(t *testing.T) {
	for _, f := range append(manyFits(), everyFits(4, 4)...) {
		m, _ := impl.MatchLoads(f)
		count, countOk := impl.CountIn(m)
		loads, bins, ok := impl.CoverOf(f)
		is, isOk := impl.IsCover(f, loads, bins)
		if !ok || !countOk || !is || !isOk || len(loads)+len(bins) != count {
			t.Fatalf("CoverOf(%v) = %v %v %v, IsCover %v %v; MatchLoads' %v has %d", f, loads, bins, ok, is, isOk, m, count)
		}
		if least := smallestCover(f); least != count {
			t.Fatalf("of %v a cover has %d, MatchLoads' %v %d", f, least, m, count)
		}
	}
}

// setLists has all rising lists of numbers of so many.
func setLists(many int) [][]int {
	var all [][]int
	for set := range 1 << many {
		all = append(all, slices.DeleteFunc(countUp(many), func(n int) bool { return set>>n&1 == 0 }))
	}
	return all
}

func TestPromise8NoCoverIsSmaller(t *testing.T) {
	greater := 0
	for loads := range 4 {
		for bins := range 4 {
			for _, f := range everyFits(loads, bins) {
				m, _ := impl.MatchLoads(f)
				count, _ := impl.CountIn(m)
				for _, l := range setLists(loads) {
					for _, b := range setLists(binsOf(f)) {
						want := plainlyCover(f, l, b)
						is, ok := impl.IsCover(f, l, b)
						if is != want || !ok || is && len(l)+len(b) < count {
							t.Fatalf("IsCover(%v, %v, %v) = %v %v, not %v; MatchLoads' %v has %d", f, l, b, is, ok, want, m, count)
						}
						if is && len(l)+len(b) > count {
							greater++
						}
					}
				}
			}
		}
	}
	if greater == 0 {
		t.Error("no cover was greater than another one")
	}
}

func TestIsCoverByHand(t *testing.T) {
	f := fits("xx.", ".x.", "..x")
	for _, c := range []struct {
		f           [][]bool
		loads, bins []int
		want, good  bool
	}{
		{nil, nil, nil, true, true}, {[][]bool{}, []int{}, []int{}, true, true}, {nil, []int{0}, nil, false, false}, {nil, nil, []int{0}, false, false}, {[][]bool{nil}, nil, nil, true, true}, {[][]bool{nil}, []int{0}, nil, true, true}, {[][]bool{nil}, []int{1}, nil, false, false}, {[][]bool{nil}, nil, []int{0}, false, false},
		{fits("."), nil, nil, true, true}, {fits("x"), nil, nil, false, true}, {fits("x"), []int{0}, nil, true, true}, {fits("x"), nil, []int{0}, true, true}, {fits("x"), []int{0}, []int{0}, true, true},
		{f, []int{0, 1, 2}, nil, true, true}, {f, nil, []int{0, 1, 2}, true, true}, {f, []int{0, 2}, []int{1}, true, true}, {f, []int{0}, []int{1, 2}, true, true}, {f, []int{2}, []int{0, 1}, true, true}, {f, []int{1, 2}, []int{0, 1}, true, true}, {f, []int{0, 1, 2}, []int{0, 1, 2}, true, true},
		{f, []int{1, 2}, []int{1}, false, true}, {f, []int{0, 1}, nil, false, true}, {f, []int{0, 2}, nil, false, true}, {f, nil, []int{1, 2}, false, true}, {f, []int{0}, []int{1}, false, true}, {f, nil, nil, false, true},
		// Loads and bins are not taken for each other.
		{fits("xxx", "...", "..."), []int{0}, nil, true, true}, {fits("xxx", "...", "..."), nil, []int{0}, false, true}, {fits("x..", "x..", "x.."), nil, []int{0}, true, true}, {fits("x..", "x..", "x.."), []int{0}, nil, false, true},
		// Numbers that are not rising, twice the same, below 0, at the last one and one beyond.
		{f, []int{1, 0, 2}, nil, false, false}, {f, nil, []int{0, 2, 1}, false, false}, {f, []int{0, 0, 1, 2}, nil, false, false}, {f, nil, []int{0, 1, 2, 2}, false, false}, {f, []int{-1, 0, 1, 2}, nil, false, false}, {f, nil, []int{-1, 0, 1, 2}, false, false}, {f, []int{0, 1, 2, 3}, nil, false, false}, {f, nil, []int{0, 1, 2, 3}, false, false}, {f, []int{3}, nil, false, false}, {f, nil, []int{3}, false, false},
		{sameFits(2, 3, true), nil, []int{0, 1, 2}, true, true}, {sameFits(2, 3, true), []int{0, 1, 2}, nil, false, false}, {sameFits(3, 2, true), []int{0, 1, 2}, nil, true, true}, {sameFits(3, 2, true), nil, []int{0, 1, 2}, false, false},
		{sameFits(8, 8, true), countUp(8), nil, true, true}, {sameFits(8, 8, true), nil, countUp(8), true, true}, {sameFits(8, 8, true), countUp(8), countUp(8), true, true}, {sameFits(8, 8, true), countUp(7), countUp(7), false, true}, {sameFits(8, 8, true), countUp(9), nil, false, false}, {sameFits(8, 8, true), nil, countUp(9), false, false}, {sameFits(8, 8, true), countDown(8), nil, false, false},
	} {
		if is, ok := impl.IsCover(c.f, c.loads, c.bins); is != c.want || ok != c.good {
			t.Errorf("IsCover(%v, %v, %v) = %v %v, not %v %v", c.f, c.loads, c.bins, is, ok, c.want, c.good)
		}
	}
}

func TestIsCoverOfEachList(t *testing.T) {
	lists := everyList([]int{-1, 0, 1, 2, 3}, 3)
	seen := map[[2]bool]int{}
	for _, size := range [][2]int{{0, 0}, {1, 0}, {1, 1}, {1, 3}, {3, 1}, {2, 2}, {2, 3}, {3, 2}} {
		for _, f := range everyFits(size[0], size[1]) {
			for _, loads := range lists {
				loadsGood := plainlyRising(loads, size[0])
				for _, bins := range lists {
					good := loadsGood && plainlyRising(bins, size[1])
					want := good && plainlyCover(f, loads, bins)
					if is, ok := impl.IsCover(f, loads, bins); is != want || ok != good {
						t.Fatalf("IsCover(%v, %v, %v) = %v %v, not %v %v", f, loads, bins, is, ok, want, good)
					}
					seen[[2]bool{want, good}]++
				}
			}
		}
	}
	if seen[[2]bool{true, true}] == 0 || seen[[2]bool{false, true}] == 0 || seen[[2]bool{false, false}] == 0 {
		t.Errorf("covers were %v", seen)
	}
}

func TestLackOfByHand(t *testing.T) {
	for _, c := range []struct {
		f    [][]bool
		want []int
	}{
		{nil, nil}, {[][]bool{}, nil}, {[][]bool{nil}, []int{0}}, {[][]bool{{}, nil, {}}, []int{0, 1, 2}}, {fits("."), []int{0}}, {fits("x"), nil}, {fits("x", "x"), []int{0, 1}}, {fits("xx", "xx"), nil}, {fits("xx", "xx", "xx"), []int{0, 1, 2}}, {fits("x.", "x.", ".x"), []int{0, 1}}, {fits(".x", "x.", "x."), []int{1, 2}}, {fits("x.", ".x", "x."), []int{0, 2}}, {fits("...", "xx."), []int{0}}, {fits("xx.", "...", "xx."), []int{1}},
		// A load come to by its bin leads on; the answer is rising, however it was come to.
		{fits("xx.", "x..", ".x.", "..x"), []int{0, 1, 2}}, {fits("xx..", ".xx.", "x...", "..x.", "...x"), []int{0, 1, 2, 3}}, {fits("..x", "x..", ".x.", "..x", "xx."), []int{0, 1, 2, 3, 4}},
		// Two lacks that have no bin in common are both told.
		{fits("x..", "x..", ".x.", ".x.", "..x"), []int{0, 1, 2, 3}},
		{sameFits(8, 8, true), nil}, {sameFits(8, 8, false), countUp(8)}, {sameFits(8, 7, true), countUp(8)}, {sameFits(7, 8, true), nil}, {sameFits(8, 0, true), countUp(8)}, {stairFits(8), nil}, {leaningFits(8), nil},
	} {
		if got, ok := impl.LackOf(c.f); !slices.Equal(got, c.want) || !ok {
			t.Errorf("LackOf(%v) = %v %v, not %v", c.f, got, ok, c.want)
		}
	}
}

func TestLackOfIsTheOneOfTheDocument(t *testing.T) {
	for _, f := range append(manyFits(), everyFits(4, 4)...) {
		want, _ := plainReach(f, plainMatch(f))
		if got, ok := impl.LackOf(f); !slices.Equal(got, want) || !ok {
			t.Fatalf("LackOf(%v) = %v %v, not %v", f, got, ok, want)
		}
	}
}

func TestPromise8AsManyLackAsThereAreMore(t *testing.T) {
	lacks := map[bool]int{}
	for _, f := range append(manyFits(), everyFits(4, 4)...) {
		m, ok := impl.MatchLoads(f)
		count, countOk := impl.CountIn(m)
		loads, lackOk := impl.LackOf(f)
		if !ok || !countOk || !lackOk || !plainlyRising(loads, len(f)) {
			t.Fatalf("of %v: MatchLoads %v %v, CountIn %v %v, LackOf %v %v", f, m, ok, count, countOk, loads, lackOk)
		}
		set := 0
		for _, load := range loads {
			set |= 1 << load
		}
		without := len(f) - count
		more := len(loads) - sizeOf(binSets(f)[set])
		if more != without || greatestLack(f) != without || without == 0 && len(loads) != 0 {
			t.Fatalf("of %v: LackOf %v is %d more than its bins, %d at most, MatchLoads' %v leaves %d", f, loads, more, greatestLack(f), m, without)
		}
		lacks[without > 0]++
	}
	if lacks[true] == 0 || lacks[false] == 0 {
		t.Errorf("loads lacked bins: %v", lacks)
	}
}

// wrongFits are too many loads, too many bins, or have a row that is not as long as the first one.
func wrongFits() [][][]bool {
	var l [][][]bool
	for _, fit := range []bool{false, true} {
		for _, size := range [][2]int{{9, 0}, {9, 1}, {9, 8}, {9, 9}, {1, 9}, {8, 9}, {10, 10}, {1, 1000}, {1000, 1}, {1000, 0}} {
			l = append(l, sameFits(size[0], size[1], fit))
		}
		for _, size := range [][2]int{{2, 0}, {2, 1}, {2, 2}, {3, 2}, {3, 7}, {8, 1}, {8, 7}, {8, 8}} {
			for load := range size[0] {
				for _, bins := range []int{0, size[1] - 1, size[1] + 1, 8, 9, 1000} {
					if bins >= 0 && bins != size[1] {
						f := sameFits(size[0], size[1], fit)
						f[load] = slices.Repeat([]bool{fit}, bins)
						l = append(l, f)
					}
				}
			}
		}
	}
	return append(l, [][]bool{nil, {true}}, [][]bool{{true}, nil}, fits("xx", "x", "xxx"), fits("x", "xx"), fits("xx", "x"), fits("xxx", "xx", "x"), append(sameFits(8, 8, true), nil))
}

func TestPromise19NoWrongFitsAreMatched(t *testing.T) {
	for _, f := range wrongFits() {
		if got, ok := impl.MatchLoads(f); len(got) != 0 || ok {
			t.Errorf("MatchLoads(%v) = %v %v", f, got, ok)
		}
		if got, ok := impl.LackOf(f); len(got) != 0 || ok {
			t.Errorf("LackOf(%v) = %v %v", f, got, ok)
		}
		if loads, bins, ok := impl.CoverOf(f); len(loads) != 0 || len(bins) != 0 || ok {
			t.Errorf("CoverOf(%v) = %v %v %v", f, loads, bins, ok)
		}
		for _, m := range [][]int{nil, {0}, {-1}, slices.Repeat([]int{-1}, len(f)), make([]int, len(f)), countUp(len(f)), {math.MinInt}, {math.MaxInt}} {
			if is, ok := impl.IsMatching(f, m); is || ok {
				t.Errorf("IsMatching(%v, %v) = %v %v", f, m, is, ok)
			}
		}
		for _, loads := range [][]int{nil, {0}, countUp(len(f)), {math.MinInt}, {math.MaxInt}} {
			for _, bins := range [][]int{nil, {0}, countUp(binsOf(f)), {math.MinInt}, {math.MaxInt}} {
				if is, ok := impl.IsCover(f, loads, bins); is || ok {
					t.Errorf("IsCover(%v, %v, %v) = %v %v", f, loads, bins, is, ok)
				}
			}
		}
	}
}

func TestPromise19NoWrongNumberIsABin(t *testing.T) {
	for _, size := range [][2]int{{1, 1}, {3, 2}, {2, 3}, {8, 8}, {8, 1}, {1, 8}, {2, 0}} {
		loads, bins := size[0], size[1]
		f := sameFits(loads, bins, true)
		for _, n := range append([]int{-2, -8, bins, bins + 1, 8, 9}, endInts...) {
			for load := range loads {
				m := slices.Repeat([]int{-1}, loads)
				m[load] = n
				if is, ok := impl.IsMatching(f, m); is != (n == -1) || !ok {
					t.Errorf("IsMatching of %d loads and %d bins, %v = %v %v", loads, bins, m, is, ok)
				}
			}
		}
	}
}

func TestPromise19NoWrongNumberIsInACover(t *testing.T) {
	for _, size := range [][2]int{{0, 0}, {1, 1}, {3, 2}, {2, 3}, {8, 8}, {8, 1}, {1, 8}, {2, 0}} {
		loads, bins := countUp(size[0]), countUp(size[1])
		f := sameFits(size[0], size[1], true)
		if is, ok := impl.IsCover(f, loads, bins); !is || !ok {
			t.Errorf("IsCover(%v, %v, %v) = %v %v", f, loads, bins, is, ok)
		}
		for _, n := range append([]int{-2, -8, 9, 10}, endInts...) {
			for _, l := range badNumbers(loads, n) {
				isRefusedCover(t, f, l, bins)
				isRefusedCover(t, f, l, nil)
			}
			for _, l := range badNumbers(bins, n) {
				isRefusedCover(t, f, loads, l)
				isRefusedCover(t, f, nil, l)
			}
		}
		for _, n := range loads {
			isRefusedCover(t, f, slices.Insert(slices.Clone(loads), n, n), bins)
		}
		for _, n := range bins {
			isRefusedCover(t, f, loads, slices.Insert(slices.Clone(bins), n, n))
		}
		isRefusedCover(t, f, append(slices.Clone(loads), len(loads)), bins)
		isRefusedCover(t, f, loads, append(slices.Clone(bins), len(bins)))
	}
}

// badNumbers has lists with a number put in at the beginning, in the end, and in the place of each one.
func badNumbers(l []int, n int) [][]int {
	all := [][]int{{n}, append([]int{n}, l...), append(slices.Clone(l), n)}
	for i := range l {
		list := slices.Clone(l)
		list[i] = n
		all = append(all, list)
	}
	return all
}

func isRefusedCover(t *testing.T, f [][]bool, loads []int, bins []int) {
	if is, ok := impl.IsCover(f, loads, bins); is || ok {
		t.Errorf("IsCover(%v, %v, %v) = %v %v", f, loads, bins, is, ok)
	}
}

func TestPromise19MatchingsShareNothing(t *testing.T) {
	// Here the matching, the lack and both lists of the cover have numbers.
	f := fits("x....", "x....", ".xx..", ".x.x.", "x...x")
	wantLoads, wantBins := []int{2, 3, 4}, []int{0}
	var lists [][]int
	for range 2 {
		m, ok := impl.MatchLoads(f)
		loads, bins, coverOk := impl.CoverOf(f)
		lack, lackOk := impl.LackOf(f)
		if !ok || !coverOk || !lackOk || len(m) != 5 || len(lack) != 2 || !slices.Equal(loads, wantLoads) || !slices.Equal(bins, wantBins) {
			t.Fatal(m, loads, bins, lack)
		}
		lists = append(lists, m, loads, bins, lack)
	}
	shareNone(t, "chapter 8", lists...)
	if m, ok := impl.MatchLoads(f); !slices.Equal(m, plainMatch(f)) || !ok {
		t.Errorf("MatchLoads = %v %v behind a write into earlier answers", m, ok)
	}
	if loads, bins, ok := impl.CoverOf(f); !slices.Equal(loads, wantLoads) || !slices.Equal(bins, wantBins) || !ok {
		t.Errorf("CoverOf = %v %v %v behind a write into earlier answers", loads, bins, ok)
	}
	if lack, ok := impl.LackOf(f); !slices.Equal(lack, []int{0, 1}) || !ok {
		t.Errorf("LackOf = %v %v behind a write into earlier answers", lack, ok)
	}
}

func TestPromise19CoversShareNothing(t *testing.T) {
	for _, f := range greatFits() {
		loads, bins, _ := impl.CoverOf(f)
		shareNone(t, "CoverOf", loads, bins)
	}
}

// cutFits lets two more stand behind each row's length, and two more rows behind the last one.
func cutFits(f [][]bool, behind bool) [][]bool {
	var full [][]bool
	for _, row := range f {
		full = append(full, append(slices.Clone(row), behind, behind)[:len(row)])
	}
	row := slices.Repeat([]bool{behind}, binsOf(f)+2)[:binsOf(f)]
	return append(full, row, slices.Clone(row))[:len(f)]
}

// fullFits has what stands behind the lengths, too.
func fullFits(cut [][]bool) [][]bool {
	var full [][]bool
	for load, row := range cut[:len(cut)+2] {
		if load < len(cut) {
			row = row[:len(row)+2]
		}
		full = append(full, slices.Clone(row))
	}
	return full
}

func equalFits(a [][]bool, b [][]bool) bool {
	return slices.EqualFunc(a, b, slices.Equal)
}

// fitsHangOn tells whether a function of fits alone answers otherwise for cut than for plain ones.
func fitsHangOn(f [][]bool, cut [][]bool) bool {
	m, ok := impl.MatchLoads(f)
	cutM, cutOk := impl.MatchLoads(cut)
	loads, bins, coverOk := impl.CoverOf(f)
	cutLoads, cutBins, cutCoverOk := impl.CoverOf(cut)
	lack, lackOk := impl.LackOf(f)
	cutLack, cutLackOk := impl.LackOf(cut)
	return impl.GoodFits(f) != impl.GoodFits(cut) || !slices.Equal(m, cutM) || ok != cutOk || !slices.Equal(loads, cutLoads) || !slices.Equal(bins, cutBins) || coverOk != cutCoverOk || !slices.Equal(lack, cutLack) || lackOk != cutLackOk
}

// matchingHangsOn tells whether a function of a list answers otherwise for cut than for plain ones.
func matchingHangsOn(f [][]bool, l []int, cut [][]bool, cutL []int) bool {
	l = slices.Clone(l)
	is, ok := impl.IsMatching(f, l)
	cutIs, cutOk := impl.IsMatching(cut, cutL)
	count, countOk := impl.CountIn(l)
	cutCount, cutCountOk := impl.CountIn(cutL)
	byLoads, byLoadsOk := impl.IsCover(f, l, nil)
	cutByLoads, cutByLoadsOk := impl.IsCover(cut, cutL, nil)
	byBins, byBinsOk := impl.IsCover(f, nil, l)
	cutByBins, cutByBinsOk := impl.IsCover(cut, nil, cutL)
	return is != cutIs || ok != cutOk || count != cutCount || countOk != cutCountOk || byLoads != cutByLoads || byLoadsOk != cutByLoadsOk || byBins != cutByBins || byBinsOk != cutByBinsOk
}

func TestPromise19NoFitsAreWritten(t *testing.T) {
	for _, f := range append(wrongFits(), greatFits()...) {
		for _, fit := range []bool{false, true} {
			cut := cutFits(f, fit)
			before := fullFits(cut)
			if fitsHangOn(f, cut) {
				t.Errorf("what is told of %v hangs on what lies behind it", f)
			}
			for _, l := range [][]int{nil, {0}, someMatching(f), slices.Repeat([]int{-1}, len(f)), countUp(len(f)), countDown(len(f)), countUp(binsOf(f)), {math.MinInt, math.MaxInt}} {
				for _, behind := range []int{-1, 0, len(l), 8} {
					cutL := cutList(l, behind)
					if matchingHangsOn(f, l, cut, cutL) {
						t.Errorf("what is told of %v and %v hangs on what lies behind them", f, l)
					}
					isAsBefore(t, cutL, l, behind)
				}
			}
			if !equalFits(fullFits(cut), before) {
				t.Errorf("%v was made of %v", fullFits(cut), before)
			}
		}
	}
}

// someMatching is one where the fits are good.
func someMatching(f [][]bool) []int {
	if !impl.GoodFits(f) {
		return nil
	}
	return plainMatch(f)
}
