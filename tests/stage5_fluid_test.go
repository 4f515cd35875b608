package tests

import (
	"math"
	"math/big"
	"slices"
	"testing"

	"loop.example/g00451/impl"
)

// plainFluid says what the document says, by fractions that have no bounds: refused where a sum on the way is not good.
func plainFluid(flow []int, shares []int) (impl.Frac, bool) {
	sum := new(big.Rat)
	for i, share := range shares {
		sum.Add(sum, big.NewRat(int64(flow[i]), int64(share)))
		if _, ok := answerOf(sum); !ok {
			return impl.Frac{}, false
		}
	}
	return answerOf(sum)
}

func TestFluidCostByHand(t *testing.T) {
	for _, c := range []struct {
		flow, shares []int
		want         impl.Frac
	}{
		{[]int{4, 1}, []int{6, 3}, whole(1)}, {[]int{1, 4}, []int{6, 3}, frac(3, 2)}, {[]int{1}, []int{1}, whole(1)}, {[]int{30}, []int{1}, whole(30)}, {[]int{1}, []int{1000}, frac(1, 1000)}, {[]int{30}, []int{1000}, frac(3, 100)}, {[]int{29}, []int{999}, frac(29, 999)},
		{[]int{8, 2}, []int{3, 1}, frac(14, 3)}, {[]int{1, 2, 3, 4, 5, 6, 7, 8}, []int{1, 2, 3, 4, 5, 6, 7, 8}, whole(8)}, {slices.Repeat([]int{30}, 8), slices.Repeat([]int{1}, 8), whole(240)},
		// Parts may be more than any room together: each of them is held to 1000 alone.
		{[]int{1, 1}, []int{1000, 1000}, frac(1, 500)}, {slices.Repeat([]int{30}, 8), slices.Repeat([]int{1000}, 8), frac(6, 25)}, {[]int{30, 1}, []int{1, 1000}, frac(30001, 1000)},
		// As fine as three parts can be, and four that still fit.
		{[]int{1, 1, 1}, []int{997, 991, 983}, frac(2942231, 971230541)}, {[]int{1, 1, 1, 1}, []int{997, 991, 983, 1}, frac(974172772, 971230541)}, {[]int{1, 1, 1}, []int{997, 991, 1000}, frac(2976027, 988027000)},
	} {
		if got, ok := impl.FluidCost(c.flow, c.shares); got != c.want || !ok {
			t.Errorf("FluidCost(%v, %v) = %v %v, not %v", c.flow, c.shares, got, ok, c.want)
		}
	}
}

func TestFluidCostHasToBeGoodOnTheWay(t *testing.T) {
	for _, c := range []struct {
		name         string
		flow, shares []int
	}{
		{"too fine", []int{1, 1, 1, 1}, []int{997, 991, 983, 2}},
		{"too fine from the fourth on", []int{1, 1, 1, 1, 1, 1, 1, 1}, []int{999, 997, 991, 983, 977, 971, 967, 953}},
		{"too great a numerator", []int{1, 1, 1, 2}, []int{997, 991, 983, 1}},
		{"too great a numerator, from the front", []int{30, 1, 1, 1}, []int{1, 997, 991, 983}},
		{"too fine on the way, good in the end", []int{1, 1, 1, 1, 6}, []int{997, 991, 983, 7, 7}},
	} {
		if got, ok := impl.FluidCost(c.flow, c.shares); got != (impl.Frac{}) || ok {
			t.Errorf("FluidCost(%v, %v), %s, = %v %v", c.flow, c.shares, c.name, got, ok)
		}
	}
	// The last one of these in another order, in which it is good on the way.
	if got, ok := impl.FluidCost([]int{1, 6, 1, 1, 1}, []int{7, 7, 997, 991, 983}); got != frac(974172772, 971230541) || !ok {
		t.Errorf("FluidCost of what is good on the way = %v %v", got, ok)
	}
}

func TestFluidCostOfManyParts(t *testing.T) {
	told, refused := 0, 0
	for i, flow := range greatFlows() {
		for j := range 60 {
			var shares []int
			for k := range flow {
				shares = append(shares, 1+(i*i*37+j*j*(k+3)*101+k*611)%(1+j*999/59))
			}
			want, wantOk := plainFluid(flow, shares)
			if got, ok := impl.FluidCost(flow, shares); got != want || ok != wantOk {
				t.Fatalf("FluidCost(%v, %v) = %v %v, not %v %v", flow, shares, got, ok, want, wantOk)
			}
			if wantOk {
				told++
			} else {
				refused++
			}
		}
	}
	if told < 1000 || refused < 1000 {
		t.Errorf("%d told and %d refused are no test", told, refused)
	}
}

func TestFluidCostIsAsCostOf(t *testing.T) {
	for _, flow := range greatFlows() {
		for places := len(flow); places <= 40; places++ {
			counts, _ := impl.ShareOut(flow, places)
			want, wantOk := impl.CostOf(flow, counts)
			if got, ok := impl.FluidCost(flow, counts); got != want || !ok || !wantOk {
				t.Errorf("FluidCost(%v, %v) = %v %v, not %v", flow, counts, got, ok, want)
			}
		}
	}
}

type parting struct {
	name   string
	ours   func(flow []int, room int) ([]int, bool)
	weight func(flow int) int
}

// plainRoot is the whole root of 10000 times a flow.
func plainRoot(flow int) int {
	return int(new(big.Int).Sqrt(big.NewInt(int64(10000 * flow))).Int64())
}

var partings = []parting{
	{"EqualParts", impl.EqualParts, func(flow int) int { return 1 }},
	{"TimeParts", impl.TimeParts, func(flow int) int { return flow }},
	{"RootParts", impl.RootParts, plainRoot},
}

func TestPartsByHand(t *testing.T) {
	lone := []int{30, 1, 1, 1, 1, 1, 1, 1}
	cases := []struct {
		flow              []int
		room              int
		equal, time, root []int
	}{
		{[]int{4, 1}, 9, []int{4, 4}, []int{7, 1}, []int{6, 3}}, {[]int{1, 4}, 9, []int{4, 4}, []int{1, 7}, []int{3, 6}}, {[]int{4, 1}, 8, []int{4, 4}, []int{6, 1}, []int{5, 2}}, {[]int{4, 1}, 1000, []int{500, 500}, []int{800, 200}, []int{666, 333}},
		{[]int{1}, 8, []int{8}, []int{8}, []int{8}}, {[]int{30}, 1000, []int{1000}, []int{1000}, []int{1000}}, {[]int{7, 7, 7}, 10, []int{3, 3, 3}, []int{3, 3, 3}, []int{3, 3, 3}}, {[]int{25, 16, 9, 4, 1}, 15, []int{3, 3, 3, 3, 3}, []int{6, 4, 2, 1, 1}, []int{5, 4, 3, 2, 1}},
		// The root of 2 is told as 1.41; as 1.4 it would part 583 and 416.
		{[]int{2, 1}, 1000, []int{500, 500}, []int{666, 333}, []int{585, 414}}, {[]int{30, 1}, 1000, []int{500, 500}, []int{967, 32}, []int{845, 154}},
		{slices.Repeat([]int{5}, 8), 8, slices.Repeat([]int{1}, 8), slices.Repeat([]int{1}, 8), slices.Repeat([]int{1}, 8)}, {slices.Repeat([]int{5}, 8), 15, slices.Repeat([]int{1}, 8), slices.Repeat([]int{1}, 8), slices.Repeat([]int{1}, 8)}, {slices.Repeat([]int{5}, 8), 16, slices.Repeat([]int{2}, 8), slices.Repeat([]int{2}, 8), slices.Repeat([]int{2}, 8)}, {slices.Repeat([]int{30}, 8), 1000, slices.Repeat([]int{125}, 8), slices.Repeat([]int{125}, 8), slices.Repeat([]int{125}, 8)},
		// Where nothing would be left a part is raised to 1, even if all are more than the room then.
		{lone, 8, slices.Repeat([]int{1}, 8), []int{6, 1, 1, 1, 1, 1, 1, 1}, []int{3, 1, 1, 1, 1, 1, 1, 1}}, {lone, 12, slices.Repeat([]int{1}, 8), []int{9, 1, 1, 1, 1, 1, 1, 1}, []int{5, 1, 1, 1, 1, 1, 1, 1}},
		{[]int{1, 30}, 8, []int{4, 4}, []int{1, 7}, []int{1, 6}}, {[]int{1, 30, 30}, 8, []int{2, 2, 2}, []int{1, 3, 3}, []int{1, 3, 3}}, {[]int{30, 1, 30, 30}, 8, []int{2, 2, 2, 2}, []int{2, 1, 2, 2}, []int{2, 1, 2, 2}},
	}
	for _, c := range cases {
		for i, want := range [][]int{c.equal, c.time, c.root} {
			if got, ok := partings[i].ours(c.flow, c.room); !slices.Equal(got, want) || !ok {
				t.Errorf("%s(%v, %d) = %v %v, not %v", partings[i].name, c.flow, c.room, got, ok, want)
			}
		}
	}
}

// isPartOf tells whether a part is the room times its weight divided by all of them, down, 1 at least.
func isPartOf(part int, room int, weight int, all int) bool {
	if room*weight < all {
		return part == 1
	}
	return part*all <= room*weight && room*weight < (part+1)*all
}

// isParted asks whether parts are as the document says them; it tells whether one was raised to 1.
func isParted(t *testing.T, p parting, flow []int, room int) bool {
	got, ok := p.ours(flow, room)
	if !ok || len(got) != len(flow) {
		t.Fatalf("%s(%v, %d) = %v %v", p.name, flow, room, got, ok)
	}
	all, raised := 0, false
	for _, f := range flow {
		all += p.weight(f)
	}
	for i, f := range flow {
		if got[i] < 1 || !isPartOf(got[i], room, p.weight(f), all) {
			t.Fatalf("%s(%v, %d) = %v: wrong at %d", p.name, flow, room, got, i)
		}
		raised = raised || room*p.weight(f) < all
	}
	if !raised && plainTotal(got) > room {
		t.Fatalf("%s(%v, %d) = %v are more than the room", p.name, flow, room, got)
	}
	return raised
}

func TestPartsAreAsSaid(t *testing.T) {
	for _, p := range partings {
		raised, other := 0, 0
		count := func(flow []int, room int) {
			if isParted(t, p, flow, room) {
				raised++
			} else {
				other++
			}
		}
		for _, flow := range greatFlows() {
			for room := 8; room <= 1000; room++ {
				count(flow, room)
			}
		}
		for _, flow := range smallFlows() {
			for room := 8; room <= 1000; room += 31 {
				count(flow, room)
			}
		}
		if other == 0 || (raised == 0) != (p.name == "EqualParts") {
			t.Errorf("%s: %d raised and %d others", p.name, raised, other)
		}
	}
}

func TestPartsOfEachFlow(t *testing.T) {
	for _, p := range partings {
		for a := 1; a <= 30; a++ {
			for b := 1; b <= 30; b++ {
				for _, room := range []int{8, 9, 60, 61, 997, 999, 1000} {
					isParted(t, p, []int{a, b}, room)
				}
			}
		}
	}
}

// plainLeast says what the document says, by fractions that have no bounds.
func plainLeast(flow []int, room int, fine int) impl.Bounds {
	var lo, hi int64
	for _, f := range flow {
		square := big.NewInt(int64(f * fine * fine))
		root := new(big.Int).Sqrt(square)
		lo += root.Int64()
		hi += root.Int64()
		if new(big.Int).Mul(root, root).Cmp(square) != 0 {
			hi++
		}
	}
	over := int64(fine * fine * room)
	least, _ := answerOf(big.NewRat(lo*lo, over))
	greatest, _ := answerOf(big.NewRat(hi*hi, over))
	return bounds(least, greatest)
}

func TestLeastCostByHand(t *testing.T) {
	for _, c := range []struct {
		flow       []int
		room, fine int
		want       impl.Bounds
	}{
		// Whole roots are told as they are, however fine.
		{[]int{4, 1}, 9, 1, bounds(whole(1), whole(1))}, {[]int{4, 1}, 9, 100, bounds(whole(1), whole(1))}, {[]int{4, 1}, 8, 7, bounds(frac(9, 8), frac(9, 8))}, {[]int{1}, 8, 1, bounds(frac(1, 8), frac(1, 8))}, {[]int{1}, 1000, 100, bounds(frac(1, 1000), frac(1, 1000))}, {[]int{25, 16, 9, 4, 1}, 15, 3, bounds(whole(15), whole(15))}, {slices.Repeat([]int{25}, 8), 8, 100, bounds(whole(200), whole(200))},
		{[]int{2}, 8, 1, bounds(frac(1, 8), frac(1, 2))}, {[]int{2}, 8, 10, bounds(frac(49, 200), frac(9, 32))}, {[]int{2}, 8, 100, bounds(frac(19881, 80000), frac(5041, 20000))}, {[]int{2}, 1000, 100, bounds(frac(19881, 10000000), frac(5041, 2500000))}, {[]int{2, 2}, 10, 10, bounds(frac(98, 125), frac(9, 10))}, {[]int{2, 3}, 10, 10, bounds(frac(961, 1000), frac(1089, 1000))}, {[]int{4, 2}, 8, 1, bounds(frac(9, 8), whole(2))},
		{[]int{30}, 8, 1, bounds(frac(25, 8), frac(9, 2))}, {[]int{3, 5, 7}, 997, 100, bounds(frac(1089, 24925), frac(439569, 9970000))}, {slices.Repeat([]int{30}, 8), 8, 1, bounds(whole(200), whole(288))}, {slices.Repeat([]int{30}, 8), 1000, 100, bounds(frac(299209, 156250), frac(150152, 78125))}, {slices.Repeat([]int{29}, 8), 997, 97, bounds(frac(17438976, 9380773), frac(17505856, 9380773))},
	} {
		if got, ok := impl.LeastCost(c.flow, c.room, c.fine); got != c.want || !ok {
			t.Errorf("LeastCost(%v, %d, %d) = %v %v, not %v", c.flow, c.room, c.fine, got, ok, c.want)
		}
	}
}

func TestLeastCostIsAsSaid(t *testing.T) {
	for i, flow := range append(greatFlows(), smallFlows()...) {
		for fine := 1; fine <= 100; fine++ {
			for _, room := range []int{8, 9, 36, 997, 1000, 8 + (i*53+fine*17)%993} {
				got, ok := impl.LeastCost(flow, room, fine)
				if got != plainLeast(flow, room, fine) || !ok || !impl.GoodBounds(got) {
					t.Fatalf("LeastCost(%v, %d, %d) = %v %v, not %v", flow, room, fine, got, ok, plainLeast(flow, room, fine))
				}
			}
		}
	}
}

func TestLeastCostOfEachRoom(t *testing.T) {
	for _, flow := range [][]int{{1}, {2}, {30}, {4, 1}, {29, 2, 15}, {1, 2, 3, 4, 5, 6, 7, 8}, slices.Repeat([]int{30}, 8)} {
		for room := 8; room <= 1000; room++ {
			for _, fine := range []int{1, 2, 97, 99, 100} {
				if got, ok := impl.LeastCost(flow, room, fine); got != plainLeast(flow, room, fine) || !ok {
					t.Fatalf("LeastCost(%v, %d, %d) = %v %v, not %v", flow, room, fine, got, ok, plainLeast(flow, room, fine))
				}
			}
		}
	}
}

func TestLeastCostIsAlwaysGood(t *testing.T) {
	// A root has at most 548 parts of a hundred, so eight of them squared are far below MaxPart, and so are 100 times 100 times a room of 1000: no flow, room and fine as said lead beyond chapter 1, there is nothing to refuse.
	greatest := 0
	for flow := 1; flow <= 30; flow++ {
		for fine := 1; fine <= 100; fine++ {
			b, ok := impl.RootBounds(flow, fine)
			if !ok || fine%b.Lo.Den != 0 || fine%b.Hi.Den != 0 {
				t.Fatalf("RootBounds(%d, %d) = %v %v", flow, fine, b, ok)
			}
			greatest = max(greatest, b.Hi.Num*(fine/b.Hi.Den))
		}
	}
	if greatest != 548 || 8*greatest*8*greatest > most || 100*100*1000 > most {
		t.Errorf("a root has up to %d parts", greatest)
	}
}

func TestLeastCostIsExactJustOfWholeRoots(t *testing.T) {
	squares := []int{1, 4, 9, 16, 25}
	for _, flow := range append(greatFlows(), everyList(squares, 3)[1:]...) {
		want := !slices.ContainsFunc(flow, func(f int) bool { return !slices.Contains(squares, f) })
		for _, fine := range []int{1, 2, 3, 10, 99, 100} {
			if b, ok := impl.LeastCost(flow, 50, fine); (b.Lo == b.Hi) != want || !ok {
				t.Errorf("LeastCost(%v, 50, %d) = %v %v", flow, fine, b, ok)
			}
		}
	}
}

// liesWithin tells whether bounds are not beyond others.
func liesWithin(b impl.Bounds, other impl.Bounds) bool {
	return ratOf(b.Lo).Cmp(ratOf(other.Lo)) >= 0 && ratOf(b.Hi).Cmp(ratOf(other.Hi)) <= 0
}

func TestLeastCostOfAMultipleLiesWithin(t *testing.T) {
	for _, flow := range append(greatFlows(), smallFlows()...) {
		for fine := 1; fine <= 50; fine++ {
			coarse, ok := impl.LeastCost(flow, 60, fine)
			for multiple := fine; multiple <= 100; multiple += fine {
				finer, finerOk := impl.LeastCost(flow, 60, multiple)
				if !liesWithin(finer, coarse) || !ok || !finerOk {
					t.Fatalf("LeastCost of %v with %d is %v, beyond %v with %d", flow, multiple, finer, coarse, fine)
				}
			}
		}
	}
}

func TestPromise5BoundsAreAboutTheSumOfRootsSquared(t *testing.T) {
	exact := newRootSums()
	for _, flow := range greatFlows() {
		square := exact.of(flow)
		square.Mul(square, square)
		for _, room := range []int{8, 100, 1000} {
			least := new(big.Float).Quo(square, new(big.Float).SetPrec(200).SetInt64(int64(room)))
			for _, fine := range []int{1, 7, 100} {
				b, ok := impl.LeastCost(flow, room, fine)
				lo := new(big.Float).SetPrec(200).SetRat(ratOf(b.Lo))
				hi := new(big.Float).SetPrec(200).SetRat(ratOf(b.Hi))
				// Of whole roots both bounds are what is asked, but for how a float is rounded: that they are is asked elsewhere.
				if !ok || b.Lo != b.Hi && (lo.Cmp(least) >= 0 || hi.Cmp(least) <= 0) {
					t.Errorf("LeastCost(%v, %d, %d) = %v %v are not about %v", flow, room, fine, b, ok, least)
				}
			}
		}
	}
}

// costsLess asks whether a parting costs less than LeastCost's Lo.
func costsLess(t *testing.T, flow []int, shares []int, least impl.Bounds) bool {
	cost, ok := impl.FluidCost(flow, shares)
	less, lessOk := impl.LessFrac(cost, least.Lo)
	if !ok || !lessOk {
		t.Fatalf("FluidCost(%v, %v) = %v %v, held against %v", flow, shares, cost, ok, least)
	}
	return less
}

// noneCostsLess asks for promise 5 over all partings of a room, also those that leave some of it.
func noneCostsLess(t *testing.T, flow []int, room int) {
	for _, fine := range []int{1, 10, 100} {
		least, ok := impl.LeastCost(flow, room, fine)
		if !ok {
			t.Fatalf("LeastCost(%v, %d, %d) tells false", flow, room, fine)
		}
		for used := len(flow); used <= room; used++ {
			for _, shares := range everyCounts(len(flow), used) {
				if costsLess(t, flow, shares, least) {
					t.Fatalf("of %v the parts %v cost less than %v of a room of %d", flow, shares, least, room)
				}
			}
		}
	}
}

func TestPromise5NoPartingOfASmallRoomCostsLess(t *testing.T) {
	for _, flow := range smallFlows() {
		for room := 8; room <= 10; room++ {
			noneCostsLess(t, flow, room)
		}
	}
	for _, flow := range greatFlows()[:40] {
		for room := 8; room <= 11; room++ {
			noneCostsLess(t, flow, room)
		}
	}
}

func TestPromise5NoPartingOfAGreatRoomCostsLess(t *testing.T) {
	told := 0
	for i, flow := range greatFlows() {
		for room := 8; room <= 1000; room += 1 + (room+i)%7 {
			least, _ := impl.LeastCost(flow, room, 100)
			for _, p := range partings {
				shares, _ := p.ours(flow, room)
				cost, ok := impl.FluidCost(flow, shares)
				if !ok || plainTotal(shares) > room {
					continue
				}
				told++
				if less, lessOk := impl.LessFrac(cost, least.Lo); less || !lessOk {
					t.Fatalf("%s(%v, %d) = %v cost %v, less than %v", p.name, flow, room, shares, cost, least)
				}
			}
		}
	}
	if told < 10000 {
		t.Errorf("only %d partings were told", told)
	}
}

func TestPromise5WholeRootsCostJustTheLeast(t *testing.T) {
	// Where the parts stand to each other just as the roots no parting is better, and none of the bounds is beyond.
	for _, flow := range everyList([]int{1, 4, 9, 16, 25}, 4)[1:] {
		roots := 0
		for _, f := range flow {
			roots += plainRoot(f) / 100
		}
		for room := roots; room <= 100; room += roots {
			if room < 8 {
				continue
			}
			shares, _ := impl.RootParts(flow, room)
			cost, ok := impl.FluidCost(flow, shares)
			least, leastOk := impl.LeastCost(flow, room, 1)
			if !ok || !leastOk || least != bounds(cost, cost) || cost != fracOf(t, roots*roots, room) {
				t.Fatalf("RootParts(%v, %d) = %v cost %v %v, and the least is %v %v", flow, room, shares, cost, ok, least, leastOk)
			}
			if within, ok := impl.IsWithin(cost, least); !within || !ok {
				t.Errorf("IsWithin(%v, %v) = %v %v", cost, least, within, ok)
			}
		}
	}
}

func fracOf(t *testing.T, num int, den int) impl.Frac {
	a, ok := answerOf(big.NewRat(int64(num), int64(den)))
	if !ok {
		t.Fatalf("%d/%d is beyond", num, den)
	}
	return a
}

func TestIsWithinByHand(t *testing.T) {
	about := bounds(frac(7, 5), frac(3, 2))
	point := bounds(frac(3, 2), frac(3, 2))
	fine := bounds(frac(most-2, most-1), frac(most-1, most))
	for _, c := range []struct {
		cost impl.Frac
		b    impl.Bounds
		want bool
	}{
		{frac(7, 5), about, true}, {frac(3, 2), about, true}, {frac(10, 7), about, true}, {frac(29, 20), about, true}, {frac(139, 100), about, false}, {frac(151, 100), about, false}, {whole(0), about, false}, {whole(-1), about, false}, {frac(-29, 20), about, false}, {whole(most), about, false}, {whole(-most), about, false}, {frac(699999999, 500000000), about, false}, {frac(750000001, 500000000), about, false},
		{frac(3, 2), point, true}, {frac(7, 5), point, false}, {frac(8, 5), point, false}, {frac(-3, 2), point, false},
		{whole(0), bounds(whole(0), whole(0)), true}, {frac(1, most), bounds(whole(0), whole(0)), false}, {frac(-1, most), bounds(whole(0), whole(0)), false}, {frac(1, 2), bounds(whole(0), whole(most)), true}, {whole(most), bounds(whole(0), whole(most)), true}, {whole(0), bounds(whole(0), whole(most)), true}, {whole(-1), bounds(whole(0), whole(most)), false},
		{fine.Lo, fine, true}, {fine.Hi, fine, true}, {whole(1), fine, false}, {frac(most-3, most-2), fine, false},
	} {
		if got, ok := impl.IsWithin(c.cost, c.b); got != c.want || !ok {
			t.Errorf("IsWithin(%v, %v) = %v %v, not %v", c.cost, c.b, got, ok, c.want)
		}
	}
}

func TestIsWithinOfEachFrac(t *testing.T) {
	good := goodFracs()
	seen := map[bool]int{}
	for _, lo := range good {
		for _, hi := range good {
			b := bounds(lo, hi)
			if !impl.GoodBounds(b) {
				continue
			}
			for _, cost := range good {
				want := ratOf(cost).Cmp(ratOf(lo)) >= 0 && ratOf(cost).Cmp(ratOf(hi)) <= 0
				seen[want]++
				if got, ok := impl.IsWithin(cost, b); got != want || !ok {
					t.Fatalf("IsWithin(%v, %v) = %v %v, not %v", cost, b, got, ok, want)
				}
			}
		}
	}
	if seen[true] < 1000 || seen[false] < 1000 {
		t.Errorf("%v are no test", seen)
	}
}

func TestIsWithinOfTheLeastCost(t *testing.T) {
	step := big.NewRat(1, 1000)
	for _, flow := range [][]int{{2}, {30}, {2, 3}, {7, 1, 30}, {1, 2, 3, 5, 6, 7, 8, 10}} {
		b, ok := impl.LeastCost(flow, 20, 10)
		if !ok {
			t.Fatal(flow)
		}
		lo, hi := ratOf(b.Lo), ratOf(b.Hi)
		half := new(big.Rat).Mul(new(big.Rat).Add(lo, hi), big.NewRat(1, 2))
		for _, c := range []struct {
			cost *big.Rat
			want bool
		}{
			{lo, true}, {hi, true}, {half, true}, {new(big.Rat).Add(lo, step), true}, {new(big.Rat).Sub(hi, step), true}, {new(big.Rat).Sub(lo, step), false}, {new(big.Rat).Add(hi, step), false},
		} {
			cost, costOk := answerOf(c.cost)
			if got, ok := impl.IsWithin(cost, b); got != c.want || !ok || !costOk {
				t.Errorf("IsWithin(%v, %v) = %v %v, not %v", cost, b, got, ok, c.want)
			}
		}
	}
}

// isRefusedRoom asks whether each function of flow and room gives the zero answer and false.
func isRefusedRoom(t *testing.T, flow []int, room int) {
	for _, p := range partings {
		if got, ok := p.ours(flow, room); len(got) != 0 || ok {
			t.Errorf("%s(%v, %d) = %v %v", p.name, flow, room, got, ok)
		}
	}
	for _, fine := range append([]int{0, 1, 10, 100, 101}, endInts...) {
		isRefusedLeast(t, flow, room, fine)
	}
}

func isRefusedLeast(t *testing.T, flow []int, room int, fine int) {
	if got, ok := impl.LeastCost(flow, room, fine); got != (impl.Bounds{}) || ok {
		t.Errorf("LeastCost(%v, %d, %d) = %v %v", flow, room, fine, got, ok)
	}
}

func isRefusedFluid(t *testing.T, flow []int, shares []int) {
	if got, ok := impl.FluidCost(flow, shares); got != (impl.Frac{}) || ok {
		t.Errorf("FluidCost(%v, %v) = %v %v", flow, shares, got, ok)
	}
}

func TestPromise19NoWrongFlowIsParted(t *testing.T) {
	for _, flow := range wrongFlows() {
		for _, shares := range [][]int{nil, {1}, slices.Repeat([]int{1}, len(flow)), slices.Repeat([]int{1000}, len(flow)), flow} {
			isRefusedFluid(t, flow, shares)
		}
		for _, room := range append([]int{0, 7, 8, 9, 40, 1000, 1001}, endInts...) {
			isRefusedRoom(t, flow, room)
		}
	}
}

func TestPromise19NoWrongRoomIsParted(t *testing.T) {
	for _, flow := range greatFlows() {
		for _, room := range append([]int{0, 1, len(flow) - 1, 7, 1001, 1002, -8, -1000}, endInts...) {
			isRefusedRoom(t, flow, room)
		}
		for _, room := range []int{8, 9, 999, 1000} {
			for _, p := range partings {
				if got, ok := p.ours(flow, room); len(got) != len(flow) || !ok {
					t.Errorf("%s(%v, %d) = %v %v", p.name, flow, room, got, ok)
				}
			}
		}
	}
}

func TestPromise19NoWrongFineIsTaken(t *testing.T) {
	for _, flow := range greatFlows() {
		for _, room := range []int{8, 100, 1000} {
			for _, fine := range append([]int{0, 101, 102, 1000, -100}, endInts...) {
				isRefusedLeast(t, flow, room, fine)
			}
			for _, fine := range []int{1, 2, 99, 100} {
				if got, ok := impl.LeastCost(flow, room, fine); got != plainLeast(flow, room, fine) || !ok {
					t.Errorf("LeastCost(%v, %d, %d) = %v %v", flow, room, fine, got, ok)
				}
			}
		}
	}
}

// wrongShares are not as many as so many kinds, or one of them is no part.
func wrongShares(kinds int) [][]int {
	tens := func(many int) []int { return slices.Repeat([]int{10}, many) }
	l := [][]int{nil, tens(kinds - 1), tens(kinds + 1), tens(kinds + 100), make([]int, kinds), slices.Repeat([]int{1001}, kinds)}
	for _, n := range append([]int{0, 1001, 1002, -10, -1000}, endInts...) {
		l = append(l, append(tens(kinds-1), n), append([]int{n}, tens(kinds-1)...), slices.Repeat([]int{n}, kinds))
		if kinds >= 3 {
			l = append(l, append(append(tens(kinds-2), n), 10))
		}
	}
	return l
}

func TestPromise19NoWrongPartsAreCosted(t *testing.T) {
	for kinds := 1; kinds <= 8; kinds++ {
		flow := slices.Repeat([]int{6, 30, 1, 7}, 2)[:kinds]
		for _, shares := range wrongShares(kinds) {
			isRefusedFluid(t, flow, shares)
		}
		for _, part := range []int{1, 1000} {
			shares := slices.Repeat([]int{part}, kinds)
			if got, ok := impl.FluidCost(flow, shares); got != fracOf(t, plainTotal(flow), part) || !ok {
				t.Errorf("FluidCost(%v, %v) = %v %v", flow, shares, got, ok)
			}
		}
	}
}

func TestPromise19NoWrongCostOrBoundsAreHeld(t *testing.T) {
	about := []impl.Bounds{bounds(frac(7, 5), frac(3, 2)), bounds(whole(0), whole(0)), bounds(whole(0), whole(most)), bounds(frac(1, 2), frac(1, 2))}
	wrong := 0
	for _, cost := range everyFrac() {
		if !plainlyGood(cost) {
			wrong++
			for _, b := range about {
				if got, ok := impl.IsWithin(cost, b); got || ok {
					t.Errorf("IsWithin(%v, %v) = %v %v", cost, b, got, ok)
				}
			}
		}
		for _, b := range wrongBounds {
			if got, ok := impl.IsWithin(cost, b); got || ok {
				t.Errorf("IsWithin(%v, %v) = %v %v", cost, b, got, ok)
			}
		}
	}
	if wrong == 0 {
		t.Error("no wrong cost was tried")
	}
}

func TestPromise19PartsShareNothing(t *testing.T) {
	// The flow is like all of its parts, so that handing it out would not be seen by what it holds.
	flow := []int{4, 4, 4}
	lists := [][]int{flow}
	for _, p := range partings {
		for range 2 {
			got, ok := p.ours(flow, 12)
			if !slices.Equal(got, []int{4, 4, 4}) || !ok {
				t.Fatalf("%s(%v, 12) = %v %v", p.name, flow, got, ok)
			}
			lists = append(lists, got)
		}
	}
	shareNone(t, "chapter 5", lists...)
	for _, p := range partings {
		if got, ok := p.ours([]int{4, 4, 4}, 12); !slices.Equal(got, []int{4, 4, 4}) || !ok {
			t.Errorf("%s = %v %v behind a write into earlier answers", p.name, got, ok)
		}
	}
}

// roomHangsOn tells whether a function of flow and room answers otherwise for a cut flow than for a plain one.
func roomHangsOn(flow []int, cutFlow []int, room int) bool {
	flow = slices.Clone(flow)
	for _, p := range partings {
		got, ok := p.ours(flow, room)
		cut, cutOk := p.ours(cutFlow, room)
		if !slices.Equal(got, cut) || ok != cutOk {
			return true
		}
	}
	for _, fine := range []int{0, 1, 10, 100, 101} {
		got, ok := impl.LeastCost(flow, room, fine)
		cut, cutOk := impl.LeastCost(cutFlow, room, fine)
		if got != cut || ok != cutOk {
			return true
		}
	}
	return false
}

func TestPromise19NoFlowOrPartsAreWritten(t *testing.T) {
	for _, flow := range append(wrongFlows(), greatFlows()...) {
		for _, behind := range []int{-1, 1, 31, 1001} {
			cutFlow := cutList(flow, behind)
			for _, shares := range [][]int{nil, {1}, slices.Repeat([]int{1}, len(flow)), slices.Repeat([]int{997}, len(flow)), countUp(len(flow) + 1)[1:], slices.Repeat([]int{1}, len(flow)+1), make([]int, len(flow))} {
				cutShares := cutList(shares, behind)
				want, wantOk := impl.FluidCost(slices.Clone(flow), slices.Clone(shares))
				if got, ok := impl.FluidCost(cutFlow, cutShares); got != want || ok != wantOk {
					t.Errorf("FluidCost of %v and %v hangs on what lies behind them", flow, shares)
				}
				if !slices.Equal(cutShares[:len(shares)+2], append(slices.Clone(shares), behind, behind)) {
					t.Errorf("%v was made of %v", cutShares[:len(shares)+2], shares)
				}
			}
			for _, room := range []int{math.MinInt, 0, 7, 8, 13, 1000, 1001} {
				if roomHangsOn(flow, cutFlow, room) {
					t.Errorf("%v and a room of %d hang on what lies behind", flow, room)
				}
			}
			if !slices.Equal(cutFlow[:len(flow)+2], append(slices.Clone(flow), behind, behind)) {
				t.Errorf("%v was made of %v", cutFlow[:len(flow)+2], flow)
			}
		}
	}
}
