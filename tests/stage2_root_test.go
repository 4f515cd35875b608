package tests

import (
	"cmp"
	"math"
	"math/big"
	"slices"
	"testing"

	"loop.example/g00451/impl"
)

const greatest = impl.MaxSquare

// beyondSquares are numbers that no function of chapter 2 takes for n.
var beyondSquares = []int{math.MinInt, math.MinInt + 1, -greatest, -1 << 32, -2, -1, greatest + 1, greatest + 2, 1 << 42, 1 << 62, math.MaxInt - 1, math.MaxInt}

// squaresAndNeighbours has small numbers, and whole squares up to the greatest one with those just below and above.
func squaresAndNeighbours() []int {
	var l []int
	for n := range 3000 {
		l = append(l, n)
	}
	for root := 55; root <= 1000000; root += 1 + root/97 {
		l = append(l, root*root-1, root*root, root*root+1, root*root+root, root*root+2*root)
	}
	l = append(l, greatest-2000000, greatest-1999999, greatest-1999998, greatest-1, greatest)
	return slices.DeleteFunc(l, func(n int) bool { return n > greatest })
}

func bounds(lo impl.Frac, hi impl.Frac) impl.Bounds {
	return impl.Bounds{Lo: lo, Hi: hi}
}

func whole(n int) impl.Frac {
	return frac(n, 1)
}

func TestPromise2RootOf(t *testing.T) {
	for _, n := range squaresAndNeighbours() {
		r, ok := impl.RootOf(n)
		if !ok || r < 0 || r*r > n || (r+1)*(r+1) <= n {
			t.Errorf("RootOf(%d) = %d %v", n, r, ok)
		}
	}
}

func TestRootOfByHand(t *testing.T) {
	for _, c := range [][2]int{
		{0, 0}, {1, 1}, {2, 1}, {3, 1}, {4, 2}, {8, 2}, {9, 3}, {50, 7}, {99, 9}, {100, 10}, {999999, 999}, {1000000, 1000},
		{999998000000, 999998}, {999998000001, 999999}, {greatest - 1, 999999}, {greatest, 1000000},
	} {
		if r, ok := impl.RootOf(c[0]); r != c[1] || !ok {
			t.Errorf("RootOf(%d) = %d %v, not %d", c[0], r, ok, c[1])
		}
	}
}

func TestIsSquare(t *testing.T) {
	for _, n := range squaresAndNeighbours() {
		root := new(big.Int).Sqrt(big.NewInt(int64(n)))
		want := root.Mul(root, root).Cmp(big.NewInt(int64(n))) == 0
		if got, ok := impl.IsSquare(n); got != want || !ok {
			t.Errorf("IsSquare(%d) = %v %v, not %v", n, got, ok, want)
		}
	}
	for _, n := range []int{0, 1, 4, 49, 999998000001, greatest} {
		if got, ok := impl.IsSquare(n); !got || !ok {
			t.Errorf("IsSquare(%d) = %v %v", n, got, ok)
		}
	}
	for _, n := range []int{2, 3, 5, 48, 50, 999998000000, 999998000002, greatest - 1} {
		if got, ok := impl.IsSquare(n); got || !ok {
			t.Errorf("IsSquare(%d) = %v %v", n, got, ok)
		}
	}
}

func TestPromise2HeronStepsComeDown(t *testing.T) {
	for _, n := range squaresAndNeighbours() {
		if n == 0 {
			continue
		}
		l, ok := impl.HeronSteps(n)
		if !ok || len(l) == 0 || l[0] != n {
			t.Errorf("HeronSteps(%d) = %v %v", n, l, ok)
			continue
		}
		for i, x := range l[1:] {
			if x >= l[i] || x != (l[i]+n/l[i])/2 {
				t.Errorf("HeronSteps(%d) = %v: %d behind %d", n, l, x, l[i])
			}
		}
		if root, _ := impl.RootOf(n); l[len(l)-1] != root {
			t.Errorf("HeronSteps(%d) ends with %d, not with the root %d", n, l[len(l)-1], root)
		}
	}
}

func TestHeronStepsByHand(t *testing.T) {
	for _, want := range [][]int{
		{1}, {2, 1}, {3, 2, 1}, {4, 2}, {5, 3, 2}, {8, 4, 3, 2}, {9, 5, 3}, {15, 8, 4, 3}, {16, 8, 5, 4}, {50, 25, 13, 8, 7}, {100, 50, 26, 14, 10},
		{1000000, 500000, 250001, 125002, 62504, 31259, 15645, 7854, 3990, 2120, 1295, 1033, 1000},
		{
			greatest, 500000000000, 250000000001, 125000000002, 62500000004, 31250000009, 15625000020, 7812500041, 3906250084, 1953125169,
			976562840, 488281931, 244141989, 122073042, 61040616, 30528499, 15280627, 7673034, 3901680, 2078989, 1279996, 1030624, 1000454, 1000000,
		},
	} {
		if got, ok := impl.HeronSteps(want[0]); !slices.Equal(got, want) || !ok {
			t.Errorf("HeronSteps(%d) = %v %v, not %v", want[0], got, ok, want)
		}
	}
	if l, _ := impl.HeronSteps(greatest); len(l) <= impl.MaxSteps {
		t.Errorf("HeronSteps(%d) has only %d steps, though MaxSteps bounds nothing", greatest, len(l))
	}
}

func TestHeronStepsAreNewEachTime(t *testing.T) {
	first, _ := impl.HeronSteps(50)
	first[0], first[4] = 0, 0
	if again, ok := impl.HeronSteps(50); !slices.Equal(again, []int{50, 25, 13, 8, 7}) || !ok {
		t.Errorf("HeronSteps(50) = %v %v behind a write into an earlier answer", again, ok)
	}
}

// rootWithin asks whether Lo and Hi are one part apart about the root, or both of them the root.
func rootWithin(t *testing.T, n int, part int, b impl.Bounds) {
	if !impl.GoodBounds(b) || !plainlyGood(b.Lo) || !plainlyGood(b.Hi) {
		t.Errorf("RootBounds(%d, %d) = %v are not good", n, part, b)
		return
	}
	lo, hi, number := ratOf(b.Lo), ratOf(b.Hi), big.NewRat(int64(n), 1)
	if part%b.Lo.Den != 0 || part%b.Hi.Den != 0 {
		t.Errorf("RootBounds(%d, %d) = %v are no such parts", n, part, b)
	}
	below := new(big.Rat).Mul(lo, lo).Cmp(number)
	if below == 0 && b.Lo != b.Hi {
		t.Errorf("RootBounds(%d, %d) = %v: Lo is the root, Hi is not", n, part, b)
	}
	if below == 0 {
		return
	}
	apart := new(big.Rat).Sub(hi, lo)
	if below > 0 || new(big.Rat).Mul(hi, hi).Cmp(number) <= 0 || apart.Cmp(big.NewRat(1, int64(part))) != 0 {
		t.Errorf("RootBounds(%d, %d) = %v", n, part, b)
	}
}

func TestPromise2RootBounds(t *testing.T) {
	told, refused := 0, 0
	for _, n := range squaresAndNeighbours() {
		for _, part := range []int{1, 2, 3, 7, 10, 12, 60, 99, 100, 360, 999, 1000} {
			b, ok := impl.RootBounds(n, part)
			fits := n*part*part <= greatest
			if ok != fits || !ok && b != (impl.Bounds{}) {
				t.Errorf("RootBounds(%d, %d) = %v %v", n, part, b, ok)
			}
			if ok {
				told++
				rootWithin(t, n, part, b)
			} else {
				refused++
			}
		}
	}
	if told == 0 || refused == 0 {
		t.Errorf("%d told and %d refused are no test", told, refused)
	}
}

func TestRootBoundsByHand(t *testing.T) {
	cases := []struct {
		n, part int
		want    impl.Bounds
		ok      bool
	}{
		{0, 1, bounds(whole(0), whole(0)), true}, {0, 1000, bounds(whole(0), whole(0)), true}, {1, 1, bounds(whole(1), whole(1)), true},
		{2, 1, bounds(whole(1), whole(2)), true}, {2, 10, bounds(frac(7, 5), frac(3, 2)), true}, {2, 1000, bounds(frac(707, 500), frac(283, 200)), true},
		{3, 10, bounds(frac(17, 10), frac(9, 5)), true}, {8, 5, bounds(frac(14, 5), whole(3)), true},
		{49, 10, bounds(whole(7), whole(7)), true}, {49, 1000, bounds(whole(7), whole(7)), true}, {48, 2, bounds(frac(13, 2), whole(7)), true}, {50, 2, bounds(whole(7), frac(15, 2)), true},
		{greatest, 1, bounds(whole(1000000), whole(1000000)), true}, {greatest - 1, 1, bounds(whole(999999), whole(1000000)), true}, {greatest + 1, 1, impl.Bounds{}, false},
		{greatest, 2, impl.Bounds{}, false}, {greatest / 4, 2, bounds(whole(500000), whole(500000)), true}, {greatest/4 + 1, 2, impl.Bounds{}, false},
		{greatest / 9, 3, bounds(whole(333333), frac(1000000, 3)), true}, {greatest/9 + 1, 3, impl.Bounds{}, false},
		{1000000, 1000, bounds(whole(1000), whole(1000)), true}, {999999, 1000, bounds(frac(999999, 1000), whole(1000)), true}, {1000001, 1000, impl.Bounds{}, false}, {greatest, 1000, impl.Bounds{}, false},
		{2, 0, impl.Bounds{}, false}, {0, 0, impl.Bounds{}, false}, {2, 1001, impl.Bounds{}, false}, {0, 1001, impl.Bounds{}, false}, {2, -1, impl.Bounds{}, false}, {2, -10, impl.Bounds{}, false},
		{2, math.MaxInt, impl.Bounds{}, false}, {2, math.MinInt, impl.Bounds{}, false}, {0, 1 << 32, impl.Bounds{}, false},
	}
	for _, c := range cases {
		got, ok := impl.RootBounds(c.n, c.part)
		if got != c.want || ok != c.ok {
			t.Errorf("RootBounds(%d, %d) = %v %v, not %v %v", c.n, c.part, got, ok, c.want, c.ok)
		}
	}
}

func TestGoodBounds(t *testing.T) {
	for _, b := range []impl.Bounds{
		bounds(whole(0), whole(0)), bounds(whole(0), frac(1, most)), bounds(frac(7, 5), frac(3, 2)), bounds(frac(3, 2), frac(3, 2)), bounds(whole(0), whole(most)),
		bounds(whole(most), whole(most)), bounds(frac(1, most), frac(1, most-1)), bounds(frac(most-1, most), whole(1)), bounds(frac(most-2, most-1), frac(most-1, most)),
	} {
		if !impl.GoodBounds(b) {
			t.Errorf("GoodBounds(%v) = false", b)
		}
	}
	for _, b := range wrongBounds {
		if impl.GoodBounds(b) {
			t.Errorf("GoodBounds(%v) = true", b)
		}
	}
	good := 0
	for _, lo := range everyFrac() {
		for _, hi := range everyFrac() {
			want := plainlyGood(lo) && plainlyGood(hi) && lo.Num >= 0 && ratOf(lo).Cmp(ratOf(hi)) <= 0
			if want {
				good++
			}
			if got := impl.GoodBounds(bounds(lo, hi)); got != want {
				t.Errorf("GoodBounds(%v, %v) = %v", lo, hi, got)
			}
		}
	}
	if good == 0 {
		t.Error("no good bounds were tried")
	}
}

// wrongBounds have Lo above Hi, are below 0, or are made of a fraction that is not good.
var wrongBounds = []impl.Bounds{
	{}, bounds(frac(3, 2), frac(7, 5)), bounds(frac(1, most-1), frac(1, most)), bounds(whole(1), whole(0)), bounds(whole(most), whole(most-1)),
	bounds(whole(-1), whole(1)), bounds(whole(-1), whole(-1)), bounds(frac(-1, most), whole(0)), bounds(whole(0), whole(-1)), bounds(whole(-2), whole(-1)),
	bounds(frac(2, 4), whole(1)), bounds(whole(0), frac(2, 4)), bounds(frac(0, 2), whole(1)), bounds(whole(0), frac(1, 0)), bounds(frac(1, 0), whole(1)), bounds(frac(0, 0), whole(1)),
	bounds(whole(0), whole(most+1)), bounds(frac(1, most+1), whole(1)), bounds(whole(0), frac(1, -1)), bounds(frac(-1, -1), whole(1)),
	bounds(whole(math.MinInt), whole(math.MaxInt)), bounds(frac(1, math.MaxInt), frac(1, math.MinInt)), bounds(whole(0), frac(math.MinInt, math.MinInt)), bounds(whole(0), whole(math.MaxInt)),
}

func manyBounds(b impl.Bounds, many int) []impl.Bounds {
	return slices.Repeat([]impl.Bounds{b}, many)
}

// onBoth has each fraction as Lo and as Hi.
func onBoth(l ...impl.Frac) []impl.Bounds {
	var both []impl.Bounds
	for _, a := range l {
		both = append(both, bounds(a, a))
	}
	return both
}

func TestSumBounds(t *testing.T) {
	root := bounds(frac(7, 5), frac(3, 2))
	nought := bounds(whole(0), whole(0))
	cases := []struct {
		name string
		l    []impl.Bounds
		want impl.Bounds
		ok   bool
	}{
		{"nil", nil, nought, true},
		{"none", []impl.Bounds{}, nought, true},
		{"one", []impl.Bounds{root}, root, true},
		{"two", []impl.Bounds{root, root}, bounds(frac(14, 5), whole(3)), true},
		{"unlike ones", []impl.Bounds{root, bounds(frac(1, 3), frac(5, 6)), nought}, bounds(frac(26, 15), frac(7, 3)), true},
		{"20", manyBounds(root, 20), bounds(whole(28), whole(30)), true},
		{"21", manyBounds(root, 21), impl.Bounds{}, false},
		{"21 noughts", manyBounds(nought, 21), impl.Bounds{}, false},
		{"20 noughts", manyBounds(nought, 20), nought, true},
		{"20 of the finest", manyBounds(bounds(frac(1, most), frac(1, most)), 20), bounds(frac(1, most/20), frac(1, most/20)), true},
		{"as great as may be", []impl.Bounds{bounds(whole(1), whole(1)), bounds(whole(1), whole(most-1))}, bounds(whole(2), whole(most)), true},
		{"Hi too great", []impl.Bounds{bounds(whole(1), whole(1)), bounds(whole(1), whole(most))}, impl.Bounds{}, false},
		{"Lo too fine", []impl.Bounds{bounds(frac(1, most), whole(1)), bounds(frac(1, 3), whole(1))}, impl.Bounds{}, false},
		{"Hi too fine", []impl.Bounds{bounds(whole(0), frac(1, most)), bounds(whole(0), frac(1, 3))}, impl.Bounds{}, false},
		{"as fine as may be", onBoth(frac(1, 31623), frac(1, 31622)), bounds(frac(63245, 999982506), frac(63245, 999982506)), true},
		{"20 of the greatest", manyBounds(bounds(whole(0), whole(most)), 20), impl.Bounds{}, false},
		{"20 of great terms", manyBounds(bounds(whole(0), frac(most, most-1)), 20), impl.Bounds{}, false},
	}
	for _, c := range cases {
		if got, ok := impl.SumBounds(c.l); got != c.want || ok != c.ok {
			t.Errorf("SumBounds of %s = %v %v, not %v %v", c.name, got, ok, c.want, c.ok)
		}
	}
}

func TestSumBoundsNeedsOnlyTheSumsGood(t *testing.T) {
	// The document asks for good sums of Lo and of Hi, not, as of SumFracs, for good ones on the way.
	fine, finer := frac(1, most-63), frac(most-64, most-63)
	cases := []struct {
		l    []impl.Frac
		want impl.Frac
		ok   bool
	}{
		{[]impl.Frac{fine, frac(1, 2), frac(1, 2)}, frac(most-62, most-63), true},
		{[]impl.Frac{frac(1, 2), fine, frac(1, 2)}, frac(most-62, most-63), true},
		{[]impl.Frac{fine, frac(1, 3), finer}, frac(4, 3), true},
		{[]impl.Frac{fine, frac(1, 3), finer, frac(1, 7)}, frac(31, 21), true},
		{[]impl.Frac{fine, frac(1, 3), finer, fine}, impl.Frac{}, false},
		{[]impl.Frac{frac(1, most), frac(1, most-1), frac(most-2, most-1), frac(most-1, most)}, whole(2), true},
	}
	for _, c := range cases {
		want := impl.Bounds{}
		if c.ok {
			want = bounds(c.want, c.want)
		}
		if got, ok := impl.SumBounds(onBoth(c.l...)); got != want || ok != c.ok {
			t.Errorf("SumBounds of %v as Lo and Hi = %v %v, not %v %v", c.l, got, ok, want, c.ok)
		}
	}
	if _, ok := impl.SumFracs(cases[0].l); ok {
		t.Error("the sums on the way are good: that is no test")
	}
}

// plainSum says what the document says of good bounds, by numbers that have no bounds.
func plainSum(l []impl.Bounds) (impl.Bounds, bool) {
	lo, hi := new(big.Rat), new(big.Rat)
	for _, b := range l {
		lo.Add(lo, ratOf(b.Lo))
		hi.Add(hi, ratOf(b.Hi))
	}
	first, firstOk := answerOf(lo)
	last, lastOk := answerOf(hi)
	if !firstOk || !lastOk {
		return impl.Bounds{}, false
	}
	return bounds(first, last), true
}

func TestSumBoundsOfManyKinds(t *testing.T) {
	var good []impl.Bounds
	for _, a := range goodFracs() {
		if a.Num < 0 {
			continue
		}
		good = append(good, bounds(whole(0), a), bounds(a, whole(most)), bounds(a, a))
	}
	fits, beyond := 0, 0
	for i, a := range good {
		for j, b := range good {
			for _, l := range [][]impl.Bounds{{a, b}, {a, b, good[(i*7+j*5)%len(good)]}, append(manyBounds(a, 10), manyBounds(b, 10)...)} {
				want, wantOk := plainSum(l)
				if got, ok := impl.SumBounds(l); got != want || ok != wantOk {
					t.Fatalf("SumBounds(%v) = %v %v, not %v %v", l, got, ok, want, wantOk)
				}
				if wantOk {
					fits++
				} else {
					beyond++
				}
			}
		}
	}
	if fits == 0 || beyond == 0 {
		t.Errorf("%d sums that fit and %d that do not are no test", fits, beyond)
	}
}

func TestSumBoundsOf20UnlikeOnes(t *testing.T) {
	// One part of each den, and then the rest of each: the terms grow to some ninety digits on the way, and the sum is 1 for each den.
	var ones, rests, greater []impl.Frac
	for i := range 20 {
		den := most - 1 - i
		if i < 10 {
			ones = append(ones, frac(1, den))
			rests = append(rests, frac(den-1, den))
		}
		greater = append(greater, frac(den+1, den))
	}
	l := append(ones, rests...)
	if got, ok := impl.SumBounds(onBoth(l...)); got != bounds(whole(10), whole(10)) || !ok {
		t.Errorf("SumBounds(%v) = %v %v", l, got, ok)
	}
	if got, ok := impl.SumBounds(onBoth(greater...)); got != (impl.Bounds{}) || ok {
		t.Errorf("SumBounds(%v) = %v %v", greater, got, ok)
	}
}

func TestCompareRootsByHand(t *testing.T) {
	cases := []struct {
		a, b []int
		want int
	}{
		{[]int{2}, []int{3}, -1}, {[]int{3}, []int{3}, 0}, {[]int{4}, []int{3}, 1}, {[]int{0}, []int{0}, 0}, {[]int{0}, []int{1}, -1}, {[]int{1000}, []int{999}, 1}, {[]int{1000}, []int{1000}, 0},
		{[]int{5}, []int{2, 1}, -1}, {[]int{6}, []int{2, 1}, 1}, {[]int{2, 1}, []int{5}, 1}, {[]int{7}, []int{7, 0}, 0}, {[]int{0, 7}, []int{7}, 0}, {[]int{0, 0}, []int{0}, 0}, {[]int{0}, []int{0, 1}, -1},
		{[]int{2, 8}, []int{18}, 0}, {[]int{18}, []int{2, 8}, 0}, {[]int{2, 8}, []int{17}, 1}, {[]int{2, 8}, []int{19}, -1}, {[]int{8, 2}, []int{0, 18}, 0},
		{[]int{2, 18}, []int{8, 8}, 0}, {[]int{1, 25}, []int{9, 9}, 0}, {[]int{4, 9}, []int{25}, 0}, {[]int{1, 16}, []int{4, 9}, 0}, {[]int{3, 12}, []int{27}, 0}, {[]int{5, 605}, []int{125, 245}, 0},
		{[]int{2, 3}, []int{3, 2}, 0}, {[]int{2, 3}, []int{1, 4}, 1}, {[]int{1, 5}, []int{2, 4}, -1}, {[]int{1, 4}, []int{2, 3}, -1}, {[]int{2, 5}, []int{3, 4}, -1}, {[]int{3, 4}, []int{2, 5}, 1},
		{[]int{1000, 1000}, []int{1000, 999}, 1}, {[]int{250, 250}, []int{1000}, 0}, {[]int{250, 250}, []int{999}, 1}, {[]int{250, 249}, []int{1000}, -1}, {[]int{1000, 0}, []int{1000, 1000}, -1},
		{[]int{1000, 1000}, []int{0, 0}, 1}, {[]int{0}, []int{1000, 1000}, -1},
	}
	for _, c := range cases {
		if got, ok := impl.CompareRoots(c.a, c.b); got != c.want || !ok {
			t.Errorf("CompareRoots(%v, %v) = %d %v, not %d", c.a, c.b, got, ok, c.want)
		}
		if got, ok := impl.CompareRoots(c.b, c.a); got != -c.want || !ok {
			t.Errorf("CompareRoots(%v, %v) = %d %v, not %d", c.b, c.a, got, ok, -c.want)
		}
	}
}

// rootSums are roots so exact that sums of them that are not alike are seen to be.
type rootSums []*big.Float

func newRootSums() rootSums {
	var l rootSums
	for n := range 1001 {
		l = append(l, new(big.Float).SetPrec(200).SetInt64(int64(n)))
		l[n].Sqrt(l[n])
	}
	return l
}

func (r rootSums) of(l []int) *big.Float {
	sum := new(big.Float).SetPrec(200)
	for _, n := range l {
		sum.Add(sum, r[n])
	}
	return sum
}

func (r rootSums) compare(a []int, b []int) int {
	gap := r.of(a)
	gap.Sub(gap, r.of(b))
	// With such numbers a gap that is not 0 is above 2 to the power of -60; the roots are told to about 190 places.
	if gap.Sign() == 0 || gap.MantExp(nil) < -150 {
		return 0
	}
	return gap.Sign()
}

func TestCompareRootsOfNeighbours(t *testing.T) {
	exact := newRootSums()
	var lists [][]int
	for a := range 1001 {
		lists = append(lists, []int{a})
		for b := range a + 1 {
			lists = append(lists, []int{a, b})
		}
	}
	about := func(l []int) float64 {
		sum := 0.0
		for _, n := range l {
			sum += math.Sqrt(float64(n))
		}
		return sum
	}
	// In their order the nearest sums stand side by side, where a guess would go wrong first.
	slices.SortStableFunc(lists, func(a []int, b []int) int { return cmp.Compare(about(a), about(b)) })
	seen := map[int]int{}
	for i, a := range lists {
		for _, step := range []int{1, 2, 997} {
			b := lists[(i+step)%len(lists)]
			want := exact.compare(a, b)
			seen[want]++
			got, ok := impl.CompareRoots(a, b)
			back, backOk := impl.CompareRoots(b, a)
			if got != want || back != -want || !ok || !backOk {
				t.Fatalf("CompareRoots(%v, %v) = %d %v, and turned round %d %v, not %d", a, b, got, ok, back, backOk, want)
			}
		}
	}
	if seen[-1] == 0 || seen[0] == 0 || seen[1] == 0 {
		t.Errorf("%v are no test", seen)
	}
}

func TestCompareRootsOfSmallNumbers(t *testing.T) {
	exact := newRootSums()
	var lists [][]int
	for a := range 21 {
		lists = append(lists, []int{a})
		for b := range 21 {
			lists = append(lists, []int{a, b})
		}
	}
	for _, a := range lists {
		for _, b := range lists {
			if got, ok := impl.CompareRoots(a, b); got != exact.compare(a, b) || !ok {
				t.Fatalf("CompareRoots(%v, %v) = %d %v", a, b, got, ok)
			}
		}
	}
}

func TestPromise19AnswersBeyondSquares(t *testing.T) {
	for _, n := range beyondSquares {
		if r, ok := impl.RootOf(n); r != 0 || ok {
			t.Errorf("RootOf(%d) = %d %v", n, r, ok)
		}
		if s, ok := impl.IsSquare(n); s || ok {
			t.Errorf("IsSquare(%d) = %v %v", n, s, ok)
		}
		if l, ok := impl.HeronSteps(n); len(l) != 0 || ok {
			t.Errorf("HeronSteps(%d) = %v %v", n, l, ok)
		}
		for _, part := range []int{math.MinInt, -1, 0, 1, 2, 1000, 1001, 1 << 32, math.MaxInt} {
			if b, ok := impl.RootBounds(n, part); b != (impl.Bounds{}) || ok {
				t.Errorf("RootBounds(%d, %d) = %v %v", n, part, b, ok)
			}
		}
	}
	if l, ok := impl.HeronSteps(0); len(l) != 0 || ok {
		t.Errorf("HeronSteps(0) = %v %v", l, ok)
	}
	for _, part := range []int{math.MinInt, math.MinInt + 1, -1 << 32, -1000, -1, 0, 1001, 1 << 31, 1 << 32, 1 << 62, math.MaxInt} {
		for _, n := range []int{0, 1, 2, 49, 1000000, greatest} {
			if b, ok := impl.RootBounds(n, part); b != (impl.Bounds{}) || ok {
				t.Errorf("RootBounds(%d, %d) = %v %v", n, part, b, ok)
			}
		}
	}
}

func TestPromise19AnswersAtWrongBounds(t *testing.T) {
	good := bounds(frac(7, 5), frac(3, 2))
	for _, wrong := range wrongBounds {
		for _, l := range [][]impl.Bounds{{wrong}, {wrong, good}, {good, wrong}, {good, wrong, good}, append(manyBounds(good, 19), wrong), append(manyBounds(good, 20), wrong)} {
			if got, ok := impl.SumBounds(l); got != (impl.Bounds{}) || ok {
				t.Errorf("SumBounds(%v) = %v %v", l, got, ok)
			}
		}
	}
}

func TestPromise19AnswersAtWrongRootLists(t *testing.T) {
	wrong := [][]int{
		nil, {}, {-1}, {1001}, {math.MinInt}, {math.MaxInt}, {-1, 4}, {4, -1}, {1001, 4}, {4, 1001}, {math.MinInt, math.MaxInt}, {math.MaxInt, 0}, {0, math.MinInt},
		{0, 0, 0}, {1, 2, 3}, {1000, 1000, 1000}, {2, 8, -1}, make([]int, 100),
	}
	for _, a := range wrong {
		for _, b := range append([][]int{{2}, {2, 8}, {0}, {1000, 1000}}, wrong...) {
			if got, ok := impl.CompareRoots(a, b); got != 0 || ok {
				t.Errorf("CompareRoots(%v, %v) = %d %v", a, b, got, ok)
			}
			if got, ok := impl.CompareRoots(b, a); got != 0 || ok {
				t.Errorf("CompareRoots(%v, %v) = %d %v", b, a, got, ok)
			}
		}
	}
}

func TestPromise19NoRootListIsWritten(t *testing.T) {
	// Behind each list's length stand two more, which are neither read nor written.
	for _, l := range [][]int{{2, 8, 0}, {18, 5, -1}, {3, 3, 1001, 7}, {8, 2, 2, 8}, {8, 2, -1, 1001}, {1001, 2, 3}, {1, 2, 3, 4, 5}} {
		for _, other := range [][]int{{18, 7, 7}, {8, 2, 9, 9}} {
			before, otherBefore := slices.Clone(l), slices.Clone(other)
			a, b := l[:len(l)-2], other[:len(other)-2]
			got, ok := impl.CompareRoots(a, b)
			want, wantOk := impl.CompareRoots(slices.Clip(slices.Clone(a)), slices.Clip(slices.Clone(b)))
			if got != want || ok != wantOk {
				t.Errorf("CompareRoots(%v, %v) hangs on what lies behind them: %d %v, not %d %v", a, b, got, ok, want, wantOk)
			}
			if !slices.Equal(l, before) || !slices.Equal(other, otherBefore) {
				t.Errorf("CompareRoots has made %v and %v of %v and %v", l, other, before, otherBefore)
			}
		}
	}
}

func TestPromise19NoBoundsAreWritten(t *testing.T) {
	root, wrong := bounds(frac(7, 5), frac(3, 2)), bounds(whole(1), whole(0))
	for _, l := range [][]impl.Bounds{
		{root, wrong}, {root, root, wrong, wrong}, {root, wrong, root, root}, {wrong, root, root}, {bounds(whole(1), whole(most)), bounds(whole(1), whole(most)), root, root},
		append(manyBounds(root, 20), wrong, root), append(manyBounds(root, 21), root, wrong),
	} {
		before := slices.Clone(l)
		short := l[:len(l)-2]
		got, ok := impl.SumBounds(short)
		want, wantOk := impl.SumBounds(slices.Clip(slices.Clone(short)))
		if got != want || ok != wantOk {
			t.Errorf("SumBounds(%v) hangs on what lies behind them: %v %v, not %v %v", short, got, ok, want, wantOk)
		}
		if !slices.Equal(l, before) {
			t.Errorf("SumBounds has made %v of %v", l, before)
		}
	}
}
