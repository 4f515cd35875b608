package tests

import (
	"math"
	"math/big"
	"slices"
	"testing"

	"loop.example/g00451/impl"
)

const most = impl.MaxPart

func frac(num int, den int) impl.Frac {
	return impl.Frac{Num: num, Den: den}
}

// parts are numbers about every bound of chapter 1, and some with common divisors.
var parts = []int{
	math.MinInt, math.MinInt + 1, -1 << 32, -most - 1, -most, -most + 1, -31623, -12, -6, -4, -3, -2, -1,
	0, 1, 2, 3, 4, 6, 12, 31622, 31623, most - 1, most, most + 1, 1 << 32, 1 << 62, math.MaxInt,
}

// everyFrac has each pair of parts: good fractions and wrong ones.
func everyFrac() []impl.Frac {
	var l []impl.Frac
	for _, num := range parts {
		for _, den := range parts {
			l = append(l, frac(num, den))
		}
	}
	return l
}

// plainlyGood says what the document says, by numbers that have no bounds.
func plainlyGood(a impl.Frac) bool {
	if a.Num < -most || a.Num > most || a.Den < 1 || a.Den > most {
		return false
	}
	num := new(big.Int).Abs(big.NewInt(int64(a.Num)))
	return new(big.Int).GCD(nil, nil, num, big.NewInt(int64(a.Den))).Cmp(big.NewInt(1)) == 0
}

func goodFracs() []impl.Frac {
	var l []impl.Frac
	for _, a := range everyFrac() {
		if plainlyGood(a) {
			l = append(l, a)
		}
	}
	return l
}

func ratOf(a impl.Frac) *big.Rat {
	return big.NewRat(int64(a.Num), int64(a.Den))
}

// answerOf is what is to be answered for a fraction without bounds.
func answerOf(r *big.Rat) (impl.Frac, bool) {
	limit := big.NewInt(most)
	if r.Num().CmpAbs(limit) > 0 || r.Denom().Cmp(limit) > 0 {
		return impl.Frac{}, false
	}
	return frac(int(r.Num().Int64()), int(r.Denom().Int64())), true
}

type reckoning struct {
	name  string
	ours  func(a impl.Frac, b impl.Frac) (impl.Frac, bool)
	plain func(z *big.Rat, a *big.Rat, b *big.Rat) *big.Rat
}

var reckonings = []reckoning{
	{"AddFrac", impl.AddFrac, (*big.Rat).Add},
	{"SubFrac", impl.SubFrac, (*big.Rat).Sub},
	{"MulFrac", impl.MulFrac, (*big.Rat).Mul},
	{"DivFrac", impl.DivFrac, (*big.Rat).Quo},
}

func TestGoodFrac(t *testing.T) {
	for _, a := range everyFrac() {
		if got := impl.GoodFrac(a); got != plainlyGood(a) {
			t.Errorf("GoodFrac(%v) = %v", a, got)
		}
	}
	for _, a := range []impl.Frac{frac(0, 1), frac(-most, 1), frac(most, 1), frac(1, most), frac(-most, most-1), frac(most-1, most)} {
		if !impl.GoodFrac(a) {
			t.Errorf("GoodFrac(%v) = false", a)
		}
	}
	for _, a := range []impl.Frac{{}, frac(0, 2), frac(most+1, 1), frac(-most-1, 1), frac(1, most+1), frac(1, -1), frac(2, 4), frac(-6, 3), frac(most, most), frac(most, 5)} {
		if impl.GoodFrac(a) {
			t.Errorf("GoodFrac(%v) = true", a)
		}
	}
}

func TestFracOf(t *testing.T) {
	for _, num := range parts {
		for _, den := range parts {
			var want impl.Frac
			wantOk := false
			if num >= -most && num <= most && den >= -most && den <= most && den != 0 {
				want, wantOk = answerOf(big.NewRat(int64(num), int64(den)))
			}
			if got, ok := impl.FracOf(num, den); got != want || ok != wantOk {
				t.Errorf("FracOf(%d, %d) = %v %v, not %v %v", num, den, got, ok, want, wantOk)
			}
		}
	}
}

func TestFracOfSignIsTheNumerators(t *testing.T) {
	cases := []struct {
		num, den int
		want     impl.Frac
	}{
		{6, -4, frac(-3, 2)}, {-6, -4, frac(3, 2)}, {-6, 4, frac(-3, 2)}, {0, -7, frac(0, 1)}, {0, 7, frac(0, 1)},
		{most, -most, frac(-1, 1)}, {-most, -most, frac(1, 1)}, {-most, -1, frac(most, 1)}, {1, -most, frac(-1, most)}, {-most, most - 1, frac(-most, most-1)},
	}
	for _, c := range cases {
		if got, ok := impl.FracOf(c.num, c.den); got != c.want || !ok {
			t.Errorf("FracOf(%d, %d) = %v %v, not %v", c.num, c.den, got, ok, c.want)
		}
	}
	for _, num := range parts {
		if got, ok := impl.FracOf(num, 0); got != (impl.Frac{}) || ok {
			t.Errorf("FracOf(%d, 0) = %v %v", num, got, ok)
		}
	}
}

func TestReckoningOfGoodFracs(t *testing.T) {
	good := goodFracs()
	for _, r := range reckonings {
		fits, beyond := 0, 0
		for _, a := range good {
			for _, b := range good {
				var want impl.Frac
				wantOk := false
				if r.name != "DivFrac" || b.Num != 0 {
					want, wantOk = answerOf(r.plain(new(big.Rat), ratOf(a), ratOf(b)))
				}
				if got, ok := r.ours(a, b); got != want || ok != wantOk {
					t.Errorf("%s(%v, %v) = %v %v, not %v %v", r.name, a, b, got, ok, want, wantOk)
				}
				if wantOk {
					fits++
				} else {
					beyond++
				}
			}
		}
		if fits == 0 || beyond == 0 {
			t.Errorf("%s: %d answers that fit and %d that do not are no test", r.name, fits, beyond)
		}
	}
}

func TestReckoningByHand(t *testing.T) {
	cases := []struct {
		r    int
		a, b impl.Frac
		want impl.Frac
		ok   bool
	}{
		{0, frac(1, 2), frac(1, 3), frac(5, 6), true}, {0, frac(1, 6), frac(1, 3), frac(1, 2), true}, {0, frac(-1, 2), frac(1, 2), frac(0, 1), true},
		{0, frac(most-1, 1), frac(1, 1), frac(most, 1), true}, {0, frac(most, 1), frac(1, 1), impl.Frac{}, false}, {0, frac(1, most), frac(1, most-1), impl.Frac{}, false},
		{1, frac(1, 2), frac(1, 3), frac(1, 6), true}, {1, frac(1-most, 1), frac(1, 1), frac(-most, 1), true}, {1, frac(-most, 1), frac(1, 1), impl.Frac{}, false},
		{2, frac(2, 3), frac(-3, 4), frac(-1, 2), true}, {2, frac(most, 1), frac(1, most), frac(1, 1), true}, {2, frac(most, 1), frac(2, 1), impl.Frac{}, false}, {2, frac(1, most), frac(1, 2), impl.Frac{}, false},
		{3, frac(1, 2), frac(-1, 3), frac(-3, 2), true}, {3, frac(0, 1), frac(-2, 3), frac(0, 1), true}, {3, frac(1, 2), frac(0, 1), impl.Frac{}, false}, {3, frac(0, 1), frac(0, 1), impl.Frac{}, false}, {3, frac(1, most), frac(most, 1), impl.Frac{}, false},
	}
	for _, c := range cases {
		if got, ok := reckonings[c.r].ours(c.a, c.b); got != c.want || ok != c.ok {
			t.Errorf("%s(%v, %v) = %v %v, not %v %v", reckonings[c.r].name, c.a, c.b, got, ok, c.want, c.ok)
		}
	}
}

// takenAway asks for promise 1 in both directions; it counts what was told true.
func takenAway(t *testing.T, a impl.Frac, b impl.Frac) int {
	pairs := []struct {
		name     string
		do, undo func(a impl.Frac, b impl.Frac) (impl.Frac, bool)
	}{
		{"AddFrac", impl.AddFrac, impl.SubFrac}, {"SubFrac", impl.SubFrac, impl.AddFrac},
		{"MulFrac", impl.MulFrac, impl.DivFrac}, {"DivFrac", impl.DivFrac, impl.MulFrac},
	}
	told := 0
	for _, p := range pairs {
		c, ok := p.do(a, b)
		if !ok || p.name == "MulFrac" && b.Num == 0 {
			continue
		}
		told++
		if back, ok := p.undo(c, b); back != a || !ok {
			t.Errorf("%s(%v, %v) = %v, but that undone is %v %v", p.name, a, b, c, back, ok)
		}
	}
	return told
}

func TestPromise1TakenAwayAgain(t *testing.T) {
	told := 0
	for num := -12; num <= 12; num++ {
		for den := 1; den <= 12; den++ {
			a, ok := impl.FracOf(num, den)
			if !ok {
				t.Fatal(num, den)
			}
			for _, b := range []impl.Frac{frac(0, 1), frac(1, 1), frac(-1, 1), frac(1, 2), frac(-5, 6), frac(7, 12), frac(-12, 11), frac(10, 9)} {
				told += takenAway(t, a, b)
			}
		}
	}
	// Small parts always fit: four ways of each pair, but two where b is 0.
	if want := 25 * 12 * (7*4 + 2); told != want {
		t.Errorf("%d told true, not %d", told, want)
	}
	good := goodFracs()
	told = 0
	for _, a := range good {
		for _, b := range good {
			told += takenAway(t, a, b)
		}
	}
	if told < len(good) {
		t.Errorf("only %d told true at the edges", told)
	}
}

func TestLessFrac(t *testing.T) {
	good := goodFracs()
	for _, a := range good {
		for _, b := range good {
			want := ratOf(a).Cmp(ratOf(b)) < 0
			if got, ok := impl.LessFrac(a, b); got != want || !ok {
				t.Errorf("LessFrac(%v, %v) = %v %v, not %v", a, b, got, ok, want)
			}
		}
	}
}

func TestFloorFrac(t *testing.T) {
	for _, a := range goodFracs() {
		// Euclid's division has its rest at 0 or above: of a divisor above 0 that is the floor.
		want := int(new(big.Int).Div(big.NewInt(int64(a.Num)), big.NewInt(int64(a.Den))).Int64())
		if got, ok := impl.FloorFrac(a); got != want || !ok {
			t.Errorf("FloorFrac(%v) = %v %v, not %v", a, got, ok, want)
		}
	}
	cases := []struct {
		a    impl.Frac
		want int
	}{
		{frac(7, 2), 3}, {frac(-7, 2), -4}, {frac(-1, most), -1}, {frac(1, most), 0}, {frac(0, 1), 0}, {frac(-4, 1), -4}, {frac(-most, 1), -most}, {frac(most, 1), most}, {frac(-most, most-1), -2},
	}
	for _, c := range cases {
		if got, ok := impl.FloorFrac(c.a); got != c.want || !ok {
			t.Errorf("FloorFrac(%v) = %v %v, not %v", c.a, got, ok, c.want)
		}
	}
}

func manyFracs(a impl.Frac, many int) []impl.Frac {
	return slices.Repeat([]impl.Frac{a}, many)
}

func TestSumFracs(t *testing.T) {
	half := frac(1, 2)
	cases := []struct {
		name string
		l    []impl.Frac
		want impl.Frac
		ok   bool
	}{
		{"nil", nil, frac(0, 1), true},
		{"none", []impl.Frac{}, frac(0, 1), true},
		{"one", []impl.Frac{frac(-most, most-1)}, frac(-most, most-1), true},
		{"three", []impl.Frac{half, frac(1, 3), frac(1, 6)}, frac(1, 1), true},
		{"50", manyFracs(half, 50), frac(25, 1), true},
		{"51", manyFracs(half, 51), impl.Frac{}, false},
		{"51 noughts", manyFracs(frac(0, 1), 51), impl.Frac{}, false},
		{"too great on the way", []impl.Frac{frac(most, 1), frac(1, 1), frac(-1, 1)}, impl.Frac{}, false},
		{"the same, fitting on the way", []impl.Frac{frac(1, 1), frac(-1, 1), frac(most, 1)}, frac(most, 1), true},
		{"too fine on the way", []impl.Frac{frac(1, most), frac(1, 3), frac(-1, 3)}, impl.Frac{}, false},
		{"the same, from the back", []impl.Frac{frac(-1, 3), frac(1, 3), frac(1, most)}, frac(1, most), true},
		{"not good at first", []impl.Frac{frac(2, 4), half}, impl.Frac{}, false},
		{"not good at last", []impl.Frac{half, frac(1, 0)}, impl.Frac{}, false},
		{"not good, and nought", []impl.Frac{half, frac(0, 2)}, impl.Frac{}, false},
	}
	for _, c := range cases {
		if got, ok := impl.SumFracs(c.l); got != c.want || ok != c.ok {
			t.Errorf("SumFracs of %s = %v %v, not %v %v", c.name, got, ok, c.want, c.ok)
		}
	}
}

func TestFracText(t *testing.T) {
	cases := []struct {
		a    impl.Frac
		want string
	}{
		{frac(0, 1), "0"}, {frac(5, 1), "5"}, {frac(-5, 1), "-5"}, {frac(10, 1), "10"}, {frac(-3, 2), "-3/2"}, {frac(3, 20), "3/20"},
		{frac(-most, 1), "-1000000000"}, {frac(1, most), "1/1000000000"}, {frac(most, most-1), "1000000000/999999999"}, {frac(-most, most-1), "-1000000000/999999999"},
	}
	for _, c := range cases {
		if got, ok := impl.FracText(c.a); got != c.want || !ok {
			t.Errorf("FracText(%v) = %q %v, not %q", c.a, got, ok, c.want)
		}
	}
}

// isRefused asks for the zero answer of each function of two fractions.
func isRefused(t *testing.T, a impl.Frac, b impl.Frac) {
	for _, r := range reckonings {
		if got, ok := r.ours(a, b); got != (impl.Frac{}) || ok {
			t.Errorf("%s(%v, %v) = %v %v", r.name, a, b, got, ok)
		}
	}
	if got, ok := impl.LessFrac(a, b); got || ok {
		t.Errorf("LessFrac(%v, %v) = %v %v", a, b, got, ok)
	}
}

func TestPromise19AnswersAtWrongFracs(t *testing.T) {
	wrong := 0
	for _, a := range everyFrac() {
		if plainlyGood(a) {
			continue
		}
		wrong++
		for _, b := range everyFrac() {
			isRefused(t, a, b)
			isRefused(t, b, a)
		}
		if got, ok := impl.FloorFrac(a); got != 0 || ok {
			t.Errorf("FloorFrac(%v) = %v %v", a, got, ok)
		}
		if got, ok := impl.FracText(a); got != "" || ok {
			t.Errorf("FracText(%v) = %q %v", a, got, ok)
		}
		for _, l := range [][]impl.Frac{{a}, {a, frac(1, 2)}, {frac(1, 2), a}} {
			if got, ok := impl.SumFracs(l); got != (impl.Frac{}) || ok {
				t.Errorf("SumFracs(%v) = %v %v", l, got, ok)
			}
		}
	}
	if wrong == 0 {
		t.Error("no wrong fraction was tried")
	}
}

func TestPromise19NothingIsWritten(t *testing.T) {
	// Behind each list's length stand two more, which are neither read nor written.
	for _, l := range [][]impl.Frac{
		{frac(1, 2), frac(1, 3), frac(2, 4), frac(most, 1)},
		{frac(2, 4), frac(1, 3), frac(1, 2), frac(1, 0)},
		{frac(most, 1), frac(most, 1), frac(1, 2), frac(1, 3)},
		append(manyFracs(frac(1, 2), 50), frac(2, 4), frac(3, 4)),
		append(manyFracs(frac(1, 2), 51), frac(2, 4), frac(3, 4)),
	} {
		before := slices.Clone(l)
		short := l[:len(l)-2]
		got, ok := impl.SumFracs(short)
		want, wantOk := impl.SumFracs(slices.Clip(slices.Clone(short)))
		if got != want || ok != wantOk {
			t.Errorf("SumFracs(%v) hangs on what lies behind it: %v %v, not %v %v", short, got, ok, want, wantOk)
		}
		if !slices.Equal(l, before) {
			t.Errorf("SumFracs has made %v of %v", l, before)
		}
	}
}
