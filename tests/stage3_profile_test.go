package tests

import (
	"math"
	"math/big"
	"slices"
	"strings"
	"testing"

	"loop.example/g00451/impl"
)

func good(name string, size int) impl.Good {
	return impl.Good{Name: name, Size: size}
}

func line(good int, many int) impl.Line {
	return impl.Line{Good: good, Many: many}
}

func profile(picks []int, flow []int) impl.Profile {
	return impl.Profile{Picks: picks, Flow: flow}
}

// manyGoods have unlike names, and sizes from 1 to 100.
func manyGoods(many int) []impl.Good {
	var l []impl.Good
	for i := range many {
		l = append(l, good("good"+string(rune('a'+i)), 1+i*9%100))
	}
	return l
}

// manyLines are lines of so many goods, in no plain order.
func manyLines(goods int, many int) []impl.Line {
	var l []impl.Line
	for i := range many {
		l = append(l, line((i*i+3*i)%goods, 1+(i*37+11)%99))
	}
	return l
}

// profileWith has the more Flow the fewer Picks, so that what goes by Flow can't pass for what goes by Picks.
func profileWith(picks ...int) impl.Profile {
	p := impl.Profile{Picks: picks}
	for _, n := range picks {
		flow := 0
		if n != 0 {
			flow = 20002 - n
		}
		p.Flow = append(p.Flow, flow)
	}
	return p
}

func sameProfile(a impl.Profile, b impl.Profile) bool {
	return slices.Equal(a.Picks, b.Picks) && slices.Equal(a.Flow, b.Flow)
}

func cloneProfile(p impl.Profile) impl.Profile {
	return profile(slices.Clone(p.Picks), slices.Clone(p.Flow))
}

func isNoProfile(p impl.Profile) bool {
	return len(p.Picks) == 0 && len(p.Flow) == 0
}

func plainTotal(l []int) int {
	all := 0
	for _, n := range l {
		all += n
	}
	return all
}

// everyList has all lists of up to so many values.
func everyList(values []int, many int) [][]int {
	lists := [][]int{{}}
	from := 0
	for range many {
		to := len(lists)
		for _, l := range lists[from:to] {
			for _, v := range values {
				lists = append(lists, append(slices.Clone(l), v))
			}
		}
		from = to
	}
	return lists
}

// endInts are numbers that are no place, size or number of anything.
var endInts = []int{math.MinInt, math.MinInt + 1, -1 << 32, -1, 1 << 32, 1 << 62, math.MaxInt - 1, math.MaxInt}

// wrongGoods have one thing that is not as said, in the end, in the middle or at the beginning.
func wrongGoods() [][]impl.Good {
	l := [][]impl.Good{manyGoods(13), manyGoods(14), slices.Repeat(manyGoods(12), 2)}
	var wrong []impl.Good
	for _, name := range []string{
		"", "abcdefghi", "abcdefghijklmnop", "A", "Z", "nAil", "`", "{", "nail{", "`nail", "na il", " nail", "nail ", " ", "nail\n", "\n", "nail0", "0", "-", "_", "é", "naïl", "\x00", "nail\x00", "\xff", "a\x80",
		strings.Repeat("a", 1000), "ａ",
	} {
		wrong = append(wrong, good(name, 3))
	}
	for _, size := range append([]int{0, 101, -100}, endInts...) {
		wrong = append(wrong, good("nail", size))
	}
	for _, w := range wrong {
		l = append(l, []impl.Good{w}, []impl.Good{w, good("bolt", 5)}, []impl.Good{good("bolt", 5), w}, []impl.Good{good("bolt", 5), w, good("nut", 1)}, append(manyGoods(11), w))
	}
	twice := good("nail", 3)
	return append(l,
		[]impl.Good{twice, twice}, []impl.Good{twice, good("nail", 4)}, []impl.Good{twice, good("bolt", 5), twice}, []impl.Good{good("bolt", 5), twice, twice},
		append(manyGoods(11), good("gooda", 1)), append(manyGoods(11), good("goodk", 1)), append(manyGoods(10), twice, twice),
	)
}

func TestGoodGoods(t *testing.T) {
	for _, l := range [][]impl.Good{
		nil, {}, {good("nail", 3)}, {good("nail", 3), good("bolt", 5)}, {good("bolt", 5), good("nail", 5)},
		{good("a", 1)}, {good("z", 100)}, {good("abcdefgh", 1)}, {good("stuvwxyz", 100)}, {good("a", 1), good("aa", 1), good("aaaaaaaa", 1), good("aaaaaaab", 1)},
		{good("nail", 1), good("nails", 1), good("nai", 1)}, manyGoods(11), manyGoods(12),
	} {
		if !impl.GoodGoods(l) {
			t.Errorf("GoodGoods(%#v) = false", l)
		}
	}
	for _, l := range wrongGoods() {
		if impl.GoodGoods(l) {
			t.Errorf("GoodGoods(%#v) = true", l)
		}
	}
}

func TestGoodGoodsOfEachByte(t *testing.T) {
	for b := range 256 {
		want := b >= 97 && b <= 122
		for _, name := range []string{string([]byte{byte(b)}), string([]byte{byte(b), 'a', 'a'}), string([]byte{'a', byte(b), 'a'}), string([]byte{'a', 'a', byte(b)})} {
			if got := impl.GoodGoods([]impl.Good{good(name, 1)}); got != want {
				t.Errorf("GoodGoods of the name %q = %v", name, got)
			}
		}
	}
}

// plainProfile says what the document says, good by good.
func plainProfile(l []impl.Good, lines []impl.Line) impl.Profile {
	var p impl.Profile
	for i := range l {
		picks, many := 0, 0
		for _, n := range lines {
			if n.Good == i {
				picks++
				many += n.Many
			}
		}
		p.Picks = append(p.Picks, picks)
		p.Flow = append(p.Flow, l[i].Size*many)
	}
	return p
}

func TestProfileOfByHand(t *testing.T) {
	goods := []impl.Good{good("nail", 3), good("bolt", 5), good("nut", 1)}
	cases := []struct {
		name  string
		l     []impl.Good
		lines []impl.Line
		want  impl.Profile
	}{
		{"nothing", nil, nil, impl.Profile{}},
		{"no line", goods, nil, profile([]int{0, 0, 0}, []int{0, 0, 0})},
		{"one line", goods, []impl.Line{line(2, 1)}, profile([]int{0, 0, 1}, []int{0, 0, 1})},
		{"the first good twice", goods, []impl.Line{line(0, 2), line(1, 1), line(0, 4)}, profile([]int{2, 1, 0}, []int{18, 5, 0})},
		{"the same line twice", goods, []impl.Line{line(1, 7), line(1, 7)}, profile([]int{0, 2, 0}, []int{0, 70, 0})},
		{"as many as may be", goods, []impl.Line{line(0, 99), line(1, 99), line(2, 99)}, profile([]int{1, 1, 1}, []int{297, 495, 99})},
		{"as much as may be", []impl.Good{good("a", 100)}, slices.Repeat([]impl.Line{line(0, 99)}, 80), profile([]int{80}, []int{792000})},
		{"the last of 12", manyGoods(12), []impl.Line{line(11, 2)}, profile([]int{11: 1}, []int{11: 200})},
	}
	for _, c := range cases {
		if got, ok := impl.ProfileOf(c.l, c.lines); !sameProfile(got, c.want) || !ok {
			t.Errorf("ProfileOf of %s = %v %v, not %v", c.name, got, ok, c.want)
		}
	}
}

func TestProfileOfManyLines(t *testing.T) {
	for goods := 1; goods <= 12; goods++ {
		for many := range 81 {
			l, lines := manyGoods(goods), manyLines(goods, many)
			want := plainProfile(l, lines)
			got, ok := impl.ProfileOf(l, lines)
			if !sameProfile(got, want) || !ok {
				t.Fatalf("ProfileOf(%v, %v) = %v %v, not %v", l, lines, got, ok, want)
			}
			if !impl.GoodProfile(got) {
				t.Errorf("the profile %v is not good", got)
			}
		}
	}
}

func TestPromise3OrderOfLines(t *testing.T) {
	l := manyGoods(4)
	lines := []impl.Line{line(0, 2), line(3, 1), line(0, 99), line(1, 7), line(3, 1)}
	want, ok := impl.ProfileOf(l, lines)
	if !ok || !sameProfile(want, profile([]int{2, 1, 0, 2}, []int{101, 70, 0, 56})) {
		t.Fatal(want, ok)
	}
	orders := 0
	for _, order := range everyList([]int{0, 1, 2, 3, 4}, 5) {
		rising := slices.Sorted(slices.Values(order))
		if !slices.Equal(rising, []int{0, 1, 2, 3, 4}) {
			continue
		}
		orders++
		var turned []impl.Line
		for _, i := range order {
			turned = append(turned, lines[i])
		}
		if got, ok := impl.ProfileOf(l, turned); !sameProfile(got, want) || !ok {
			t.Errorf("ProfileOf of %v = %v %v, but of %v it is %v", turned, got, ok, lines, want)
		}
	}
	if orders != 120 {
		t.Errorf("%d orders are no test", orders)
	}
}

func TestPromise3OrderOf80Lines(t *testing.T) {
	l, lines := manyGoods(12), manyLines(12, 80)
	want, ok := impl.ProfileOf(l, lines)
	if !ok || plainTotal(want.Picks) != 80 {
		t.Fatal(want, ok)
	}
	for range 100 {
		// The front goes to the back, and a part of the rest is turned round: each time it is another order.
		lines = append(slices.Clone(lines[3:]), lines[2], lines[0], lines[1])
		slices.Reverse(lines[7:70])
		if got, ok := impl.ProfileOf(l, lines); !sameProfile(got, want) || !ok {
			t.Fatalf("ProfileOf of %v = %v %v, not %v", lines, got, ok, want)
		}
	}
}

func TestProfilesOfPartsAddUp(t *testing.T) {
	l, lines := manyGoods(7), manyLines(7, 80)
	want, _ := impl.ProfileOf(l, lines)
	for cut := range 81 {
		first, firstOk := impl.ProfileOf(l, lines[:cut])
		rest, restOk := impl.ProfileOf(l, lines[cut:])
		got, ok := impl.AddProfiles(first, rest)
		back, backOk := impl.AddProfiles(rest, first)
		if !firstOk || !restOk || !ok || !backOk || !sameProfile(got, want) || !sameProfile(back, want) {
			t.Errorf("the first %d lines and the rest: %v %v, and turned round %v %v, not %v", cut, got, ok, back, backOk, want)
		}
	}
}

// wrongLines are lines that are not of so many goods.
func wrongLines(goods int) [][]impl.Line {
	var wrong []impl.Line
	for _, n := range append([]int{goods, goods + 1}, endInts...) {
		wrong = append(wrong, line(n, 1))
	}
	for _, many := range append([]int{0, 100, 101}, endInts...) {
		wrong = append(wrong, line(0, many), line(goods-1, many))
	}
	var l [][]impl.Line
	for _, w := range wrong {
		l = append(l, []impl.Line{w}, []impl.Line{w, line(0, 1)}, []impl.Line{line(0, 1), w}, []impl.Line{line(0, 1), w, line(0, 99)}, append(slices.Repeat([]impl.Line{line(0, 1)}, 79), w))
	}
	return append(l, slices.Repeat([]impl.Line{line(0, 1)}, 81), slices.Repeat([]impl.Line{line(0, 1)}, 1000))
}

func TestPromise19AnswersAtWrongLines(t *testing.T) {
	for _, goods := range []int{0, 1, 2, 12} {
		for _, lines := range wrongLines(goods) {
			if got, ok := impl.ProfileOf(manyGoods(goods), lines); !isNoProfile(got) || ok {
				t.Errorf("ProfileOf of %d goods and %v = %v %v", goods, lines, got, ok)
			}
		}
	}
	// What would be a good line is not, where there is no good.
	if got, ok := impl.ProfileOf(nil, []impl.Line{line(0, 1)}); !isNoProfile(got) || ok {
		t.Errorf("ProfileOf of no goods = %v %v", got, ok)
	}
	for _, c := range []struct {
		l  impl.Line
		ok bool
	}{{line(0, 1), true}, {line(1, 99), true}, {line(2, 1), false}, {line(-1, 1), false}, {line(0, 0), false}, {line(0, 100), false}} {
		if _, ok := impl.ProfileOf(manyGoods(2), []impl.Line{c.l}); ok != c.ok {
			t.Errorf("ProfileOf of two goods and %v tells %v", c.l, ok)
		}
	}
}

func TestPromise19AnswersAtWrongGoods(t *testing.T) {
	for _, l := range wrongGoods() {
		for _, lines := range [][]impl.Line{nil, {line(0, 1)}, {line(len(l)-1, 99)}, {line(-1, 0)}} {
			if got, ok := impl.ProfileOf(l, lines); !isNoProfile(got) || ok {
				t.Errorf("ProfileOf(%#v, %v) = %v %v", l, lines, got, ok)
			}
		}
	}
}

func goodProfiles() []impl.Profile {
	return []impl.Profile{
		{}, profile([]int{}, []int{}), profile(nil, []int{}), profile([]int{0}, []int{0}), profile([]int{1}, []int{1}), profile([]int{1}, []int{10000000}), profile([]int{10000}, []int{1}), profile([]int{10000}, []int{10000000}),
		profile([]int{2, 1}, []int{18, 5}), profile([]int{0, 3}, []int{0, 4}), profile([]int{3, 0}, []int{2, 0}), profile([]int{0, 0}, []int{0, 0}),
		profileWith(5, 4, 1), profileWith(0, 0, 7, 0, 7, 1, 0), profile(make([]int, 12), make([]int, 12)), profileWith(slices.Repeat([]int{10000}, 12)...), profile([]int{11: 1}, []int{11: 9}),
	}
}

// wrongProfiles have lists that are not as long, too long, beyond their bounds, or 0 at one of two places.
func wrongProfiles() []impl.Profile {
	l := []impl.Profile{
		profile([]int{1}, nil), profile(nil, []int{1}), profile([]int{0}, nil), profile(nil, []int{0}), profile([]int{1, 1}, []int{1}), profile([]int{1}, []int{1, 1}), profile(make([]int, 12), make([]int, 11)), profile(make([]int, 11), make([]int, 12)),
		profile(make([]int, 13), make([]int, 13)), profile(make([]int, 12), make([]int, 13)), profile(make([]int, 13), make([]int, 12)), profileWith(slices.Repeat([]int{1}, 13)...), profileWith(slices.Repeat([]int{1}, 1000)...),
	}
	pairs := [][2]int{{0, 1}, {1, 0}, {0, 10000000}, {10000, 0}, {10001, 1}, {1, 10000001}, {10001, 10000001}, {-1, 1}, {1, -1}, {-1, -1}, {-1, 0}, {0, -1}}
	for _, n := range endInts {
		pairs = append(pairs, [2]int{n, 1}, [2]int{1, n}, [2]int{n, n}, [2]int{n, 0}, [2]int{0, n})
	}
	for _, p := range pairs {
		l = append(l, profile([]int{p[0]}, []int{p[1]}), profile([]int{p[0], 2}, []int{p[1], 6}), profile([]int{2, p[0]}, []int{6, p[1]}), profile([]int{2, p[0], 2}, []int{6, p[1], 6}), profile([]int{11: p[0]}, []int{11: p[1]}))
	}
	return l
}

func TestGoodProfile(t *testing.T) {
	for _, p := range goodProfiles() {
		if !impl.GoodProfile(p) {
			t.Errorf("GoodProfile(%v) = false", p)
		}
	}
	for _, p := range wrongProfiles() {
		if impl.GoodProfile(p) {
			t.Errorf("GoodProfile(%v) = true", p)
		}
	}
}

func TestAddProfiles(t *testing.T) {
	full := profile([]int{10000}, []int{10000000})
	cases := []struct {
		a, b, want impl.Profile
		ok         bool
	}{
		{impl.Profile{}, impl.Profile{}, impl.Profile{}, true},
		{profile([]int{2, 1}, []int{18, 5}), profile([]int{3, 4}, []int{5, 6}), profile([]int{5, 5}, []int{23, 11}), true},
		{profile([]int{2, 0, 0}, []int{18, 0, 0}), profile([]int{0, 0, 4}, []int{0, 0, 6}), profile([]int{2, 0, 4}, []int{18, 0, 6}), true},
		{profile([]int{0, 0}, []int{0, 0}), profile([]int{0, 0}, []int{0, 0}), profile([]int{0, 0}, []int{0, 0}), true},
		{full, profile([]int{0}, []int{0}), full, true},
		{profile([]int{9999}, []int{9999999}), profile([]int{1}, []int{1}), full, true},
		{profile([]int{9999}, []int{9999998}), profile([]int{1}, []int{1}), profile([]int{10000}, []int{9999999}), true},
		{full, profile([]int{1}, []int{1}), impl.Profile{}, false},
		{profile([]int{10000}, []int{1}), profile([]int{1}, []int{1}), impl.Profile{}, false},
		{profile([]int{1}, []int{10000000}), profile([]int{1}, []int{1}), impl.Profile{}, false},
		{profile([]int{1, 10000, 1}, []int{1, 1, 1}), profile([]int{1, 1, 1}, []int{1, 1, 1}), impl.Profile{}, false},
		{full, full, impl.Profile{}, false},
		{impl.Profile{}, profile([]int{0}, []int{0}), impl.Profile{}, false},
		{profile([]int{1}, []int{1}), profile([]int{1, 1}, []int{1, 1}), impl.Profile{}, false},
		{profileWith(make([]int, 12)...), profileWith(make([]int, 11)...), impl.Profile{}, false},
		{profileWith(slices.Repeat([]int{5000}, 12)...), profileWith(slices.Repeat([]int{5000}, 12)...), profile(slices.Repeat([]int{10000}, 12), slices.Repeat([]int{30004}, 12)), true},
	}
	for _, c := range cases {
		if got, ok := impl.AddProfiles(c.a, c.b); !sameProfile(got, c.want) || ok != c.ok {
			t.Errorf("AddProfiles(%v, %v) = %v %v, not %v %v", c.a, c.b, got, ok, c.want, c.ok)
		}
		if got, ok := impl.AddProfiles(c.b, c.a); !sameProfile(got, c.want) || ok != c.ok {
			t.Errorf("AddProfiles(%v, %v) = %v %v, not %v %v", c.b, c.a, got, ok, c.want, c.ok)
		}
	}
}

func TestPromise19NoWrongProfileIsAdded(t *testing.T) {
	// A sum may be good where a summand is not; that is refused all the same.
	for _, w := range []impl.Profile{profile([]int{-1}, []int{-1}), profile([]int{0}, []int{5}), profile([]int{5}, []int{0}), profile([]int{-1}, []int{1}), profile([]int{math.MinInt}, []int{math.MaxInt})} {
		if got, ok := impl.AddProfiles(w, profile([]int{5}, []int{5})); !isNoProfile(got) || ok {
			t.Errorf("AddProfiles(%v, ..) = %v %v", w, got, ok)
		}
	}
	for _, w := range wrongProfiles() {
		others := []impl.Profile{{}, w, cloneProfile(w), profileWith(make([]int, len(w.Picks))...), profileWith(slices.Repeat([]int{2}, len(w.Flow))...)}
		for _, p := range others {
			if got, ok := impl.AddProfiles(w, p); !isNoProfile(got) || ok {
				t.Errorf("AddProfiles(%v, %v) = %v %v", w, p, got, ok)
			}
			if got, ok := impl.AddProfiles(p, w); !isNoProfile(got) || ok {
				t.Errorf("AddProfiles(%v, %v) = %v %v", p, w, got, ok)
			}
		}
	}
}

func TestRankByByHand(t *testing.T) {
	cases := []struct{ values, want []int }{
		{nil, nil}, {[]int{}, nil}, {[]int{7}, []int{0}}, {[]int{1, 3, 3}, []int{1, 2, 0}}, {[]int{3, 1, 3}, []int{0, 2, 1}}, {[]int{0, 0, 0}, []int{0, 1, 2}}, {[]int{1, 2, 3}, []int{2, 1, 0}}, {[]int{3, 2, 1}, []int{0, 1, 2}},
		{[]int{-1000000, 10000000, 0, -1}, []int{1, 2, 3, 0}}, {[]int{10000000, 9999999, 10000000}, []int{0, 2, 1}}, {[]int{-1000000, -999999, -1000000}, []int{1, 0, 2}},
		{[]int{5, 5, 5, 5, 5, 5, 5, 5, 5, 5, 5, 5}, []int{0, 1, 2, 3, 4, 5, 6, 7, 8, 9, 10, 11}},
		{[]int{1, 2, 1, 2, 1, 2, 1, 2, 1, 2, 1, 2}, []int{1, 3, 5, 7, 9, 11, 0, 2, 4, 6, 8, 10}},
		{[]int{0, 1, 2, 3, 4, 5, 6, 7, 8, 9, 10, 11}, []int{11, 10, 9, 8, 7, 6, 5, 4, 3, 2, 1, 0}},
	}
	for _, c := range cases {
		if got, ok := impl.RankBy(c.values); !slices.Equal(got, c.want) || !ok {
			t.Errorf("RankBy(%v) = %v %v, not %v", c.values, got, ok, c.want)
		}
	}
}

// aheadOf tells whether a stands ahead of b from the greatest value down, the first one first.
func aheadOf(values []int, a int, b int) bool {
	return values[a] > values[b] || values[a] == values[b] && a < b
}

func isRank(values []int, rank []int) bool {
	for i := range rank {
		if i > 0 && !aheadOf(values, rank[i-1], rank[i]) {
			return false
		}
	}
	rising := slices.Sorted(slices.Values(rank))
	for i, n := range rising {
		if i != n {
			return false
		}
	}
	return len(rank) == len(values)
}

func TestRankByOfManyValues(t *testing.T) {
	lists := everyList([]int{-1000000, 0, 1, 10000000}, 6)
	for i := range 500 {
		var l []int
		for j := range 12 {
			l = append(l, (i*i*31+j*j*17+i*j*7)%(2+i%11))
		}
		lists = append(lists, l)
	}
	for _, values := range lists {
		if got, ok := impl.RankBy(values); !isRank(values, got) || !ok {
			t.Fatalf("RankBy(%v) = %v %v", values, got, ok)
		}
	}
}

func TestPromise19AnswersAtWrongValues(t *testing.T) {
	wrong := [][]int{make([]int, 13), make([]int, 14), make([]int, 1000), slices.Repeat([]int{10000000}, 13)}
	for _, n := range []int{-1000001, 10000001, math.MinInt, math.MinInt + 1, -1 << 32, 1 << 32, 1 << 62, math.MaxInt - 1, math.MaxInt} {
		wrong = append(wrong, []int{n}, []int{n, 0}, []int{0, n}, []int{0, n, 0}, append(make([]int, 11), n), append(make([]int, 12), n))
	}
	for _, values := range wrong {
		if got, ok := impl.RankBy(values); len(got) != 0 || ok {
			t.Errorf("RankBy(%v) = %v %v", values, got, ok)
		}
	}
}

// manyProfiles have all small Picks of up to six goods, and some of twelve.
func manyProfiles() []impl.Profile {
	l := goodProfiles()
	for _, picks := range everyList([]int{0, 1, 4, 5}, 5) {
		l = append(l, profileWith(picks...))
	}
	for i := range 200 {
		var picks []int
		for j := range 12 {
			picks = append(picks, (i*i*31+j*j*17+i*j*7)%(2+i%11)*(1+i%3*400))
		}
		l = append(l, profileWith(picks...))
	}
	return l
}

func TestClassesOfByHand(t *testing.T) {
	cases := []struct{ picks, want []int }{
		{nil, nil}, {[]int{0}, []int{3}}, {[]int{0, 0, 0}, []int{3, 3, 3}}, {make([]int, 12), slices.Repeat([]int{3}, 12)}, {[]int{1}, []int{1}}, {[]int{10000}, []int{1}},
		{[]int{2, 1}, []int{1, 2}}, {[]int{1, 2}, []int{2, 1}}, {[]int{0, 2, 0, 1}, []int{3, 1, 3, 2}},
		// Just a half and just nine tenths ahead are no longer less than those.
		{[]int{5, 5}, []int{1, 2}}, {[]int{5, 6}, []int{2, 1}}, {[]int{1, 9}, []int{3, 1}}, {[]int{5, 4, 1}, []int{1, 2, 3}}, {[]int{1, 5, 4}, []int{3, 1, 2}}, {[]int{18, 2}, []int{1, 3}}, {[]int{17, 2}, []int{1, 2}}, {[]int{19, 2}, []int{1, 3}},
		{[]int{50, 40, 10}, []int{1, 2, 3}}, {[]int{49, 40, 11}, []int{1, 1, 2}}, {[]int{50, 39, 11}, []int{1, 2, 2}}, {[]int{49, 41, 10}, []int{1, 1, 3}}, {[]int{10000, 10000}, []int{1, 2}}, {[]int{9999, 10000}, []int{2, 1}},
		{[]int{1, 1, 1, 1, 1, 1, 1, 1, 1, 1, 1, 1}, []int{1, 1, 1, 1, 1, 1, 2, 2, 2, 2, 2, 3}}, {[]int{1, 1, 1, 1, 1, 1, 1, 1, 1, 1}, []int{1, 1, 1, 1, 1, 2, 2, 2, 2, 3}},
		{slices.Repeat([]int{10000}, 12), []int{1, 1, 1, 1, 1, 1, 2, 2, 2, 2, 2, 3}},
		{[]int{9000, 1000, 0}, []int{1, 3, 3}}, {[]int{8999, 1000, 0}, []int{1, 2, 3}}, {[]int{5, 0}, []int{1, 3}},
	}
	for _, c := range cases {
		if got, ok := impl.ClassesOf(profileWith(c.picks...)); !slices.Equal(got, c.want) || !ok {
			t.Errorf("ClassesOf Picks %v = %v %v, not %v", c.picks, got, ok, c.want)
		}
	}
}

// plainClasses says what the document says, good by good, with fractions that have no bounds.
func plainClasses(picks []int) []int {
	var classes []int
	for i := range picks {
		ahead := 0
		for j := range picks {
			if aheadOf(picks, j, i) {
				ahead += picks[j]
			}
		}
		class := 3
		if all := plainTotal(picks); all > 0 {
			share := big.NewRat(int64(ahead), int64(all))
			if share.Cmp(big.NewRat(1, 2)) < 0 {
				class = 1
			} else if share.Cmp(big.NewRat(9, 10)) < 0 {
				class = 2
			}
		}
		classes = append(classes, class)
	}
	return classes
}

func TestClassesOfManyProfiles(t *testing.T) {
	seen := map[int]int{}
	for _, p := range manyProfiles() {
		want := plainClasses(p.Picks)
		for _, class := range want {
			seen[class]++
		}
		if got, ok := impl.ClassesOf(p); !slices.Equal(got, want) || !ok {
			t.Fatalf("ClassesOf(%v) = %v %v, not %v", p, got, ok, want)
		}
	}
	if seen[1] == 0 || seen[2] == 0 || seen[3] == 0 {
		t.Errorf("%v are no test", seen)
	}
}

func TestIndexOf(t *testing.T) {
	p := profile([]int{2, 4, 0, 10000, 10000, 3}, []int{18, 6, 0, 10000000, 1, 10000000})
	for n, want := range []impl.Frac{whole(9), frac(3, 2), {}, whole(1000), frac(1, 10000), frac(10000000, 3)} {
		if got, ok := impl.IndexOf(p, n); got != want || ok != (want != impl.Frac{}) {
			t.Errorf("IndexOf(%v, %d) = %v %v, not %v", p, n, got, ok, want)
		}
	}
	for picks := 1; picks <= 60; picks++ {
		for flow := 1; flow <= 60; flow++ {
			want, _ := answerOf(big.NewRat(int64(flow), int64(picks)))
			if got, ok := impl.IndexOf(profile([]int{0, picks}, []int{0, flow}), 1); got != want || !ok {
				t.Errorf("IndexOf of %d and %d = %v %v, not %v", picks, flow, got, ok, want)
			}
		}
	}
}

func TestPromise19AnswersAtWrongIndexes(t *testing.T) {
	for _, p := range goodProfiles() {
		for _, n := range append([]int{len(p.Picks), len(p.Picks) + 1, 12}, endInts...) {
			if got, ok := impl.IndexOf(p, n); got != (impl.Frac{}) || ok {
				t.Errorf("IndexOf(%v, %d) = %v %v", p, n, got, ok)
			}
		}
		for n, picks := range p.Picks {
			if _, ok := impl.IndexOf(p, n); ok != (picks > 0) {
				t.Errorf("IndexOf(%v, %d) tells %v", p, n, ok)
			}
		}
		for _, n := range append([]int{len(p.Picks) + 1, 13}, endInts...) {
			if got, ok := impl.ShareOf(p, n); got != (impl.Frac{}) || ok {
				t.Errorf("ShareOf(%v, %d) = %v %v", p, n, got, ok)
			}
		}
	}
}

func TestPromise19AnswersAtWrongProfiles(t *testing.T) {
	for _, p := range wrongProfiles() {
		if got, ok := impl.ClassesOf(p); len(got) != 0 || ok {
			t.Errorf("ClassesOf(%v) = %v %v", p, got, ok)
		}
		for _, n := range append([]int{0, 1, 2, 11, 12, 13, len(p.Picks) - 1, len(p.Picks), len(p.Flow)}, endInts...) {
			if got, ok := impl.IndexOf(p, n); got != (impl.Frac{}) || ok {
				t.Errorf("IndexOf(%v, %d) = %v %v", p, n, got, ok)
			}
			if got, ok := impl.ShareOf(p, n); got != (impl.Frac{}) || ok {
				t.Errorf("ShareOf(%v, %d) = %v %v", p, n, got, ok)
			}
		}
	}
}

func TestShareOfByHand(t *testing.T) {
	cases := []struct {
		picks []int
		first int
		want  impl.Frac
	}{
		{nil, 0, whole(0)}, {[]int{0}, 0, whole(0)}, {[]int{0}, 1, whole(0)}, {make([]int, 12), 12, whole(0)}, {[]int{3}, 0, whole(0)}, {[]int{3}, 1, whole(1)},
		{[]int{2, 1}, 0, whole(0)}, {[]int{2, 1}, 1, frac(2, 3)}, {[]int{1, 2}, 1, frac(2, 3)}, {[]int{1, 2}, 2, whole(1)}, {[]int{1, 0, 5, 4}, 2, frac(9, 10)}, {[]int{1, 0, 5, 4}, 3, whole(1)}, {[]int{1, 0, 5, 4}, 4, whole(1)},
		{slices.Repeat([]int{10000}, 12), 1, frac(1, 12)}, {slices.Repeat([]int{10000}, 12), 9, frac(3, 4)}, {slices.Repeat([]int{10000}, 12), 12, whole(1)}, {[]int{10000, 9999}, 1, frac(10000, 19999)},
	}
	for _, c := range cases {
		if got, ok := impl.ShareOf(profileWith(c.picks...), c.first); got != c.want || !ok {
			t.Errorf("ShareOf(%v, %d) = %v %v, not %v", c.picks, c.first, got, ok, c.want)
		}
	}
}

// greatestShares are, for each number of goods, the most Picks that any so many goods have, whichever they are.
func greatestShares(picks []int) []int {
	shares := make([]int, len(picks)+1)
	for chosen := range 1 << len(picks) {
		many, share := 0, 0
		for i, n := range picks {
			if chosen>>i&1 == 1 {
				many++
				share += n
			}
		}
		shares[many] = max(shares[many], share)
	}
	return shares
}

func TestPromise3FirstFewHaveTheGreatestShare(t *testing.T) {
	for _, p := range manyProfiles() {
		all := plainTotal(p.Picks)
		for first, share := range greatestShares(p.Picks) {
			want := whole(0)
			if all > 0 {
				want, _ = answerOf(big.NewRat(int64(share), int64(all)))
			}
			if got, ok := impl.ShareOf(p, first); got != want || !ok {
				t.Fatalf("ShareOf(%v, %d) = %v %v, but the greatest share is %v", p, first, got, ok, want)
			}
		}
	}
}

func TestPromise3ShareIsThatOfTheFirstRanked(t *testing.T) {
	for _, p := range manyProfiles() {
		rank, ok := impl.RankBy(p.Picks)
		if !ok {
			t.Fatal(p)
		}
		sum := new(big.Rat)
		for i, n := range rank {
			if all := plainTotal(p.Picks); all > 0 {
				sum.Add(sum, big.NewRat(int64(p.Picks[n]), int64(all)))
			}
			want, _ := answerOf(sum)
			if got, ok := impl.ShareOf(p, i+1); got != want || !ok {
				t.Fatalf("ShareOf(%v, %d) = %v %v, not %v", p, i+1, got, ok, want)
			}
		}
	}
}

func shareNone(t *testing.T, name string, lists ...[]int) {
	shareNoneOf(t, name, func(i int) int { return -7777 - i }, lists...)
}

// shareNoneOf fills each list up to its capacity, and asks whether another one has changed by that.
func shareNoneOf[T comparable](t *testing.T, name string, fill func(i int) T, lists ...[]T) {
	for i, l := range lists {
		var before [][]T
		for _, other := range lists {
			before = append(before, slices.Clone(other))
		}
		whole := l[:cap(l)]
		for j := range whole {
			whole[j] = fill(i)
		}
		for k, other := range lists {
			if k != i && !slices.Equal(other, before[k]) {
				t.Errorf("%s: lists %d and %d share memory", name, i, k)
			}
		}
	}
}

func TestPromise19ProfilesShareNothing(t *testing.T) {
	goods, lines := manyGoods(3), manyLines(3, 9)
	p, _ := impl.ProfileOf(goods, lines)
	again, _ := impl.ProfileOf(goods, lines)
	sum, _ := impl.AddProfiles(p, p)
	nought, _ := impl.AddProfiles(profileWith(0, 0, 0), p)
	classes, _ := impl.ClassesOf(p)
	rank, _ := impl.RankBy(p.Picks)
	lists := [][]int{p.Picks, p.Flow, again.Picks, again.Flow, sum.Picks, sum.Flow, nought.Picks, nought.Flow, classes, rank}
	for _, l := range lists {
		if len(l) != 3 {
			t.Fatal(lists)
		}
	}
	shareNone(t, "chapter 3", lists...)
	if got, ok := impl.ProfileOf(goods, lines); !sameProfile(got, plainProfile(goods, lines)) || !ok {
		t.Errorf("ProfileOf = %v %v behind a write into earlier answers", got, ok)
	}
}

func TestPromise19NoGoodsOrLinesAreWritten(t *testing.T) {
	// Behind each list's length stand two more, which are neither read nor written.
	goodsLists := [][]impl.Good{append(manyGoods(3), good("gooda", 1), good("", 0)), append(manyGoods(12), good("gooda", 1), good("", 0)), append(manyGoods(13), good("x", 1), good("y", 1)), {good("", 1), good("a", 1), good("b", 1)}, manyGoods(2)}
	linesLists := [][]impl.Line{append(manyLines(3, 9), line(-1, 1), line(0, 0)), append(manyLines(3, 80), line(0, 1), line(0, 100)), append(manyLines(3, 81), line(0, 1), line(0, 1)), {line(0, 0), line(0, 1), line(0, 1)}, manyLines(3, 2)}
	for _, goods := range goodsLists {
		for _, lines := range linesLists {
			goodsBefore, linesBefore := slices.Clone(goods), slices.Clone(lines)
			l, n := goods[:len(goods)-2], lines[:len(lines)-2]
			got, ok := impl.ProfileOf(l, n)
			want, wantOk := impl.ProfileOf(slices.Clip(slices.Clone(l)), slices.Clip(slices.Clone(n)))
			if !sameProfile(got, want) || ok != wantOk {
				t.Errorf("ProfileOf(%v, %v) hangs on what lies behind them: %v %v, not %v %v", l, n, got, ok, want, wantOk)
			}
			if impl.GoodGoods(l) != impl.GoodGoods(slices.Clip(slices.Clone(l))) {
				t.Errorf("GoodGoods(%v) hangs on what lies behind them", l)
			}
			if !slices.Equal(goods, goodsBefore) || !slices.Equal(lines, linesBefore) {
				t.Errorf("%v and %v were made of %v and %v", goods, lines, goodsBefore, linesBefore)
			}
		}
	}
}

// cutProfile lets two more stand behind each list's length.
func cutProfile(p impl.Profile, behind int) impl.Profile {
	return profile(append(slices.Clone(p.Picks), behind, behind)[:len(p.Picks)], append(slices.Clone(p.Flow), behind, behind)[:len(p.Flow)])
}

// fullProfile has what stands behind the lengths, too.
func fullProfile(p impl.Profile) impl.Profile {
	return profile(p.Picks[:len(p.Picks)+2], p.Flow[:len(p.Flow)+2])
}

func TestPromise19NoProfileIsWritten(t *testing.T) {
	for _, plain := range append(goodProfiles(), wrongProfiles()...) {
		for _, behind := range []int{-1, 1, 10001} {
			p := cutProfile(plain, behind)
			before := cloneProfile(fullProfile(p))
			if impl.GoodProfile(p) != impl.GoodProfile(plain) {
				t.Errorf("GoodProfile(%v) hangs on what lies behind it", plain)
			}
			sum, ok := impl.AddProfiles(p, p)
			want, wantOk := impl.AddProfiles(plain, plain)
			if !sameProfile(sum, want) || ok != wantOk {
				t.Errorf("AddProfiles of %v hangs on what lies behind it", plain)
			}
			classes, ok := impl.ClassesOf(p)
			wantClasses, wantOk := impl.ClassesOf(plain)
			if !slices.Equal(classes, wantClasses) || ok != wantOk {
				t.Errorf("ClassesOf(%v) hangs on what lies behind it", plain)
			}
			rank, ok := impl.RankBy(p.Picks)
			wantRank, wantOk := impl.RankBy(plain.Picks)
			if !slices.Equal(rank, wantRank) || ok != wantOk {
				t.Errorf("RankBy(%v) hangs on what lies behind it", plain.Picks)
			}
			for n := range len(plain.Picks) + 3 {
				index, ok := impl.IndexOf(p, n)
				wantIndex, wantOk := impl.IndexOf(plain, n)
				share, shareOk := impl.ShareOf(p, n)
				wantShare, wantShareOk := impl.ShareOf(plain, n)
				if index != wantIndex || ok != wantOk || share != wantShare || shareOk != wantShareOk {
					t.Errorf("IndexOf or ShareOf (%v, %d) hangs on what lies behind it", plain, n)
				}
			}
			if !sameProfile(fullProfile(p), before) {
				t.Errorf("%v was made of %v", fullProfile(p), before)
			}
		}
	}
}
