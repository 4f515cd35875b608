package tests

import (
	"math"
	"slices"
	"testing"

	"loop.example/g00451/impl"
)

// hallRows has 0 from each hall to each, but for those told: from, to, and how much.
func hallRows(halls int, some ...[3]int) [][]int {
	rows := sameCosts(halls, halls, 0)
	for _, s := range some {
		rows[s[0]][s[1]] = s[2]
	}
	return rows
}

func plainlyHallRows(rows [][]int) bool {
	if len(rows) < 2 || len(rows) > 8 {
		return false
	}
	return !slices.ContainsFunc(rows, func(row []int) bool {
		return len(row) != len(rows) || slices.Min(row) < 0 || slices.Max(row) > 50
	})
}

func plainlyNet(w [][]int) bool {
	if !plainlyHallRows(w) {
		return false
	}
	for hall := range w {
		if w[hall][hall] != 0 {
			return false
		}
	}
	return true
}

// plainIn and plainOut are what goes into a hall, and out of it.
func plainIn(f [][]int, hall int) int {
	in := 0
	for _, row := range f {
		in += row[hall]
	}
	return in
}

func plainOut(f [][]int, hall int) int {
	return plainTotal(f[hall])
}

func plainWorth(f [][]int) int {
	return plainOut(f, 0) - plainIn(f, 0)
}

// plainlyFlow needs rows of one size.
func plainlyFlow(w [][]int, f [][]int) bool {
	for from := range w {
		for to := range w {
			if f[from][to] > w[from][to] {
				return false
			}
		}
	}
	for hall := range w {
		if hall != 0 && hall != len(w)-1 && plainIn(f, hall) != plainOut(f, hall) {
			return false
		}
	}
	return true
}

func plainRoom(w [][]int, f [][]int, a int, b int) int {
	return w[a][b] - f[a][b] + f[b][a]
}

// plainNextWay keeps a whole way to each hall, in the order in which they are come to.
func plainNextWay(w [][]int, f [][]int) []int {
	ways := [][]int{{0}}
	for i := 0; i < len(ways); i++ {
		at := ways[i][len(ways[i])-1]
		for to := range w {
			isNew := !slices.ContainsFunc(ways, func(way []int) bool { return way[len(way)-1] == to })
			if plainRoom(w, f, at, to) > 0 && isNew {
				ways = append(ways, append(slices.Clone(ways[i]), to))
			}
		}
	}
	for _, way := range ways {
		if way[len(way)-1] == len(w)-1 {
			return way
		}
	}
	return nil
}

// fewestHalls goes by ever longer ways: the halls that can be come to by so many. It is 0 where the last one never is.
func fewestHalls(w [][]int, f [][]int) int {
	reached := []int{0}
	for many := 2; many <= len(w); many++ {
		var next []int
		for to := range w {
			if slices.ContainsFunc(reached, func(at int) bool { return at == to || plainRoom(w, f, at, to) > 0 }) {
				next = append(next, to)
			}
		}
		if slices.Contains(next, len(w)-1) {
			return many
		}
		reached = next
	}
	return 0
}

func plainLeastRoom(w [][]int, f [][]int, way []int) int {
	least := math.MaxInt
	for i := range len(way) - 1 {
		least = min(least, plainRoom(w, f, way[i], way[i+1]))
	}
	return least
}

func plainlyWay(w [][]int, f [][]int, way []int) bool {
	if len(way) < 2 || way[0] != 0 || way[len(way)-1] != len(w)-1 {
		return false
	}
	for i, hall := range way {
		if hall < 0 || hall >= len(w) || slices.Contains(way[i+1:], hall) {
			return false
		}
	}
	return plainLeastRoom(w, f, way) > 0
}

// plainPush sends one after the other along the way: each one takes one back where it can.
func plainPush(w [][]int, f [][]int, way []int) ([][]int, int) {
	more, by := cloneRows(f), plainLeastRoom(w, f, way)
	for range by {
		for i := range len(way) - 1 {
			a, b := way[i], way[i+1]
			if more[b][a] > 0 {
				more[b][a]--
			} else {
				more[a][b]++
			}
		}
	}
	return more, by
}

func plainMostFlow(w [][]int) [][]int {
	f := hallRows(len(w))
	for way := plainNextWay(w, f); way != nil; way = plainNextWay(w, f) {
		f, _ = plainPush(w, f, way)
	}
	return f
}

func plainCutWidth(w [][]int, side []int) int {
	sum := 0
	for from := range w {
		for to := range w {
			if slices.Contains(side, from) && !slices.Contains(side, to) {
				sum += w[from][to]
			}
		}
	}
	return sum
}

// everySide has all rising lists with 0 and without the last hall.
func everySide(halls int) [][]int {
	return slices.DeleteFunc(setLists(halls-1), func(side []int) bool { return !slices.Contains(side, 0) })
}

func plainlySide(side []int, halls int) bool {
	return plainlyRising(side, halls) && slices.Contains(side, 0) && !slices.Contains(side, halls-1)
}

// narrowestSides are all sides that are as narrow as any.
func narrowestSides(w [][]int) ([][]int, int) {
	var all [][]int
	least := math.MaxInt
	for _, side := range everySide(len(w)) {
		wide := plainCutWidth(w, side)
		if wide < least {
			all, least = nil, wide
		}
		if wide == least {
			all = append(all, side)
		}
	}
	return all, least
}

// everyWay has all lists of unlike halls from 0 to the last one.
func everyWay(halls int) [][]int {
	last := halls - 1
	begun, all := [][]int{{0}}, [][]int{}
	for i := 0; i < len(begun); i++ {
		all = append(all, append(slices.Clone(begun[i]), last))
		for to := 1; to < last; to++ {
			if !slices.Contains(begun[i], to) {
				begun = append(begun, append(slices.Clone(begun[i]), to))
			}
		}
	}
	return all
}

// everyNet has all nets of these widths.
func everyNet(halls int, widths []int) [][][]int {
	all := [][][]int{hallRows(halls)}
	for i := range halls * halls {
		if i/halls == i%halls {
			continue
		}
		var next [][][]int
		for _, w := range all {
			for _, n := range widths {
				with := cloneRows(w)
				with[i/halls][i%halls] = n
				next = append(next, with)
			}
		}
		all = next
	}
	return all
}

func smallNets() [][][]int {
	all := everyNet(2, []int{0, 1, 2, 49, 50})
	all = append(all, everyNet(3, []int{0, 1, 2})...)
	return append(all, everyNet(4, []int{0, 1})...)
}

// drawnNet is of all widths, of narrow ones, of few that are not 0, of such that lead onwards alone, of ones alone, or of such that lead to near halls.
func drawnNet(i int, halls int) [][]int {
	d := diceOf(i)
	names := append(append([]int{0}, d.shuffled(countUp(halls)[1:halls-1])...), halls-1)
	w := hallRows(halls)
	for from := range w {
		for to := range w {
			if from == to {
				continue
			}
			all, few := 1+d.below(50), d.below(3)
			n := []int{d.below(51), d.below(4), all * (few / 2), all * min(few, 1), few / 2, all * min(few, 1)}[i%6]
			if i%6 == 3 && from > to || i%6 == 5 && (from-to > 2 || to-from > 2) {
				n = 0
			}
			w[names[from]][names[to]] = n
		}
	}
	return w
}

// backNet lets the first way, by 0, 1, 4, go over what both other ones need: of the two, one has to send it back from 4 to 1.
func backNet(short int, long int) [][]int {
	return hallRows(8, [3]int{0, 1, short}, [3]int{1, 4, short}, [3]int{4, 7, short}, [3]int{0, 2, long}, [3]int{2, 3, long}, [3]int{3, 4, long}, [3]int{1, 5, long}, [3]int{5, 6, long}, [3]int{6, 7, long})
}

// mixedBackNet has the halls between in another order, and widths that are drawn.
func mixedBackNet(i int) [][]int {
	d := diceOf(i)
	names := append(append([]int{0}, d.shuffled(countUp(7)[1:])...), 7)
	w := hallRows(8)
	for from, row := range backNet(1, 1) {
		for to, n := range row {
			w[names[from]][names[to]] = n * (1 + d.below(50))
		}
	}
	return w
}

func greatNets() [][][]int {
	var all [][][]int
	for i := range 630 {
		all = append(all, drawnNet(i, 2+i/6%7))
	}
	for i := range 70 {
		all = append(all, mixedBackNet(i))
	}
	for _, halls := range []int{2, 3, 7, 8} {
		wide, onwards := hallRows(halls), hallRows(halls)
		for i := range halls * halls {
			if i/halls != i%halls {
				wide[i/halls][i%halls] = 50
			}
			if i/halls+1 == i%halls {
				onwards[i/halls][i%halls] = 50 - i/halls
			}
		}
		all = append(all, hallRows(halls), wide, onwards)
	}
	return append(all, backNet(1, 1), backNet(50, 50), backNet(5, 3), backNet(3, 5))
}

func manyNets() [][][]int {
	return append(smallNets(), greatNets()...)
}

// drawnTrack goes through widths that are not full to a hall not gone to yet, wherever it leads; it is nil where it leads nowhere.
func drawnTrack(d *dice, w [][]int, f [][]int, from int, to int) []int {
	track := []int{from}
	for {
		at := track[len(track)-1]
		next := slices.DeleteFunc(countUp(len(w)), func(hall int) bool {
			return f[at][hall] == w[at][hall] || hall != to && slices.Contains(track, hall)
		})
		if len(next) == 0 {
			return nil
		}
		track = append(track, next[d.below(len(next))])
		if track[len(track)-1] == to {
			return track
		}
	}
}

// drawnFlow lets some go on from 0 to the last hall, or from the last one to 0, or round in a ring, with nothing taken back: so it often goes both ways between two halls.
func drawnFlow(d *dice, w [][]int) [][]int {
	f := hallRows(len(w))
	for range d.below(4 * len(w)) {
		ring := d.below(len(w))
		ends := [][2]int{{0, len(w) - 1}, {0, len(w) - 1}, {len(w) - 1, 0}, {ring, ring}, {ring, ring}}[d.below(5)]
		track := drawnTrack(d, w, f, ends[0], ends[1])
		if track == nil {
			continue
		}
		least := 50
		for i := range len(track) - 1 {
			least = min(least, w[track[i]][track[i+1]]-f[track[i]][track[i+1]])
		}
		many := 1 + d.below(least)
		for i := range len(track) - 1 {
			f[track[i]][track[i+1]] += many
		}
	}
	return f
}

func drawnFlows(i int, w [][]int) [][][]int {
	d := diceOf(i)
	return [][][]int{hallRows(len(w)), drawnFlow(d, w), drawnFlow(d, w), drawnFlow(d, w)}
}

// bothWays counts the halls between which it goes both ways.
func bothWays(f [][]int) int {
	count := 0
	for a := range f {
		for b := range a {
			if f[a][b] > 0 && f[b][a] > 0 {
				count++
			}
		}
	}
	return count
}

// wrongRows are made of good ones: rows too many or too few, longer or shorter, or with a number that is none.
func wrongRows(rows [][]int) [][][]int {
	many := len(rows)
	var all [][][]int
	for at := range many {
		for _, row := range [][]int{nil, rows[at][:many-1], append(slices.Clone(rows[at]), 0), append(slices.Clone(rows[at]), 1), make([]int, 1000)} {
			with := cloneRows(rows)
			with[at] = slices.Clone(row)
			all = append(all, with)
		}
		all = append(all, append(cloneRows(rows), slices.Clone(rows[at])), slices.Delete(cloneRows(rows), at, at+1))
		for to := range many {
			for _, n := range append([]int{-2, -50, 51, 52, 100}, endInts...) {
				with := cloneRows(rows)
				with[at][to] = n
				all = append(all, with)
			}
		}
	}
	return all
}

// wrongSizes have another number of halls than may be.
func wrongSizes() [][][]int {
	l := [][][]int{nil, {}, {nil}, {{}}, {{0}}, {{1}}, {{50}}, {{0, 0}}, {{0}, {0}}, {nil, nil}, {{}, {}}, {{math.MinInt}}, {{math.MaxInt}}}
	for _, n := range []int{0, 1, 50} {
		for _, size := range [][2]int{{9, 9}, {9, 8}, {8, 9}, {10, 10}, {1, 2}, {2, 1}, {2, 3}, {3, 2}, {2, 0}, {8, 0}, {8, 1}, {1, 8}, {1000, 2}, {2, 1000}, {100, 100}} {
			l = append(l, sameCosts(size[0], size[1], n))
		}
	}
	return l
}

// sampleNets are of the least and the greatest size, and between them.
func sampleNets() [][][]int {
	return [][][]int{hallRows(2), hallRows(2, [3]int{0, 1, 50}, [3]int{1, 0, 7}), drawnNet(0, 3), drawnNet(5, 5), drawnNet(6, 8), hallRows(8), backNet(2, 1)}
}

func wrongNets() [][][]int {
	all := wrongSizes()
	for _, w := range sampleNets() {
		all = append(all, wrongRows(w)...)
		for hall := range w {
			for _, n := range []int{1, 2, 50} {
				with := cloneRows(w)
				with[hall][hall] = n
				all = append(all, with)
			}
		}
	}
	// The rows of a good net may be as many as those of another one.
	return slices.DeleteFunc(all, func(w [][]int) bool { return plainlyNet(w) })
}

func TestFlowLimits(t *testing.T) {
	if impl.MaxHalls != 8 || impl.MaxWidth != 50 {
		t.Error(impl.MaxHalls, impl.MaxWidth)
	}
}

func TestGoodNetAtItsEdges(t *testing.T) {
	for _, w := range append(manyNets(), sampleNets()...) {
		if !impl.GoodNet(w) || !plainlyNet(w) {
			t.Errorf("GoodNet(%v) = %v", w, impl.GoodNet(w))
		}
	}
	wrong := wrongNets()
	if len(wrong) < 2000 {
		t.Errorf("%d wrong nets", len(wrong))
	}
	for _, w := range wrong {
		if impl.GoodNet(w) {
			t.Errorf("GoodNet(%v) is true", w)
		}
	}
	for _, n := range []int{-1, 0, 1, 49, 50, 51} {
		for halls := range 11 {
			for hall := range halls {
				for to := range halls {
					w := hallRows(halls, [3]int{hall, to, n})
					want := halls >= 2 && halls <= 8 && (n == 0 || n > 0 && n <= 50 && hall != to)
					if impl.GoodNet(w) != want {
						t.Errorf("GoodNet(%v) = %v", w, !want)
					}
				}
			}
		}
	}
	for _, w := range everyBoxes([]int{-1, 0, 50, 51}, 3, 2) {
		if impl.GoodNet(w) != plainlyNet(w) {
			t.Errorf("GoodNet(%v) = %v", w, impl.GoodNet(w))
		}
	}
}

func TestMostFlowByHand(t *testing.T) {
	for _, c := range []struct {
		width [][]int
		flow  [][]int
		most  int
		side  []int
	}{
		{[][]int{{0, 0}, {0, 0}}, [][]int{{0, 0}, {0, 0}}, 0, []int{0}}, {[][]int{{0, 7}, {0, 0}}, [][]int{{0, 7}, {0, 0}}, 7, []int{0}}, {[][]int{{0, 50}, {50, 0}}, [][]int{{0, 50}, {0, 0}}, 50, []int{0}}, {[][]int{{0, 0}, {50, 0}}, [][]int{{0, 0}, {0, 0}}, 0, []int{0}},
		{[][]int{{0, 5, 2}, {0, 0, 3}, {0, 0, 0}}, [][]int{{0, 3, 2}, {0, 0, 3}, {0, 0, 0}}, 5, []int{0, 1}}, {[][]int{{0, 3, 2}, {0, 0, 5}, {0, 0, 0}}, [][]int{{0, 3, 2}, {0, 0, 3}, {0, 0, 0}}, 5, []int{0}}, {[][]int{{0, 3, 2}, {0, 0, 3}, {0, 0, 0}}, [][]int{{0, 3, 2}, {0, 0, 3}, {0, 0, 0}}, 5, []int{0}},
		// No way at all, though halls are come to.
		{[][]int{{0, 5, 0}, {5, 0, 0}, {5, 5, 0}}, hallRows(3), 0, []int{0, 1}}, {hallRows(8, [3]int{0, 6, 1}, [3]int{6, 3, 50}, [3]int{7, 0, 50}), hallRows(8), 0, []int{0, 3, 6}},
		// Of two ways with as few halls the one by the lesser hall goes first, and so has all of what is behind both.
		{hallRows(4, [3]int{0, 1, 5}, [3]int{0, 2, 5}, [3]int{1, 3, 4}, [3]int{2, 3, 3}), hallRows(4, [3]int{0, 1, 4}, [3]int{0, 2, 3}, [3]int{1, 3, 4}, [3]int{2, 3, 3}), 7, []int{0, 1, 2}}, {hallRows(5, [3]int{0, 1, 5}, [3]int{0, 2, 5}, [3]int{1, 3, 4}, [3]int{2, 3, 3}, [3]int{3, 4, 5}), hallRows(5, [3]int{0, 1, 4}, [3]int{0, 2, 1}, [3]int{1, 3, 4}, [3]int{2, 3, 1}, [3]int{3, 4, 5}), 5, []int{0, 1, 2, 3}},
		// The way with fewer halls goes first, though another one has lesser halls.
		{hallRows(4, [3]int{0, 1, 5}, [3]int{1, 2, 5}, [3]int{0, 2, 4}, [3]int{2, 3, 5}), hallRows(4, [3]int{0, 1, 1}, [3]int{1, 2, 1}, [3]int{0, 2, 4}, [3]int{2, 3, 5}), 5, []int{0, 1, 2}},
		// What goes from 1 to 4 goes back again.
		{backNet(1, 1), hallRows(8, [3]int{0, 1, 1}, [3]int{1, 5, 1}, [3]int{5, 6, 1}, [3]int{6, 7, 1}, [3]int{0, 2, 1}, [3]int{2, 3, 1}, [3]int{3, 4, 1}, [3]int{4, 7, 1}), 2, []int{0}}, {backNet(5, 3), hallRows(8, [3]int{0, 1, 5}, [3]int{1, 4, 2}, [3]int{1, 5, 3}, [3]int{5, 6, 3}, [3]int{6, 7, 3}, [3]int{0, 2, 3}, [3]int{2, 3, 3}, [3]int{3, 4, 3}, [3]int{4, 7, 5}), 8, []int{0}},
	} {
		if flow, most, ok := impl.MostFlow(c.width); !equalRows(flow, c.flow) || most != c.most || !ok {
			t.Errorf("MostFlow(%v) = %v %v %v, not %v %v", c.width, flow, most, ok, c.flow, c.most)
		}
		if side, ok := impl.CutOf(c.width); !slices.Equal(side, c.side) || !ok {
			t.Errorf("CutOf(%v) = %v %v, not %v", c.width, side, ok, c.side)
		}
		if wide, ok := impl.CutWidth(c.width, c.side); wide != c.most || !ok {
			t.Errorf("CutWidth(%v, %v) = %v %v, not %v", c.width, c.side, wide, ok, c.most)
		}
	}
}

// isFlowAs holds IsFlow and FlowValue against the document's words.
func isFlowAs(t *testing.T, w [][]int, f [][]int) bool {
	want := plainlyFlow(w, f)
	if is, ok := impl.IsFlow(w, f); is != want || !ok {
		t.Fatalf("IsFlow(%v, %v) = %v %v, not %v", w, f, is, ok, want)
	}
	if value, ok := impl.FlowValue(f); value != plainWorth(f) || !ok {
		t.Fatalf("FlowValue(%v) = %v %v, not %v", f, value, ok, plainWorth(f))
	}
	return want
}

func TestIsFlowByHand(t *testing.T) {
	onwards := hallRows(4, [3]int{0, 1, 10}, [3]int{1, 2, 5}, [3]int{2, 1, 5}, [3]int{2, 3, 10})
	for _, c := range []struct {
		flow  [][]int
		want  bool
		value int
	}{
		{hallRows(4), true, 0}, {hallRows(4, [3]int{0, 1, 5}, [3]int{1, 2, 5}, [3]int{2, 3, 5}), true, 5}, {hallRows(4, [3]int{1, 2, 4}, [3]int{2, 1, 4}), true, 0}, {hallRows(4, [3]int{0, 1, 1}, [3]int{1, 2, 3}, [3]int{2, 1, 2}, [3]int{2, 3, 1}), true, 1},
		// Above a width, though as much goes in as out.
		{hallRows(4, [3]int{0, 1, 6}, [3]int{1, 2, 6}, [3]int{2, 3, 6}), false, 6}, {hallRows(4, [3]int{0, 3, 1}), false, 1}, {hallRows(4, [3]int{3, 0, 1}), false, -1}, {hallRows(4, [3]int{1, 1, 1}), false, 0}, {hallRows(4, [3]int{0, 0, 1}), false, 0}, {hallRows(4, [3]int{3, 3, 50}), false, 0},
		// Less out of a hall than into it, and more.
		{hallRows(4, [3]int{0, 1, 5}, [3]int{1, 2, 4}, [3]int{2, 3, 4}), false, 5}, {hallRows(4, [3]int{0, 1, 4}, [3]int{1, 2, 5}, [3]int{2, 3, 5}), false, 4}, {hallRows(4, [3]int{0, 1, 5}, [3]int{1, 2, 5}, [3]int{2, 3, 4}), false, 5}, {hallRows(4, [3]int{0, 1, 5}, [3]int{1, 2, 5}, [3]int{2, 3, 6}), false, 5}, {hallRows(4, [3]int{0, 1, 1}), false, 1}, {hallRows(4, [3]int{2, 3, 1}), false, 0}, {hallRows(4, [3]int{2, 1, 1}), false, 0},
	} {
		if is, ok := impl.IsFlow(onwards, c.flow); is != c.want || !ok {
			t.Errorf("IsFlow(%v, %v) = %v %v, not %v", onwards, c.flow, is, ok, c.want)
		}
		if value, ok := impl.FlowValue(c.flow); value != c.value || !ok {
			t.Errorf("FlowValue(%v) = %v %v, not %v", c.flow, value, ok, c.value)
		}
	}
	// Of two halls neither is asked whether as much goes in as out.
	for _, f := range everyCosts([]int{0, 1, 50}, 2) {
		isFlowAs(t, hallRows(2, [3]int{0, 1, 50}, [3]int{1, 0, 1}), f)
	}
}

func TestFlowValueAtItsEdges(t *testing.T) {
	for halls := 2; halls <= 8; halls++ {
		all := sameCosts(halls, halls, 50)
		out, in := hallRows(halls), hallRows(halls)
		for hall := range halls {
			out[0][hall], in[hall][0] = 50, 50
		}
		for _, c := range []struct {
			f    [][]int
			want int
		}{{all, 0}, {out, 50 * (halls - 1)}, {in, -50 * (halls - 1)}, {hallRows(halls), 0}, {hallRows(halls, [3]int{0, 0, 50}), 0}, {hallRows(halls, [3]int{halls - 1, halls - 1, 50}), 0}} {
			if got, ok := impl.FlowValue(c.f); got != c.want || !ok {
				t.Errorf("FlowValue(%v) = %v %v, not %v", c.f, got, ok, c.want)
			}
		}
	}
	for i := range 300 {
		f := mixedCosts(5*i+i%4, 2+i%7)
		if got, ok := impl.FlowValue(f); got != plainWorth(f) || !ok {
			t.Errorf("FlowValue(%v) = %v %v, not %v", f, got, ok, plainWorth(f))
		}
	}
}

func TestIsFlowOfEachSmallRows(t *testing.T) {
	rows := everyNet(3, []int{0, 1, 2})
	are := 0
	for _, w := range rows {
		most, value, _ := impl.MostFlow(w)
		if !isFlowAs(t, w, most) {
			t.Fatalf("MostFlow(%v) = %v is no flow", w, most)
		}
		for _, f := range rows {
			if !isFlowAs(t, w, f) {
				continue
			}
			are++
			if plainWorth(f) > value {
				t.Fatalf("of %v more flows than %v: %v", w, value, f)
			}
			isNextWay(t, w, f)
		}
	}
	// Of rows with as much into hall 1 as out of it all nets that are nowhere narrower have them as a flow.
	want := 0
	for _, f := range rows {
		if plainIn(f, 1) != plainOut(f, 1) {
			continue
		}
		nets := 1
		for i := range 9 {
			if i/3 != i%3 {
				nets *= 3 - f[i/3][i%3]
			}
		}
		want += nets
	}
	if are != want {
		t.Errorf("%d are flows, not %d", are, want)
	}
}

func TestIsFlowOfDrawnRows(t *testing.T) {
	is, not, both, back := 0, 0, 0, 0
	for i, w := range greatNets() {
		d := diceOf(i)
		for _, f := range drawnFlows(i, w) {
			if !isFlowAs(t, w, f) {
				t.Fatalf("of %v no flow was drawn: %v", w, f)
			}
			is++
			if bothWays(f) > 0 {
				both++
			}
			if plainWorth(f) < 0 {
				back++
			}
			// One more or less anywhere makes it none, if it is not just between 0 and the last hall.
			for range 10 {
				with := cloneRows(f)
				a, b := d.below(len(w)), d.below(len(w))
				with[a][b] = min(max(with[a][b]+1-2*d.below(2), 0), 50)
				if !isFlowAs(t, w, with) {
					not++
				}
			}
		}
	}
	if is < 1000 || not < 1000 || both < 100 || back < 100 {
		t.Errorf("%d are flows, %d not, %d go both ways between two halls, %d back more than on", is, not, both, back)
	}
}

// isNextWay holds NextWay against the document's words, and tells how many halls its way has.
func isNextWay(t *testing.T, w [][]int, f [][]int) int {
	want := plainNextWay(w, f)
	got, is, ok := impl.NextWay(w, f)
	if !slices.Equal(got, want) || is != (want != nil) || !ok {
		t.Fatalf("NextWay(%v, %v) = %v %v %v, not %v", w, f, got, is, ok, want)
	}
	if len(got) != fewestHalls(w, f) {
		t.Fatalf("NextWay(%v, %v) = %v, but it can be done by %d halls", w, f, got, fewestHalls(w, f))
	}
	if is && !plainlyWay(w, f, got) {
		t.Fatalf("NextWay(%v, %v) = %v is no way", w, f, got)
	}
	return len(got)
}

func TestNextWayByHand(t *testing.T) {
	for _, c := range []struct {
		width [][]int
		flow  [][]int
		want  []int
	}{
		{hallRows(2), hallRows(2), nil}, {hallRows(2, [3]int{0, 1, 1}), hallRows(2), []int{0, 1}}, {hallRows(2, [3]int{0, 1, 1}), hallRows(2, [3]int{0, 1, 1}), nil}, {hallRows(2, [3]int{1, 0, 1}), hallRows(2), nil},
		// There is room just as what flows back can go.
		{hallRows(2, [3]int{1, 0, 1}), hallRows(2, [3]int{1, 0, 1}), []int{0, 1}}, {hallRows(3, [3]int{2, 1, 4}, [3]int{1, 0, 3}), hallRows(3, [3]int{2, 1, 2}, [3]int{1, 0, 2}), []int{0, 1, 2}}, {hallRows(2, [3]int{0, 1, 1}, [3]int{1, 0, 1}), hallRows(2, [3]int{0, 1, 1}, [3]int{1, 0, 1}), []int{0, 1}},
		{hallRows(3, [3]int{0, 1, 5}, [3]int{1, 2, 5}), hallRows(3, [3]int{0, 1, 4}, [3]int{1, 2, 4}), []int{0, 1, 2}}, {hallRows(3, [3]int{0, 1, 5}, [3]int{1, 2, 4}), hallRows(3, [3]int{0, 1, 4}, [3]int{1, 2, 4}), nil}, {hallRows(3, [3]int{0, 1, 5}, [3]int{1, 2, 5}, [3]int{0, 2, 1}), hallRows(3), []int{0, 2}},
		// Of as few halls the lesser ones, where the first unlike one decides.
		{hallRows(4, [3]int{0, 2, 9}, [3]int{2, 3, 9}, [3]int{0, 1, 1}, [3]int{1, 3, 1}), hallRows(4), []int{0, 1, 3}}, {hallRows(6, [3]int{0, 1, 1}, [3]int{0, 2, 1}, [3]int{1, 4, 1}, [3]int{2, 3, 1}, [3]int{3, 5, 1}, [3]int{4, 5, 1}), hallRows(6), []int{0, 1, 4, 5}},
		// Hall 3 is come to from 2 ahead of 1: 2 is come to by fewer halls.
		{hallRows(5, [3]int{0, 2, 1}, [3]int{2, 1, 1}, [3]int{2, 3, 1}, [3]int{1, 3, 1}, [3]int{3, 4, 1}), hallRows(5), []int{0, 2, 3, 4}},
		{backNet(1, 1), hallRows(8), []int{0, 1, 4, 7}}, {backNet(1, 1), hallRows(8, [3]int{0, 1, 1}, [3]int{1, 4, 1}, [3]int{4, 7, 1}), []int{0, 2, 3, 4, 1, 5, 6, 7}},
	} {
		if got, is, ok := impl.NextWay(c.width, c.flow); !slices.Equal(got, c.want) || is != (c.want != nil) || !ok {
			t.Errorf("NextWay(%v, %v) = %v %v %v, not %v", c.width, c.flow, got, is, ok, c.want)
		}
	}
}

func TestNextWayHasTheFewestHalls(t *testing.T) {
	halls, falling := map[int]int{}, 0
	for i, w := range manyNets() {
		for _, f := range drawnFlows(i, w) {
			halls[isNextWay(t, w, f)]++
			if way, _, _ := impl.NextWay(w, f); !slices.IsSorted(way) {
				falling++
			}
		}
	}
	for many := range 9 {
		if many != 1 && halls[many] == 0 {
			t.Errorf("ways had so many halls: %v", halls)
		}
	}
	if falling == 0 {
		t.Error("no way went to a hall behind a greater one")
	}
}

// isPushedAs holds PushWay against the document's words, and tells whether it was a way.
func isPushedAs(t *testing.T, w [][]int, f [][]int, way []int) bool {
	got, by, ok := impl.PushWay(w, f, way)
	if !plainlyWay(w, f, way) {
		if len(got) != 0 || by != 0 || ok {
			t.Fatalf("PushWay(%v, %v, %v) = %v %v %v", w, f, way, got, by, ok)
		}
		return false
	}
	want, wantBy := plainPush(w, f, way)
	if !equalRows(got, want) || by != wantBy || !ok {
		t.Fatalf("PushWay(%v, %v, %v) = %v %v %v, not %v %v", w, f, way, got, by, ok, want, wantBy)
	}
	if is, ok := impl.IsFlow(w, got); !is || !ok {
		t.Fatalf("PushWay(%v, %v, %v) = %v is no flow", w, f, way, got)
	}
	before, _ := impl.FlowValue(f)
	if after, _ := impl.FlowValue(got); after != before+by {
		t.Fatalf("PushWay(%v, %v, %v) = %v %v, but the flow is worth %v behind %v", w, f, way, got, by, after, before)
	}
	return true
}

func TestPushWayByHand(t *testing.T) {
	both := hallRows(4, [3]int{0, 1, 10}, [3]int{1, 2, 5}, [3]int{2, 1, 5}, [3]int{2, 3, 10})
	small := hallRows(4, [3]int{0, 1, 10}, [3]int{1, 2, 5}, [3]int{2, 1, 5}, [3]int{2, 3, 2})
	for _, c := range []struct {
		width [][]int
		flow  [][]int
		way   []int
		want  [][]int
		by    int
	}{
		{[][]int{{0, 5, 2}, {0, 0, 3}, {0, 0, 0}}, hallRows(3), []int{0, 1, 2}, [][]int{{0, 3, 0}, {0, 0, 3}, {0, 0, 0}}, 3}, {[][]int{{0, 5, 2}, {0, 0, 3}, {0, 0, 0}}, hallRows(3), []int{0, 2}, [][]int{{0, 0, 2}, {0, 0, 0}, {0, 0, 0}}, 2}, {hallRows(2, [3]int{0, 1, 50}), hallRows(2, [3]int{0, 1, 49}), []int{0, 1}, hallRows(2, [3]int{0, 1, 50}), 1},
		// From 1 to 2 first 2 of what flows back go, then 2 more go on.
		{both, hallRows(4, [3]int{0, 1, 1}, [3]int{1, 2, 3}, [3]int{2, 1, 2}, [3]int{2, 3, 1}), []int{0, 1, 2, 3}, hallRows(4, [3]int{0, 1, 5}, [3]int{1, 2, 5}, [3]int{2, 3, 5}), 4},
		// What flows back is more than what goes along: some of it stays, and none more goes on.
		{small, hallRows(4, [3]int{0, 1, 1}, [3]int{1, 2, 5}, [3]int{2, 1, 4}, [3]int{2, 3, 1}), []int{0, 1, 2, 3}, hallRows(4, [3]int{0, 1, 2}, [3]int{1, 2, 5}, [3]int{2, 1, 3}, [3]int{2, 3, 2}), 1},
		{hallRows(2, [3]int{0, 1, 50}, [3]int{1, 0, 50}), hallRows(2, [3]int{1, 0, 50}), []int{0, 1}, hallRows(2, [3]int{0, 1, 50}), 100}, {hallRows(2, [3]int{0, 1, 50}, [3]int{1, 0, 50}), hallRows(2, [3]int{0, 1, 50}, [3]int{1, 0, 50}), []int{0, 1}, hallRows(2, [3]int{0, 1, 50}), 50}, {hallRows(2, [3]int{1, 0, 7}), hallRows(2, [3]int{1, 0, 7}), []int{0, 1}, hallRows(2), 7},
		{backNet(1, 1), hallRows(8, [3]int{0, 1, 1}, [3]int{1, 4, 1}, [3]int{4, 7, 1}), []int{0, 2, 3, 4, 1, 5, 6, 7}, hallRows(8, [3]int{0, 1, 1}, [3]int{1, 5, 1}, [3]int{5, 6, 1}, [3]int{6, 7, 1}, [3]int{0, 2, 1}, [3]int{2, 3, 1}, [3]int{3, 4, 1}, [3]int{4, 7, 1}), 1},
	} {
		if got, by, ok := impl.PushWay(c.width, c.flow, c.way); !equalRows(got, c.want) || by != c.by || !ok {
			t.Errorf("PushWay(%v, %v, %v) = %v %v %v, not %v %v", c.width, c.flow, c.way, got, by, ok, c.want, c.by)
		}
		isPushedAs(t, c.width, c.flow, c.way)
	}
}

// pushKinds tells whether at a step of the way what flows back is all that goes, is part of it, or is none of it.
func pushKinds(w [][]int, f [][]int, way []int, kinds map[string]int) {
	by := plainLeastRoom(w, f, way)
	for i := range len(way) - 1 {
		back := f[way[i+1]][way[i]]
		switch {
		case back == 0:
			kinds["none"]++
		case back < by:
			kinds["part"]++
		case back == by:
			kinds["just all"]++
		default:
			kinds["more"]++
		}
	}
}

func TestPushWayGoesRoomByRoom(t *testing.T) {
	ways := map[int][][]int{}
	for halls := 2; halls <= 8; halls++ {
		ways[halls] = everyWay(halls)
	}
	if len(ways[2]) != 1 || len(ways[4]) != 5 || len(ways[8]) != 1957 {
		t.Fatalf("%d, %d and %d ways", len(ways[2]), len(ways[4]), len(ways[8]))
	}
	is, not, kinds := 0, 0, map[string]int{}
	for i, w := range manyNets() {
		for at, f := range drawnFlows(i, w) {
			all := ways[len(w)]
			// All of the greater nets' ways at each flow are too many.
			if len(w) > 5 {
				d := diceOf(i + at)
				all = [][]int{plainNextWay(w, f)}
				for range 40 {
					all = append(all, ways[len(w)][d.below(len(ways[len(w)]))])
				}
			}
			for _, way := range all {
				if isPushedAs(t, w, f, way) {
					is++
					pushKinds(w, f, way, kinds)
				} else {
					not++
				}
			}
		}
	}
	if is < 10000 || not < 10000 || len(kinds) != 4 || kinds["just all"] < 10 || kinds["part"] < 100 {
		t.Errorf("%d ways had room, %d not; what flows back was so much of it: %v", is, not, kinds)
	}
}

func TestPushWayOfEachListOfHalls(t *testing.T) {
	is := map[int]int{}
	for halls := 2; halls <= 4; halls++ {
		var values []int
		for n := -1; n <= halls; n++ {
			values = append(values, n)
		}
		wide := hallRows(halls)
		for i := range halls * halls {
			if i/halls != i%halls {
				wide[i/halls][i%halls] = 1 + i%7
			}
		}
		lists := everyList(values, halls+1)
		for _, w := range [][][]int{wide, drawnNet(halls, halls), drawnNet(5, halls)} {
			for _, f := range drawnFlows(halls, w) {
				for _, way := range lists {
					if isPushedAs(t, w, f, way) {
						is[halls]++
					}
				}
			}
		}
		for _, way := range lists {
			if _, _, ok := impl.PushWay(wide, hallRows(halls), way); ok != slices.ContainsFunc(everyWay(halls), func(other []int) bool { return slices.Equal(way, other) }) {
				t.Errorf("PushWay(%v, no flow, %v) tells %v", wide, way, ok)
			}
		}
	}
	if is[2] == 0 || is[3] == 0 || is[4] == 0 {
		t.Errorf("so many were ways: %v", is)
	}
}

func TestMostFlowPushesTheNextWay(t *testing.T) {
	back, pushes := 0, map[int]int{}
	for _, w := range manyNets() {
		f, sum, many := hallRows(len(w)), 0, 0
		for {
			way, is, ok := impl.NextWay(w, f)
			if !ok {
				t.Fatalf("NextWay(%v, %v) tells false", w, f)
			}
			if !is {
				break
			}
			next, by, ok := impl.PushWay(w, f, way)
			if !ok || by < 1 {
				t.Fatalf("PushWay(%v, %v, %v) = %v %v %v", w, f, way, next, by, ok)
			}
			for i := range len(way) - 1 {
				if f[way[i+1]][way[i]] > 0 {
					back++
				}
			}
			f, sum, many = next, sum+by, many+1
		}
		pushes[many]++
		got, value, ok := impl.MostFlow(w)
		if !equalRows(got, f) || value != sum || !ok || !equalRows(got, plainMostFlow(w)) {
			t.Fatalf("MostFlow(%v) = %v %v %v, not %v %v", w, got, value, ok, f, sum)
		}
		if worth, ok := impl.FlowValue(got); worth != value || !ok {
			t.Fatalf("MostFlow(%v) = %v %v, but it is worth %v", w, got, value, worth)
		}
		if is, ok := impl.IsFlow(w, got); !is || !ok {
			t.Fatalf("MostFlow(%v) = %v is no flow", w, got)
		}
		if way, is, ok := impl.NextWay(w, got); len(way) != 0 || is || !ok {
			t.Fatalf("behind MostFlow(%v) = %v NextWay tells %v %v %v", w, got, way, is, ok)
		}
	}
	if back < 20 || len(pushes) < 8 {
		t.Errorf("%d times something flowed back; there were so many ways: %v", back, pushes)
	}
}

func TestPromise13NoFlowIsWorthMore(t *testing.T) {
	less := 0
	for i, w := range manyNets() {
		_, most, _ := impl.MostFlow(w)
		for _, f := range drawnFlows(i, w) {
			value, ok := impl.FlowValue(f)
			if value > most || !ok {
				t.Fatalf("MostFlow(%v) is worth %v, %v is %v %v", w, most, f, value, ok)
			}
			if value > 0 && value < most {
				less++
			}
		}
	}
	if less == 0 {
		t.Error("no flow was worth less than the most")
	}
}

func TestPromise13TheMostIsTheNarrowestCut(t *testing.T) {
	sizes, several := map[int]int{}, 0
	for _, w := range manyNets() {
		sides, least := narrowestSides(w)
		_, most, ok := impl.MostFlow(w)
		side, sideOk := impl.CutOf(w)
		if most != least || !ok || !sideOk {
			t.Fatalf("MostFlow(%v) is worth %v %v, the narrowest cut is %v wide %v", w, most, ok, least, sideOk)
		}
		if !plainlySide(side, len(w)) {
			t.Fatalf("CutOf(%v) = %v is no side", w, side)
		}
		if wide, ok := impl.CutWidth(w, side); wide != most || !ok {
			t.Fatalf("CutOf(%v) = %v is %v wide %v, not %v", w, side, wide, ok, most)
		}
		// A hall that is not come to has no need to stand there: so the side is within all others that are as narrow.
		for _, other := range sides {
			if slices.ContainsFunc(side, func(hall int) bool { return !slices.Contains(other, hall) }) {
				t.Fatalf("CutOf(%v) = %v, but %v is as narrow", w, side, other)
			}
		}
		sizes[len(side)]++
		if len(sides) > 1 {
			several++
		}
	}
	if len(sizes) != 7 || several == 0 {
		t.Errorf("sides had so many halls: %v; %d times several were as narrow", sizes, several)
	}
}

func TestCutOfIsWhatIsComeTo(t *testing.T) {
	for _, w := range manyNets() {
		f, _, _ := impl.MostFlow(w)
		reached := []int{0}
		for range w {
			for _, from := range reached {
				for to := range w {
					if plainRoom(w, f, from, to) > 0 && !slices.Contains(reached, to) {
						reached = append(reached, to)
					}
				}
			}
		}
		slices.Sort(reached)
		if side, ok := impl.CutOf(w); !slices.Equal(side, reached) || !ok {
			t.Fatalf("CutOf(%v) = %v %v, not %v", w, side, ok, reached)
		}
	}
}

func TestCutWidthByHand(t *testing.T) {
	w := [][]int{{0, 1, 2, 4}, {8, 0, 16, 32}, {3, 5, 0, 7}, {50, 50, 50, 0}}
	for _, c := range []struct {
		side []int
		want int
		ok   bool
	}{
		{[]int{0}, 7, true}, {[]int{0, 1}, 54, true}, {[]int{0, 2}, 17, true}, {[]int{0, 1, 2}, 43, true},
		// Without 0, with the last hall, not rising, with a hall beyond the net.
		{nil, 0, false}, {[]int{}, 0, false}, {[]int{1}, 0, false}, {[]int{1, 2}, 0, false}, {[]int{0, 3}, 0, false}, {[]int{3}, 0, false}, {[]int{0, 1, 2, 3}, 0, false}, {[]int{0, 0}, 0, false}, {[]int{0, 2, 1}, 0, false}, {[]int{1, 0}, 0, false}, {[]int{0, 1, 1}, 0, false}, {[]int{0, 4}, 0, false}, {[]int{0, -1}, 0, false}, {[]int{-1, 0}, 0, false}, {[]int{0, 1, 8}, 0, false},
	} {
		if got, ok := impl.CutWidth(w, c.side); got != c.want || ok != c.ok {
			t.Errorf("CutWidth(%v, %v) = %v %v, not %v %v", w, c.side, got, ok, c.want, c.ok)
		}
	}
}

func TestCutWidthOfEachSide(t *testing.T) {
	for _, w := range manyNets() {
		for _, side := range everySide(len(w)) {
			if got, ok := impl.CutWidth(w, side); got != plainCutWidth(w, side) || !ok {
				t.Fatalf("CutWidth(%v, %v) = %v %v, not %v", w, side, got, ok, plainCutWidth(w, side))
			}
		}
	}
	for halls := 2; halls <= 5; halls++ {
		w := drawnNet(0, halls)
		sides := 0
		for _, side := range everyList(append([]int{-1, halls}, countUp(halls)...), min(halls, 4)) {
			want := 0
			if plainlySide(side, halls) {
				want = plainCutWidth(w, side)
				sides++
			}
			if got, ok := impl.CutWidth(w, side); got != want || ok != plainlySide(side, halls) {
				t.Fatalf("CutWidth(%v, %v) = %v %v, not %v", w, side, got, ok, want)
			}
		}
		if sides != 1<<(halls-2) {
			t.Errorf("of %d halls there are %d sides", halls, sides)
		}
	}
	// The widest of all.
	wide := greatNets()
	all := wide[slices.IndexFunc(wide, func(w [][]int) bool { return len(w) == 8 && w[0][7] == 50 && w[3][4] == 50 && w[6][1] == 50 })]
	if got, ok := impl.CutWidth(all, []int{0, 1, 2, 3}); got != 800 || !ok {
		t.Errorf("CutWidth(%v) = %v %v", all, got, ok)
	}
}

// isRefusedNet asks all functions of a net.
func isRefusedNet(t *testing.T, w [][]int, f [][]int, l []int) {
	if impl.GoodNet(w) {
		t.Errorf("GoodNet(%v) is true", w)
	}
	if flow, most, ok := impl.MostFlow(w); len(flow) != 0 || most != 0 || ok {
		t.Errorf("MostFlow(%v) = %v %v %v", w, flow, most, ok)
	}
	if side, ok := impl.CutOf(w); len(side) != 0 || ok {
		t.Errorf("CutOf(%v) = %v %v", w, side, ok)
	}
	if wide, ok := impl.CutWidth(w, l); wide != 0 || ok {
		t.Errorf("CutWidth(%v, %v) = %v %v", w, l, wide, ok)
	}
	if is, ok := impl.IsFlow(w, f); is || ok {
		t.Errorf("IsFlow(%v, %v) = %v %v", w, f, is, ok)
	}
	isRefusedFlow(t, w, f, l)
}

// isRefusedFlow asks the functions that need a flow of the net.
func isRefusedFlow(t *testing.T, w [][]int, f [][]int, way []int) {
	if next, is, ok := impl.NextWay(w, f); len(next) != 0 || is || ok {
		t.Errorf("NextWay(%v, %v) = %v %v %v", w, f, next, is, ok)
	}
	if more, by, ok := impl.PushWay(w, f, way); len(more) != 0 || by != 0 || ok {
		t.Errorf("PushWay(%v, %v, %v) = %v %v %v", w, f, way, more, by, ok)
	}
}

func TestPromise19NoWrongNetHasAFlow(t *testing.T) {
	for _, w := range wrongNets() {
		for _, f := range [][][]int{nil, w, hallRows(len(w)), hallRows(2), hallRows(8)} {
			for _, l := range [][]int{nil, {0}, {0, 1}, {0, len(w) - 1}, countUp(len(w)), {math.MinInt, math.MaxInt}} {
				isRefusedNet(t, w, f, l)
			}
		}
	}
}

func TestPromise19NoWrongRowsAreAFlow(t *testing.T) {
	for i, w := range append(sampleNets(), greatNets()[:60]...) {
		f := drawnFlow(diceOf(i), w)
		for _, rows := range append(wrongSizes(), wrongRows(f)...) {
			// A row more or less may be good rows, of another net.
			if !plainlyHallRows(rows) {
				if value, ok := impl.FlowValue(rows); value != 0 || ok {
					t.Errorf("FlowValue(%v) = %v %v", rows, value, ok)
				}
			} else if len(rows) == len(w) {
				t.Fatalf("%v are good rows", rows)
			}
			if is, ok := impl.IsFlow(w, rows); is || ok {
				t.Errorf("IsFlow(%v, %v) = %v %v", w, rows, is, ok)
			}
			for _, way := range [][]int{nil, {0, len(w) - 1}, countUp(len(w))} {
				isRefusedFlow(t, w, rows, way)
			}
		}
		for halls := 2; halls <= 8; halls++ {
			if is, ok := impl.IsFlow(w, hallRows(halls)); is != (halls == len(w)) || ok != is {
				t.Errorf("IsFlow(%v, %v) = %v %v", w, hallRows(halls), is, ok)
			}
			if halls != len(w) {
				isRefusedFlow(t, w, hallRows(halls), []int{0, len(w) - 1})
			}
		}
	}
}

func TestPromise19NoWayIsPushedOfWhatIsNoFlow(t *testing.T) {
	not := 0
	for i, w := range greatNets() {
		f := drawnFlow(diceOf(i), w)
		for a := range w {
			for b := range w {
				for _, n := range []int{0, w[a][b], w[a][b] + 1, 50} {
					with := cloneRows(f)
					with[a][b] = min(n, 50)
					if isFlowAs(t, w, with) {
						continue
					}
					not++
					isRefusedFlow(t, w, with, []int{0, len(w) - 1})
					isRefusedFlow(t, w, with, plainNextWay(w, f))
				}
			}
		}
	}
	if not < 10000 {
		t.Errorf("%d were no flows", not)
	}
}

func TestPromise19NoWrongWayIsPushed(t *testing.T) {
	for i, w := range append(sampleNets(), greatNets()...) {
		last := len(w) - 1
		f := drawnFlow(diceOf(i), w)
		ways := [][]int{nil, {}, {0}, {last}, {0, 0}, {last, last}, {last, 0}, {0, last, last}, {0, 0, last}, {0, last, 0}, {0, last, 0, last}, {1, last}, {0, last - 1}, countDown(len(w)), countUp(len(w) + 1), countUp(10000), slices.Repeat([]int{0, last}, 5000), slices.Repeat([]int{0}, 10000)}
		next := plainNextWay(w, f)
		if len(next) > 0 {
			ways = append(ways, next[1:], next[:len(next)-1], append([]int{0}, next...), append(slices.Clone(next), last))
		}
		for _, n := range append([]int{len(w), len(w) + 1, 8, 9}, endInts...) {
			ways = append(ways, []int{0, n, last}, []int{n, last}, []int{0, n}, []int{n}, []int{n, n})
			ways = append(ways, badNumbers(next, n)...)
			if len(next) > 0 {
				ways = append(ways, slices.Insert(slices.Clone(next), 1, n))
			}
		}
		for _, way := range ways {
			if isPushedAs(t, w, f, way) {
				t.Errorf("of %v and %v %v is pushed", w, f, way)
			}
		}
	}
}

func TestPromise19NoWrongSideIsCut(t *testing.T) {
	for _, w := range append(sampleNets(), greatNets()...) {
		last := len(w) - 1
		sides := [][]int{nil, {}, {last}, {0, last}, {0, 0}, countUp(len(w)), countDown(len(w)), countUp(len(w) + 1), countUp(len(w))[1:], countUp(10000), make([]int, 10000), slices.Repeat([]int{0, 1}, 5000)}
		for _, n := range append([]int{last, len(w), len(w) + 1, 8, 9}, endInts...) {
			for _, side := range [][]int{{0}, countUp(last)} {
				sides = append(sides, badNumbers(side, n)...)
			}
		}
		for _, side := range sides {
			if wide, ok := impl.CutWidth(w, side); wide != 0 || ok {
				t.Errorf("CutWidth(%v, %v) = %v %v", w, side, wide, ok)
			}
		}
	}
}

func TestPromise19FlowsShareNothing(t *testing.T) {
	for i, w := range greatNets() {
		f := drawnFlow(diceOf(i), w)
		wantW, wantF := cloneRows(w), cloneRows(f)
		most, value, _ := impl.MostFlow(w)
		again, _, _ := impl.MostFlow(w)
		side, _ := impl.CutOf(w)
		way, is, _ := impl.NextWay(w, f)
		more, _, _ := impl.PushWay(w, f, way)
		wantMost, wantSide, wantMore := cloneRows(most), slices.Clone(side), cloneRows(more)
		// The lists of rows are new, too: the arguments' rows stand there behind a write into them.
		rows := slices.Concat(most, again, more)
		clear(most[:cap(most)])
		clear(again[:cap(again)])
		clear(more[:cap(more)])
		if !equalRows(w, wantW) || !equalRows(f, wantF) {
			t.Fatalf("behind a write into answers' rows: %v and %v, not %v and %v", w, f, wantW, wantF)
		}
		shareNone(t, "chapter 13", slices.Concat(rows, w, f, [][]int{side, way})...)
		w, f = wantW, wantF
		most, worth, _ := impl.MostFlow(w)
		side, _ = impl.CutOf(w)
		way, _, _ = impl.NextWay(w, f)
		more, _, ok := impl.PushWay(w, f, way)
		if !equalRows(most, wantMost) || worth != value || !slices.Equal(side, wantSide) || !equalRows(more, wantMore) || ok != is {
			t.Errorf("%v %v %v %v %v behind a write into earlier answers", most, worth, side, more, ok)
		}
	}
}

func TestPromise19FlowsOfNoChangeAreNew(t *testing.T) {
	w := hallRows(3, [3]int{0, 1, 5}, [3]int{1, 2, 5}, [3]int{0, 2, 5})
	f := hallRows(3, [3]int{0, 1, 2}, [3]int{1, 2, 2})
	more, by, ok := impl.PushWay(w, f, []int{0, 2})
	if by != 5 || !ok {
		t.Fatal(more, by, ok)
	}
	// The rows of halls 1 and 2 are as they were: they could have been handed out as they are.
	shareNone(t, "PushWay", slices.Concat(more, f, w)...)
	none, _, _ := impl.MostFlow(hallRows(4))
	shareNone(t, "MostFlow", none...)
}

// netHangsOn tells whether a function of a net alone, or of a side, answers otherwise for cut than for plain lists.
func netHangsOn(w [][]int, cut [][]int, l []int, cutL []int) bool {
	w, l = cloneRows(w), slices.Clone(l)
	flow, most, ok := impl.MostFlow(w)
	cutFlow, cutMost, cutOk := impl.MostFlow(cut)
	side, sideOk := impl.CutOf(w)
	cutSide, cutSideOk := impl.CutOf(cut)
	wide, wideOk := impl.CutWidth(w, l)
	cutWide, cutWideOk := impl.CutWidth(cut, cutL)
	return impl.GoodNet(w) != impl.GoodNet(cut) ||
		!equalRows(flow, cutFlow) || most != cutMost || ok != cutOk ||
		!slices.Equal(side, cutSide) || sideOk != cutSideOk || wide != cutWide || wideOk != cutWideOk
}

// flowHangsOn tells the same of the functions of a flow, or of a way.
func flowHangsOn(w [][]int, cut [][]int, f [][]int, cutF [][]int, l []int, cutL []int) bool {
	w, f, l = cloneRows(w), cloneRows(f), slices.Clone(l)
	is, isOk := impl.IsFlow(w, f)
	cutIs, cutIsOk := impl.IsFlow(cut, cutF)
	value, valueOk := impl.FlowValue(f)
	cutValue, cutValueOk := impl.FlowValue(cutF)
	next, nextIs, nextOk := impl.NextWay(w, f)
	cutNext, cutNextIs, cutNextOk := impl.NextWay(cut, cutF)
	more, by, moreOk := impl.PushWay(w, f, l)
	cutMore, cutBy, cutMoreOk := impl.PushWay(cut, cutF, cutL)
	return is != cutIs || isOk != cutIsOk || value != cutValue || valueOk != cutValueOk ||
		!slices.Equal(next, cutNext) || nextIs != cutNextIs || nextOk != cutNextOk ||
		!equalRows(more, cutMore) || by != cutBy || moreOk != cutMoreOk
}

// areWrittenTo asks all functions of cut lists, and holds these against the plain ones behind it.
func areWrittenTo(t *testing.T, w [][]int, f [][]int, l []int, behind int) {
	cut, cutF, cutL := cutCosts(w, behind), cutCosts(f, behind), cutList(l, behind)
	before, beforeF := fullCosts(cut), fullCosts(cutF)
	if netHangsOn(w, cut, l, cutL) || flowHangsOn(w, cut, f, cutF, l, cutL) {
		t.Errorf("what is told of %v, %v and %v hangs on what lies behind them", w, f, l)
	}
	isAsBefore(t, cutL, l, behind)
	if !equalRows(fullCosts(cut), before) || !equalRows(fullCosts(cutF), beforeF) {
		t.Errorf("%v and %v were made of %v and %v", fullCosts(cut), fullCosts(cutF), before, beforeF)
	}
}

func TestPromise19NoNetsFlowsWaysOrSidesAreWritten(t *testing.T) {
	pushed := 0
	for i, w := range append(greatNets(), sampleNets()...) {
		f := drawnFlow(diceOf(i), w)
		next := plainNextWay(w, f)
		if next != nil {
			pushed++
		}
		side, _ := impl.CutOf(cloneRows(w))
		for _, behind := range []int{-1, 0, 1, 50, len(w)} {
			for _, l := range [][]int{nil, next, side, countUp(len(w)), countUp(len(w) - 1), countDown(len(w)), {0, len(w) - 1}, {0, math.MaxInt, math.MinInt}} {
				areWrittenTo(t, w, f, l, behind)
			}
		}
	}
	if pushed < 100 {
		t.Errorf("%d flows had a way", pushed)
	}
	for _, w := range wrongNets() {
		for _, f := range [][][]int{nil, w, hallRows(3, [3]int{0, 1, 2}, [3]int{1, 2, 2})} {
			areWrittenTo(t, w, f, []int{0, 1, 2}, 1)
		}
		areWrittenTo(t, hallRows(3, [3]int{0, 1, 2}, [3]int{1, 2, 2}), w, []int{0, 1, 2}, 1)
	}
}
