package tests

import (
	"math"
	"slices"
	"testing"

	"loop.example/g00451/impl"
)

// boxesOf reads boxes that are told one after the other, each with a -1 behind it.
func boxesOf(numbers ...int) [][]int {
	all, box := [][]int{}, []int{}
	for _, n := range numbers {
		if n == -1 {
			all, box = append(all, box), []int{}
			continue
		}
		box = append(box, n)
	}
	return all
}

// plainHeld needs numbers of items.
func plainHeld(l []int, box []int) int {
	held := 0
	for _, number := range box {
		held += l[number]
	}
	return held
}

// plainFill takes the items in that order, and looks through the boxes from the first one on.
func plainFill(l []int, order []int) [][]int {
	var boxes [][]int
next:
	for _, number := range order {
		for i, box := range boxes {
			if plainHeld(l, box)+l[number] <= 20 {
				boxes[i] = append(box, number)
				continue next
			}
		}
		boxes = append(boxes, []int{number})
	}
	return boxes
}

// fromGreatest goes down through all sizes, and through the items for each one.
func fromGreatest(l []int) []int {
	order := []int{}
	for size := 20; size > 0; size-- {
		for number := range l {
			if l[number] == size {
				order = append(order, number)
			}
		}
	}
	return order
}

func plainlyItems(l []int) bool {
	return len(l) <= 9 && !slices.ContainsFunc(l, func(n int) bool { return n < 1 || n > 20 })
}

// plainlyPacking needs good items.
func plainlyPacking(l []int, boxes [][]int) bool {
	if !plainlyOrder(slices.Concat(boxes...), len(l)) {
		return false
	}
	return !slices.ContainsFunc(boxes, func(box []int) bool { return len(box) == 0 || plainHeld(l, box) > 20 })
}

// everyParting has all ways to part so many numbers, each told by the box of each number: the next one that is new has the next box.
func everyParting(many int) [][]int {
	all := [][]int{{}}
	for range many {
		var next [][]int
		for _, parts := range all {
			for box := range plainBoxes(parts) + 1 {
				next = append(next, append(slices.Clone(parts), box))
			}
		}
		all = next
	}
	return all
}

func plainBoxes(parts []int) int {
	return slices.Max(append([]int{-1}, parts...)) + 1
}

// partsIn has the numbers of each box.
func partsIn(parts []int) [][]int {
	boxes := make([][]int, plainBoxes(parts))
	for number, box := range parts {
		boxes[box] = append(boxes[box], number)
	}
	return boxes
}

// plainFewest goes through all of these partings.
func plainFewest(l []int, partings [][]int) int {
	fewest := math.MaxInt
	for _, parts := range partings {
		var held [9]int
		for number, box := range parts {
			held[box] += l[number]
		}
		if slices.Max(held[:]) <= 20 {
			fewest = min(fewest, plainBoxes(parts))
		}
	}
	return fewest
}

func partingsOf() [][][]int {
	var all [][][]int
	for many := range 10 {
		all = append(all, everyParting(many))
	}
	return all
}

// smallItems are all lists of up to 4 of sizes that just fill a box together, or are one above it.
func smallItems() [][]int {
	return everyList([]int{1, 5, 6, 9, 10, 11, 14, 15, 19, 20}, 4)
}

// drawnItems are so many of all sizes, of small or great ones, of about a third or a half of a box, or of few sizes that are often alike.
func drawnItems(i int, many int) []int {
	d := diceOf(i)
	from := []int{1, 1, 12, 4, 7, 6, 1}[i%7]
	sizes := []int{20, 5, 9, 6, 7, 2, 3}[i%7]
	step := []int{1, 1, 1, 1, 1, 1, 7}[i%7]
	l := []int{}
	for range many {
		l = append(l, from+d.below(sizes)*step)
	}
	return l
}

// greatItems are up to 9, drawn, all alike, and such that boxes filled in an order are more than are needed.
func greatItems() [][]int {
	var all [][]int
	for i := range 560 {
		all = append(all, drawnItems(i, i/7%10))
	}
	for size := 1; size <= 20; size++ {
		all = append(all, slices.Repeat([]int{size}, 9), append(slices.Repeat([]int{size}, 7), 20-size/2))
	}
	return append(all,
		[]int{11, 6, 6, 6, 5, 4}, []int{20, 8, 7, 6, 6, 6, 6}, []int{20, 15, 8, 7, 6, 6, 6, 6}, []int{20, 15, 15, 8, 7, 6, 6, 6, 6}, []int{6, 20, 6, 15, 7, 6, 15, 8, 6},
		[]int{9, 9, 11, 11}, []int{6, 6, 7, 7, 8, 11, 11}, []int{1, 1, 1, 19, 19, 19}, []int{4, 4, 4, 4, 16, 16, 16, 16}, []int{3, 3, 3, 5, 7, 7, 7, 11, 14}, countUp(10)[1:], countDown(10)[:9],
	)
}

func manyItems() [][]int {
	return append(smallItems(), greatItems()...)
}

// wrongItems have a size of no item, in the end, in the middle or at the beginning, or are too many.
func wrongItems() [][]int {
	all := [][]int{slices.Repeat([]int{1}, 10), slices.Repeat([]int{20}, 10), countUp(11)[1:], slices.Repeat([]int{2}, 1000), make([]int, 9), make([]int, 10)}
	for _, n := range append([]int{0, 21, 22, -20, 100}, endInts...) {
		all = append(all, badNumbers(nil, n)...)
		all = append(all, badNumbers([]int{7, 20, 1}, n)...)
		all = append(all, badNumbers(slices.Repeat([]int{3}, 9), n)...)
		all = append(all, slices.Repeat([]int{n}, 9))
	}
	return all
}

func TestGoodItemsAtItsEdges(t *testing.T) {
	good := [][]int{nil, {}, {1}, {20}, {1, 20}, {20, 1}, slices.Repeat([]int{1}, 9), slices.Repeat([]int{20}, 9), slices.Repeat([]int{10}, 8)}
	for _, l := range append(good, manyItems()...) {
		if !impl.GoodItems(l) || !plainlyItems(l) {
			t.Errorf("GoodItems(%v) = %v", l, impl.GoodItems(l))
		}
	}
	for _, l := range wrongItems() {
		if impl.GoodItems(l) || plainlyItems(l) {
			t.Errorf("GoodItems(%v) = %v", l, impl.GoodItems(l))
		}
	}
	for _, l := range everyList([]int{-1, 0, 1, 20, 21}, 4) {
		if impl.GoodItems(l) != plainlyItems(l) {
			t.Errorf("GoodItems(%v) = %v", l, impl.GoodItems(l))
		}
	}
}

func TestBoxLimits(t *testing.T) {
	if impl.BoxSize != 20 || impl.MaxItems != 9 {
		t.Error(impl.BoxSize, impl.MaxItems)
	}
}

func TestPackedByHand(t *testing.T) {
	for _, c := range []struct {
		l      []int
		first  [][]int
		sorted [][]int
		fewest int
		least  int
	}{
		{nil, nil, nil, 0, 0}, {[]int{}, nil, nil, 0, 0}, {[]int{1}, boxesOf(0, -1), boxesOf(0, -1), 1, 1}, {[]int{20}, boxesOf(0, -1), boxesOf(0, -1), 1, 1},
		// Just full, and one above it.
		{[]int{10, 10}, boxesOf(0, 1, -1), boxesOf(0, 1, -1), 1, 1}, {[]int{10, 11}, boxesOf(0, -1, 1, -1), boxesOf(1, -1, 0, -1), 2, 2}, {[]int{20, 1}, boxesOf(0, -1, 1, -1), boxesOf(0, -1, 1, -1), 2, 2}, {[]int{1, 19}, boxesOf(0, 1, -1), boxesOf(1, 0, -1), 1, 1}, {[]int{1, 20}, boxesOf(0, -1, 1, -1), boxesOf(1, -1, 0, -1), 2, 2},
		{slices.Repeat([]int{20}, 9), partsIn(countUp(9)), partsIn(countUp(9)), 9, 9}, {slices.Repeat([]int{1}, 9), boxesOf(0, 1, 2, 3, 4, 5, 6, 7, 8, -1), boxesOf(0, 1, 2, 3, 4, 5, 6, 7, 8, -1), 1, 1}, {slices.Repeat([]int{11}, 9), partsIn(countUp(9)), partsIn(countUp(9)), 9, 5}, {slices.Repeat([]int{10}, 9), boxesOf(0, 1, -1, 2, 3, -1, 4, 5, -1, 6, 7, -1, 8, -1), boxesOf(0, 1, -1, 2, 3, -1, 4, 5, -1, 6, 7, -1, 8, -1), 5, 5},
		// An item goes into the first box with room: not into the fullest one, not into the last one.
		{[]int{10, 15, 5}, boxesOf(0, 2, -1, 1, -1), boxesOf(1, 2, -1, 0, -1), 2, 2}, {[]int{12, 11, 8, 9}, boxesOf(0, 2, -1, 1, 3, -1), boxesOf(0, 2, -1, 1, 3, -1), 2, 2}, {[]int{12, 11, 5, 9, 3}, boxesOf(0, 2, 4, -1, 1, 3, -1), boxesOf(0, 2, 4, -1, 1, 3, -1), 2, 2}, {[]int{18, 18, 18, 2, 2, 1, 2}, boxesOf(0, 3, -1, 1, 4, -1, 2, 5, -1, 6, -1), boxesOf(0, 3, -1, 1, 4, -1, 2, 6, -1, 5, -1), 4, 4},
		// The numbers of a box stand as they came into it; of alike ones the first one comes first.
		{[]int{9, 11, 10, 10}, boxesOf(0, 1, -1, 2, 3, -1), boxesOf(1, 0, -1, 2, 3, -1), 2, 2}, {[]int{1, 2, 3, 4, 5}, boxesOf(0, 1, 2, 3, 4, -1), boxesOf(4, 3, 2, 1, 0, -1), 1, 1}, {[]int{5, 7, 5, 7, 5}, boxesOf(0, 1, 2, -1, 3, 4, -1), boxesOf(1, 3, 0, -1, 2, 4, -1), 2, 2},
		// More boxes than are needed: filled first to last, and from the greatest on.
		{[]int{9, 9, 11, 11}, boxesOf(0, 1, -1, 2, -1, 3, -1), boxesOf(2, 0, -1, 3, 1, -1), 2, 2}, {[]int{11, 6, 6, 6, 5, 4}, boxesOf(0, 1, -1, 2, 3, 4, -1, 5, -1), boxesOf(0, 1, -1, 2, 3, 4, -1, 5, -1), 2, 2}, {[]int{11, 5, 4, 6, 6, 6}, boxesOf(0, 1, 2, -1, 3, 4, 5, -1), boxesOf(0, 3, -1, 4, 5, 1, -1, 2, -1), 2, 2},
	} {
		if got, ok := impl.FirstFit(c.l); !equalRows(got, c.first) || !ok {
			t.Errorf("FirstFit(%v) = %v %v, not %v", c.l, got, ok, c.first)
		}
		if got, ok := impl.FitSorted(c.l); !equalRows(got, c.sorted) || !ok {
			t.Errorf("FitSorted(%v) = %v %v, not %v", c.l, got, ok, c.sorted)
		}
		if got, ok := impl.FewestBoxes(c.l); got != c.fewest || !ok {
			t.Errorf("FewestBoxes(%v) = %v %v, not %v", c.l, got, ok, c.fewest)
		}
		if got, ok := impl.LeastBoxes(c.l); got != c.least || !ok {
			t.Errorf("LeastBoxes(%v) = %v %v, not %v", c.l, got, ok, c.least)
		}
	}
}

func TestFirstFitGoesItemByItem(t *testing.T) {
	full, mixed := 0, 0
	for _, l := range manyItems() {
		want := plainFill(l, countUp(len(l)))
		got, ok := impl.FirstFit(l)
		if !equalRows(got, want) || !ok {
			t.Fatalf("FirstFit(%v) = %v %v, not %v", l, got, ok, want)
		}
		if is, ok := impl.IsPacking(l, got); !is || !ok || !plainlyPacking(l, got) {
			t.Fatalf("FirstFit(%v) = %v is no packing: %v %v", l, got, is, ok)
		}
		if slices.ContainsFunc(want, func(box []int) bool { return plainHeld(l, box) == 20 }) {
			full++
		}
		if !slices.IsSorted(slices.Concat(want...)) {
			mixed++
		}
	}
	if full == 0 || mixed == 0 {
		t.Errorf("a box was full %d times, an item went back to an earlier box %d times", full, mixed)
	}
}

func TestFitSortedGoesFromTheGreatestOn(t *testing.T) {
	alike, falling, unlike := 0, 0, 0
	for _, l := range manyItems() {
		order := fromGreatest(l)
		want := plainFill(l, order)
		got, ok := impl.FitSorted(l)
		if !equalRows(got, want) || !ok {
			t.Fatalf("FitSorted(%v) = %v %v, not %v", l, got, ok, want)
		}
		if is, ok := impl.IsPacking(l, got); !is || !ok || !plainlyPacking(l, got) {
			t.Fatalf("FitSorted(%v) = %v is no packing: %v %v", l, got, is, ok)
		}
		if len(slices.Compact(slices.Sorted(slices.Values(l)))) < len(l) {
			alike++
		}
		if slices.ContainsFunc(want, func(box []int) bool { return !slices.IsSorted(box) }) {
			falling++
		}
		if !equalRows(want, plainFill(l, countUp(len(l)))) {
			unlike++
		}
	}
	if alike == 0 || falling == 0 || unlike == 0 {
		t.Errorf("alike sizes %d times, a box that is not in order %d times, otherwise than FirstFit %d times", alike, falling, unlike)
	}
}

func TestLeastBoxesIsTheSumDividedUp(t *testing.T) {
	rests, boxes := map[int]int{}, map[int]int{}
	for _, l := range manyItems() {
		want := 0
		for want*20 < plainTotal(l) {
			want++
		}
		if got, ok := impl.LeastBoxes(l); got != want || !ok {
			t.Fatalf("LeastBoxes(%v) = %v %v, not %v", l, got, ok, want)
		}
		rests[plainTotal(l)%20]++
		boxes[want]++
	}
	if len(rests) != 20 || len(boxes) != 10 {
		t.Errorf("sums left so much over: %v, and were so many boxes: %v", rests, boxes)
	}
}

func TestPromise12NoPackingHasFewerBoxes(t *testing.T) {
	partings := partingsOf()
	if len(partings[4]) != 15 || len(partings[9]) != 21147 {
		t.Fatalf("%d and %d partings of 4 and 9", len(partings[4]), len(partings[9]))
	}
	fewests, above := map[int]int{}, map[int]int{}
	for _, l := range manyItems() {
		want := plainFewest(l, partings[len(l)])
		got, ok := impl.FewestBoxes(l)
		if got != want || !ok {
			t.Fatalf("FewestBoxes(%v) = %v %v, not %v", l, got, ok, want)
		}
		least, _ := impl.LeastBoxes(l)
		if got < least {
			t.Fatalf("FewestBoxes(%v) = %v, LeastBoxes %v", l, got, least)
		}
		fewests[got]++
		above[got-least]++
	}
	if len(fewests) != 10 || len(above) != 5 {
		t.Errorf("the fewest were so often: %v; so many above the least: %v", fewests, above)
	}
}

// inBounds tells of items how many more boxes than the fewest both ways of filling have.
func inBounds(t *testing.T, l []int) (int, int) {
	first, firstOk := impl.FirstFit(l)
	sorted, sortedOk := impl.FitSorted(l)
	fewest, fewestOk := impl.FewestBoxes(l)
	least, leastOk := impl.LeastBoxes(l)
	if !firstOk || !sortedOk || !fewestOk || !leastOk {
		t.Fatalf("of %v: %v %v %v %v", l, firstOk, sortedOk, fewestOk, leastOk)
	}
	// No items need no box: none is not fewer than twice none.
	if len(l) > 0 && len(first) >= 2*least || len(first) > 2*least {
		t.Fatalf("FirstFit(%v) = %v, LeastBoxes %v", l, first, least)
	}
	if 9*len(sorted) > 11*fewest+6 {
		t.Fatalf("FitSorted(%v) = %v, FewestBoxes %v", l, sorted, fewest)
	}
	if len(first) < fewest || len(sorted) < fewest {
		t.Fatalf("of %v: %v, %v, FewestBoxes %v", l, first, sorted, fewest)
	}
	return len(first) - fewest, len(sorted) - fewest
}

func TestPromise12BoxesFilledAreNotManyMore(t *testing.T) {
	first, sorted, justBelow := map[int]int{}, map[int]int{}, 0
	for i, l := range manyItems() {
		for _, items := range [][]int{l, diceOf(i).shuffled(l), slices.Sorted(slices.Values(l))} {
			moreFirst, moreSorted := inBounds(t, items)
			first[moreFirst]++
			sorted[moreSorted]++
			boxes, _ := impl.FirstFit(items)
			if least, _ := impl.LeastBoxes(items); len(boxes) == 2*least-1 && least > 1 {
				justBelow++
			}
		}
	}
	if len(first) < 3 || len(sorted) < 2 || justBelow == 0 {
		t.Errorf("filled first to last so many more: %v; from the greatest on: %v; one box below twice the least %d times", first, sorted, justBelow)
	}
}

// risingItems has all sizes of so many, the least first.
func risingItems(many int) [][]int {
	all := [][]int{{}}
	for range many {
		var next [][]int
		for _, l := range all {
			for size := slices.Max(append([]int{1}, l...)); size <= 20; size++ {
				next = append(next, append(slices.Clone(l), size))
			}
		}
		all = next
	}
	return all
}

func TestPromise12OfAllSizes(t *testing.T) {
	more := 0
	for many := range 6 {
		for _, l := range risingItems(many) {
			if moreFirst, _ := inBounds(t, l); moreFirst > 0 {
				more++
			}
		}
	}
	if more == 0 {
		t.Error("boxes filled first to last were never more than the fewest")
	}
}

func TestIsPackingByHand(t *testing.T) {
	for _, c := range []struct {
		l     []int
		boxes [][]int
		want  bool
		waste int
	}{
		{nil, nil, true, 0}, {[]int{}, [][]int{}, true, 0}, {nil, [][]int{nil}, false, 0}, {nil, [][]int{{}}, false, 0}, {nil, [][]int{{0}}, false, 0}, {nil, [][]int{{-1}}, false, 0},
		{[]int{1}, boxesOf(0, -1), true, 19}, {[]int{20}, boxesOf(0, -1), true, 0}, {[]int{1}, nil, false, 0}, {[]int{1}, [][]int{{}}, false, 0}, {[]int{1}, [][]int{{1}}, false, 0}, {[]int{1}, [][]int{{-1}}, false, 0}, {[]int{1}, [][]int{{0}, {}}, false, 0}, {[]int{1}, [][]int{{}, {0}}, false, 0}, {[]int{1}, [][]int{{0}, nil}, false, 0},
		{[]int{1}, [][]int{{0, 0}}, false, 0}, {[]int{1}, [][]int{{0}, {0}}, false, 0}, {[]int{1}, [][]int{{0, 1}}, false, 0}, {[]int{1}, [][]int{{0, -1}}, false, 0}, {[]int{1}, [][]int{{0}, {1}}, false, 0}, {[]int{1}, [][]int{{-1}, {0}}, false, 0}, {[]int{1}, make([][]int, 100), false, 0},
		{[]int{10, 10}, boxesOf(0, 1, -1), true, 0}, {[]int{10, 10}, boxesOf(1, 0, -1), true, 0}, {[]int{10, 10}, boxesOf(0, -1, 1, -1), true, 20}, {[]int{10, 10}, boxesOf(1, -1, 0, -1), true, 20}, {[]int{10, 10}, boxesOf(0, -1), false, 0}, {[]int{10, 10}, boxesOf(1, -1), false, 0}, {[]int{10, 10}, boxesOf(0, 0, -1), false, 0}, {[]int{10, 10}, boxesOf(0, 1, -1, 0, -1), false, 0},
		{[]int{10, 11}, boxesOf(0, 1, -1), false, 0}, {[]int{10, 11}, boxesOf(0, -1, 1, -1), true, 19}, {[]int{20, 1}, boxesOf(0, 1, -1), false, 0}, {[]int{20, 20}, boxesOf(1, -1, 0, -1), true, 0}, {[]int{1, 1, 1}, boxesOf(2, 0, -1, 1, -1), true, 37}, {[]int{1, 1, 1}, boxesOf(2, -1, 0, -1, 1, -1), true, 57}, {[]int{1, 1, 1}, boxesOf(2, -1, 0, -1, 1, -1, -1), false, 0},
		{slices.Repeat([]int{1}, 9), boxesOf(8, 7, 6, 5, 4, 3, 2, 1, 0, -1), true, 11}, {slices.Repeat([]int{1}, 9), partsIn(countUp(9)), true, 171}, {slices.Repeat([]int{1}, 9), boxesOf(8, 7, 6, 5, 4, 3, 2, 1, -1), false, 0}, {slices.Repeat([]int{1}, 9), partsIn(countUp(10)), false, 0}, {slices.Repeat([]int{20}, 9), partsIn(countUp(9)), true, 0},
	} {
		if is, ok := impl.IsPacking(c.l, c.boxes); is != c.want || !ok {
			t.Errorf("IsPacking(%v, %v) = %v %v, not %v", c.l, c.boxes, is, ok, c.want)
		}
		if waste, ok := impl.WasteOf(c.l, c.boxes); waste != c.waste || ok != c.want {
			t.Errorf("WasteOf(%v, %v) = %v %v, not %v %v", c.l, c.boxes, waste, ok, c.waste, c.want)
		}
	}
}

// isPackedAs holds IsPacking and WasteOf against the document's words.
func isPackedAs(t *testing.T, l []int, boxes [][]int) bool {
	want, waste := plainlyPacking(l, boxes), 0
	if want {
		for _, box := range boxes {
			waste += 20 - plainHeld(l, box)
		}
	}
	if is, ok := impl.IsPacking(l, boxes); is != want || !ok {
		t.Fatalf("IsPacking(%v, %v) = %v %v, not %v", l, boxes, is, ok, want)
	}
	if got, ok := impl.WasteOf(l, boxes); got != waste || ok != want {
		t.Fatalf("WasteOf(%v, %v) = %v %v, not %v %v", l, boxes, got, ok, waste, want)
	}
	return want
}

// everyBoxes has all lists of up to so many boxes of up to so many numbers.
func everyBoxes(numbers []int, inBox int, many int) [][][]int {
	boxes := everyList(numbers, inBox)
	var all [][][]int
	for _, some := range everyList(countUp(len(boxes)), many) {
		var l [][]int
		for _, n := range some {
			l = append(l, boxes[n])
		}
		all = append(all, l)
	}
	return all
}

func TestIsPackingOfEachBoxes(t *testing.T) {
	two := everyBoxes([]int{-1, 0, 1, 2}, 2, 3)
	three := everyBoxes([]int{-1, 0, 1, 2, 3}, 3, 2)
	are := 0
	for _, l := range [][]int{nil, {1}, {20}, {10, 10}, {10, 11}, {20, 20}, {1, 1}} {
		for _, boxes := range two {
			if isPackedAs(t, l, boxes) {
				are++
			}
		}
	}
	// The orders of boxes and in these: 1 of no items; 1 for one; 2 in one box and 2 in two for two that fit together, 2 for others.
	if are != 1+1+1+4+2+2+4 {
		t.Errorf("%d lists of boxes are packings", are)
	}
	are = 0
	for _, l := range [][]int{{1, 1, 1}, {10, 9, 1}, {10, 10, 1}, {1, 10, 10}, {19, 2, 19}} {
		for _, boxes := range three {
			if isPackedAs(t, l, boxes) {
				are++
			}
		}
	}
	// Three in one box in 6 orders; two in one in 2, on either side of the third one.
	if are != (6+12)+(6+12)+12+12+0 {
		t.Errorf("%d lists of boxes of three items are packings", are)
	}
}

func TestIsPackingOfEachParting(t *testing.T) {
	is, not := 0, 0
	for many, partings := range partingsOf() {
		for i := range 7 {
			l := drawnItems(i+many, many)
			for _, parts := range partings {
				if isPackedAs(t, l, partsIn(parts)) {
					is++
				} else {
					not++
				}
			}
		}
	}
	if is == 0 || not == 0 {
		t.Errorf("%d partings are packings, %d not", is, not)
	}
}

// otherBoxes are drawn from boxes: mixed, parted, put together, with an item less or more, or with another number in the place of one.
func otherBoxes(d *dice, boxes [][]int, many int) [][][]int {
	mixed := cloneRows(boxes)
	for i, box := range mixed {
		mixed[i] = d.shuffled(box)
	}
	slices.Reverse(mixed)
	at := d.below(len(mixed))
	box := mixed[at]
	cut := d.below(len(box))
	all := [][][]int{mixed, slices.Concat(mixed[:at], mixed[at+1:]), slices.Concat(mixed, mixed[at:at+1]), append(slices.Clone(mixed), nil), append([][]int{{}}, mixed...)}
	with := func(some ...[]int) [][]int { return slices.Concat(mixed[:at], some, mixed[at+1:]) }
	all = append(all, with(box[:cut], box[cut:]), with(box[:cut], nil, box[cut:]), with(slices.Concat(box[:cut], box[cut+1:])), with(slices.Concat(box[cut:], box)), with(box[cut:], box))
	next := (at + 1) % len(mixed)
	both := slices.Concat(box, mixed[next])
	all = append(all, append([][]int{both}, withoutBoxes(mixed, at, next)...))
	for _, n := range append([]int{many, many + 1, 9, 10, 20, d.below(many)}, endInts...) {
		for _, list := range badNumbers(box, n) {
			all = append(all, with(list))
		}
		all = append(all, append(slices.Clone(mixed), []int{n}))
	}
	return all
}

func withoutBoxes(boxes [][]int, a int, b int) [][]int {
	var left [][]int
	for _, n := range withoutThese(len(boxes), []int{a, b}) {
		left = append(left, boxes[n])
	}
	return left
}

func TestIsPackingOfDrawnBoxes(t *testing.T) {
	is, not := 0, 0
	for i, l := range greatItems() {
		if len(l) == 0 {
			continue
		}
		for _, fill := range []func([]int) ([][]int, bool){impl.FirstFit, impl.FitSorted} {
			boxes, _ := fill(l)
			for _, other := range otherBoxes(diceOf(i), boxes, len(l)) {
				if isPackedAs(t, l, other) {
					is++
				} else {
					not++
				}
			}
		}
	}
	if is < 1000 || not < 1000 {
		t.Errorf("%d boxes are packings, %d not", is, not)
	}
}

func TestWasteOfIsLeastInTheFewest(t *testing.T) {
	for _, l := range manyItems() {
		fewest, _ := impl.FewestBoxes(l)
		for _, fill := range []func([]int) ([][]int, bool){impl.FirstFit, impl.FitSorted} {
			boxes, _ := fill(l)
			waste, ok := impl.WasteOf(l, boxes)
			if waste != 20*len(boxes)-plainTotal(l) || waste < 20*fewest-plainTotal(l) || !ok {
				t.Fatalf("WasteOf(%v, %v) = %v %v", l, boxes, waste, ok)
			}
		}
	}
}

func TestPromise19NoWrongItemsArePacked(t *testing.T) {
	wrong := wrongItems()
	if len(wrong) < 200 {
		t.Errorf("%d wrong items", len(wrong))
	}
	for _, l := range wrong {
		if got, ok := impl.FirstFit(l); len(got) != 0 || ok {
			t.Errorf("FirstFit(%v) = %v %v", l, got, ok)
		}
		if got, ok := impl.FitSorted(l); len(got) != 0 || ok {
			t.Errorf("FitSorted(%v) = %v %v", l, got, ok)
		}
		if got, ok := impl.FewestBoxes(l); got != 0 || ok {
			t.Errorf("FewestBoxes(%v) = %v %v", l, got, ok)
		}
		if got, ok := impl.LeastBoxes(l); got != 0 || ok {
			t.Errorf("LeastBoxes(%v) = %v %v", l, got, ok)
		}
		for _, boxes := range [][][]int{nil, {nil}, {{0}}, {countUp(len(l))}, partsIn(countUp(len(l))), {{-1}}, {{math.MinInt, math.MaxInt}}} {
			isRefusedPacking(t, l, boxes)
		}
	}
}

func isRefusedPacking(t *testing.T, l []int, boxes [][]int) {
	if is, ok := impl.IsPacking(l, boxes); is || ok {
		t.Errorf("IsPacking(%v, %v) = %v %v", l, boxes, is, ok)
	}
	if waste, ok := impl.WasteOf(l, boxes); waste != 0 || ok {
		t.Errorf("WasteOf(%v, %v) = %v %v", l, boxes, waste, ok)
	}
}

func TestPromise19NoWrongBoxesArePackings(t *testing.T) {
	great := slices.Repeat([][]int{{0}, {1, 2}}, 5000)
	for _, l := range [][]int{nil, {1}, {20}, {10, 10, 1}, slices.Repeat([]int{1}, 9), slices.Repeat([]int{20}, 9)} {
		wrong := [][][]int{{nil}, {{}}, make([][]int, 10000), great, {slices.Repeat([]int{0}, 10000)}, {countUp(10000)}, partsIn(countUp(10)), {countUp(len(l) + 1)}}
		for _, n := range append([]int{len(l), len(l) + 1, 9, 20}, endInts...) {
			wrong = append(wrong, [][]int{{n}}, [][]int{slices.Repeat([]int{n}, len(l)+1)}, append(partsIn(countUp(len(l))), []int{n}), append([][]int{{n}}, partsIn(countUp(len(l)))...), [][]int{countUp(len(l) + 2)[1:]})
		}
		for _, boxes := range wrong {
			if isPackedAs(t, l, boxes) {
				t.Errorf("of %v %v is a packing", l, boxes)
			}
		}
	}
}

func TestPromise19BoxesShareNothing(t *testing.T) {
	for many := 1; many <= 9; many++ {
		for i := range 7 {
			l := drawnItems(i, many)
			first, firstOk := impl.FirstFit(l)
			sorted, sortedOk := impl.FitSorted(l)
			again, _ := impl.FirstFit(l)
			if !firstOk || !sortedOk {
				t.Fatal(first, sorted)
			}
			wantFirst, wantSorted := cloneRows(first), cloneRows(sorted)
			lists := slices.Concat(first, sorted, again)
			shareNone(t, "chapter 12", append(lists, l)...)
			again[0] = nil
			l = drawnItems(i, many)
			first, _ = impl.FirstFit(l)
			sorted, _ = impl.FitSorted(l)
			if !equalRows(first, wantFirst) || !equalRows(sorted, wantSorted) {
				t.Errorf("%v %v behind a write into earlier answers", first, sorted)
			}
		}
	}
}

// cutBoxes lets two more numbers stand behind each box's length, and two more boxes behind the boxes'.
func cutBoxes(boxes [][]int, behind int) [][]int {
	var cut [][]int
	for _, box := range boxes {
		cut = append(cut, cutList(box, behind))
	}
	return append(cut, []int{behind}, []int{behind})[:len(boxes)]
}

// packingsHangOn tells whether a function answers otherwise for cut than for plain lists.
func packingsHangOn(l []int, cut []int, boxes [][]int, cutBoxes [][]int) bool {
	l, boxes = slices.Clone(l), cloneRows(boxes)
	first, firstOk := impl.FirstFit(l)
	cutFirst, cutFirstOk := impl.FirstFit(cut)
	sorted, sortedOk := impl.FitSorted(l)
	cutSorted, cutSortedOk := impl.FitSorted(cut)
	fewest, fewestOk := impl.FewestBoxes(l)
	cutFewest, cutFewestOk := impl.FewestBoxes(cut)
	least, leastOk := impl.LeastBoxes(l)
	cutLeast, cutLeastOk := impl.LeastBoxes(cut)
	is, isOk := impl.IsPacking(l, boxes)
	cutIs, cutIsOk := impl.IsPacking(cut, cutBoxes)
	waste, wasteOk := impl.WasteOf(l, boxes)
	cutWaste, cutWasteOk := impl.WasteOf(cut, cutBoxes)
	return impl.GoodItems(l) != impl.GoodItems(cut) ||
		!equalRows(first, cutFirst) || firstOk != cutFirstOk || !equalRows(sorted, cutSorted) || sortedOk != cutSortedOk ||
		fewest != cutFewest || fewestOk != cutFewestOk || least != cutLeast || leastOk != cutLeastOk ||
		is != cutIs || isOk != cutIsOk || waste != cutWaste || wasteOk != cutWasteOk
}

func TestPromise19NoItemsOrBoxesAreWritten(t *testing.T) {
	for _, l := range append(wrongItems(), greatItems()...) {
		plainlyFilled, _ := impl.FitSorted(l)
		for _, behind := range []int{-1, 0, 1, 20, 21, len(l)} {
			cut := cutList(l, behind)
			for _, boxes := range [][][]int{nil, plainlyFilled, partsIn(countUp(len(l))), {countUp(len(l))}, {{}, {-1}}, {{0, math.MaxInt}, {math.MinInt}}} {
				cutOnes := cutBoxes(boxes, behind)
				if packingsHangOn(l, cut, boxes, cutOnes) {
					t.Errorf("what is told of %v and %v hangs on what lies behind them", l, boxes)
				}
				isAsBefore(t, cut, l, behind)
				for i, box := range boxes {
					isAsBefore(t, cutOnes[i], box, behind)
				}
				if !equalRows(cutOnes[:len(boxes)+2], slices.Concat(boxes, [][]int{{behind}, {behind}})) {
					t.Errorf("%v was made of %v", cutOnes[:len(boxes)+2], boxes)
				}
			}
		}
	}
}
