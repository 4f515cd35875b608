package tests

import (
	"fmt"
	"math"
	"regexp"
	"slices"
	"strings"
	"testing"
	"unsafe"

	"loop.example/g00451/impl"
)

func sheet(goods []impl.Good, lines ...impl.Line) impl.Sheet {
	return impl.Sheet{Goods: goods, Lines: lines}
}

func cloneSheet(s impl.Sheet) impl.Sheet {
	return sheet(slices.Clone(s.Goods), slices.Clone(s.Lines)...)
}

func sameSheet(a impl.Sheet, b impl.Sheet) bool {
	return slices.Equal(a.Goods, b.Goods) && slices.Equal(a.Lines, b.Lines)
}

func isNoSheet(s impl.Sheet) bool {
	return len(s.Goods) == 0 && len(s.Lines) == 0
}

var (
	threeWords = regexp.MustCompile(`^(good|pick) ([^ ]+) ([^ ]+)$`)
	nameForm   = regexp.MustCompile(`^[a-z]{1,8}$`)
	sizeForm   = regexp.MustCompile(`^([1-9]|[1-9][0-9]|100)$`)
	manyForm   = regexp.MustCompile(`^([1-9]|[1-9][0-9])$`)
)

func plainlySheet(s impl.Sheet) bool {
	names := map[string]int{}
	for _, g := range s.Goods {
		names[g.Name]++
		if !nameForm.MatchString(g.Name) || g.Size < 1 || g.Size > 100 {
			return false
		}
	}
	for _, l := range s.Lines {
		if l.Good < 0 || l.Good >= len(s.Goods) || l.Many < 1 || l.Many > 99 {
			return false
		}
	}
	return len(names) == len(s.Goods) && len(s.Goods) <= 12 && len(s.Lines) <= 80
}

// plainText needs a good sheet.
func plainText(s impl.Sheet) string {
	text := ""
	for _, g := range s.Goods {
		text += fmt.Sprintf("good %s %d\n", g.Name, g.Size)
	}
	for _, l := range s.Lines {
		text += fmt.Sprintf("pick %s %d\n", s.Goods[l.Good].Name, l.Many)
	}
	return text
}

// plainFault is that of a line of words that are a Name and a number, behind what has been told.
func plainFault(s impl.Sheet, word string, known bool) int {
	switch {
	case word == "good" && known:
		return 4
	case word == "pick" && !known:
		return 5
	case word == "good" && len(s.Goods) >= 12 || word == "pick" && len(s.Lines) >= 80:
		return 6
	}
	return 0
}

// plainTold is the sheet with one more line, or as it was, and the code of the line's fault.
func plainTold(s impl.Sheet, text string) (impl.Sheet, int) {
	words := threeWords.FindStringSubmatch(text)
	if words == nil {
		return s, 1
	}
	form := map[string]*regexp.Regexp{"good": sizeForm, "pick": manyForm}[words[1]]
	if !nameForm.MatchString(words[2]) {
		return s, 2
	}
	if !form.MatchString(words[3]) {
		return s, 3
	}
	number := slices.IndexFunc(s.Goods, func(g impl.Good) bool { return g.Name == words[2] })
	if code := plainFault(s, words[1], number >= 0); code != 0 {
		return s, code
	}
	n := 0
	fmt.Sscan(words[3], &n)
	if words[1] == "good" {
		return sheet(append(slices.Clone(s.Goods), good(words[2], n)), s.Lines...), 0
	}
	return sheet(s.Goods, append(slices.Clone(s.Lines), line(number, n))...), 0
}

func plainParse(text string) (impl.Sheet, int, int, bool) {
	if len(text) > 2000 || text != "" && !strings.HasSuffix(text, "\n") {
		return impl.Sheet{}, 7, 0, false
	}
	var s impl.Sheet
	at := 0
	for l := range strings.Lines(text) {
		next, code := plainTold(s, strings.TrimSuffix(l, "\n"))
		if code != 0 {
			return impl.Sheet{}, code, at, false
		}
		s = next
		at++
	}
	return s, 0, 0, true
}

// isParsedAs holds ParseSheet against the document's words, and tells the code.
func isParsedAs(t *testing.T, text string) int {
	want, wantCode, wantAt, wantOk := plainParse(text)
	got, code, at, ok := impl.ParseSheet(text)
	if !sameSheet(got, want) || code != wantCode || at != wantAt || ok != wantOk {
		t.Fatalf("ParseSheet(%q) = %v %v %v %v, not %v %v %v %v", text, got, code, at, ok, want, wantCode, wantAt, wantOk)
	}
	return code
}

// isFault asks for a code that is told by hand.
func isFault(t *testing.T, text string, wantCode int, wantAt int) {
	if got, code, at, ok := impl.ParseSheet(text); !isNoSheet(got) || code != wantCode || at != wantAt || ok {
		t.Errorf("ParseSheet(%q) = %v %v %v %v, not %v %v", text, got, code, at, ok, wantCode, wantAt)
	}
}

// isRead asks for a sheet that is told by hand.
func isRead(t *testing.T, text string, want impl.Sheet) {
	if got, code, at, ok := impl.ParseSheet(text); !sameSheet(got, want) || code != 0 || at != 0 || !ok {
		t.Errorf("ParseSheet(%q) = %v %v %v %v, not %v", text, got, code, at, ok, want)
	}
}

// longGoods have the longest names and the longest Size.
func longGoods(many int) []impl.Good {
	var l []impl.Good
	for i := range many {
		l = append(l, good("abcdefg"+string(rune('z'-i)), 100))
	}
	return l
}

func longSheet(goods int, lines int) impl.Sheet {
	s := sheet(longGoods(goods))
	for i := range lines {
		s.Lines = append(s.Lines, line(i*5%goods, 99-i%90))
	}
	return s
}

// drawnName begins as others do, or is short, so that names are often alike or alike at the front.
func drawnName(d *dice) string {
	name := []byte("goodpick")[:d.below(9)]
	for len(name) == 0 || len(name) < 8 && d.below(2) == 0 {
		name = append(name, byte('a'+d.below(26)))
	}
	return string(name)
}

func drawnGoods(d *dice, many int) []impl.Good {
	var l []impl.Good
	for len(l) < many {
		g := good(drawnName(d), []int{1 + d.below(100), 1 + 99*d.below(2)}[d.below(2)])
		if !slices.ContainsFunc(l, func(other impl.Good) bool { return other.Name == g.Name }) {
			l = append(l, g)
		}
	}
	return l
}

func drawnLines(d *dice, goods int, many int) []impl.Line {
	var l []impl.Line
	for goods > 0 && len(l) < many {
		l = append(l, line(d.below(goods), []int{1 + d.below(99), 1 + 98*d.below(2)}[d.below(2)]))
	}
	return l
}

// drawnSheet is good.
func drawnSheet(i int) impl.Sheet {
	d := diceOf(i)
	goods := drawnGoods(d, []int{d.below(13), 12, 1}[max(0, d.below(8)-5)])
	return sheet(goods, drawnLines(d, len(goods), []int{d.below(81), 80, 0}[max(0, d.below(8)-5)])...)
}

// sampleSheets are of no goods, of as many as may be, and between them.
func sampleSheets() []impl.Sheet {
	return []impl.Sheet{
		{}, sheet([]impl.Good{}, []impl.Line{}...), sheet(manyGoods(1)), sheet(manyGoods(1), line(0, 99)), sheet(manyGoods(3)), sheet(manyGoods(3), line(2, 1), line(0, 99), line(2, 1)),
		sheet(manyGoods(12)), sheet(manyGoods(12), manyLines(12, 80)...), sheet(manyGoods(1), manyLines(1, 80)...), longSheet(12, 80), longSheet(1, 1),
		sheet([]impl.Good{good("good", 1), good("pick", 100)}, line(1, 1), line(0, 99)), sheet([]impl.Good{good("a", 1), good("aa", 10), good("aaaaaaaa", 100)}, line(1, 10)),
	}
}

func manySheets() []impl.Sheet {
	all := sampleSheets()
	for i := range 2000 {
		all = append(all, drawnSheet(i))
	}
	return all
}

// wrongSheets have goods or lines that are not as said.
func wrongSheets() []impl.Sheet {
	var all []impl.Sheet
	for _, goods := range wrongGoods() {
		all = append(all, sheet(goods), sheet(goods, line(0, 1)), sheet(goods, line(len(goods)-1, 99)), sheet(goods, line(-1, 0)))
	}
	for _, goods := range []int{0, 1, 2, 12} {
		for _, lines := range wrongLines(goods) {
			all = append(all, sheet(manyGoods(goods), lines...))
		}
	}
	return append(all, sheet(nil, line(0, 1)), sheet(longGoods(12), manyLines(12, 81)...), sheet(append(manyGoods(12), good("z", 1)), manyLines(13, 80)...), sheet(slices.Repeat(manyGoods(1), 2), slices.Repeat([]impl.Line{line(math.MinInt, math.MaxInt)}, 81)...))
}

func TestSheetNumbers(t *testing.T) {
	if got, want := []int{impl.MaxSheet, impl.ShWord, impl.ShName, impl.ShNumber, impl.ShTwice, impl.ShNone, impl.ShMany, impl.ShEnd}, []int{2000, 1, 2, 3, 4, 5, 6, 7}; !slices.Equal(got, want) {
		t.Error(got)
	}
}

func TestGoodSheetAtItsEdges(t *testing.T) {
	for _, s := range manySheets() {
		if !impl.GoodSheet(s) || !plainlySheet(s) {
			t.Errorf("GoodSheet(%v) = %v", s, impl.GoodSheet(s))
		}
	}
	wrong := wrongSheets()
	if len(wrong) < 1000 {
		t.Errorf("%d wrong sheets", len(wrong))
	}
	for _, s := range wrong {
		if impl.GoodSheet(s) || plainlySheet(s) {
			t.Errorf("GoodSheet(%v) = %v", s, impl.GoodSheet(s))
		}
	}
	for goods := range 15 {
		for _, lines := range []int{0, 1, 79, 80, 81, 82, 1000} {
			for _, many := range []int{0, 1, 99, 100} {
				for _, number := range []int{-1, 0, goods - 1, goods} {
					s := sheet(manyGoods(goods), slices.Repeat([]impl.Line{line(number, many)}, lines)...)
					want := goods <= 12 && (lines == 0 || lines <= 80 && many >= 1 && many <= 99 && number >= 0 && number < goods)
					if impl.GoodSheet(s) != want {
						t.Errorf("GoodSheet of %d goods and %d lines %v is not %v", goods, lines, line(number, many), want)
					}
				}
			}
		}
	}
}

func TestSheetsByHand(t *testing.T) {
	for _, c := range []struct {
		text string
		s    impl.Sheet
	}{
		{"", impl.Sheet{}},
		{"good nail 3\n", sheet([]impl.Good{good("nail", 3)})},
		{"good nail 3\npick nail 2\n", sheet([]impl.Good{good("nail", 3)}, line(0, 2))},
		{"good a 1\ngood z 100\npick z 99\npick a 1\npick z 10\n", sheet([]impl.Good{good("a", 1), good("z", 100)}, line(1, 99), line(0, 1), line(1, 10))},
		{"good abcdefgh 10\ngood abcdefg 9\ngood bcdefgh 90\npick abcdefg 90\n", sheet([]impl.Good{good("abcdefgh", 10), good("abcdefg", 9), good("bcdefgh", 90)}, line(1, 90))},
		// Two lines alike are two lines; and the first words are names, too.
		{"good pick 1\ngood good 2\npick good 5\npick pick 5\npick good 5\n", sheet([]impl.Good{good("pick", 1), good("good", 2)}, line(1, 5), line(0, 5), line(1, 5))},
	} {
		isRead(t, c.text, c.s)
		if text, ok := impl.PrintSheet(c.s); text != c.text || !ok {
			t.Errorf("PrintSheet(%v) = %q %v, not %q", c.s, text, ok, c.text)
		}
	}
	// A good may come behind picks of others: they go to their lists all the same.
	isRead(t, "good a 1\npick a 2\ngood b 3\npick b 4\npick a 5\n", sheet([]impl.Good{good("a", 1), good("b", 3)}, line(0, 2), line(1, 4), line(0, 5)))
}

func TestPrintSheetOfManySheets(t *testing.T) {
	for _, s := range manySheets() {
		if text, ok := impl.PrintSheet(s); text != plainText(s) || !ok {
			t.Fatalf("PrintSheet(%v) = %q %v", s, text, ok)
		}
	}
}

func TestPromise15SheetsComeBack(t *testing.T) {
	goods, lines := map[int]int{}, map[int]int{}
	for _, s := range manySheets() {
		text, ok := impl.PrintSheet(s)
		if !ok || len(text) > 2000 {
			t.Fatalf("PrintSheet(%v) = %q %v", s, text, ok)
		}
		isRead(t, text, s)
		goods[len(s.Goods)]++
		lines[len(s.Lines)]++
	}
	if len(goods) != 13 || len(lines) != 81 {
		t.Errorf("so many goods and lines were drawn: %v, %v", goods, lines)
	}
}

// No good sheet has a longer text than that of the most and longest lines: promise 15 leaves none out.
func TestPromise15TheLongestSheetComesBack(t *testing.T) {
	s := longSheet(12, 80)
	text, ok := impl.PrintSheet(s)
	if longest := 12*len("good abcdefgh 100\n") + 80*len("pick abcdefgh 99\n"); len(text) != longest || longest > 2000 || !ok {
		t.Errorf("the text has %d bytes, the longest one %d: %v", len(text), longest, ok)
	}
	isRead(t, text, s)
}

// Each name of one letter, each Size and each Many comes back.
func TestPromise15EachPartComesBack(t *testing.T) {
	for letter := 'a'; letter <= 'z'; letter++ {
		for long := 1; long <= 8; long++ {
			for _, name := range []string{strings.Repeat(string(letter), long), strings.Repeat("m", long-1) + string(letter), string(letter) + strings.Repeat("m", long-1)} {
				s := sheet([]impl.Good{good(name, 1+int(letter)%100)}, line(0, 1+int(letter)%99))
				text, ok := impl.PrintSheet(s)
				if text != plainText(s) || !ok {
					t.Errorf("PrintSheet(%v) = %q %v", s, text, ok)
				}
				isRead(t, text, s)
			}
		}
	}
	for size := 1; size <= 100; size++ {
		for many := 1; many <= 99; many++ {
			s := sheet([]impl.Good{good("nail", size)}, line(0, many))
			text, ok := impl.PrintSheet(s)
			if text != plainText(s) || !ok {
				t.Errorf("PrintSheet(%v) = %q %v", s, text, ok)
			}
			isRead(t, text, s)
		}
	}
}

func TestParseSheetFaultsByHand(t *testing.T) {
	for _, c := range []struct {
		text string
		code int
		at   int
	}{
		// No end: ahead of all else.
		{"good nail 3", impl.ShEnd, 0}, {"x", impl.ShEnd, 0}, {" ", impl.ShEnd, 0}, {"good nail 3\npick nail 2", impl.ShEnd, 0}, {"good nail 3\nx", impl.ShEnd, 0}, {"x\ngood nail 3", impl.ShEnd, 0}, {"pick nail 1\ny", impl.ShEnd, 0}, {"\n ", impl.ShEnd, 0}, {"\n\nx", impl.ShEnd, 0}, {"good nail 3\r", impl.ShEnd, 0}, {"good nail 3\n\x00", impl.ShEnd, 0},
		// No three words.
		{"\n", impl.ShWord, 0}, {"\n\n", impl.ShWord, 0}, {"good nail 3\n\n", impl.ShWord, 1}, {"\ngood nail 3\n", impl.ShWord, 0}, {"good a 1\ngood b 1\n\npick a 1\n", impl.ShWord, 2}, {" \n", impl.ShWord, 0}, {"  \n", impl.ShWord, 0}, {"good\n", impl.ShWord, 0}, {"good \n", impl.ShWord, 0}, {"good  \n", impl.ShWord, 0}, {"good nail\n", impl.ShWord, 0}, {"good 3\n", impl.ShWord, 0}, {"nail 3\n", impl.ShWord, 0}, {"good nail 3 4\n", impl.ShWord, 0}, {"good nail 3 x\n", impl.ShWord, 0}, {"good good nail 3\n", impl.ShWord, 0}, {"goodnail 3\n", impl.ShWord, 0}, {"good nail3\n", impl.ShWord, 0}, {"goodnail3\n", impl.ShWord, 0},
		// Blanks too many, or others than blanks.
		{"good  nail 3\n", impl.ShWord, 0}, {"good nail  3\n", impl.ShWord, 0}, {"good  nail  3\n", impl.ShWord, 0}, {" good nail 3\n", impl.ShWord, 0}, {"good nail 3 \n", impl.ShWord, 0}, {" good nail 3 \n", impl.ShWord, 0}, {"good nail \n", impl.ShWord, 0}, {"good  3\n", impl.ShWord, 0}, {" nail 3\n", impl.ShWord, 0}, {"pick  1\n", impl.ShWord, 0}, {"good\tnail 3\n", impl.ShWord, 0}, {"good\tnail\t3\n", impl.ShWord, 0}, {"good nail\t3\n", impl.ShWord, 0}, {"good nail 3\vx\n", impl.ShNumber, 0}, {"good\u00a0nail 3\n", impl.ShWord, 0}, {"good nail\u00a03\n", impl.ShWord, 0},
		// Another first word.
		{"Good nail 3\n", impl.ShWord, 0}, {"GOOD nail 3\n", impl.ShWord, 0}, {"goods nail 3\n", impl.ShWord, 0}, {"goo nail 3\n", impl.ShWord, 0}, {"g nail 3\n", impl.ShWord, 0}, {"nail nail 3\n", impl.ShWord, 0}, {"good nail 3\nPick nail 3\n", impl.ShWord, 1}, {"good nail 3\npic nail 3\n", impl.ShWord, 1}, {"good nail 3\npicks nail 3\n", impl.ShWord, 1}, {"print nail 3\n", impl.ShWord, 0}, {"good nail 3\nprint\n", impl.ShWord, 1}, {"goodpick nail 3\n", impl.ShWord, 0}, {"goo\x64\x00 nail 3\n", impl.ShWord, 0}, {"3 nail good\n", impl.ShWord, 0}, {"nail good 3\n", impl.ShWord, 0}, {"\ufeffgood nail 3\n", impl.ShWord, 0},
		// No Name.
		{"good Nail 3\n", impl.ShName, 0}, {"good nAil 3\n", impl.ShName, 0}, {"good naiL 3\n", impl.ShName, 0}, {"good nail1 3\n", impl.ShName, 0}, {"good 1 3\n", impl.ShName, 0}, {"good 3 nail\n", impl.ShName, 0}, {"good abcdefghi 3\n", impl.ShName, 0}, {"good abcdefghabcdefgh 3\n", impl.ShName, 0}, {"good naïl 3\n", impl.ShName, 0}, {"good é 3\n", impl.ShName, 0}, {"good \xff 3\n", impl.ShName, 0}, {"good na\x80il 3\n", impl.ShName, 0}, {"good na\x00il 3\n", impl.ShName, 0}, {"good na-il 3\n", impl.ShName, 0}, {"good na_il 3\n", impl.ShName, 0}, {"good \t 3\n", impl.ShName, 0}, {"good nail\t 3\n", impl.ShName, 0}, {"good ` 3\n", impl.ShName, 0}, {"good { 3\n", impl.ShName, 0}, {"good nail 3\npick NAIL 1\n", impl.ShName, 1}, {"good nail 3\npick 0 1\n", impl.ShName, 1}, {"pick abcdefghi 3\n", impl.ShName, 0}, {"good ａ 3\n", impl.ShName, 0},
		// No such number.
		{"good nail 0\n", impl.ShNumber, 0}, {"good nail 101\n", impl.ShNumber, 0}, {"good nail 110\n", impl.ShNumber, 0}, {"good nail 200\n", impl.ShNumber, 0}, {"good nail 999\n", impl.ShNumber, 0}, {"good nail 1000\n", impl.ShNumber, 0}, {"good nail -1\n", impl.ShNumber, 0}, {"good nail +1\n", impl.ShNumber, 0}, {"good nail -0\n", impl.ShNumber, 0}, {"good nail 00\n", impl.ShNumber, 0}, {"good nail 000\n", impl.ShNumber, 0}, {"good nail 01\n", impl.ShNumber, 0}, {"good nail 001\n", impl.ShNumber, 0}, {"good nail 0001\n", impl.ShNumber, 0}, {"good nail 010\n", impl.ShNumber, 0}, {"good nail 0100\n", impl.ShNumber, 0}, {"good nail 099\n", impl.ShNumber, 0}, {"good nail one\n", impl.ShNumber, 0}, {"good nail nail\n", impl.ShNumber, 0}, {"good nail 1a\n", impl.ShNumber, 0}, {"good nail a1\n", impl.ShNumber, 0}, {"good nail 1.\n", impl.ShNumber, 0}, {"good nail 1.0\n", impl.ShNumber, 0}, {"good nail 1e1\n", impl.ShNumber, 0}, {"good nail 0x1\n", impl.ShNumber, 0}, {"good nail 1_0\n", impl.ShNumber, 0}, {"good nail 1,0\n", impl.ShNumber, 0}, {"good nail 3\r\n", impl.ShNumber, 0}, {"good nail 3\t\n", impl.ShNumber, 0}, {"good nail \t3\n", impl.ShNumber, 0}, {"good nail 3\x00\n", impl.ShNumber, 0}, {"good nail \xff\n", impl.ShNumber, 0}, {"good nail 1\x80\n", impl.ShNumber, 0}, {"good nail １\n", impl.ShNumber, 0}, {"good nail ٣\n", impl.ShNumber, 0}, {"good nail ²\n", impl.ShNumber, 0}, {"good nail /\n", impl.ShNumber, 0}, {"good nail :\n", impl.ShNumber, 0},
		{"good nail 18446744073709551617\n", impl.ShNumber, 0}, {"good nail 9223372036854775808\n", impl.ShNumber, 0}, {"good nail -9223372036854775808\n", impl.ShNumber, 0}, {"good nail -18446744073709551615\n", impl.ShNumber, 0}, {"good nail 4294967297\n", impl.ShNumber, 0}, {"good nail 65537\n", impl.ShNumber, 0}, {"good nail 257\n", impl.ShNumber, 0}, {"good nail 1" + strings.Repeat("0", 1900) + "\n", impl.ShNumber, 0}, {"good nail " + strings.Repeat("0", 1900) + "1\n", impl.ShNumber, 0},
		{"good nail 3\npick nail 0\n", impl.ShNumber, 1}, {"good nail 3\npick nail 100\n", impl.ShNumber, 1}, {"good nail 3\npick nail 101\n", impl.ShNumber, 1}, {"good nail 3\npick nail 09\n", impl.ShNumber, 1}, {"good nail 3\npick nail -5\n", impl.ShNumber, 1}, {"good nail 3\npick nail x\n", impl.ShNumber, 1},
		// There already, with the same Size and with another one, and with others between.
		{"good nail 3\ngood nail 3\n", impl.ShTwice, 1}, {"good nail 3\ngood nail 4\n", impl.ShTwice, 1}, {"good nail 3\ngood bolt 3\ngood nail 3\n", impl.ShTwice, 2}, {"good nail 3\npick nail 3\ngood nail 3\n", impl.ShTwice, 2}, {"good bolt 3\ngood nail 3\ngood nail 3\n", impl.ShTwice, 2},
		// Told by no line ahead.
		{"pick nail 3\n", impl.ShNone, 0}, {"pick nail 3\ngood nail 3\n", impl.ShNone, 0}, {"good nail 3\npick bolt 1\n", impl.ShNone, 1}, {"good nail 3\npick bolt 1\ngood bolt 1\n", impl.ShNone, 1}, {"good nail 3\npick nai 1\n", impl.ShNone, 1}, {"good nail 3\npick nails 1\n", impl.ShNone, 1}, {"good nail 3\npick n 1\n", impl.ShNone, 1}, {"pick nail 1\npick nail 1\n", impl.ShNone, 0},
	} {
		isFault(t, c.text, c.code, c.at)
		isParsedAs(t, c.text)
	}
}

func TestParseSheetOfEachNumber(t *testing.T) {
	for n := range 1200 {
		text := fmt.Sprintf("good nail %d\n", n)
		if n >= 1 && n <= 100 {
			isRead(t, text, sheet([]impl.Good{good("nail", n)}))
		} else {
			isFault(t, text, impl.ShNumber, 0)
		}
		text = fmt.Sprintf("good nail 7\npick nail %d\n", n)
		if n >= 1 && n <= 99 {
			isRead(t, text, sheet([]impl.Good{good("nail", 7)}, line(0, n)))
		} else {
			isFault(t, text, impl.ShNumber, 1)
		}
		for _, form := range []string{"0%d", "00%d", "+%d", "-%d", "%d0000", "%dx", "x%d", "%d.", "٠%d"} {
			word := fmt.Sprintf(form, n)
			isFault(t, "good nail "+word+"\n", impl.ShNumber, 0)
			isFault(t, "good nail 7\npick nail "+word+"\n", impl.ShNumber, 1)
		}
	}
}

// One byte is taken out, put in, or put in the place of another one, wherever it may be and whichever it is.
func TestParseSheetOfEachByte(t *testing.T) {
	codes := map[int]int{}
	for _, text := range []string{"good a 1\ngood b 10\npick b 9\npick a 99\n", "good abcdefgh 100\npick abcdefgh 1\n", ""} {
		for at := range len(text) + 1 {
			for b := range 256 {
				codes[isParsedAs(t, text[:at]+string([]byte{byte(b)})+text[at:])]++
				if at < len(text) {
					codes[isParsedAs(t, text[:at]+string([]byte{byte(b)})+text[at+1:])]++
				}
			}
			if at < len(text) {
				codes[isParsedAs(t, text[:at]+text[at+1:])]++
				codes[isParsedAs(t, text[:at])]++
				codes[isParsedAs(t, text[at:])]++
			}
		}
	}
	for _, code := range []int{0, 1, 2, 3, 4, 5, 7} {
		if codes[code] == 0 {
			t.Errorf("codes told: %v", codes)
		}
	}
}

// All texts of up to four of these pieces, and of up to five of some of them.
func TestParseSheetOfAllSmallTexts(t *testing.T) {
	codes := map[int]int{}
	lists := append(everyList(countUp(8), 4), everyList([]int{0, 1, 2, 3, 8, 9}, 5)...)
	pieces := []string{"good a 1\n", "good b 2\n", "pick a 1\n", "pick b 2\n", "pick", " ", "a", "1\n", "good a 2\n", "pick a 100\n"}
	for _, l := range lists {
		text := ""
		for _, i := range l {
			text += pieces[i]
		}
		codes[isParsedAs(t, text)]++
	}
	for _, code := range []int{0, 1, 3, 4, 5, 7} {
		if codes[code] < 10 {
			t.Errorf("codes told: %v", codes)
		}
	}
}

// fullText tells so many goods, the first one nail, and so many lines.
func fullText(goods int, lines int) string {
	s := sheet(append([]impl.Good{good("nail", 3)}, manyGoods(goods-1)...), manyLines(goods, lines)...)
	return plainText(s)
}

// Each line has all faults or none of each code: the first one in the document's order counts.
func TestParseSheetTellsTheFirstFaultOfALine(t *testing.T) {
	forms := []struct {
		form string
		good bool
		code int
	}{
		{"good %s %s\n", true, 0}, {"pick %s %s\n", false, 0}, {"Good %s %s\n", true, impl.ShWord}, {"picks %s %s\n", false, impl.ShWord}, {" good %s %s\n", true, impl.ShWord}, {"good  %s %s\n", true, impl.ShWord}, {"good %s  %s\n", true, impl.ShWord}, {"good %s %s \n", true, impl.ShWord}, {"pick %s %s 1\n", false, impl.ShWord}, {"pick pick %s %s\n", false, impl.ShWord}, {"good %s%s\n", true, impl.ShWord}, {"%s %s\n", false, impl.ShWord}, {"pick %s\t%s\n", false, impl.ShWord},
	}
	codes := map[int]int{}
	for _, goods := range []int{1, 11, 12} {
		for _, lines := range []int{0, 79, 80} {
			text, at := fullText(goods, lines), goods+lines
			for _, f := range forms {
				for _, name := range []string{"nail", "moon", "nai", "abcdefgh", "Nail", "na1l", "abcdefghi", "\xff", "é"} {
					for _, number := range []string{"1", "99", "100", "101", "0", "01", "-1", "1x", "99999999999999999999", "٣"} {
						code := f.code
						switch {
						case code != 0:
						case !slices.Contains([]string{"nail", "moon", "nai", "abcdefgh"}, name):
							code = impl.ShName
						case number != "1" && number != "99" && !(number == "100" && f.good):
							code = impl.ShNumber
						case f.good && name == "nail":
							code = impl.ShTwice
						case !f.good && name != "nail":
							code = impl.ShNone
						case f.good && goods == 12 || !f.good && lines == 80:
							code = impl.ShMany
						}
						codes[code]++
						whole := text + fmt.Sprintf(f.form, name, number)
						if code != 0 {
							isFault(t, whole, code, at)
						}
						isParsedAs(t, whole)
					}
				}
			}
		}
	}
	for code := range 7 {
		if codes[code] < 20 {
			t.Errorf("codes told: %v", codes)
		}
	}
}

// Of faults on two lines that of the line ahead is told, whichever they are.
func TestParseSheetTellsTheFirstLine(t *testing.T) {
	faults := []struct {
		line string
		code int
	}{
		{"\n", impl.ShWord}, {"good  x 1\n", impl.ShWord}, {"good X 1\n", impl.ShName}, {"pick nail1 1\n", impl.ShName}, {"good x 101\n", impl.ShNumber}, {"pick nail 100\n", impl.ShNumber}, {"good nail 1\n", impl.ShTwice}, {"pick none 1\n", impl.ShNone}, {"good x 0\n", impl.ShNumber},
	}
	lines := slices.Collect(strings.Lines(fullText(3, 4)))
	for _, a := range faults {
		for _, b := range faults {
			for from := 1; from <= len(lines); from++ {
				for to := from; to <= len(lines); to++ {
					text := strings.Join(lines[:from], "") + a.line + strings.Join(lines[from:to], "") + b.line + strings.Join(lines[to:], "")
					isFault(t, text, a.code, from)
					isParsedAs(t, text)
					isFault(t, text+"x", impl.ShEnd, 0)
				}
			}
		}
	}
	// A good too many, and a line too many, come ahead of what is behind them, and behind what is ahead of them.
	for _, f := range faults {
		isFault(t, fullText(12, 0)+"good moon 1\n"+f.line, impl.ShMany, 12)
		isFault(t, fullText(12, 0)+f.line+"good moon 1\n", f.code, 12)
		isFault(t, fullText(1, 80)+"pick nail 1\n"+f.line, impl.ShMany, 81)
		isFault(t, fullText(1, 80)+f.line+"pick nail 1\n", f.code, 81)
	}
}

func TestParseSheetOfTooMany(t *testing.T) {
	for goods := 1; goods <= 12; goods++ {
		for _, lines := range []int{0, 1, 79, 80} {
			text := fullText(goods, lines)
			if code := isParsedAs(t, text); code != 0 {
				t.Errorf("ParseSheet(%q) tells %d", text, code)
			}
		}
	}
	isFault(t, fullText(12, 0)+"good moon 1\n", impl.ShMany, 12)
	isFault(t, fullText(12, 80)+"good moon 1\n", impl.ShMany, 92)
	isFault(t, fullText(12, 0)+"good nail 3\n", impl.ShTwice, 12)
	isFault(t, fullText(12, 3)+"good moon 1\n"+fullText(1, 1), impl.ShMany, 15)
	isFault(t, fullText(1, 80)+"pick nail 1\n", impl.ShMany, 81)
	isFault(t, fullText(12, 80)+"pick nail 99\n", impl.ShMany, 92)
	isFault(t, fullText(12, 80)+"pick moon 99\n", impl.ShNone, 92)
	// With as many lines as may be goods still come, and with as many goods lines.
	for goods := 1; goods <= 11; goods++ {
		text := fullText(goods, 80)
		for more := range 12 - goods {
			text += "good moon" + string(rune('a'+more)) + " 1\n"
			if code := isParsedAs(t, text); code != 0 {
				t.Errorf("ParseSheet(%q) tells %d", text, code)
			}
		}
		isFault(t, text+"good moon 1\n", impl.ShMany, 92)
		isFault(t, text+"pick nail 1\n", impl.ShMany, 92)
	}
}

// No text of 2000 bytes is a sheet's: the fault of its lines is told, of longer ones that they are too long.
func TestParseSheetAtItsLongest(t *testing.T) {
	most, fewer := plainText(longSheet(12, 80)), plainText(longSheet(12, 71))
	for _, c := range []struct {
		begin, fill, end string
		code, at         int
	}{
		{"", "\n", "\n", impl.ShWord, 0}, {"", "\xff", "\n", impl.ShWord, 0}, {fewer, " ", "\n", impl.ShWord, 83}, {fewer + "pick abcdefgz", "é", " 1\n", impl.ShName, 83}, {"good ", "a", " 1\n", impl.ShName, 0}, {"good nail ", "0", "1\n", impl.ShNumber, 0}, {"good nail 1", "0", "\n", impl.ShNumber, 0}, {fewer + "pick abcdefgz 1", "9", "\n", impl.ShNumber, 83}, {"good nail 3\n", "good nail 3\n", "\n", impl.ShTwice, 1}, {"", "pick nail 1\n", "\n", impl.ShNone, 0}, {fewer, "pick moon 1\n", "\n", impl.ShNone, 83}, {most, "pick abcdefgz 1\n", "\n", impl.ShMany, 92}, {most + "good moon 1\n", "x", "\n", impl.ShMany, 92},
	} {
		for long := 1990; long <= 2010; long++ {
			text := c.begin + strings.Repeat(c.fill, 2010)[:long-len(c.begin)-len(c.end)] + c.end
			if len(text) != long {
				t.Fatalf("%d bytes are not %d", len(text), long)
			}
			code, at := c.code, c.at
			if long > 2000 {
				code, at = impl.ShEnd, 0
			}
			isFault(t, text, code, at)
			isParsedAs(t, text)
			isFault(t, text[:long-1]+"x", impl.ShEnd, 0)
		}
	}
	for _, text := range []string{strings.Repeat("good nail 3\n", 167), strings.Repeat("\n", 2001), strings.Repeat("x", 2001), strings.Repeat("\n", 1<<20), strings.Repeat("good nail 3\n", 1<<16), strings.Repeat("\xff", 1<<20), most + strings.Repeat("pick abcdefgz 99\n", 25)} {
		if len(text) <= 2000 {
			t.Errorf("%d bytes are not too many", len(text))
		}
		isFault(t, text, impl.ShEnd, 0)
	}
}

// turnedLines has the lines in another order in which each good still comes ahead of its picks.
func turnedLines(d *dice, s impl.Sheet) string {
	goods, lines := slices.Clone(s.Goods), slices.Clone(s.Lines)
	text := ""
	for told := 0; told < len(goods) || len(lines) > 0; {
		if len(lines) > 0 && lines[0].Good < told && (told == len(goods) || d.below(3) > 0) {
			text += fmt.Sprintf("pick %s %d\n", goods[lines[0].Good].Name, lines[0].Many)
			lines = lines[1:]
			continue
		}
		text += fmt.Sprintf("good %s %d\n", goods[told].Name, goods[told].Size)
		told++
	}
	return text
}

// spoiltText has one or two lines put in, changed or taken out, so that a fault is met early or late, or none.
func spoiltText(d *dice, s impl.Sheet) string {
	lines := slices.Collect(strings.Lines(turnedLines(d, s)))
	for range d.below(3) {
		at := d.below(len(lines) + 1)
		name := drawnName(d)
		if len(s.Goods) > 0 && d.below(2) == 0 {
			name = s.Goods[d.below(len(s.Goods))].Name
		}
		form := []string{"good %s %d\n", "pick %s %d\n", "good  %s %d\n", "good X%s %d\n", "pick %s 0%d\n", "put %s %d\n", "good %s %d", "pick %sxxxxxxx %d\n", " pick %s %d\n"}[d.below(9)]
		put := fmt.Sprintf(form, name, d.below(110))
		switch {
		case d.below(2) == 0:
			lines = slices.Insert(lines, at, put)
		case at < len(lines) && d.below(2) == 0:
			lines[at] = put
		case at < len(lines):
			lines = slices.Delete(lines, at, at+1)
		}
	}
	return strings.Join(lines, "")
}

func areGoodsAhead(text string) bool {
	lines := slices.Collect(strings.Lines(text))
	return slices.IsSortedFunc(lines, func(a string, b string) int { return strings.Compare(a[:4], b[:4]) })
}

func TestPromise15DrawnTextsComeBack(t *testing.T) {
	codes, ahead, mixed := map[int]int{}, 0, 0
	for i := range 12000 {
		text := spoiltText(diceOf(i+70000), drawnSheet(i))
		code := isParsedAs(t, text)
		codes[code]++
		if code != 0 {
			continue
		}
		s, _, _, _ := impl.ParseSheet(text)
		printed, ok := impl.PrintSheet(s)
		if !ok || (printed == text) != areGoodsAhead(text) {
			t.Fatalf("ParseSheet(%q) is printed as %q %v", text, printed, ok)
		}
		isRead(t, printed, s)
		if areGoodsAhead(text) {
			ahead++
		} else {
			mixed++
		}
	}
	for code := range 8 {
		if codes[code] < 20 {
			t.Errorf("codes told: %v", codes)
		}
	}
	if ahead < 500 || mixed < 500 {
		t.Errorf("%d times goods stood ahead, %d times not", ahead, mixed)
	}
}

// Any bytes, those of a sheet's words more often than others.
func TestParseSheetOfAnyBytes(t *testing.T) {
	for i := range 20000 {
		d := diceOf(i)
		var text []byte
		for range d.below(60) {
			text = append(text, []byte{"good pick 190\n"[d.below(14)], byte(d.below(256)), '\n', ' '}[max(0, d.below(8)-4)])
		}
		isParsedAs(t, string(text))
		isParsedAs(t, string(text)+"\n")
		isParsedAs(t, "good a 1\n"+string(text)+"\n")
	}
}

func TestFindGood(t *testing.T) {
	found, none := 0, 0
	for i, s := range manySheets() {
		for n, g := range s.Goods {
			if got, ok := impl.FindGood(s, g.Name); got != n || !ok {
				t.Fatalf("FindGood(%v, %q) = %v %v, not %v", s, g.Name, got, ok, n)
			}
			// A text of the same bytes elsewhere in memory is the same Name.
			if got, ok := impl.FindGood(s, strings.Clone(g.Name)); got != n || !ok {
				t.Fatalf("FindGood(%v, %q) = %v %v, not %v", s, g.Name, got, ok, n)
			}
			found++
		}
		others := []string{"", " ", "\n", "good ", "Nail", "\x00", "\xff", "é", "abcdefghi", strings.Repeat("a", 10000), "gooda ", " gooda", "gooda\n", "GOODA", "goodz", drawnName(diceOf(i)), drawnName(diceOf(i + 1))}
		for _, g := range s.Goods {
			others = append(others, g.Name+"x", g.Name[1:], g.Name[:len(g.Name)-1], "x"+g.Name, strings.ToUpper(g.Name), g.Name+" ", g.Name+"\x00", g.Name+g.Name)
		}
		for _, name := range others {
			want := slices.IndexFunc(s.Goods, func(g impl.Good) bool { return g.Name == name })
			if want >= 0 {
				continue
			}
			if got, ok := impl.FindGood(s, name); got != 0 || ok {
				t.Fatalf("FindGood(%v, %q) = %v %v", s, name, got, ok)
			}
			none++
		}
	}
	if found < 1000 || none < 10000 {
		t.Errorf("%d names were found, %d were not", found, none)
	}
}

func TestSheetProfileIsThatOfGoodsAndLines(t *testing.T) {
	for _, s := range manySheets() {
		got, ok := impl.SheetProfile(s)
		want, wantOk := impl.ProfileOf(s.Goods, s.Lines)
		if !sameProfile(got, want) || !sameProfile(got, plainProfile(s.Goods, s.Lines)) || !ok || !wantOk {
			t.Fatalf("SheetProfile(%v) = %v %v, ProfileOf %v %v", s, got, ok, want, wantOk)
		}
	}
	if got, ok := impl.SheetProfile(sheet([]impl.Good{good("nail", 3), good("bolt", 5)}, line(0, 2), line(0, 4))); !sameProfile(got, profile([]int{2, 0}, []int{18, 0})) || !ok {
		t.Error(got, ok)
	}
}

// plainJoin goes by Names.
func plainJoin(a impl.Sheet, b impl.Sheet) (impl.Sheet, bool) {
	if !plainlySheet(a) || !plainlySheet(b) {
		return impl.Sheet{}, false
	}
	numbers := map[string]int{}
	var joined impl.Sheet
	for _, s := range []impl.Sheet{a, b} {
		for _, g := range s.Goods {
			n, is := numbers[g.Name]
			if is && joined.Goods[n].Size != g.Size {
				return impl.Sheet{}, false
			}
			if !is {
				numbers[g.Name] = len(joined.Goods)
				joined.Goods = append(joined.Goods, g)
			}
		}
		for _, l := range s.Lines {
			joined.Lines = append(joined.Lines, line(numbers[s.Goods[l.Good].Name], l.Many))
		}
	}
	if len(joined.Goods) > 12 || len(joined.Lines) > 80 {
		return impl.Sheet{}, false
	}
	return joined, true
}

// areJoinedAs holds JoinSheets against the document's words, and tells what these say.
func areJoinedAs(t *testing.T, a impl.Sheet, b impl.Sheet) bool {
	want, wantOk := plainJoin(a, b)
	got, ok := impl.JoinSheets(a, b)
	if !sameSheet(got, want) || ok != wantOk {
		t.Fatalf("JoinSheets(%v, %v) = %v %v, not %v %v", a, b, got, ok, want, wantOk)
	}
	if !ok {
		return false
	}
	if !impl.GoodSheet(got) || !slices.Equal(got.Goods[:len(a.Goods)], a.Goods) || !slices.Equal(got.Lines[:len(a.Lines)], a.Lines) {
		t.Fatalf("JoinSheets(%v, %v) = %v", a, b, got)
	}
	for i, l := range b.Lines {
		if n := got.Lines[len(a.Lines)+i]; got.Goods[n.Good] != b.Goods[l.Good] || n.Many != l.Many {
			t.Fatalf("JoinSheets(%v, %v) = %v: line %d of the second one is another one", a, b, got, i)
		}
	}
	return true
}

func TestJoinSheetsByHand(t *testing.T) {
	nail, bolt, nut := good("nail", 3), good("bolt", 5), good("nut", 1)
	for _, c := range []struct {
		a, b, want impl.Sheet
		ok         bool
	}{
		{impl.Sheet{}, impl.Sheet{}, impl.Sheet{}, true},
		{sheet([]impl.Good{nail}, line(0, 2)), impl.Sheet{}, sheet([]impl.Good{nail}, line(0, 2)), true},
		{impl.Sheet{}, sheet([]impl.Good{nail}, line(0, 2)), sheet([]impl.Good{nail}, line(0, 2)), true},
		{sheet([]impl.Good{nail}, line(0, 2)), sheet([]impl.Good{bolt, nail}, line(1, 9)), sheet([]impl.Good{nail, bolt}, line(0, 2), line(0, 9)), true},
		{sheet([]impl.Good{nail, bolt}, line(0, 2)), sheet([]impl.Good{nut, bolt}, line(0, 9), line(1, 8), line(0, 7)), sheet([]impl.Good{nail, bolt, nut}, line(0, 2), line(2, 9), line(1, 8), line(2, 7)), true},
		{sheet([]impl.Good{nail, bolt}), sheet([]impl.Good{bolt, nail}), sheet([]impl.Good{nail, bolt}), true},
		{sheet([]impl.Good{nail, bolt}, line(1, 1)), sheet([]impl.Good{bolt, nail}, line(0, 1), line(1, 99)), sheet([]impl.Good{nail, bolt}, line(1, 1), line(1, 1), line(0, 99)), true},
		{sheet([]impl.Good{nail}, line(0, 1)), sheet([]impl.Good{nail}, line(0, 1)), sheet([]impl.Good{nail}, line(0, 1), line(0, 1)), true},
		// One Name, two Sizes.
		{sheet([]impl.Good{nail}), sheet([]impl.Good{good("nail", 4)}), impl.Sheet{}, false},
		{sheet([]impl.Good{bolt, nail}, line(0, 1)), sheet([]impl.Good{bolt, good("nail", 100)}, line(0, 1)), impl.Sheet{}, false},
		{sheet([]impl.Good{good("nail", 1)}), sheet([]impl.Good{bolt, nut, nail}), impl.Sheet{}, false},
		// One Size, two Names.
		{sheet([]impl.Good{nail}), sheet([]impl.Good{good("nails", 3)}), sheet([]impl.Good{nail, good("nails", 3)}), true},
		// As many as may be, and one more.
		{sheet(manyGoods(12)), sheet(manyGoods(12)), sheet(manyGoods(12)), true}, {sheet(manyGoods(11)), sheet([]impl.Good{nail}), sheet(append(manyGoods(11), nail)), true}, {sheet(manyGoods(12)), sheet([]impl.Good{nail}), impl.Sheet{}, false}, {sheet([]impl.Good{nail}), sheet(manyGoods(12)), impl.Sheet{}, false}, {sheet([]impl.Good{nail}), sheet(manyGoods(11)), sheet(append([]impl.Good{nail}, manyGoods(11)...)), true}, {sheet(manyGoods(12)), sheet(longGoods(12)), impl.Sheet{}, false},
		{sheet(manyGoods(1), manyLines(1, 80)...), sheet(manyGoods(1)), sheet(manyGoods(1), manyLines(1, 80)...), true}, {sheet(manyGoods(1), manyLines(1, 80)...), sheet(manyGoods(1), line(0, 1)), impl.Sheet{}, false}, {sheet(manyGoods(1), line(0, 1)), sheet(manyGoods(1), manyLines(1, 80)...), impl.Sheet{}, false}, {sheet(manyGoods(1), manyLines(1, 40)...), sheet(manyGoods(1), manyLines(1, 40)...), sheet(manyGoods(1), append(manyLines(1, 40), manyLines(1, 40)...)...), true}, {sheet(manyGoods(1), manyLines(1, 41)...), sheet(manyGoods(1), manyLines(1, 40)...), impl.Sheet{}, false},
		// What only parts of them would make good.
		{sheet([]impl.Good{nail}), sheet([]impl.Good{nail, nail}), impl.Sheet{}, false}, {sheet([]impl.Good{nail, nail}), sheet([]impl.Good{nail}), impl.Sheet{}, false}, {sheet([]impl.Good{nail, bolt}), sheet([]impl.Good{bolt}, line(1, 1)), impl.Sheet{}, false}, {sheet([]impl.Good{nail}, line(1, 1)), sheet([]impl.Good{bolt}), impl.Sheet{}, false}, {sheet([]impl.Good{nail}, line(0, 0)), sheet([]impl.Good{bolt}), impl.Sheet{}, false}, {sheet([]impl.Good{nail}), sheet([]impl.Good{nail}, line(0, 100)), impl.Sheet{}, false}, {sheet([]impl.Good{nail}), sheet(nil, line(0, 1)), impl.Sheet{}, false}, {sheet([]impl.Good{good("Nail", 1)}), sheet([]impl.Good{good("Nail", 1)}), impl.Sheet{}, false}, {sheet([]impl.Good{nail}), sheet([]impl.Good{nail}, line(-1, 1)), impl.Sheet{}, false},
	} {
		if got, ok := impl.JoinSheets(c.a, c.b); !sameSheet(got, c.want) || ok != c.ok {
			t.Errorf("JoinSheets(%v, %v) = %v %v, not %v %v", c.a, c.b, got, ok, c.want, c.ok)
		}
		areJoinedAs(t, c.a, c.b)
	}
}

// smallSheets have up to two goods, one of them of two Sizes, and up to two lines.
func smallSheets() []impl.Sheet {
	var all []impl.Sheet
	a, b, other := good("a", 1), good("b", 1), good("a", 2)
	for _, goods := range [][]impl.Good{nil, {a}, {b}, {other}, {a, b}, {b, a}, {other, b}, {b, other}} {
		for _, l := range everyList(countUp(2*len(goods)), 2) {
			s := sheet(goods)
			for _, n := range l {
				s.Lines = append(s.Lines, line(n/2, 1+n%2*98))
			}
			all = append(all, s)
		}
	}
	return all
}

func TestJoinSheetsOfAllSmallOnes(t *testing.T) {
	joined, not := 0, 0
	for _, a := range smallSheets() {
		for _, b := range smallSheets() {
			if areJoinedAs(t, a, b) {
				joined++
			} else {
				not++
			}
		}
	}
	if joined < 1000 || not < 1000 {
		t.Errorf("%d were joined, %d not", joined, not)
	}
}

// drawnPair has goods of both, of one alone, or of none, and seldom one with two Sizes.
func drawnPair(i int) (impl.Sheet, impl.Sheet) {
	d := diceOf(i)
	pool := drawnGoods(d, 1+d.below(16))
	var pair [2]impl.Sheet
	for n := range pair {
		for _, k := range d.shuffled(countUp(len(pool))) {
			g := pool[k]
			if d.below(60) == 0 {
				g.Size = 1 + d.below(100)
			}
			if len(pair[n].Goods) < 12 && d.below(3) > 0 {
				pair[n].Goods = append(pair[n].Goods, g)
			}
		}
		pair[n].Lines = drawnLines(d, len(pair[n].Goods), []int{d.below(81), d.below(41), 40}[d.below(3)])
	}
	return pair[0], pair[1]
}

func TestJoinSheetsOfDrawnOnes(t *testing.T) {
	kinds := map[string]int{}
	for i := range 20000 {
		a, b := drawnPair(i)
		if !areJoinedAs(t, a, b) {
			kinds["false"]++
			continue
		}
		kinds["true"]++
		both := slices.ContainsFunc(b.Goods, func(g impl.Good) bool { return slices.Contains(a.Goods, g) })
		got, _ := impl.JoinSheets(a, b)
		switch {
		case both && len(got.Goods) > len(a.Goods):
			kinds["some of both"]++
		case both:
			kinds["all of both"]++
		case len(a.Goods) > 0 && len(b.Goods) > 0:
			kinds["none of both"]++
		}
		if len(got.Goods) == 12 {
			kinds["12 goods"]++
		}
		if len(got.Lines) == 80 {
			kinds["80 lines"]++
		}
		// What is joined is asked for as both are together.
		p, _ := impl.SheetProfile(got)
		first, firstOk := impl.ProfileOf(got.Goods, got.Lines[:len(a.Lines)])
		rest, restOk := impl.ProfileOf(got.Goods, got.Lines[len(a.Lines):])
		if sum, ok := impl.AddProfiles(first, rest); !sameProfile(sum, p) || !ok || !firstOk || !restOk {
			t.Fatalf("JoinSheets(%v, %v) = %v, its profile is %v, not %v", a, b, got, p, sum)
		}
	}
	for _, kind := range []string{"false", "true", "some of both", "all of both", "none of both", "12 goods", "80 lines"} {
		if kinds[kind] < 50 {
			t.Errorf("pairs drawn were: %v", kinds)
		}
	}
}

func isRefusedSheet(t *testing.T, s impl.Sheet) {
	if impl.GoodSheet(s) {
		t.Errorf("GoodSheet(%v) is true", s)
	}
	if text, ok := impl.PrintSheet(s); text != "" || ok {
		t.Errorf("PrintSheet(%v) = %q %v", s, text, ok)
	}
	if p, ok := impl.SheetProfile(s); !isNoProfile(p) || ok {
		t.Errorf("SheetProfile(%v) = %v %v", s, p, ok)
	}
	names := []string{"", "nail", "bolt", "gooda", "goodb", "goodz"}
	for _, g := range s.Goods {
		names = append(names, g.Name)
	}
	for _, name := range names {
		if n, ok := impl.FindGood(s, name); n != 0 || ok {
			t.Errorf("FindGood(%v, %q) = %v %v", s, name, n, ok)
		}
	}
}

func isRefusedJoin(t *testing.T, a impl.Sheet, b impl.Sheet) {
	if joined, ok := impl.JoinSheets(a, b); !isNoSheet(joined) || ok {
		t.Errorf("JoinSheets(%v, %v) = %v %v", a, b, joined, ok)
	}
}

func TestPromise19NoWrongSheetIsTaken(t *testing.T) {
	for _, s := range wrongSheets() {
		isRefusedSheet(t, s)
		others := append(sampleSheets(), s, cloneSheet(s), sheet(s.Goods), sheet(nil, s.Lines...), sheet(manyGoods(12), s.Lines...))
		if len(s.Goods) > 0 {
			others = append(others, sheet(s.Goods[:1]), sheet(s.Goods[:1], line(0, 1)), sheet(s.Goods[len(s.Goods)-1:]))
		}
		for _, other := range others {
			isRefusedJoin(t, s, other)
			isRefusedJoin(t, other, s)
		}
	}
}

func fillGood(i int) impl.Good {
	return good(fmt.Sprint("filled ", i), -7777-i)
}

func fillLine(i int) impl.Line {
	return line(-7777-i, 7777)
}

// shareNoLists fills the lists of each sheet, up to their capacity, and asks whether others change by that.
func shareNoLists(t *testing.T, all ...impl.Sheet) {
	var goods [][]impl.Good
	var lines [][]impl.Line
	for _, s := range all {
		goods = append(goods, s.Goods)
		lines = append(lines, s.Lines)
	}
	shareNoneOf(t, "chapter 15", fillGood, goods...)
	shareNoneOf(t, "chapter 15", fillLine, lines...)
}

func TestPromise19SheetsShareNothing(t *testing.T) {
	for _, plain := range manySheets()[:200] {
		text := plainText(plain)
		a, b, alone := cloneSheet(plain), cloneSheet(plain), impl.Sheet{}
		b.Lines = b.Lines[:len(b.Lines)/2]
		a.Lines = a.Lines[:len(a.Lines)-len(b.Lines)]
		var answers []impl.Sheet
		for range 2 {
			parsed, _, _, ok := impl.ParseSheet(text)
			joined, joinedOk := impl.JoinSheets(a, b)
			behind, behindOk := impl.JoinSheets(alone, a)
			ahead, aheadOk := impl.JoinSheets(a, alone)
			if !ok || !joinedOk || !behindOk || !aheadOk || !sameSheet(parsed, plain) || !sameSheet(behind, a) || !sameSheet(ahead, a) {
				t.Fatal(parsed, joined, behind, ahead)
			}
			answers = append(answers, parsed, joined, behind, ahead)
		}
		shareNoLists(t, append(answers, a, b)...)
		isRead(t, text, plain)
	}
	s := sheet(manyGoods(3), manyLines(3, 9)...)
	p, _ := impl.SheetProfile(s)
	again, _ := impl.SheetProfile(s)
	if len(p.Picks) != 3 || len(again.Flow) != 3 {
		t.Fatal(p, again)
	}
	shareNone(t, "chapter 15", p.Picks, p.Flow, again.Picks, again.Flow)
}

// liesIn tells whether a text's bytes are some of those that hold another one.
func liesIn(part string, whole string) bool {
	from := uintptr(unsafe.Pointer(unsafe.StringData(whole)))
	at := uintptr(unsafe.Pointer(unsafe.StringData(part)))
	return part != "" && at >= from && at < from+uintptr(len(whole))
}

func TestPromise19NamesAreNewTexts(t *testing.T) {
	for _, plain := range manySheets()[:200] {
		text := strings.Clone(plainText(plain))
		s, _, _, ok := impl.ParseSheet(text)
		joined, joinedOk := impl.JoinSheets(s, s)
		if len(s.Lines) <= 40 && !joinedOk || !ok {
			t.Fatal(s, joined)
		}
		for n, g := range s.Goods {
			if liesIn(g.Name, text) {
				t.Errorf("the Name %q lies in the text", g.Name)
			}
			if joinedOk && liesIn(joined.Goods[n].Name, g.Name) {
				t.Errorf("the Name %q lies in that of a sheet that was joined", g.Name)
			}
		}
		printed, _ := impl.PrintSheet(s)
		for _, g := range s.Goods {
			if liesIn(g.Name, printed) {
				t.Errorf("the Name %q lies in the text that was printed", g.Name)
			}
		}
	}
}

// cutSheet lets two more stand behind each list's length.
func cutSheet(s impl.Sheet, behindGood impl.Good, behindLine impl.Line) impl.Sheet {
	return sheet(append(slices.Clone(s.Goods), behindGood, behindGood)[:len(s.Goods)], append(slices.Clone(s.Lines), behindLine, behindLine)[:len(s.Lines)]...)
}

func isSheetAsBefore(t *testing.T, cut impl.Sheet, plain impl.Sheet, behindGood impl.Good, behindLine impl.Line) {
	goods, lines := cut.Goods[:len(plain.Goods)+2], cut.Lines[:len(plain.Lines)+2]
	if !slices.Equal(goods, append(slices.Clone(plain.Goods), behindGood, behindGood)) || !slices.Equal(lines, append(slices.Clone(plain.Lines), behindLine, behindLine)) {
		t.Errorf("%v and %v were made of %v", goods, lines, plain)
	}
}

// sheetHangsOn tells whether a function of one sheet answers otherwise for a cut than for a plain one, which is not handed out itself.
func sheetHangsOn(s impl.Sheet, cut impl.Sheet, names []string) bool {
	s = cloneSheet(s)
	text, ok := impl.PrintSheet(s)
	cutText, cutOk := impl.PrintSheet(cut)
	p, profileOk := impl.SheetProfile(s)
	cutP, cutProfileOk := impl.SheetProfile(cut)
	for _, name := range names {
		n, found := impl.FindGood(s, name)
		cutN, cutFound := impl.FindGood(cut, name)
		if n != cutN || found != cutFound {
			return true
		}
	}
	return impl.GoodSheet(s) != impl.GoodSheet(cut) || text != cutText || ok != cutOk || !sameProfile(p, cutP) || profileOk != cutProfileOk
}

func joinHangsOn(a impl.Sheet, b impl.Sheet, cutA impl.Sheet, cutB impl.Sheet) bool {
	joined, ok := impl.JoinSheets(cloneSheet(a), cloneSheet(b))
	cutJoined, cutOk := impl.JoinSheets(cutA, cutB)
	return !sameSheet(joined, cutJoined) || ok != cutOk
}

func TestPromise19NoSheetIsWritten(t *testing.T) {
	for i, s := range append(wrongSheets(), manySheets()[:400]...) {
		first, second := drawnPair(i)
		others := []impl.Sheet{{}, first, second, s, sheet(s.Goods), sheet(manyGoods(2), line(1, 1))}
		for k, behindGood := range []impl.Good{good("behind", 1), good("", 0), good("gooda", 1)} {
			behindLine := []impl.Line{line(0, 1), line(-1, 0), line(1, 100)}[k]
			cut := cutSheet(s, behindGood, behindLine)
			if sheetHangsOn(s, cut, []string{"behind", "", "gooda", "goodb", "nail"}) {
				t.Errorf("what is told of %v hangs on what lies behind it", s)
			}
			for _, other := range others {
				cutOther := cutSheet(other, behindGood, behindLine)
				if joinHangsOn(s, other, cut, cutOther) || joinHangsOn(other, s, cutOther, cut) {
					t.Errorf("JoinSheets of %v and %v hangs on what lies behind them", s, other)
				}
				isSheetAsBefore(t, cutOther, other, behindGood, behindLine)
			}
			isSheetAsBefore(t, cut, s, behindGood, behindLine)
		}
	}
	for i := range 200 {
		a, b := drawnPair(i)
		cutA, cutB := cutSheet(a, good("behind", 1), line(0, 1)), cutSheet(b, good("behind", 1), line(0, 1))
		if joinHangsOn(a, b, cutA, cutB) {
			t.Errorf("JoinSheets of %v and %v hangs on what lies behind them", a, b)
		}
		isSheetAsBefore(t, cutA, a, good("behind", 1), line(0, 1))
		isSheetAsBefore(t, cutB, b, good("behind", 1), line(0, 1))
	}
}
