package tests

import (
	"fmt"
	"regexp"
	"slices"
	"strings"
	"testing"

	"loop.example/g00451/impl"
)

// A plainDesk is told lines as the document's words have it, by the functions that it names.
type plainDesk struct {
	s impl.Sheet
	j impl.Job
}

func newPlainDesk() plainDesk {
	j, _ := impl.NewJob([]int{1, 2, 0}, []int{2, 1, 0})
	return plainDesk{j: j}
}

var (
	sheetForm  = regexp.MustCompile(`^(good|pick)( |$)`)
	classForm  = regexp.MustCompile(`^class ([^ ]*)$`)
	numberForm = regexp.MustCompile(`^(house|cost|root|box|share)((?: (?:0|[1-9][0-9]{0,2}))+)$`)
)

// wordsOf has a blank ahead of each number.
func wordsOf(numbers []int) string {
	text := ""
	for _, n := range numbers {
		text += fmt.Sprintf(" %d", n)
	}
	return text
}

func orNo(ok bool, text string) string {
	if !ok {
		return "no"
	}
	return text
}

func (d *plainDesk) told(text string) string {
	switch {
	case sheetForm.MatchString(text):
		next, code := plainTold(d.s, text)
		if code != 0 {
			return fmt.Sprintf("no %d", code)
		}
		d.s = next
		return "ok"
	case classForm.MatchString(text):
		return d.toldClass(classForm.FindStringSubmatch(text)[1])
	case numberForm.MatchString(text):
		found := numberForm.FindStringSubmatch(text)
		var numbers []int
		for _, word := range strings.Fields(found[2]) {
			n := 0
			fmt.Sscan(word, &n)
			numbers = append(numbers, n)
		}
		return d.toldNumbers(found[1], numbers)
	}
	return d.toldWord(text)
}

func (d *plainDesk) toldClass(name string) string {
	p, _ := impl.SheetProfile(d.s)
	classes, _ := impl.ClassesOf(p)
	number, ok := impl.FindGood(d.s, name)
	if !ok {
		return "no"
	}
	return fmt.Sprintf("is %d", classes[number])
}

func (d *plainDesk) toldNumbers(word string, numbers []int) string {
	many := len(numbers)
	switch {
	case word == "house" && many <= 10:
		h, ok := impl.HouseFor(d.s, numbers)
		text := "slots"
		for _, owner := range h.Owners {
			text += " " + d.s.Goods[owner].Name
		}
		return orNo(ok, text)
	case word == "cost" && many <= 10:
		h, ok := impl.HouseFor(d.s, numbers)
		cost, costOk := impl.DayCost(d.s, h)
		text, textOk := impl.FracText(cost)
		return orNo(ok && costOk && textOk, "is "+text)
	case word == "root" && many == 1:
		root, ok := impl.RootOf(numbers[0])
		return orNo(ok, "is"+wordsOf([]int{root}))
	case word == "box" && many <= 9:
		boxes, ok := impl.FewestBoxes(numbers)
		return orNo(ok, "is"+wordsOf([]int{boxes}))
	case word == "share" && many >= 2:
		counts, ok := impl.ShareOut(numbers[1:], numbers[0])
		return orNo(ok, "counts"+wordsOf(counts))
	}
	return "what"
}

func (d *plainDesk) toldWord(word string) string {
	order := slices.Index([]string{"", "confirm", "fail", "replan", "abort"}, word)
	switch {
	case order > 0:
		next, ok := impl.DoJob(d.j, order)
		if ok {
			d.j = next
		}
		return orNo(ok, "ok")
	case word == "print":
		return fmt.Sprintf("sheet %d %d", len(d.s.Goods), len(d.s.Lines))
	case word == "next":
		m, ok := impl.NextMove(d.j)
		return orNo(ok, fmt.Sprintf("move %d %d", m.From, m.To))
	case word == "spots":
		return "at" + wordsOf(d.j.At)
	}
	return "what"
}

// scriptOf puts a byte 10 behind each line.
func scriptOf(lines ...string) string {
	text := ""
	for _, l := range lines {
		text += l + "\n"
	}
	return text
}

func plainlyScript(text string) bool {
	return len(text) <= 2500 && strings.Count(text, "\n") <= 60 && (text == "" || text[len(text)-1] == '\n')
}

// plainRun answers what each line is told, and the desk behind it.
func plainRun(text string) ([]string, []plainDesk) {
	d := newPlainDesk()
	var told []string
	var desks []plainDesk
	for l := range strings.Lines(text) {
		told = append(told, d.told(strings.TrimSuffix(l, "\n")))
		desks = append(desks, d)
	}
	return told, desks
}

// isHeardAs holds both functions against the document's words, and answers what each line is told.
func isHeardAs(t *testing.T, text string) []string {
	t.Helper()
	if !plainlyScript(text) {
		isNoScript(t, text)
		return nil
	}
	told, desks := plainRun(text)
	if got := impl.RunLines(text); got != scriptOf(told...) {
		t.Fatalf("RunLines(%q) = %q, not %q", text, got, scriptOf(told...))
	}
	var want impl.Sheet
	if len(desks) > 0 {
		want = desks[len(desks)-1].s
	}
	if got, ok := impl.SheetOf(text); !sameSheet(got, want) || !ok {
		t.Fatalf("SheetOf(%q) = %v %v, not %v", text, got, ok, want)
	}
	return told
}

func isNoScript(t *testing.T, text string) {
	t.Helper()
	if got := impl.RunLines(text); got != "" {
		t.Errorf("RunLines(%q) = %q", text, got)
	}
	if got, ok := impl.SheetOf(text); !isNoSheet(got) || ok {
		t.Errorf("SheetOf(%q) = %v %v", text, got, ok)
	}
}

// isTold asks for answers that are told by hand: each line has its own behind it.
func isTold(t *testing.T, pairs ...string) {
	t.Helper()
	text, want := "", ""
	for n := 0; n < len(pairs); n += 2 {
		text += pairs[n] + "\n"
		want += pairs[n+1] + "\n"
	}
	if got := impl.RunLines(text); got != want {
		t.Errorf("RunLines(%q) = %q, not %q", text, got, want)
	}
	isHeardAs(t, text)
}

// isUnknown asks whether each line is none that a script may have, alone and behind a sheet that has a house.
func isUnknown(t *testing.T, lines ...string) {
	t.Helper()
	for _, l := range lines {
		isTold(t, l, "what", "spots", "at 1 2 0", "print", "sheet 0 0")
		isTold(t, "good nail 3", "ok", "pick nail 2", "ok", l, "what", "print", "sheet 1 1", "house 1", "slots nail", "next", "move 0 2")
	}
}

// setUp tells so many goods, each with so many picks.
func setUp(picks ...int) []string {
	var lines []string
	for n, many := range picks {
		name := manyGoods(len(picks))[n].Name
		lines = append(lines, "good "+name+" 1")
		lines = append(lines, slices.Repeat([]string{"pick " + name + " 1"}, many)...)
	}
	return lines
}

// isToldBehind asks for the last line's answer.
func isToldBehind(t *testing.T, lines []string, last string, want string) {
	t.Helper()
	text := scriptOf(append(slices.Clone(lines), last)...)
	told := isHeardAs(t, text)
	if got := impl.RunLines(text); len(told) == 0 || told[len(told)-1] != want || !strings.HasSuffix(got, "\n"+want+"\n") && len(told) > 1 || !strings.HasSuffix(got, want+"\n") {
		t.Errorf("RunLines(%q) = %q: the last one is not %q", text, got, want)
	}
}

func TestLineLimits(t *testing.T) {
	if got, want := []int{impl.MaxScript, impl.MaxScriptLines}, []int{2500, 60}; !slices.Equal(got, want) {
		t.Error(got)
	}
}

func TestRunLinesByHand(t *testing.T) {
	isTold(t)
	isTold(t, "print", "sheet 0 0", "spots", "at 1 2 0", "next", "move 0 2", "good nail 3", "ok", "good bolt 5", "ok", "pick nail 2", "ok", "pick bolt 1", "ok", "pick nail 4", "ok", "print", "sheet 2 3", "class nail", "is 1", "class bolt", "is 2", "house 4 2 9", "slots nail nail bolt", "cost 4 2 9", "is 15", "confirm", "ok", "spots", "at 0 2 1", "root 50", "is 7", "box 9 11 10 10", "is 2", "share 4 8 2", "counts 3 1", "fly", "what")
	// What is asked hangs on the lines ahead alone.
	isTold(t, "class nail", "no", "good nail 3", "ok", "class nail", "is 3", "house 1", "no", "pick nail 1", "ok", "class nail", "is 1", "house 1", "slots nail", "good bolt 3", "ok", "house 1", "no", "house 1 1", "no", "pick bolt 1", "ok", "house 1", "no", "house 1 1", "slots nail bolt", "house 2 1", "slots bolt nail", "house 1 0 0", "slots nail bolt nail")
	isTold(t, "house 5", "no", "cost 5", "no", "good a 1", "ok", "pick a 1", "ok", "cost 5", "is 5", "cost 0", "is 0", "cost 0 1", "is 1/2", "cost 1 0 1", "is 2/3", "cost 999", "is 999", "pick a 99", "ok", "cost 5", "is 10", "cost 0 0 1", "is 2/3")
}

// Each code but that of a text's end; what is refused changes neither the sheet nor the job.
func TestRunLinesOfSheetLines(t *testing.T) {
	isTold(t, "good nail 3", "ok", "good nail 3", "no 4", "good nail 4", "no 4", "pick bolt 1", "no 5", "pick nail 100", "no 3", "pick nail 0", "no 3", "pick nail 99", "ok", "good bolt 101", "no 3", "good bolt 0", "no 3", "good bolt 100", "ok", "good Bolt 1", "no 2", "good abcdefghi 1", "no 2", "good", "no 1", "pick", "no 1", "good moon", "no 1", "good moon 1 1", "no 1", "pick moon 1", "no 5", "print", "sheet 2 1", "good good 1", "ok", "good pick 1", "ok", "pick good 1", "ok", "pick pick 1", "ok", "print", "sheet 4 3", "spots", "at 1 2 0")
	// Words are cut at each blank: of three with one blank between the sheet is told, of others it is not.
	isTold(t, "good  nail 3", "no 1", "good nail  3", "no 1", "good nail 3 ", "no 1", "good ", "no 1", "good  ", "no 1", "pick ", "no 1", "good nail ", "no 1", "good  3", "no 1", " good nail 3", "what", "  good nail 3", "what", "pick  nail 3", "no 1", "print", "sheet 0 0")
	isTold(t, "Good nail 3", "what", "GOOD nail 3", "what", "goods nail 3", "what", "goo nail 3", "what", "picks nail 3", "what", "pic nail 3", "what", "goodnail 3", "what", "good\tnail 3", "what", "good\tnail\t3", "what", "nail good 3", "what", "goodpick nail 3", "what", "print", "sheet 0 0")
	isTold(t, "good nail 1000", "no 3", "good nail 03", "no 3", "good nail 003", "no 3", "good nail +3", "no 3", "good nail -3", "no 3", "good nail 3.", "no 3", "good nail 3\r", "no 3", "good nail\t3", "no 1", "good nail 3\t", "no 3", "good nail x", "no 3", "good nail 999", "no 3", "good nail 18446744073709551619", "no 3", "print", "sheet 0 0", "good nail 100", "ok", "pick nail 09", "no 3", "pick nail 1000", "no 3", "pick nail 9", "ok", "print", "sheet 1 1")
	isTold(t, "pick nail 3", "no 5", "pick nail 300", "no 3", "pick Nail 300", "no 2", "pick Nail 300 1", "no 1", "good nail 300", "no 3", "good Nail 300", "no 2", "good Nail 300 1", "no 1", "good nail 30", "ok", "good nail 300", "no 3")
	isTold(t, "good na\x00il 3", "no 2", "good na\x7fil 3", "no 2", "good na\xffil 3", "no 2", "good na\ril 3", "no 2", "good naïl 3", "no 2", "good nail \x00", "no 3", "good nail \xff", "no 3", "good nail ３", "no 3", "print", "sheet 0 0")
}

func TestRunLinesOfTooManyGoods(t *testing.T) {
	lines := slices.Collect(strings.Lines(plainText(sheet(manyGoods(12)))))
	for n := range lines {
		lines[n] = strings.TrimSuffix(lines[n], "\n")
	}
	isToldBehind(t, lines[:11], "good moon 1", "ok")
	isToldBehind(t, lines, "good moon 1", "no 6")
	isToldBehind(t, lines, lines[11], "no 4")
	isToldBehind(t, lines, lines[0], "no 4")
	isToldBehind(t, lines, "good moon 0", "no 3")
	isToldBehind(t, lines, "pick moon 1", "no 5")
	isToldBehind(t, append(lines, "good moon 1"), "print", "sheet 12 0")
	isToldBehind(t, append(lines, "good moon 1"), "pick moon 1", "no 5")
	isToldBehind(t, append(lines, "good moon 1"), "class moon", "no")
	isToldBehind(t, append(lines, slices.Repeat([]string{"pick " + manyGoods(12)[11].Name + " 1"}, 47)...), "print", "sheet 12 47")
}

func TestRunLinesOfClasses(t *testing.T) {
	isTold(t, "class", "what", "class ", "no", "class  ", "what", "class a b", "what", "class a ", "what", " class a", "what", "class  a", "what", "class 1", "no", "class 1 2", "what", "class A", "no", "class a\x00", "no", "class \xff", "no", "class good", "no", "class class", "no", "classa", "what", "classes a", "what", "Class a", "what", "clas a", "what")
	isTold(t, "good a 1", "ok", "good b 1", "ok", "class a", "is 3", "class b", "is 3", "class c", "no", "pick b 1", "ok", "class a", "is 3", "class b", "is 1", "pick a 1", "ok", "class a", "is 1", "class b", "is 2", "class ab", "no", "class", "what", "class A", "no", "class a ", "what", "class a b", "what", "class aa", "no", "class a\r", "no")
	// Of 10 picks 5 are half, 9 are nine tenths.
	ten := setUp(5, 3, 1, 1)
	for n, want := range []string{"is 1", "is 2", "is 2", "is 3"} {
		isToldBehind(t, ten, "class "+manyGoods(4)[n].Name, want)
	}
	isToldBehind(t, setUp(0, 0, 3, 0), "class "+manyGoods(4)[1].Name, "is 3")
	isToldBehind(t, setUp(0, 0, 3, 0), "class "+manyGoods(4)[2].Name, "is 1")
	isToldBehind(t, setUp(slices.Repeat([]int{1}, 12)...), "class "+manyGoods(12)[11].Name, "is 3")
}

// Names that are first words are names behind the first word.
func TestRunLinesOfNamesThatAreWords(t *testing.T) {
	isTold(t, "good good 1", "ok", "good pick 2", "ok", "good class 3", "ok", "good print 4", "ok", "pick class 1", "ok", "pick print 2", "ok", "pick good 3", "ok", "pick pick 3", "ok", "class class", "is 2", "class print", "is 2", "class good", "is 1", "class pick", "is 1", "house 3 2 1 0", "slots print class pick good", "print", "sheet 4 4")
}

func TestRunLinesOfHouses(t *testing.T) {
	nine, eight := slices.Repeat([]int{1}, 9), slices.Repeat([]int{1}, 8)
	names := func(many int) string {
		text := ""
		for _, g := range manyGoods(many) {
			text += " " + g.Name
		}
		return text
	}
	one := names(1)
	for _, c := range []struct {
		picks       []int
		ways        string
		slots, cost string
	}{
		{[]int{1}, "", "what", "what"}, {[]int{1}, " ", "what", "what"}, {[]int{1}, " 7", "slots" + one, "is 7"}, {[]int{1}, " 0", "slots" + one, "is 0"}, {[]int{1}, " 999", "slots" + one, "is 999"}, {[]int{1}, " 1000", "what", "what"}, {[]int{30}, " 999", "slots" + one, "is 29970"}, {[]int{1}, " 0 1", "slots" + one + one, "is 1/2"}, {[]int{2}, " 0 1", "slots" + one + one, "is 1"}, {[]int{7}, " 9 9 9 1", "slots" + strings.Repeat(one, 4), "is 49"},
		{[]int{1}, strings.Repeat(" 3", 10), "slots" + strings.Repeat(one, 10), "is 3"}, {[]int{1}, strings.Repeat(" 3", 11), "what", "what"}, {[]int{1}, strings.Repeat(" 0", 9) + " 1", "slots" + strings.Repeat(one, 10), "is 1/10"}, {[]int{1}, strings.Repeat(" 3", 60), "what", "what"},
		// Goods without picks, with 30 and with one more, and more goods than may be.
		{nil, " 7", "no", "no"}, {nil, "", "what", "what"}, {nil, strings.Repeat(" 3", 10), "no", "no"}, {nil, strings.Repeat(" 3", 11), "what", "what"}, {[]int{0}, " 7", "no", "no"}, {[]int{1, 0}, " 7 7", "no", "no"}, {[]int{0, 1}, " 7 7 7", "no", "no"}, {[]int{31}, " 7", "no", "no"}, {[]int{30, 1}, " 7 8", "slots" + names(2), "is 218"}, {[]int{31, 1}, " 7 8", "no", "no"}, {[]int{1, 31}, " 7 8 9", "no", "no"}, {nine, strings.Repeat(" 3", 9), "no", "no"}, {nine, strings.Repeat(" 3", 10), "no", "no"},
		// Fewer ways than goods, as many, and more.
		{[]int{1, 1}, " 7", "no", "no"}, {[]int{1, 1}, " 7 7", "slots" + names(2), "is 14"}, {eight, strings.Repeat(" 3", 7), "no", "no"}, {eight, " 1 2 3 4 5 6 7 8", "slots" + names(8), "is 36"}, {eight, strings.Repeat(" 3", 9), "slots" + strings.TrimPrefix(names(8), one) + one + one, "is 24"}, {eight, strings.Repeat(" 3", 10), "slots goodc goodd goode goodf goodg goodh gooda gooda goodb goodb", "is 24"}, {eight, " 3", "no", "no"},
		// Other numbers.
		{[]int{1}, " 07", "what", "what"}, {[]int{1}, " 00", "what", "what"}, {[]int{1}, " +7", "what", "what"}, {[]int{1}, " -7", "what", "what"}, {[]int{1}, " x", "what", "what"}, {[]int{1}, " 7 x", "what", "what"}, {[]int{1}, " x 7", "what", "what"}, {[]int{1}, "  7", "what", "what"}, {[]int{1}, " 7 ", "what", "what"}, {[]int{1}, " 7  7", "what", "what"}, {[]int{1}, " 7\r", "what", "what"}, {[]int{1}, "\t7", "what", "what"}, {[]int{1}, "7", "what", "what"}, {[]int{1}, "s 7", "what", "what"}, {[]int{1}, " 1 2 3 1000", "what", "what"},
	} {
		isToldBehind(t, setUp(c.picks...), "house"+c.ways, c.slots)
		isToldBehind(t, setUp(c.picks...), "cost"+c.ways, c.cost)
		isToldBehind(t, setUp(c.picks...), " house"+c.ways, "what")
		isToldBehind(t, setUp(c.picks...), "Cost"+c.ways, "what")
	}
}

func TestRunLinesOfRoots(t *testing.T) {
	for n := range 1300 {
		want := "what"
		if n < 1000 {
			root := 0
			for (root+1)*(root+1) <= n {
				root++
			}
			want = fmt.Sprintf("is %d", root)
		}
		isTold(t, fmt.Sprintf("root %d", n), want)
		for _, form := range []string{"root 0%d", "root 00%d", "root +%d", "root -%d", "root %d0000", "root %dx", "root x%d", "root  %d", "root %d ", " root %d", "root%d", "root %d 1", "root 1 %d", "roots %d", "Root %d", "root %d.0", "root ٣%d", "%d", "%d root", "root\t%d"} {
			isTold(t, fmt.Sprintf(form, n), "what")
		}
	}
	isUnknown(t, "root", "root ", "root  ", "root x", "root 1 2", "root 1 2 3", "root 18446744073709551616", "root 4294967296", "root 1\r", "root \x001", "root 1\x00")
}

func TestRunLinesOfBoxes(t *testing.T) {
	isTold(t, "box 1", "is 1", "box 20", "is 1", "box 21", "no", "box 0", "no", "box 999", "no", "box 20 20", "is 2", "box 20 21", "no", "box 0 20", "no", "box 10 10", "is 1", "box 10 11", "is 2", "box 9 11 10 10", "is 2", "box 1 1 1 1 1 1 1 1 1", "is 1", "box 20 20 20 20 20 20 20 20 20", "is 9", "box 1 1 1 1 1 1 1 1 21", "no", "box 1 1 1 1 1 1 1 1 1 1", "what", "box 20 20 20 20 20 20 20 20 20 20", "what", "box 0 0 0 0 0 0 0 0 0 0", "what", "box 1 1 1 1 1 1 1 1 1 1 1", "what")
	isUnknown(t, "box", "box ", "box x", "box 1 x", "box x 1", "box 01", "box 1  1", "box 1 ", " box 1", "box 1000", "box 1 1000", "boxes 1", "Box 1", "bo 1", "box1", "box -1", "box +1")
}

func TestRunLinesOfShares(t *testing.T) {
	isTold(t, "share 4 8 2", "counts 3 1", "share 1 1", "counts 1", "share 40 30", "counts 40", "share 41 30", "no", "share 0 1", "no", "share 1 0", "no", "share 1 31", "no", "share 2 30 30", "counts 1 1", "share 1 30 30", "no", "share 0 30 30", "no", "share 999 999", "no", "share 3 1 30", "counts 1 2", "share 8 1 1 1 1 1 1 1 1", "counts 1 1 1 1 1 1 1 1", "share 7 1 1 1 1 1 1 1 1", "no", "share 40 30 30 30 30 30 30 30 30", "counts 5 5 5 5 5 5 5 5", "share 9 1 1 1 1 1 1 1 1 1", "no", "share 40 1 1 1 1 1 1 1 1 1", "no", "share 40 1 1 1 1 1 1 1 1 1 1 1 1 1", "no")
	isUnknown(t, "share", "share ", "share 4", "share 0", "share 40", "share x", "share x 8 2", "share 4 x 2", "share 4 8 x", "share 4 8 02", "share 04 8 2", "share 4  8 2", "share 4 8 2 ", "share 4 1000", "share 1000 4", "shares 4 8 2", "Share 4 8 2", "shar 4 8 2", "share -4 8", "share 4 +8")
}

func TestRunLinesOfOtherWords(t *testing.T) {
	isUnknown(t, "", " ", "  ", "fly", "0", "7", "ok", "no", "what", "is", "sheet", "move 0 2", "at 1 2 0", "slots", "counts", "\t", "\r", "\x00", "\x7f", "\xff", "é", "\xc3", "\ufeffprint", "print\r", "print\x00", "print\xff", "print\t", "\x00print", "next\r", "spots\x7f")
	for _, word := range []string{"print", "next", "confirm", "fail", "replan", "abort", "spots"} {
		isUnknown(t, word+" ", " "+word, word+" 1", word+" x", word+"  ", word+" "+word, strings.ToUpper(word), strings.ToUpper(word[:1])+word[1:], word[:len(word)-1], word+"s", word+"x", word+word, word[1:], "x"+word, word+"1", word+" 0", word+" nail", word+"\t")
	}
	isUnknown(t, "print next", "confirm print", "order 1", "1 confirm", "new", "job", "sheetof", "goods", "picks", "printsheet", "moves", "fails", "aborted", "plan", "re plan")
}

func TestRunLinesOfAJob(t *testing.T) {
	isTold(t, "next", "move 0 2", "spots", "at 1 2 0", "confirm", "ok", "next", "move 1 0", "spots", "at 0 2 1", "confirm", "ok", "next", "move 2 1", "spots", "at 2 0 1", "confirm", "ok", "next", "no", "spots", "at 2 1 0", "confirm", "no", "fail", "no", "spots", "at 2 1 0", "replan", "ok", "next", "no", "confirm", "no", "abort", "ok", "replan", "ok", "spots", "at 2 1 0")
	isTold(t, "fail", "ok", "next", "no", "confirm", "no", "fail", "no", "spots", "at 1 2 0", "replan", "ok", "next", "move 0 2", "confirm", "ok", "fail", "ok", "spots", "at 0 2 1", "replan", "ok", "next", "move 1 0", "abort", "ok", "next", "no", "abort", "ok", "fail", "no", "replan", "ok", "replan", "ok", "confirm", "ok", "confirm", "ok", "spots", "at 2 1 0", "next", "no")
	// A number behind the word, and another line, change nothing.
	isTold(t, "confirm 1", "what", "next 1", "what", "fail 2", "what", "abort 4", "what", "next", "move 0 2", "confirm", "ok", "replan 3", "what", "spots 1", "what", "good a 1", "ok", "good a 1", "no 4", "house 1", "no", "next", "move 1 0", "spots", "at 0 2 1")
}

// Each list of up to five orders, with what stands where and what comes next behind each.
func TestRunLinesOfEachFewOrders(t *testing.T) {
	words := []string{"confirm", "fail", "replan", "abort"}
	asked := map[string]int{}
	for _, l := range everyList([]int{1, 2, 3, 4}, 5) {
		lines := []string{"next", "spots"}
		for _, order := range l {
			lines = append(lines, words[order-1], "next", "spots")
		}
		told := isHeardAs(t, scriptOf(lines...))
		_, done, ok := impl.PlayJob([]int{1, 2, 0}, []int{2, 1, 0}, l)
		if !ok {
			t.Fatal(l)
		}
		for n, was := range done {
			if want := orNo(was, "ok"); told[2+3*n] != want {
				t.Fatalf("order %d of %v is told %q, not %q", n, l, told[2+3*n], want)
			}
		}
		for n, answer := range told {
			asked[lines[n]+" "+answer]++
		}
	}
	for _, word := range words {
		if asked[word+" ok"] == 0 || (word == "confirm" || word == "fail") && asked[word+" no"] == 0 {
			t.Errorf("told were: %v", asked)
		}
	}
	for _, answer := range []string{"next move 0 2", "next move 1 0", "next move 2 1", "next no", "spots at 1 2 0", "spots at 0 2 1", "spots at 2 0 1", "spots at 2 1 0"} {
		if asked[answer] == 0 {
			t.Errorf("told were: %v", asked)
		}
	}
}

// No order leads away from what is wanted, and what failed needs a new plan: so no script comes to the bounds of a job's log.
func TestNoScriptComesToTheBoundsOfALog(t *testing.T) {
	jobs := []impl.Job{newPlainDesk().j}
	seen := map[string]int{}
	for n := 0; n < len(jobs); n++ {
		for order := 1; order <= 4; order++ {
			next, ok := impl.DoJob(jobs[n], order)
			if !ok {
				continue
			}
			if len(next.Moved) > 3 || next.Failed > jobs[n].Failed && (len(jobs[n].Left) == 0 || len(next.Left) > 0) {
				t.Fatalf("%v leads to %v", jobs[n], next)
			}
			if key := fmt.Sprint(next.At, next.Left, next.Moved); seen[key] == 0 {
				seen[key]++
				next.Failed = 0
				jobs = append(jobs, next)
			}
		}
	}
	if len(jobs) < 7 || len(jobs) > 20 {
		t.Errorf("%d jobs: %v", len(jobs), jobs)
	}
	for _, words := range [][]string{{"confirm"}, {"fail"}, {"replan"}, {"abort"}, {"fail", "replan"}, {"abort", "replan"}, {"confirm", "replan"}, {"replan", "confirm"}, {"confirm", "fail", "replan"}, {"next", "confirm"}, {"spots", "confirm"}} {
		isHeardAs(t, scriptOf(slices.Repeat(words, 60)[:60]...))
	}
	if got, want := impl.RunLines(strings.Repeat("fail\nreplan\n", 30)), strings.Repeat("ok\nok\n", 30); got != want {
		t.Errorf("failing 30 times is told %q", got)
	}
	if got, want := impl.RunLines(strings.Repeat("confirm\n", 60)), strings.Repeat("ok\n", 3)+strings.Repeat("no\n", 57); got != want {
		t.Errorf("confirming 60 times is told %q", got)
	}
}

func TestScriptsAtTheirLimits(t *testing.T) {
	if text, ok := impl.SheetOf(""); !isNoSheet(text) || !ok || impl.RunLines("") != "" {
		t.Error("the empty text is a script without lines")
	}
	for many := range 64 {
		for _, l := range []string{"", "print", "good a 1", "confirm"} {
			text := strings.Repeat(l+"\n", many)
			if told := isHeardAs(t, text); len(told) != many && many <= 60 || len(told) != 0 && many > 60 {
				t.Errorf("%q %d times has %d answers", l, many, len(told))
			}
		}
	}
	for bytes := 2490; bytes <= 2510; bytes++ {
		one := strings.Repeat("x", bytes-1) + "\n"
		behind := "good a 1\npick a 1\n" + strings.Repeat("x", bytes-19) + "\n"
		ahead := strings.Repeat(" ", bytes-19) + "\n" + "good a 1\npick a 1\n"
		full := strings.Repeat("print\n", 59) + strings.Repeat("9", bytes-59*6-1) + "\n"
		for _, text := range []string{one, behind, ahead, full} {
			if len(text) != bytes {
				t.Fatal(len(text), bytes)
			}
			if told := isHeardAs(t, text); (len(told) > 0) != (bytes <= 2500) {
				t.Errorf("a script of %d bytes is told %q", bytes, told)
			}
			isNoScript(t, text[:bytes-1])
			isNoScript(t, text+"\n"+strings.Repeat("x", 2500))
		}
	}
	if got, want := impl.RunLines(strings.Repeat("root 16\n", 60)), strings.Repeat("is 4\n", 60); got != want {
		t.Errorf("60 lines are told %q", got)
	}
	for _, text := range []string{strings.Repeat("\n", 61), strings.Repeat("\n", 2500), strings.Repeat("\n", 2501), strings.Repeat("root 16\n", 61), strings.Repeat("x", 2500), strings.Repeat("good a 1\n", 1000), strings.Repeat("x", 100000) + "\n", strings.Repeat("\n", 100000)} {
		isNoScript(t, text)
	}
}

func TestPromise19WhatHasNoEndIsNoScript(t *testing.T) {
	for _, text := range []string{"p", "print", " ", "\r", "\x00", "\xff", "print\nprint", "print\n ", "print\n\x00", "\nx", "\n\nx", "good a 1", "good a 1\npick a 1", "good a 1\r", "print\r", "print\x0b", "print\u2028", "print\u0085", "good a 1\n\n\nx"} {
		isNoScript(t, text)
	}
}

// drawnNumber is mostly within the bounds of what it is for.
func drawnNumber(d *dice, most int) int {
	return []int{d.below(most + 1), d.below(most + 1), d.below(5), most, most + 1, d.below(1000)}[max(0, d.below(16)-10)]
}

func drawnNumbers(d *dice, many int, most int) string {
	text := ""
	for range many {
		text += fmt.Sprintf(" %d", drawnNumber(d, most))
	}
	return text
}

// drawnLine asks the sheet and the job, and what hangs on neither.
func drawnLine(d *dice, names []string) string {
	name := names[d.below(len(names))]
	switch d.below(20) {
	case 0, 1:
		return fmt.Sprintf("good %s %d", name, drawnNumber(d, 100))
	case 2, 3, 4:
		return fmt.Sprintf("pick %s %d", name, drawnNumber(d, 99))
	case 5:
		return "print"
	case 6, 7:
		return "class " + name
	case 8, 9:
		return "house" + drawnNumbers(d, d.below(13), 999)
	case 10, 11:
		return "cost" + drawnNumbers(d, d.below(13), 999)
	case 12, 13, 14, 15:
		return []string{"next", "confirm", "confirm", "fail", "replan", "replan", "abort", "spots"}[d.below(8)]
	case 16:
		return "root" + drawnNumbers(d, []int{0, 1, 1, 1, 1, 2}[d.below(6)], 999)
	case 17:
		return "box" + drawnNumbers(d, d.below(12), 20)
	case 18:
		return "share" + drawnNumbers(d, 1, 40) + drawnNumbers(d, d.below(11), 30)
	}
	return []string{"", "fly", "moves", name, "ok", "what", "sheet 1 1"}[d.below(7)]
}

// spoiltLine has a blank, a nought, a capital or any other byte somewhere, or one byte fewer.
func spoiltLine(d *dice, l string) string {
	at := d.below(len(l) + 1)
	switch d.below(8) {
	case 0:
		return l[:at] + " " + l[at:]
	case 1:
		return strings.Replace(l, " ", "  ", 1)
	case 2:
		return strings.Replace(l, " ", " 0", 1+d.below(3))
	case 3:
		return strings.ToUpper(l[:at]) + l[at:]
	case 4:
		return l[:at] + string([]byte{byte(11 + d.below(245))}) + l[at:]
	case 5:
		return l[:at]
	case 6:
		return l + []string{" ", " 1", "s", "\r", "\x00"}[d.below(5)]
	}
	return " " + l
}

// drawnScript has a sheet ahead of which houses can be made, or is all drawn; some have as many goods, or as many lines, as may be.
func drawnScript(i int) string {
	d := diceOf(i)
	var lines, names []string
	for _, g := range drawnGoods(d, []int{1 + d.below(8), 1 + d.below(3), 14}[d.below(3)]) {
		names = append(names, g.Name)
	}
	for n, name := range names {
		if i%3 == 0 && n < 8 || i%9 == 1 {
			lines = append(lines, fmt.Sprintf("good %s %d", name, 1+d.below(100)))
		}
		if i%3 == 0 && n < 8 {
			lines = append(lines, slices.Repeat([]string{fmt.Sprintf("pick %s %d", name, 1+d.below(99))}, 1+d.below(4))...)
		}
	}
	many := []int{60, d.below(61), 20}[d.below(3)]
	for len(lines) < many {
		l := drawnLine(d, names)
		if d.below(10) == 0 {
			l = spoiltLine(d, l)
		}
		lines = append(lines, l)
	}
	return scriptOf(lines[:many]...)
}

func TestRunLinesOfDrawnScripts(t *testing.T) {
	told, long := map[string]int{}, map[int]int{}
	for i := range 6000 {
		text := drawnScript(i)
		answers := isHeardAs(t, text)
		long[len(answers)]++
		lines := strings.Split(text, "\n")
		for n, answer := range answers {
			word, _, _ := strings.Cut(lines[n], " ")
			first, _, _ := strings.Cut(answer, " ")
			told[word+" "+first]++
			if strings.HasPrefix(answer, "no ") {
				told[answer]++
			}
			if strings.Contains(answer, "/") {
				told["fraction"]++
			}
		}
	}
	for _, kind := range []string{"good ok", "good no", "pick ok", "pick no", "print sheet", "class is", "class no", "house slots", "house no", "house what", "cost is", "cost no", "cost what", "next move", "next no", "confirm ok", "confirm no", "fail ok", "fail no", "replan ok", "abort ok", "spots at", "root is", "root what", "box is", "box no", "box what", "share counts", "share no", "share what", " what", "fly what", "no 1", "no 2", "no 3", "no 4", "no 5", "no 6", "fraction"} {
		if told[kind] < 100 {
			t.Errorf("%q was told %d times", kind, told[kind])
		}
	}
	if len(long) != 61 || long[60] < 1000 {
		t.Errorf("so many had so many lines: %v", long)
	}
}

// Of a script's first lines the answers are the first ones of the whole script's, and the sheet is that of then.
func TestPromise18EachShorterScript(t *testing.T) {
	for i := range 1500 {
		text := drawnScript(i)
		told, desks := plainRun(text)
		whole := impl.RunLines(text)
		short, shortTold := "", ""
		for n, l := range slices.Collect(strings.Lines(text)) {
			short += l
			shortTold += told[n] + "\n"
			got := impl.RunLines(short)
			if got != shortTold || !strings.HasPrefix(whole, got) || strings.Count(got, "\n") != n+1 {
				t.Fatalf("RunLines(%q) = %q, of the whole script it is %q", short, got, whole)
			}
			if s, ok := impl.SheetOf(short); !sameSheet(s, desks[n].s) || !ok {
				t.Fatalf("SheetOf(%q) = %v %v, not %v", short, s, ok, desks[n].s)
			}
		}
	}
}

// Whatever follows, as long as it is still a script.
func TestPromise18WhateverFollows(t *testing.T) {
	for i := range 3000 {
		d := diceOf(i)
		lines := slices.Collect(strings.Lines(drawnScript(i)))
		begin := lines[:d.below(len(lines)+1)]
		ahead := strings.Join(begin, "")
		told := impl.RunLines(ahead)
		others := slices.Collect(strings.Lines(drawnScript(i + 1 + d.below(10000))))
		others = others[:min(len(others), 60-len(begin))]
		room := 2500 - len(ahead)
		follows := []string{strings.Join(others, ""), strings.Repeat("\n", 60-len(begin)), strings.Repeat("good z 1\n", min(room/9, 60-len(begin)))}
		if len(begin) < 60 && room > 0 {
			follows = append(follows, strings.Repeat("\xff", room-1)+"\n")
		}
		for _, behind := range follows {
			got := impl.RunLines(ahead + behind)
			if !plainlyScript(ahead + behind) {
				if got != "" {
					t.Fatalf("RunLines(%q) = %q", ahead+behind, got)
				}
				continue
			}
			if !strings.HasPrefix(got, told) || strings.Count(got, "\n") != len(begin)+strings.Count(behind, "\n") {
				t.Fatalf("RunLines(%q) = %q, but of what is ahead %q", ahead+behind, got, told)
			}
		}
	}
}

// A line that is not done, or that only asks, is as if it were not there.
func TestPromise18WhatIsRefusedChangesNothing(t *testing.T) {
	left := 0
	for i := range 1500 {
		text := drawnScript(i)
		told, desks := plainRun(text)
		var kept []string
		for n, l := range slices.Collect(strings.Lines(text)) {
			if told[n] == "ok" {
				kept = append(kept, l)
			} else {
				left++
			}
		}
		short := strings.Join(kept, "")
		if got := impl.RunLines(short); got != strings.Repeat("ok\n", len(kept)) {
			t.Fatalf("RunLines(%q) = %q", short, got)
		}
		if len(desks) == 0 {
			continue
		}
		if s, ok := impl.SheetOf(short); !sameSheet(s, desks[len(desks)-1].s) || !ok {
			t.Fatalf("SheetOf(%q) = %v %v, but of %q %v", short, s, ok, text, desks[len(desks)-1].s)
		}
	}
	if left < 10000 {
		t.Errorf("%d lines were left out", left)
	}
}

func TestSheetOfIsTheSheetThatIsParsed(t *testing.T) {
	for i := range 2000 {
		s := drawnSheet(i)
		s.Lines = s.Lines[:min(len(s.Lines), 60-len(s.Goods))]
		text := plainText(s)
		if got, ok := impl.SheetOf(text); !sameSheet(got, s) || !ok {
			t.Fatalf("SheetOf(%q) = %v %v", text, got, ok)
		}
		if got := impl.RunLines(text); got != strings.Repeat("ok\n", len(s.Goods)+len(s.Lines)) {
			t.Fatalf("RunLines(%q) = %q", text, got)
		}
	}
	for _, c := range []struct {
		text string
		want impl.Sheet
	}{
		{"print\n", impl.Sheet{}}, {"\n", impl.Sheet{}}, {"pick a 1\n", impl.Sheet{}}, {"good a 1\nfly\npick a 2\npick b 3\ngood a 2\ngood b 3\nconfirm\npick b 4\n", sheet([]impl.Good{good("a", 1), good("b", 3)}, line(0, 2), line(1, 4))},
	} {
		if got, ok := impl.SheetOf(c.text); !sameSheet(got, c.want) || !ok {
			t.Errorf("SheetOf(%q) = %v %v", c.text, got, ok)
		}
	}
}

// One byte is taken out, put in, or put in the place of another one, wherever it may be and whichever it is.
func TestPromise19RunLinesOfEachByte(t *testing.T) {
	for _, l := range []string{"good c 1", "pick a 2", "print", "class a", "house 1 20", "cost 300 4", "next", "confirm", "fail", "replan", "abort", "spots", "root 99", "box 9 9", "share 4 1 2", ""} {
		for at := range len(l) + 1 {
			for b := range 256 {
				with := func(rest string) string {
					return "good a 1\npick a 1\n" + l[:at] + string([]byte{byte(b)}) + rest + "\nspots\n"
				}
				isHeardAs(t, with(l[at:]))
				if at < len(l) {
					isHeardAs(t, with(l[at+1:]))
				}
			}
			isHeardAs(t, scriptOf("good a 1", "pick a 1", l[:at], "spots", l[at:], "print"))
		}
	}
}

// Texts of any bytes, and of pieces of lines.
func TestPromise19RunLinesOfAnyTexts(t *testing.T) {
	pieces := []string{"good", "pick", "class", "house", "cost", "root", "box", "share", "next", "confirm", " ", " ", " ", " ", "\n", "\n", "\n", "a", "b", "0", "1", "20", "999", "1000", "-1", "\r", "\x00", "\x7f", "\xff", "é", "\xe2\x82", "A"}
	scripts := 0
	for i := range 30000 {
		d := diceOf(i)
		text := ""
		for range d.below(120) {
			if i%3 == 0 {
				text += string([]byte{byte(d.below(256))})
			} else {
				text += pieces[d.below(len(pieces))]
			}
		}
		if d.below(4) > 0 {
			text += "\n"
		}
		if len(isHeardAs(t, text)) > 0 {
			scripts++
		}
	}
	if scripts < 10000 {
		t.Errorf("%d texts were scripts", scripts)
	}
}

// All texts of up to four of these pieces.
func TestRunLinesOfAllSmallTexts(t *testing.T) {
	pieces := []string{"good a 1\n", "pick a 1\n", "house 1\n", "cost", "root", "class a", "next\n", " ", " 4", "\n", "confirm\n"}
	for _, l := range everyList(countUp(len(pieces)), 4) {
		text := ""
		for _, i := range l {
			text += pieces[i]
		}
		isHeardAs(t, text)
	}
}

func TestPromise19ScriptsShareNothing(t *testing.T) {
	for i := range 300 {
		text := strings.Clone(drawnScript(i))
		told := impl.RunLines(text)
		a, _ := impl.SheetOf(text)
		b, _ := impl.SheetOf(text)
		if !sameSheet(a, b) {
			t.Fatalf("SheetOf(%q) = %v and %v", text, a, b)
		}
		for n, g := range a.Goods {
			if liesIn(g.Name, text) || liesIn(g.Name, told) || liesIn(g.Name, b.Goods[n].Name) {
				t.Errorf("the Name %q lies in another text", g.Name)
			}
		}
		if liesIn(told, text) || liesIn(impl.RunLines(text), told) {
			t.Errorf("RunLines(%q) lies in another text", text)
		}
		shareNoLists(t, a, b)
		isHeardAs(t, text)
	}
	// What is made of an answer does not come back to the next one.
	text := "good a 1\ngood b 2\npick a 1\npick b 1\n"
	s, _ := impl.SheetOf(text)
	s.Goods[0], s.Lines[0] = good("z", 99), line(1, 99)
	isHeardAs(t, text+"house 1 2\n")
}
