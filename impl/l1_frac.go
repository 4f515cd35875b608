package impl

import "strconv"

const MaxPart = 1000000000

const maxSummands = 50

// How one fraction stands to another one.
const (
	below = iota - 1
	alike
	above
)

type Frac struct {
	Num int
	Den int
}

func GoodFrac(a Frac) bool {
	return isPart(a.Num) && isPart(a.Den) && a.Den > 0 && a == lowestTerms(a.Num, a.Den)
}

func FracOf(num int, den int) (Frac, bool) {
	if !isPart(num) || !isPart(den) || den == 0 {
		return Frac{}, false
	}
	return lowestTerms(num, den), true
}

func AddFrac(a Frac, b Frac) (Frac, bool) {
	if !GoodFrac(a) || !GoodFrac(b) {
		return Frac{}, false
	}
	return onlyGood(lowestTerms(a.Num*b.Den+b.Num*a.Den, a.Den*b.Den))
}

func SubFrac(a Frac, b Frac) (Frac, bool) {
	if !GoodFrac(a) || !GoodFrac(b) {
		return Frac{}, false
	}
	return onlyGood(lowestTerms(a.Num*b.Den-b.Num*a.Den, a.Den*b.Den))
}

func MulFrac(a Frac, b Frac) (Frac, bool) {
	if !GoodFrac(a) || !GoodFrac(b) {
		return Frac{}, false
	}
	return onlyGood(lowestTerms(a.Num*b.Num, a.Den*b.Den))
}

func DivFrac(a Frac, b Frac) (Frac, bool) {
	if !GoodFrac(a) || !GoodFrac(b) || b == wholeFrac(0) {
		return Frac{}, false
	}
	return onlyGood(lowestTerms(a.Num*b.Den, a.Den*b.Num))
}

func LessFrac(a Frac, b Frac) (bool, bool) {
	if !GoodFrac(a) || !GoodFrac(b) {
		return false, false
	}
	return compareFracs(a, b) == below, true
}

func FloorFrac(a Frac) (int, bool) {
	if !GoodFrac(a) {
		return 0, false
	}
	floor := a.Num / a.Den
	// Go's division goes toward 0, so below 0 it ends one too high.
	if a.Num%a.Den < 0 {
		floor--
	}
	return floor, true
}

func SumFracs(l []Frac) (Frac, bool) {
	if len(l) > maxSummands {
		return Frac{}, false
	}
	sum := wholeFrac(0)
	for _, a := range l {
		next, ok := AddFrac(sum, a)
		if !ok {
			return Frac{}, false
		}
		sum = next
	}
	return sum, true
}

func FracText(a Frac) (string, bool) {
	if !GoodFrac(a) {
		return "", false
	}
	text := strconv.Itoa(a.Num)
	if a.Den != 1 {
		text += "/" + strconv.Itoa(a.Den)
	}
	return text, true
}

func isPart(n int) bool {
	return n >= -MaxPart && n <= MaxPart
}

func wholeFrac(n int) Frac {
	return Frac{Num: n, Den: 1}
}

// onlyGood comes last in all reckoning, as terms may have grown beyond their bounds.
func onlyGood(a Frac) (Frac, bool) {
	if !GoodFrac(a) {
		return Frac{}, false
	}
	return a, true
}

// lowestTerms needs a den that is not 0. Sums and products of two parts each stay far from the ends of int, so nothing wraps round.
func lowestTerms(num int, den int) Frac {
	if den < 0 {
		num, den = -num, -den
	}
	common := greatestDivisor(num, den)
	return Frac{Num: num / common, Den: den / common}
}

func greatestDivisor(a int, b int) int {
	for b != 0 {
		a, b = b, a%b
	}
	if a < 0 {
		return -a
	}
	return a
}

// compareFracs needs good fractions: in lowest terms they are as great only where they are the same struct.
func compareFracs(a Frac, b Frac) int {
	if a == b {
		return alike
	}
	if a.Num*b.Den < b.Num*a.Den {
		return below
	}
	return above
}
