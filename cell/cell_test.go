package cell_test

import (
	"fmt"
	"math"
	"math/big"
	"slices"
	"testing"

	"switchyard/cell"
)

var (
	inf       = math.Inf(1)
	nan       = math.NaN()
	minusZero = math.Copysign(0, -1)
)

// inside holds numbers that are parts of cells, the limits first.
var inside = []int{0, 65535, 1, 2, 3, 255, 256, 4096, 32767, 32768, 40000, 65533, 65534}

// outside holds whole numbers that are no parts of cells, the neighbours of the limits first.
var outside = []int{-1, 65536, -2, 65537, -65535, -65536, 131071, 131072, 1 << 32, 1<<53 + 1, -1 << 40, math.MinInt, math.MinInt + 1, math.MaxInt - 1, math.MaxInt}

// broken holds floating-point numbers that are no parts of cells.
var broken = []float64{
	-1, 65536, -0.5, 0.5, 1.5, 65534.5, 65535.5, -65535, 131072,
	math.SmallestNonzeroFloat64, -math.SmallestNonzeroFloat64,
	math.Nextafter(0, -1), math.Nextafter(1, 0), math.Nextafter(1, 2), math.Nextafter(65535, 0), math.Nextafter(65535, 65536),
	1 << 16, 1 << 31, 1 << 32, 1<<32 + 1, 1 << 62, 1 << 63, 1 << 64, -1 << 32, -1 << 63, 1e300, -1e300,
	math.MaxFloat64, -math.MaxFloat64, inf, -inf, nan,
}

// steps holds numbers for by: small, negative, multiples of 65536 and the ends of int.
var steps = []int{
	0, 1, 2, 3, 255, 32767, 32768, 65534, 65535, 65536, 65537, 131072, 1 << 32, 1<<32 + 5, 1 << 62, math.MaxInt - 1, math.MaxInt,
	-1, -2, -3, -255, -32767, -32768, -65535, -65536, -65537, -131072, -1 << 32, -1<<32 - 5, math.MinInt, math.MinInt + 1,
}

// number joins the parts without the package under test.
func number(addr, word int) complex128 { return complex(float64(addr), float64(word)) }

// noCells returns numbers in which the real part, the imaginary part or both exclude a cell.
func noCells() []complex128 {
	var l []complex128
	for _, x := range broken {
		for _, y := range []float64{0, minusZero, 1, 65535} {
			l = append(l, complex(x, y), complex(y, x))
		}
		for _, y := range broken {
			l = append(l, complex(x, y))
		}
	}
	return l
}

// cells returns a cell for each pair of inside numbers.
func cells() []complex128 {
	var l []complex128
	for _, a := range inside {
		for _, w := range inside {
			l = append(l, number(a, w))
		}
	}
	return l
}

// isWhole reports whether both parts are whole numbers from 0 to 65535.
func isWhole(c complex128) bool {
	for _, x := range []float64{real(c), imag(c)} {
		if x != math.Trunc(x) || x < 0 || x > 65535 {
			return false
		}
	}
	return true
}

func TestLast(t *testing.T) {
	if cell.Last != 65535 {
		t.Fatal(cell.Last)
	}
}

// The example of the chapter.
func TestExample(t *testing.T) {
	if c, ok := cell.Of(2, 3); c != 2+3i || !ok {
		t.Error("Of", c, ok)
	}
	if c := cell.Turn(2 + 3i); c != 3+2i {
		t.Error("Turn", c)
	}
	if c := cell.Next(2+3i, -3); c != 65535+3i {
		t.Error("Next", c)
	}
	if s := cell.Text(2 + 3i); s != "0002:0003" {
		t.Error("Text", s)
	}
}

// P2.1
func TestOfCells(t *testing.T) {
	for _, a := range inside {
		for _, w := range inside {
			if c, ok := cell.Of(a, w); !ok || c != number(a, w) {
				t.Errorf("Of(%d, %d) = %v, %v", a, w, c, ok)
			}
		}
	}
}

// P2.1
func TestOfOutside(t *testing.T) {
	refuse := func(addr, word int) {
		if c, ok := cell.Of(addr, word); ok || c != 0 {
			t.Errorf("Of(%d, %d) = %v, %v", addr, word, c, ok)
		}
	}
	for _, n := range outside {
		for _, m := range inside {
			refuse(n, m)
			refuse(m, n)
		}
		for _, m := range outside {
			refuse(n, m)
		}
	}
}

// P2.1
func TestPartsOfCells(t *testing.T) {
	for _, a := range inside {
		for _, w := range inside {
			if addr, word, ok := cell.Parts(number(a, w)); !ok || addr != a || word != w {
				t.Errorf("Parts(%v) = %d, %d, %v", number(a, w), addr, word, ok)
			}
		}
	}
}

// P2.1: every address and every word once.
func TestEveryPart(t *testing.T) {
	for n := range 65536 {
		m := 65535 - n
		c, ok := cell.Of(n, m)
		if !ok || c != number(n, m) {
			t.Fatalf("Of(%d, %d) = %v, %v", n, m, c, ok)
		}
		if a, w, ok := cell.Parts(c); !ok || a != n || w != m {
			t.Fatalf("Parts(%v) = %d, %d, %v", c, a, w, ok)
		}
	}
}

// P2.1
func TestPartsOfNoCell(t *testing.T) {
	for _, c := range noCells() {
		if a, w, ok := cell.Parts(c); ok || a != 0 || w != 0 {
			t.Errorf("Parts(%v) = %d, %d, %v", c, a, w, ok)
		}
	}
}

// P2.1: a fraction at every address, and at every word.
func TestPartsOfFractions(t *testing.T) {
	for n := range 65536 {
		for _, x := range []float64{float64(n) + 0.5, math.Nextafter(float64(n), -inf), math.Nextafter(float64(n), inf)} {
			for _, c := range []complex128{complex(x, 7), complex(7, x)} {
				if a, w, ok := cell.Parts(c); ok || a != 0 || w != 0 {
					t.Fatalf("Parts(%v) = %d, %d, %v", c, a, w, ok)
				}
			}
		}
	}
}

// P2.1 to P2.4: a part that is -0 counts as 0.
func TestNegativeZero(t *testing.T) {
	for _, c := range []struct {
		number     complex128
		addr, word int
		text       string
	}{
		{complex(minusZero, minusZero), 0, 0, "0000:0000"},
		{complex(minusZero, 0), 0, 0, "0000:0000"},
		{complex(0, minusZero), 0, 0, "0000:0000"},
		{complex(minusZero, 65535), 0, 65535, "0000:ffff"},
		{complex(65535, minusZero), 65535, 0, "ffff:0000"},
		{complex(minusZero, 9), 0, 9, "0000:0009"},
		{complex(9, minusZero), 9, 0, "0009:0000"},
	} {
		if a, w, ok := cell.Parts(c.number); !ok || a != c.addr || w != c.word {
			t.Errorf("Parts(%v) = %d, %d, %v", c.number, a, w, ok)
		}
		if w, ok := cell.Find([]complex128{c.number}, c.addr); !ok || w != c.word {
			t.Errorf("Find(%v, %d) = %d, %v", c.number, c.addr, w, ok)
		}
		if got := cell.Turn(c.number); got != number(c.word, c.addr) {
			t.Errorf("Turn(%v) = %v", c.number, got)
		}
		if got := cell.Next(c.number, -1); got != number((c.addr+65535)%65536, c.word) {
			t.Errorf("Next(%v, -1) = %v", c.number, got)
		}
		if got := cell.Text(c.number); got != c.text {
			t.Errorf("Text(%v) = %q", c.number, got)
		}
		if !cell.Same([]complex128{c.number}, []complex128{number(c.addr, c.word)}) {
			t.Errorf("Same(%v) = false", c.number)
		}
	}
}

// P2.2
func TestFindExamples(t *testing.T) {
	list := []complex128{1 + 2i, 3 + 4i, 1 + 5i, 65535 + 65535i, 6, 0 + 8i}
	for _, c := range []struct {
		list       []complex128
		addr, word int
		ok         bool
	}{
		{nil, 0, 0, false},
		{[]complex128{}, 0, 0, false},
		{nil, -1, 0, false},
		{list, 1, 5, true},
		{list, 3, 4, true},
		{list, 65535, 65535, true},
		{list, 6, 0, true},
		{list, 0, 8, true},
		{list, 2, 0, false},
		{list, 5, 0, false},
		{list, -1, 0, false},
		{list, 65536, 0, false},
		{list, 65537, 0, false},
		{list, math.MinInt, 0, false},
		{list, math.MaxInt, 0, false},
		{list[:2], 1, 2, true},
		{list[:2], 65535, 0, false},
		{list[3:], 1, 0, false},
		{[]complex128{7 + 1i, 7 + 2i, 7 + 3i, 7}, 7, 0, true},
		{[]complex128{7 + 1i, 7 + 2i, 7 + 3i, 7}, 0, 0, false},
		{[]complex128{5 + 7i}, 7, 0, false},
	} {
		if w, ok := cell.Find(c.list, c.addr); w != c.word || ok != c.ok {
			t.Errorf("Find(%v, %d) = %d, %v", c.list, c.addr, w, ok)
		}
	}
}

// P2.2
func TestFindIgnoresNoCells(t *testing.T) {
	bad := noCells()
	for _, addr := range []int{0, 1, 65535, -1, 65536, 131072, math.MinInt, math.MaxInt} {
		if w, ok := cell.Find(bad, addr); w != 0 || ok {
			t.Errorf("Find among numbers that are no cells, %d: %d, %v", addr, w, ok)
		}
	}
	list := slices.Concat(bad, []complex128{1 + 2i, 65535 + 9i}, bad, []complex128{1 + 3i}, bad)
	for _, c := range []struct {
		addr, word int
		ok         bool
	}{{1, 3, true}, {65535, 9, true}, {0, 0, false}, {2, 0, false}, {-1, 0, false}, {65536, 0, false}} {
		if w, ok := cell.Find(list, c.addr); w != c.word || ok != c.ok {
			t.Errorf("Find(.., %d) = %d, %v", c.addr, w, ok)
		}
	}
}

// P2.2: a number with the right address that is no cell hides nothing.
func TestFindPassesBadWords(t *testing.T) {
	for _, x := range broken {
		if w, ok := cell.Find([]complex128{4 + 6i, complex(4, x)}, 4); w != 6 || !ok {
			t.Errorf("Find past %v: %d, %v", x, w, ok)
		}
		if w, ok := cell.Find([]complex128{complex(4, x)}, 4); w != 0 || ok {
			t.Errorf("Find of %v alone: %d, %v", x, w, ok)
		}
	}
}

// P2.2: against a table of what was written last, in all lists of up to four numbers.
func TestFindOfAllShortLists(t *testing.T) {
	numbers := []complex128{0, 1 + 2i, 1 + 3i, 2 + 3i, 1.5 + 9i, 1 - 1i}
	var extend func(list []complex128)
	extend = func(list []complex128) {
		want := map[int]int{}
		for _, c := range list {
			if isWhole(c) {
				want[int(real(c))] = int(imag(c))
			}
		}
		for addr := -1; addr <= 3; addr++ {
			word, found := want[addr]
			if w, ok := cell.Find(list, addr); w != word || ok != found {
				t.Errorf("Find(%v, %d) = %d, %v", list, addr, w, ok)
			}
		}
		if len(list) < 4 {
			for _, c := range numbers {
				extend(append(slices.Clone(list), c))
			}
		}
	}
	extend(nil)
}

// P2.3
func TestTurn(t *testing.T) {
	for _, a := range inside {
		for _, w := range inside {
			if c := cell.Turn(number(a, w)); c != number(w, a) {
				t.Errorf("Turn(%v) = %v", number(a, w), c)
			}
		}
	}
	for _, c := range noCells() {
		if got := cell.Turn(c); got != 0 {
			t.Errorf("Turn(%v) = %v", c, got)
		}
	}
}

// P2.3
func TestNextExamples(t *testing.T) {
	for _, c := range []struct {
		cell complex128
		by   int
		want complex128
	}{
		{0, 0, 0}, {0, 1, 1}, {0, -1, 65535}, {65535, 1, 0}, {65535 + 65535i, 1, 65535i}, {65535i, -1, 65535 + 65535i},
		{2 + 3i, 65536, 2 + 3i}, {2 + 3i, -65536, 2 + 3i}, {2 + 3i, 65533, 65535 + 3i}, {2 + 3i, 65534, 3i},
		{2 + 3i, math.MaxInt, 1 + 3i}, {2 + 3i, math.MinInt, 2 + 3i}, {65535 + 3i, math.MaxInt, 65534 + 3i}, {3i, math.MinInt + 1, 1 + 3i},
	} {
		if got := cell.Next(c.cell, c.by); got != c.want {
			t.Errorf("Next(%v, %d) = %v, want %v", c.cell, c.by, got, c.want)
		}
	}
}

// P2.3: against sums without limits.
func TestNextSums(t *testing.T) {
	size := big.NewInt(65536)
	for _, by := range steps {
		for _, a := range inside {
			sum := new(big.Int).Add(big.NewInt(int64(a)), big.NewInt(int64(by)))
			addr := int(sum.Mod(sum, size).Int64())
			for _, w := range inside {
				if got := cell.Next(number(a, w), by); got != number(addr, w) {
					t.Errorf("Next(%v, %d) = %v", number(a, w), by, got)
				}
			}
		}
	}
}

// P2.3
func TestNextOfNoCell(t *testing.T) {
	for _, c := range noCells() {
		for _, by := range []int{0, 1, -1, 65536, -65536, math.MinInt, math.MaxInt} {
			if got := cell.Next(c, by); got != 0 {
				t.Errorf("Next(%v, %d) = %v", c, by, got)
			}
		}
	}
}

// P2.4
func TestText(t *testing.T) {
	for _, a := range inside {
		for _, w := range inside {
			if got, want := cell.Text(number(a, w)), fmt.Sprintf("%04x:%04x", a, w); got != want {
				t.Errorf("Text(%v) = %q, want %q", number(a, w), got, want)
			}
		}
	}
	for _, c := range noCells() {
		if got := cell.Text(c); got != "" {
			t.Errorf("Text(%v) = %q", c, got)
		}
	}
}

// P2.4
func TestSameExamples(t *testing.T) {
	for _, c := range []struct {
		a, b []complex128
		want bool
	}{
		{nil, nil, true},
		{nil, []complex128{}, true},
		{[]complex128{}, []complex128{}, true},
		{nil, []complex128{0}, false},
		{[]complex128{0}, []complex128{0, 0}, false},
		{[]complex128{1 + 2i}, []complex128{1 + 2i}, true},
		{[]complex128{1 + 2i}, []complex128{2 + 1i}, false},
		{[]complex128{1 + 2i}, []complex128{1 + 3i}, false},
		{[]complex128{1 + 2i}, []complex128{3 + 2i}, false},
		{[]complex128{1, 2, 3}, []complex128{1, 2, 3}, true},
		{[]complex128{1, 2, 3}, []complex128{1, 2}, false},
		{[]complex128{1, 2, 3}, []complex128{2, 3}, false},
		{[]complex128{1, 2, 3}, []complex128{0, 2, 3}, false},
		{[]complex128{1, 2, 3}, []complex128{1, 0, 3}, false},
		{[]complex128{1, 2, 3}, []complex128{1, 2, 0}, false},
		{[]complex128{1, 2, 3}, []complex128{1, 3, 2}, false},
		{[]complex128{7 + 1i, 7 + 2i}, []complex128{7 + 2i}, false},
		{[]complex128{complex(minusZero, minusZero)}, []complex128{0}, true},
	} {
		if got := cell.Same(c.a, c.b); got != c.want {
			t.Errorf("Same(%v, %v) = %v", c.a, c.b, got)
		}
		if got := cell.Same(c.b, c.a); got != c.want {
			t.Errorf("Same(%v, %v) = %v", c.b, c.a, got)
		}
	}
}

// P2.4: Same compares all numbers by ==, cells or not, so that NaN equals nothing.
func TestSameOfNoCells(t *testing.T) {
	for _, x := range noCells() {
		for _, y := range []complex128{x, 0, 1, 1.5, -1, complex(inf, 0), complex(0, -inf), complex(nan, 0)} {
			if got := cell.Same([]complex128{3, x}, []complex128{3, y}); got != (x == y) {
				t.Errorf("Same of %v and %v = %v", x, y, got)
			}
		}
	}
	own := []complex128{complex(nan, 0)}
	if cell.Same(own, own) {
		t.Error("a list with NaN is the same as itself")
	}
}

// P2.4
func TestSameOfLongLists(t *testing.T) {
	a, b := cells(), cells()
	if !cell.Same(a, b) {
		t.Fatal("equal lists differ")
	}
	for i := range b {
		b[i] += 0.5i
		if cell.Same(a, b) {
			t.Errorf("the difference at %d is not seen", i)
		}
		b[i] = a[i]
		if cell.Same(a, b[:i]) || cell.Same(a[:i], b) {
			t.Errorf("the length %d is not seen", i)
		}
	}
}

// P2.5
func TestLaws(t *testing.T) {
	for _, c := range cells() {
		addr, word, ok := cell.Parts(c)
		if !ok {
			t.Fatalf("Parts(%v) finds no cell", c)
		}
		if again, ok := cell.Of(addr, word); !ok || again != c {
			t.Errorf("Of(Parts(%v)) = %v, %v", c, again, ok)
		}
		if again := cell.Turn(cell.Turn(c)); again != c {
			t.Errorf("Turn(Turn(%v)) = %v", c, again)
		}
		for _, n := range steps {
			if again := cell.Next(cell.Next(c, n), -n); again != c {
				t.Errorf("Next(Next(%v, %d), %d) = %v", c, n, -n, again)
			}
		}
	}
}

// P2.5, and the rule that all parts that are returned are whole numbers.
func TestResultsAreCells(t *testing.T) {
	for _, c := range append(cells(), complex(minusZero, minusZero), complex(minusZero, 1), complex(1, minusZero)) {
		for _, got := range []complex128{cell.Turn(c), cell.Next(c, 1), cell.Next(c, -1), cell.Next(c, math.MinInt)} {
			if _, _, ok := cell.Parts(got); !ok || !isWhole(got) {
				t.Errorf("%v becomes %v", c, got)
			}
		}
	}
}

// P1: all numbers for all calls.
func TestNoPanic(t *testing.T) {
	numbers := append(noCells(), cells()...)
	for _, a := range slices.Concat(inside, outside) {
		cell.Of(a, a)
		cell.Find(numbers, a)
		cell.Find(nil, a)
	}
	for _, c := range numbers {
		cell.Parts(c)
		cell.Turn(c)
		cell.Text(c)
		for _, by := range steps {
			cell.Next(c, by)
		}
	}
	cell.Same(numbers, numbers)
	cell.Same(numbers, nil)
}

// A list that is an argument stays as it is, also beyond its length.
func TestListsStay(t *testing.T) {
	list := []complex128{1 + 2i, 0.5, 3 + 4i, 1 + 5i}
	before := slices.Clone(list)
	cell.Find(list[:2], 1)
	cell.Same(list[:2], list[:3])
	if !slices.Equal(list, before) {
		t.Error(list)
	}
	if w, ok := cell.Find(list[:2], 1); w != 2 || !ok {
		t.Error("what lies beyond the length is read:", w, ok)
	}
}
