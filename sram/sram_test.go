package sram_test

import (
	"math"
	"math/big"
	"slices"
	"testing"

	"switchyard/api"
	"switchyard/sram"
)

// sizes holds valid sizes of a memory, the limits first.
var sizes = []int{1, 65536, 2, 3, 5, 16, 255, 256, 65535}

// noSizes holds invalid sizes of a memory, the neighbours of the limits first.
var noSizes = []int{0, 65537, -1, -2, -65536, 65538, 131072, 1 << 32, 1<<32 + 1, math.MinInt, math.MinInt + 1, math.MaxInt - 1, math.MaxInt}

// goodWords holds words, the limits first.
var goodWords = []int{0, 65535, 1, 2, 9, 255, 256, 32767, 32768, 65534}

// badWords holds numbers that are not words, the neighbours of the limits first.
var badWords = []int{-1, 65536, -2, 65537, -65535, -65536, 131072, 1 << 32, 1<<32 + 7, math.MinInt, math.MinInt + 1, math.MaxInt - 1, math.MaxInt}

// made returns a new memory of n words.
func made(t *testing.T, n int) *sram.Ram {
	t.Helper()
	r, e := sram.New(n)
	if e != api.OK || r == nil {
		t.Fatalf("New(%d) = %v, %d", n, r, e)
	}
	return r
}

// marked returns a memory of n words that are not 0, neighbours of which differ.
func marked(t *testing.T, n int) *sram.Ram {
	t.Helper()
	r := made(t, n)
	for a := range n {
		put(t, r, a, 1+a%65535)
	}
	return r
}

// with returns a memory with these words.
func with(t *testing.T, words ...int) *sram.Ram {
	t.Helper()
	r := made(t, len(words))
	for a, w := range words {
		put(t, r, a, w)
	}
	return r
}

// put stores a word that must be stored.
func put(t *testing.T, r *sram.Ram, a, w int) {
	t.Helper()
	if e := r.Store(a, w); e != api.OK {
		t.Fatalf("Store(%d, %d) = %d", a, w, e)
	}
}

// fill fills a run that must be filled.
func fill(t *testing.T, r *sram.Ram, a, n, w int) {
	t.Helper()
	if e := r.Fill(a, n, w); e != api.OK {
		t.Fatalf("Fill(%d, %d, %d) = %d", a, n, w, e)
	}
}

// loaded returns all words of r, loaded one by one.
func loaded(t *testing.T, r *sram.Ram) []int {
	t.Helper()
	words := make([]int, r.Size())
	for a := range words {
		w, e := r.Load(a)
		if e != api.OK {
			t.Fatalf("Load(%d) of %d words = %d, %d", a, len(words), w, e)
		}
		words[a] = w
	}
	return words
}

// expect compares all words of r with want.
func expect(t *testing.T, r *sram.Ram, want ...int) {
	t.Helper()
	if got := loaded(t, r); !slices.Equal(got, want) {
		t.Fatalf("the words are %v, want %v", got, want)
	}
}

// noAddresses returns addresses that a memory of n words does not have, the ones before and behind it first.
func noAddresses(n int) []int {
	return []int{-1, n, -2, n + 1, -n, -n - 1, 2 * n, -65536, 65536, 65537, 131072, 1 << 32, 1<<32 + 1, -1 << 32, math.MinInt, math.MinInt + 1, math.MaxInt - 1, math.MaxInt}
}

// runError returns the error of a run by the text of P3.3, with sums without limits.
func runError(size, a, n int) api.Errno {
	if n < 0 {
		return api.ErrArg
	}
	end := new(big.Int).Add(big.NewInt(int64(a)), big.NewInt(int64(n)))
	if a < 0 || end.Cmp(big.NewInt(int64(size))) > 0 {
		return api.ErrAddr
	}
	return api.OK
}

// ends holds starts and lengths of runs around the limits of a memory of n words and of int.
func ends(n int) []int {
	l := []int{math.MinInt, math.MinInt + 1, math.MinInt + n, -1 << 32, -n - 1, -n, -n + 1, -2, -1, 0, 1, 2}
	return append(l, n-2, n-1, n, n+1, n+2, 65535, 65536, 65537, 1<<32, math.MaxInt-n, math.MaxInt-n+1, math.MaxInt-2, math.MaxInt-1, math.MaxInt)
}

// The example of the chapter.
func TestExample(t *testing.T) {
	r := made(t, 4)
	put(t, r, 2, 9)
	if l, e := r.Span(1, 2); e != api.OK || !slices.Equal(l, []int{0, 9}) {
		t.Error("Span", l, e)
	}
	if l := r.Cells(); !slices.Equal(l, []complex128{2 + 9i}) {
		t.Error("Cells", l)
	}
}

// P3.1
func TestNew(t *testing.T) {
	for _, n := range sizes {
		r := made(t, n)
		if r.Size() != n {
			t.Errorf("New(%d).Size() = %d", n, r.Size())
		}
		for a, w := range loaded(t, r) {
			if w != 0 {
				t.Fatalf("New(%d) has the word %d at %d", n, w, a)
			}
		}
		if w, e := r.Load(n); w != 0 || e != api.ErrAddr {
			t.Errorf("New(%d).Load(%d) = %d, %d", n, n, w, e)
		}
		if w, e := r.Load(-1); w != 0 || e != api.ErrAddr {
			t.Errorf("New(%d).Load(-1) = %d, %d", n, w, e)
		}
	}
}

// P3.1
func TestNewOfNoSize(t *testing.T) {
	for _, n := range noSizes {
		if r, e := sram.New(n); r != nil || e != api.ErrArg {
			t.Errorf("New(%d) = %v, %d", n, r, e)
		}
	}
}

// P3.1: two memories share nothing.
func TestNewIsNew(t *testing.T) {
	first := made(t, 3)
	fill(t, first, 0, 3, 7)
	second := made(t, 3)
	expect(t, second, 0, 0, 0)
	put(t, second, 1, 8)
	expect(t, first, 7, 7, 7)
}

// P3.1: Size stays whatever is done.
func TestSizeStays(t *testing.T) {
	r := made(t, 3)
	fill(t, r, 0, 3, 65535)
	r.Store(3, 1)
	r.Fill(0, 4, 1)
	r.Fill(3, 1, 1)
	r.Span(0, 4)
	r.Load(3)
	if r.Size() != 3 || r.Clone().Size() != 3 {
		t.Error(r.Size(), r.Clone().Size())
	}
}

// P3.2
func TestStoreAndLoad(t *testing.T) {
	for _, n := range sizes {
		r := made(t, n)
		for _, a := range []int{0, n - 1, n / 2} {
			for _, w := range goodWords {
				put(t, r, a, w)
				if got, e := r.Load(a); got != w || e != api.OK {
					t.Errorf("Load(%d) of %d words = %d, %d, want %d", a, n, got, e, w)
				}
			}
		}
	}
}

// P3.2: every address of the greatest memory, and every word.
func TestEveryAddressAndWord(t *testing.T) {
	r := made(t, api.MaxWords)
	for a := range api.MaxWords {
		put(t, r, a, 65535-a)
	}
	for a := range api.MaxWords {
		if w, e := r.Load(a); w != 65535-a || e != api.OK {
			t.Fatalf("Load(%d) = %d, %d", a, w, e)
		}
	}
}

// P3.2
func TestNoAddress(t *testing.T) {
	for _, n := range []int{1, 2, 5, 65535, 65536} {
		r := marked(t, n)
		before := loaded(t, r)
		for _, a := range noAddresses(n) {
			if 0 <= a && a < n {
				continue
			}
			if w, e := r.Load(a); w != 0 || e != api.ErrAddr {
				t.Errorf("Load(%d) of %d words = %d, %d", a, n, w, e)
			}
			for _, w := range slices.Concat(goodWords, badWords) {
				if e := r.Store(a, w); e != api.ErrAddr {
					t.Errorf("Store(%d, %d) of %d words = %d", a, w, n, e)
				}
			}
		}
		if !slices.Equal(loaded(t, r), before) {
			t.Errorf("a rejected Store changed one of %d words", n)
		}
	}
}

// P3.2
func TestStoreOfNoWord(t *testing.T) {
	for _, n := range []int{1, 5, 65536} {
		r := marked(t, n)
		before := loaded(t, r)
		for _, w := range badWords {
			for _, a := range []int{0, n / 2, n - 1} {
				if e := r.Store(a, w); e != api.ErrArg {
					t.Errorf("Store(%d, %d) of %d words = %d", a, w, n, e)
				}
			}
		}
		if !slices.Equal(loaded(t, r), before) {
			t.Errorf("a rejected Store changed one of %d words", n)
		}
	}
}

// P3.3: all runs around the limits, and nothing changes.
func TestSpan(t *testing.T) {
	for _, size := range []int{1, 2, 5, 65536} {
		r := marked(t, size)
		before := loaded(t, r)
		for _, a := range ends(size) {
			for _, n := range ends(size) {
				want := runError(size, a, n)
				l, e := r.Span(a, n)
				if e != want || e != api.OK && len(l) != 0 {
					t.Fatalf("Span(%d, %d) of %d words = %d words, %d, want %d", a, n, size, len(l), e, want)
				}
				if e == api.OK && !slices.Equal(l, before[a:a+n]) {
					t.Fatalf("Span(%d, %d) of %d words is wrong", a, n, size)
				}
			}
		}
		if !slices.Equal(loaded(t, r), before) {
			t.Errorf("Span changed one of %d words", size)
		}
	}
}

// P3.3
func TestSpanExamples(t *testing.T) {
	r := with(t, 10, 11, 12, 13, 14)
	for _, c := range []struct {
		a, n int
		want []int
		e    api.Errno
	}{
		{0, 5, []int{10, 11, 12, 13, 14}, api.OK},
		{0, 1, []int{10}, api.OK},
		{4, 1, []int{14}, api.OK},
		{1, 3, []int{11, 12, 13}, api.OK},
		{0, 0, nil, api.OK},
		{3, 0, nil, api.OK},
		{5, 0, nil, api.OK},
		{6, 0, nil, api.ErrAddr},
		{-1, 0, nil, api.ErrAddr},
		{-1, 1, nil, api.ErrAddr},
		{-1, 6, nil, api.ErrAddr},
		{0, 6, nil, api.ErrAddr},
		{4, 2, nil, api.ErrAddr},
		{5, 1, nil, api.ErrAddr},
		{0, -1, nil, api.ErrArg},
		{5, -1, nil, api.ErrArg},
		{-1, -1, nil, api.ErrArg},
		{6, -1, nil, api.ErrArg},
		{6, -6, nil, api.ErrArg},
		{0, math.MinInt, nil, api.ErrArg},
		{math.MinInt, math.MinInt, nil, api.ErrArg},
		{0, math.MaxInt, nil, api.ErrAddr},
		{1, math.MaxInt, nil, api.ErrAddr},
		{5, math.MaxInt - 4, nil, api.ErrAddr},
		{math.MaxInt, 0, nil, api.ErrAddr},
		{math.MaxInt, 1, nil, api.ErrAddr},
		{math.MaxInt, math.MaxInt, nil, api.ErrAddr},
		{math.MinInt, math.MaxInt, nil, api.ErrAddr},
	} {
		if l, e := r.Span(c.a, c.n); e != c.e || !slices.Equal(l, c.want) {
			t.Errorf("Span(%d, %d) = %v, %d, want %v, %d", c.a, c.n, l, e, c.want, c.e)
		}
	}
}

// P3.3: all runs around the limits, with words and numbers that are not words.
func TestFill(t *testing.T) {
	for _, size := range []int{1, 2, 5} {
		for _, a := range ends(size) {
			for _, n := range ends(size) {
				for _, w := range slices.Concat(goodWords, badWords) {
					checkFill(t, size, a, n, w)
				}
			}
		}
	}
}

// checkFill fills a run of a marked memory and compares every word with what P3.3 says.
func checkFill(t *testing.T, size, a, n, w int) {
	t.Helper()
	r := marked(t, size)
	words := loaded(t, r)
	want := runError(size, a, n)
	if want == api.OK && (w < 0 || w > 65535) {
		want = api.ErrArg
	}
	if want == api.OK {
		for i := a; i < a+n; i++ {
			words[i] = w
		}
	}
	if e := r.Fill(a, n, w); e != want {
		t.Fatalf("Fill(%d, %d, %d) of %d words = %d, want %d", a, n, w, size, e, want)
	}
	if got := loaded(t, r); !slices.Equal(got, words) {
		t.Fatalf("Fill(%d, %d, %d) leaves %v, want %v", a, n, w, got, words)
	}
}

// P3.3
func TestFillExamples(t *testing.T) {
	for _, c := range []struct {
		a, n, w int
		e       api.Errno
		want    []int
	}{
		{0, 5, 7, api.OK, []int{7, 7, 7, 7, 7}},
		{0, 5, 0, api.OK, []int{0, 0, 0, 0, 0}},
		{1, 3, 65535, api.OK, []int{10, 65535, 65535, 65535, 14}},
		{0, 1, 7, api.OK, []int{7, 11, 12, 13, 14}},
		{4, 1, 7, api.OK, []int{10, 11, 12, 13, 7}},
		{0, 0, 7, api.OK, []int{10, 11, 12, 13, 14}},
		{5, 0, 7, api.OK, []int{10, 11, 12, 13, 14}},
		{5, 0, -1, api.ErrArg, []int{10, 11, 12, 13, 14}},
		{5, 0, 65536, api.ErrArg, []int{10, 11, 12, 13, 14}},
		{0, 5, -1, api.ErrArg, []int{10, 11, 12, 13, 14}},
		{0, 5, 65536, api.ErrArg, []int{10, 11, 12, 13, 14}},
		{6, 0, 7, api.ErrAddr, []int{10, 11, 12, 13, 14}},
		{6, 0, -1, api.ErrAddr, []int{10, 11, 12, 13, 14}},
		{-1, 1, 65536, api.ErrAddr, []int{10, 11, 12, 13, 14}},
		{0, 6, -1, api.ErrAddr, []int{10, 11, 12, 13, 14}},
		{0, 6, 7, api.ErrAddr, []int{10, 11, 12, 13, 14}},
		{4, 2, 7, api.ErrAddr, []int{10, 11, 12, 13, 14}},
		{-1, 3, 7, api.ErrAddr, []int{10, 11, 12, 13, 14}},
		{0, -1, 7, api.ErrArg, []int{10, 11, 12, 13, 14}},
		{-1, -1, 7, api.ErrArg, []int{10, 11, 12, 13, 14}},
		{6, -1, 7, api.ErrArg, []int{10, 11, 12, 13, 14}},
		{6, -6, 7, api.ErrArg, []int{10, 11, 12, 13, 14}},
		{0, math.MinInt, 7, api.ErrArg, []int{10, 11, 12, 13, 14}},
		{1, math.MaxInt, 7, api.ErrAddr, []int{10, 11, 12, 13, 14}},
		{5, math.MaxInt - 4, 7, api.ErrAddr, []int{10, 11, 12, 13, 14}},
		{math.MaxInt, 1, 7, api.ErrAddr, []int{10, 11, 12, 13, 14}},
		{math.MaxInt, math.MaxInt, 7, api.ErrAddr, []int{10, 11, 12, 13, 14}},
	} {
		r := with(t, 10, 11, 12, 13, 14)
		if e := r.Fill(c.a, c.n, c.w); e != c.e {
			t.Errorf("Fill(%d, %d, %d) = %d, want %d", c.a, c.n, c.w, e, c.e)
		}
		expect(t, r, c.want...)
	}
}

// P3.3: the greatest memory as one run, and one word more.
func TestGreatestRun(t *testing.T) {
	r := made(t, api.MaxWords)
	fill(t, r, 0, api.MaxWords, 65535)
	l, e := r.Span(0, api.MaxWords)
	if e != api.OK || len(l) != api.MaxWords {
		t.Fatal(len(l), e)
	}
	for a, w := range l {
		if w != 65535 {
			t.Fatalf("the word at %d is %d", a, w)
		}
	}
	if e := r.Fill(0, api.MaxWords+1, 1); e != api.ErrAddr {
		t.Error("Fill", e)
	}
	if l, e := r.Span(0, api.MaxWords+1); len(l) != 0 || e != api.ErrAddr {
		t.Error("Span", len(l), e)
	}
	if e := r.Fill(1, api.MaxWords, 1); e != api.ErrAddr {
		t.Error("Fill", e)
	}
	if w, _ := r.Load(api.MaxWords - 1); w != 65535 {
		t.Error("a rejected Fill changed the last word to", w)
	}
}

// P3.4
func TestClone(t *testing.T) {
	for _, n := range sizes {
		r := marked(t, n)
		c := r.Clone()
		if c == nil || c == r || c.Size() != n || !slices.Equal(loaded(t, c), loaded(t, r)) {
			t.Fatalf("the clone of %d words is wrong", n)
		}
		if !sram.Same(r, c) || !sram.Same(c, r) {
			t.Fatalf("the clone of %d words is not the same", n)
		}
	}
}

// P3.4: neither a clone nor its original nor a clone's clone sees what is stored into another one.
func TestCloneIsIndependent(t *testing.T) {
	r := with(t, 1, 2, 3)
	c := r.Clone()
	d := c.Clone()
	put(t, r, 0, 10)
	expect(t, c, 1, 2, 3)
	expect(t, d, 1, 2, 3)
	put(t, c, 1, 20)
	expect(t, r, 10, 2, 3)
	expect(t, d, 1, 2, 3)
	fill(t, d, 0, 3, 30)
	expect(t, r, 10, 2, 3)
	expect(t, c, 1, 20, 3)
	fill(t, r, 1, 2, 40)
	expect(t, r, 10, 40, 40)
	expect(t, c, 1, 20, 3)
	expect(t, d, 30, 30, 30)
}

// P3.4
func TestCells(t *testing.T) {
	for _, c := range []struct {
		words []int
		want  []complex128
	}{
		{[]int{0}, nil},
		{[]int{1}, []complex128{1i}},
		{[]int{65535}, []complex128{65535i}},
		{[]int{0, 0, 0}, nil},
		{[]int{0, 0, 5}, []complex128{2 + 5i}},
		{[]int{5, 0, 0}, []complex128{5i}},
		{[]int{0, 7, 0, 7}, []complex128{1 + 7i, 3 + 7i}},
		{[]int{9, 8, 7, 1}, []complex128{9i, 1 + 8i, 2 + 7i, 3 + 1i}},
		{[]int{0, 65535, 32768}, []complex128{1 + 65535i, 2 + 32768i}},
	} {
		r := with(t, c.words...)
		if got := r.Cells(); !slices.Equal(got, c.want) {
			t.Errorf("the cells of %v are %v", c.words, got)
		}
		expect(t, r, c.words...)
	}
}

// P3.4: the order is that of the addresses, not that of the stores, and a word that becomes 0 has no cell.
func TestCellsAfterStores(t *testing.T) {
	r := made(t, api.MaxWords)
	for _, a := range []int{65535, 3, 40000, 0, 3} {
		put(t, r, a, 6)
	}
	put(t, r, 40000, 0)
	put(t, r, 3, 65535)
	put(t, r, 0, 2)
	put(t, r, 65535, 4)
	if got := r.Cells(); !slices.Equal(got, []complex128{2i, 3 + 65535i, 65535 + 4i}) {
		t.Error(got)
	}
	fill(t, r, 0, api.MaxWords, 0)
	if got := r.Cells(); len(got) != 0 {
		t.Error(got)
	}
}

// P3.4
func TestCellsOfTheGreatestMemory(t *testing.T) {
	r := marked(t, api.MaxWords)
	words := loaded(t, r)
	got := r.Cells()
	if len(got) != api.MaxWords {
		t.Fatal(len(got))
	}
	for a, c := range got {
		if c != complex(float64(a), float64(words[a])) {
			t.Fatalf("the cell at %d is %v", a, c)
		}
	}
}

// P3.4
func TestSame(t *testing.T) {
	for _, c := range []struct {
		a, b []int
		want bool
	}{
		{[]int{0}, []int{0}, true},
		{[]int{0}, []int{1}, false},
		{[]int{0}, []int{0, 0}, false},
		{[]int{1}, []int{1, 0}, false},
		{[]int{1, 2, 3}, []int{1, 2, 3}, true},
		{[]int{1, 2, 3}, []int{1, 2}, false},
		{[]int{1, 2, 3}, []int{2, 3}, false},
		{[]int{1, 2, 3}, []int{0, 2, 3}, false},
		{[]int{1, 2, 3}, []int{1, 0, 3}, false},
		{[]int{1, 2, 3}, []int{1, 2, 0}, false},
		{[]int{1, 2, 3}, []int{3, 2, 1}, false},
		{[]int{0, 65535}, []int{0, 65535}, true},
		{[]int{0, 65535}, []int{65535, 0}, false},
	} {
		a, b := with(t, c.a...), with(t, c.b...)
		if got := sram.Same(a, b); got != c.want {
			t.Errorf("Same of %v and %v = %v", c.a, c.b, got)
		}
		if got := sram.Same(b, a); got != c.want {
			t.Errorf("Same of %v and %v = %v", c.b, c.a, got)
		}
		if !sram.Same(a, a) || !sram.Same(b, b) {
			t.Errorf("%v or %v is not the same as itself", c.a, c.b)
		}
		expect(t, a, c.a...)
		expect(t, b, c.b...)
	}
}

// P3.4: a difference at any address is seen, and no longer when it is undone.
func TestSameAtEveryAddress(t *testing.T) {
	for _, n := range []int{1, 2, 300} {
		r := marked(t, n)
		c := r.Clone()
		for a := range n {
			w, _ := c.Load(a)
			put(t, c, a, 0)
			if sram.Same(r, c) || sram.Same(c, r) {
				t.Errorf("the difference at %d of %d words is not seen", a, n)
			}
			put(t, c, a, w)
			if !sram.Same(r, c) {
				t.Errorf("the same words differ after a change at %d of %d", a, n)
			}
		}
	}
}

// P3.4: the ends of the greatest memory, and a size that is one less.
func TestSameOfTheGreatestMemory(t *testing.T) {
	a, b := made(t, api.MaxWords), made(t, api.MaxWords)
	if !sram.Same(a, b) || sram.Same(a, made(t, api.MaxWords-1)) {
		t.Error("the sizes are not compared")
	}
	put(t, a, api.MaxWords-1, 65535)
	if sram.Same(a, b) {
		t.Error("the last word is not compared")
	}
}

// P3.4: the lists that are returned belong to the caller.
func TestListsAreIndependent(t *testing.T) {
	r := with(t, 1, 2, 3, 4)
	first, _ := r.Span(1, 2)
	second, _ := r.Span(1, 2)
	cells, more := r.Cells(), r.Cells()
	first[0], cells[0] = 99, 7+7i
	_ = append(first, 98)
	_ = append(first[:0], 97, 96)
	_ = append(cells, 8+8i)
	expect(t, r, 1, 2, 3, 4)
	if !slices.Equal(second, []int{2, 3}) {
		t.Error("a second Span changed:", second)
	}
	if want := []complex128{1i, 1 + 2i, 2 + 3i, 3 + 4i}; !slices.Equal(more, want) || !slices.Equal(r.Cells(), want) {
		t.Error("other Cells changed:", more, r.Cells())
	}
}

// P3.3, P3.4: later stores do not change a list that was returned.
func TestListsStay(t *testing.T) {
	r := with(t, 1, 2, 3, 4)
	span, _ := r.Span(0, 4)
	cells := r.Cells()
	fill(t, r, 0, 4, 9)
	if !slices.Equal(span, []int{1, 2, 3, 4}) || !slices.Equal(cells, []complex128{1i, 1 + 2i, 2 + 3i, 3 + 4i}) {
		t.Error(span, cells)
	}
}

// The rule that the memory of a list beyond its length is not returned.
func TestSpanHasNothingBeyond(t *testing.T) {
	r := with(t, 1, 2, 3, 4)
	for n := range 5 {
		l, _ := r.Span(0, n)
		for _, w := range l[:cap(l)][n:] {
			if w != 0 {
				t.Errorf("Span(0, %d) has %d beyond its length", n, w)
			}
		}
	}
}

// A nil Ram: ErrNone precedes all other errors.
func TestNil(t *testing.T) {
	var r *sram.Ram
	if r.Size() != 0 || len(r.Cells()) != 0 || r.Clone() != nil {
		t.Error(r.Size(), r.Cells(), r.Clone())
	}
	for _, a := range []int{0, 1, -1, 65536, math.MinInt, math.MaxInt} {
		if w, e := r.Load(a); w != 0 || e != api.ErrNone {
			t.Errorf("Load(%d) = %d, %d", a, w, e)
		}
		for _, n := range []int{0, 1, -1, 65535, 65536, math.MinInt, math.MaxInt} {
			if e := r.Store(a, n); e != api.ErrNone {
				t.Errorf("Store(%d, %d) = %d", a, n, e)
			}
			if l, e := r.Span(a, n); len(l) != 0 || e != api.ErrNone {
				t.Errorf("Span(%d, %d) = %v, %d", a, n, l, e)
			}
			for _, w := range []int{0, 65535, -1, 65536} {
				if e := r.Fill(a, n, w); e != api.ErrNone {
					t.Errorf("Fill(%d, %d, %d) = %d", a, n, w, e)
				}
			}
		}
	}
}

// P3.4
func TestSameOfNil(t *testing.T) {
	if !sram.Same(nil, nil) {
		t.Error("nil is not the same as nil")
	}
	for _, n := range []int{1, 65536} {
		if r := made(t, n); sram.Same(nil, r) || sram.Same(r, nil) {
			t.Errorf("nil is the same as %d words", n)
		}
	}
	var none *sram.Ram
	if !sram.Same(none.Clone(), nil) {
		t.Error("the clone of nil is not the same as nil")
	}
}

// P3.5: at each address of some memories, and at all of its neighbours.
func TestStoreChangesOneWord(t *testing.T) {
	for _, n := range []int{1, 2, 5, 40} {
		for a := range n {
			for _, w := range goodWords {
				r := marked(t, n)
				want := loaded(t, r)
				want[a] = w
				put(t, r, a, w)
				expect(t, r, want...)
			}
		}
	}
}

// P3.5: addresses that share their low bits have words of their own.
func TestStoreAtDistantAddresses(t *testing.T) {
	r := made(t, api.MaxWords)
	want := map[int]int{}
	for bit := range 16 {
		for _, a := range []int{1 << bit, 1<<bit - 1, 65535 - 1<<bit, 65535 ^ (1<<bit - 1)} {
			put(t, r, a, a^21845)
			want[a] = a ^ 21845
		}
	}
	for a, w := range loaded(t, r) {
		if w != want[a] {
			t.Fatalf("the word at %d is %d, want %d", a, w, want[a])
		}
	}
}

// P3.5: many calls, rejected ones among them, against a list of words.
func TestLaws(t *testing.T) {
	for _, size := range []int{1, 2, 7, 33} {
		r := made(t, size)
		want := make([]int, size)
		seed := uint32(size)
		draw := func(n int) int {
			seed = seed*1664525 + 1013904223
			return int(seed>>8) % n
		}
		for range 3000 {
			a, n, w := draw(size+4)-2, draw(size+3)-1, draw(65540)-2
			before := r.Clone()
			good := 0 <= w && w <= 65535
			if draw(2) == 0 {
				n = 1
				if e := r.Store(a, w); (e == api.OK) != (good && 0 <= a && a < size) {
					t.Fatalf("Store(%d, %d) of %d words = %d", a, w, size, e)
				}
			} else if e := r.Fill(a, n, w); (e == api.OK) != (good && runError(size, a, n) == api.OK) {
				t.Fatalf("Fill(%d, %d, %d) of %d words = %d", a, n, w, size, e)
			}
			changed := false
			if good && runError(size, a, n) == api.OK {
				for i := a; i < a+n; i++ {
					changed = changed || want[i] != w
					want[i] = w
				}
			}
			expect(t, r, want...)
			if sram.Same(before, r) == changed {
				t.Fatalf("Same = %v after a change: %v", !changed, changed)
			}
		}
	}
}

// P1: all calls with all numbers.
func TestNoPanic(t *testing.T) {
	numbers := slices.Concat(sizes, noSizes, badWords, ends(5))
	for _, n := range numbers {
		sram.New(n)
	}
	for _, r := range []*sram.Ram{nil, made(t, 1), made(t, 5), made(t, 65536)} {
		for _, a := range numbers {
			r.Load(a)
			for _, n := range numbers {
				r.Store(a, n)
				r.Span(a, n)
				r.Fill(a, n, a)
			}
		}
		r.Size()
		r.Cells()
		r.Clone()
		sram.Same(r, nil)
		sram.Same(nil, r)
		sram.Same(r, r)
	}
}
