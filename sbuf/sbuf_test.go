package sbuf_test

import (
	"math"
	"slices"
	"testing"

	"switchyard/api"
	"switchyard/sbuf"
)

// noCapacities holds invalid capacities, the neighbours of the limits first.
var noCapacities = []int{0, 17, -1, -2, 18, -15, -16, -17, 32, 64, 65536, 65537, 1 << 32, 1<<32 + 1, -1 << 32, 1 - 1<<32, math.MinInt, math.MinInt + 1, math.MaxInt - 1, math.MaxInt}

// inside holds numbers that are addresses and words, the limits first.
var inside = []int{0, 65535, 1, 2, 255, 256, 32767, 32768, 65534}

// outside holds numbers that are neither addresses nor words, the neighbours of the limits first.
var outside = []int{-1, 65536, -2, 65537, -65535, -65536, 131071, 131072, 1 << 31, 1 << 32, 1<<32 + 1, 1<<53 + 1, -1 << 40, math.MinInt, math.MinInt + 1, math.MaxInt - 1, math.MaxInt}

// store is a store by its address and its word.
type store struct{ addr, word int }

// cells returns the stores as complex numbers, without the packages under test.
func cells(list ...store) []complex128 {
	var l []complex128
	for _, s := range list {
		l = append(l, complex(float64(s.addr), float64(s.word)))
	}
	return l
}

// some returns n stores that differ in their words, several at one address, the limits of addresses and words among them.
func some(n int) []store {
	addrs := []int{0, 65535, 4, 4, 0, 5, 65534, 65535, 4}
	l := make([]store, n)
	for i := range l {
		l[i] = store{addrs[i%len(addrs)], 65535 * (i + 1) % 65536}
	}
	return l
}

// made returns a new buffer with the capacity most.
func made(t *testing.T, most int) *sbuf.Buffer {
	t.Helper()
	b := sbuf.New(most)
	if b == nil {
		t.Fatalf("New(%d) is nil", most)
	}
	return b
}

// with returns a buffer with the capacity most and these stores, after so many other ones were put and drained.
func with(t *testing.T, most, before int, list ...store) *sbuf.Buffer {
	t.Helper()
	b := made(t, most)
	for range before {
		put(t, b, store{777, 888})
		drain(t, b, store{777, 888})
	}
	put(t, b, list...)
	return b
}

// put makes stores that must be accepted.
func put(t *testing.T, b *sbuf.Buffer, list ...store) {
	t.Helper()
	for _, s := range list {
		if e := b.Put(s.addr, s.word); e != api.OK {
			t.Fatalf("Put(%d, %d) = %d with %d of %d stores", s.addr, s.word, e, b.Len(), b.Cap())
		}
	}
}

// drain drains stores that must be these.
func drain(t *testing.T, b *sbuf.Buffer, list ...store) {
	t.Helper()
	for _, want := range list {
		if a, w, ok := b.Drain(); !ok || a != want.addr || w != want.word {
			t.Fatalf("Drain() = %d, %d, %v, want %v", a, w, ok, want)
		}
	}
}

// refuse makes a store that must be rejected with this error.
func refuse(t *testing.T, b *sbuf.Buffer, addr, word int, want api.Errno) {
	t.Helper()
	if e := b.Put(addr, word); e != want {
		t.Fatalf("Put(%d, %d) = %d with %d of %d stores, want %d", addr, word, e, b.Len(), b.Cap(), want)
	}
}

// dry drains a buffer that must be empty.
func dry(t *testing.T, b *sbuf.Buffer) {
	t.Helper()
	if a, w, ok := b.Drain(); a != 0 || w != 0 || ok {
		t.Fatalf("Drain() of an empty buffer = %d, %d, %v", a, w, ok)
	}
}

// latest returns the word of the last store at the address, by the text of the chapter.
func latest(list []store, addr int) (word int, ok bool) {
	for _, s := range list {
		if s.addr == addr {
			word, ok = s.word, true
		}
	}
	return word, ok
}

// expect compares everything that can be asked of b with a capacity and its stores.
func expect(t *testing.T, b *sbuf.Buffer, most int, want ...store) {
	t.Helper()
	if b.Cap() != most || b.Len() != len(want) {
		t.Fatalf("Cap() = %d, Len() = %d, want %d, %d", b.Cap(), b.Len(), most, len(want))
	}
	if all := b.All(); !slices.Equal(all, cells(want...)) {
		t.Fatalf("All() = %v, want %v", all, want)
	}
	for _, addr := range []int{0, 1, 4, 5, 777, 65534, 65535, -1, 65536} {
		word, ok := latest(want, addr)
		if w, found := b.Find(addr); w != word || found != ok {
			t.Fatalf("Find(%d) in %v = %d, %v", addr, want, w, found)
		}
	}
}

// The example of the chapter.
func TestExample(t *testing.T) {
	b := sbuf.New(3)
	for _, s := range []store{{4, 1}, {5, 2}, {4, 3}} {
		if e := b.Put(s.addr, s.word); e != api.OK {
			t.Error("Put", s, e)
		}
	}
	if w, ok := b.Find(4); w != 3 || !ok {
		t.Error("Find(4)", w, ok)
	}
	if a, w, ok := b.Drain(); a != 4 || w != 1 || !ok {
		t.Error("Drain", a, w, ok)
	}
	if all := b.All(); !slices.Equal(all, []complex128{5 + 2i, 4 + 3i}) {
		t.Error("All", all)
	}
}

// P5.1
func TestNew(t *testing.T) {
	if api.MaxBuf != 16 {
		t.Fatal(api.MaxBuf)
	}
	for most := 1; most <= 16; most++ {
		b := made(t, most)
		expect(t, b, most)
		dry(t, b)
	}
}

// P5.1
func TestNewOfNoCapacity(t *testing.T) {
	for _, most := range noCapacities {
		if b := sbuf.New(most); b != nil {
			t.Errorf("New(%d) is a buffer with the capacity %d", most, b.Cap())
		}
	}
}

// P5.1: two buffers share nothing.
func TestNewIsNew(t *testing.T) {
	first := made(t, 3)
	put(t, first, store{1, 2}, store{4, 5})
	second := made(t, 3)
	expect(t, second, 3)
	put(t, second, store{4, 7}, store{5, 8}, store{1, 9})
	drain(t, second, store{4, 7})
	expect(t, first, 3, store{1, 2}, store{4, 5})
	expect(t, second, 3, store{5, 8}, store{1, 9})
}

// P5.1: every length at every capacity; the capacity stays.
func TestCapAndLen(t *testing.T) {
	for most := 1; most <= api.MaxBuf; most++ {
		b := made(t, most)
		for n := 1; n <= most; n++ {
			put(t, b, store{n, n})
			if b.Len() != n || b.Cap() != most {
				t.Fatalf("Len() = %d, Cap() = %d after %d of %d stores", b.Len(), b.Cap(), n, most)
			}
		}
		for n := most - 1; n >= 0; n-- {
			drain(t, b, store{most - n, most - n})
			if b.Len() != n || b.Cap() != most {
				t.Fatalf("Len() = %d, Cap() = %d with %d of %d stores left", b.Len(), b.Cap(), n, most)
			}
		}
	}
}

// P5.2: every pair of limits is stored, found and drained as it was put.
func TestEveryLimit(t *testing.T) {
	for _, a := range inside {
		for _, w := range inside {
			b := with(t, 2, 0, store{a, w})
			if all := b.All(); !slices.Equal(all, cells(store{a, w})) {
				t.Fatalf("All() after Put(%d, %d) = %v", a, w, all)
			}
			if got, ok := b.Find(a); got != w || !ok {
				t.Fatalf("Find(%d) after Put(%d, %d) = %d, %v", a, a, w, got, ok)
			}
			drain(t, b, store{a, w})
			dry(t, b)
		}
	}
}

// P5.2: every address and every word once, through a buffer that is never empty.
func TestEveryAddressAndWord(t *testing.T) {
	b := with(t, 2, 0, store{0, 65535})
	for n := 1; n < 65536; n++ {
		put(t, b, store{n, 65535 - n})
		drain(t, b, store{n - 1, 65536 - n})
		if w, ok := b.Find(n); w != 65535-n || !ok {
			t.Fatalf("Find(%d) = %d, %v", n, w, ok)
		}
	}
}

// P5.2: ErrArg, in a buffer with room and, ahead of ErrFull, in a full one; no trace is left.
func TestPutOfNoCell(t *testing.T) {
	for _, most := range []int{1, 2, 16} {
		for _, n := range []int{0, most - 1, most} {
			b := with(t, most, 1, some(n)...)
			for _, x := range outside {
				for _, y := range inside {
					refuse(t, b, x, y, api.ErrArg)
					refuse(t, b, y, x, api.ErrArg)
				}
				for _, y := range outside {
					refuse(t, b, x, y, api.ErrArg)
				}
			}
			expect(t, b, most, some(n)...)
			put(t, b, some(most)[n:]...)
			drain(t, b, some(most)...)
			dry(t, b)
		}
	}
}

// P5.2: ErrFull, whatever the store, also at an address that has a pending store; no trace is left.
func TestPutIntoFull(t *testing.T) {
	for most := 1; most <= api.MaxBuf; most++ {
		b := with(t, most, 3, some(most)...)
		for _, a := range inside {
			for _, w := range inside {
				refuse(t, b, a, w, api.ErrFull)
			}
		}
		expect(t, b, most, some(most)...)
		drain(t, b, some(most)...)
		dry(t, b)
		expect(t, b, most)
	}
}

// P5.2: draining an empty buffer leaves no trace.
func TestDrainOfEmpty(t *testing.T) {
	for _, most := range []int{1, 2, 16} {
		for _, before := range []int{0, 1, most, 40} {
			b := with(t, most, before)
			for range 3 {
				dry(t, b)
			}
			expect(t, b, most)
			put(t, b, some(most)...)
			refuse(t, b, 1, 1, api.ErrFull)
			expect(t, b, most, some(most)...)
		}
	}
}

// P5.2: a store of 0 at 0 is drained with true.
func TestStoreOfZeros(t *testing.T) {
	b := with(t, 3, 0, store{}, store{}, store{})
	refuse(t, b, 0, 0, api.ErrFull)
	if w, ok := b.Find(0); w != 0 || !ok {
		t.Error("Find(0)", w, ok)
	}
	if all := b.All(); !slices.Equal(all, []complex128{0, 0, 0}) {
		t.Error("All", all)
	}
	drain(t, b, store{}, store{}, store{})
	dry(t, b)
	if w, ok := b.Find(0); w != 0 || ok {
		t.Error("Find(0)", w, ok)
	}
}

// P5.2: every capacity is filled and drained many times over.
func TestFillAndDrain(t *testing.T) {
	for most := 1; most <= api.MaxBuf; most++ {
		b := made(t, most)
		for round := range 100 {
			list := some(round + most)[round:]
			put(t, b, list...)
			refuse(t, b, 4, 4, api.ErrFull)
			expect(t, b, most, list...)
			for i, s := range list {
				drain(t, b, s)
				expect(t, b, most, list[i+1:]...)
			}
			dry(t, b)
		}
	}
}

// P5.2: a buffer that holds the same number of stores all the time, for every such number.
func TestPutAndDrainInTurn(t *testing.T) {
	list := some(200)
	for _, most := range []int{1, 2, 3, 15, 16} {
		for held := range most {
			b := made(t, most)
			for i, s := range list {
				put(t, b, s)
				if i >= held {
					drain(t, b, list[i-held])
				}
				expect(t, b, most, list[max(0, i+1-held):i+1]...)
			}
		}
	}
}

// P5.3: of several stores at one address the most recent one is found until it is drained.
func TestFindSeveral(t *testing.T) {
	b := with(t, 6, 0, store{4, 10}, store{5, 20}, store{4, 11}, store{5, 21}, store{6, 30}, store{4, 0})
	for drained, want := range []struct{ four, five, six int }{
		{0, 21, 30}, {0, 21, 30}, {0, 21, 30}, {0, 21, 30}, {0, -1, 30}, {0, -1, -1}, {-1, -1, -1},
	} {
		for addr, word := range map[int]int{4: want.four, 5: want.five, 6: want.six} {
			if w, ok := b.Find(addr); ok != (word >= 0) || w != max(0, word) {
				t.Errorf("Find(%d) = %d, %v after %d drained stores", addr, w, ok, drained)
			}
		}
		b.Drain()
	}
}

// P5.3: all stores at one address, for every capacity; also the same word again.
func TestFindAtOneAddress(t *testing.T) {
	for most := 1; most <= api.MaxBuf; most++ {
		for _, addr := range inside {
			b := made(t, most)
			for n := range most {
				put(t, b, store{addr, 65535 - n/2})
				if w, ok := b.Find(addr); w != 65535-n/2 || !ok {
					t.Fatalf("Find(%d) = %d, %v after %d stores", addr, w, ok, n+1)
				}
			}
			for n := range most {
				if w, ok := b.Find(addr); w != 65535-(most-1)/2 || !ok {
					t.Fatalf("Find(%d) = %d, %v after %d drained stores", addr, w, ok, n)
				}
				drain(t, b, store{addr, 65535 - n/2})
			}
			if w, ok := b.Find(addr); w != 0 || ok {
				t.Fatalf("Find(%d) in an empty buffer = %d, %v", addr, w, ok)
			}
		}
	}
}

// P5.3: an address without a pending store, also one that shares its low bits with another, or that is the word of a store.
func TestFindNone(t *testing.T) {
	for _, n := range []int{0, 1, 16} {
		b := made(t, 16)
		for i := range n {
			put(t, b, store{1000 + i, 3})
		}
		for _, addr := range slices.Concat(outside, inside, []int{3, 999, 1000 + n, 1000 + 65536, 1000 - 65536, 1000 + 1<<32, -1000}) {
			if w, ok := b.Find(addr); w != 0 || ok {
				t.Errorf("Find(%d) = %d, %v", addr, w, ok)
			}
		}
		if b.Len() != n {
			t.Errorf("Find changed the length to %d", b.Len())
		}
	}
}

// P5.3: All has every store, at every length of every capacity.
func TestAll(t *testing.T) {
	for most := 1; most <= api.MaxBuf; most++ {
		for _, before := range []int{0, 1, most, most + 1} {
			for n := range most + 1 {
				expect(t, with(t, most, before, some(n)...), most, some(n)...)
			}
		}
	}
}

// P5.3: a buffer of any length is cleared, and is then as a new one.
func TestClear(t *testing.T) {
	for most := 1; most <= api.MaxBuf; most++ {
		for n := range most + 1 {
			b := with(t, most, most, some(n)...)
			if got := b.Clear(); got != n {
				t.Fatalf("Clear of %d stores = %d", n, got)
			}
			expect(t, b, most)
			dry(t, b)
			if got := b.Clear(); got != 0 {
				t.Fatalf("a second Clear = %d", got)
			}
			list := some(most + 1)[1:]
			put(t, b, list...)
			refuse(t, b, 1, 1, api.ErrFull)
			expect(t, b, most, list...)
			drain(t, b, list...)
			dry(t, b)
		}
	}
}

// P5.3: Clear counts what is left, not what was drained.
func TestClearAfterDrain(t *testing.T) {
	for drained := range 17 {
		b := with(t, 16, 0, some(16)...)
		drain(t, b, some(drained)...)
		if got := b.Clear(); got != 16-drained {
			t.Errorf("Clear after %d of 16 drained stores = %d", drained, got)
		}
		expect(t, b, 16)
	}
}

// P5.3: a clone of any length has the same stores and the same room.
func TestClone(t *testing.T) {
	for most := 1; most <= api.MaxBuf; most++ {
		for n := range most + 1 {
			b := with(t, most, 1, some(n)...)
			c := b.Clone()
			if c == nil || c == b {
				t.Fatal("the clone is nil or the buffer itself")
			}
			expect(t, c, most, some(n)...)
			put(t, c, some(most)[n:]...)
			refuse(t, c, 1, 1, api.ErrFull)
			drain(t, c, some(most)...)
			dry(t, c)
			expect(t, b, most, some(n)...)
		}
	}
}

// P5.3: neither a clone nor its original nor a clone's clone sees calls on another one.
func TestCloneIsIndependent(t *testing.T) {
	first, second, third := store{4, 1}, store{5, 2}, store{4, 3}
	for before := range 6 {
		b := with(t, 4, before, first, second, third)
		c := b.Clone()
		d := c.Clone()
		put(t, b, store{0, 10})
		expect(t, c, 4, first, second, third)
		put(t, c, store{0, 20})
		expect(t, b, 4, first, second, third, store{0, 10})
		expect(t, d, 4, first, second, third)
		drain(t, c, first, second)
		put(t, c, store{1, 21}, store{1, 22})
		expect(t, b, 4, first, second, third, store{0, 10})
		expect(t, d, 4, first, second, third)
		if n := d.Clear(); n != 3 {
			t.Fatal("Clear", n)
		}
		put(t, d, store{4, 30}, store{4, 31}, store{4, 32}, store{4, 33})
		expect(t, b, 4, first, second, third, store{0, 10})
		expect(t, c, 4, third, store{0, 20}, store{1, 21}, store{1, 22})
		b.Clear()
		put(t, b, store{5, 40}, store{5, 41})
		expect(t, b, 4, store{5, 40}, store{5, 41})
		expect(t, c, 4, third, store{0, 20}, store{1, 21}, store{1, 22})
		expect(t, d, 4, store{4, 30}, store{4, 31}, store{4, 32}, store{4, 33})
	}
}

// P5.3: a clone and its original go apart at every length, whichever of them is put into or drained first.
func TestCloneAtEveryLength(t *testing.T) {
	for n := range api.MaxBuf {
		for drained := range n + 1 {
			b := with(t, api.MaxBuf, 0, some(n)...)
			drain(t, b, some(drained)...)
			left := some(n)[drained:]
			c := b.Clone()
			put(t, b, store{1, 50})
			put(t, c, store{1, 60})
			expect(t, b, api.MaxBuf, append(slices.Clone(left), store{1, 50})...)
			expect(t, c, api.MaxBuf, append(slices.Clone(left), store{1, 60})...)
			drain(t, c, left...)
			put(t, c, store{4, 61})
			expect(t, c, api.MaxBuf, store{1, 60}, store{4, 61})
			expect(t, b, api.MaxBuf, append(slices.Clone(left), store{1, 50})...)
		}
	}
}

// P5.3: a list that All returned belongs to the caller.
func TestAllIsIndependent(t *testing.T) {
	for before := range 5 {
		for n := 1; n <= 4; n++ {
			b := with(t, 4, before, some(n)...)
			first, second := b.All(), b.All()
			for i := range first {
				first[i] = 99 + 99i
			}
			_ = append(first, 98, 97i)
			_ = append(first[:0], 96)
			expect(t, b, 4, some(n)...)
			if !slices.Equal(second, cells(some(n)...)) {
				t.Fatal("another list changed:", second)
			}
			put(t, b, some(4)[n:]...)
			drain(t, b, some(4)...)
			dry(t, b)
		}
	}
}

// P5.3: later calls do not change a list that was returned.
func TestAllStays(t *testing.T) {
	for before := range 4 {
		b := with(t, 3, before, some(3)...)
		all := b.All()
		drain(t, b, some(2)...)
		put(t, b, store{8, 8}, store{9, 9})
		b.Clear()
		put(t, b, store{5, 5}, store{6, 6}, store{7, 7})
		if !slices.Equal(all, cells(some(3)...)) {
			t.Error(all)
		}
	}
}

// The rule that the memory of a list beyond its length is not returned.
func TestAllHasNothingBeyond(t *testing.T) {
	for before := range 9 {
		for n := range 9 {
			b := with(t, 8, before, some(8)...)
			drain(t, b, some(8-n)...)
			all := b.All()
			for _, c := range all[:cap(all)][n:] {
				if c != 0 {
					t.Errorf("All of %d stores has %v beyond its length", n, c)
				}
			}
		}
	}
}

// A nil Buffer: ErrNone precedes all other errors.
func TestNil(t *testing.T) {
	var b *sbuf.Buffer
	for _, a := range slices.Concat(inside, outside) {
		for _, w := range slices.Concat(inside, outside) {
			if e := b.Put(a, w); e != api.ErrNone {
				t.Errorf("Put(%d, %d) = %d", a, w, e)
			}
		}
		if w, ok := b.Find(a); w != 0 || ok {
			t.Errorf("Find(%d) = %d, %v", a, w, ok)
		}
	}
	dry(t, b)
	if b.Cap() != 0 || b.Len() != 0 || len(b.All()) != 0 || b.Clear() != 0 || b.Clone() != nil {
		t.Error(b.Cap(), b.Len(), b.All(), b.Clear(), b.Clone())
	}
}

// model is a buffer by the text of the chapter: all stores that were put, and how many of them are gone.
type model struct {
	most    int
	put     []store
	gone    int
	drained []store
}

// pending returns the stores that are neither drained nor cleared.
func (m *model) pending() []store { return m.put[m.gone:] }

// tryPut puts a store into b and into the model.
func (m *model) tryPut(t *testing.T, b *sbuf.Buffer, s store) {
	t.Helper()
	want := api.OK
	switch {
	case s.addr < 0 || s.addr > 65535 || s.word < 0 || s.word > 65535:
		want = api.ErrArg
	case len(m.pending()) == m.most:
		want = api.ErrFull
	default:
		m.put = append(m.put, s)
	}
	refuse(t, b, s.addr, s.word, want)
}

// tryDrain drains b and the model.
func (m *model) tryDrain(t *testing.T, b *sbuf.Buffer) {
	t.Helper()
	if len(m.pending()) == 0 {
		dry(t, b)
		return
	}
	first := m.pending()[0]
	m.gone++
	m.drained = append(m.drained, first)
	drain(t, b, first)
}

// call makes one of five calls on b and on the model, and returns the buffer to go on with.
func (m *model) call(t *testing.T, b *sbuf.Buffer, which, word int) *sbuf.Buffer {
	t.Helper()
	switch which {
	case 0, 1:
		m.tryPut(t, b, store{4 + which, word})
	case 2:
		m.tryDrain(t, b)
	case 3:
		if n := b.Clear(); n != len(m.pending()) {
			t.Fatalf("Clear() = %d, want %d", n, len(m.pending()))
		}
		m.gone = len(m.put)
	case 4:
		b = b.Clone()
	}
	return b
}

// P5.2, P5.3, P5.4: all sequences of seven calls on small buffers.
func TestAllSequences(t *testing.T) {
	codes := 5 * 5 * 5 * 5 * 5 * 5 * 5
	for _, most := range []int{1, 2, 3} {
		for code := range codes {
			b, m := made(t, most), model{most: most}
			for i, rest := 0, code; i < 7; i, rest = i+1, rest/5 {
				b = m.call(t, b, rest%5, 100+i)
			}
			expect(t, b, most, m.pending()...)
		}
	}
}

// P5.4: what was put is what was drained and then what is pending, and Find sees the pending stores only, whatever is put and drained.
func TestLaws(t *testing.T) {
	for _, most := range []int{1, 2, 3, 5, 15, 16} {
		b, m := made(t, most), model{most: most}
		seed := uint32(most)
		draw := func(n int) int {
			seed = seed*1664525 + 1013904223
			return int(seed>>8) % n
		}
		for i := range 20000 {
			// Long runs in which one of the two calls prevails let the buffer become full and empty in turn.
			if (i/(4*most+20)%2 == 0) != (draw(4) == 0) {
				m.tryPut(t, b, store{draw(8) - 1, draw(65538) - 1})
			} else {
				m.tryDrain(t, b)
			}
			addr := draw(8) - 1
			word, ok := latest(m.pending(), addr)
			if w, found := b.Find(addr); w != word || found != ok {
				t.Fatalf("Find(%d) in %v = %d, %v", addr, m.pending(), w, found)
			}
		}
		if !slices.Equal(slices.Concat(cells(m.drained...), b.All()), cells(m.put...)) {
			t.Errorf("with the capacity %d the stores drained are not those that were put", most)
		}
		if len(m.drained) < 1000 {
			t.Errorf("with the capacity %d only %d stores were drained", most, len(m.drained))
		}
	}
}

// P1: all calls with all numbers.
func TestNoPanic(t *testing.T) {
	numbers := slices.Concat(inside, outside)
	for _, most := range slices.Concat(noCapacities, []int{1, 2, 16}) {
		b := sbuf.New(most)
		for _, a := range numbers {
			for _, w := range numbers {
				b.Put(a, w)
			}
			b.Find(a)
			b.Clone().Drain()
		}
		for range 20 {
			b.Drain()
			b.All()
			b.Len()
			b.Cap()
		}
		b.Clear()
		b.Clear()
	}
}
