package bus_test

import (
	"math"
	"slices"
	"testing"

	"switchyard/api"
	"switchyard/bus"
	"switchyard/sram"
)

// noWords holds numbers that are no words, the neighbours of the limits first.
var noWords = []int{-1, 65536, -2, 65537, -65535, -65536, 131071, 131072, 1 << 31, 1 << 32, 1<<32 + 1, 1<<53 + 1, -1 << 40, math.MinInt, math.MinInt + 1, math.MaxInt - 1, math.MaxInt}

// words holds words, the limits first.
var words = []int{0, 65535, 1, 2, 255, 256, 32767, 32768, 65534}

// far holds numbers that are neither cores nor addresses of any bus.
var far = []int{-1, -2, -7, -8, -9, -65536, 65536, 65537, 1 << 31, 1 << 32, 1<<32 + 1, -1 << 32, 1 - 1<<32, math.MinInt, math.MinInt + 1, math.MaxInt - 1, math.MaxInt}

// outside returns numbers that are not in 0 to n-1, the neighbours of the limits first.
func outside(n int) []int { return append([]int{n, n + 1, 2 * n, n + 1<<32}, far...) }

// store is a store by its address and its word.
type store struct{ addr, word int }

// cells returns the stores as complex numbers, without the packages under test.
func cells(list ...store) []complex128 {
	var l []complex128
	for _, s := range list {
		l = append(l, complex(float64(s.addr), float64(s.word)))
	}
	return l
}

// some returns n stores at the addresses 0 to 3 that differ in their words, several at one address.
func some(n int) []store {
	addrs := []int{1, 1, 0, 3, 1, 0, 2, 3, 3}
	l := make([]store, n)
	for i := range l {
		l[i] = store{addrs[i%len(addrs)], 65535 * (i + 1) % 65536}
	}
	return l
}

// made returns a new bus.
func made(t *testing.T, cores, size, buf int) *bus.Bus {
	t.Helper()
	b, e := bus.New(cores, size, buf)
	if b == nil || e != api.OK {
		t.Fatalf("New(%d, %d, %d) = %v, %d", cores, size, buf, b, e)
	}
	return b
}

// put makes stores of a core that must be accepted.
func put(t *testing.T, b *bus.Bus, core int, list ...store) {
	t.Helper()
	for _, s := range list {
		if e := b.Store(core, s.addr, s.word); e != api.OK {
			t.Fatalf("Store(%d, %d, %d) = %d", core, s.addr, s.word, e)
		}
	}
}

// drain drains stores of a core, of which there must be so many.
func drain(t *testing.T, b *bus.Bus, core, n int) {
	t.Helper()
	for range n {
		if was, e := b.Drain(core); !was || e != api.OK {
			t.Fatalf("Drain(%d) = %v, %d", core, was, e)
		}
	}
}

// dry drains a core that must have no pending store.
func dry(t *testing.T, b *bus.Bus, core int) {
	t.Helper()
	if was, e := b.Drain(core); was || e != api.OK {
		t.Fatalf("Drain(%d) without pending stores = %v, %d", core, was, e)
	}
}

// fence drains all stores of a core, of which there must be so many.
func fence(t *testing.T, b *bus.Bus, core, want int) {
	t.Helper()
	if n, e := b.Fence(core); n != want || e != api.OK {
		t.Fatalf("Fence(%d) = %d, %d, want %d", core, n, e, want)
	}
}

// lose discards all stores of a core, of which there must be so many.
func lose(t *testing.T, b *bus.Bus, core, want int) {
	t.Helper()
	if n, e := b.Lose(core); n != want || e != api.OK {
		t.Fatalf("Lose(%d) = %d, %d, want %d", core, n, e, want)
	}
}

// swap swaps a word for one that must be the previous one.
func swap(t *testing.T, b *bus.Bus, core, a, w, want int) {
	t.Helper()
	if was, e := b.Swap(core, a, w); was != want || e != api.OK {
		t.Fatalf("Swap(%d, %d, %d) = %d, %d, want %d", core, a, w, was, e, want)
	}
}

// sees compares a word that a core loads.
func sees(t *testing.T, b *bus.Bus, core, a, want int) {
	t.Helper()
	if w, e := b.Load(core, a); w != want || e != api.OK {
		t.Fatalf("Load(%d, %d) = %d, %d, want %d", core, a, w, e, want)
	}
}

// model is a bus by the text of the chapter.
type model struct {
	buf     int
	memory  []int
	pending [][]store
}

// modelOf returns the model of a new bus.
func modelOf(cores, size, buf int) *model {
	return &model{buf: buf, memory: make([]int, size), pending: make([][]store, cores)}
}

// clone returns a model that shares nothing with m.
func (m *model) clone() *model {
	c := &model{buf: m.buf, memory: slices.Clone(m.memory)}
	for _, list := range m.pending {
		c.pending = append(c.pending, slices.Clone(list))
	}
	return c
}

// drain writes the oldest store of a core to the memory.
func (m *model) drain(core int) bool {
	if len(m.pending[core]) == 0 {
		return false
	}
	first := m.pending[core][0]
	m.memory[first.addr] = first.word
	m.pending[core] = m.pending[core][1:]
	return true
}

// fence drains all stores of a core.
func (m *model) fence(core int) int {
	n := len(m.pending[core])
	for m.drain(core) {
	}
	return n
}

// store appends a store of a core.
func (m *model) store(core int, s store) {
	if len(m.pending[core]) == m.buf {
		m.drain(core)
	}
	m.pending[core] = append(m.pending[core], s)
}

// load returns the word that a core sees.
func (m *model) load(core, a int) int {
	w := m.memory[a]
	for _, s := range m.pending[core] {
		if s.addr == a {
			w = s.word
		}
	}
	return w
}

// expect compares what can be asked of b with the model; it loads every word of a small memory and the first and last ones of others.
func expect(t *testing.T, b *bus.Bus, m *model) {
	t.Helper()
	if b.Cores() != len(m.pending) {
		t.Fatalf("Cores() = %d, want %d", b.Cores(), len(m.pending))
	}
	ram := b.Ram()
	if l, e := ram.Span(0, len(m.memory)); e != api.OK || !slices.Equal(l, m.memory) || ram.Size() != len(m.memory) {
		t.Fatalf("Ram() has %d words %v, want %v", ram.Size(), ram.Cells(), m.memory[:min(9, len(m.memory))])
	}
	for core, list := range m.pending {
		if l := b.Waits(core); !slices.Equal(l, cells(list...)) {
			t.Fatalf("Waits(%d) = %v, want %v", core, l, list)
		}
		for a := range m.memory {
			if a < 9 || a >= len(m.memory)-2 {
				sees(t, b, core, a, m.load(core, a))
			}
		}
	}
}

// both makes stores of a core on b and on the model.
func both(t *testing.T, b *bus.Bus, m *model, core int, list ...store) {
	t.Helper()
	for _, s := range list {
		put(t, b, core, s)
		m.store(core, s)
	}
}

// The example of the chapter.
func TestExample(t *testing.T) {
	b := made(t, 2, 4, 3)
	put(t, b, 0, store{1, 5})
	sees(t, b, 0, 1, 5)
	sees(t, b, 1, 1, 0)
	fence(t, b, 0, 1)
	sees(t, b, 1, 1, 5)
}

// P6.1: every number of cores and every capacity, with a small memory.
func TestNew(t *testing.T) {
	if api.MaxCores != 8 || api.MaxWords != 65536 || api.MaxBuf != 16 {
		t.Fatal(api.MaxCores, api.MaxWords, api.MaxBuf)
	}
	for cores := 1; cores <= 8; cores++ {
		for buf := 1; buf <= 16; buf++ {
			for size := 1; size <= 3; size++ {
				expect(t, made(t, cores, size, buf), modelOf(cores, size, buf))
			}
		}
	}
}

// P6.1: memories of many sizes, the greatest one among them; every address that exists can be stored at.
func TestNewOfManySizes(t *testing.T) {
	for _, size := range []int{1, 2, 255, 256, 257, 32768, 65534, 65535, 65536} {
		for _, cores := range []int{1, 8} {
			for _, buf := range []int{1, 16} {
				b, m := made(t, cores, size, buf), modelOf(cores, size, buf)
				expect(t, b, m)
				for _, core := range []int{0, cores - 1} {
					for _, a := range []int{size - 1, 0} {
						both(t, b, m, core, store{a, (a + core) % 65536})
					}
				}
				expect(t, b, m)
			}
		}
	}
}

// P6.1: the capacity of every core's buffer is buf.
func TestCapacityOfEachCore(t *testing.T) {
	for buf := 1; buf <= api.MaxBuf; buf++ {
		b, m := made(t, 8, 4, buf), modelOf(8, 4, buf)
		for n, s := range some(buf) {
			for core := range 8 {
				both(t, b, m, core, s)
				if l := b.Waits(core); len(l) != n+1 {
					t.Fatalf("%d of %d stores of core %d are pending after %d", len(l), buf, core, n+1)
				}
			}
		}
		expect(t, b, m)
		if !sram.Same(b.Ram(), made(t, 1, 4, 1).Ram()) {
			t.Fatalf("stores were drained into the memory at the capacity %d", buf)
		}
		for core := range 8 {
			put(t, b, core, store{2, 7})
			if l := b.Waits(core); len(l) != buf {
				t.Fatalf("%d stores of core %d are pending at the capacity %d", len(l), core, buf)
			}
			sees(t, b, (core+1)%8, 2, m.load((core+1)%8, 2))
			m.store(core, store{2, 7})
			expect(t, b, m)
		}
	}
}

// P6.1
func TestNewOfNoBus(t *testing.T) {
	cores := append([]int{0, 9, 10, 16, 256 + 2, 65536 + 1}, far...)
	// 65536 is far from being a core or an address, but it is a size.
	sizes := slices.DeleteFunc(append([]int{0, 65538, 131072}, far...), func(n int) bool { return n == 65536 })
	bufs := append([]int{0, 17, 18, 32, 256 + 2, 65536 + 1}, far...)
	check := func(cores, size, buf int) {
		t.Helper()
		if b, e := bus.New(cores, size, buf); b != nil || e != api.ErrArg {
			t.Errorf("New(%d, %d, %d) = %v, %d", cores, size, buf, b, e)
		}
	}
	for _, n := range cores {
		for _, m := range []int{1, 8, 16, 65536} {
			check(n, m, 1)
			check(n, m, 16)
		}
		for _, m := range sizes {
			check(n, m, 1)
			check(n, m, 0)
		}
	}
	for _, n := range sizes {
		check(1, n, 1)
		check(8, n, 16)
		check(8, n, 17)
	}
	for _, n := range bufs {
		check(1, 1, n)
		check(8, 65536, n)
		check(9, 65536, n)
		check(8, 65537, n)
	}
}

// P6.1: two buses share nothing.
func TestNewIsNew(t *testing.T) {
	first := made(t, 2, 4, 2)
	put(t, first, 0, some(3)...)
	second := made(t, 2, 4, 2)
	expect(t, second, modelOf(2, 4, 2))
	put(t, second, 1, store{3, 8})
	swap(t, second, 0, 1, 9, 0)
	m := modelOf(2, 4, 2)
	for _, s := range some(3) {
		m.store(0, s)
	}
	expect(t, first, m)
}

// P6.1: Cores does not depend on what is stored.
func TestCores(t *testing.T) {
	for cores := 1; cores <= api.MaxCores; cores++ {
		b := made(t, cores, 4, 2)
		for core := range cores {
			put(t, b, core, some(5)...)
			if b.Cores() != cores {
				t.Fatalf("Cores() = %d, want %d", b.Cores(), cores)
			}
		}
	}
}

// P6.2: every word at every limit of the addresses is loaded as it was stored, by its core at once and by another one when it is drained.
func TestLoadAndStore(t *testing.T) {
	for _, size := range []int{1, 2, 256, 65536} {
		b := made(t, 2, size, 1)
		for _, a := range []int{0, size / 2, size - 1} {
			for _, w := range words {
				before, e := b.Load(1, a)
				if e != api.OK {
					t.Fatal(e)
				}
				put(t, b, 0, store{a, w})
				sees(t, b, 0, a, w)
				sees(t, b, 1, a, before)
				drain(t, b, 0, 1)
				sees(t, b, 0, a, w)
				sees(t, b, 1, a, w)
			}
		}
	}
}

// P6.2: every address of the greatest memory, through a buffer that is full most of the time.
func TestEveryAddress(t *testing.T) {
	b := made(t, 2, 65536, 16)
	for a := range 65536 {
		put(t, b, 1, store{a, 65535 - a})
		sees(t, b, 1, a, 65535-a)
		sees(t, b, 0, a, 0)
		if a >= 16 {
			sees(t, b, 0, a-16, 65535-(a-16))
			sees(t, b, 0, a-15, 0)
		}
	}
	fence(t, b, 1, 16)
	for a := range 65536 {
		sees(t, b, 0, a, 65535-a)
	}
}

// P6.2: of several pending stores at one address a core sees its own most recent one, also if it stores 0, until that one is drained or lost.
func TestSeveralAtOneAddress(t *testing.T) {
	for buf := 1; buf <= api.MaxBuf; buf++ {
		b := made(t, 2, 3, buf)
		swap(t, b, 1, 2, 1000, 0)
		for n := range buf {
			put(t, b, 0, store{2, buf - 1 - n})
			sees(t, b, 0, 2, buf-1-n)
			sees(t, b, 1, 2, 1000)
		}
		for n := range buf {
			drain(t, b, 0, 1)
			sees(t, b, 0, 2, 0)
			sees(t, b, 1, 2, buf-1-n)
		}
		put(t, b, 0, store{2, 70})
		lose(t, b, 0, 1)
		sees(t, b, 0, 2, 0)
	}
}

// P6.2: a core's own pending store hides what another core has drained to the same address, until it is drained itself.
func TestOwnStoreHidesMemory(t *testing.T) {
	b := made(t, 3, 2, 2)
	put(t, b, 0, store{1, 10})
	put(t, b, 1, store{1, 20})
	drain(t, b, 1, 1)
	sees(t, b, 0, 1, 10)
	sees(t, b, 1, 1, 20)
	sees(t, b, 2, 1, 20)
	drain(t, b, 0, 1)
	for core := range 3 {
		sees(t, b, core, 1, 10)
	}
}

// P6.2: a store of the word that is there already is pending as any other.
func TestStoreOfTheSameWord(t *testing.T) {
	b := made(t, 1, 2, 3)
	put(t, b, 0, store{0, 0}, store{0, 0}, store{1, 0})
	if l := b.Waits(0); !slices.Equal(l, []complex128{0, 0, 1}) {
		t.Error("Waits", l)
	}
	fence(t, b, 0, 3)
}

// P6.2: a full buffer is drained by one store, the oldest, and only that of the core that stores.
func TestStoreIntoFull(t *testing.T) {
	for buf := 1; buf <= api.MaxBuf; buf++ {
		b, m := made(t, 2, 4, buf), modelOf(2, 4, buf)
		for _, s := range some(buf) {
			both(t, b, m, 0, s)
			both(t, b, m, 1, store{s.addr, s.word / 2})
		}
		expect(t, b, m)
		for i, s := range some(100) {
			both(t, b, m, 0, s)
			if n := len(b.Waits(0)); n != buf {
				t.Fatalf("%d stores are pending after %d more, at the capacity %d", n, i+1, buf)
			}
			expect(t, b, m)
		}
	}
}

// P6.2, P6.3: every capacity is filled and drained many times over.
func TestFillAndDrain(t *testing.T) {
	for buf := 1; buf <= api.MaxBuf; buf++ {
		b, m := made(t, 2, 4, buf), modelOf(2, 4, buf)
		for round := range 40 {
			core := round % 2
			both(t, b, m, core, some(round + buf + 1)[round:]...)
			expect(t, b, m)
			for range buf {
				drain(t, b, core, 1)
				m.drain(core)
				expect(t, b, m)
			}
			dry(t, b, core)
		}
	}
}

// rejections makes all kinds of calls on b that must be rejected, with the error that comes first.
func rejections(t *testing.T, b *bus.Bus, cores, size int) {
	t.Helper()
	check := func(name string, core, a, w, got int, e, want api.Errno) {
		t.Helper()
		if got != 0 || e != want {
			t.Fatalf("%s of core %d, address %d, word %d = %d, %d, want error %d", name, core, a, w, got, e, want)
		}
	}
	try := func(core, a, w int, load, change api.Errno) {
		t.Helper()
		if load != api.OK {
			got, e := b.Load(core, a)
			check("Load", core, a, w, got, e, load)
		}
		check("Store", core, a, w, 0, b.Store(core, a, w), change)
		got, e := b.Swap(core, a, w)
		check("Swap", core, a, w, got, e, change)
	}
	for _, core := range outside(cores) {
		for _, a := range append(outside(size), 0, size-1) {
			for _, w := range []int{0, 65535, -1, 65536, math.MinInt, math.MaxInt} {
				try(core, a, w, api.ErrCore, api.ErrCore)
			}
		}
		got, e := b.Fence(core)
		check("Fence", core, 0, 0, got, e, api.ErrCore)
		got, e = b.Lose(core)
		check("Lose", core, 0, 0, got, e, api.ErrCore)
		if was, e := b.Drain(core); was || e != api.ErrCore {
			t.Fatalf("Drain(%d) = %v, %d", core, was, e)
		}
		if l := b.Waits(core); l != nil {
			t.Fatalf("Waits(%d) = %v", core, l)
		}
	}
	for core := range cores {
		for _, a := range outside(size) {
			for _, w := range slices.Concat(words[:2], noWords) {
				try(core, a, w, api.ErrAddr, api.ErrAddr)
			}
		}
		for _, a := range []int{0, size / 2, size - 1} {
			for _, w := range noWords {
				try(core, a, w, api.OK, api.ErrArg)
			}
		}
	}
}

// P6.2, P6.3: cores, addresses and words just outside and far away, in the order of the errors; no trace is left, with empty and with full buffers.
func TestRejections(t *testing.T) {
	for _, cores := range []int{1, 2, 7, 8} {
		for _, size := range []int{4, 5, 100} {
			for _, buf := range []int{1, 2, 16} {
				for _, n := range []int{0, buf - 1, buf, buf + 3} {
					b, m := made(t, cores, size, buf), modelOf(cores, size, buf)
					for core := range cores {
						both(t, b, m, core, some(n + core)[core:]...)
					}
					c := b.Clone()
					rejections(t, b, cores, size)
					expect(t, b, m)
					if !bus.Same(b, c) {
						t.Fatal("a rejected call left a trace")
					}
				}
			}
		}
	}
}

// P6.2: the memory's size decides which addresses exist, up to the greatest size.
func TestAddressesOfManySizes(t *testing.T) {
	for _, size := range []int{1, 2, 255, 256, 257, 32768, 65535, 65536} {
		b := made(t, 8, size, 1)
		rejections(t, b, 8, size)
		for core := range 8 {
			put(t, b, core, store{size - 1, core})
			swap(t, b, core, size-1, 0, core)
		}
	}
}

// P6.2: a rejected Store into a full buffer drains nothing.
func TestRejectedStoreDrainsNothing(t *testing.T) {
	b := made(t, 2, 4, 2)
	put(t, b, 0, store{1, 5}, store{1, 6})
	for _, s := range []store{{4, 1}, {-1, 1}, {1, -1}, {1, 65536}} {
		if e := b.Store(0, s.addr, s.word); e == api.OK {
			t.Fatal("Store", s)
		}
		if was, e := b.Swap(0, s.addr, s.word); was != 0 || e == api.OK {
			t.Fatal("Swap", s, was)
		}
		sees(t, b, 1, 1, 0)
		if l := b.Waits(0); !slices.Equal(l, []complex128{1 + 5i, 1 + 6i}) {
			t.Fatal("Waits", l)
		}
	}
}

// P6.3: Fence at every number of pending stores, at every capacity, for the core alone.
func TestFence(t *testing.T) {
	for buf := 1; buf <= api.MaxBuf; buf++ {
		for n := range buf + 3 {
			b, m := made(t, 3, 4, buf), modelOf(3, 4, buf)
			for core := range 3 {
				both(t, b, m, core, some(n + core)[core:]...)
			}
			fence(t, b, 1, min(n, buf))
			m.fence(1)
			expect(t, b, m)
			fence(t, b, 1, 0)
			dry(t, b, 1)
			expect(t, b, m)
			fence(t, b, 2, min(n, buf))
			m.fence(2)
			fence(t, b, 0, min(n, buf))
			m.fence(0)
			expect(t, b, m)
		}
	}
}

// P6.3: Drain writes the oldest store, one at a time, and reports false when there is none; that leaves no trace.
func TestDrain(t *testing.T) {
	b := made(t, 2, 4, 3)
	dry(t, b, 0)
	put(t, b, 0, store{1, 5}, store{1, 6}, store{3, 0})
	put(t, b, 1, store{1, 7})
	drain(t, b, 0, 1)
	sees(t, b, 0, 1, 6)
	if w, _ := b.Ram().Load(1); w != 5 {
		t.Error("in the memory", w)
	}
	drain(t, b, 0, 1)
	if w, _ := b.Ram().Load(1); w != 6 {
		t.Error("in the memory", w)
	}
	drain(t, b, 0, 1)
	c := b.Clone()
	dry(t, b, 0)
	dry(t, b, 0)
	if !bus.Same(b, c) {
		t.Error("Drain of an empty buffer left a trace")
	}
	drain(t, b, 1, 1)
	dry(t, b, 1)
	sees(t, b, 0, 1, 7)
}

// P6.3: Swap drains the core's stores, in order, ahead of the exchange, and leaves those of others pending.
func TestSwap(t *testing.T) {
	b := made(t, 2, 4, 4)
	put(t, b, 0, store{2, 5}, store{3, 8}, store{2, 6})
	put(t, b, 1, store{2, 7}, store{0, 1})
	swap(t, b, 0, 2, 9, 6)
	m := modelOf(2, 4, 4)
	m.memory = []int{0, 0, 9, 8}
	m.pending[1] = []store{{2, 7}, {0, 1}}
	expect(t, b, m)
	sees(t, b, 0, 2, 9)
	sees(t, b, 1, 2, 7)
	swap(t, b, 1, 2, 0, 7)
	m.memory = []int{1, 0, 0, 8}
	m.pending[1] = nil
	expect(t, b, m)
}

// P6.3: Swap drains stores at other addresses too, also if none is at its own, and its word is not pending.
func TestSwapOfAnotherAddress(t *testing.T) {
	for buf := 1; buf <= api.MaxBuf; buf++ {
		b, m := made(t, 2, 5, buf), modelOf(2, 5, buf)
		both(t, b, m, 1, some(buf)...)
		swap(t, b, 1, 4, 65535, 0)
		m.fence(1)
		m.memory[4] = 65535
		expect(t, b, m)
		dry(t, b, 1)
	}
}

// P6.3: every word is swapped for every other one, at the limits of the addresses.
func TestSwapOfWords(t *testing.T) {
	for _, size := range []int{1, 2, 65536} {
		b := made(t, 8, size, 16)
		for _, a := range []int{0, size - 1} {
			was, e := b.Load(0, a)
			if e != api.OK {
				t.Fatal(e)
			}
			for i, w := range slices.Concat(words, words) {
				swap(t, b, i%8, a, w, was)
				was = w
				sees(t, b, 7-i%8, a, w)
			}
		}
	}
}

// P6.3: what is lost is never written, and the core sees the memory again.
func TestLose(t *testing.T) {
	for buf := 1; buf <= api.MaxBuf; buf++ {
		for n := range buf + 3 {
			b, m := made(t, 2, 4, buf), modelOf(2, 4, buf)
			for core := range 2 {
				both(t, b, m, core, some(n + core)[core:]...)
			}
			lose(t, b, 0, min(n, buf))
			m.pending[0] = nil
			expect(t, b, m)
			lose(t, b, 0, 0)
			dry(t, b, 0)
			fence(t, b, 0, 0)
			expect(t, b, m)
			both(t, b, m, 0, some(buf+1)...)
			expect(t, b, m)
		}
	}
}

// P6.4: Waits has the pending stores of each core, the oldest first.
func TestWaits(t *testing.T) {
	b := made(t, 3, 65536, 3)
	put(t, b, 0, store{65535, 0}, store{0, 65535}, store{65535, 65535})
	put(t, b, 2, store{7, 1}, store{7, 1}, store{6, 2}, store{7, 3})
	for core, want := range [][]complex128{{65535, 65535i, 65535 + 65535i}, {}, {7 + 1i, 6 + 2i, 7 + 3i}} {
		if l := b.Waits(core); !slices.Equal(l, want) {
			t.Errorf("Waits(%d) = %v, want %v", core, l, want)
		}
	}
}

// P6.4: a list that Waits returned belongs to the caller, and nothing is beyond its length.
func TestWaitsIsIndependent(t *testing.T) {
	for n := 1; n <= 20; n++ {
		b, m := made(t, 2, 4, 16), modelOf(2, 4, 16)
		both(t, b, m, 1, some(n)...)
		first, second := b.Waits(1), b.Waits(1)
		for i := range first {
			first[i] = 3 + 77i
		}
		first = append(first, 2+66i)
		if !slices.Equal(second, cells(m.pending[1]...)) {
			t.Fatal("two lists share memory")
		}
		for _, c := range second[len(second):cap(second)] {
			if c != 0 {
				t.Fatalf("the list has %v beyond its length", c)
			}
		}
		expect(t, b, m)
		kept := slices.Clone(second)
		put(t, b, 1, store{0, 1}, store{1, 2})
		fence(t, b, 1, min(16, n+2))
		if !slices.Equal(second, kept) || len(first) != len(kept)+1 {
			t.Fatal("a list follows the bus")
		}
	}
}

// P6.4: the memory that Ram returned and the bus do not see each other's changes; pending stores are not in it.
func TestRamIsIndependent(t *testing.T) {
	b, m := made(t, 2, 4, 2), modelOf(2, 4, 2)
	both(t, b, m, 0, some(5)...)
	r, other := b.Ram(), b.Ram()
	if r == nil || r == other || r.Size() != 4 || !sram.Same(r, other) {
		t.Fatal("Ram")
	}
	if e := r.Fill(0, 4, 99); e != api.OK {
		t.Fatal(e)
	}
	expect(t, b, m)
	fence(t, b, 0, 2)
	swap(t, b, 1, 3, 50, m.load(0, 3))
	if l, _ := other.Span(0, 4); !slices.Equal(l, m.memory) {
		t.Error("a memory follows the bus", l)
	}
	if l, _ := r.Span(0, 4); !slices.Equal(l, []int{99, 99, 99, 99}) {
		t.Error("a memory follows the bus", l)
	}
}

// changes holds calls that change a bus on which both cores have pending stores.
var changes = []func(b *bus.Bus, m *model){
	func(b *bus.Bus, m *model) { b.Store(0, 2, 901); m.store(0, store{2, 901}) },
	func(b *bus.Bus, m *model) { b.Store(1, 0, 902); m.store(1, store{0, 902}) },
	func(b *bus.Bus, m *model) { b.Drain(0); m.drain(0) },
	func(b *bus.Bus, m *model) { b.Drain(1); m.drain(1) },
	func(b *bus.Bus, m *model) { b.Fence(0); m.fence(0) },
	func(b *bus.Bus, m *model) { b.Fence(1); m.fence(1) },
	func(b *bus.Bus, m *model) { b.Swap(0, 3, 903); m.fence(0); m.memory[3] = 903 },
	func(b *bus.Bus, m *model) { b.Swap(1, 3, 904); m.fence(1); m.memory[3] = 904 },
	func(b *bus.Bus, m *model) { b.Lose(0); m.pending[0] = nil },
	func(b *bus.Bus, m *model) { b.Lose(1); m.pending[1] = nil },
}

// P6.4: neither a clone nor its original nor a clone's clone sees any call on another one.
func TestCloneIsIndependent(t *testing.T) {
	for buf := 1; buf <= 4; buf++ {
		for first := range changes {
			for second := range changes {
				b, m := made(t, 2, 4, buf), modelOf(2, 4, buf)
				for core := range 2 {
					both(t, b, m, core, some(3+core)...)
				}
				c, d, k := b.Clone(), b.Clone().Clone(), m.clone()
				untouched := m.clone()
				if c == nil || c == b || d == c {
					t.Fatal("the clone is nil or the bus itself")
				}
				changes[first](b, m)
				expect(t, b, m)
				expect(t, c, k)
				changes[second](c, k)
				expect(t, b, m)
				expect(t, c, k)
				changes[second](b, m)
				changes[first](c, k)
				expect(t, b, m)
				expect(t, c, k)
				expect(t, d, untouched)
			}
		}
	}
}

// P6.4: a clone has the same cores, room, memory and stores, at every limit.
func TestCloneOfLimits(t *testing.T) {
	for _, cores := range []int{1, 8} {
		for _, size := range []int{4, 65536} {
			for _, buf := range []int{1, 16} {
				b, m := made(t, cores, size, buf), modelOf(cores, size, buf)
				both(t, b, m, cores-1, some(buf+2)...)
				c := b.Clone()
				expect(t, c, m)
				if !bus.Same(b, c) {
					t.Fatal("the clone is another")
				}
				both(t, c, m, 0, some(buf+5)...)
				expect(t, c, m)
			}
		}
	}
}

// P6.4: Same tells each part of a bus apart, also for buses that came to their state in different ways.
func TestSame(t *testing.T) {
	with := func(cores, size, buf int, calls ...func(b *bus.Bus)) *bus.Bus {
		b := made(t, cores, size, buf)
		for _, call := range calls {
			call(b)
		}
		return b
	}
	to := func(core, a, w int) func(b *bus.Bus) { return func(b *bus.Bus) { b.Store(core, a, w) } }
	swap := func(core, a, w int) func(b *bus.Bus) { return func(b *bus.Bus) { b.Swap(core, a, w) } }
	fence := func(core int) func(b *bus.Bus) { return func(b *bus.Bus) { b.Fence(core) } }
	lose := func(core int) func(b *bus.Bus) { return func(b *bus.Bus) { b.Lose(core) } }
	different := []*bus.Bus{
		nil,
		with(1, 4, 2), with(2, 4, 2), with(8, 4, 2),
		with(2, 3, 2), with(2, 5, 2), with(2, 65536, 2), with(1, 1, 1),
		with(2, 4, 1), with(2, 4, 3), with(2, 4, 16),
		with(2, 4, 2, to(0, 1, 5)), with(2, 4, 2, to(1, 1, 5)), with(2, 4, 2, to(0, 2, 5)), with(2, 4, 2, to(0, 1, 6)), with(2, 4, 2, to(0, 0, 0)), with(2, 4, 2, to(1, 0, 0)),
		with(2, 4, 2, to(0, 1, 5), to(0, 1, 5)), with(2, 4, 2, to(0, 1, 5), to(1, 1, 5)), with(2, 4, 2, to(0, 1, 5), to(0, 2, 6)), with(2, 4, 2, to(0, 2, 6), to(0, 1, 5)),
		with(2, 4, 2, swap(0, 1, 5)), with(2, 4, 2, swap(0, 3, 5)), with(2, 4, 2, swap(0, 0, 1)), with(2, 4, 2, swap(0, 1, 5), to(1, 1, 5)),
		with(2, 4, 3, to(0, 1, 5)), with(3, 4, 2, to(0, 1, 5)), with(2, 5, 2, to(0, 1, 5)),
	}
	for i, a := range different {
		for j, b := range different {
			if bus.Same(a, b) != (i == j) {
				t.Errorf("Same of bus %d and bus %d = %v", i, j, i != j)
			}
		}
		if !bus.Same(a, a.Clone()) || !bus.Same(a.Clone(), a) {
			t.Errorf("bus %d and its clone are not the same", i)
		}
	}
	alike := [][2]*bus.Bus{
		{with(2, 4, 2), with(2, 4, 2, to(0, 1, 5), lose(0))},
		{with(2, 4, 2), with(2, 4, 2, to(1, 1, 0), fence(1))},
		{with(2, 4, 2, swap(0, 1, 5)), with(2, 4, 2, to(1, 1, 5), fence(1))},
		{with(2, 4, 2, swap(0, 1, 5)), with(2, 4, 2, swap(1, 1, 7), swap(0, 1, 5))},
		{with(2, 4, 1, swap(1, 1, 5), to(0, 2, 6)), with(2, 4, 1, to(0, 1, 5), to(0, 2, 6))},
		{with(2, 4, 2, to(0, 1, 5), to(1, 2, 6)), with(2, 4, 2, to(1, 2, 6), to(0, 1, 5))},
		{with(8, 65536, 16, to(7, 65535, 65535)), with(8, 65536, 16, to(7, 0, 0), fence(7), to(7, 65535, 65535))},
	}
	for i, pair := range alike {
		if !bus.Same(pair[0], pair[1]) || !bus.Same(pair[1], pair[0]) {
			t.Errorf("Same of pair %d = false", i)
		}
	}
}

// P6.4: Same changes neither bus.
func TestSameLeavesNoTrace(t *testing.T) {
	a, b := made(t, 2, 4, 2), made(t, 2, 4, 2)
	put(t, a, 0, some(3)...)
	put(t, b, 1, some(4)...)
	k, l := modelOf(2, 4, 2), modelOf(2, 4, 2)
	for i, s := range some(4) {
		if i < 3 {
			k.store(0, s)
		}
		l.store(1, s)
	}
	for range 3 {
		if bus.Same(a, b) {
			t.Fatal("the same")
		}
		expect(t, a, k)
		expect(t, b, l)
	}
}

// A nil Bus: ErrNone precedes all other errors.
func TestNil(t *testing.T) {
	var b *bus.Bus
	numbers := slices.Concat(words, noWords)
	for _, core := range numbers {
		for _, a := range numbers {
			if w, e := b.Load(core, a); w != 0 || e != api.ErrNone {
				t.Fatalf("Load(%d, %d) = %d, %d", core, a, w, e)
			}
			for _, w := range numbers {
				if e := b.Store(core, a, w); e != api.ErrNone {
					t.Fatalf("Store(%d, %d, %d) = %d", core, a, w, e)
				}
				if was, e := b.Swap(core, a, w); was != 0 || e != api.ErrNone {
					t.Fatalf("Swap(%d, %d, %d) = %d, %d", core, a, w, was, e)
				}
			}
		}
		if n, e := b.Fence(core); n != 0 || e != api.ErrNone {
			t.Errorf("Fence(%d) = %d, %d", core, n, e)
		}
		if n, e := b.Lose(core); n != 0 || e != api.ErrNone {
			t.Errorf("Lose(%d) = %d, %d", core, n, e)
		}
		if was, e := b.Drain(core); was || e != api.ErrNone {
			t.Errorf("Drain(%d) = %v, %d", core, was, e)
		}
		if l := b.Waits(core); l != nil {
			t.Errorf("Waits(%d) = %v", core, l)
		}
	}
	if b.Cores() != 0 || b.Ram() != nil || b.Clone() != nil || !bus.Same(b, b) || !bus.Same(nil, b) {
		t.Error(b.Cores(), b.Ram(), b.Clone(), bus.Same(b, b))
	}
	if other := made(t, 1, 1, 1); bus.Same(b, other) || bus.Same(other, b) {
		t.Error("a nil bus is the same as another")
	}
}

// call makes one of twelve calls of two cores on b and on the model, and returns the bus to go on with.
func (m *model) call(t *testing.T, b *bus.Bus, which, word int) *bus.Bus {
	t.Helper()
	core := which % 2
	switch which / 2 {
	case 0, 1:
		s := store{which / 2, word}
		both(t, b, m, core, s)
		sees(t, b, core, s.addr, word)
	case 2:
		if was, e := b.Drain(core); e != api.OK || was != m.drain(core) {
			t.Fatalf("Drain(%d) = %v, %d", core, was, e)
		}
	case 3:
		fence(t, b, core, m.fence(core))
	case 4:
		m.fence(core)
		swap(t, b, core, 1, word, m.memory[1])
		m.memory[1] = word
	case 5:
		if core == 0 {
			lose(t, b, 0, len(m.pending[0]))
			m.pending[0] = nil
		} else {
			b = b.Clone()
		}
	}
	return b
}

// P6.2, P6.3, P6.4, P6.5: all sequences of five calls of two cores with small buffers.
func TestAllSequences(t *testing.T) {
	codes := 12 * 12 * 12 * 12 * 12
	for _, buf := range []int{1, 2} {
		for code := range codes {
			b, m := made(t, 2, 2, buf), modelOf(2, 2, buf)
			for i, rest := 0, code; i < 5; i, rest = i+1, rest/12 {
				b = m.call(t, b, rest%12, 100+i)
			}
			expect(t, b, m)
		}
	}
}

// drawer returns a function that draws a number below n, the same ones for the same seed.
func drawer(seed uint32) func(n int) int {
	return func(n int) int {
		seed = seed*1664525 + 1013904223
		return int(seed>>8) % n
	}
}

// P6.5: a core's pending stores are its most recent ones, in order, and the earlier ones were written to the memory, in order, while no other core stores.
func TestLawsOfOneCore(t *testing.T) {
	for buf := 1; buf <= api.MaxBuf; buf++ {
		b := made(t, 3, 5, buf)
		draw := drawer(uint32(buf))
		var made []store
		for i := range 2000 {
			if (i/(3*buf+10)%2 == 0) != (draw(4) == 0) {
				made = append(made, store{draw(5), draw(65536)})
				put(t, b, 1, made[len(made)-1])
				sees(t, b, 1, made[len(made)-1].addr, made[len(made)-1].word)
			} else if _, e := b.Drain(1); e != api.OK {
				t.Fatal(e)
			}
			waits := b.Waits(1)
			early := len(made) - len(waits)
			if early < 0 || len(waits) > buf || !slices.Equal(waits, cells(made[early:]...)) {
				t.Fatalf("Waits(1) = %v after %v", waits, made[max(0, early):])
			}
			memory := make([]int, 5)
			for _, s := range made[:early] {
				memory[s.addr] = s.word
			}
			if l, e := b.Ram().Span(0, 5); e != api.OK || !slices.Equal(l, memory) {
				t.Fatalf("the memory is %v, want %v", l, memory)
			}
		}
	}
}

// P6.5: a core loads what it stored last, until another core has written to the address; after a Fence of every core, all cores load the same words, those of the memory.
func TestLawsOfAllCores(t *testing.T) {
	for cores := 1; cores <= api.MaxCores; cores++ {
		for _, buf := range []int{1, 2, 5, 16} {
			b, m := made(t, cores, 6, buf), modelOf(cores, 6, buf)
			draw := drawer(uint32(cores + 16*buf))
			for round := range 30 {
				for range 40 {
					core, s := draw(cores), store{draw(6), draw(65536)}
					switch draw(8) {
					case 0:
						if was, e := b.Drain(core); e != api.OK || was != m.drain(core) {
							t.Fatal("Drain", was, e)
						}
					case 1:
						fence(t, b, core, m.fence(core))
					case 2:
						m.fence(core)
						swap(t, b, core, s.addr, s.word, m.memory[s.addr])
						m.memory[s.addr] = s.word
						sees(t, b, core, s.addr, s.word)
					default:
						both(t, b, m, core, s)
						sees(t, b, core, s.addr, s.word)
					}
				}
				expect(t, b, m)
				for i := range cores {
					core := (i + round) % cores
					fence(t, b, core, m.fence(core))
				}
				ram := b.Ram()
				for a := range 6 {
					w, _ := ram.Load(a)
					for core := range cores {
						sees(t, b, core, a, w)
					}
				}
				expect(t, b, m)
			}
		}
	}
}

// P1: all calls with all numbers.
func TestNoPanic(t *testing.T) {
	numbers := slices.Concat(words, noWords, []int{3, 7, 8, 15, 16, 17})
	for _, conf := range [][3]int{{1, 1, 1}, {2, 4, 2}, {8, 65536, 16}, {0, 0, 0}, {9, 1, 1}, {1, 65537, 1}, {1, 1, 17}, {math.MinInt, math.MaxInt, math.MinInt}} {
		b, _ := bus.New(conf[0], conf[1], conf[2])
		for _, core := range numbers {
			for _, a := range numbers {
				for _, w := range numbers {
					b.Store(core, a, w)
				}
				b.Load(core, a)
				b.Swap(core, a, a)
				b.Store(core, a, 1)
			}
			b.Waits(core)
			b.Drain(core)
			b.Store(core, 0, 1)
			b.Fence(core)
			b.Store(core, 0, 2)
			b.Lose(core)
			b.Cores()
			bus.Same(b, b.Clone())
			bus.Same(b, nil)
			b.Ram()
		}
	}
}
