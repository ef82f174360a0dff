package mbox_test

import (
	"math"
	"slices"
	"testing"

	"switchyard/api"
	"switchyard/mbox"
)

// far holds numbers that are neither cores nor numbers of cores, the neighbours of the limits first. Some of them have the low bits of a core, or are such that a bit shifted by them is gone.
var far = []int{-1, -2, -7, -8, -9, -15, -16, -63, -64, -65536, 16, 31, 32, 63, 64, 65, 256, 256 + 1, 65535, 65536, 65537, 1 << 31, 1 << 32, 1<<32 + 1, -1 << 32, 1 - 1<<32, math.MinInt, math.MinInt + 1, math.MaxInt - 1, math.MaxInt}

// noWords holds numbers that are no words, the neighbours of the limits first.
var noWords = []int{-1, 65536, -2, 65537, -65535, -65536, -65537, 131071, 131072, 1 << 31, 1 << 32, 1<<32 + 1, -1 << 32, math.MinInt, math.MinInt + 1, math.MaxInt - 1, math.MaxInt}

// words holds words, the limits first, some of them twice.
var words = []int{0, 65535, 1, 65534, 0, 2, 7, 7, 255, 256, 65535, 4095, 4096, 32767, 32768, 0, 8}

// outside returns numbers that are no cores of a box with so many of them, the neighbours of the limits first.
func outside(cores int) []int {
	list := []int{-1}
	for n := cores; n <= api.MaxCores+1; n++ {
		list = append(list, n)
	}
	return append(append(list, cores+1<<32), far...)
}

// letter is a word with its sender.
type letter struct{ from, word int }

// some returns n words with senders among so many cores.
func some(n, cores int) []letter {
	list := make([]letter, n)
	for i := range list {
		list[i] = letter{(i*i + i/3) % cores, words[i%len(words)]}
	}
	return list
}

// mail is a mailbox by the text of the chapter.
type mail struct {
	rung  [8]bool
	queue []letter
}

// bits returns the pending bits.
func (m mail) bits() int {
	n := 0
	for i, value := range []int{1, 2, 4, 8, 16, 32, 64, 128} {
		if m.rung[i] {
			n += value
		}
	}
	return n
}

// model is a box by the text of the chapter.
type model []mail

// clone returns a model that shares nothing with m.
func (m model) clone() model {
	c := slices.Clone(m)
	for core := range c {
		c[core].queue = slices.Clone(c[core].queue)
	}
	return c
}

// same reports whether both models have the same number of cores, bits and queues.
func (m model) same(other model) bool {
	return slices.EqualFunc(m, other, func(x, y mail) bool {
		return x.rung == y.rung && slices.Equal(x.queue, y.queue)
	})
}

// ring rings from one existing core at another one with a word.
func (m model) ring(from, to, w int) api.Errno {
	m[to].rung[from] = true
	if len(m[to].queue) == 16 {
		return api.ErrFull
	}
	m[to].queue = append(m[to].queue, letter{from, w})
	return api.OK
}

// take removes the first word of a core.
func (m model) take(core int) (letter, api.Errno) {
	if len(m[core].queue) == 0 {
		return letter{}, api.ErrEmpty
	}
	first := m[core].queue[0]
	m[core].queue = m[core].queue[1:]
	return first, api.OK
}

// ack clears the bits of a core that are set in the mask.
func (m model) ack(core, mask int) {
	for i := range 8 {
		if mask>>i&1 == 1 {
			m[core].rung[i] = false
		}
	}
}

// reset clears everything in the mailbox of a core.
func (m model) reset(core int) int {
	n := len(m[core].queue)
	m[core] = mail{}
	return n
}

// made returns a new box.
func made(t *testing.T, cores int) *mbox.Box {
	t.Helper()
	b := mbox.New(cores)
	if b == nil {
		t.Fatalf("New(%d) is nil", cores)
	}
	return b
}

// ring rings at a core with words that must be appended.
func ring(t *testing.T, b *mbox.Box, to int, list ...letter) {
	t.Helper()
	for _, l := range list {
		if e := b.Ring(l.from, to, l.word); e != api.OK {
			t.Fatalf("Ring(%d, %d, %d) = %d with %d words", l.from, to, l.word, e, b.Waits(to))
		}
	}
}

// take takes words of a core that must be these.
func take(t *testing.T, b *mbox.Box, core int, list ...letter) {
	t.Helper()
	for _, want := range list {
		if from, w, e := b.Take(core); from != want.from || w != want.word || e != api.OK {
			t.Fatalf("Take(%d) = %d, %d, %d, want %v", core, from, w, e, want)
		}
	}
}

// dry takes from a core whose queue must be empty.
func dry(t *testing.T, b *mbox.Box, core int) {
	t.Helper()
	if from, w, e := b.Take(core); from != 0 || w != 0 || e != api.ErrEmpty {
		t.Fatalf("Take(%d) of an empty queue = %d, %d, %d", core, from, w, e)
	}
}

// ack acknowledges bits of a core.
func ack(t *testing.T, b *mbox.Box, core, mask int) {
	t.Helper()
	if e := b.Ack(core, mask); e != api.OK {
		t.Fatalf("Ack(%d, %d) = %d", core, mask, e)
	}
}

// reset resets a core that must have so many words.
func reset(t *testing.T, b *mbox.Box, core, want int) {
	t.Helper()
	if n, e := b.Reset(core); n != want || e != api.OK {
		t.Fatalf("Reset(%d) = %d, %d, want %d", core, n, e, want)
	}
}

// pending compares the pending bits of a core.
func pending(t *testing.T, b *mbox.Box, core, want int) {
	t.Helper()
	if bits, e := b.Pending(core); bits != want || e != api.OK {
		t.Fatalf("Pending(%d) = %d, %d, want %d", core, bits, e, want)
	}
}

// expect compares everything in b with the model, the queues by taking from a clone, and b has the model's number of cores.
func expect(t *testing.T, b *mbox.Box, m model) {
	t.Helper()
	c := b.Clone()
	for core := range m {
		pending(t, b, core, m[core].bits())
		if n := b.Waits(core); n != len(m[core].queue) {
			t.Fatalf("Waits(%d) = %d, want %d", core, n, len(m[core].queue))
		}
		take(t, c, core, m[core].queue...)
		dry(t, c, core)
	}
	if _, e := b.Pending(len(m)); e != api.ErrCore {
		t.Fatalf("Pending(%d) = _, %d with %d cores", len(m), e, len(m))
	}
}

// empties takes all words of b itself, which are then gone.
func empties(t *testing.T, b *mbox.Box, m model) {
	t.Helper()
	for core := range m {
		take(t, b, core, m[core].queue...)
		dry(t, b, core)
		pending(t, b, core, m[core].bits())
	}
}

// both rings at a core of b and of the model.
func both(t *testing.T, b *mbox.Box, m model, to int, list ...letter) {
	t.Helper()
	for _, l := range list {
		want := m.ring(l.from, to, l.word)
		if e := b.Ring(l.from, to, l.word); e != want {
			t.Fatalf("Ring(%d, %d, %d) = %d, want %d", l.from, to, l.word, e, want)
		}
	}
}

// filled returns a box and its model, in which each core has another number of words and other bits than its neighbours.
func filled(t *testing.T, cores int) (*mbox.Box, model) {
	t.Helper()
	b, m := made(t, cores), make(model, cores)
	for core := range cores {
		both(t, b, m, core, some((core*5+3)%17, cores)...)
		b.Ack(core, core)
		m.ack(core, core)
	}
	expect(t, b, m)
	return b, m
}

// The example of the chapter.
func TestExample(t *testing.T) {
	b := made(t, 2)
	ring(t, b, 1, letter{0, 7})
	pending(t, b, 1, 1)
	take(t, b, 1, letter{0, 7})
	pending(t, b, 1, 1)
	ack(t, b, 1, 1)
	pending(t, b, 1, 0)
}

// P9.1
func TestNew(t *testing.T) {
	if api.MaxCores != 8 || api.MaxMail != 16 {
		t.Fatal(api.MaxCores, api.MaxMail)
	}
	for cores := 1; cores <= 8; cores++ {
		b := made(t, cores)
		expect(t, b, make(model, cores))
		empties(t, b, make(model, cores))
	}
}

// P9.1
func TestNewOfNoCores(t *testing.T) {
	for _, cores := range slices.Concat([]int{0, 9, 10, -1}, far) {
		if b := mbox.New(cores); b != nil {
			t.Errorf("New(%d) is a box", cores)
		}
	}
}

// P9.1: two boxes share nothing.
func TestNewIsNew(t *testing.T) {
	first, m := filled(t, 3)
	second := made(t, 3)
	expect(t, second, make(model, 3))
	ring(t, second, 1, letter{2, 9})
	reset(t, second, 0, 0)
	expect(t, first, m)
	first.Reset(1)
	take(t, second, 1, letter{2, 9})
	pending(t, second, 1, 4)
}

// P9.1, P9.2: every core of every box can ring at every one, itself among them, with every kind of word, and reaches nobody else.
func TestRing(t *testing.T) {
	for cores := 1; cores <= 8; cores++ {
		for from := range cores {
			for to := range cores {
				for _, w := range words {
					b, m := made(t, cores), make(model, cores)
					both(t, b, m, to, letter{from, w})
					expect(t, b, m)
					empties(t, b, m)
				}
			}
		}
	}
}

// P9.2: each word arrives as it was sent.
func TestAllWords(t *testing.T) {
	b := made(t, 8)
	for w := range 65536 {
		from, to := w%8, w/8%8
		ring(t, b, to, letter{from, w})
		take(t, b, to, letter{from, w})
	}
}

// P9.2: words of several senders stay in their order, for every number of words.
func TestRingOfSeveral(t *testing.T) {
	for _, cores := range []int{1, 2, 3, 8} {
		for to := range cores {
			for n := range 17 {
				b, m := made(t, cores), make(model, cores)
				for _, l := range some(n, cores) {
					both(t, b, m, to, l)
					expect(t, b, m)
				}
				if b.Waits(to) != n {
					t.Fatalf("Waits(%d) = %d, want %d", to, b.Waits(to), n)
				}
				empties(t, b, m)
			}
		}
	}
}

// P9.2: a sender's words may be apart, and the same word may come from several senders or twice from one.
func TestRingOfEqualWords(t *testing.T) {
	list := []letter{{2, 5}, {0, 5}, {2, 5}, {2, 5}, {1, 0}, {0, 0}, {1, 65535}, {2, 65535}, {0, 5}}
	b, m := made(t, 3), make(model, 3)
	both(t, b, m, 1, list...)
	expect(t, b, m)
	pending(t, b, 1, 7)
	take(t, b, 1, list...)
	dry(t, b, 1)
	pending(t, b, 1, 7)
}

// P9.2: a full queue takes no word, but the bit is set, whether or not it was set before.
func TestRingAtFullQueue(t *testing.T) {
	for _, cores := range []int{1, 2, 8} {
		for to := range cores {
			for from := range cores {
				b, m := made(t, cores), make(model, cores)
				for i := range 16 {
					both(t, b, m, to, letter{(i + from + 1) % cores, 100 + i})
				}
				ack(t, b, to, -1)
				m.ack(to, -1)
				for range 2 {
					if e := b.Ring(from, to, 7); e != api.ErrFull {
						t.Fatalf("Ring(%d, %d) into a full queue = %d", from, to, e)
					}
					m.ring(from, to, 7)
					pending(t, b, to, 1<<from)
					expect(t, b, m)
				}
				empties(t, b, m)
			}
		}
	}
}

// P9.2: several cores ring at a full queue; it takes words again as soon as one was taken.
func TestRingAtFullQueueBySeveral(t *testing.T) {
	b, m := made(t, 8), make(model, 8)
	both(t, b, m, 3, slices.Repeat([]letter{{5, 1}}, 16)...)
	pending(t, b, 3, 32)
	for from := range 8 {
		if e := b.Ring(from, 3, 65535); e != api.ErrFull {
			t.Fatalf("Ring(%d, 3) into a full queue = %d", from, e)
		}
		m.ring(from, 3, 65535)
		expect(t, b, m)
	}
	pending(t, b, 3, 255)
	for from := range 8 {
		first, _ := m.take(3)
		take(t, b, 3, first)
		both(t, b, m, 3, letter{from, 200}, letter{from, 201})
		expect(t, b, m)
	}
	empties(t, b, m)
}

// P9.2: cores that do not exist, on either side and on both; the call leaves no trace.
func TestRingOfNoCore(t *testing.T) {
	for cores := 1; cores <= 8; cores++ {
		b, m := filled(t, cores)
		for _, none := range outside(cores) {
			for core := range cores {
				for _, w := range []int{0, 7, 65535, -1, 65536, math.MinInt, math.MaxInt} {
					if e := b.Ring(none, core, w); e != api.ErrCore {
						t.Errorf("Ring(%d, %d, %d) with %d cores = %d", none, core, w, cores, e)
					}
					if e := b.Ring(core, none, w); e != api.ErrCore {
						t.Errorf("Ring(%d, %d, %d) with %d cores = %d", core, none, w, cores, e)
					}
				}
			}
			for _, other := range outside(cores) {
				for _, w := range []int{0, 65536} {
					if e := b.Ring(none, other, w); e != api.ErrCore {
						t.Errorf("Ring(%d, %d, %d) with %d cores = %d", none, other, w, cores, e)
					}
				}
			}
		}
		expect(t, b, m)
	}
}

// P9.2: numbers that are no words; the call leaves no trace, also no bit, whether or not the queue is full.
func TestRingOfNoWord(t *testing.T) {
	for n := range 17 {
		b, m := made(t, 4), make(model, 4)
		both(t, b, m, 2, some(n, 3)...)
		for _, w := range noWords {
			for from := range 4 {
				for to := range 4 {
					if e := b.Ring(from, to, w); e != api.ErrArg {
						t.Errorf("Ring(%d, %d, %d) with %d words = %d", from, to, w, n, e)
					}
				}
			}
		}
		expect(t, b, m)
		empties(t, b, m)
	}
}

// P9.3: every set of cores that have rung is told, at every core.
func TestPending(t *testing.T) {
	for to := range 8 {
		for set := range 256 {
			b := made(t, 8)
			for i := range 8 {
				if set>>i&1 == 1 {
					ring(t, b, to, letter{i, 9})
				}
			}
			for core := range 8 {
				want := 0
				if core == to {
					want = set
				}
				pending(t, b, core, want)
				pending(t, b, core, want)
			}
		}
	}
}

// P9.3: every mask clears its bits of every set, and clears nothing else.
func TestAck(t *testing.T) {
	b, m := made(t, 8), make(model, 8)
	for core := range 8 {
		both(t, b, m, core, letter{7 - core, 3})
	}
	for set := range 256 {
		for mask := range 256 {
			b.Reset(6)
			m.reset(6)
			for i := range 8 {
				if set>>i&1 == 1 {
					both(t, b, m, 6, letter{i, 10 + i})
				}
			}
			for range 2 {
				ack(t, b, 6, mask)
				m.ack(6, mask)
				pending(t, b, 6, set-set&mask)
				pending(t, b, 5, 4)
				pending(t, b, 7, 1)
			}
			if n := b.Waits(6); n != len(m[6].queue) {
				t.Fatalf("Waits = %d after an acknowledgement, want %d", n, len(m[6].queue))
			}
		}
		expect(t, b, m)
	}
}

// P9.3: bits are acknowledged one by one, in several orders, and can be set again.
func TestAckOneByOne(t *testing.T) {
	for step := 1; step < 8; step += 2 {
		b, m := made(t, 8), make(model, 8)
		both(t, b, m, 0, []letter{{0, 1}, {1, 2}, {2, 3}, {3, 4}, {4, 5}, {5, 6}, {6, 7}, {7, 8}}...)
		for i := range 8 {
			bit := 1 << (i * step % 8)
			ack(t, b, 0, bit)
			m.ack(0, bit)
			expect(t, b, m)
		}
		pending(t, b, 0, 0)
		both(t, b, m, 0, letter{4, 9})
		pending(t, b, 0, 16)
		expect(t, b, m)
	}
}

// P9.3: masks with other bits than those of cores, none, negative ones and very large ones.
func TestAckOfAnyMask(t *testing.T) {
	sets := map[int]int{
		0: 255, 256: 255, 512: 255, 65536: 255, 1 << 32: 255, math.MinInt: 255, -256: 255, -1 << 32: 255,
		-1: 0, -2: 1, -3: 2, -4: 3, -128: 127, -129: 128, -255: 254, -254: 253, math.MinInt + 1: 254,
		math.MaxInt: 0, math.MaxInt - 1: 1, 255: 0, 256 + 255: 0, 65535: 0, 65534: 1, 1<<32 + 1: 254, 256 + 3: 252, 1<<40 - 1: 0, 1<<62 + 128: 127,
	}
	for mask, want := range sets {
		b, m := made(t, 8), make(model, 8)
		both(t, b, m, 2, []letter{{0, 1}, {1, 2}, {2, 3}, {3, 4}, {4, 5}, {5, 6}, {6, 7}, {7, 8}}...)
		for range 2 {
			ack(t, b, 2, mask)
			m.ack(2, mask)
			pending(t, b, 2, want)
			expect(t, b, m)
		}
		// A bit that was never set stays cleared, whatever the mask.
		ack(t, b, 3, mask)
		pending(t, b, 3, 0)
		expect(t, b, m)
	}
}

// P9.3: Take removes words, one by one, and leaves the bits.
func TestTake(t *testing.T) {
	for n := range 17 {
		for core := range 3 {
			b, m := made(t, 3), make(model, 3)
			for to := range 3 {
				both(t, b, m, to, some(5+to, 3)...)
			}
			reset(t, b, core, 5+core)
			m.reset(core)
			both(t, b, m, core, some(n, 3)...)
			for range n {
				first, _ := m.take(core)
				take(t, b, core, first)
				expect(t, b, m)
			}
			for range 3 {
				dry(t, b, core)
				expect(t, b, m)
			}
		}
	}
}

// P9.3: a mailbox is filled and emptied again many times over, wholly and in parts.
func TestFillAndEmpty(t *testing.T) {
	b, m := made(t, 3), make(model, 3)
	for round := range 60 {
		n := round%16 + 1
		for _, part := range []int{16, n} {
			for i := len(m[1].queue); i < part; i++ {
				both(t, b, m, 1, letter{(round + i) % 3, round*100 + i})
			}
			expect(t, b, m)
			for range part - part/3 {
				first, _ := m.take(1)
				take(t, b, 1, first)
			}
			expect(t, b, m)
		}
		empties(t, b, m)
		m[1].queue = nil
	}
}

// P9.3: Waits tells each number of words, and nothing for a core that does not exist.
func TestWaits(t *testing.T) {
	b := made(t, 2)
	for n := 1; n <= 16; n++ {
		ring(t, b, 1, letter{0, n})
		if b.Waits(1) != n || b.Waits(0) != 0 {
			t.Fatal(n, b.Waits(1), b.Waits(0))
		}
	}
	if e := b.Ring(0, 1, 17); e != api.ErrFull || b.Waits(1) != 16 {
		t.Fatal(e, b.Waits(1))
	}
	for n := 15; n >= 0; n-- {
		take(t, b, 1, letter{0, 16 - n})
		if b.Waits(1) != n || b.Waits(0) != 0 {
			t.Fatal(n, b.Waits(1), b.Waits(0))
		}
	}
}

// P9.3, P9.4: cores that do not exist; the calls leave no trace.
func TestNoCore(t *testing.T) {
	for cores := 1; cores <= 8; cores++ {
		b, m := filled(t, cores)
		for _, core := range outside(cores) {
			if bits, e := b.Pending(core); bits != 0 || e != api.ErrCore {
				t.Errorf("Pending(%d) with %d cores = %d, %d", core, cores, bits, e)
			}
			for _, mask := range []int{0, 1, -1, math.MaxInt} {
				if e := b.Ack(core, mask); e != api.ErrCore {
					t.Errorf("Ack(%d, %d) with %d cores = %d", core, mask, cores, e)
				}
			}
			if from, w, e := b.Take(core); from != 0 || w != 0 || e != api.ErrCore {
				t.Errorf("Take(%d) with %d cores = %d, %d, %d", core, cores, from, w, e)
			}
			if n := b.Waits(core); n != 0 {
				t.Errorf("Waits(%d) with %d cores = %d", core, cores, n)
			}
			if n, e := b.Reset(core); n != 0 || e != api.ErrCore {
				t.Errorf("Reset(%d) with %d cores = %d, %d", core, cores, n, e)
			}
		}
		expect(t, b, m)
		empties(t, b, m)
	}
}

// P9.4: every number of words and every core; what the core has sent to others, and all else of theirs, remains.
func TestReset(t *testing.T) {
	for n := range 17 {
		for core := range 3 {
			b, m := made(t, 3), make(model, 3)
			for to := range 3 {
				both(t, b, m, to, letter{core, 50 + to}, letter{(core + 1) % 3, 60 + to}, letter{core, 70 + to})
			}
			reset(t, b, core, 3)
			m.reset(core)
			both(t, b, m, core, some(n, 3)...)
			reset(t, b, core, n)
			m.reset(core)
			expect(t, b, m)
			dry(t, b, core)
			pending(t, b, core, 0)
			reset(t, b, core, 0)
			expect(t, b, m)
			both(t, b, m, core, some(16, 3)...)
			if e := b.Ring(1, core, 4); e != api.ErrFull {
				t.Fatalf("Ring at a full queue after Reset = %d", e)
			}
			m.ring(1, core, 4)
			expect(t, b, m)
			empties(t, b, m)
		}
	}
}

// P9.4: a mailbox of which only bits remain, and one of which only words remain, are reset too.
func TestResetOfPart(t *testing.T) {
	b := made(t, 2)
	ring(t, b, 1, letter{0, 7}, letter{1, 8})
	take(t, b, 1, letter{0, 7}, letter{1, 8})
	pending(t, b, 1, 3)
	reset(t, b, 1, 0)
	expect(t, b, make(model, 2))
	ring(t, b, 1, letter{0, 7}, letter{1, 8})
	ack(t, b, 1, 3)
	reset(t, b, 1, 2)
	expect(t, b, make(model, 2))
}

// P9.4: a clone has everything that its original has.
func TestClone(t *testing.T) {
	for cores := 1; cores <= 8; cores++ {
		b, m := filled(t, cores)
		c := b.Clone()
		if c == nil || c == b {
			t.Fatal("the clone is nil or the box itself")
		}
		expect(t, c, m)
		empties(t, c, m)
		expect(t, b, m)
		empties(t, b, m)
	}
}

// P9.4: neither a clone nor its original nor a clone's clone sees calls on another one.
func TestCloneIsIndependent(t *testing.T) {
	change := []func(b *mbox.Box, core int){
		func(b *mbox.Box, core int) { b.Ring(1, core, 12345) },
		func(b *mbox.Box, core int) { b.Take(core) },
		func(b *mbox.Box, core int) { b.Ack(core, -1) },
		func(b *mbox.Box, core int) { b.Reset(core) },
		func(b *mbox.Box, core int) {
			for i := range 20 {
				b.Take(core)
				b.Ring(i%3, core, 1000+i)
			}
		},
	}
	for _, call := range change {
		for core := range 3 {
			for shift := range 3 {
				b, m := filled(t, 3)
				for range shift {
					first, e := m.take(core)
					if e == api.OK {
						take(t, b, core, first)
					}
				}
				c := b.Clone()
				d := c.Clone()
				call(b, core)
				expect(t, c, m)
				expect(t, d, m)
				e := d.Clone()
				call(c, core)
				expect(t, d, m)
				expect(t, e, m)
				call(e, core)
				expect(t, d, m)
				empties(t, d, m)
			}
		}
	}
}

// state is a box with its model.
type state struct {
	box   *mbox.Box
	model model
}

// states returns boxes that differ a little: in the number of cores, in one bit, in the senders, the words, their order or their number.
func states(t *testing.T) []state {
	t.Helper()
	var list []state
	add := func(cores, core, mask, taken int, letters ...letter) {
		s := state{made(t, cores), make(model, cores)}
		both(t, s.box, s.model, core, letters...)
		ack(t, s.box, core, mask)
		s.model.ack(core, mask)
		for range taken {
			first, _ := s.model.take(core)
			take(t, s.box, core, first)
		}
		list = append(list, s)
	}
	for cores := 1; cores <= 8; cores++ {
		add(cores, 0, 0, 0)
		add(cores, cores-1, 0, 0, letter{0, 0})
		add(cores, cores-1, 0, 1, letter{0, 0})
		add(cores, cores-1, 1, 0, letter{0, 0})
	}
	for core := range 2 {
		for mask := range 4 {
			add(2, core, mask, 0, letter{0, 5}, letter{1, 6})
			add(2, core, mask, 0, letter{1, 5}, letter{0, 6})
			add(2, core, mask, 0, letter{1, 6}, letter{0, 5})
			add(2, core, mask, 0, letter{0, 6}, letter{1, 5})
			add(2, core, mask, 0, letter{0, 5}, letter{1, 6}, letter{1, 6})
			add(2, core, mask, 0, letter{0, 5}, letter{0, 5}, letter{1, 6})
			add(2, core, mask, 0, letter{0, 5}, letter{1, 6}, letter{0, 0})
			add(2, core, mask, 1, letter{1, 9}, letter{0, 5}, letter{1, 6})
			add(2, core, mask, 2, letter{1, 9}, letter{0, 9}, letter{0, 5}, letter{1, 6})
			add(2, core, mask, 2, letter{0, 5}, letter{1, 6})
			add(2, core, mask, 0, slices.Repeat([]letter{{1, 65535}, {0, 65535}}, 8)...)
			add(2, core, mask, 0, slices.Repeat([]letter{{0, 65535}, {1, 65535}}, 8)...)
			add(2, core, mask, 0, slices.Repeat([]letter{{1, 65535}, {0, 65535}}, 9)...)
			add(2, core, mask, 2, slices.Repeat([]letter{{1, 65535}, {0, 65535}}, 9)...)
		}
	}
	return list
}

// P9.4: every two boxes are the same if their numbers of cores, bits and queues are, whatever has happened to them before.
func TestSame(t *testing.T) {
	list := states(t)
	equal := 0
	for i, a := range list {
		for j, b := range list {
			want := a.model.same(b.model)
			if got := mbox.Same(a.box, b.box); got != want {
				t.Errorf("Same of %v and %v = %v", a.model, b.model, got)
			}
			if want && i != j {
				equal++
			}
		}
	}
	if equal == 0 {
		t.Error("no two boxes are the same")
	}
	for _, s := range list {
		expect(t, s.box, s.model)
	}
}

// P9.4: a box is the same as itself and as its clone, until one of them changes.
func TestSameOfClone(t *testing.T) {
	for cores := 1; cores <= 8; cores++ {
		for core := range cores {
			b, _ := filled(t, cores)
			b.Reset(core)
			b.Ring(core, core, 1)
			c := b.Clone()
			if !mbox.Same(b, b) || !mbox.Same(b, c) || !mbox.Same(c, b) {
				t.Fatal("a clone is not the same")
			}
			c.Take(core)
			if mbox.Same(b, c) || mbox.Same(c, b) {
				t.Fatal("a box without a word is the same")
			}
			c.Ring(core, core, 1)
			if !mbox.Same(b, c) {
				t.Fatal("a box with the word again is not the same")
			}
			c.Ack(core, 1<<core)
			if mbox.Same(b, c) || mbox.Same(c, b) {
				t.Fatal("a box without a bit is the same")
			}
			b.Ack(core, -1)
			if !mbox.Same(b, c) {
				t.Fatal("boxes without the bit are not the same")
			}
		}
	}
}

// A nil Box.
func TestNil(t *testing.T) {
	var b *mbox.Box
	for _, x := range slices.Concat(far, []int{0, 1, 7, 8}) {
		for _, y := range []int{-1, 0, 1, 8, 65535, 65536, math.MinInt, math.MaxInt} {
			if e := b.Ring(x, y, 0); e != api.ErrNone {
				t.Errorf("Ring(%d, %d, 0) = %d", x, y, e)
			}
			if e := b.Ring(0, x, y); e != api.ErrNone {
				t.Errorf("Ring(0, %d, %d) = %d", x, y, e)
			}
			if e := b.Ack(x, y); e != api.ErrNone {
				t.Errorf("Ack(%d, %d) = %d", x, y, e)
			}
		}
		if bits, e := b.Pending(x); bits != 0 || e != api.ErrNone {
			t.Errorf("Pending(%d) = %d, %d", x, bits, e)
		}
		if from, w, e := b.Take(x); from != 0 || w != 0 || e != api.ErrNone {
			t.Errorf("Take(%d) = %d, %d, %d", x, from, w, e)
		}
		if n := b.Waits(x); n != 0 {
			t.Errorf("Waits(%d) = %d", x, n)
		}
		if n, e := b.Reset(x); n != 0 || e != api.ErrNone {
			t.Errorf("Reset(%d) = %d, %d", x, n, e)
		}
	}
	if b.Clone() != nil {
		t.Error("the clone of a nil Box is not nil")
	}
	if !mbox.Same(nil, nil) || !mbox.Same(b, b.Clone()) {
		t.Error("two nil boxes are not the same")
	}
	for cores := 1; cores <= 8; cores++ {
		if c := made(t, cores); mbox.Same(nil, c) || mbox.Same(c, nil) {
			t.Error("a nil Box is the same as one with cores:", cores)
		}
	}
}

// call makes one of nine calls on b and on the model, and returns the box to go on with.
func call(t *testing.T, b *mbox.Box, m model, which, from, to, x int) *mbox.Box {
	t.Helper()
	switch which {
	case 0, 1, 2:
		both(t, b, m, to, letter{from, x % 65536})
	case 3, 4:
		first, want := m.take(to)
		if s, w, e := b.Take(to); s != first.from || w != first.word || e != want {
			t.Fatalf("Take(%d) = %d, %d, %d, want %v, %d", to, s, w, e, first, want)
		}
	case 5:
		ack(t, b, to, 1<<from)
		m.ack(to, 1<<from)
	case 6:
		ack(t, b, to, x)
		m.ack(to, x)
	case 7:
		reset(t, b, to, m.reset(to))
	case 8:
		c := b.Clone()
		if !mbox.Same(b, c) {
			t.Fatal("a clone is not the same")
		}
		b = c
	}
	return b
}

// P9.2 to P9.5: all sequences of five calls of two cores.
func TestAllSequences(t *testing.T) {
	type choice struct{ which, from, to, x int }
	choices := []choice{{0, 0, 1, 11}, {0, 1, 1, 65535}, {0, 1, 0, 0}, {3, 0, 1, 0}, {3, 0, 0, 0}, {5, 0, 1, 0}, {6, 0, 1, -2}, {7, 0, 1, 0}, {7, 0, 0, 0}, {8, 0, 0, 0}}
	for code := range 100000 {
		b, m := made(t, 2), make(model, 2)
		for range 5 {
			c := choices[code%10]
			b = call(t, b, m, c.which, c.from, c.to, c.x)
			code /= 10
		}
		expect(t, b, m)
	}
}

// drawer returns a function that returns numbers in 0 to n-1, of a sequence that depends on the seed.
func drawer(seed uint32) func(n int) int {
	return func(n int) int {
		seed = seed*1664525 + 1013904223
		return int(seed>>8) % n
	}
}

// P9.2 to P9.5: long sequences of all calls, in which queues become full and empty in turn.
func TestLongSequences(t *testing.T) {
	for cores := 1; cores <= 8; cores++ {
		draw := drawer(uint32(cores))
		b, m := made(t, cores), make(model, cores)
		full, empty := 0, 0
		for i := range 12000 {
			which := 3 * (i / (cores * 40) % 2)
			if draw(4) == 0 {
				which = draw(9)
			}
			from, to := draw(cores), draw(cores)
			if which == 7 && draw(8) > 0 {
				which = 5
			}
			switch len(m[to].queue) {
			case 0:
				empty++
			case 16:
				full++
			}
			b = call(t, b, m, which, from, to, draw(65536))
			if i%16 == 0 {
				expect(t, b, m)
			}
		}
		if full < 200 || empty < 200 {
			t.Errorf("with %d cores a queue was full %d times and empty %d times", cores, full, empty)
		}
	}
}

// P9.5: a bit remains set until it is acknowledged or its core is reset, whatever else happens.
func TestBitsRemain(t *testing.T) {
	for from := range 8 {
		for to := range 8 {
			b, m := made(t, 8), make(model, 8)
			draw := drawer(uint32(8*from + to))
			both(t, b, m, to, letter{from, 1})
			for range 300 {
				which, core := draw(9), draw(8)
				switch {
				case core == to && (which == 5 || which == 6):
					ack(t, b, to, ^(1 << from))
					m.ack(to, ^(1 << from))
				case core == to && which == 7:
					reset(t, b, (to+1)%8, m.reset((to+1)%8))
				default:
					b = call(t, b, m, which, draw(8), core, draw(65536))
				}
				if bits, e := b.Pending(to); bits>>from&1 != 1 || e != api.OK {
					t.Fatalf("Pending(%d) = %d, %d without the bit of core %d", to, bits, e, from)
				}
			}
			if from%2 == 0 {
				ack(t, b, to, 1<<from)
			} else {
				b.Reset(to)
			}
			if bits, _ := b.Pending(to); bits>>from&1 != 0 {
				t.Fatalf("Pending(%d) = %d still with the bit of core %d", to, bits, from)
			}
		}
	}
}

// P9.5: the words that were taken and those that are left are the words that were sent with OK, in their order, each once.
func TestWordsInOrder(t *testing.T) {
	for cores := 1; cores <= 8; cores++ {
		draw := drawer(uint32(100 + cores))
		b := made(t, cores)
		sent, taken := make([][]letter, cores), make([][]letter, cores)
		for i := range 20000 {
			core := draw(cores)
			if draw(4) < i/2000%2*2+1 {
				l := letter{draw(cores), i}
				if e := b.Ring(l.from, core, l.word); e == api.OK {
					sent[core] = append(sent[core], l)
				} else if e != api.ErrFull || b.Waits(core) != 16 {
					t.Fatalf("Ring = %d with %d words", e, b.Waits(core))
				}
			} else if from, w, e := b.Take(core); e == api.OK {
				taken[core] = append(taken[core], letter{from, w})
			} else if e != api.ErrEmpty || b.Waits(core) != 0 {
				t.Fatalf("Take = %d with %d words", e, b.Waits(core))
			}
			if b.Waits(core) != len(sent[core])-len(taken[core]) {
				t.Fatalf("Waits(%d) = %d after %d words sent and %d taken", core, b.Waits(core), len(sent[core]), len(taken[core]))
			}
		}
		for core := range cores {
			for b.Waits(core) > 0 {
				from, w, _ := b.Take(core)
				taken[core] = append(taken[core], letter{from, w})
			}
			if !slices.Equal(taken[core], sent[core]) || len(taken[core]) < 500 {
				t.Errorf("with %d cores, the %d words that core %d took are not the %d that were sent", cores, len(taken[core]), core, len(sent[core]))
			}
		}
	}
}

// P1: all calls with all numbers.
func TestNoPanic(t *testing.T) {
	numbers := slices.Concat(far, noWords, []int{0, 1, 2, 8, 65535})
	for _, cores := range slices.Concat(far, []int{0, 1, 2, 8, 9}) {
		b := mbox.New(cores)
		for _, x := range numbers {
			for _, y := range numbers {
				b.Ring(x, y, 7)
				b.Ring(0, x, y)
				b.Ring(x, 0, y)
				b.Ack(x, y)
			}
			b.Pending(x)
			b.Take(x)
			b.Waits(x)
			mbox.Same(b, b.Clone())
			b.Reset(x)
		}
	}
}
