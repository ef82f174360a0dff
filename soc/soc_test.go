package soc_test

import (
	"math"
	"slices"
	"testing"

	"switchyard/api"
	"switchyard/litmus"
	"switchyard/site"
	"switchyard/soc"
	"switchyard/sram"
)

// small is a plan with two of everything that there may be several of, and four words.
var small = site.Plan{Cores: 2, Words: 4, Locks: 2}

// fill makes n stores of a core, at the addresses 0 to 3, several at one address.
func fill(t *testing.T, s *soc.Soc, m *model, core, n int) {
	t.Helper()
	for i := range n {
		both(t, s, m, call{"write", core, []int{1, 1, 0, 3, 1, 2}[i%6], (1000*core + i + 1) % 65536})
	}
}

// ring rings at a core from a core, so many times.
func ring(t *testing.T, s *soc.Soc, m *model, from, to, n int) {
	t.Helper()
	for i := range n {
		both(t, s, m, call{"write", from, mail(to, 2), 100*from + i + 1})
	}
}

// scene is a soc with its model.
type scene struct {
	s *soc.Soc
	m *model
}

// scenes returns socs with one plan in several states: new; with pending stores; with locks, bits, words and full buffers; with full mailboxes; and with held cores.
func scenes(t *testing.T, p site.Plan, buf int) []scene {
	t.Helper()
	var list []scene
	for kind := range 6 {
		s, m := pair(t, p, buf)
		for core := range p.Cores {
			switch kind {
			case 1:
				fill(t, s, m, core, max(1, buf-1))
			case 2:
				ring(t, s, m, core, (core+1)%p.Cores, 3)
				both(t, s, m, call{"read", core, lock(core), 0})
				fill(t, s, m, core, buf+2)
			case 3:
				ring(t, s, m, core, core, 15+core%3)
				both(t, s, m, call{"read", 0, lock(core), 0})
				fill(t, s, m, core, 1+core%buf)
			case 4, 5:
				both(t, s, m, call{"read", core, lock(core), 0})
				both(t, s, m, call{"hold", core, 0, 0}, call{"start", core, 0, 0})
				both(t, s, m, call{"read", core, lock(core), 0})
			}
		}
		for core := range p.Cores {
			if kind >= 4 && core%2 == kind-4 {
				both(t, s, m, call{"hold", core, 0, 0})
			}
		}
		for core := range p.Cores {
			if kind >= 4 && core%2 != kind-4 {
				ring(t, s, m, core, (core+1)%p.Cores, 2)
				fill(t, s, m, core, buf)
			}
		}
		expectAll(t, s, m)
		list = append(list, scene{s, m})
	}
	return list
}

// The example of the chapter.
func TestExample(t *testing.T) {
	s := made(t, small, 4)
	reads(t, s, 0, site.LockBase, 1)
	reads(t, s, 1, site.LockBase, 0)
	owner(t, s, 0, 0)
	holds(t, s, 0)
	owner(t, s, 0, -1)
}

// P12.1: every number of cores and of locks and every capacity, with a small memory.
func TestNew(t *testing.T) {
	if api.MaxCores != 8 || api.MaxWords != 65536 || api.MaxBuf != 16 || api.MaxLocks != 16 || api.MaxMail != 16 {
		t.Fatal(api.MaxCores, api.MaxWords, api.MaxBuf, api.MaxLocks, api.MaxMail)
	}
	for cores := 1; cores <= 8; cores++ {
		for locks := 1; locks <= 16; locks++ {
			for buf := 1; buf <= 16; buf++ {
				s, m := pair(t, site.Plan{Cores: cores, Words: 1 + buf%3, Locks: locks}, buf)
				expectAll(t, s, m)
			}
		}
	}
}

// P12.1: memories of many sizes, the greatest one among them, whose first and last words and whose neighbours behave as they must.
func TestNewOfManySizes(t *testing.T) {
	for _, size := range []int{1, 2, 255, 256, 257, 32768, 65535, 65536} {
		for _, cores := range []int{1, 8} {
			s, m := pair(t, site.Plan{Cores: cores, Words: size, Locks: 17 - 2*cores}, 16)
			expectAll(t, s, m)
			for _, a := range []int{-1, 0, size / 2, size - 1, size, size + 1} {
				for _, w := range []int{65535, a & 65535} {
					for _, core := range []int{0, cores - 1} {
						both(t, s, m, call{"write", core, a, w}, call{"read", core, a, 0}, call{"read", cores - 1 - core, a, 0}, call{"drain", core, 0, 0}, call{"swap", core, a, w / 2})
					}
				}
			}
			expect(t, s, m)
		}
	}
}

// P12.1: the capacity of every core's buffer is buf: one more store drains the oldest.
func TestCapacityOfEachCore(t *testing.T) {
	for buf := 1; buf <= 16; buf++ {
		s, m := pair(t, site.Plan{Cores: 8, Words: 4, Locks: 1}, buf)
		for core := range 8 {
			fill(t, s, m, core, buf)
			if n := len(s.Waits(core)); n != buf {
				t.Fatalf("%d of %d stores are pending", n, buf)
			}
		}
		memory(t, s, 0, 0, 0, 0)
		for core := range 8 {
			writes(t, s, core, 2, 7)
			if n := len(s.Waits(core)); n != buf {
				t.Fatalf("%d stores are pending at the capacity %d", n, buf)
			}
			memory(t, s, 0, 1000*core+1, 0, 0)
		}
	}
}

// P12.1: plans that are not valid and capacities that are none, alone and together.
func TestNewOfNoSoc(t *testing.T) {
	none := func(p site.Plan, buf int) {
		t.Helper()
		if s, e := soc.New(p, buf); s != nil || e != api.ErrArg {
			t.Errorf("New(%v, %d) = %v, %d", p, buf, s, e)
		}
	}
	cores := append([]int{0, 9, 10, 256 + 2, 65536}, far...)
	// 65536 is no core, but a size.
	sizes := append([]int{0, 65537, 65538, 65536 + 256}, far...)
	locks := append([]int{0, 17, 18, 256 + 2, 65536}, far...)
	bufs := append([]int{0, 17, 18, 32, 256 + 2, 65536, 65537}, far...)
	for _, buf := range []int{1, 2, 16, 0, 17} {
		for _, n := range cores {
			none(site.Plan{Cores: n, Words: 4, Locks: 2}, buf)
		}
		for _, n := range sizes {
			none(site.Plan{Cores: 2, Words: n, Locks: 2}, buf)
		}
		for _, n := range locks {
			none(site.Plan{Cores: 2, Words: 4, Locks: n}, buf)
		}
		none(site.Plan{}, buf)
		none(site.Plan{Cores: 9, Words: 65537, Locks: 17}, buf)
	}
	for _, buf := range bufs {
		none(small, buf)
		none(site.Plan{Cores: 1, Words: 1, Locks: 1}, buf)
		none(site.Plan{Cores: 8, Words: 65536, Locks: 16}, buf)
		none(site.Plan{Cores: 0, Words: 4, Locks: 2}, buf)
	}
}

// P12.1: two socs share nothing.
func TestNewIsNew(t *testing.T) {
	for _, x := range scenes(t, small, 3) {
		s, m := pair(t, small, 3)
		expectAll(t, s, m)
		for core := range 2 {
			ring(t, s, m, core, 1-core, 3)
			both(t, s, m, call{"read", core, lock(core), 0}, call{"swap", core, core, 9})
			fill(t, s, m, core, 4)
		}
		both(t, s, m, call{"hold", 1, 0, 0})
		expectAll(t, x.s, x.m)
		expectAll(t, s, m)
	}
}

// P12.1: Plan returns what New was given, whatever has happened.
func TestPlan(t *testing.T) {
	for _, p := range []site.Plan{small, {Cores: 1, Words: 4, Locks: 16}, {Cores: 8, Words: 65536, Locks: 1}, {Cores: 3, Words: 5, Locks: 7}} {
		for _, x := range scenes(t, p, 2) {
			if x.s.Plan() != p || x.s.Clone().Plan() != p {
				t.Errorf("Plan() = %v, want %v", x.s.Plan(), p)
			}
		}
	}
}

// P12.2: a store is seen by its core at once, and by others when it is drained; no access to the memory drains what there is room for.
func TestMemory(t *testing.T) {
	s := made(t, site.Plan{Cores: 3, Words: 4, Locks: 1}, 3)
	writes(t, s, 0, 3, 9)
	writes(t, s, 0, 1, 65535, 0)
	reads(t, s, 0, 3, 9)
	reads(t, s, 0, 1, 0)
	reads(t, s, 1, 3, 0)
	waits(t, s, 0, store{3, 9}, store{1, 65535}, store{1, 0})
	memory(t, s, 0, 0, 0, 0)
	writes(t, s, 1, 3, 4)
	writes(t, s, 0, 0, 5)
	waits(t, s, 0, store{1, 65535}, store{1, 0}, store{0, 5})
	waits(t, s, 1, store{3, 4})
	memory(t, s, 0, 0, 0, 9)
	reads(t, s, 1, 3, 4)
	reads(t, s, 2, 3, 9)
	gives(t, s, call{"drain", 0, 0, 0}, 1, api.OK)
	reads(t, s, 0, 1, 0)
	reads(t, s, 1, 1, 65535)
}

// P12.2: every word is read as it was written, at the limits of the memory.
func TestWords(t *testing.T) {
	for _, size := range []int{1, 256, 65536} {
		s := made(t, site.Plan{Cores: 2, Words: size, Locks: 1}, 1)
		for _, a := range []int{0, size / 2, size - 1} {
			for _, w := range words {
				writes(t, s, 1, a, w)
				reads(t, s, 1, a, w)
				gives(t, s, call{"fence", 1, 0, 0}, 1, api.OK)
				reads(t, s, 0, a, w)
			}
		}
	}
}

// P12.2: the three registers of each core's own mailbox, with and without words in it.
func TestOwnMailbox(t *testing.T) {
	for core := range 8 {
		s := made(t, site.Plan{Cores: 8, Words: 1, Locks: 1}, 2)
		for range 2 {
			for reg := range 3 {
				reads(t, s, core, mail(core, reg), 0)
			}
		}
		from := (core + 3) % 8
		writes(t, s, from, mail(core, 2), 0, 65535)
		writes(t, s, core, mail(core, 2), 77)
		for range 2 {
			reads(t, s, core, mail(core, 0), 1<<from|1<<core)
			reads(t, s, core, mail(core, 2), 3)
			mailbox(t, s, core, 1<<from|1<<core, 3)
		}
		for left, w := range []int{0, 65535, 77} {
			reads(t, s, core, mail(core, 1), w)
			reads(t, s, core, mail(core, 2), 2-left)
		}
		reads(t, s, core, mail(core, 1), 0)
		reads(t, s, core, mail(core, 0), 1<<from|1<<core)
		mailbox(t, s, core, 1<<from|1<<core, 0)
		mailbox(t, s, from, 0, 0)
	}
}

// P12.2: a core can neither read another core's mailbox nor acknowledge there, and no core can write register 1 of any.
func TestMailboxOfAnother(t *testing.T) {
	for cores := 2; cores <= 8; cores++ {
		s := made(t, site.Plan{Cores: cores, Words: 2, Locks: 1}, 2)
		for to := range cores {
			writes(t, s, (to+1)%cores, mail(to, 2), 5, 6)
		}
		c := s.Clone()
		for core := range cores {
			for to := range cores {
				for _, w := range []int{0, 1, 255, 65535} {
					gives(t, s, call{"write", core, mail(to, 1), w}, 0, api.ErrAddr)
					if to != core {
						gives(t, s, call{"write", core, mail(to, 0), w}, 0, api.ErrAddr)
					}
				}
				for reg := range 3 {
					if to != core {
						gives(t, s, call{"read", core, mail(to, reg), 0}, 0, api.ErrAddr)
					}
				}
				for reg := 3; reg < 16; reg++ {
					gives(t, s, call{"read", core, mail(to, reg), 0}, 0, api.ErrAddr)
					gives(t, s, call{"write", core, mail(to, reg), 1}, 0, api.ErrAddr)
				}
			}
		}
		if !soc.Same(s, c) {
			t.Fatal("a rejected call left a trace")
		}
	}
}

// P12.2: register 2 of every mailbox rings there, also at the core itself and at a core that is held.
func TestRing(t *testing.T) {
	for from := range 8 {
		for to := range 8 {
			for _, held := range []bool{false, true} {
				s := made(t, site.Plan{Cores: 8, Words: 2, Locks: 1}, 1)
				if held && from != to {
					holds(t, s, to)
				}
				writes(t, s, from, mail(to, 2), 65535, 0)
				for core := range 8 {
					if core == to {
						mailbox(t, s, core, 1<<from, 2)
					} else {
						mailbox(t, s, core, 0, 0)
					}
				}
				if held && from != to {
					starts(t, s, to)
				}
				reads(t, s, to, mail(to, 0), 1<<from)
				reads(t, s, to, mail(to, 1), 65535)
				reads(t, s, to, mail(to, 1), 0)
				reads(t, s, to, mail(to, 2), 0)
			}
		}
	}
}

// P12.2: of the bits, just those that are set in the word are acknowledged, and the words of the queue stay.
func TestAcknowledge(t *testing.T) {
	s := made(t, site.Plan{Cores: 8, Words: 2, Locks: 1}, 1)
	for from := range 8 {
		writes(t, s, from, mail(3, 2), from)
		writes(t, s, from, mail(4, 2), from)
	}
	for _, x := range []struct{ w, left int }{{0, 255}, {65280, 255}, {1, 254}, {1, 254}, {65280 + 128 + 8, 118}, {255 - 64, 64}, {65535, 0}, {65535, 0}} {
		writes(t, s, 3, mail(3, 0), x.w)
		reads(t, s, 3, mail(3, 0), x.left)
		mailbox(t, s, 3, x.left, 8)
		mailbox(t, s, 4, 255, 8)
	}
	writes(t, s, 0, mail(3, 2), 9)
	mailbox(t, s, 3, 1, 9)
}

// P12.2: a lock is acquired by reading if it is free, and freed by its owner alone, with any word.
func TestLocks(t *testing.T) {
	for locks := 1; locks <= 16; locks++ {
		s := made(t, site.Plan{Cores: 3, Words: 2, Locks: locks}, 1)
		for i := range locks {
			for _, w := range words {
				for core := range 3 {
					gives(t, s, call{"write", core, lock(i), w}, 0, api.ErrLock)
				}
				owner(t, s, i, -1)
				reads(t, s, 1, lock(i), 1)
				owner(t, s, i, 1)
				for core := range 3 {
					reads(t, s, core, lock(i), 0)
				}
				gives(t, s, call{"write", 0, lock(i), w}, 0, api.ErrLock)
				gives(t, s, call{"write", 2, lock(i), w}, 0, api.ErrLock)
				owner(t, s, i, 1)
				writes(t, s, 1, lock(i), w)
			}
			reads(t, s, i%3, lock(i), 1)
		}
		for i := range locks {
			owner(t, s, i, i%3)
		}
	}
}

// P12.2: every core reads the epoch of every core, also of one that is held, and writes none.
func TestEpochs(t *testing.T) {
	for cores := 1; cores <= 8; cores++ {
		s := made(t, site.Plan{Cores: cores, Words: 2, Locks: 1}, 1)
		for core := range cores {
			for range core + 1 {
				holds(t, s, core)
				starts(t, s, core)
			}
		}
		for core := range cores {
			for of := range cores {
				reads(t, s, core, counter(of), of+1)
				for _, w := range words {
					gives(t, s, call{"write", core, counter(of), w}, 0, api.ErrAddr)
				}
			}
		}
		for of := 1; of < cores; of++ {
			holds(t, s, of)
			reads(t, s, 0, counter(of), of+1)
			starts(t, s, of)
			reads(t, s, 0, counter(of), of+2)
			reads(t, s, of, counter(of), of+2)
		}
	}
}

// untouched makes calls on s that must be rejected with this error and leave no trace.
func untouched(t *testing.T, s *soc.Soc, want api.Errno, list ...call) {
	t.Helper()
	c := s.Clone()
	for _, x := range list {
		gives(t, s, x, 0, want)
		if !soc.Same(s, c) {
			t.Fatalf("%v left a trace", x)
		}
	}
}

// P12.2, P12.3: calls that are rejected for several reasons at once return the first one.
func TestOrderOfErrors(t *testing.T) {
	s := made(t, site.Plan{Cores: 3, Words: 4, Locks: 2}, 2)
	reads(t, s, 2, lock(1), 1)
	holds(t, s, 1)
	writes(t, s, 0, 1, 5)
	writes(t, s, 2, 1, 6)
	places := []int{0, 3, 4, 65535, mail(0, 0), mail(0, 1), mail(1, 2), mail(2, 0), mail(2, 3), mail(3, 0), lock(0), lock(1), lock(2), counter(0), counter(3), -1, math.MinInt, math.MaxInt}
	for _, addr := range places {
		for _, w := range slices.Concat(words[:2], noWords) {
			for _, core := range noCores(3) {
				untouched(t, s, api.ErrCore, call{"read", core, addr, 0}, call{"write", core, addr, w}, call{"swap", core, addr, w}, call{"fence", core, 0, 0}, call{"drain", core, 0, 0}, call{"hold", core, 0, 0}, call{"start", core, 0, 0})
			}
			untouched(t, s, api.ErrOff, call{"read", 1, addr, 0}, call{"write", 1, addr, w}, call{"swap", 1, addr, w}, call{"fence", 1, 0, 0})
		}
	}
	for _, w := range slices.Concat(words[:2], noWords) {
		for _, addr := range []int{4, 65535, mail(0, 3), mail(2, 15), mail(3, 0), lock(2), counter(3), -1, math.MinInt, math.MaxInt} {
			untouched(t, s, api.ErrAddr, call{"read", 0, addr, 0}, call{"write", 0, addr, w}, call{"swap", 0, addr, w})
		}
		for _, addr := range []int{mail(1, 0), mail(2, 0), mail(0, 1), mail(1, 1), mail(2, 1), counter(0), counter(1), counter(2)} {
			untouched(t, s, api.ErrAddr, call{"write", 0, addr, w}, call{"swap", 0, addr, w})
		}
		for _, addr := range []int{mail(0, 0), mail(0, 2), mail(1, 2), lock(0), lock(1)} {
			untouched(t, s, api.ErrAddr, call{"swap", 0, addr, w}, call{"swap", 2, addr, w})
		}
	}
	for _, w := range noWords {
		for _, addr := range []int{0, 1, 3, mail(0, 0), mail(0, 2), mail(1, 2), mail(2, 2), lock(0), lock(1)} {
			untouched(t, s, api.ErrArg, call{"write", 0, addr, w})
		}
		untouched(t, s, api.ErrArg, call{"write", 2, lock(1), w}, call{"swap", 0, 0, w}, call{"swap", 2, 3, w})
	}
	for _, w := range words {
		untouched(t, s, api.ErrLock, call{"write", 0, lock(0), w}, call{"write", 0, lock(1), w}, call{"write", 2, lock(0), w})
	}
	waits(t, s, 0, store{1, 5})
	waits(t, s, 2, store{1, 6})
}

// P12.2: a word for a mailbox that is full is ErrFull only if nothing else is wrong.
func TestFullIsTheLastError(t *testing.T) {
	s := made(t, small, 2)
	for w := range 16 {
		writes(t, s, 0, mail(1, 2), w)
	}
	writes(t, s, 0, 1, 5)
	for _, w := range noWords {
		untouched(t, s, api.ErrArg, call{"write", 0, mail(1, 2), w}, call{"write", 1, mail(1, 2), w})
	}
	untouched(t, s, api.ErrCore, call{"write", 2, mail(1, 2), 0}, call{"write", -1, mail(1, 2), 0})
	holds(t, s, 0)
	untouched(t, s, api.ErrOff, call{"write", 0, mail(1, 2), 0}, call{"write", 0, mail(1, 2), -1})
	gives(t, s, call{"write", 1, mail(1, 2), 0}, 0, api.ErrFull)
}

// P12.2: before each spot that is not memory is read or written, all pending stores of the core are drained, and only those of this core.
func TestDrainedBefore(t *testing.T) {
	accesses := []call{
		{"read", 0, mail(0, 0), 0}, {"read", 0, mail(0, 1), 0}, {"read", 0, mail(0, 2), 0},
		{"read", 0, lock(0), 0}, {"read", 0, lock(1), 0}, {"read", 0, lock(2), 0},
		{"read", 0, counter(0), 0}, {"read", 0, counter(1), 0}, {"read", 0, counter(2), 0},
		{"write", 0, mail(0, 0), 0}, {"write", 0, mail(0, 0), 65535},
		{"write", 0, mail(0, 2), 1}, {"write", 0, mail(1, 2), 1}, {"write", 0, mail(2, 2), 1},
		{"write", 0, lock(1), 0}, {"write", 0, lock(1), 65535},
	}
	for buf := 1; buf <= 16; buf++ {
		for n := 1; n <= buf; n++ {
			s, m := pair(t, site.Plan{Cores: 3, Words: 4, Locks: 3}, buf)
			both(t, s, m, call{"read", 0, lock(1), 0}, call{"read", 1, lock(2), 0}, call{"hold", 2, 0, 0})
			fill(t, s, m, 0, n)
			fill(t, s, m, 1, n)
			for _, x := range accesses {
				c, k := s.Clone(), m.clone()
				both(t, c, k, x)
				waits(t, c, 0)
				if !slices.Equal(c.Waits(1), s.Waits(1)) || len(c.Waits(1)) != n {
					t.Fatalf("%v drained a store of another core", x)
				}
				expectAll(t, c, k)
			}
		}
	}
}

// P12.2: the stores are drained before the spot is read or written, so that a core that is rung, or that acquires a lock next, sees them.
func TestMessages(t *testing.T) {
	s := made(t, small, 4)
	writes(t, s, 0, 0, 10, 11)
	writes(t, s, 0, mail(1, 2), 1)
	reads(t, s, 1, mail(1, 0), 1)
	reads(t, s, 1, 0, 11)
	reads(t, s, 1, lock(1), 1)
	writes(t, s, 1, 0, 20, 21)
	reads(t, s, 0, lock(1), 0)
	reads(t, s, 0, 0, 11)
	writes(t, s, 1, lock(1), 0)
	reads(t, s, 0, lock(1), 1)
	reads(t, s, 0, 0, 21)
}

// P12.2, P12.3: no rejected call drains anything, at full buffers and at others.
func TestRejectedDrainsNothing(t *testing.T) {
	for _, buf := range []int{1, 2, 16} {
		for n := 1; n <= buf; n++ {
			s, m := pair(t, site.Plan{Cores: 3, Words: 4, Locks: 2}, buf)
			both(t, s, m, call{"read", 1, lock(1), 0}, call{"write", 1, mail(0, 2), 3}, call{"hold", 2, 0, 0})
			fill(t, s, m, 0, n)
			fill(t, s, m, 1, n)
			for _, addr := range []int{-1, 4, 65535, mail(1, 0), mail(1, 1), mail(2, 0), mail(0, 3), mail(3, 0), lock(2), counter(3)} {
				untouched(t, s, api.ErrAddr, call{"read", 0, addr, 0}, call{"write", 0, addr, 1}, call{"swap", 0, addr, 1})
			}
			for _, addr := range []int{mail(0, 1), counter(0), counter(1)} {
				untouched(t, s, api.ErrAddr, call{"write", 0, addr, 1})
			}
			for _, addr := range []int{mail(0, 0), mail(0, 2), lock(0), lock(1), counter(0)} {
				untouched(t, s, api.ErrAddr, call{"swap", 0, addr, 1})
			}
			for _, addr := range []int{0, mail(0, 0), mail(0, 2), mail(1, 2), lock(0), lock(1)} {
				untouched(t, s, api.ErrArg, call{"write", 0, addr, -1}, call{"write", 0, addr, 65536})
			}
			untouched(t, s, api.ErrArg, call{"swap", 0, 0, -1}, call{"swap", 0, 0, 65536}, call{"write", 1, lock(1), -1})
			untouched(t, s, api.ErrLock, call{"write", 0, lock(0), 0}, call{"write", 0, lock(1), 1})
			untouched(t, s, api.ErrBusy, call{"hold", 2, 0, 0})
			untouched(t, s, api.ErrIdle, call{"start", 0, 0, 0})
			waitsAsMany(t, s, 0, n)
			waitsAsMany(t, s, 1, n)
			expectAll(t, s, m)
		}
	}
}

// waitsAsMany compares the number of pending stores of a core.
func waitsAsMany(t *testing.T, s *soc.Soc, core, want int) {
	t.Helper()
	if n := len(s.Waits(core)); n != want {
		t.Fatalf("%d stores of core %d are pending, want %d", n, core, want)
	}
}

// P12.2: with a full mailbox everything is done except that the word is not in the queue.
func TestFullMailbox(t *testing.T) {
	for from := range 3 {
		s := made(t, site.Plan{Cores: 3, Words: 4, Locks: 1}, 3)
		for i := range 16 {
			writes(t, s, 1, mail(0, 2), 1000+i)
		}
		writes(t, s, 0, mail(0, 0), 65535)
		mailbox(t, s, 0, 0, 16)
		writes(t, s, from, 2, 7, 8)
		writes(t, s, (from+1)%3, 3, 9)
		for range 2 {
			gives(t, s, call{"write", from, mail(0, 2), 5}, 0, api.ErrFull)
			mailbox(t, s, 0, 1<<from, 16)
			mailbox(t, s, 1, 0, 0)
			mailbox(t, s, 2, 0, 0)
			waits(t, s, from)
			waits(t, s, (from+1)%3, store{3, 9})
			memory(t, s, 0, 0, 8, 0)
		}
		reads(t, s, 0, mail(0, 1), 1000)
		writes(t, s, from, mail(0, 2), 6)
		for i := range 15 {
			reads(t, s, 0, mail(0, 1), 1001+i)
		}
		reads(t, s, 0, mail(0, 1), 6)
		reads(t, s, 0, mail(0, 2), 0)
	}
}

// P12.3: Fence drains all stores of the core, in order, and Drain the oldest one; both leave other cores alone.
func TestFenceAndDrain(t *testing.T) {
	s := made(t, small, 4)
	for core := range 2 {
		gives(t, s, call{"fence", core, 0, 0}, 0, api.OK)
		gives(t, s, call{"drain", core, 0, 0}, 0, api.OK)
	}
	writes(t, s, 0, 1, 5, 6, 7)
	writes(t, s, 1, 2, 8, 9)
	gives(t, s, call{"drain", 0, 0, 0}, 1, api.OK)
	memory(t, s, 0, 5, 0, 0)
	waits(t, s, 0, store{1, 6}, store{1, 7})
	gives(t, s, call{"fence", 0, 0, 0}, 2, api.OK)
	memory(t, s, 0, 7, 0, 0)
	waits(t, s, 0)
	waits(t, s, 1, store{2, 8}, store{2, 9})
	gives(t, s, call{"fence", 0, 0, 0}, 0, api.OK)
	gives(t, s, call{"drain", 0, 0, 0}, 0, api.OK)
	gives(t, s, call{"drain", 1, 0, 0}, 1, api.OK)
	gives(t, s, call{"drain", 1, 0, 0}, 1, api.OK)
	gives(t, s, call{"drain", 1, 0, 0}, 0, api.OK)
	memory(t, s, 0, 7, 9, 0)
}

// P12.3: Swap drains all stores of the core and writes the memory at once; it acts on words only.
func TestSwap(t *testing.T) {
	s := made(t, small, 4)
	writes(t, s, 0, 1, 5, 6)
	writes(t, s, 0, 2, 7)
	writes(t, s, 1, 1, 9)
	gives(t, s, call{"swap", 0, 1, 65535}, 6, api.OK)
	waits(t, s, 0)
	waits(t, s, 1, store{1, 9})
	memory(t, s, 0, 65535, 7, 0)
	gives(t, s, call{"swap", 1, 1, 0}, 9, api.OK)
	memory(t, s, 0, 0, 7, 0)
	gives(t, s, call{"swap", 1, 3, 1}, 0, api.OK)
	for _, addr := range addresses(small) {
		if addr < 0 || addr > 3 {
			for core := range 2 {
				writes(t, s, core, 0, 3)
				untouched(t, s, api.ErrAddr, call{"swap", core, addr, 0}, call{"swap", core, addr, 65535}, call{"swap", core, addr, -1})
			}
		}
	}
}

// P12.3: of a core that is held, Fence and Swap are rejected, and Drain finds nothing.
func TestHeldCore(t *testing.T) {
	for cores := 1; cores <= 8; cores++ {
		for core := range cores {
			s, m := pair(t, site.Plan{Cores: cores, Words: 4, Locks: 2}, 3)
			for other := range cores {
				fill(t, s, m, other, 3)
			}
			both(t, s, m, call{"hold", core, 0, 0})
			untouched(t, s, api.OK, call{"drain", core, 0, 0})
			untouched(t, s, api.ErrOff, call{"fence", core, 0, 0}, call{"swap", core, 0, 1}, call{"swap", core, 4, -1})
			for _, addr := range addresses(m.plan) {
				untouched(t, s, api.ErrOff, call{"read", core, addr, 0}, call{"write", core, addr, 0}, call{"write", core, addr, -1}, call{"swap", core, addr, 0})
			}
			expectAll(t, s, m)
		}
	}
}

// P12.4: Hold takes from the core its pending stores, the contents of its mailbox and its locks, and nothing from others.
func TestHold(t *testing.T) {
	s := made(t, site.Plan{Cores: 3, Words: 4, Locks: 4}, 3)
	reads(t, s, 1, lock(0), 1)
	reads(t, s, 0, lock(1), 1)
	reads(t, s, 1, lock(3), 1)
	writes(t, s, 0, mail(1, 2), 5)
	writes(t, s, 1, mail(1, 2), 6)
	writes(t, s, 1, mail(0, 2), 7)
	writes(t, s, 1, mail(2, 2), 8)
	writes(t, s, 1, 2, 40)
	gives(t, s, call{"fence", 1, 0, 0}, 1, api.OK)
	writes(t, s, 1, 2, 50, 51)
	writes(t, s, 0, 2, 60)
	holds(t, s, 1)
	epoch(t, s, 1, false, 0)
	epoch(t, s, 0, true, 0)
	epoch(t, s, 2, true, 0)
	waits(t, s, 1)
	waits(t, s, 0, store{2, 60})
	memory(t, s, 0, 0, 40, 0)
	mailbox(t, s, 1, 0, 0)
	mailbox(t, s, 0, 2, 1)
	mailbox(t, s, 2, 2, 1)
	for i, want := range []int{-1, 0, -1, -1} {
		owner(t, s, i, want)
	}
	writes(t, s, 2, mail(1, 2), 9)
	mailbox(t, s, 1, 4, 1)
	reads(t, s, 2, lock(3), 1)
	starts(t, s, 1)
	epoch(t, s, 1, true, 1)
	mailbox(t, s, 1, 4, 1)
	reads(t, s, 1, mail(1, 1), 9)
	reads(t, s, 1, 2, 40)
	reads(t, s, 1, lock(3), 0)
	reads(t, s, 1, lock(0), 1)
	reads(t, s, 0, mail(0, 1), 7)
}

// P12.4: Hold of each core of each size, with everything that a core may have.
func TestHoldEach(t *testing.T) {
	for cores := 1; cores <= 8; cores++ {
		for _, x := range scenes(t, site.Plan{Cores: cores, Words: 4, Locks: 8}, 3) {
			for core := range cores {
				s, m := x.s.Clone(), x.m.clone()
				both(t, s, m, call{"hold", core, 0, 0})
				expectAll(t, s, m)
				both(t, s, m, call{"hold", core, 0, 0}, call{"start", core, 0, 0})
				expectAll(t, s, m)
				both(t, s, m, call{"start", core, 0, 0})
				expectAll(t, s, m)
			}
		}
	}
}

// P12.4: a core that is held already, one that is up already, and cores that do not exist.
func TestHoldAndStartErrors(t *testing.T) {
	for cores := 1; cores <= 8; cores++ {
		s, m := pair(t, site.Plan{Cores: cores, Words: 4, Locks: 2}, 2)
		for core := range cores {
			fill(t, s, m, core, 2)
			ring(t, s, m, core, cores-1-core, 2)
			untouched(t, s, api.ErrIdle, call{"start", core, 0, 0})
			both(t, s, m, call{"hold", core, 0, 0})
			ring(t, s, m, (core+1)%cores, core, 2)
			untouched(t, s, api.ErrBusy, call{"hold", core, 0, 0})
			both(t, s, m, call{"start", core, 0, 0}, call{"read", core, lock(0), 0})
			for _, none := range noCores(cores) {
				untouched(t, s, api.ErrCore, call{"hold", none, 0, 0}, call{"start", none, 0, 0})
			}
			expectAll(t, s, m)
		}
	}
}

// P12.4: each Start increments the epoch of its core alone, up to the greatest word.
func TestStart(t *testing.T) {
	s := made(t, site.Plan{Cores: 8, Words: 1, Locks: 1}, 1)
	for n := range 65535 {
		epoch(t, s, 7, true, n)
		holds(t, s, 7)
		epoch(t, s, 7, false, n)
		starts(t, s, 7)
	}
	reads(t, s, 0, counter(7), 65535)
	for core := range 7 {
		epoch(t, s, core, true, 0)
	}
}

// P12.5: what is asked of cores and locks that do not exist, in all states.
func TestAskedOfNothing(t *testing.T) {
	for _, p := range []site.Plan{small, {Cores: 1, Words: 4, Locks: 1}, {Cores: 8, Words: 4, Locks: 16}} {
		for _, x := range scenes(t, p, 2) {
			for _, core := range noCores(p.Cores) {
				if n, e := x.s.Epoch(core); n != 0 || e != api.ErrCore || x.s.Up(core) {
					t.Fatalf("Up(%d) = %v, Epoch(%d) = %d, %d", core, x.s.Up(core), core, n, e)
				}
				mailbox(t, x.s, core, 0, 0)
				if l := x.s.Waits(core); l != nil {
					t.Fatalf("Waits(%d) = %v", core, l)
				}
			}
			for _, i := range noLocks(p.Locks) {
				if n, e := x.s.Owner(i); n != 0 || e != api.ErrArg {
					t.Fatalf("Owner(%d) = %d, %d", i, n, e)
				}
			}
			expectAll(t, x.s, x.m)
		}
	}
}

// P12.5: what Waits and Ram return belongs to the caller.
func TestResultsAreIndependent(t *testing.T) {
	for _, x := range scenes(t, small, 3) {
		for core := range 2 {
			list := x.s.Waits(core)
			for i := range list {
				list[i] = 3 + 99i
			}
			_ = append(list, 7)
			_ = append(list[:0], 8)
		}
		ram := x.s.Ram()
		ram.Fill(0, 4, 4321)
		expectAll(t, x.s, x.m)
		first, copied := x.s.Waits(1), slices.Clone(x.s.Waits(1))
		ram = x.s.Ram()
		same := ram.Clone()
		x.s.Swap(0, 0, 77)
		x.s.Swap(1, 1, 78)
		x.s.Write(1, 2, 79)
		if !slices.Equal(first, copied) || !sram.Same(ram, same) {
			t.Fatal("a later call changed a result")
		}
	}
}

// P12.5: a clone has everything that its original has, and goes on as it would.
func TestClone(t *testing.T) {
	for _, p := range []site.Plan{small, {Cores: 1, Words: 4, Locks: 1}, {Cores: 8, Words: 5, Locks: 16}} {
		for _, x := range scenes(t, p, 3) {
			c := x.s.Clone()
			if c == nil || c == x.s || !soc.Same(c, x.s) {
				t.Fatal("the clone is nil, or the soc itself, or not the same")
			}
			expectAll(t, c, x.m)
			for _, y := range choices(p) {
				d, m := c.Clone(), x.m.clone()
				both(t, d, m, y)
				expectAll(t, d, m)
			}
			expectAll(t, c, x.m)
			expectAll(t, x.s, x.m)
		}
	}
}

// choices returns calls of the first and last cores that act on every part.
func choices(p site.Plan) []call {
	var list []call
	for _, core := range []int{0, p.Cores - 1} {
		list = append(list,
			call{"write", core, 1, 11 + core}, call{"write", core, 3, 65535 - core}, call{"swap", core, 1, 21 + core},
			call{"drain", core, 0, 0}, call{"fence", core, 0, 0}, call{"hold", core, 0, 0}, call{"start", core, 0, 0},
			call{"read", core, lock(0), 0}, call{"write", core, lock(0), 0}, call{"read", core, mail(core, 1), 0},
			call{"write", core, mail(core, 0), 65535}, call{"write", core, mail(0, 2), 31 + core}, call{"write", core, mail(p.Cores-1, 2), 41 + core},
			call{"read", core, counter(0), 0})
	}
	return list
}

// P12.5: neither a clone nor its original nor a clone's clone sees calls on another one.
func TestCloneIsIndependent(t *testing.T) {
	for kind := range 6 {
		for _, y := range choices(small) {
			x := scenes(t, small, 2)[kind]
			c := x.s.Clone()
			d := c.Clone()
			ask(x.s, y)
			expectAll(t, c, x.m)
			expectAll(t, d, x.m)
			e := d.Clone()
			ask(c, y)
			expectAll(t, d, x.m)
			ask(e, y)
			expectAll(t, d, x.m)
			if !soc.Same(x.s, c) || !soc.Same(c, e) {
				t.Fatalf("%v has another effect on a clone", y)
			}
		}
	}
}

// P12.5: socs with another plan or another capacity are not the same.
func TestSameOfPlans(t *testing.T) {
	plans := []site.Plan{small, {Cores: 3, Words: 4, Locks: 2}, {Cores: 2, Words: 5, Locks: 2}, {Cores: 2, Words: 4, Locks: 3}, {Cores: 4, Words: 2, Locks: 2}, {Cores: 8, Words: 65536, Locks: 16}}
	for _, p := range plans {
		for _, q := range plans {
			for _, buf := range []int{1, 2, 16} {
				if soc.Same(made(t, p, 2), made(t, q, buf)) != (p == q && buf == 2) {
					t.Errorf("Same of new socs with %v and %v, 2 and %d", p, q, buf)
				}
			}
		}
	}
}

// P12.5: every part matters: the memory, the pending stores, the bits, the words and their senders, the locks, the held cores and the epochs.
func TestSameOfParts(t *testing.T) {
	p := site.Plan{Cores: 3, Words: 4, Locks: 2}
	after := func(list ...call) *soc.Soc {
		t.Helper()
		s := made(t, p, 3)
		for _, c := range list {
			if _, e := ask(s, c); e != api.OK {
				t.Fatal(c, e)
			}
		}
		return s
	}
	list := []*soc.Soc{
		after(),
		after(call{"write", 0, 1, 5}),
		after(call{"write", 1, 1, 5}),
		after(call{"write", 0, 2, 5}),
		after(call{"write", 0, 1, 6}),
		after(call{"write", 0, 1, 5}, call{"write", 0, 2, 5}),
		after(call{"write", 0, 2, 5}, call{"write", 0, 1, 5}),
		after(call{"swap", 0, 1, 5}),
		after(call{"swap", 0, 3, 5}),
		after(call{"read", 0, lock(0), 0}),
		after(call{"read", 0, lock(1), 0}),
		after(call{"read", 1, lock(0), 0}),
		after(call{"write", 0, mail(2, 2), 7}),
		after(call{"write", 0, mail(2, 2), 8}),
		after(call{"write", 1, mail(2, 2), 7}),
		after(call{"write", 0, mail(1, 2), 7}),
		after(call{"write", 2, mail(2, 2), 7}, call{"write", 2, mail(2, 0), 65535}),
		after(call{"write", 0, mail(2, 2), 0}),
		after(call{"write", 0, mail(2, 2), 7}, call{"write", 1, mail(2, 2), 7}),
		after(call{"write", 1, mail(2, 2), 7}, call{"write", 0, mail(2, 2), 7}),
		after(call{"hold", 0, 0, 0}),
		after(call{"hold", 2, 0, 0}),
		after(call{"hold", 0, 0, 0}, call{"start", 0, 0, 0}),
		after(call{"hold", 0, 0, 0}, call{"start", 0, 0, 0}, call{"hold", 0, 0, 0}),
		after(call{"hold", 1, 0, 0}, call{"start", 1, 0, 0}),
	}
	for i, a := range list {
		for j, b := range list {
			if soc.Same(a, b) != (i == j) || soc.Same(a, b.Clone()) != (i == j) {
				t.Errorf("Same of the socs %d and %d is not %v", i, j, i == j)
			}
		}
	}
}

// P12.5: socs that have the same parts are the same, whatever has happened to them before.
func TestSameAfterOtherCalls(t *testing.T) {
	for _, x := range scenes(t, small, 3) {
		a, b := x.s.Clone(), x.s.Clone()
		for core := range 2 {
			if !a.Up(core) {
				continue
			}
			a.Write(core, 0, 5)
			a.Write(core, 1, 6)
			a.Fence(core)
			a.Swap(core, 0, 8)
			a.Swap(core, 1, 9)
			b.Swap(core, 1, 9)
			b.Swap(core, 0, 8)
			a.Read(core, lock(0))
			a.Read(core, lock(1))
			a.Write(core, lock(1), 0)
			b.Read(core, lock(0))
			b.Read(core, lock(1))
			b.Write(core, lock(1), 1)
			a.Write(core, mail(core, 2), 6)
			for range 20 {
				a.Read(core, mail(core, 1))
				b.Read(core, mail(core, 1))
			}
			a.Write(core, mail(core, 0), 65535)
			b.Write(core, mail(core, 0), 255)
		}
		if !soc.Same(a, b) || !soc.Same(b, a) || soc.Same(a, x.s) || soc.Same(x.s, b) {
			t.Error("not the same, or still the same as before")
		}
	}
}

// P12.5: two socs are the same if and only if their models are, in pairs of many states.
func TestSameOfManyStates(t *testing.T) {
	var list []scene
	for _, x := range scenes(t, small, 2) {
		list = append(list, x)
		for _, y := range choices(small) {
			s, m := x.s.Clone(), x.m.clone()
			both(t, s, m, y)
			list = append(list, scene{s, m})
		}
	}
	equal := 0
	for i, a := range list {
		for j, b := range list {
			want := a.m.same(b.m)
			if soc.Same(a.s, b.s) != want {
				t.Fatalf("Same of %v and %v is not %v", a.m, b.m, want)
			}
			if want && i != j {
				equal++
			}
		}
	}
	if equal < 100 {
		t.Error("only so many pairs are the same:", equal)
	}
}

// A nil Soc.
func TestNil(t *testing.T) {
	var s *soc.Soc
	for _, x := range slices.Concat(addresses(small), noWords) {
		for _, y := range []int{-1, 0, 1, 7, 8, 65535, 65536, lock(0), math.MinInt, math.MaxInt} {
			for _, name := range []string{"read", "write", "swap", "fence", "drain", "hold", "start"} {
				gives(t, s, call{name, x, y, y}, 0, api.ErrNone)
				gives(t, s, call{name, y, x, y}, 0, api.ErrNone)
				gives(t, s, call{name, y, y, x}, 0, api.ErrNone)
			}
		}
		if n, e := s.Epoch(x); n != 0 || e != api.ErrNone || s.Up(x) {
			t.Errorf("Up(%d) = %v, Epoch(%d) = %d, %d", x, s.Up(x), x, n, e)
		}
		if n, e := s.Owner(x); n != 0 || e != api.ErrNone {
			t.Errorf("Owner(%d) = %d, %d", x, n, e)
		}
		mailbox(t, s, x, 0, 0)
		if l := s.Waits(x); l != nil {
			t.Errorf("Waits(%d) = %v", x, l)
		}
	}
	if s.Plan() != (site.Plan{}) || s.Ram() != nil || s.Clone() != nil {
		t.Error(s.Plan(), s.Ram(), s.Clone())
	}
	if !soc.Same(nil, nil) || !soc.Same(s, s.Clone()) {
		t.Error("two nil socs are not the same")
	}
	for _, x := range scenes(t, small, 2) {
		if soc.Same(nil, x.s) || soc.Same(x.s, nil) {
			t.Error("a nil Soc is the same as another one")
		}
	}
}

// P12.2, P12.3: every single call at every spot and beside it, in every scene.
func TestEveryCall(t *testing.T) {
	some := []int{-1, 0, 1, 2, 5, 65535, 65536, math.MinInt, math.MaxInt}
	for _, p := range []site.Plan{{Cores: 1, Words: 4, Locks: 1}, {Cores: 3, Words: 5, Locks: 2}, {Cores: 8, Words: 4, Locks: 16}} {
		for _, x := range scenes(t, p, 2) {
			for _, core := range []int{-1, 0, p.Cores / 2, p.Cores - 1, p.Cores} {
				for _, addr := range addresses(p) {
					c, m := x.s.Clone(), x.m.clone()
					both(t, c, m, call{"read", core, addr, 0})
					expect(t, c, m)
					for _, w := range some {
						c, m = x.s.Clone(), x.m.clone()
						both(t, c, m, call{"write", core, addr, w})
						expect(t, c, m)
						both(t, c, m, call{"swap", core, addr, w})
						expect(t, c, m)
					}
				}
			}
			expectAll(t, x.s, x.m)
		}
	}
}

// follow makes all sequences of so many of the choices, each on a clone.
func follow(t *testing.T, x scene, list []call, left int) {
	t.Helper()
	if left == 0 {
		expectAll(t, x.s, x.m)
		return
	}
	for _, y := range list {
		s, m := x.s.Clone(), x.m.clone()
		n, e := ask(s, y)
		if want, wantE := m.do(y); n != want || e != wantE {
			t.Fatalf("%v = %d, %d, want %d, %d", y, n, e, want, wantE)
		}
		lawful(t, s, y, n, e)
		follow(t, scene{s, m}, list, left-1)
	}
}

// lawful checks the laws of P12.6 after a call with this result.
func lawful(t *testing.T, s *soc.Soc, c call, n int, e api.Errno) {
	t.Helper()
	p := s.Plan()
	for core := range p.Cores {
		if s.Up(core) {
			continue
		}
		waits(t, s, core)
		for i := range p.Locks {
			if n, _ := s.Owner(i); n == core {
				t.Fatalf("core %d is held and owns lock %d", core, i)
			}
		}
	}
	if c.name == "hold" && e == api.OK {
		mailbox(t, s, c.core, 0, 0)
	}
	if c.name == "read" && c.addr >= lock(0) && c.addr < lock(p.Locks) && n == 1 {
		owner(t, s, c.addr-lock(0), c.core)
		waits(t, s, c.core)
	}
}

// P12.2 to P12.6: all sequences of four calls of two cores.
func TestAllSequences(t *testing.T) {
	list := []call{
		{"write", 0, 1, 5}, {"write", 1, 1, 6}, {"write", 0, 2, 7}, {"read", 0, lock(0), 0}, {"read", 1, lock(0), 0}, {"write", 0, lock(0), 1},
		{"write", 0, mail(1, 2), 8}, {"write", 1, mail(1, 2), 9}, {"read", 1, mail(1, 1), 0}, {"write", 1, mail(1, 0), 1},
		{"hold", 0, 0, 0}, {"hold", 1, 0, 0}, {"start", 0, 0, 0}, {"start", 1, 0, 0}, {"drain", 0, 0, 0}, {"swap", 1, 1, 3},
	}
	for _, buf := range []int{1, 2} {
		s, m := pair(t, small, buf)
		follow(t, scene{s, m}, list, 4)
	}
}

// drawn returns a call of a core, mostly one that can be accepted.
func drawn(draw func(n int) int, p site.Plan) call {
	core := draw(p.Cores)
	other := draw(p.Cores)
	switch draw(16) {
	case 0, 1, 2:
		return call{"write", core, draw(p.Words), draw(65536)}
	case 3:
		return call{"read", core, draw(p.Words), 0}
	case 4:
		return call{"swap", core, draw(p.Words), draw(65536)}
	case 5, 6:
		return call{"read", core, lock(draw(p.Locks)), 0}
	case 7, 8:
		return call{"write", core, lock(draw(p.Locks)), draw(65536)}
	case 9, 10:
		return call{"write", core, mail(other, 2), draw(65536)}
	case 11:
		return call{"read", core, mail(core, draw(3)), 0}
	case 12:
		return call{"write", core, mail(core, 0), draw(256)}
	case 13:
		return call{[]string{"drain", "drain", "fence", "read"}[draw(4)], core, counter(other), 0}
	case 14:
		return call{[]string{"hold", "start", "start"}[draw(3)], core, 0, 0}
	}
	addr := addresses(p)
	return call{[]string{"read", "write", "swap"}[draw(3)], core + draw(3) - 1, addr[draw(len(addr))], draw(65538) - 1}
}

// P12.2 to P12.6: long sequences of all calls, in which mailboxes become full and cores are held and started.
func TestLongSequences(t *testing.T) {
	for cores := 1; cores <= 8; cores++ {
		p := site.Plan{Cores: cores, Words: 4 + cores, Locks: 2 * cores}
		draw := drawer(uint32(cores))
		s, m := pair(t, p, 1+2*(cores-1))
		seen := map[api.Errno]int{}
		for i := range 4000 {
			c := drawn(draw, p)
			if i/250%2 == 1 && (c.name == "hold" || draw(2) == 0) {
				c = call{"write", draw(cores), mail(draw(cores)/2, 2), draw(65536)}
			}
			want, wantE := m.do(c)
			n, e := ask(s, c)
			if n != want || e != wantE {
				t.Fatalf("%v = %d, %d, want %d, %d", c, n, e, want, wantE)
			}
			seen[e]++
			lawful(t, s, c, n, e)
			if i%8 == 0 {
				expect(t, s, m)
			}
			if i%64 == 0 {
				expectAll(t, s, m)
				s = s.Clone()
			}
		}
		for _, e := range []api.Errno{api.ErrFull, api.ErrBusy, api.ErrIdle, api.ErrOff, api.ErrLock, api.ErrAddr, api.ErrCore} {
			if seen[e] < 2 {
				t.Errorf("with %d cores error %d was seen %d times", cores, e, seen[e])
			}
		}
	}
}

// P12.6: when a core has acquired a lock, none of its earlier stores is pending, at every capacity and with every number of stores.
func TestAcquiredWithoutPending(t *testing.T) {
	for cores := 1; cores <= 8; cores += 7 {
		for buf := 1; buf <= 16; buf++ {
			for n := range buf + 2 {
				s, m := pair(t, site.Plan{Cores: cores, Words: 4, Locks: 2}, buf)
				fill(t, s, m, cores-1, n)
				m.fence(cores - 1)
				reads(t, s, cores-1, lock(1), 1)
				waits(t, s, cores-1)
				memory(t, s, m.memory...)
				owner(t, s, 1, cores-1)
			}
		}
	}
}

// P12.6: a core that is held owns no lock and has no pending store, whatever others do, and its mailbox has just what they have rung since.
func TestHeldHasOnlyMail(t *testing.T) {
	for held := range 4 {
		draw := drawer(uint32(held))
		p := site.Plan{Cores: 4, Words: 4, Locks: 4}
		s, m := pair(t, p, 3)
		for range 300 {
			both(t, s, m, drawn(draw, p))
		}
		if s.Up(held) {
			holds(t, s, held)
		} else {
			starts(t, s, held)
			holds(t, s, held)
		}
		bits, rung := 0, []int{}
		for range 300 {
			c := drawn(draw, p)
			if c.name == "start" && c.core == held {
				continue
			}
			n, e := ask(s, c)
			if c.name == "write" && c.addr == mail(held, 2) && (e == api.OK || e == api.ErrFull) {
				bits |= 1 << c.core
				if e == api.OK {
					rung = append(rung, c.w)
				}
			}
			lawful(t, s, c, n, e)
			mailbox(t, s, held, bits, len(rung))
		}
		starts(t, s, held)
		reads(t, s, held, mail(held, 0), bits)
		for _, w := range rung {
			reads(t, s, held, mail(held, 1), w)
		}
		reads(t, s, held, mail(held, 2), 0)
		if len(rung) == 0 || bits>>held&1 == 1 {
			t.Error("nobody rang, or the held core did")
		}
	}
}

// onSoc passes through all executions of programs on a soc and reports each of their outcomes.
func onSoc(s *soc.Soc, p [][]litmus.Op, next []int, regs []int, found func(outcome []int)) {
	ended := true
	for core, ops := range p {
		if next[core] < len(ops) {
			ended = false
			c, n, r := s.Clone(), slices.Clone(next), slices.Clone(regs)
			op := ops[next[core]]
			n[core]++
			switch op.Kind {
			case litmus.Load:
				r[4*core+op.Reg], _ = c.Read(core, op.Addr)
			case litmus.Store:
				c.Write(core, op.Addr, op.Word)
			case litmus.Fence:
				c.Fence(core)
			case litmus.Swap:
				r[4*core+op.Reg], _ = c.Swap(core, op.Addr, op.Word)
			}
			onSoc(c, p, n, r, found)
		}
		c := s.Clone()
		if was, _ := c.Drain(core); was {
			ended = false
			onSoc(c, p, next, regs, found)
		}
	}
	if ended {
		memory, _ := s.Ram().Span(0, 4)
		found(slices.Concat(regs, memory))
	}
}

// P2: what programs result in on a soc, in whatever order its cores proceed and its stores are drained, are their outcomes.
func TestOutcomes(t *testing.T) {
	load := func(addr, reg int) litmus.Op { return litmus.Op{Kind: litmus.Load, Addr: addr, Reg: reg} }
	put := func(addr, w int) litmus.Op { return litmus.Op{Kind: litmus.Store, Addr: addr, Word: w} }
	swap := func(addr, w, reg int) litmus.Op {
		return litmus.Op{Kind: litmus.Swap, Addr: addr, Word: w, Reg: reg}
	}
	fence := litmus.Op{Kind: litmus.Fence}
	programs := [][][]litmus.Op{
		{{put(0, 1), load(1, 0)}, {put(1, 1), load(0, 0)}},
		{{put(0, 1), fence, load(1, 0)}, {put(1, 1), fence, load(0, 0)}},
		{{put(0, 1), put(1, 1)}, {load(1, 0), load(0, 1)}},
		{{put(0, 1), put(0, 2), load(0, 0)}, {put(0, 3), swap(0, 4, 1)}},
		{{put(0, 1), put(1, 2), put(0, 3), load(2, 0)}, {put(2, 4), load(0, 0)}},
		{{put(0, 1)}, {put(0, 2), load(3, 0)}, {load(0, 2), load(0, 3)}},
	}
	for _, p := range programs {
		for buf := 1; buf <= 4; buf++ {
			s := made(t, site.Plan{Cores: len(p), Words: 4, Locks: 1}, buf)
			var all [][]int
			onSoc(s, p, make([]int, len(p)), make([]int, 4*len(p)), func(outcome []int) { all = append(all, outcome) })
			slices.SortFunc(all, slices.Compare)
			all = slices.CompactFunc(all, slices.Equal)
			want, e := litmus.Outcomes(p, buf)
			if e != api.OK || !slices.EqualFunc(all, want, slices.Equal) {
				t.Errorf("on a soc %v results in %v, but its outcomes are %v, %d", p, all, want, e)
			}
		}
	}
}

// P1: all calls with all numbers.
func TestNoPanic(t *testing.T) {
	numbers := slices.Concat(far, noWords, []int{0, 1, 2, 3, 4, 7, 8, 65535, mail(0, 0), mail(1, 1), mail(1, 2), lock(0), lock(1), counter(0), counter(1)})
	for _, p := range []site.Plan{small, {Cores: 8, Words: 65536, Locks: 16}, {}, {Cores: -1, Words: math.MaxInt, Locks: math.MinInt}} {
		for _, buf := range []int{1, 16, 0, 17, math.MinInt, math.MaxInt} {
			s, _ := soc.New(p, buf)
			for _, x := range numbers {
				for _, y := range numbers {
					s.Read(x, y)
					s.Read(0, x)
					s.Write(x, y, 0)
					s.Write(1, x, y)
					s.Write(x, 0, y)
					s.Swap(0, x, y)
					s.Swap(x, y, 1)
				}
				s.Fence(x)
				s.Drain(x)
				s.Hold(x)
				s.Up(x)
				s.Epoch(x)
				s.Owner(x)
				s.Mail(x)
				s.Waits(x)
				s.Start(x)
				s.Plan()
			}
			s.Ram()
			soc.Same(s, s.Clone())
		}
	}
}
