package soc_test

import (
	"math"
	"slices"
	"testing"

	"switchyard/api"
	"switchyard/site"
	"switchyard/soc"
)

// far holds numbers that are neither cores nor locks nor addresses of any soc. Some of them have the low bits of such a number.
var far = []int{-1, -2, -7, -8, -9, -16, -255, -256, -65535, -65536, -65552, -65792, -66048, 131072, 131073, 1<<17 + 65536, 1<<31 - 1, 1 << 31, 1<<31 + 65536, 1<<32 - 1, 1 << 32, 1<<32 + 1, 1<<32 + 65536, 1<<32 + 65792, 1<<32 + 66048, -1 << 32, 1 - 1<<32, 65792 - 1<<32, math.MinInt, math.MinInt + 1, math.MinInt + 65792, math.MaxInt - 1, math.MaxInt}

// noWords holds numbers that are no words, the neighbours of the limits first.
var noWords = []int{-1, 65536, -2, 65537, -65535, -65536, 131071, 131072, 1 << 31, 1 << 32, 1<<32 + 1, -1 << 40, math.MinInt, math.MinInt + 1, math.MaxInt - 1, math.MaxInt}

// words holds words, the limits first.
var words = []int{0, 65535, 1, 2, 3, 255, 256, 32767, 32768, 65534}

// noCores returns numbers that are no cores of a soc with so many, the neighbours of the limits first.
func noCores(cores int) []int {
	return append([]int{-1, cores, cores + 1, 2 * cores, 8, 9, 16, 256, cores - 1 + 1<<8, cores - 1 + 1<<16, cores - 1 + 1<<32, cores - 1 - 1<<32}, far...)
}

// noLocks returns numbers that are no locks of a soc with so many, the neighbours of the limits first.
func noLocks(locks int) []int {
	return append([]int{-1, locks, locks + 1, 2 * locks, 16, 17, 256, 65792, locks - 1 + 1<<16, locks - 1 + 1<<32}, far...)
}

// mail returns the address of a register of a core's mailbox.
func mail(core, reg int) int { return 65536 + 16*core + reg }

// lock returns the address of a lock.
func lock(i int) int { return 65792 + i }

// counter returns the address of a core's epoch.
func counter(core int) int { return 66048 + core }

// addresses returns all addresses with a spot but those in the midst of the memory, their neighbours, and others without one, each once.
func addresses(p site.Plan) []int {
	list := append([]int{0, 1, 2, p.Words - 2, p.Words - 1, p.Words, p.Words + 1, 2 * p.Words, 65535}, far...)
	for core := range 9 {
		for reg := range 5 {
			list = append(list, mail(core, reg))
		}
		list = append(list, mail(core, 15), counter(core), counter(core)+1)
	}
	for i := range 17 {
		list = append(list, lock(i))
	}
	list = append(list, mail(0, -1), mail(16, -1), lock(-1), lock(255), counter(-1), counter(255), counter(256))
	slices.Sort(list)
	return slices.Compact(list)
}

// store is a pending store by its address and its word.
type store struct{ addr, word int }

// letter is a word in a mailbox with its sender.
type letter struct{ from, word int }

// state is a core by the text of the chapters.
type state struct {
	held    bool
	epoch   int
	pending []store
	bits    int
	queue   []letter
}

// model is a soc by the text of the chapters.
type model struct {
	plan   site.Plan
	buf    int
	memory []int
	owners []int
	cores  []state
}

// modelOf returns the model of a new soc.
func modelOf(p site.Plan, buf int) *model {
	return &model{plan: p, buf: buf, memory: make([]int, p.Words), owners: slices.Repeat([]int{-1}, p.Locks), cores: make([]state, p.Cores)}
}

// clone returns a model that shares nothing with m.
func (m *model) clone() *model {
	c := &model{plan: m.plan, buf: m.buf, memory: slices.Clone(m.memory), owners: slices.Clone(m.owners)}
	for _, s := range m.cores {
		s.pending, s.queue = slices.Clone(s.pending), slices.Clone(s.queue)
		c.cores = append(c.cores, s)
	}
	return c
}

// same reports whether both models are equal in everything.
func (m *model) same(o *model) bool {
	return m.plan == o.plan && m.buf == o.buf && slices.Equal(m.memory, o.memory) && slices.Equal(m.owners, o.owners) &&
		slices.EqualFunc(m.cores, o.cores, func(a, b state) bool {
			return a.held == b.held && a.epoch == b.epoch && a.bits == b.bits && slices.Equal(a.pending, b.pending) && slices.Equal(a.queue, b.queue)
		})
}

// place returns what is located at an address: a part of the map (or none), a number in it, and a register.
func (m *model) place(addr int) (part string, index, reg int) {
	switch {
	case 0 <= addr && addr < m.plan.Words:
		return "ram", 0, addr
	case mail(0, 0) <= addr && addr < mail(m.plan.Cores, 0) && addr%16 <= 2:
		return "mail", (addr - mail(0, 0)) / 16, addr % 16
	case lock(0) <= addr && addr < lock(m.plan.Locks):
		return "lock", addr - lock(0), 0
	case counter(0) <= addr && addr < counter(m.plan.Cores):
		return "gate", addr - counter(0), 0
	}
	return "", 0, 0
}

// drain writes the oldest store of a core to the memory, and returns how many there were: 1 or 0.
func (m *model) drain(core int) int {
	own := &m.cores[core]
	if len(own.pending) == 0 {
		return 0
	}
	m.memory[own.pending[0].addr] = own.pending[0].word
	own.pending = own.pending[1:]
	return 1
}

// fence drains all stores of a core and returns their number.
func (m *model) fence(core int) int {
	n := 0
	for m.drain(core) == 1 {
		n++
	}
	return n
}

// load returns the word that a core sees at an address of the memory.
func (m *model) load(core, addr int) int {
	w := m.memory[addr]
	for _, s := range m.cores[core].pending {
		if s.addr == addr {
			w = s.word
		}
	}
	return w
}

// call is a call by its name and its arguments, of which the name tells which count.
type call struct {
	name          string
	core, addr, w int
}

// check returns the error by which a call is rejected, or OK.
func (m *model) check(c call) api.Errno {
	if c.core < 0 || c.core > m.plan.Cores-1 {
		return api.ErrCore
	}
	held := m.cores[c.core].held
	part, index, reg := m.place(c.addr)
	switch c.name {
	case "hold":
		return when(held, api.ErrBusy)
	case "start":
		return when(!held, api.ErrIdle)
	case "drain":
		return api.OK
	case "fence":
		return when(held, api.ErrOff)
	case "read":
		none := part == "" || part == "mail" && index != c.core
		return first(when(held, api.ErrOff), when(none, api.ErrAddr))
	case "write":
		none := part == "" || part == "gate" || part == "mail" && reg == 1 || part == "mail" && reg == 0 && index != c.core
		other := part == "lock" && m.owners[index] != c.core
		return first(when(held, api.ErrOff), when(none, api.ErrAddr), when(c.w < 0 || c.w > 65535, api.ErrArg), when(other, api.ErrLock))
	case "swap":
		return first(when(held, api.ErrOff), when(part != "ram", api.ErrAddr), when(c.w < 0 || c.w > 65535, api.ErrArg))
	}
	panic(c.name)
}

// when returns the error if it applies, or else OK.
func when(applies bool, e api.Errno) api.Errno {
	if applies {
		return e
	}
	return api.OK
}

// first returns the first error of the list, or OK.
func first(list ...api.Errno) api.Errno {
	for _, e := range list {
		if e != api.OK {
			return e
		}
	}
	return api.OK
}

// do makes a call and returns its result, in which 1 stands for true.
func (m *model) do(c call) (int, api.Errno) {
	if e := m.check(c); e != api.OK {
		return 0, e
	}
	own := &m.cores[c.core]
	switch c.name {
	case "hold":
		*own = state{held: true, epoch: own.epoch}
		for i, owner := range m.owners {
			if owner == c.core {
				m.owners[i] = -1
			}
		}
	case "start":
		own.held, own.epoch = false, (own.epoch+1)%65536
	case "drain":
		return m.drain(c.core), api.OK
	case "fence":
		return m.fence(c.core), api.OK
	case "swap":
		m.fence(c.core)
		was := m.memory[c.addr]
		m.memory[c.addr] = c.w
		return was, api.OK
	case "read":
		return m.read(c.core, c.addr), api.OK
	case "write":
		return 0, m.write(c.core, c.addr, c.w)
	}
	return 0, api.OK
}

// read reads a spot that the core can read.
func (m *model) read(core, addr int) int {
	part, index, reg := m.place(addr)
	if part == "ram" {
		return m.load(core, addr)
	}
	m.fence(core)
	own := &m.cores[core]
	switch {
	case part == "gate":
		return m.cores[index].epoch
	case part == "lock":
		if m.owners[index] != -1 {
			return 0
		}
		m.owners[index] = core
		return 1
	case reg == 0:
		return own.bits
	case reg == 2:
		return len(own.queue)
	case len(own.queue) == 0:
		return 0
	}
	w := own.queue[0].word
	own.queue = own.queue[1:]
	return w
}

// write writes a word to a spot to which the core can write it.
func (m *model) write(core, addr, w int) api.Errno {
	part, index, reg := m.place(addr)
	if part == "ram" {
		if len(m.cores[core].pending) == m.buf {
			m.drain(core)
		}
		m.cores[core].pending = append(m.cores[core].pending, store{addr, w})
		return api.OK
	}
	m.fence(core)
	switch {
	case part == "lock":
		m.owners[index] = -1
	case reg == 0:
		m.cores[core].bits &^= w
	default:
		to := &m.cores[index]
		to.bits |= 1 << core
		if len(to.queue) == 16 {
			return api.ErrFull
		}
		to.queue = append(to.queue, letter{core, w})
	}
	return api.OK
}

// ask makes a call on s and returns its result, in which 1 stands for true.
func ask(s *soc.Soc, c call) (int, api.Errno) {
	switch c.name {
	case "hold":
		return 0, s.Hold(c.core)
	case "start":
		return 0, s.Start(c.core)
	case "drain":
		was, e := s.Drain(c.core)
		if was {
			return 1, e
		}
		return 0, e
	case "fence":
		return s.Fence(c.core)
	case "swap":
		return s.Swap(c.core, c.addr, c.w)
	case "read":
		return s.Read(c.core, c.addr)
	case "write":
		return 0, s.Write(c.core, c.addr, c.w)
	}
	panic(c.name)
}

// made returns a new soc.
func made(t *testing.T, p site.Plan, buf int) *soc.Soc {
	t.Helper()
	s, e := soc.New(p, buf)
	if s == nil || e != api.OK {
		t.Fatalf("New(%v, %d) = %v, %d", p, buf, s, e)
	}
	return s
}

// pair returns a new soc and its model.
func pair(t *testing.T, p site.Plan, buf int) (*soc.Soc, *model) {
	t.Helper()
	return made(t, p, buf), modelOf(p, buf)
}

// both makes calls on s and on the model, which must have the same results.
func both(t *testing.T, s *soc.Soc, m *model, list ...call) {
	t.Helper()
	for _, c := range list {
		want, wantE := m.do(c)
		if n, e := ask(s, c); n != want || e != wantE {
			t.Fatalf("%v = %d, %d, want %d, %d", c, n, e, want, wantE)
		}
	}
}

// gives makes a call on s that must have this result.
func gives(t *testing.T, s *soc.Soc, c call, want int, wantE api.Errno) {
	t.Helper()
	if n, e := ask(s, c); n != want || e != wantE {
		t.Fatalf("%v = %d, %d, want %d, %d", c, n, e, want, wantE)
	}
}

// reads reads a spot that must have this word.
func reads(t *testing.T, s *soc.Soc, core, addr, want int) {
	t.Helper()
	gives(t, s, call{"read", core, addr, 0}, want, api.OK)
}

// writes writes words to one spot, all of which must be accepted.
func writes(t *testing.T, s *soc.Soc, core, addr int, list ...int) {
	t.Helper()
	for _, w := range list {
		gives(t, s, call{"write", core, addr, w}, 0, api.OK)
	}
}

// holds holds cores that must be up.
func holds(t *testing.T, s *soc.Soc, list ...int) {
	t.Helper()
	for _, core := range list {
		gives(t, s, call{"hold", core, 0, 0}, 0, api.OK)
	}
}

// starts starts cores that must be held.
func starts(t *testing.T, s *soc.Soc, list ...int) {
	t.Helper()
	for _, core := range list {
		gives(t, s, call{"start", core, 0, 0}, 0, api.OK)
	}
}

// memory compares the memory, as a copy of it shows it.
func memory(t *testing.T, s *soc.Soc, want ...int) {
	t.Helper()
	ram := s.Ram()
	if l, e := ram.Span(0, len(want)); e != api.OK || !slices.Equal(l, want) || ram.Size() != len(want) {
		t.Fatalf("Ram() has %d words %v, want %v", ram.Size(), ram.Cells(), want[:min(9, len(want))])
	}
}

// waits compares the pending stores of a core.
func waits(t *testing.T, s *soc.Soc, core int, want ...store) {
	t.Helper()
	var cells []complex128
	for _, x := range want {
		cells = append(cells, complex(float64(x.addr), float64(x.word)))
	}
	if l := s.Waits(core); !slices.Equal(l, cells) {
		t.Fatalf("Waits(%d) = %v, want %v", core, l, cells)
	}
}

// mailbox compares what Mail tells of a core.
func mailbox(t *testing.T, s *soc.Soc, core, bits, n int) {
	t.Helper()
	if b, w := s.Mail(core); b != bits || w != n {
		t.Fatalf("Mail(%d) = %d, %d, want %d, %d", core, b, w, bits, n)
	}
}

// owner compares the owner of a lock.
func owner(t *testing.T, s *soc.Soc, i, want int) {
	t.Helper()
	if n, e := s.Owner(i); n != want || e != api.OK {
		t.Fatalf("Owner(%d) = %d, %d, want %d", i, n, e, want)
	}
}

// epoch compares whether a core is up, and its epoch.
func epoch(t *testing.T, s *soc.Soc, core int, up bool, want int) {
	t.Helper()
	if n, e := s.Epoch(core); n != want || e != api.OK || s.Up(core) != up {
		t.Fatalf("Up(%d) = %v, Epoch(%d) = %d, %d, want %v, %d", core, s.Up(core), core, n, e, up, want)
	}
}

// expect compares everything that can be asked of s, without a trace, with the model.
func expect(t *testing.T, s *soc.Soc, m *model) {
	t.Helper()
	if s.Plan() != m.plan {
		t.Fatalf("Plan() = %v, want %v", s.Plan(), m.plan)
	}
	memory(t, s, m.memory...)
	for i, want := range m.owners {
		owner(t, s, i, want)
	}
	for core, own := range m.cores {
		epoch(t, s, core, !own.held, own.epoch)
		mailbox(t, s, core, own.bits, len(own.queue))
		waits(t, s, core, own.pending...)
		if own.held {
			continue
		}
		for a := range m.memory {
			if a < 4 || a >= len(m.memory)-2 {
				reads(t, s, core, a, m.load(core, a))
			}
		}
	}
}

// expectAll compares what expect does and, in a copy of s, the words in the mailboxes.
func expectAll(t *testing.T, s *soc.Soc, m *model) {
	t.Helper()
	expect(t, s, m)
	c := s.Clone()
	for core, own := range m.cores {
		if own.held {
			starts(t, c, core)
		}
		for _, l := range own.queue {
			reads(t, c, core, mail(core, 1), l.word)
		}
		reads(t, c, core, mail(core, 2), 0)
	}
	expect(t, s, m)
}

// drawer returns a function that returns numbers in 0 to n-1, of a sequence that depends on the seed.
func drawer(seed uint32) func(n int) int {
	return func(n int) int {
		seed = seed*1664525 + 1013904223
		return int(seed>>8) % n
	}
}
