package port_test

import (
	"math"
	"slices"
	"testing"

	"switchyard/api"
	"switchyard/port"
	"switchyard/site"
	"switchyard/soc"
)

// All three are ports.
var (
	_ port.Port = (*port.Core)(nil)
	_ port.Port = (*port.Plain)(nil)
	_ port.Port = (*port.Trace)(nil)
)

// far holds numbers that are neither cores nor addresses of any memory. Some of them have the low bits of such a number.
var far = []int{-1, -2, -3, -8, -16, -255, -256, -65535, -65536, -65792, -66048, 131072, 131073, 1<<31 - 1, 1 << 31, 1<<32 - 1, 1 << 32, 1<<32 + 1, -1 << 32, 1 - 1<<32, math.MinInt, math.MinInt + 1, math.MinInt + 66048, math.MaxInt - 1, math.MaxInt}

// words holds words, the limits first, and noWords numbers that are none.
var (
	words   = []int{0, 65535, 1, 2, 255, 256, 32767, 32768, 65534}
	noWords = []int{-1, 65536, 65537, -2, -65535, -65536, -65537, 131071, 131072, 1 << 31, 1 << 32, 1<<32 + 1, -1 << 40, math.MinInt, math.MinInt + 1, math.MaxInt - 1, math.MaxInt}
)

// access is an access by its name and its arguments, of which the name tells which count.
type access struct {
	name  string
	at, w int
}

// do makes an access through a port and returns its result, which is 0 if it has none.
func do(p port.Port, x access) int {
	switch x.name {
	case "load":
		return p.Load(x.at)
	case "store":
		p.Store(x.at, x.w)
	case "fence":
		p.Fence()
	case "epoch":
		return p.Epoch(x.at)
	case "kick":
		p.Kick(x.at)
	default:
		panic(x.name)
	}
	return 0
}

// asked makes the call of a soc that the chapter says for an access of a core, if there is one, and returns its result.
func asked(s *soc.Soc, id int, x access) int {
	n := 0
	inside := 0 <= x.at && x.at < s.Plan().Words
	other := 0 <= x.at && x.at < s.Plan().Cores
	switch {
	case x.name == "load" && inside:
		n, _ = s.Read(id, x.at)
	case x.name == "store" && inside:
		s.Write(id, x.at, x.w)
	case x.name == "fence":
		s.Fence(id)
	case x.name == "epoch" && other:
		n, _ = s.Read(id, 66048+x.at)
	case x.name == "kick" && other:
		s.Write(id, 65536+16*x.at+2, id)
	}
	return n
}

// accesses returns accesses of every kind for a soc with that plan, at every limit of its memory, at all addresses that are not memory and have a spot, at their neighbours, and for numbers that are no cores.
func accesses(p site.Plan) []access {
	spots := append([]int{0, 1, p.Words - 2, p.Words - 1, p.Words, p.Words + 1, 65535, 65536, 65537}, far...)
	for core := range 9 {
		for reg := range 4 {
			spots = append(spots, 65536+16*core+reg)
		}
		spots = append(spots, 65536+16*core+15, 66048+core)
	}
	for i := range 17 {
		spots = append(spots, 65792+i)
	}
	list := []access{{"fence", 0, 0}}
	for _, a := range spots {
		list = append(list, access{"load", a, 0})
		for _, w := range []int{0, 1, 65535, 65536, -1} {
			list = append(list, access{"store", a, w})
		}
	}
	for _, w := range append(words, noWords...) {
		list = append(list, access{"store", 0, w}, access{"store", p.Words - 1, w}, access{"store", p.Words, w})
	}
	for _, core := range append([]int{0, 1, 2, 3, 4, 5, 6, 7, 8, 9, 15, 16, 256, 65536, 66048, 1 - 256}, far...) {
		list = append(list, access{"epoch", core, 0}, access{"kick", core, 0})
	}
	return list
}

// made returns a new soc.
func made(t *testing.T, p site.Plan, buf int) *soc.Soc {
	t.Helper()
	s, e := soc.New(p, buf)
	if s == nil || e != api.OK {
		t.Fatalf("New(%v, %d) = %v, %d", p, buf, s, e)
	}
	return s
}

// ok reports an error of a call that must have none.
func ok(t *testing.T, e api.Errno) {
	t.Helper()
	if e != api.OK {
		t.Fatalf("error %d", e)
	}
}

// scenes returns socs in several states: new; with pending stores, words and owned locks; with a full mailbox; with one core or all cores held; and with cores that were started again and have pending stores.
func scenes(t *testing.T, p site.Plan, buf int) []*soc.Soc {
	t.Helper()
	list := []*soc.Soc{made(t, p, buf)}
	s := made(t, p, buf)
	for core := range p.Cores {
		s.Read(core, 65792+core)
		for i := range buf + 1 {
			ok(t, s.Write(core, i%p.Words, 10*core+i))
		}
	}
	list = append(list, s.Clone())
	for range 16 {
		ok(t, s.Write(0, 65536+2, 9))
	}
	ok(t, s.Write(0, 0, 77))
	list = append(list, s.Clone())
	last := s.Clone()
	ok(t, last.Hold(p.Cores-1))
	list = append(list, last)
	all, again := s.Clone(), s.Clone()
	for core := range p.Cores {
		ok(t, all.Hold(core))
		for range core + 1 {
			ok(t, again.Hold(core))
			ok(t, again.Start(core))
		}
		ok(t, again.Write(core, p.Words-1, 500+core))
	}
	return append(list, all, again)
}

// ids returns the numbers of the cores of a soc with that plan, and numbers that are none.
func ids(p site.Plan) []int {
	list := append([]int{p.Cores, p.Cores + 1, 8, 16, 256, 65536}, far...)
	for core := range p.Cores {
		list = append(list, core)
	}
	return list
}

// plans holds the least and the greatest plan, and one between them.
var plans = []site.Plan{{Cores: 1, Words: 1, Locks: 1}, {Cores: 3, Words: 5, Locks: 2}, {Cores: 8, Words: 65536, Locks: 16}}

// looks compares the words of the memory from address 0 on.
func looks(t *testing.T, s *soc.Soc, want ...int) {
	t.Helper()
	if l, e := s.Ram().Span(0, len(want)); e != api.OK || !slices.Equal(l, want) {
		t.Fatalf("the memory has %v, want %v", l, want)
	}
}

// waits compares the pending stores of a core.
func waits(t *testing.T, s *soc.Soc, core int, want ...complex128) {
	t.Helper()
	if l := s.Waits(core); !slices.Equal(l, want) {
		t.Fatalf("core %d has the pending stores %v, want %v", core, l, want)
	}
}

// rung compares the bits and the number of words in a mailbox.
func rung(t *testing.T, s *soc.Soc, core, bits, n int) {
	t.Helper()
	if b, w := s.Mail(core); b != bits || w != n {
		t.Fatalf("Mail(%d) = %d, %d, want %d, %d", core, b, w, bits, n)
	}
}

// loads compares what is loaded through a port.
func loads(t *testing.T, p port.Port, a, want int) {
	t.Helper()
	if w := p.Load(a); w != want {
		t.Fatalf("Load(%d) = %d, want %d", a, w, want)
	}
}

// epochs compares an epoch that is read through a port.
func epochs(t *testing.T, p port.Port, core, want int) {
	t.Helper()
	if n := p.Epoch(core); n != want {
		t.Fatalf("Epoch(%d) = %d, want %d", core, n, want)
	}
}

// same fails if the socs differ.
func same(t *testing.T, a, b *soc.Soc, what ...any) {
	t.Helper()
	if !soc.Same(a, b) {
		t.Fatal(append([]any{"the socs differ:"}, what...)...)
	}
}

// The example of the chapter.
func TestExample(t *testing.T) {
	p := port.OfWords([]int{5, 6}, nil)
	p.Store(1, 65537)
	loads(t, p, 1, 1)
	loads(t, p, 2, 0)
}

// P14.1: every access of every core, and of numbers that are none, does what the call of the soc does that the chapter says, and nothing if there is none.
func TestCoreActsAsItsSoc(t *testing.T) {
	for _, plan := range plans {
		list := accesses(plan)
		if plan.Words == 65536 {
			// Each of these copies the memory.
			list = slices.DeleteFunc(list, func(x access) bool { return x.name == "store" && x.w != 1 && x.w != 65536 })
		}
		for _, start := range scenes(t, plan, 2) {
			cores := ids(plan)
			if plan.Words == 65536 {
				cores = []int{0, 7, 8, -1}
			}
			for _, id := range cores {
				s, twin := start.Clone(), start.Clone()
				c := port.OfCore(s, id)
				for _, x := range list {
					n, want := do(c, x), asked(twin, id, x)
					if n != want {
						t.Fatalf("core %d: %v = %d, want %d", id, x, n, want)
					}
					if plan.Words < 65536 {
						same(t, s, twin, id, x)
					}
				}
				same(t, s, twin, id)
			}
		}
	}
}

// P14.1: each access from each state, alone, so that no earlier one hides an effect.
func TestCoreAccessesAlone(t *testing.T) {
	plan := site.Plan{Cores: 3, Words: 5, Locks: 2}
	for _, start := range scenes(t, plan, 2) {
		for _, id := range []int{0, 1, 2, 3, -1} {
			for _, x := range accesses(plan) {
				s, twin := start.Clone(), start.Clone()
				if n, want := do(port.OfCore(s, id), x), asked(twin, id, x); n != want {
					t.Fatalf("core %d: %v = %d, want %d", id, x, n, want)
				}
				same(t, s, twin, id, x)
			}
		}
	}
}

// P14.1: sequences of accesses of all cores, between which stores are drained and cores are held and started.
func TestCoreSequences(t *testing.T) {
	for seed := range uint32(60) {
		draw := drawer(seed)
		plan := site.Plan{Cores: 1 + draw(4), Words: 1 + draw(5), Locks: 1}
		s := made(t, plan, 1+draw(4))
		twin := s.Clone()
		var cores []*port.Core
		for id := range plan.Cores + 1 {
			cores = append(cores, port.OfCore(s, id))
		}
		list := accesses(plan)
		for range 400 {
			id := draw(plan.Cores + 1)
			switch draw(9) {
			case 0:
				s.Drain(id)
				twin.Drain(id)
			case 1:
				if draw(2) == 0 {
					s.Hold(id)
					twin.Hold(id)
				}
				if draw(2) == 0 {
					s.Start(id)
					twin.Start(id)
				}
			default:
				x := list[draw(len(list))]
				if draw(2) == 0 {
					x = access{[]string{"load", "store", "epoch", "kick"}[draw(4)], draw(5), draw(65536)}
				}
				if n, want := do(cores[id], x), asked(twin, id, x); n != want {
					t.Fatalf("core %d: %v = %d, want %d", id, x, n, want)
				}
			}
			same(t, s, twin)
		}
	}
}

// P14.1: a stored word is loaded by the same core at once, is in the memory only when it was drained, and Fence drains all of them.
func TestCoreStoresWait(t *testing.T) {
	s := made(t, site.Plan{Cores: 2, Words: 3, Locks: 1}, 2)
	a, b := port.OfCore(s, 0), port.OfCore(s, 1)
	a.Store(0, 65535)
	a.Store(2, 7)
	loads(t, a, 0, 65535)
	loads(t, a, 2, 7)
	loads(t, b, 0, 0)
	loads(t, b, 2, 0)
	looks(t, s, 0, 0, 0)
	waits(t, s, 0, 0+65535i, 2+7i)
	if was, e := s.Drain(0); !was || e != api.OK {
		t.Fatal(was, e)
	}
	loads(t, b, 0, 65535)
	loads(t, b, 2, 0)
	a.Store(1, 4)
	a.Store(2, 8)
	looks(t, s, 65535, 0, 7)
	waits(t, s, 0, 1+4i, 2+8i)
	b.Fence()
	waits(t, s, 0, 1+4i, 2+8i)
	a.Fence()
	looks(t, s, 65535, 4, 8)
	waits(t, s, 0)
	a.Store(0, 0)
	a.Fence()
	looks(t, s, 0, 4, 8)
}

// P14.1: outside the memory nothing is loaded or stored, whatever is located there, and pending stores remain pending.
func TestCoreOutsideItsMemory(t *testing.T) {
	plan := site.Plan{Cores: 2, Words: 3, Locks: 2}
	s := made(t, plan, 4)
	ok(t, s.Write(0, 65536+16+2, 5))
	ok(t, s.Write(1, 65536+16+2, 6))
	if w, e := s.Read(1, 65792+1); w != 1 || e != api.OK {
		t.Fatal(w, e)
	}
	ok(t, s.Hold(0))
	ok(t, s.Start(0))
	ok(t, s.Write(1, 2, 9))
	before := s.Clone()
	c := port.OfCore(s, 1)
	outside := append([]int{-1, 3, 4, 6, 65535}, far...)
	for a := 65536; a < 66048+20; a++ {
		outside = append(outside, a)
	}
	for _, a := range outside {
		loads(t, c, a, 0)
		for _, w := range []int{0, 1, 3, 65535, 65536, -1} {
			c.Store(a, w)
		}
		same(t, s, before, a)
	}
	waits(t, s, 1, 2+9i)
	rung(t, s, 1, 3, 2)
}

// P14.1: a number that is no word cannot be stored by a core.
func TestCoreStoresWordsOnly(t *testing.T) {
	s := made(t, site.Plan{Cores: 2, Words: 3, Locks: 1}, 1)
	c := port.OfCore(s, 0)
	c.Store(1, 3)
	before := s.Clone()
	for _, w := range noWords {
		for a := range 3 {
			c.Store(a, w)
			same(t, s, before, a, w)
		}
	}
	for _, w := range words {
		c.Store(1, w)
		loads(t, c, 1, w)
		waits(t, s, 0, complex(1, float64(w)))
	}
}

// P14.1: the epoch of each core, for which the stores of the port's core are drained; the epoch of no core is 0, and nothing is drained.
func TestCoreEpoch(t *testing.T) {
	s := made(t, site.Plan{Cores: 3, Words: 2, Locks: 1}, 4)
	c := port.OfCore(s, 1)
	for core := range 3 {
		epochs(t, c, core, 0)
	}
	for _, core := range []int{0, 2, 2, 2} {
		ok(t, s.Hold(core))
		ok(t, s.Start(core))
	}
	ok(t, s.Hold(0))
	for i, want := range []int{1, 0, 3} {
		c.Store(0, 40+i)
		before := s.Clone()
		for _, no := range append([]int{-1, 3, 4, 8, 256, -256, -512, 66048}, far...) {
			epochs(t, c, no, 0)
			same(t, s, before, no)
		}
		waits(t, s, 1, complex(0, float64(40+i)))
		epochs(t, c, i, want)
		waits(t, s, 1)
		looks(t, s, 40+i, 0)
	}
	ok(t, s.Hold(1))
	epochs(t, c, 2, 0)
	ok(t, s.Start(1))
	epochs(t, c, 1, 1)
	epochs(t, c, 0, 1)
	ok(t, s.Start(0))
	epochs(t, c, 0, 2)
}

// P14.1: Kick rings each core that exists, itself too, with the number of the port's core, after its stores were drained.
func TestCoreKick(t *testing.T) {
	s := made(t, site.Plan{Cores: 3, Words: 2, Locks: 1}, 4)
	for id := range 3 {
		c := port.OfCore(s, id)
		for to := range 3 {
			c.Store(1, 10*id+to)
			before := s.Clone()
			for _, no := range append([]int{-1, 3, 4, 8, 15, 16, 17}, far...) {
				c.Kick(no)
				same(t, s, before, no)
			}
			waits(t, s, id, complex(1, float64(10*id+to)))
			c.Kick(to)
			waits(t, s, id)
			looks(t, s, 0, 10*id+to)
			rung(t, s, to, 1<<(id+1)-1, id+1)
		}
	}
	for core := range 3 {
		for id := range 3 {
			if w, e := s.Read(core, 65536+16*core+1); w != id || e != api.OK {
				t.Fatalf("core %d took %d, %d, want %d", core, w, e, id)
			}
		}
	}
}

// P14.1: Kick of a core whose mailbox is full, or which is held.
func TestCoreKickOfFullAndHeld(t *testing.T) {
	s := made(t, site.Plan{Cores: 2, Words: 2, Locks: 1}, 4)
	a, b := port.OfCore(s, 0), port.OfCore(s, 1)
	for range 16 {
		b.Kick(1)
	}
	rung(t, s, 1, 2, 16)
	a.Store(0, 3)
	a.Kick(1)
	rung(t, s, 1, 3, 16)
	waits(t, s, 0)
	looks(t, s, 3, 0)
	ok(t, s.Hold(1))
	rung(t, s, 1, 0, 0)
	a.Kick(1)
	rung(t, s, 1, 1, 1)
	before := s.Clone()
	b.Kick(0)
	b.Kick(1)
	same(t, s, before)
}

// P14.1: a core that does not exist, that is held, or that has no soc has no effect with any access.
func TestCoreThatCannot(t *testing.T) {
	plan := site.Plan{Cores: 3, Words: 5, Locks: 2}
	for i, start := range scenes(t, plan, 2) {
		s := start.Clone()
		ok(t, first(s.Hold(1), api.ErrBusy))
		before := s.Clone()
		for _, id := range append([]int{1, 3, 4, 8, 256}, far...) {
			c := port.OfCore(s, id)
			if c == nil {
				t.Fatalf("OfCore(%d) is nil", id)
			}
			for _, x := range accesses(plan) {
				if n := do(c, x); n != 0 {
					t.Fatalf("scene %d, core %d: %v = %d", i, id, x, n)
				}
			}
			same(t, s, before, id)
		}
	}
	for _, id := range []int{-1, 0, 1, 7, 8, math.MaxInt} {
		c := port.OfCore(nil, id)
		if c == nil {
			t.Fatal("OfCore of no soc is nil")
		}
		for _, x := range accesses(plan) {
			if n := do(c, x); n != 0 {
				t.Fatalf("no soc: %v = %d", x, n)
			}
		}
	}
}

// first returns e, or OK if it is the other one.
func first(e, other api.Errno) api.Errno {
	if e == other {
		return api.OK
	}
	return e
}

// P14.1: a port keeps nothing of what its core was: it follows when the core is held and started.
func TestCoreFollows(t *testing.T) {
	s := made(t, site.Plan{Cores: 2, Words: 2, Locks: 1}, 4)
	c, again := port.OfCore(s, 0), port.OfCore(s, 0)
	c.Store(0, 5)
	loads(t, again, 0, 5)
	ok(t, s.Hold(0))
	c.Store(1, 6)
	loads(t, c, 0, 0)
	ok(t, s.Start(0))
	loads(t, c, 0, 0)
	loads(t, c, 1, 0)
	c.Store(1, 6)
	loads(t, again, 1, 6)
	again.Fence()
	looks(t, s, 0, 6)
	s.Clone().Write(0, 0, 9)
	loads(t, c, 0, 0)
}

// plain is a Plain by the text of the chapter.
type plain struct{ words, epochs, kicks []int }

// word returns the word of n, found without wrap.
func word(n int) int { return ((n % 65536) + 65536) % 65536 }

// wordsOf returns the words of numbers.
func wordsOf(list []int) []int {
	var l []int
	for _, n := range list {
		l = append(l, word(n))
	}
	return l
}

// do makes an access and returns its result.
func (m *plain) do(x access) int {
	switch x.name {
	case "load":
		if 0 <= x.at && x.at < len(m.words) {
			return m.words[x.at]
		}
	case "store":
		if 0 <= x.at && x.at < len(m.words) {
			m.words[x.at] = word(x.w)
		}
	case "epoch":
		if 0 <= x.at && x.at < len(m.epochs) {
			return m.epochs[x.at]
		}
	case "kick":
		m.kicks = append(m.kicks, x.at)
	}
	return 0
}

// expect compares the lists of a Plain.
func expect(t *testing.T, p *port.Plain, words, kicks []int) {
	t.Helper()
	if l := p.Words(); !slices.Equal(l, words) {
		t.Fatalf("Words() = %v, want %v", l, words)
	}
	if l := p.Kicks(); !slices.Equal(l, kicks) {
		t.Fatalf("Kicks() = %v, want %v", l, kicks)
	}
}

// P14.2: every number of words and epochs is reduced to its word, and found at its address and core only.
func TestOfWords(t *testing.T) {
	all := append(append([]int{5, 6}, words...), noWords...)
	for n := range len(all) + 1 {
		for _, m := range []int{0, 1, 2, len(all)} {
			p := port.OfWords(all[:n], all[len(all)-m:])
			expect(t, p, wordsOf(all[:n]), nil)
			for i := range n {
				loads(t, p, i, word(all[i]))
			}
			for i := range m {
				epochs(t, p, i, word(all[len(all)-m+i]))
			}
			for _, no := range far {
				loads(t, p, no, 0)
				epochs(t, p, no, 0)
			}
			for _, a := range []int{-1, n, n + 1, 65536, 65536 + n - 1} {
				loads(t, p, a, 0)
				p.Store(a, 7)
			}
			epochs(t, p, m, 0)
			epochs(t, p, m+1, 0)
			expect(t, p, wordsOf(all[:n]), nil)
		}
	}
}

// P14.2: sequences of accesses of all kinds.
func TestPlainSequences(t *testing.T) {
	for seed := range uint32(40) {
		draw := drawer(seed)
		var list, counts []int
		for range draw(5) {
			list = append(list, draw(1<<20)-1<<19)
		}
		for range draw(4) {
			counts = append(counts, draw(1<<20)-1<<19)
		}
		p, m := port.OfWords(list, counts), &plain{words: wordsOf(list), epochs: wordsOf(counts)}
		for range 300 {
			x := access{[]string{"load", "store", "fence", "epoch", "kick"}[draw(5)], draw(8) - 2, draw(1<<20) - 1<<19}
			if draw(5) == 0 {
				x.at = far[draw(len(far))]
			}
			if draw(5) == 0 {
				x.w = noWords[draw(len(noWords))]
			}
			if n, want := do(p, x), m.do(x); n != want {
				t.Fatalf("%v = %d, want %d", x, n, want)
			}
			expect(t, p, m.words, m.kicks)
		}
	}
}

// P14.2: a store is stored immediately, as the word of its number.
func TestPlainStore(t *testing.T) {
	for _, w := range append(words, noWords...) {
		p := port.OfWords([]int{1, 2, 3}, []int{4})
		p.Store(1, w)
		expect(t, p, []int{1, word(w), 3}, nil)
		p.Fence()
		p.Store(0, w)
		p.Store(2, w)
		expect(t, p, []int{word(w), word(w), word(w)}, nil)
		epochs(t, p, 0, 4)
	}
}

// P14.2: Kick appends any number, also one that was rung before.
func TestPlainKick(t *testing.T) {
	p := port.OfWords([]int{1}, []int{2, 3})
	var want []int
	for _, to := range append([]int{0, 1, 2, 1, 0, 0, 65535, 65536}, far...) {
		p.Kick(to)
		want = append(want, to)
		expect(t, p, []int{1}, want)
	}
	epochs(t, p, 0, 2)
	epochs(t, p, 1, 3)
}

// P14.2: lists without elements.
func TestPlainOfNothing(t *testing.T) {
	for _, p := range []*port.Plain{port.OfWords(nil, nil), port.OfWords([]int{}, []int{}), port.OfWords(make([]int, 0, 4), nil)} {
		if p == nil {
			t.Fatal("OfWords is nil")
		}
		for _, i := range append([]int{0, 1}, far...) {
			loads(t, p, i, 0)
			epochs(t, p, i, 0)
			p.Store(i, 5)
		}
		p.Fence()
		expect(t, p, nil, nil)
		p.Kick(0)
		expect(t, p, nil, []int{0})
	}
}

// P14.2: the arguments are neither kept nor changed, and what lies behind their ends is not touched.
func TestOfWordsKeepsNoList(t *testing.T) {
	list, counts := []int{-1, 2, 3, 99, 98}, []int{65537, 5, 97}
	p := port.OfWords(list[:3], counts[:2])
	list[1], counts[1] = 50, 60
	expect(t, p, []int{65535, 2, 3}, nil)
	epochs(t, p, 1, 5)
	epochs(t, p, 2, 0)
	p.Store(0, 7)
	p.Store(3, 8)
	if !slices.Equal(list, []int{-1, 50, 3, 99, 98}) || !slices.Equal(counts, []int{65537, 60, 97}) {
		t.Fatal(list, counts)
	}
	one := []int{1, 2, 3}
	both := port.OfWords(one, one)
	both.Store(1, 9)
	epochs(t, both, 1, 2)
	loads(t, both, 1, 9)
}

// P14.2: Words and Kicks return new lists.
func TestPlainListsAreNew(t *testing.T) {
	p := port.OfWords([]int{1, 2, 3}, nil)
	for i := range 5 {
		p.Kick(i)
	}
	l, k := p.Words(), p.Kicks()
	l[0], k[0] = 70, 71
	_, _ = append(l, 72), append(k, 73)
	expect(t, p, []int{1, 2, 3}, []int{0, 1, 2, 3, 4})
	l, k = p.Words(), p.Kicks()
	p.Store(1, 74)
	p.Kick(75)
	if !slices.Equal(l, []int{1, 2, 3}) || !slices.Equal(k, []int{0, 1, 2, 3, 4}) {
		t.Fatal(l, k)
	}
	_ = append(k, 76)
	expect(t, p, []int{1, 74, 3}, []int{0, 1, 2, 3, 4, 75})
}

// P14.2: two of them share nothing.
func TestPlainsAreIndependent(t *testing.T) {
	list := []int{1, 2}
	a, b := port.OfWords(list, list), port.OfWords(list, list)
	a.Store(0, 9)
	a.Kick(4)
	expect(t, a, []int{9, 2}, []int{4})
	expect(t, b, []int{1, 2}, nil)
}

// probe is a port of somebody else: it lists the accesses and answers each with the next number.
type probe struct {
	list []access
	n    int
}

func (p *probe) add(x access) int {
	p.list = append(p.list, x)
	p.n -= 100001
	return p.n
}

func (p *probe) Load(a int) int     { return p.add(access{"load", a, 0}) }
func (p *probe) Store(a, w int)     { p.add(access{"store", a, w}) }
func (p *probe) Fence()             { p.add(access{"fence", 0, 0}) }
func (p *probe) Epoch(core int) int { return p.add(access{"epoch", core, 0}) }
func (p *probe) Kick(to int)        { p.add(access{"kick", to, 0}) }

// touch returns what is recorded of an access with that result.
func touch(x access, n int) port.Touch {
	switch x.name {
	case "load":
		return port.Touch{Kind: 1, At: x.at, Word: n}
	case "store":
		return port.Touch{Kind: 2, At: x.at, Word: x.w}
	case "fence":
		return port.Touch{Kind: 3}
	case "epoch":
		return port.Touch{Kind: 4, At: x.at, Word: n}
	case "kick":
		return port.Touch{Kind: 5, At: x.at}
	}
	panic(x.name)
}

// touches compares what a trace has recorded.
func touches(t *testing.T, x *port.Trace, want ...port.Touch) {
	t.Helper()
	if l := x.Touches(); !slices.Equal(l, want) {
		t.Fatalf("Touches() = %v, want %v", l, want)
	}
}

// some returns accesses of all kinds, with ordinary and with far arguments.
func some() []access {
	list := []access{{"store", 1, 65537}, {"load", 1, 0}, {"load", 2, 0}, {"kick", 1, 0}, {"epoch", 0, 0}, {"fence", 0, 0}, {"load", 1, 0}, {"store", 0, 8}, {"fence", 0, 0}, {"epoch", 1, 0}, {"kick", 7, 0}, {"store", 65536, 0}, {"load", 0, 0}}
	for i, n := range far {
		list = append(list, access{"load", n, 0}, access{"epoch", n, 0}, access{"kick", n, 0}, access{"store", n, i}, access{"store", i % 3, n})
	}
	return list
}

// P14.3: each access is forwarded once, with its arguments, in order, its result is returned, and it is recorded.
func TestTracedForwards(t *testing.T) {
	p, twin := &probe{}, &probe{}
	x := port.Traced(p)
	touches(t, x)
	var list []port.Touch
	for i, a := range some() {
		n, want := do(x, a), do(twin, a)
		if n != want {
			t.Fatalf("%v = %d, want %d", a, n, want)
		}
		if !slices.Equal(p.list, some()[:i+1]) {
			t.Fatalf("forwarded: %v", p.list)
		}
		list = append(list, touch(a, want))
		touches(t, x, list...)
	}
}

// P14.3: traces of each of the three kinds of port, with the results that the same port has without a trace.
func TestTracedOfEachKind(t *testing.T) {
	s := made(t, site.Plan{Cores: 2, Words: 3, Locks: 1}, 4)
	ok(t, s.Hold(0))
	ok(t, s.Start(0))
	held := s.Clone()
	ok(t, held.Hold(1))
	pairs := map[string][2]port.Port{
		"a core":         {port.OfCore(s, 1), port.OfCore(s.Clone(), 1)},
		"a held core":    {port.OfCore(held, 1), port.OfCore(held.Clone(), 1)},
		"no core":        {port.OfCore(s.Clone(), 2), port.OfCore(s.Clone(), 2)},
		"a plain":        {port.OfWords([]int{5, 6}, []int{-1}), port.OfWords([]int{5, 6}, []int{-1})},
		"a trace":        {port.Traced(port.OfWords([]int{5, 6}, []int{-1})), port.OfWords([]int{5, 6}, []int{-1})},
		"a trace of nil": {port.Traced(nil), port.OfWords(nil, nil)},
	}
	for name, pair := range pairs {
		x := port.Traced(pair[0])
		var list []port.Touch
		for _, a := range some() {
			n, want := do(x, a), do(pair[1], a)
			if n != want {
				t.Fatalf("%s: %v = %d, want %d", name, a, n, want)
			}
			list = append(list, touch(a, want))
		}
		touches(t, x, list...)
		if inner, is := pair[0].(*port.Trace); is {
			touches(t, inner, list...)
		}
	}
}

// P14.3: what a trace of a core changes in the soc.
func TestTracedCore(t *testing.T) {
	s := made(t, site.Plan{Cores: 2, Words: 3, Locks: 1}, 4)
	x := port.Traced(port.OfCore(s, 1))
	x.Store(2, 7)
	waits(t, s, 1, 2+7i)
	loads(t, x, 2, 7)
	x.Fence()
	looks(t, s, 0, 0, 7)
	x.Kick(0)
	rung(t, s, 0, 2, 1)
	x.Store(2, 65536)
	loads(t, x, 2, 7)
	loads(t, x, 65792, 0)
	epochs(t, x, 1, 0)
	touches(t, x, port.Touch{Kind: 2, At: 2, Word: 7}, port.Touch{Kind: 1, At: 2, Word: 7}, port.Touch{Kind: 3}, port.Touch{Kind: 5},
		port.Touch{Kind: 2, At: 2, Word: 65536}, port.Touch{Kind: 1, At: 2, Word: 7}, port.Touch{Kind: 1, At: 65792}, port.Touch{Kind: 4, At: 1})
}

// P14.3: without a port nothing is loaded or done, but every access is recorded.
func TestTracedOfNil(t *testing.T) {
	nils := []port.Port{nil, (*port.Core)(nil), (*port.Plain)(nil), (*port.Trace)(nil), port.OfCore(nil, 0)}
	for _, p := range nils {
		x := port.Traced(p)
		if x == nil {
			t.Fatal("Traced is nil")
		}
		var list []port.Touch
		for _, a := range some() {
			if n := do(x, a); n != 0 {
				t.Fatalf("%v = %d", a, n)
			}
			list = append(list, touch(a, 0))
		}
		touches(t, x, list...)
	}
}

// P14.3: Touches returns a new list.
func TestTouchesAreNew(t *testing.T) {
	x := port.Traced(port.OfWords([]int{5, 6, 7}, nil))
	var want []port.Touch
	for i := range 3 {
		loads(t, x, i, 5+i)
		want = append(want, port.Touch{Kind: 1, At: i, Word: 5 + i})
	}
	l := x.Touches()
	l[1] = port.Touch{Kind: 9, At: 9, Word: 9}
	_ = append(l, l[1])
	touches(t, x, want...)
	l = x.Touches()
	x.Fence()
	if !slices.Equal(l, want) {
		t.Fatal(l)
	}
	_ = append(l, port.Touch{Kind: 9})
	touches(t, x, append(want, port.Touch{Kind: 3})...)
}

// P14.3: two traces of one port record only their own accesses.
func TestTracesAreIndependent(t *testing.T) {
	p := port.OfWords([]int{5}, nil)
	a, b := port.Traced(p), port.Traced(p)
	a.Store(0, 8)
	loads(t, b, 0, 8)
	p.Store(0, 9)
	touches(t, a, port.Touch{Kind: 2, Word: 8})
	touches(t, b, port.Touch{Kind: 1, Word: 8})
}

// P14.3: many traces, each of the one before.
func TestTracesInTraces(t *testing.T) {
	p := port.OfWords([]int{5}, []int{6})
	list := []*port.Trace{port.Traced(p)}
	for range 1000 {
		list = append(list, port.Traced(list[len(list)-1]))
	}
	x := list[len(list)-1]
	loads(t, x, 0, 5)
	x.Store(0, 7)
	epochs(t, x, 0, 6)
	x.Kick(3)
	for _, y := range list {
		touches(t, y, port.Touch{Kind: 1, Word: 5}, port.Touch{Kind: 2, Word: 7}, port.Touch{Kind: 4, Word: 6}, port.Touch{Kind: 5, At: 3})
	}
	expect(t, p, []int{7}, []int{3})
}

// The methods of a nil pointer return zero values and have no effect.
func TestNilPorts(t *testing.T) {
	for _, p := range []port.Port{(*port.Core)(nil), (*port.Plain)(nil), (*port.Trace)(nil)} {
		for _, x := range append(some(), accesses(plans[1])...) {
			if n := do(p, x); n != 0 {
				t.Fatalf("%T: %v = %d", p, x, n)
			}
		}
	}
	if l := (*port.Plain)(nil).Words(); len(l) != 0 {
		t.Fatal(l)
	}
	if l := (*port.Plain)(nil).Kicks(); len(l) != 0 {
		t.Fatal(l)
	}
	if l := (*port.Trace)(nil).Touches(); len(l) != 0 {
		t.Fatal(l)
	}
}

// hollow is a port that panics with every access, since it embeds none.
type hollow struct{ port.Port }

// P1: a trace does not panic, whatever it forwards to; the access is then one that is not possible.
func TestTracedOfPanics(t *testing.T) {
	for _, p := range []port.Port{hollow{}, &hollow{}, (*hollow)(nil), (*probe)(nil)} {
		x := port.Traced(p)
		var list []port.Touch
		for _, a := range some() {
			if n := do(x, a); n != 0 {
				t.Fatalf("%v = %d", a, n)
			}
			list = append(list, touch(a, 0))
		}
		touches(t, x, list...)
	}
}

// P1: no access panics, whatever its arguments are.
func TestNoPanic(t *testing.T) {
	numbers := append(append([]int{0, 1, 2, 8, 65536, 65538, 65792, 66048}, far...), noWords...)
	for _, n := range numbers {
		s := made(t, plans[1], 1)
		for _, p := range []port.Port{port.OfCore(s, n), port.OfCore(s, 0), port.OfWords([]int{n}, []int{n}), port.OfWords(numbers, numbers)} {
			for _, a := range numbers {
				for _, q := range []port.Port{p, port.Traced(p)} {
					for _, name := range []string{"load", "store", "fence", "epoch", "kick"} {
						do(q, access{name, a, n})
					}
				}
			}
		}
	}
}

// drawer returns a function that returns numbers in 0 to n-1, of a sequence that depends on the seed.
func drawer(seed uint32) func(n int) int {
	return func(n int) int {
		seed = seed*1664525 + 1013904223
		return int(seed>>8) % n
	}
}
