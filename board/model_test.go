package board_test

import (
	"math"
	"slices"
	"testing"

	"switchyard/api"
	"switchyard/board"
	"switchyard/diary"
	"switchyard/giver"
	"switchyard/plot"
	"switchyard/port"
	"switchyard/site"
	"switchyard/soc"
	"switchyard/taker"
)

// far holds numbers that are no cores, kinds, handles or words. Some of them have the low bits of such a number.
var far = []int{-2, -3, -8, -64, -65535, -65536, 65537, 131072, 1<<31 - 1, 1 << 31, 1<<32 - 1, 1 << 32, 1<<32 + 1, -1 << 32, 1 - 1<<32, 1 << 62, math.MinInt, math.MinInt + 1, math.MaxInt - 1, math.MaxInt}

// The events, each with the fields that it uses only.
func step(core int) board.Event         { return board.Event{Kind: 1, Core: core} }
func drain(core int) board.Event        { return board.Event{Kind: 2, Core: core} }
func recv(core, peer int) board.Event   { return board.Event{Kind: 4, Core: core, Peer: peer} }
func hold(core int) board.Event         { return board.Event{Kind: 6, Core: core} }
func start(core int) board.Event        { return board.Event{Kind: 7, Core: core} }
func write(core, at, w int) board.Event { return board.Event{Kind: 8, Core: core, At: at, Word: w} }
func send(core, peer int, load ...int) board.Event {
	return board.Event{Kind: 3, Core: core, Peer: peer, Load: load}
}
func release(core, peer, handle int) board.Event {
	return board.Event{Kind: 5, Core: core, Peer: peer, Handle: handle}
}

// Addresses that are no words of the memory, where the text of chapter 8 has them.
func bellAt(core int) int { return 65536 + 16*core + 2 }
func gateAt(core int) int { return 66048 + core }

const lockAt = 65792

// words of a channel, where the text of chapter 13 has them.
type words struct{ base, ring int }

// wordsOf returns the words of the channel from one core to another one.
func wordsOf(c api.Conf, from, to int) words {
	n := 0
	for i := range c.Cores {
		for k := range c.Cores {
			if i == from && k == to {
				return words{n, c.Ring}
			}
			if i != k {
				n += 4 + 11*c.Ring
			}
		}
	}
	panic("no such channel")
}

func (c words) pe() int           { return c.base }
func (c words) ce() int           { return c.base + 1 }
func (c words) ai() int           { return c.base + 2 }
func (c words) ui() int           { return c.base + 3 }
func (c words) avail(i int) int   { return c.base + 4 + i%c.ring }
func (c words) used(i int) int    { return c.base + 4 + c.ring + i%c.ring }
func (c words) len(d int) int     { return c.base + 4 + 2*c.ring + d }
func (c words) load(d, i int) int { return c.base + 4 + 3*c.ring + 8*d + i }

// channel leads from one core to another one.
type channel struct{ from, to int }

// listener is a port that notes the words that were loaded through it.
type listener struct {
	port.Port
	loads []int
}

func (l *listener) Load(a int) int {
	w := l.Port.Load(a)
	l.loads = append(l.loads, w)
	return w
}

// progress is a call in progress: its place in the history, the step of its machine, the words that were loaded, how many of them are no words of a message, the number of its steps, and its channel.
type progress struct {
	entry int
	step  func(p port.Port) (bool, api.Errno)
	loads []int
	skip  int
	steps int
	way   channel
}

// model is a board by the text of the chapter. What it has received it takes from the accesses, and it counts the generations of the slots itself.
type model struct {
	conf    api.Conf
	s       *soc.Soc
	now     int
	givers  map[channel]*giver.Giver
	takers  map[channel]*taker.Taker
	given   map[channel]*[64]int
	calls   map[int]*progress
	history []diary.Entry
	// most is the greatest number of steps of a call that has ended.
	most int
}

// modelled returns the model of a new board.
func modelled(t testing.TB, c api.Conf) *model {
	t.Helper()
	s, e := soc.New(site.Plan{Cores: c.Cores, Words: c.Cores * (c.Cores - 1) * (4 + 11*c.Ring), Locks: 1}, c.Buf)
	if e != api.OK {
		t.Fatal(c, e)
	}
	m := &model{conf: c, s: s, givers: map[channel]*giver.Giver{}, takers: map[channel]*taker.Taker{}, given: map[channel]*[64]int{}, calls: map[int]*progress{}}
	for core := range c.Cores {
		m.build(core)
	}
	return m
}

// build makes the machines of a core.
func (m *model) build(core int) {
	own, _ := m.s.Epoch(core)
	for peer := range m.conf.Cores {
		if peer == core {
			continue
		}
		there, back := channel{core, peer}, channel{peer, core}
		m.givers[there] = giver.New(plot.Plot{Base: wordsOf(m.conf, core, peer).base, Ring: m.conf.Ring}, core, peer, own)
		m.takers[back] = taker.New(plot.Plot{Base: wordsOf(m.conf, peer, core).base, Ring: m.conf.Ring}, core, peer, own)
		m.given[back] = &[64]int{}
	}
}

// wreck removes the machines of a core, and its call.
func (m *model) wreck(core int) {
	for peer := range m.conf.Cores {
		delete(m.givers, channel{core, peer})
		delete(m.takers, channel{peer, core})
	}
	delete(m.calls, core)
}

// exists reports whether there is such a core.
func (m *model) exists(core int) bool { return 0 <= core && core < m.conf.Cores }

// do processes an event.
func (m *model) do(x board.Event) api.Errno {
	m.now++
	switch x.Kind {
	case 1:
		return m.step(x.Core)
	case 2:
		_, e := m.s.Drain(x.Core)
		return e
	case 3, 4, 5:
		return m.call(x)
	case 6:
		e := m.s.Hold(x.Core)
		if e == api.OK {
			m.wreck(x.Core)
		}
		return e
	case 7:
		e := m.s.Start(x.Core)
		if e == api.OK {
			m.build(x.Core)
		}
		return e
	case 8:
		return m.s.Write(x.Core, x.At, x.Word)
	}
	return api.ErrArg
}

// call begins a call.
func (m *model) call(x board.Event) api.Errno {
	if !m.exists(x.Core) || !m.exists(x.Peer) {
		return api.ErrCore
	}
	if !m.s.Up(x.Core) {
		return api.ErrOff
	}
	if x.Core == x.Peer {
		return api.ErrArg
	}
	if m.calls[x.Core] != nil {
		return api.ErrBusy
	}
	there, back := channel{x.Core, x.Peer}, channel{x.Peer, x.Core}
	entry := diary.Entry{Core: x.Core, Peer: x.Peer, Kind: x.Kind - 2, Begin: m.now}
	c := &progress{entry: len(m.history), way: back}
	var e api.Errno
	switch x.Kind {
	case 3:
		entry.Load, c.way, c.step = slices.Clone(x.Load), there, m.givers[there].Step
		e = m.givers[there].Send(x.Load)
	case 4:
		// Ai, Avail and Len are loaded ahead of a message, and Pe for a new link.
		c.skip = 3
		if !m.takers[back].Linked() {
			c.skip = 4
		}
		c.step = m.takers[back].Step
		e = m.takers[back].Recv()
	case 5:
		entry.Handle, c.step = x.Handle, m.takers[back].Step
		e = m.takers[back].Release(x.Handle)
	}
	if e == api.OK {
		m.history = append(m.history, entry)
		m.calls[x.Core] = c
	}
	return e
}

// step makes a step of the core's call.
func (m *model) step(core int) api.Errno {
	if !m.exists(core) {
		return api.ErrCore
	}
	if !m.s.Up(core) {
		return api.ErrOff
	}
	c := m.calls[core]
	if c == nil {
		return api.ErrIdle
	}
	l := &listener{Port: port.OfCore(m.s, core)}
	done, e := c.step(l)
	c.loads = append(c.loads, l.loads...)
	c.steps++
	if !done {
		return api.OK
	}
	delete(m.calls, core)
	m.most = max(m.most, c.steps)
	x := &m.history[c.entry]
	x.End, x.Err = m.now, e
	if x.Kind == 2 && e == api.OK {
		slot := c.loads[c.skip-2]
		m.given[c.way][slot]++
		x.Load = slices.Clone(c.loads[c.skip:])
		x.Handle = m.given[c.way][slot]%65536*64 + slot
	}
	return api.OK
}

// run steps the core until its call has ended.
func (m *model) run(core int) (int, api.Errno) {
	for n := 1; ; n++ {
		c := m.calls[core]
		if e := m.do(step(core)); e != api.OK {
			return 0, e
		}
		if m.calls[core] == nil {
			return n, m.history[c.entry].Err
		}
	}
}

// pair is a board and its model.
type pair struct {
	t testing.TB
	b *board.Board
	m *model
}

// made returns a new board.
func made(t testing.TB, cores, ring, buf int) *board.Board {
	t.Helper()
	b, e := board.New(api.Conf{Cores: cores, Ring: ring, Buf: buf})
	if b == nil || e != api.OK {
		t.Fatal(cores, ring, buf, e)
	}
	return b
}

// paired returns a new board and its model.
func paired(t testing.TB, cores, ring, buf int) *pair {
	t.Helper()
	p := &pair{t, made(t, cores, ring, buf), modelled(t, api.Conf{Cores: cores, Ring: ring, Buf: buf})}
	p.compare()
	return p
}

// compare compares all that can be asked of the board.
func (p *pair) compare() {
	p.t.Helper()
	if p.b.Now() != p.m.now || p.b.Conf() != p.m.conf {
		p.t.Fatalf("now %d, %+v, want %d, %+v", p.b.Now(), p.b.Conf(), p.m.now, p.m.conf)
	}
	if l := p.b.Diary(); !diary.Same(l, p.m.history) {
		p.t.Fatalf("at %d the history is %v, want %v", p.m.now, l, p.m.history)
	}
	if !soc.Same(p.b.Soc(), p.m.s) {
		p.t.Fatalf("at %d the soc is not that of the model", p.m.now)
	}
	for i := -1; i <= p.m.conf.Cores; i++ {
		if p.b.Busy(i) != (p.m.calls[i] != nil) {
			p.t.Fatalf("at %d Busy(%d) = %v", p.m.now, i, p.b.Busy(i))
		}
		for k := -1; k <= p.m.conf.Cores; k++ {
			p.channel(i, k)
		}
	}
}

// channel compares what can be asked of a channel, whether it exists or not.
func (p *pair) channel(from, to int) {
	p.t.Helper()
	// A machine that does not exist is nil here, and a nil machine has no slots and no link.
	g, k := p.m.givers[channel{from, to}], p.m.takers[channel{from, to}]
	free, out, held := p.b.Slots(from, to)
	if !slices.Equal(free, g.Free()) || !slices.Equal(out, g.Out()) || !slices.Equal(held, k.Held()) {
		p.t.Fatalf("at %d Slots(%d, %d) = %v, %v, %v, want %v, %v, %v", p.m.now, from, to, free, out, held, g.Free(), g.Out(), k.Held())
	}
	giver, taker := p.b.Linked(from, to)
	if giver != g.Linked() || taker != k.Linked() {
		p.t.Fatalf("at %d Linked(%d, %d) = %v, %v, want %v, %v", p.m.now, from, to, giver, taker, g.Linked(), k.Linked())
	}
}

// do processes an event in both, compares them, and returns the result.
func (p *pair) do(x board.Event) api.Errno {
	p.t.Helper()
	want := p.m.do(x)
	if e := p.b.Do(x); e != want {
		p.t.Fatalf("at %d %+v has the result %d, want %d", p.m.now, x, e, want)
	}
	p.compare()
	return want
}

// does processes events in both, with results that must be this.
func (p *pair) does(want api.Errno, l ...board.Event) {
	p.t.Helper()
	for _, x := range l {
		if e := p.do(x); e != want {
			p.t.Fatalf("at %d %+v has the result %d, want %d", p.m.now, x, e, want)
		}
	}
}

// steps makes so many steps of the core in both.
func (p *pair) steps(core, n int) {
	p.t.Helper()
	for range n {
		p.does(api.OK, step(core))
	}
}

// runs runs the core in both, with a result that must be this.
func (p *pair) runs(core, steps int, want api.Errno) {
	p.t.Helper()
	mn, me := p.m.run(core)
	n, e := p.b.Run(core)
	if n != mn || e != me || n != steps || e != want {
		p.t.Fatalf("Run(%d) = %d, %d, want %d, %d (the model: %d, %d)", core, n, e, steps, want, mn, me)
	}
	p.compare()
}

// ends makes a whole call in both, with a result that must be this.
func (p *pair) ends(want api.Errno, x board.Event) {
	p.t.Helper()
	p.does(api.OK, x)
	for p.b.Busy(x.Core) {
		p.does(api.OK, step(x.Core))
	}
	if e := p.last().Err; e != want {
		p.t.Fatalf("%+v ended with %d, want %d", x, e, want)
	}
}

// last returns the last entry of the history.
func (p *pair) last() diary.Entry {
	l := p.b.Diary()
	return l[len(l)-1]
}

// is compares the last entry of the history.
func (p *pair) is(want diary.Entry) {
	p.t.Helper()
	if x := p.last(); !diary.Same([]diary.Entry{x}, []diary.Entry{want}) {
		p.t.Fatalf("the entry is %+v, want %+v", x, want)
	}
}

// slots compares the slots of a channel.
func (p *pair) slots(from, to int, free, out, held []int) {
	p.t.Helper()
	slotsAre(p.t, p.b, from, to, free, out, held)
}

// slotsAre compares the slots of a channel.
func slotsAre(t testing.TB, b *board.Board, from, to int, free, out, held []int) {
	t.Helper()
	f, o, h := b.Slots(from, to)
	if !slices.Equal(f, free) || !slices.Equal(o, out) || !slices.Equal(h, held) {
		t.Fatalf("Slots(%d, %d) = %v, %v, %v, want %v, %v, %v", from, to, f, o, h, free, out, held)
	}
}

// linkedAre compares whether the ends of a channel are linked.
func linkedAre(t testing.TB, b *board.Board, from, to int, giver, taker bool) {
	t.Helper()
	if g, k := b.Linked(from, to); g != giver || k != taker {
		t.Fatalf("Linked(%d, %d) = %v, %v, want %v, %v", from, to, g, k, giver, taker)
	}
}

// all processes events, each of which must be accepted.
func all(t testing.TB, b *board.Board, l ...board.Event) {
	t.Helper()
	for _, x := range l {
		if e := b.Do(x); e != api.OK {
			t.Fatalf("%+v has the result %d", x, e)
		}
	}
}

// finish makes a whole call, with a result that must be this.
func finish(t testing.TB, b *board.Board, want api.Errno, x board.Event) {
	t.Helper()
	all(t, b, x)
	if _, e := b.Run(x.Core); e != want {
		t.Fatalf("%+v ended with %d, want %d", x, e, want)
	}
}

// ram returns the words of the memory of a board.
func ram(b *board.Board) []int {
	r := b.Soc().Ram()
	l, _ := r.Span(0, r.Size())
	return l
}

// upTo returns the numbers from 0 on, so many.
func upTo(n int) []int {
	l := make([]int, n)
	for i := range l {
		l[i] = i
	}
	return l
}

// dice are numbers that follow from each other, the same ones in every run.
type dice uint64

// roll returns one of n numbers from 0 on.
func (d *dice) roll(n int) int {
	*d = *d*6364136223846793005 + 1442695040888963407
	return int(*d>>33) % n
}
