package giver_test

import (
	"slices"
	"testing"

	"switchyard/api"
	"switchyard/giver"
	"switchyard/plot"
	"switchyard/port"
)

// words of a channel, where the text of chapter 13 has them.
type words struct{ base, ring int }

func (c words) pe() int           { return c.base }
func (c words) ce() int           { return c.base + 1 }
func (c words) ai() int           { return c.base + 2 }
func (c words) ui() int           { return c.base + 3 }
func (c words) avail(i int) int   { return c.base + 4 + i%c.ring }
func (c words) used(i int) int    { return c.base + 4 + c.ring + i%c.ring }
func (c words) len(d int) int     { return c.base + 4 + 2*c.ring + d }
func (c words) load(d, i int) int { return c.base + 4 + 3*c.ring + 8*d + i }

// memory is a port that notes every access, and runs a hook ahead of each.
type memory struct {
	words   map[int]int
	epochs  [8]int
	touches []port.Touch
	ahead   func(m *memory)
}

func (m *memory) note(kind, at, w int) {
	m.touches = append(m.touches, port.Touch{Kind: kind, At: at, Word: w})
}

func (m *memory) come() {
	if m.ahead != nil {
		m.ahead(m)
	}
}

func (m *memory) Load(a int) int {
	m.come()
	m.note(1, a, m.words[a])
	return m.words[a]
}

func (m *memory) Store(a, w int) {
	m.come()
	m.note(2, a, w)
	m.words[a] = w
}

func (m *memory) Fence() {
	m.come()
	m.note(3, 0, 0)
}

func (m *memory) Epoch(core int) int {
	m.come()
	m.note(4, core, m.epochs[core])
	return m.epochs[core]
}

func (m *memory) Kick(to int) {
	m.come()
	m.note(5, to, 0)
}

// view is what can be asked of a giver.
type view struct {
	busy, linked bool
	free, out    []int
	bound        int
}

// look asks a giver.
func look(g *giver.Giver) view {
	return view{g.Busy(), g.Linked(), g.Free(), g.Out(), g.Bound()}
}

func (v view) same(w view) bool {
	return v.busy == w.busy && v.linked == w.linked && v.bound == w.bound && slices.Equal(v.free, w.free) && slices.Equal(v.out, w.out)
}

// model is a giver by the text of the chapter. It makes a whole call at once.
type model struct {
	words
	peer, own    int
	known        []int // nothing, or the known epoch
	linked, busy bool
	free, out    []int
	next, tail   int
}

// modelled returns a new model.
func modelled(base, ring, peer, own int) *model {
	m := &model{words: words{base, ring}, peer: peer, own: own}
	if own == 0 {
		m.known = []int{0}
	}
	m.initial()
	return m
}

// initial is the initial state, but for the known epoch.
func (m *model) initial() {
	m.linked, m.next, m.tail, m.free, m.out = false, 0, 0, nil, nil
	for i := range m.ring {
		m.free = append(m.free, i)
	}
}

// epoch is the link epoch.
func (m *model) epoch() int { return (m.own + m.known[0]) % 65536 }

// send makes a call.
func (m *model) send(p port.Port, load []int) api.Errno {
	m.busy = true
	defer func() { m.busy = false }()
	e := p.Epoch(m.peer)
	if len(m.known) == 0 || e != m.known[0] {
		m.known = []int{e}
		p.Store(m.ai(), 0)
		p.Store(m.pe(), m.epoch())
		p.Fence()
		m.initial()
		return api.ErrReset
	}
	if !m.linked {
		if p.Load(m.ce()) != m.epoch() {
			return api.ErrDown
		}
		m.linked = true
	}
	result := m.room(p)
	if result == api.OK {
		m.write(p, load)
	}
	if p.Epoch(m.peer) != m.known[0] {
		return api.ErrReset
	}
	if result == api.OK {
		m.next = (m.next + 1) % 65536
	}
	return result
}

// room is step 4.
func (m *model) room(p port.Port) api.Errno {
	returned := (p.Load(m.ui()) + 65536 - m.tail) % 65536
	if returned > len(m.out) {
		return api.ErrCorrupt
	}
	for range returned {
		s := p.Load(m.used(m.tail))
		if !slices.Contains(m.out, s) {
			return api.ErrCorrupt
		}
		m.out = slices.DeleteFunc(m.out, func(d int) bool { return d == s })
		m.free = append(m.free, s)
		m.tail = (m.tail + 1) % 65536
	}
	if len(m.free) == 0 {
		return api.ErrFull
	}
	m.out = append(m.out, m.free[0])
	m.free = m.free[1:]
	return api.OK
}

// write is steps 5 and 6.
func (m *model) write(p port.Port, load []int) {
	d := m.out[len(m.out)-1]
	for i, w := range load {
		p.Store(m.load(d, i), w)
	}
	p.Store(m.len(d), len(load))
	p.Store(m.avail(m.next), d)
	p.Fence()
	p.Store(m.ai(), (m.next+1)%65536)
	p.Fence()
	p.Kick(m.peer)
}

// view is what can be asked of the model.
func (m *model) view() view {
	return view{m.busy, m.linked, slices.Clone(m.free), slices.Clone(m.out), m.ring + 18}
}

// pair is a giver and its model, with memories of their own that are the same.
type pair struct {
	t      testing.TB
	g      *giver.Giver
	m      *model
	gm, mm *memory
	// between runs ahead of each step of the giver, if it is there.
	between func()
}

// paired returns a new giver and its model, in memories of zeros.
func paired(t testing.TB, base, ring, self, peer, own int) *pair {
	t.Helper()
	p := &pair{t: t, g: giver.New(plot.Plot{Base: base, Ring: ring}, self, peer, own), m: modelled(base, ring, peer, own)}
	if p.g == nil {
		t.Fatalf("New({%d %d}, %d, %d, %d) is nil", base, ring, self, peer, own)
	}
	p.gm, p.mm = &memory{words: map[int]int{}}, &memory{words: map[int]int{}}
	return p
}

// set stores words in both memories.
func (p *pair) set(a int, list ...int) {
	for i, w := range list {
		p.gm.words[a+i], p.mm.words[a+i] = w, w
	}
}

// peerEpoch sets the peer's epoch in both memories.
func (p *pair) peerEpoch(n int) { p.gm.epochs[p.m.peer], p.mm.epochs[p.m.peer] = n, n }

// use gives both memories a hook, which must do the same for both.
func (p *pair) use(ahead func(m *memory)) { p.gm.ahead, p.mm.ahead = ahead, ahead }

// atLast changes the peer's epoch ahead of the last of a call's accesses of it.
func (p *pair) atLast(n int) {
	p.use(func(m *memory) {
		if len(m.touches) > 0 {
			m.epochs[p.m.peer] = n
		}
	})
}

// send makes a call of both, and compares every step: that it makes one access, the same one, and leaves the same state. It returns the result.
func (p *pair) send(load ...int) api.Errno {
	p.t.Helper()
	var views []view
	p.gm.touches, p.mm.touches = nil, nil
	want := p.m.send(watched{p.mm, func() { views = append(views, p.m.view()) }}, load)
	views = append(views, p.m.view())
	if e := p.g.Send(load); e != api.OK {
		p.t.Fatalf("Send(%v) = %d", load, e)
	}
	for i, touch := range p.mm.touches {
		p.expect(views[i])
		if p.between != nil {
			p.between()
		}
		done, e := p.g.Step(p.gm)
		if len(p.gm.touches) != i+1 || p.gm.touches[i] != touch {
			p.t.Fatalf("accesses %v after %d steps, want %v", p.gm.touches, i+1, p.mm.touches[:i+1])
		}
		last := i == len(p.mm.touches)-1
		if done != last || last && e != want || !last && e != api.OK {
			p.t.Fatalf("step %d of %d: %v, %d, want %v, %d at the end", i+1, len(p.mm.touches), done, e, last, want)
		}
	}
	p.expect(views[len(views)-1])
	if len(p.gm.touches) > p.g.Bound() {
		p.t.Fatalf("%d accesses, bound %d", len(p.gm.touches), p.g.Bound())
	}
	return want
}

// fast makes a call of both, and compares the results and the accesses only.
func (p *pair) fast(want api.Errno, load ...int) {
	p.t.Helper()
	p.gm.touches, p.mm.touches = nil, nil
	if e := p.m.send(p.mm, load); e != want {
		p.t.Fatalf("the model's send(%v) = %d, want %d", load, e, want)
	}
	if e := finish(p.t, p.g, p.gm, load...); e != want || !slices.Equal(p.gm.touches, p.mm.touches) {
		p.t.Fatalf("Send(%v) ended with %d after %v, want %d after %v", load, e, p.gm.touches, want, p.mm.touches)
	}
}

// finish makes a call through a port, and returns its result.
func finish(t testing.TB, g *giver.Giver, p port.Port, load ...int) api.Errno {
	t.Helper()
	if e := g.Send(load); e != api.OK {
		t.Fatalf("Send(%v) = %d", load, e)
	}
	for range g.Bound() {
		done, e := g.Step(p)
		if done {
			return e
		}
		if e != api.OK {
			t.Fatalf("error %d ahead of the end", e)
		}
	}
	t.Fatalf("the call has not ended after %d accesses", g.Bound())
	return api.OK
}

// sends makes a call of both, with a result that must be this.
func (p *pair) sends(want api.Errno, load ...int) {
	p.t.Helper()
	if e := p.send(load...); e != want {
		p.t.Fatalf("Send(%v) ended with %d, want %d", load, e, want)
	}
}

// expect compares what can be asked of the giver.
func (p *pair) expect(want view) {
	p.t.Helper()
	if v := look(p.g); !v.same(want) {
		p.t.Fatalf("after the accesses %v: %+v, want %+v", p.gm.touches, v, want)
	}
}

// slots compares the slots that are free and out.
func (p *pair) slots(free, out []int) {
	p.t.Helper()
	if !slices.Equal(p.g.Free(), free) || !slices.Equal(p.g.Out(), out) {
		p.t.Fatalf("free %v, out %v, want %v, %v", p.g.Free(), p.g.Out(), free, out)
	}
}

// watched is a port that runs a function ahead of each access.
type watched struct {
	port  port.Port
	ahead func()
}

func (w watched) Load(a int) int {
	w.ahead()
	return w.port.Load(a)
}

func (w watched) Store(a, n int) {
	w.ahead()
	w.port.Store(a, n)
}

func (w watched) Fence() {
	w.ahead()
	w.port.Fence()
}

func (w watched) Epoch(core int) int {
	w.ahead()
	return w.port.Epoch(core)
}

func (w watched) Kick(to int) {
	w.ahead()
	w.port.Kick(to)
}

// dice are numbers that follow from each other, the same ones in every run.
type dice uint64

// roll returns one of n numbers from 0 on.
func (d *dice) roll(n int) int {
	*d = *d*6364136223846793005 + 1442695040888963407
	return int(*d>>33) % n
}
