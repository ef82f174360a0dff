package taker_test

import (
	"slices"
	"testing"

	"switchyard/api"
	"switchyard/plot"
	"switchyard/port"
	"switchyard/taker"
)

// words of a channel, where the text of chapter 13 has them.
type words struct{ base, ring int }

func (c words) pe() int           { return c.base }
func (c words) ce() int           { return c.base + 1 }
func (c words) ai() int           { return c.base + 2 }
func (c words) ui() int           { return c.base + 3 }
func (c words) avail(i int) int   { return c.base + 4 + i%c.ring }
func (c words) used(i int) int    { return c.base + 4 + c.ring + i%c.ring }
func (c words) len(d int) int     { return c.base + 4 + 2*c.ring + d }
func (c words) load(d, i int) int { return c.base + 4 + 3*c.ring + 8*d + i }

// memory is a port that notes every access. Ahead of each it runs its hooks, if they are there: one that may change it, and one that watches.
type memory struct {
	words   map[int]int
	epochs  [8]int
	touches []port.Touch
	change  func(m *memory)
	watch   func()
}

// empty returns a memory of zeros.
func empty() *memory { return &memory{words: map[int]int{}} }

// touch makes an access of a kind that a trace has, with the word that is stored, and returns the one that is read.
func (m *memory) touch(kind, at, w int) int {
	if m.change != nil {
		m.change(m)
	}
	if m.watch != nil {
		m.watch()
	}
	switch kind {
	case 1:
		w = m.words[at]
	case 2:
		m.words[at] = w
	case 4:
		w = m.epochs[at]
	}
	m.touches = append(m.touches, port.Touch{Kind: kind, At: at, Word: w})
	return w
}

func (m *memory) Load(a int) int     { return m.touch(1, a, 0) }
func (m *memory) Store(a, w int)     { m.touch(2, a, w) }
func (m *memory) Fence()             { m.touch(3, 0, 0) }
func (m *memory) Epoch(core int) int { return m.touch(4, core, 0) }
func (m *memory) Kick(to int)        { m.touch(5, to, 0) }

// what is a call: a Recv, or the Release of a handle.
type what struct {
	release bool
	handle  int
}

// begin begins the call of a taker.
func (x what) begin(k *taker.Taker) api.Errno {
	if x.release {
		return k.Release(x.handle)
	}
	return k.Recv()
}

// view is what can be asked of a taker with up to 64 slots.
type view struct {
	busy, linked bool
	held         [64]bool
	generations  [64]int
	got          []int
	handle       int
}

// handleOf returns the handle that a slot has while it is held.
func (v *view) handleOf(slot int) int { return v.generations[slot]*64 + slot }

// slots returns the held slots.
func (v *view) slots() []int {
	var list []int
	for i, held := range v.held {
		if held {
			list = append(list, i)
		}
	}
	return list
}

// model is a taker by the text of the chapter. It makes a whole call at once.
type model struct {
	words
	peer, own  int
	known      []int // nothing, or the known epoch
	head, used int
	view
}

// modelled returns a new model.
func modelled(base, ring, peer, own int) *model {
	m := &model{words: words{base, ring}, peer: peer, own: own}
	if own == 0 {
		m.known = []int{0}
	}
	return m
}

// epoch is the link epoch.
func (m *model) epoch() int { return (m.own + m.known[0]) % 65536 }

// find returns the held slot with the handle, or -1.
func (m *model) find(handle int) int {
	for i, held := range m.held {
		if held && m.handleOf(i) == handle {
			return i
		}
	}
	return -1
}

// do makes a call, or returns ErrHandle if there is no such call.
func (m *model) do(p port.Port, x what) api.Errno {
	s := -1
	if x.release {
		if s = m.find(x.handle); s < 0 {
			return api.ErrHandle
		}
		m.held[s] = false
	}
	m.busy, m.got, m.handle = true, nil, 0
	defer func() { m.busy = false }()
	e := p.Epoch(m.peer)
	if len(m.known) == 0 || e != m.known[0] {
		m.known = []int{e}
		p.Store(m.ui(), 0)
		p.Store(m.ce(), m.epoch())
		p.Fence()
		m.linked, m.head, m.used, m.held = false, 0, 0, [64]bool{}
		return api.ErrReset
	}
	if !m.linked {
		if p.Load(m.pe()) != m.epoch() {
			return api.ErrDown
		}
		m.linked = true
	}
	if x.release {
		m.giveBack(p, s)
		if p.Epoch(m.peer) != m.known[0] {
			return api.ErrReset
		}
		m.used = (m.used + 1) % 65536
		return api.OK
	}
	d, load, result := m.look(p)
	if p.Epoch(m.peer) != m.known[0] {
		return api.ErrReset
	}
	if result == api.OK {
		m.head = (m.head + 1) % 65536
		m.generations[d] = (m.generations[d] + 1) % 65536
		m.held[d] = true
		if h := m.handleOf(d); h != 0 {
			m.got, m.handle = load, h
		}
	}
	return result
}

// look is steps 4 and 5.
func (m *model) look(p port.Port) (d int, load []int, e api.Errno) {
	waiting := (p.Load(m.ai()) + 65536 - m.head) % 65536
	if waiting == 0 {
		return 0, nil, api.ErrEmpty
	}
	if waiting > m.ring-len(m.slots()) {
		return 0, nil, api.ErrCorrupt
	}
	d = p.Load(m.avail(m.head))
	if d >= m.ring || m.held[d] {
		return 0, nil, api.ErrCorrupt
	}
	n := p.Load(m.len(d))
	if n > 8 {
		return 0, nil, api.ErrCorrupt
	}
	for i := range n {
		load = append(load, p.Load(m.load(d, i)))
	}
	return d, load, api.OK
}

// giveBack is step 6.
func (m *model) giveBack(p port.Port, s int) {
	p.Store(m.words.used(m.used), s)
	p.Fence()
	p.Store(m.ui(), (m.used+1)%65536)
	p.Fence()
}

// pair is a taker and its model, with memories of their own that are the same.
type pair struct {
	t      testing.TB
	k      *taker.Taker
	m      *model
	km, mm *memory
	// between runs ahead of each step of the taker, if it is there.
	between func()
}

// paired returns a new taker and its model, in memories of zeros.
func paired(t testing.TB, base, ring, self, peer, own int) *pair {
	t.Helper()
	p := &pair{t: t, k: taker.New(plot.Plot{Base: base, Ring: ring}, self, peer, own), m: modelled(base, ring, peer, own), km: empty(), mm: empty()}
	if p.k == nil {
		t.Fatalf("New({%d %d}, %d, %d, %d) is nil", base, ring, self, peer, own)
	}
	return p
}

// set stores words in both memories.
func (p *pair) set(a int, list ...int) {
	for i, w := range list {
		p.km.words[a+i], p.mm.words[a+i] = w, w
	}
}

// peerEpoch sets the peer's epoch in both memories.
func (p *pair) peerEpoch(n int) { p.km.epochs[p.m.peer], p.mm.epochs[p.m.peer] = n, n }

// use gives both memories a hook that changes them, which must do the same for both.
func (p *pair) use(change func(m *memory)) { p.km.change, p.mm.change = change, change }

// atLast changes the peer's epoch ahead of the last of a call's accesses of it.
func (p *pair) atLast(n int) {
	p.use(func(m *memory) {
		if len(m.touches) > 0 {
			m.epochs[p.m.peer] = n
		}
	})
}

// ahead sets Ai to so many messages ahead of HEAD.
func (p *pair) ahead(n int) { p.set(p.m.ai(), (p.m.head+n+65536)%65536) }

// message lets a message be in a slot, as the only one that waits.
func (p *pair) message(d int, load ...int) {
	p.set(p.m.avail(p.m.head), d)
	p.set(p.m.len(d), len(load))
	p.set(p.m.load(d, 0), load...)
	p.ahead(1)
}

// expect compares all that can be asked of the taker.
func (p *pair) expect(want view) {
	p.t.Helper()
	load, handle := p.k.Got()
	if p.k.Busy() != want.busy || p.k.Linked() != want.linked || !slices.Equal(load, want.got) || handle != want.handle || p.k.Bound() != 15 {
		p.t.Fatalf("after the accesses %v: busy %v, linked %v, got %v and %d, bound %d, want %+v", p.km.touches, p.k.Busy(), p.k.Linked(), load, handle, p.k.Bound(), want)
	}
	if held := p.k.Held(); !slices.Equal(held, want.slots()) {
		p.t.Fatalf("after the accesses %v: held %v, want %v", p.km.touches, held, want.slots())
	}
	for i := range p.m.ring {
		for n := -1; n <= 1; n++ {
			s, ok := p.k.Slot(want.handleOf(i) + 64*n)
			if right := n == 0 && want.held[i]; ok != right || right && s != i || !right && s != 0 {
				p.t.Fatalf("after the accesses %v: Slot(%d) = %d, %v", p.km.touches, want.handleOf(i)+64*n, s, ok)
			}
		}
	}
}

// do makes a call of both, and compares every step: that it makes one access, the same one, and leaves the same state. It returns the result.
func (p *pair) do(x what) api.Errno {
	p.t.Helper()
	var views []view
	p.km.touches, p.mm.touches = nil, nil
	p.mm.watch = func() { views = append(views, p.m.view) }
	want := p.m.do(p.mm, x)
	views = append(views, p.m.view)
	if e := x.begin(p.k); e != api.OK {
		p.t.Fatalf("%+v has begun with %d", x, e)
	}
	for i, touch := range p.mm.touches {
		p.expect(views[i])
		if p.between != nil {
			p.between()
		}
		done, e := p.k.Step(p.km)
		if len(p.km.touches) != i+1 || p.km.touches[i] != touch {
			p.t.Fatalf("accesses %v after %d steps, want %v", p.km.touches, i+1, p.mm.touches[:i+1])
		}
		last := i == len(p.mm.touches)-1
		if done != last || last && e != want || !last && e != api.OK {
			p.t.Fatalf("step %d of %d: %v, %d, want %v, %d at the end", i+1, len(p.mm.touches), done, e, last, want)
		}
	}
	p.expect(views[len(views)-1])
	return want
}

// does makes a call of both, with a result that must be this.
func (p *pair) does(want api.Errno, x what) {
	p.t.Helper()
	if e := p.do(x); e != want {
		p.t.Fatalf("%+v ended with %d after %v, want %d", x, e, p.km.touches, want)
	}
}

// recvs makes a Recv of both, with a result that must be this.
func (p *pair) recvs(want api.Errno) {
	p.t.Helper()
	p.does(want, what{})
}

// releases makes a Release of a held slot of both, with a result that must be this.
func (p *pair) releases(want api.Errno, slot int) {
	p.t.Helper()
	p.does(want, what{true, p.m.handleOf(slot)})
}

// refuses compares the result of a Release that begins no call, and that it changes nothing.
func (p *pair) refuses(want api.Errno, handle int) {
	p.t.Helper()
	if e := p.k.Release(handle); e != want {
		p.t.Fatalf("Release(%d) = %d, want %d", handle, e, want)
	}
	p.expect(p.m.view)
}

// fast makes a call of both, and compares the results and the accesses only.
func (p *pair) fast(want api.Errno, x what) {
	p.t.Helper()
	p.km.touches, p.mm.touches, p.mm.watch = nil, nil, nil
	if e := p.m.do(p.mm, x); e != want {
		p.t.Fatalf("the model's %+v ended with %d, want %d", x, e, want)
	}
	if e := finish(p.t, p.k, p.km, x); e != want || !slices.Equal(p.km.touches, p.mm.touches) {
		p.t.Fatalf("%+v ended with %d after %v, want %d after %v", x, e, p.km.touches, want, p.mm.touches)
	}
}

// finish makes a call through a port, and returns its result.
func finish(t testing.TB, k *taker.Taker, p port.Port, x what) api.Errno {
	t.Helper()
	if e := x.begin(k); e != api.OK {
		t.Fatalf("%+v has begun with %d", x, e)
	}
	for range 15 {
		done, e := k.Step(p)
		if done {
			return e
		}
		if e != api.OK {
			t.Fatalf("error %d ahead of the end", e)
		}
	}
	t.Fatal("the call has not ended after 15 accesses")
	return api.OK
}

// dice are numbers that follow from each other, the same ones in every run.
type dice uint64

// roll returns one of n numbers from 0 on.
func (d *dice) roll(n int) int {
	*d = *d*6364136223846793005 + 1442695040888963407
	return int(*d>>33) % n
}
