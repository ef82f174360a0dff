package taker_test

import (
	"math"
	"slices"
	"testing"

	"switchyard/api"
	"switchyard/giver"
	"switchyard/plot"
	"switchyard/port"
	"switchyard/site"
	"switchyard/soc"
	"switchyard/taker"
)

var rings = []int{2, 4, 8, 16, 32, 64}

// far holds numbers that are no rings, bases, cores, words or epochs. Some of them have the low bits of such a number.
var far = []int{-2, -4, -64, -65, -65535, -65536, -65537, 131072, 131074, 1<<31 - 1, 1 << 31, 1<<32 - 1, 1 << 32, 1<<32 + 1, 1<<32 + 2, -1 << 32, 2 - 1<<32, 1 << 62, math.MinInt, math.MinInt + 1, math.MinInt + 2, math.MaxInt - 1, math.MaxInt}

// The accesses, as a trace has them.
func loads(a, w int) port.Touch     { return port.Touch{Kind: 1, At: a, Word: w} }
func stores(a, w int) port.Touch    { return port.Touch{Kind: 2, At: a, Word: w} }
func fences() port.Touch            { return port.Touch{Kind: 3} }
func epochs(core, n int) port.Touch { return port.Touch{Kind: 4, At: core, Word: n} }

// reads returns the accesses that find Ai and read a message in slot d, with HEAD.
func reads(c words, head, ai, d int, load ...int) []port.Touch {
	list := []port.Touch{loads(c.ai(), ai), loads(c.avail(head), d), loads(c.len(d), len(load))}
	for i, w := range load {
		list = append(list, loads(c.load(d, i), w))
	}
	return list
}

// returns returns the accesses that return slot s, with USED.
func returns(c words, used, s int) []port.Touch {
	return []port.Touch{stores(c.used(used), s), fences(), stores(c.ui(), (used+1)%65536), fences()}
}

// upTo returns the numbers from 0 on, so many.
func upTo(n int) []int {
	list := make([]int, n)
	for i := range list {
		list[i] = i
	}
	return list
}

// accesses compares the accesses of the last call.
func (p *pair) accesses(want ...port.Touch) {
	p.t.Helper()
	if !slices.Equal(p.km.touches, want) {
		p.t.Fatalf("accesses %v, want %v", p.km.touches, want)
	}
}

// asks compares the accesses of the last call, ahead of which and behind which the peer's epoch is read.
func (p *pair) asks(n int, want ...port.Touch) {
	p.t.Helper()
	ask := []port.Touch{epochs(p.m.peer, n)}
	p.accesses(slices.Concat(ask, want, ask)...)
}

// holds compares the held slots.
func (p *pair) holds(want ...int) {
	p.t.Helper()
	if !slices.Equal(p.k.Held(), want) {
		p.t.Fatalf("held %v, want %v", p.k.Held(), want)
	}
}

// filled returns a pair that has received a message in each of so many slots of its ring, in their order, and that is linked.
func filled(t testing.TB, ring, slots int) *pair {
	t.Helper()
	p := paired(t, 100, ring, 2, 5, 0)
	p.recvs(api.ErrEmpty)
	for d := range slots {
		p.message(d, d)
		p.recvs(api.OK)
	}
	p.holds(upTo(slots)...)
	return p
}

// The example of the chapter.
func TestExample(t *testing.T) {
	for _, ring := range rings {
		p := paired(t, 0, ring, 1, 0, 0)
		p.recvs(api.ErrEmpty)
		p.accesses(epochs(0, 0), loads(0, 0), loads(2, 0), epochs(0, 0))
	}
}

// P17.1: every taker that the limits allow is in the initial state.
func TestNew(t *testing.T) {
	if api.MaxRing != 64 || api.MaxWords != 65536 || api.MaxCores != 8 || api.MaxLoad != 8 {
		t.Fatal(api.MaxRing, api.MaxWords, api.MaxCores, api.MaxLoad)
	}
	for _, ring := range rings {
		for _, base := range []int{0, 1, 26, 999, 32768, 65534, 65535} {
			for i := range 64 {
				for _, own := range []int{0, 1, 32767, 65534, 65535} {
					if i/8 != i%8 {
						p := paired(t, base, ring, i/8, i%8, own)
						p.expect(view{})
						p.refuses(api.ErrHandle, 0)
					}
				}
			}
		}
	}
}

// P17.1: the neighbours of the limits, and the numbers far from them.
func TestNewOfNothing(t *testing.T) {
	none := func(base, ring, self, peer, own int) {
		t.Helper()
		if taker.New(plot.Plot{Base: base, Ring: ring}, self, peer, own) != nil {
			t.Errorf("New({%d %d}, %d, %d, %d) is a taker", base, ring, self, peer, own)
		}
	}
	for ring := -200; ring <= 300; ring++ {
		if !slices.Contains(rings, ring) {
			none(0, ring, 0, 1, 0)
		}
	}
	for _, n := range append([]int{256, 1024, 65536, 1 << 20}, far...) {
		none(0, n, 0, 1, 0)
	}
	for _, n := range append([]int{-1, 65536, 65537}, far...) {
		none(n, 2, 0, 1, 0)
		none(0, 2, 0, 1, n)
	}
	for _, n := range append([]int{-1, 8, 9, 10, 16, 255, 256}, far...) {
		for core := range 8 {
			none(0, 2, n, core, 0)
			none(0, 2, core, n, 0)
		}
		none(0, 2, n, n, 0)
	}
	for core := range 8 {
		none(0, 2, core, core, 0)
	}
	none(-1, 0, 9, 9, -1)
}

// P17.1, P17.3: a taker accesses its own channel and asks for its own peer, wherever the channel is and whichever cores it joins.
func TestNewChannels(t *testing.T) {
	for _, base := range []int{0, 1, 26, 999, 65000, 65534, 65535} {
		for _, ring := range rings {
			for i := range 64 {
				if self, peer := i/8, i%8; self != peer {
					p := paired(t, base, ring, self, peer, 0)
					for core := range 8 {
						p.km.epochs[core], p.mm.epochs[core] = 7, 7
					}
					p.peerEpoch(0)
					p.message(1, 11, 12)
					p.recvs(api.OK)
					c := words{base, ring}
					p.asks(0, append([]port.Touch{loads(base, 0)}, reads(c, 0, 1, 1, 11, 12)...)...)
					p.releases(api.OK, 1)
					p.asks(0, stores(base+4+ring, 1), fences(), stores(base+3, 1), fences())
				}
			}
		}
	}
}

// P17.2, P17.3: a Recv of every number of words up to the limit, with words at the limits, and the Release of its slot.
func TestRecv(t *testing.T) {
	for n := range 9 {
		for _, w := range []int{0, 1, 255, 256, 32768, 65534, 65535} {
			p := paired(t, 10, 4, 0, 1, 0)
			load := slices.Repeat([]int{w}, n)
			p.message(3, load...)
			p.recvs(api.OK)
			p.asks(0, append([]port.Touch{loads(10, 0)}, reads(p.m.words, 0, 1, 3, load...)...)...)
			if got, h := p.k.Got(); !slices.Equal(got, load) || h != 64+3 {
				t.Fatal(got, h)
			}
			p.holds(3)
			p.releases(api.OK, 3)
			p.asks(0, returns(p.m.words, 0, 3)...)
			p.holds()
		}
	}
}

// P17.3, step 5: the words in their order, each at its index, and no more than there are.
func TestRecvWords(t *testing.T) {
	for n := range 9 {
		p := paired(t, 10, 4, 0, 1, 0)
		p.message(2, 65535, 0, 3, 4, 65534, 6, 7, 8)
		p.set(p.m.len(2), n)
		p.recvs(api.OK)
		if got, h := p.k.Got(); !slices.Equal(got, []int{65535, 0, 3, 4, 65534, 6, 7, 8}[:n]) || h != 66 {
			t.Fatal(got, h)
		}
		if len(p.km.touches) != 6+n {
			t.Fatal(p.km.touches)
		}
	}
}

// P17.3: messages in all slots, in every rotation and backwards, and Releases in another order.
func TestSeveral(t *testing.T) {
	for _, ring := range rings {
		for by := range ring {
			list := append(upTo(ring)[by:], upTo(by)...)
			p := paired(t, 100, ring, 2, 5, 0)
			p.recvs(api.ErrEmpty)
			for round := range 3 {
				for i, d := range list {
					p.set(p.m.avail(round*ring+i), d)
					p.set(p.m.len(d), d%9)
					p.set(p.m.load(d, 0), slices.Repeat([]int{100*i + d}, d%9)...)
				}
				p.ahead(ring)
				for i, d := range list {
					p.recvs(api.OK)
					p.asks(0, reads(p.m.words, round*ring+i, (round+1)*ring, d, slices.Repeat([]int{100*i + d}, d%9)...)...)
				}
				p.holds(upTo(ring)...)
				slices.Reverse(list)
				for i, d := range list {
					p.releases(api.OK, d)
					p.asks(0, returns(p.m.words, round*ring+i, d)...)
				}
				p.holds()
			}
		}
	}
}

// P17.2: during a call, of which nothing changes, and after one.
func TestBusy(t *testing.T) {
	p := filled(t, 4, 3)
	other := p.m.handleOf(1)
	p.between = func() {
		if e := p.k.Recv(); e != api.ErrBusy {
			t.Fatalf("Recv() = %d during a call", e)
		}
		for _, h := range []int{other, 0, -1, 1, 65, 66, 67, 129, math.MinInt, math.MaxInt} {
			if e := p.k.Release(h); e != api.ErrBusy {
				t.Fatalf("Release(%d) = %d during a call", h, e)
			}
		}
	}
	p.message(3, 1, 2, 3)
	p.recvs(api.OK)
	p.recvs(api.ErrEmpty)
	p.releases(api.OK, 2)
	p.ahead(2)
	p.recvs(api.ErrCorrupt)
	p.releases(api.OK, 3)
	p.atLast(6)
	p.releases(api.ErrReset, 0)
	p.recvs(api.ErrReset)
	p.recvs(api.ErrDown)
	p.peerEpoch(6)
	p.set(p.m.pe(), 6)
	p.use(nil)
	p.recvs(api.ErrCorrupt)
	p.message(1)
	p.recvs(api.OK)
}

// P17.2: a Release of anything but a held slot's handle, which changes nothing.
func TestReleaseErrors(t *testing.T) {
	none := append([]int{0, -1, 1, 63, 64, 65, 66, 67, 68, 128, 129, 64 * 65535, 64 * 65536, 64*65536 + 65, 1<<32 + 65}, far...)
	p := paired(t, 10, 4, 0, 1, 0)
	refused := func() {
		t.Helper()
		for _, h := range none {
			if p.m.find(h) < 0 {
				p.refuses(api.ErrHandle, h)
			}
		}
		if done, e := p.k.Step(p.km); !done || e != api.ErrIdle {
			t.Fatalf("a call has begun: %v, %d", done, e)
		}
	}
	refused()
	p.recvs(api.ErrEmpty)
	refused()
	p.message(1, 8)
	p.recvs(api.OK)
	refused()
	if load, h := p.k.Got(); !slices.Equal(load, []int{8}) || h != 65 {
		t.Fatal(load, h)
	}
	p.message(2, 9)
	p.recvs(api.OK)
	refused()
	p.releases(api.OK, 1)
	p.refuses(api.ErrHandle, 65)
	refused()
	p.message(1, 7)
	p.recvs(api.OK)
	// Slot 1 is held again, with another generation.
	p.refuses(api.ErrHandle, 65)
	p.refuses(api.ErrHandle, 193)
	refused()
	p.does(api.OK, what{true, 129})
	p.refuses(api.ErrHandle, 129)
	p.peerEpoch(3)
	p.recvs(api.ErrReset)
	// The new link has made the handle of slot 2 void.
	p.refuses(api.ErrHandle, 66)
	refused()
	p.set(p.m.pe(), 3)
	p.message(2, 4)
	p.recvs(api.OK)
	p.refuses(api.ErrHandle, 66)
	refused()
	p.does(api.OK, what{true, 130})
	refused()
}

// P17.2: a Release that begins frees its slot at once, and keeps it free whatever the result is.
func TestReleaseAtOnce(t *testing.T) {
	for _, own := range []int{0, 9} {
		for s := range 4 {
			for _, scene := range []struct {
				early, late bool
				want        api.Errno
			}{{false, false, api.OK}, {true, false, api.ErrReset}, {false, true, api.ErrReset}} {
				p := paired(t, 100, 4, 2, 5, own)
				p.set(p.m.pe(), own)
				p.do(what{})
				for d := range 4 {
					p.message(d, d)
					p.recvs(api.OK)
				}
				h := p.m.handleOf(s)
				if scene.early {
					p.peerEpoch(1)
				}
				if scene.late {
					p.atLast(1)
				}
				left := slices.DeleteFunc(upTo(4), func(d int) bool { return d == s })
				ahead := true
				p.between = func() {
					if d, ok := p.k.Slot(h); d != 0 || ok || !slices.Equal(p.k.Held(), left) {
						t.Fatal(d, ok, p.k.Held())
					}
					ahead = false
				}
				p.does(scene.want, what{true, h})
				if ahead {
					t.Fatal("no step")
				}
				if scene.early {
					left = nil
				}
				p.holds(left...)
				p.refuses(api.ErrHandle, h)
			}
		}
	}
}

// P17.3: without a call in progress there is no access.
func TestStepIdle(t *testing.T) {
	p := paired(t, 0, 2, 0, 1, 0)
	idle := func() {
		t.Helper()
		n := len(p.km.touches)
		for range 3 {
			for _, q := range []port.Port{p.km, nil, (*port.Plain)(nil), bad{}} {
				if done, e := p.k.Step(q); !done || e != api.ErrIdle {
					t.Fatalf("Step() = %v, %d", done, e)
				}
			}
		}
		if len(p.km.touches) != n {
			t.Fatalf("accesses %v without a call", p.km.touches[n:])
		}
		p.expect(p.m.view)
	}
	idle()
	p.recvs(api.ErrEmpty)
	idle()
	p.message(1, 5)
	p.recvs(api.OK)
	idle()
	p.refuses(api.ErrHandle, 64)
	idle()
	p.ahead(9)
	p.recvs(api.ErrCorrupt)
	idle()
	p.releases(api.OK, 1)
	idle()
	p.peerEpoch(4)
	p.recvs(api.ErrReset)
	idle()
	p.recvs(api.ErrDown)
	idle()
}

// sums holds own epochs and epochs of a peer with the words of their sums.
var sums = [][3]int{{0, 1, 1}, {0, 65535, 65535}, {1, 0, 1}, {1, 1, 2}, {5, 0, 5}, {5, 7, 12}, {65535, 0, 65535}, {65535, 1, 0}, {65535, 2, 1}, {1, 65535, 0}, {2, 65535, 1}, {32768, 32768, 0}, {32768, 32767, 65535}, {32769, 32768, 1}, {65535, 65535, 65534}, {65534, 1, 65535}}

// P17.3, steps 1 and 2: a taker makes a new link with an epoch that it does not know, and one that knows none does so with any epoch.
func TestNewLink(t *testing.T) {
	for _, x := range sums {
		p := paired(t, 200, 4, 3, 6, x[0])
		p.peerEpoch(x[1])
		p.set(p.m.pe(), x[2])
		p.message(1, 2)
		p.recvs(api.ErrReset)
		p.accesses(epochs(6, x[1]), stores(203, 0), stores(201, x[2]), fences())
		p.expect(view{})
		p.recvs(api.OK)
		p.asks(x[1], append([]port.Touch{loads(200, x[2])}, reads(p.m.words, 0, 1, 1, 2)...)...)
		p.holds(1)
	}
}

// P17.3, step 1: a taker with the own epoch 0 knows the epoch 0, and needs no new link with it.
func TestKnownEpoch(t *testing.T) {
	p := paired(t, 200, 4, 3, 6, 0)
	p.set(p.m.pe(), 1)
	p.recvs(api.ErrDown)
	p.accesses(epochs(6, 0), loads(200, 1))
	for own := range 65535 {
		q := paired(t, 0, 2, 0, 1, own+1)
		q.fast(api.ErrReset, what{})
		q.accesses(epochs(1, 0), stores(3, 0), stores(1, own+1), fences())
	}
}

// An own epoch other than 0 knows no epoch at all, not even one that is no word.
func TestKnowsNone(t *testing.T) {
	for _, n := range append([]int{0, -1}, far...) {
		p := paired(t, 0, 2, 0, 1, 9)
		p.km.epochs[1] = n
		if e := finish(t, p.k, p.km, what{}); e != api.ErrReset || len(p.km.touches) != 4 {
			t.Fatal(n, e, p.km.touches)
		}
	}
}

// P17.3, step 2: the state changes behind the fence, in one step, and only the known epoch is kept, for a Recv and a Release.
func TestNewLinkState(t *testing.T) {
	for _, ring := range rings {
		for _, release := range []bool{false, true} {
			p := filled(t, ring, ring)
			p.releases(api.OK, 1)
			x, left := what{}, slices.Delete(upTo(ring), 1, 2)
			if release {
				x, left = what{true, p.m.handleOf(0)}, left[1:]
			}
			p.peerEpoch(9)
			if e := x.begin(p.k); e != api.OK {
				t.Fatal(e)
			}
			for i := range 4 {
				if !p.k.Busy() || !p.k.Linked() {
					t.Fatal(i, p.k.Busy(), p.k.Linked())
				}
				p.holds(left...)
				if done, e := p.k.Step(p.km); done != (i == 3) || done && e != api.ErrReset || !done && e != api.OK {
					t.Fatal(i, done, e)
				}
			}
			p.m.known, p.m.view = []int{9}, view{generations: p.m.generations}
			p.m.head, p.m.used = 0, 0
			p.expect(p.m.view)
			p.again(ring)
		}
	}
}

// again lets a taker with the new epoch 9 of its peer, whose link has just been made, receive and release from the beginning.
func (p *pair) again(ring int) {
	p.t.Helper()
	p.set(p.m.pe(), 8)
	p.recvs(api.ErrDown)
	p.accesses(epochs(5, 9), loads(100, 8))
	p.set(p.m.pe(), 9)
	p.ahead(0)
	p.recvs(api.ErrEmpty)
	p.asks(9, loads(100, 9), loads(102, 0))
	// HEAD is 0, and all slots can be received again; their generations go on.
	p.set(p.m.avail(0), upTo(ring)...)
	p.ahead(ring)
	p.recvs(api.OK)
	p.asks(9, reads(p.m.words, 0, ring, 0, 0)...)
	if _, h := p.k.Got(); h != 128 {
		p.t.Fatal(h)
	}
	p.recvs(api.OK)
	p.asks(9, reads(p.m.words, 1, ring, 1, 1)...)
	// USED is 0.
	p.releases(api.OK, 1)
	p.asks(9, returns(p.m.words, 0, 1)...)
	p.releases(api.OK, 0)
	p.asks(9, returns(p.m.words, 1, 0)...)
}

// P17.3, step 1: each other epoch makes a new link, also one that was known earlier.
func TestNewLinkAgain(t *testing.T) {
	p := paired(t, 0, 2, 0, 1, 3)
	for i, n := range []int{0, 1, 0, 65535, 0, 3, 2, 3, 65535, 65534} {
		p.peerEpoch(n)
		p.set(p.m.pe(), (n+4)%65536)
		if i%2 == 1 {
			p.releases(api.ErrReset, 1)
		} else {
			p.recvs(api.ErrReset)
		}
		p.recvs(api.ErrDown)
		p.set(p.m.pe(), (n+3)%65536)
		p.set(p.m.avail(0), 0, 1)
		p.ahead(2)
		p.recvs(api.OK)
		p.recvs(api.OK)
		p.releases(api.OK, 0)
		p.recvs(api.ErrEmpty)
	}
}

// P17.3, step 1: the epochs of other cores do not matter.
func TestOtherEpochs(t *testing.T) {
	p := paired(t, 0, 4, 2, 6, 0)
	p.use(func(m *memory) {
		for core := range m.epochs {
			if core != 6 {
				m.epochs[core]++
			}
		}
	})
	p.message(0, 1)
	p.recvs(api.OK)
	p.asks(0, append([]port.Touch{loads(0, 0)}, reads(p.m.words, 0, 1, 0, 1)...)...)
	p.releases(api.OK, 0)
	p.asks(0, returns(p.m.words, 0, 0)...)
}

// P17.3, step 3: a mark that is not the link epoch, and one that is.
func TestLink(t *testing.T) {
	for _, x := range sums {
		p := paired(t, 50, 2, 1, 0, x[0])
		p.peerEpoch(x[1])
		p.recvs(api.ErrReset)
		for _, mark := range []int{0, 1, 65535, x[0], x[1], (x[2] + 1) % 65536, (x[2] + 65535) % 65536, 65535 - x[2], x[2] ^ 256, x[2] ^ 32768} {
			if mark == x[2] {
				continue
			}
			p.set(p.m.pe(), mark)
			p.set(p.m.ce(), x[2])
			p.ahead(1)
			p.recvs(api.ErrDown)
			p.accesses(epochs(0, x[1]), loads(50, mark))
			p.expect(view{})
		}
		p.set(p.m.pe(), x[2])
		p.message(1, 4)
		p.recvs(api.OK)
		p.holds(1)
		// A linked taker does not look at the mark again.
		p.set(p.m.pe(), (x[2]+1)%65536)
		p.message(0, 5)
		p.recvs(api.OK)
		p.asks(x[1], reads(p.m.words, 1, 2, 0, 5)...)
		p.releases(api.OK, 1)
		p.asks(x[1], returns(p.m.words, 0, 1)...)
	}
}

// P17.3, step 3: a call that links and then fails leaves the taker linked, and the taker is linked ahead of step 4.
func TestLinkRemains(t *testing.T) {
	for _, ahead := range []int{0, 3} {
		p := paired(t, 50, 2, 1, 0, 0)
		p.ahead(ahead)
		want := api.ErrEmpty
		if ahead > 0 {
			want = api.ErrCorrupt
		}
		var linked []bool
		p.between = func() { linked = append(linked, p.k.Linked()) }
		p.recvs(want)
		p.asks(0, loads(50, 0), loads(52, ahead))
		if !slices.Equal(linked, []bool{false, false, true, true}) || !p.k.Linked() {
			t.Fatal(linked)
		}
		p.recvs(want)
		p.asks(0, loads(52, ahead))
		p.message(1)
		p.recvs(api.OK)
	}
}

// P17.3, step 3: a taker that is not linked holds no slot, so that no Release of it begins.
func TestUnlinkedRelease(t *testing.T) {
	p := filled(t, 4, 4)
	p.peerEpoch(1)
	p.releases(api.ErrReset, 2)
	for range 3 {
		for d := range 4 {
			p.refuses(api.ErrHandle, 64+d)
		}
		p.recvs(api.ErrDown)
	}
	p.set(p.m.pe(), 1)
	p.message(2)
	p.recvs(api.OK)
	p.does(api.OK, what{true, 130})
}

// P17.3, step 4: every distance of Ai from HEAD that there may be with that many slots held, and some that there may not be.
func TestLook(t *testing.T) {
	for _, ring := range rings {
		for _, held := range []int{0, 1, 2, ring / 2, ring - 1, ring} {
			for _, ahead := range []int{0, 1, 2, ring - held - 1, ring - held, ring - held + 1, ring - held + 2, ring, ring + 1, 32768, -1, -2, -ring} {
				p := filled(t, ring, held)
				p.set(p.m.avail(held), held%ring)
				p.ahead(ahead)
				want := api.OK
				switch {
				case ahead == 0:
					want = api.ErrEmpty
				case ahead < 0 || ahead > ring-held:
					want = api.ErrCorrupt
				}
				p.recvs(want)
				ai := (held + ahead + 65536) % 65536
				if want == api.OK {
					p.asks(0, reads(p.m.words, held, ai, held)...)
					p.holds(upTo(held + 1)...)
					continue
				}
				p.asks(0, loads(102, ai))
				p.expect(view{linked: true, held: p.m.held, generations: p.m.generations})
				p.holds(upTo(held)...)
			}
		}
	}
}

// P17.3, step 4: the slots that are not held are as many as the ring less those that are held, also if some of them were not returned.
func TestLookBehindReset(t *testing.T) {
	p := filled(t, 4, 4)
	p.atLast(1)
	p.releases(api.ErrReset, 2)
	p.peerEpoch(0)
	p.releases(api.ErrReset, 1)
	p.use(nil)
	p.peerEpoch(0)
	p.ahead(3)
	p.recvs(api.ErrCorrupt)
	p.ahead(2)
	p.set(p.m.avail(p.m.head), 1)
	p.recvs(api.OK)
	p.holds(0, 1, 3)
}

// P17.3, step 5: numbers at Avail that are no slot, that are a held one, and that are another one.
func TestAvail(t *testing.T) {
	for _, ring := range rings {
		numbers := append(upTo(ring), ring, ring+1, 64, 65, 128, 255, 256, 32768, 65534, 65535, 65536-ring)
		for _, d := range numbers {
			p := filled(t, ring, ring/2)
			c, head := p.m.words, ring/2
			p.set(c.avail(head), d)
			p.ahead(1)
			if d < ring {
				p.set(c.len(d), 1)
				p.set(c.load(d, 0), 77)
			}
			if d >= ring/2 && d < ring {
				p.recvs(api.OK)
				p.asks(0, reads(c, head, head+1, d, 77)...)
				p.holds(append(upTo(ring/2), d)...)
				continue
			}
			p.recvs(api.ErrCorrupt)
			p.asks(0, loads(c.ai(), head+1), loads(c.avail(head), d))
			p.expect(view{linked: true, held: p.m.held, generations: p.m.generations})
			// The next call is at the same place, and a slot that is no longer held can be received.
			if d < ring {
				p.releases(api.OK, d)
				p.recvs(api.OK)
				p.asks(0, reads(c, head, head+1, d, 77)...)
			}
		}
	}
}

// P17.3, step 5: numbers at Len up to the limit and beyond it.
func TestLen(t *testing.T) {
	for _, ring := range rings {
		for _, n := range []int{0, 1, 2, 7, 8, 9, 10, 16, 17, 255, 256, 32767, 32768, 65528, 65534, 65535} {
			p := filled(t, ring, 1)
			c := p.m.words
			p.message(1, 9, 8, 7, 6, 5, 4, 3, 2)
			p.set(c.len(1), n)
			if n <= 8 {
				p.recvs(api.OK)
				p.asks(0, reads(c, 1, 2, 1, []int{9, 8, 7, 6, 5, 4, 3, 2}[:n]...)...)
				p.holds(0, 1)
				continue
			}
			p.recvs(api.ErrCorrupt)
			p.asks(0, loads(c.ai(), 2), loads(c.avail(1), 1), loads(c.len(1), n))
			p.expect(view{linked: true, held: p.m.held, generations: p.m.generations})
			p.holds(0)
			p.set(c.len(1), 8)
			p.recvs(api.OK)
			p.asks(0, reads(c, 1, 2, 1, 9, 8, 7, 6, 5, 4, 3, 2)...)
		}
	}
}

// P17.3, step 7: the peer's epoch differs at the last access alone, with each of the results told by then.
func TestOver(t *testing.T) {
	scenes := []struct {
		want            api.Errno
		ahead, avail, n int
		release         bool
	}{{want: api.OK, ahead: 1, avail: 2, n: 3}, {want: api.OK, ahead: 2, avail: 3}, {want: api.ErrEmpty}, {want: api.ErrCorrupt, ahead: 3, avail: 2}, {want: api.ErrCorrupt, ahead: 1, avail: 4}, {want: api.ErrCorrupt, ahead: 1, avail: 1}, {want: api.ErrCorrupt, ahead: 1, avail: 2, n: 9}, {want: api.OK, release: true}}
	for i := range 6 * len(scenes) {
		scene, own, other := scenes[i/6], 7*(i/3%2), []int{1, 5, 65535}[i%3]
		for _, back := range []bool{false, true} {
			p := paired(t, 100, 4, 2, 5, own)
			p.set(p.m.pe(), own)
			p.do(what{})
			for d := range 2 {
				p.message(d, d)
				p.recvs(api.OK)
			}
			p.ahead(scene.ahead)
			p.set(p.m.avail(2), scene.avail)
			p.set(p.m.len(scene.avail), scene.n)
			p.atLast(other)
			x, held := what{}, []int{0, 1}
			if scene.release {
				x, held = what{true, 65}, []int{0}
			}
			p.does(api.ErrReset, x)
			if last := p.km.touches[len(p.km.touches)-1]; last != epochs(5, other) {
				t.Fatal(p.km.touches)
			}
			p.holds(held...)
			p.use(nil)
			if !back {
				// The epoch that differed is not known: the next call makes a new link with it.
				p.recvs(api.ErrReset)
				p.accesses(epochs(5, other), stores(103, 0), stores(101, (own+other)%65536), fences())
				p.holds()
				continue
			}
			// With the known epoch HEAD and USED are seen to be what they were.
			p.peerEpoch(0)
			p.message(3, 6, 6)
			p.recvs(api.OK)
			p.asks(0, reads(p.m.words, 2, 3, 3, 6, 6)...)
			if _, h := p.k.Got(); h != 67 {
				t.Fatal(h)
			}
			p.releases(api.OK, 0)
			p.asks(0, returns(p.m.words, 0, 0)...)
		}
	}
}

// P17.3, step 7: HEAD is incremented by a Recv with OK alone, and USED by a Release with OK alone.
func TestHeadAndUsed(t *testing.T) {
	p := paired(t, 100, 4, 2, 5, 0)
	head := func(n, d int) {
		t.Helper()
		p.set(p.m.avail(n), d)
		p.set(p.m.len(d), 0)
		p.ahead(1)
		p.recvs(api.OK)
		p.asks(0, reads(p.m.words, n, n+1, d)...)
	}
	used := func(n, s int) {
		t.Helper()
		p.releases(api.OK, s)
		p.asks(0, returns(p.m.words, n, s)...)
	}
	p.set(p.m.pe(), 1)
	p.recvs(api.ErrDown)
	p.set(p.m.pe(), 0)
	p.recvs(api.ErrEmpty)
	head(0, 3)
	head(1, 1)
	p.recvs(api.ErrEmpty)
	p.ahead(3)
	p.recvs(api.ErrCorrupt)
	used(0, 1)
	head(2, 1)
	p.message(1)
	p.recvs(api.ErrCorrupt)
	p.refuses(api.ErrHandle, 65)
	used(1, 3)
	p.message(2)
	p.set(p.m.len(2), 9)
	p.recvs(api.ErrCorrupt)
	used(2, 1)
	p.atLast(2)
	p.recvs(api.ErrReset)
	p.use(nil)
	p.peerEpoch(0)
	head(3, 0)
	head(4, 2)
	p.atLast(2)
	p.releases(api.ErrReset, 0)
	p.asksLast(2, returns(p.m.words, 3, 0)...)
	p.use(nil)
	p.peerEpoch(0)
	used(3, 2)
	head(5, 2)
	used(4, 2)
}

// asksLast compares the accesses of the last call, ahead of which the peer's epoch was 0, and behind which it differed.
func (p *pair) asksLast(n int, want ...port.Touch) {
	p.t.Helper()
	p.accesses(slices.Concat([]port.Touch{epochs(p.m.peer, 0)}, want, []port.Touch{epochs(p.m.peer, n)})...)
}

// P17.3: HEAD and USED pass 65535, with Ai at every distance there.
func TestWrapround(t *testing.T) {
	for _, ring := range rings {
		p := paired(t, 100, ring, 2, 5, 0)
		p.recvs(api.ErrEmpty)
		for i := range 65536 - 2*ring {
			d := i % ring
			p.message(d)
			p.fast(api.OK, what{})
			p.fast(api.OK, what{true, p.m.handleOf(d)})
		}
		for round := range 6 * ring {
			p.set(p.m.avail(p.m.head), round%ring)
			p.set(p.m.len(round%ring), round%9)
			for _, ahead := range []int{-1, 0, ring - len(p.k.Held()) + 1, ring + 1, 32768, -ring} {
				p.ahead(ahead)
				if ahead == 0 {
					p.recvs(api.ErrEmpty)
				} else {
					p.recvs(api.ErrCorrupt)
				}
			}
			p.ahead(ring - len(p.k.Held()))
			p.recvs(api.OK)
			if round >= ring/2 {
				p.releases(api.OK, (round-ring/2)%ring)
			}
		}
		if p.m.head != 4*ring || p.m.used != 4*ring-ring/2 {
			t.Fatal("not beyond 65535:", p.m.head, p.m.used)
		}
	}
}

// P17.3: the accesses at 65535 themselves.
func TestWraproundAccesses(t *testing.T) {
	p := paired(t, 0, 2, 0, 1, 0)
	p.recvs(api.ErrEmpty)
	for i := range 65535 {
		p.message(i % 2)
		p.fast(api.OK, what{})
		p.fast(api.OK, what{true, p.m.handleOf(i % 2)})
	}
	// HEAD and USED are 65535.
	p.set(2, 65535)
	p.recvs(api.ErrEmpty)
	p.asks(0, loads(2, 65535))
	for _, ai := range []int{65534, 2, 3} {
		p.set(2, ai)
		p.recvs(api.ErrCorrupt)
		p.asks(0, loads(2, ai))
	}
	p.set(2, 1)
	p.set(4, 0, 1)
	p.recvs(api.OK)
	p.asks(0, loads(2, 1), loads(5, 1), loads(9, 0))
	p.recvs(api.OK)
	p.asks(0, loads(2, 1), loads(4, 0), loads(8, 0))
	p.recvs(api.ErrEmpty)
	p.set(2, 0)
	p.recvs(api.ErrCorrupt)
	p.releases(api.OK, 0)
	p.asks(0, stores(7, 0), fences(), stores(3, 0), fences())
	p.releases(api.OK, 1)
	p.asks(0, stores(6, 1), fences(), stores(3, 1), fences())
}

// P17.2, P17.4: the handle 0, which slot 0 has when its generation is 0 again: the slot is held and can be released, but Got does not tell it.
func TestHandleZero(t *testing.T) {
	p := paired(t, 0, 2, 0, 1, 0)
	p.recvs(api.ErrEmpty)
	for i := range 2 * 65535 {
		p.message(i%2, i%65536)
		p.fast(api.OK, what{})
		p.fast(api.OK, what{true, p.m.handleOf(i % 2)})
	}
	p.refuses(api.ErrHandle, 0)
	p.message(1, 6, 7)
	p.recvs(api.OK)
	if load, h := p.k.Got(); !slices.Equal(load, []int{6, 7}) || h != 1 {
		t.Fatal(load, h)
	}
	p.message(0, 8, 9)
	p.recvs(api.OK)
	p.asks(0, reads(p.m.words, p.m.head+1, p.m.head, 0, 8, 9)...)
	if load, h := p.k.Got(); load != nil || h != 0 {
		t.Fatal(load, h)
	}
	if s, ok := p.k.Slot(0); s != 0 || !ok {
		t.Fatal(s, ok)
	}
	p.holds(0, 1)
	p.refuses(api.ErrHandle, 64)
	p.refuses(api.ErrHandle, 64*65536)
	p.does(api.OK, what{true, 0})
	p.holds(1)
	p.refuses(api.ErrHandle, 0)
	p.does(api.OK, what{true, 1})
	p.message(0, 5)
	p.recvs(api.OK)
	if load, h := p.k.Got(); !slices.Equal(load, []int{5}) || h != 64 {
		t.Fatal(load, h)
	}
}

// got compares Got, which can be asked again.
func (p *pair) got(handle int, want ...int) {
	p.t.Helper()
	for range 2 {
		if load, h := p.k.Got(); h != handle || !slices.Equal(load, want) {
			p.t.Fatalf("Got() = %v, %d, want %v, %d", load, h, want, handle)
		}
	}
}

// received receives a message in slot 3, which Got tells then.
func (p *pair) received() {
	p.t.Helper()
	p.message(3, 4, 5)
	p.recvs(api.OK)
	p.got(p.m.handleOf(3), 4, 5)
}

// P17.4: Got behind the results of a Recv, behind a Release, and once a further call has begun.
func TestGot(t *testing.T) {
	p := paired(t, 100, 4, 2, 5, 0)
	p.got(0)
	p.recvs(api.ErrEmpty)
	p.got(0)
	p.received()
	// What begins no call changes nothing.
	p.refuses(api.ErrHandle, 64)
	p.k.Step(p.km)
	p.got(67, 4, 5)
	p.between = func() { p.got(0) }
	p.recvs(api.ErrEmpty)
	p.got(0)
	p.message(2)
	p.recvs(api.OK)
	p.got(66)
	p.releases(api.OK, 2)
	p.got(0)
	p.releases(api.OK, 3)
	p.got(0)
	p.received()
	p.message(3)
	p.recvs(api.ErrCorrupt)
	p.got(0)
}

// P17.4: Got behind calls with which a peer that was reset is told, and behind a new link.
func TestGotReset(t *testing.T) {
	p := paired(t, 100, 4, 2, 5, 0)
	p.between = func() { p.got(0) }
	p.received()
	p.atLast(7)
	p.releases(api.ErrReset, 3)
	p.got(0)
	p.peerEpoch(0)
	p.message(1, 9)
	p.recvs(api.ErrReset)
	p.got(0)
	p.use(nil)
	p.peerEpoch(0)
	p.recvs(api.OK)
	p.got(65, 9)
	p.peerEpoch(8)
	p.recvs(api.ErrReset)
	p.got(0)
	p.recvs(api.ErrDown)
	p.got(0)
	p.set(p.m.pe(), 8)
	p.received()
	p.peerEpoch(9)
	p.releases(api.ErrReset, 3)
	p.got(0)
}

// P17.4: the lists are the caller's own.
func TestLists(t *testing.T) {
	p := filled(t, 4, 3)
	spoil := func() {
		for range 2 {
			load, _ := p.k.Got()
			for _, list := range [][]int{p.k.Held(), load} {
				for i := range list {
					list[i] = -5
				}
				list = append(list, -6, -7)
				for i := range list[:cap(list)] {
					list[:cap(list)][i] = -8
				}
			}
		}
	}
	p.between = spoil
	p.message(3, 1, 2, 3)
	p.recvs(api.OK)
	for range 2 {
		spoil()
		p.expect(p.m.view)
	}
	held := p.k.Held()
	load, _ := p.k.Got()
	p.releases(api.OK, 0)
	p.message(0, 9, 9, 9)
	p.recvs(api.OK)
	p.releases(api.OK, 2)
	p.peerEpoch(1)
	p.recvs(api.ErrReset)
	if !slices.Equal(held, upTo(4)) || !slices.Equal(load, []int{1, 2, 3}) {
		t.Fatal("lists that were returned have changed:", held, load)
	}
}

// P17.4: Bound, and the longest calls, which come near to it.
func TestBound(t *testing.T) {
	for _, ring := range rings {
		p := paired(t, 100, ring, 2, 5, 0)
		p.message(0, 1, 2, 3, 4, 5, 6, 7, 8)
		p.recvs(api.OK)
		if n := len(p.km.touches); n != 14 || p.k.Bound() != 15 {
			t.Fatal(n, p.k.Bound())
		}
		p.message(1, 1, 2, 3, 4, 5, 6, 7, 8)
		p.recvs(api.OK)
		if n := len(p.km.touches); n != 13 {
			t.Fatal(n)
		}
		p.releases(api.OK, 0)
		if n := len(p.km.touches); n != 6 {
			t.Fatal(n)
		}
	}
}

// Every method of a nil Taker.
func TestNil(t *testing.T) {
	var k *taker.Taker
	m := empty()
	for range 2 {
		if e := k.Recv(); e != api.ErrNone {
			t.Fatalf("Recv() = %d", e)
		}
		for _, h := range append([]int{0, -1, 1, 64, 65}, far...) {
			if e := k.Release(h); e != api.ErrNone {
				t.Fatalf("Release(%d) = %d", h, e)
			}
			if s, ok := k.Slot(h); s != 0 || ok {
				t.Fatalf("Slot(%d) = %d, %v", h, s, ok)
			}
		}
		for _, p := range []port.Port{m, nil, (*port.Core)(nil), bad{}} {
			if done, e := k.Step(p); !done || e != api.ErrNone {
				t.Fatalf("Step() = %v, %d", done, e)
			}
		}
		if load, h := k.Got(); load != nil || h != 0 {
			t.Fatalf("Got() = %v, %d", load, h)
		}
		if k.Busy() || k.Linked() || k.Held() != nil || k.Bound() != 0 {
			t.Fatal(k.Busy(), k.Linked(), k.Held(), k.Bound())
		}
	}
	if m.touches != nil {
		t.Fatal(m.touches)
	}
}

// P17.4: Slot of numbers that are no handles, and of those that are.
func TestSlot(t *testing.T) {
	p := filled(t, 4, 3)
	for _, h := range append([]int{0, -1, 1, 2, 63, 67, 68, 128, 129, 64*65536 + 64}, far...) {
		if s, ok := p.k.Slot(h); s != 0 || ok {
			t.Fatalf("Slot(%d) = %d, %v", h, s, ok)
		}
	}
	for d := range 3 {
		if s, ok := p.k.Slot(64 + d); s != d || !ok {
			t.Fatalf("Slot(%d) = %d, %v", 64+d, s, ok)
		}
	}
}

// Two takers share nothing, also if they were made alike or their calls are made by turns.
func TestTwo(t *testing.T) {
	p, q := filled(t, 4, 3), paired(t, 100, 4, 2, 5, 0)
	q.expect(view{})
	q.set(q.m.pe(), 77)
	p.between = func() { q.fast(api.ErrDown, what{}) }
	p.message(3, 1, 2)
	p.recvs(api.OK)
	p.releases(api.OK, 1)
	q.expect(view{})
	p.between = nil
	q.set(q.m.pe(), 0)
	q.between = func() { p.fast(api.ErrCorrupt, what{}) }
	p.ahead(60)
	q.message(1, 3)
	q.recvs(api.OK)
	q.releases(api.OK, 1)
	p.holds(0, 2, 3)
	q.holds()
}

// bad is a port that panics.
type bad struct{}

func (bad) Load(a int) int     { panic("load") }
func (bad) Store(a, w int)     { panic(nil) }
func (bad) Fence()             { panic(api.ErrArg) }
func (bad) Epoch(core int) int { return []int{}[core] }
func (bad) Kick(to int)        { panic(to) }

// none returns the ports through which nothing is possible.
func none() []port.Port {
	s, _ := soc.New(site.Plan{Cores: 2, Words: 99, Locks: 1}, 1)
	s.Hold(0)
	return []port.Port{nil, bad{}, (*port.Plain)(nil), (*port.Core)(nil), (*port.Trace)(nil), port.Traced(nil), port.Traced(bad{}), port.OfWords(nil, nil), port.OfCore(nil, 0), port.OfCore(s, 0), port.OfCore(s, 7)}
}

// P1: a port that is nil, or panics, or through which nothing is possible reads 0, for a new taker and for one that holds a slot.
func TestNoPort(t *testing.T) {
	for _, q := range none() {
		for i := range 4 {
			own := 5 * (i % 2)
			p := paired(t, 0, 2, 0, 1, own)
			if i/2 > 0 {
				p.message(1, 7)
				p.set(p.m.pe(), own)
				p.do(what{})
				p.do(what{})
				p.holds(1)
			}
			for _, x := range []what{{}, {}, {true, 65}, {true, 65}, {}} {
				p.through(q, x)
			}
		}
	}
}

// through makes a call of the taker through a port, and of the model in a memory in which nothing remains.
func (p *pair) through(q port.Port, x what) {
	p.t.Helper()
	nothing := empty()
	nothing.change = func(m *memory) { clear(m.words) }
	var views []view
	nothing.watch = func() { views = append(views, p.m.view) }
	want := p.m.do(nothing, x)
	if len(views) == 0 {
		p.refuses(want, x.handle)
		return
	}
	if e := x.begin(p.k); e != api.OK {
		p.t.Fatal(x, e)
	}
	for i, v := range views {
		p.expect(v)
		done, e := p.k.Step(q)
		if done != (i == len(views)-1) || done && e != want || !done && e != api.OK {
			p.t.Fatal(x, i, done, e, want)
		}
	}
	p.expect(p.m.view)
}

// P1: a port that calls the taker whose access it makes changes nothing.
func TestPortCallsBack(t *testing.T) {
	p := filled(t, 4, 2)
	back := func() {
		if e := p.k.Recv(); e != api.ErrBusy {
			t.Fatalf("Recv() = %d during an access", e)
		}
		if e := p.k.Release(64); e != api.ErrBusy {
			t.Fatalf("Release() = %d during an access", e)
		}
		for _, q := range []port.Port{p.km, p.mm, nil, bad{}} {
			if done, e := p.k.Step(q); done || e != api.OK {
				t.Fatalf("Step() = %v, %d during an access", done, e)
			}
		}
		if load, h := p.k.Got(); !p.k.Busy() || load != nil || h != 0 {
			t.Fatal("not busy during an access, or something is received:", load, h)
		}
	}
	p.km.watch = back
	p.recvs(api.ErrEmpty)
	p.message(3, 1, 2, 3)
	p.recvs(api.OK)
	p.releases(api.OK, 1)
	p.message(0)
	p.recvs(api.ErrCorrupt)
	p.peerEpoch(1)
	p.recvs(api.ErrReset)
	p.recvs(api.ErrDown)
}

// strange is a port that reads numbers that are no words.
type strange struct {
	*memory
	dice dice
}

// number returns a number, a word now and then.
func (s *strange) number() int {
	if s.dice.roll(2) == 0 {
		return s.dice.roll(4)
	}
	return far[s.dice.roll(len(far))] + s.dice.roll(3)
}

func (s *strange) Load(a int) int {
	s.memory.Load(a)
	return s.number()
}

func (s *strange) Epoch(core int) int {
	s.memory.Epoch(core)
	if s.dice.roll(20) > 0 {
		return 0
	}
	return s.number()
}

// P1, P17.5: a port that reads numbers that are no words.
func TestStrangePort(t *testing.T) {
	ended := map[api.Errno]int{}
	for seed := range 3000 {
		ring := rings[seed%3]
		k := taker.New(plot.Plot{Base: 7, Ring: ring}, 0, 1, 0)
		s := &strange{memory: empty(), dice: dice(seed)}
		x := what{}
		for range 20 {
			s.touches = nil
			if e := x.begin(k); e != api.OK {
				t.Fatal(e)
			}
			for done := false; !done; {
				n := len(s.touches)
				var e api.Errno
				if done, e = k.Step(s); len(s.touches) != n+1 {
					t.Fatal(s.touches)
				}
				if done {
					ended[e]++
				}
				lawful(t, s.touches, words{7, ring}, 1)
			}
			x = what{}
			if _, h := k.Got(); h != 0 && s.dice.roll(2) == 0 {
				x = what{true, h}
			}
		}
	}
	for _, e := range []api.Errno{api.OK, api.ErrReset, api.ErrDown, api.ErrCorrupt} {
		if ended[e] == 0 {
			t.Fatalf("no call has ended with %d", e)
		}
	}
}

// lawful checks P17.5 behind a step of a call with the accesses.
func lawful(t *testing.T, list []port.Touch, c words, peer int) {
	t.Helper()
	if len(list) > 15 {
		t.Fatalf("%d accesses", len(list))
	}
	for _, x := range list {
		place, ok := plot.Where(api.Conf{Cores: 2, Ring: c.ring, Buf: 1}, x.At-c.base)
		ours := ok && place.From == 0
		switch x.Kind {
		case 1:
			if !ours || !slices.Contains([]int{plot.Pe, plot.Ai, plot.Avail, plot.Len, plot.Load}, place.Field) {
				t.Fatalf("a load at %d: %v", x.At, place)
			}
		case 2:
			if !ours || !slices.Contains([]int{plot.Ui, plot.Used, plot.Ce}, place.Field) {
				t.Fatalf("a store at %d: %v", x.At, place)
			}
		case 4:
			if x.At != peer {
				t.Fatalf("the epoch of core %d", x.At)
			}
		case 5:
			t.Fatalf("core %d is rung", x.At)
		}
	}
}

// P17.5: in memories whose words are arbitrary and change between the steps.
func TestLaws(t *testing.T) {
	ended, released := map[api.Errno]int{}, map[api.Errno]int{}
	for seed := range 1800 {
		ring := rings[seed%6]
		own := []int{0, 1, 65535}[seed/6%3]
		p := paired(t, 300, ring, 4, 1, own)
		p.between = func() { lawful(t, p.km.touches, p.m.words, 1) }
		d := dice(seed)
		for range 40 {
			p.arbitrary(dice(d.roll(1<<30)), seed%5)
			if held := p.m.slots(); len(held) > 0 && d.roll(3) == 0 {
				released[p.do(what{true, p.m.handleOf(held[d.roll(len(held))])})]++
			} else {
				ended[p.do(what{})]++
			}
			p.between()
		}
	}
	for _, e := range []api.Errno{api.OK, api.ErrEmpty, api.ErrReset, api.ErrDown, api.ErrCorrupt} {
		if ended[e] < 100 {
			t.Fatalf("%d Recvs have ended with %d", ended[e], e)
		}
	}
	if released[api.OK] < 100 || released[api.ErrReset] < 100 || len(released) != 2 {
		t.Fatal(released)
	}
}

// arbitrary lets words of the channel, and the peer's epoch, change ahead of every access. The wilder, the less they are what a peer would store.
func (p *pair) arbitrary(d dice, wild int) {
	c, head, mark := p.m.words, p.m.head, p.m.own
	if len(p.m.known) > 0 {
		mark = p.m.epoch()
	}
	var free []int
	for i := range c.ring {
		if !p.m.held[i] {
			free = append(free, i)
		}
	}
	p.use(func(m *memory) {
		r := d + dice(len(m.touches))*977
		for range 1 + wild {
			m.words[c.base+r.roll(4+11*c.ring)] = r.roll(65536)
		}
		if r.roll(8) >= wild {
			m.words[c.pe()] = mark
		}
		if r.roll(16) >= wild {
			m.words[c.ai()] = (head + min(r.roll(c.ring+2), len(free)+r.roll(20)/19)) % 65536
		}
		for i := range c.ring {
			if r.roll(20) >= wild {
				m.words[c.avail(head+i)] = append(free, c.ring)[r.roll(max(len(free), 1))]
			}
			if r.roll(20) >= wild {
				m.words[c.len(i)] = r.roll(9)
			}
		}
		if r.roll(400) < wild {
			m.epochs[p.m.peer] = r.roll(3)
		}
	})
}

// P17.3: all sequences of a few calls of a taker with two slots, in all of these scenes.
func TestAllSmall(t *testing.T) {
	type scene struct {
		release                 int // 0 for a Recv, and otherwise the place of a held slot from 1 on
		ahead, avail, n         int
		early, late, mark, back bool
	}
	scenes := []scene{{}, {ahead: -1}, {ahead: 3}, {avail: 2, ahead: 1}, {ahead: 1, n: 9}, {ahead: 2, avail: 1, n: 1}, {ahead: 2}, {ahead: 1}, {ahead: 1, avail: 1, n: 8}, {release: 1}, {release: 2}, {early: true}, {early: true, release: 1}, {late: true}, {late: true, ahead: 1, avail: 1}, {late: true, release: 1}, {late: true, release: 2}, {mark: true}, {back: true, ahead: 1}}
	const calls = 4
	total := 1
	for range calls {
		total *= len(scenes)
	}
	for n := range total {
		p := paired(t, 0, 2, 1, 0, n%2)
		epoch := 0
		for range calls {
			s := scenes[n%len(scenes)]
			n /= len(scenes)
			x, held := what{}, p.m.slots()
			if s.release > len(held) {
				break
			}
			if s.release > 0 {
				x = what{true, p.m.handleOf(held[s.release-1])}
			}
			p.set(p.m.avail(p.m.head), s.avail)
			p.set(p.m.len(0), s.n, s.n)
			p.ahead(s.ahead)
			if s.early {
				epoch++
			}
			if s.back && epoch > 0 {
				epoch--
			}
			p.peerEpoch(epoch)
			p.set(p.m.pe(), p.m.own+epoch)
			if s.mark {
				p.set(p.m.pe(), p.m.own+epoch+1)
			}
			p.use(nil)
			if s.late {
				epoch++
				p.atLast(epoch)
			}
			p.do(x)
		}
	}
}

// Each step uses the port that it is given.
func TestPorts(t *testing.T) {
	k := taker.New(plot.Plot{Base: 0, Ring: 2}, 1, 0, 0)
	steps := func(x what, want ...port.Touch) {
		t.Helper()
		if e := x.begin(k); e != api.OK {
			t.Fatal(e)
		}
		for i, touch := range want {
			q := empty()
			q.words[touch.At] = touch.Word
			if done, e := k.Step(q); done != (i == len(want)-1) || e != api.OK || !slices.Equal(q.touches, []port.Touch{touch}) {
				t.Fatal(i, done, e, q.touches, touch)
			}
		}
	}
	c := words{0, 2}
	steps(what{}, slices.Concat([]port.Touch{epochs(0, 0), loads(0, 0)}, reads(c, 0, 1, 1, 5, 6), []port.Touch{epochs(0, 0)})...)
	steps(what{true, 65}, slices.Concat([]port.Touch{epochs(0, 0)}, returns(c, 0, 1), []port.Touch{epochs(0, 0)})...)
}

// A taker on a soc: what another core sees of a slot that comes back, whatever the buffer's capacity is.
func TestSoc(t *testing.T) {
	c := api.Conf{Cores: 3, Ring: 2}
	for c.Buf = 1; c.Buf <= 16; c.Buf++ {
		s, e := soc.New(site.Plan{Cores: 3, Words: plot.Words(c), Locks: 1}, c.Buf)
		if e != api.OK {
			t.Fatal(e)
		}
		x, _ := plot.Of(c, 2, 1)
		w := words{x.Base, x.Ring}
		k, p, peer := taker.New(x, 1, 2, 0), port.OfCore(s, 1), port.OfCore(s, 2)
		put := func(list ...int) {
			for i := 0; i < len(list); i += 2 {
				peer.Store(list[i], list[i+1])
			}
			peer.Fence()
		}
		put(w.avail(0), 1, w.len(1), 2, w.load(1, 0), 9, w.load(1, 1), 8, w.avail(1), 0, w.ai(), 2)
		for i, want := range [][]int{{9, 8}, nil} {
			e := finish(t, k, p, what{})
			if load, h := k.Got(); e != api.OK || !slices.Equal(load, want) || h != 65-i {
				t.Fatal(e, load, h)
			}
		}
		for i, d := range []int{0, 1} {
			if e := k.Release(64 + d); e != api.OK {
				t.Fatal(e)
			}
			for done := false; !done; {
				// The slot's number is there whenever Ui shows it.
				if peer.Load(w.ui()) == i+1 && peer.Load(w.used(i)) != d {
					t.Fatal("shown ahead of being there:", s.Ram().Cells())
				}
				var e api.Errno
				if done, e = k.Step(p); e != api.OK {
					t.Fatal(e)
				}
			}
			if peer.Load(w.ui()) != i+1 || len(s.Waits(1)) != 0 {
				t.Fatal(s.Ram().Cells(), s.Waits(1))
			}
		}
		s.Hold(2)
		s.Start(2)
		if e := finish(t, k, p, what{}); e != api.ErrReset || peer.Load(w.ce()) != 1 || peer.Load(w.ui()) != 0 {
			t.Fatal(e, s.Ram().Cells())
		}
		if e := finish(t, k, p, what{}); e != api.ErrDown {
			t.Fatal(e)
		}
		put(w.ai(), 0, w.pe(), 1)
		if e := finish(t, k, p, what{}); e != api.ErrEmpty || !k.Linked() {
			t.Fatal(e)
		}
		if bits, n := s.Mail(2); bits != 0 || n != 0 {
			t.Fatal("the peer was rung:", bits, n)
		}
	}
}

// scene is a soc with a giver of core 0 and a taker of core 1, whose steps are made by turns.
type scene struct {
	t *testing.T
	d dice
	s *soc.Soc
	x plot.Plot
	g *giver.Giver
	k *taker.Taker
	// What was sent in the present link with OK, what is being sent in it, how many of those were received, and what is held, by handles.
	sent    [][]int
	sending [][]int
	got     int
	held    map[int][]int
	next    int
	results map[api.Errno]int
}

// P5: a giver and a taker on a soc, with resets of both: what is received in a link is a prefix of what is sent in it, and it does not change while it is held.
func TestGiver(t *testing.T) {
	results := map[api.Errno]int{}
	for seed := range 300 {
		c := api.Conf{Cores: 2, Ring: rings[seed%3], Buf: 1 + seed%4}
		s, _ := soc.New(site.Plan{Cores: 2, Words: plot.Words(c), Locks: 1}, c.Buf)
		v := &scene{t: t, d: dice(seed), s: s, held: map[int][]int{}, results: results}
		v.x, _ = plot.Of(c, 0, 1)
		v.g, v.k = giver.New(v.x, 0, 1, 0), taker.New(v.x, 1, 0, 0)
		for range 3000 {
			switch n := v.d.roll(200); {
			case n < 1 && seed%2 == 0:
				v.restart(v.d.roll(2))
			case n < 90:
				v.stepGiver()
			case n < 180:
				v.stepTaker()
			default:
				s.Drain(n % 2)
			}
		}
	}
	for _, e := range []api.Errno{api.OK, api.ErrEmpty, api.ErrReset, api.ErrDown} {
		if results[e] < 100 {
			t.Fatalf("%d calls of takers have ended with %d", results[e], e)
		}
	}
	if len(results) != 4 {
		t.Fatal(results)
	}
}

// restart holds a core and starts it again, which begins a new link.
func (v *scene) restart(core int) {
	v.s.Hold(core)
	v.s.Start(core)
	own, _ := v.s.Read(core, site.GateBase+core)
	if core == 0 {
		v.g = giver.New(v.x, 0, 1, own)
	} else {
		v.k, v.held = taker.New(v.x, 1, 0, own), map[int][]int{}
	}
	v.sent, v.sending, v.got = nil, nil, 0
}

// stepGiver makes a step of the giver, which sends one message after the other.
func (v *scene) stepGiver() {
	if !v.g.Busy() {
		v.next++
		load := slices.Repeat([]int{v.next}, v.next%9)
		v.g.Send(load)
		v.sending = [][]int{load}
		return
	}
	if done, e := v.g.Step(port.OfCore(v.s, 0)); done {
		if e == api.OK {
			v.sent = append(v.sent, v.sending...)
		}
		v.sending = nil
	}
}

// stepTaker makes a step of the taker, which receives messages and releases them in any order.
func (v *scene) stepTaker() {
	if !v.k.Busy() {
		held := v.k.Held()
		if n := v.d.roll(3); n == 0 && len(held) > 0 {
			s := held[v.d.roll(len(held))]
			for h := range v.held {
				if h%64 == s && v.k.Release(h) == api.OK {
					delete(v.held, h)
					break
				}
			}
		} else {
			v.k.Recv()
		}
		return
	}
	done, e := v.k.Step(port.OfCore(v.s, 1))
	if !done {
		return
	}
	v.results[e]++
	if e == api.ErrReset && !v.k.Linked() {
		v.held = map[int][]int{}
	}
	if load, h := v.k.Got(); h != 0 {
		all := slices.Concat(v.sent, v.sending)
		if v.got == len(all) || !slices.Equal(all[v.got], load) {
			v.t.Fatalf("received %v behind %d of %v", load, v.got, all)
		}
		v.got++
		v.held[h] = load
	}
	v.unchanged()
}

// unchanged checks that the taker holds what it has received, and that the memory still has it.
func (v *scene) unchanged() {
	if len(v.held) != len(v.k.Held()) {
		v.t.Fatal(v.held, v.k.Held())
	}
	w, ram := words{v.x.Base, v.x.Ring}, v.s.Ram()
	for h, load := range v.held {
		d, ok := v.k.Slot(h)
		n, _ := ram.Load(w.len(d))
		if !ok || n != len(load) {
			v.t.Fatal(h, ok, n, load)
		}
		for i, word := range load {
			if x, _ := ram.Load(w.load(d, i)); x != word {
				v.t.Fatal(h, i, x, load)
			}
		}
	}
}
