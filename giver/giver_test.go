package giver_test

import (
	"math"
	"slices"
	"testing"

	"switchyard/api"
	"switchyard/giver"
	"switchyard/plot"
	"switchyard/port"
	"switchyard/site"
	"switchyard/soc"
)

var rings = []int{2, 4, 8, 16, 32, 64}

// far holds numbers that are no rings, bases, cores, words or epochs. Some of them have the low bits of such a number.
var far = []int{-2, -4, -64, -65, -65535, -65536, -65537, 131072, 131074, 1<<31 - 1, 1 << 31, 1<<32 - 1, 1 << 32, 1<<32 + 1, 1<<32 + 2, -1 << 32, 2 - 1<<32, 1 << 62, math.MinInt, math.MinInt + 1, math.MinInt + 2, math.MaxInt - 1, math.MaxInt}

// The accesses, as a trace has them.
func loads(a, w int) port.Touch     { return port.Touch{Kind: 1, At: a, Word: w} }
func stores(a, w int) port.Touch    { return port.Touch{Kind: 2, At: a, Word: w} }
func fences() port.Touch            { return port.Touch{Kind: 3} }
func epochs(core, n int) port.Touch { return port.Touch{Kind: 4, At: core, Word: n} }
func kicks(core int) port.Touch     { return port.Touch{Kind: 5, At: core} }

// message returns the accesses that write a message into slot d and show it, with NEXT.
func message(c words, peer, next, d int, load ...int) []port.Touch {
	var list []port.Touch
	for i, w := range load {
		list = append(list, stores(c.load(d, i), w))
	}
	list = append(list, stores(c.len(d), len(load)), stores(c.avail(next), d), fences())
	return append(list, stores(c.ai(), (next+1)%65536), fences(), kicks(peer))
}

// upTo returns the numbers from 0 on, so many.
func upTo(n int) []int {
	list := make([]int, n)
	for i := range list {
		list[i] = i
	}
	return list
}

// accesses compares the accesses of the last call.
func (p *pair) accesses(want ...port.Touch) {
	p.t.Helper()
	if !slices.Equal(p.gm.touches, want) {
		p.t.Fatalf("accesses %v, want %v", p.gm.touches, want)
	}
}

// filled returns a pair that has sent a message in each of its slots.
func filled(t testing.TB, ring int) *pair {
	t.Helper()
	p := paired(t, 100, ring, 2, 5, 0)
	for i := range ring {
		p.sends(api.OK, i)
	}
	p.slots(nil, upTo(ring))
	return p
}

// returns lets the peer have returned the slots, behind those that came back already.
func (p *pair) returns(slots ...int) {
	for i, s := range slots {
		p.set(p.m.used(p.m.tail+i), s)
	}
	p.set(p.m.ui(), (p.m.tail+len(slots))%65536)
}

// The example of the chapter.
func TestExample(t *testing.T) {
	for _, ring := range rings {
		p := paired(t, 0, ring, 0, 1, 0)
		p.sends(api.OK)
		p.accesses(epochs(1, 0), loads(1, 0), loads(3, 0), stores(4+2*ring, 0), stores(4, 0), fences(), stores(2, 1), fences(), kicks(1), epochs(1, 0))
	}
}

// P16.1: every giver that the limits allow is in the initial state.
func TestNew(t *testing.T) {
	if api.MaxRing != 64 || api.MaxWords != 65536 || api.MaxCores != 8 || api.MaxLoad != 8 {
		t.Fatal(api.MaxRing, api.MaxWords, api.MaxCores, api.MaxLoad)
	}
	for _, ring := range rings {
		for _, base := range []int{0, 1, 26, 999, 32768, 65534, 65535} {
			for i := range 64 {
				for _, own := range []int{0, 1, 32767, 65534, 65535} {
					if i/8 == i%8 {
						continue
					}
					g := giver.New(plot.Plot{Base: base, Ring: ring}, i/8, i%8, own)
					if g == nil {
						t.Fatalf("New({%d %d}, %d, %d, %d) is nil", base, ring, i/8, i%8, own)
					}
					if v := look(g); !v.same(view{false, false, upTo(ring), nil, ring + 18}) {
						t.Fatalf("New({%d %d}, %d, %d, %d): %+v", base, ring, i/8, i%8, own, v)
					}
				}
			}
		}
	}
}

// P16.1: the neighbours of the limits, and the numbers far from them.
func TestNewOfNothing(t *testing.T) {
	none := func(base, ring, self, peer, own int) {
		t.Helper()
		if giver.New(plot.Plot{Base: base, Ring: ring}, self, peer, own) != nil {
			t.Errorf("New({%d %d}, %d, %d, %d) is a giver", base, ring, self, peer, own)
		}
	}
	for ring := -200; ring <= 300; ring++ {
		if !slices.Contains(rings, ring) {
			none(0, ring, 0, 1, 0)
		}
	}
	for _, n := range append([]int{256, 1024, 65536, 1 << 20}, far...) {
		none(0, n, 0, 1, 0)
	}
	for _, n := range append([]int{-1, 65536, 65537}, far...) {
		none(n, 2, 0, 1, 0)
		none(0, 2, 0, 1, n)
	}
	for _, n := range append([]int{-1, 8, 9, 10, 16, 255, 256}, far...) {
		for core := range 8 {
			none(0, 2, n, core, 0)
			none(0, 2, core, n, 0)
		}
		none(0, 2, n, n, 0)
	}
	for core := range 8 {
		none(0, 2, core, core, 0)
	}
	none(-1, 0, 9, 9, -1)
}

// P16.1, P16.3: a giver accesses its own channel and asks for its own peer, wherever the channel is and whichever cores it joins.
func TestNewChannels(t *testing.T) {
	for _, base := range []int{0, 1, 26, 999, 65000, 65534, 65535} {
		for _, ring := range rings {
			for i := range 64 {
				if self, peer := i/8, i%8; self != peer {
					p := paired(t, base, ring, self, peer, 0)
					for core := range 8 {
						p.gm.epochs[core], p.mm.epochs[core] = 7, 7
					}
					p.peerEpoch(0)
					p.sends(api.OK, 11, 12)
					want := []port.Touch{epochs(peer, 0), loads(base+1, 0), loads(base+3, 0)}
					want = append(want, message(words{base, ring}, peer, 0, 0, 11, 12)...)
					p.accesses(append(want, epochs(peer, 0))...)
				}
			}
		}
	}
}

// P16.2: every number of words up to the limit, with words at the limits.
func TestSend(t *testing.T) {
	for n := range 9 {
		for _, w := range []int{0, 1, 255, 256, 32768, 65534, 65535} {
			p := paired(t, 10, 4, 0, 1, 0)
			load := slices.Repeat([]int{w}, n)
			p.sends(api.OK, load...)
			want := append([]port.Touch{epochs(1, 0), loads(11, 0), loads(13, 0)}, message(p.m.words, 1, 0, 0, load...)...)
			p.accesses(append(want, epochs(1, 0))...)
		}
	}
	p := paired(t, 10, 4, 0, 1, 0)
	p.sends(api.OK, 8, 7, 6, 5, 4, 3, 2, 1)
	p.sends(api.OK)
	p.sends(api.OK, 9)
}

// P16.2: too many words, and numbers that are no words, at each place; too many of them are told first.
func TestSendErrors(t *testing.T) {
	p := paired(t, 10, 4, 0, 1, 0)
	refused := func(want api.Errno, load ...int) {
		t.Helper()
		if e := p.g.Send(load); e != want {
			t.Fatalf("Send(%v) = %d, want %d", load, e, want)
		}
		p.expect(view{false, p.m.linked, p.m.free, p.m.out, 22})
		if done, e := p.g.Step(p.gm); !done || e != api.ErrIdle {
			t.Fatalf("Send(%v) has begun a call: %v, %d", load, done, e)
		}
	}
	for range 3 {
		for _, n := range []int{9, 10, 16, 17, 256, 65536} {
			refused(api.ErrLong, make([]int, n)...)
			refused(api.ErrLong, slices.Repeat([]int{-1}, n)...)
			refused(api.ErrLong, slices.Repeat([]int{65536}, n)...)
		}
		for _, w := range append([]int{-1, 65536, 65537}, far...) {
			for n := 1; n <= 8; n++ {
				for i := range n {
					load := make([]int, n)
					load[i] = w
					refused(api.ErrArg, load...)
				}
			}
		}
		p.sends(api.OK, 3)
	}
}

// P16.2: during a call, of which nothing changes.
func TestSendBusy(t *testing.T) {
	busy := func(p *pair) func() {
		return func() {
			t.Helper()
			for _, load := range [][]int{nil, {}, {1}, {5, 6, 7}, make([]int, 8), make([]int, 9), {-1}, {65536}, slices.Repeat([]int{-1}, 9)} {
				if e := p.g.Send(load); e != api.ErrBusy {
					t.Fatalf("Send(%v) = %d during a call", load, e)
				}
			}
		}
	}
	p := filled(t, 4)
	p.between = busy(p)
	p.sends(api.ErrFull, 9, 9)
	p.returns(2, 0)
	p.sends(api.OK, 1, 2, 3)
	p.returns(7)
	p.sends(api.ErrCorrupt)
	p.peerEpoch(3)
	p.sends(api.ErrReset, 4)
	p.sends(api.ErrDown, 4)
	p.set(p.m.ce(), 3)
	p.set(p.m.ui(), 0)
	p.sends(api.OK, 1, 2, 3, 4, 5, 6, 7, 8)
}

// P16.2: the list that is sent is neither changed nor kept, nor anything beyond its length.
func TestSendKeepsNoList(t *testing.T) {
	p := paired(t, 0, 2, 0, 1, 0)
	list := []int{1, 2, 3, -4, 70000, 6, 7, 8, 9, 10}
	if e := p.g.Send(list[:3]); e != api.OK {
		t.Fatal(e)
	}
	if !slices.Equal(list, []int{1, 2, 3, -4, 70000, 6, 7, 8, 9, 10}) {
		t.Fatal(list)
	}
	for i := 0; p.g.Busy(); i++ {
		for j := range list {
			list[j] = -100 * i
		}
		p.g.Step(p.gm)
		if slices.Max(list) != -100*i || slices.Min(list) != -100*i || len(list) != 10 {
			t.Fatal(list)
		}
	}
	want := append([]port.Touch{epochs(1, 0), loads(1, 0), loads(3, 0)}, message(p.m.words, 1, 0, 0, 1, 2, 3)...)
	p.accesses(append(want, epochs(1, 0))...)
}

// P16.3: without a call in progress there is no access.
func TestStepIdle(t *testing.T) {
	p := paired(t, 0, 2, 0, 1, 0)
	idle := func() {
		t.Helper()
		before, n := look(p.g), len(p.gm.touches)
		for range 3 {
			for _, q := range []port.Port{p.gm, nil, (*port.Plain)(nil), bad{}} {
				if done, e := p.g.Step(q); !done || e != api.ErrIdle {
					t.Fatalf("Step() = %v, %d", done, e)
				}
			}
		}
		if len(p.gm.touches) != n {
			t.Fatalf("accesses %v without a call", p.gm.touches[n:])
		}
		p.expect(before)
	}
	idle()
	for _, want := range []api.Errno{api.OK, api.OK, api.ErrFull} {
		p.sends(want, 5)
		idle()
	}
	p.set(p.m.ui(), 9)
	p.sends(api.ErrCorrupt)
	idle()
	p.peerEpoch(4)
	p.sends(api.ErrReset)
	idle()
	p.sends(api.ErrDown)
	idle()
}

// sums holds own epochs and epochs of a peer with the words of their sums.
var sums = [][3]int{{0, 1, 1}, {0, 65535, 65535}, {1, 0, 1}, {1, 1, 2}, {5, 0, 5}, {5, 7, 12}, {65535, 0, 65535}, {65535, 1, 0}, {65535, 2, 1}, {1, 65535, 0}, {2, 65535, 1}, {32768, 32768, 0}, {32768, 32767, 65535}, {32769, 32768, 1}, {65535, 65535, 65534}, {65534, 1, 65535}}

// P16.3, steps 1 and 2: a giver makes a new link with an epoch that it does not know, and one that knows none does so with any epoch.
func TestNewLink(t *testing.T) {
	for _, x := range sums {
		p := paired(t, 200, 4, 3, 6, x[0])
		p.peerEpoch(x[1])
		p.set(p.m.ce(), x[2])
		p.sends(api.ErrReset, 1, 2)
		p.accesses(epochs(6, x[1]), stores(202, 0), stores(200, x[2]), fences())
		p.expect(view{false, false, upTo(4), nil, 22})
		p.sends(api.OK, 3)
		want := append([]port.Touch{epochs(6, x[1]), loads(201, x[2]), loads(203, 0)}, message(p.m.words, 6, 0, 0, 3)...)
		p.accesses(append(want, epochs(6, x[1]))...)
		p.expect(view{false, true, []int{1, 2, 3}, []int{0}, 22})
	}
}

// P16.3, step 1: a giver with the own epoch 0 knows the epoch 0, and needs no new link with it.
func TestKnownEpoch(t *testing.T) {
	p := paired(t, 200, 4, 3, 6, 0)
	p.set(p.m.ce(), 1)
	p.sends(api.ErrDown)
	p.accesses(epochs(6, 0), loads(201, 1))
	for own := range 65535 {
		q := paired(t, 0, 2, 0, 1, own+1)
		q.fast(api.ErrReset)
		q.accesses(epochs(1, 0), stores(2, 0), stores(0, own+1), fences())
	}
}

// P16.3, step 2: the state changes behind the fence, in one step, and only the known epoch is kept.
func TestNewLinkState(t *testing.T) {
	for _, ring := range rings {
		p := filled(t, ring)
		p.returns(1, 0)
		p.sends(api.OK, 7)
		free, out := p.g.Free(), p.g.Out()
		p.peerEpoch(9)
		if e := p.g.Send([]int{1}); e != api.OK {
			t.Fatal(e)
		}
		for i := range 4 {
			p.expect(view{true, true, free, out, ring + 18})
			if done, e := p.g.Step(p.gm); done != (i == 3) || done && e != api.ErrReset || !done && e != api.OK {
				t.Fatal(i, done, e)
			}
		}
		p.expect(view{false, false, upTo(ring), nil, ring + 18})
		p.m.known = []int{9}
		p.m.initial()
		p.sends(api.ErrDown, 1)
		p.accesses(epochs(5, 9), loads(101, 0))
		p.set(p.m.ce(), 9)
		p.set(p.m.ui(), 0)
		p.sends(api.OK, 1)
		p.accesses(slices.Concat([]port.Touch{epochs(5, 9), loads(101, 9), loads(103, 0)}, message(p.m.words, 5, 0, 0, 1), []port.Touch{epochs(5, 9)})...)
		p.sends(api.OK, 2)
		p.accesses(slices.Concat([]port.Touch{epochs(5, 9), loads(103, 0)}, message(p.m.words, 5, 1, 1, 2), []port.Touch{epochs(5, 9)})...)
	}
}

// P16.3, step 1: each other epoch makes a new link, also one that was known earlier.
func TestNewLinkAgain(t *testing.T) {
	p := paired(t, 0, 2, 0, 1, 3)
	for _, n := range []int{0, 1, 0, 65535, 0, 3, 2, 3, 65535, 65534} {
		p.peerEpoch(n)
		p.set(p.m.ui(), 0)
		p.set(p.m.ce(), (n+4)%65536)
		p.sends(api.ErrReset, 1)
		p.sends(api.ErrDown, 2)
		p.set(p.m.ce(), (n+3)%65536)
		p.sends(api.OK, 3)
		p.sends(api.OK, 4)
		p.sends(api.ErrFull, 5)
	}
}

// P16.3, step 1: the epochs of other cores do not matter.
func TestOtherEpochs(t *testing.T) {
	p := paired(t, 0, 4, 2, 6, 0)
	p.use(func(m *memory) {
		for core := range m.epochs {
			if core != 6 {
				m.epochs[core]++
			}
		}
	})
	p.sends(api.OK, 1)
	p.sends(api.OK)
	for _, x := range p.gm.touches {
		if x.Kind == 4 && x.At != 6 {
			t.Fatal(p.gm.touches)
		}
	}
}

// P16.3, step 3: a mark that is not the link epoch, and one that is.
func TestLink(t *testing.T) {
	for _, x := range sums {
		p := paired(t, 50, 2, 1, 0, x[0])
		p.peerEpoch(x[1])
		p.sends(api.ErrReset)
		for _, mark := range []int{0, 1, 65535, x[0], x[1], (x[2] + 1) % 65536, (x[2] + 65535) % 65536, 65535 - x[2], x[2] ^ 256, x[2] ^ 32768} {
			if mark == x[2] {
				continue
			}
			p.set(p.m.ce(), mark)
			p.set(p.m.pe(), x[2])
			p.sends(api.ErrDown, 4)
			p.accesses(epochs(0, x[1]), loads(51, mark))
			p.expect(view{false, false, []int{0, 1}, nil, 20})
		}
		p.set(p.m.ce(), x[2])
		p.sends(api.OK, 4)
		p.expect(view{false, true, []int{1}, []int{0}, 20})
		// A linked giver does not look at the mark again.
		p.set(p.m.ce(), (x[2]+1)%65536)
		p.sends(api.OK, 4)
		p.accesses(slices.Concat([]port.Touch{epochs(0, x[1]), loads(53, 0)}, message(p.m.words, 0, 1, 1, 4), []port.Touch{epochs(0, x[1])})...)
	}
}

// P16.3, step 3: a call that links and then fails leaves the giver linked.
func TestLinkRemains(t *testing.T) {
	p := paired(t, 50, 2, 1, 0, 0)
	p.set(p.m.ui(), 1)
	p.sends(api.ErrCorrupt, 4)
	p.accesses(epochs(0, 0), loads(51, 0), loads(53, 1), epochs(0, 0))
	p.expect(view{false, true, []int{0, 1}, nil, 20})
	p.sends(api.ErrCorrupt, 4)
	p.accesses(epochs(0, 0), loads(53, 1), epochs(0, 0))
	p.set(p.m.ui(), 0)
	p.sends(api.OK)
}

// P16.3, step 4: every distance of Ui from TAIL that there may be with that many slots out, and some that there may not be.
func TestRoom(t *testing.T) {
	for _, ring := range rings {
		for _, out := range []int{0, 1, 2, ring / 2, ring - 1, ring} {
			for _, ahead := range []int{0, 1, 2, out - 1, out, out + 1, out + 2, ring, ring + 1, 32768, -1, -2, -ring} {
				p := paired(t, 100, ring, 2, 5, 0)
				for i := range out {
					p.sends(api.OK, i)
				}
				p.set(p.m.used(0), upTo(ring)...)
				p.set(p.m.ui(), (ahead+65536)%65536)
				e := p.send(7)
				switch {
				case ahead < 0 || ahead > out:
					if e != api.ErrCorrupt || len(p.g.Out()) != out || len(p.gm.touches) != 3+first(out == 0) {
						t.Fatal(ring, out, ahead, e, p.gm.touches)
					}
				case ahead == 0 && out == ring:
					if e != api.ErrFull || len(p.g.Out()) != ring || len(p.gm.touches) != 3 {
						t.Fatal(ring, out, ahead, e, p.gm.touches)
					}
				case e != api.OK || len(p.g.Out()) != out-ahead+1 || len(p.gm.touches) != 10+ahead+first(out == 0):
					t.Fatal(ring, out, ahead, e, p.gm.touches)
				}
			}
		}
	}
}

// first is the number of accesses that a giver's first call has besides those that a later one has.
func first(ok bool) int {
	if ok {
		return 1
	}
	return 0
}

// P16.3, step 4: slots that came back in the order of sending, and in other ones; the first free one is taken, and is the last one that is out then.
func TestReturned(t *testing.T) {
	p := filled(t, 4)
	p.returns(0)
	p.sends(api.OK, 9)
	p.accesses(slices.Concat([]port.Touch{epochs(5, 0), loads(103, 1), loads(108, 0)}, message(p.m.words, 5, 4, 0, 9), []port.Touch{epochs(5, 0)})...)
	p.slots(nil, []int{1, 2, 3, 0})
	p.returns(3, 0, 2)
	p.sends(api.OK, 8)
	p.accesses(slices.Concat([]port.Touch{epochs(5, 0), loads(103, 4), loads(109, 3), loads(110, 0), loads(111, 2)}, message(p.m.words, 5, 5, 3, 8), []port.Touch{epochs(5, 0)})...)
	p.slots([]int{0, 2}, []int{1, 3})
	p.sends(api.OK, 7)
	p.slots([]int{2}, []int{1, 3, 0})
	p.returns(0, 1)
	p.sends(api.OK, 6)
	p.accesses(slices.Concat([]port.Touch{epochs(5, 0), loads(103, 6), loads(108, 0), loads(109, 1)}, message(p.m.words, 5, 7, 2, 6), []port.Touch{epochs(5, 0)})...)
	p.slots([]int{0, 1}, []int{3, 2})
	p.returns(2, 3)
	p.sends(api.OK, 5)
	p.slots([]int{1, 2, 3}, []int{0})
}

// P16.3, step 4: the lists change with the access that tells it, one slot a step.
func TestReturnedSteps(t *testing.T) {
	p := filled(t, 4)
	p.returns(2, 0, 3)
	if e := p.g.Send([]int{1, 2}); e != api.OK {
		t.Fatal(e)
	}
	full, want := upTo(4), []view{}
	for _, x := range [][2][]int{{nil, full}, {nil, full}, {nil, full}, {{2}, {0, 1, 3}}, {{2, 0}, {1, 3}}} {
		want = append(want, view{true, true, x[0], x[1], 22})
	}
	for range 10 {
		want = append(want, view{true, true, []int{0, 3}, []int{1, 2}, 22})
	}
	want[len(want)-1].busy = false
	for i, v := range want {
		p.expect(v)
		if i == len(want)-1 {
			break
		}
		if done, e := p.g.Step(p.gm); done != (i == len(want)-2) || e != api.OK {
			t.Fatal(i, done, e)
		}
	}
}

// P16.3, step 4: all slots come back at once, in every rotation and backwards.
func TestReturnedAll(t *testing.T) {
	for _, ring := range rings {
		for by := range ring {
			p := filled(t, ring)
			list := append(upTo(ring)[by:], upTo(by)...)
			p.returns(list...)
			p.sends(api.OK, 3)
			p.slots(list[1:], list[:1])
			for range ring - 1 {
				p.sends(api.OK, 4)
			}
			p.sends(api.ErrFull, 5)
			p.slots(nil, list)
			slices.Reverse(list)
			p.returns(list...)
			p.sends(api.OK, 6)
			p.slots(list[1:], list[:1])
		}
	}
}

// P16.3, step 4: numbers at Used that are no slot that is out. What came back before them has come back.
func TestReturnedCorrupt(t *testing.T) {
	for _, ring := range rings {
		for _, bad := range []int{ring, ring + 1, 64, 65, 255, 256, 32768, 65534, 65535, 65536 - ring} {
			for good := range ring {
				if bad < ring {
					continue
				}
				p := filled(t, ring)
				p.returns(append(upTo(good), bad)...)
				p.sends(api.ErrCorrupt, 1)
				want := []port.Touch{epochs(5, 0), loads(103, good+1)}
				for i := range good {
					want = append(want, loads(p.m.used(i), i))
				}
				p.accesses(append(want, loads(p.m.used(good), bad), epochs(5, 0))...)
				p.slots(upTo(good), upTo(ring)[good:])
				// The next call begins behind those that came back.
				p.set(p.m.used(good), good)
				p.sends(api.OK, 2)
				p.accesses(slices.Concat([]port.Touch{epochs(5, 0), loads(103, good+1), loads(p.m.used(good), good)}, message(p.m.words, 5, ring, 0, 2), []port.Touch{epochs(5, 0)})...)
			}
		}
	}
}

// P16.3, step 4: a slot that is free already, and one that came back in the same call.
func TestReturnedTwice(t *testing.T) {
	p := filled(t, 4)
	p.returns(1, 3, 1)
	p.sends(api.ErrCorrupt)
	p.accesses(epochs(5, 0), loads(103, 3), loads(108, 1), loads(109, 3), loads(110, 1), epochs(5, 0))
	p.slots([]int{1, 3}, []int{0, 2})
	for _, s := range []int{1, 3} {
		p.returns(s)
		p.sends(api.ErrCorrupt)
		p.accesses(epochs(5, 0), loads(103, 3), loads(110, s), epochs(5, 0))
		p.slots([]int{1, 3}, []int{0, 2})
	}
	p.returns(2, 2)
	p.sends(api.ErrCorrupt)
	p.slots([]int{1, 3, 2}, []int{0})
	p.returns(0)
	p.sends(api.OK, 1)
	p.slots([]int{3, 2, 0}, []int{1})
	// Slot 1 is out again, and may come back again.
	p.returns(1)
	p.sends(api.OK, 1)
	p.slots([]int{2, 0, 1}, []int{3})

	p = paired(t, 100, 4, 2, 5, 0)
	p.sends(api.OK)
	p.sends(api.OK)
	p.returns(2, 0)
	p.sends(api.ErrCorrupt)
	p.slots([]int{2, 3}, []int{0, 1})
	p.returns(1, 3)
	p.sends(api.ErrCorrupt)
	p.slots([]int{2, 3, 1}, []int{0})
	p.sends(api.ErrCorrupt)
	p.slots([]int{2, 3, 1}, []int{0})
}

// P16.3, step 4: no slot is free, and then one is.
func TestFull(t *testing.T) {
	for _, ring := range rings {
		p := filled(t, ring)
		for range 3 {
			p.sends(api.ErrFull, 1, 2, 3)
			p.accesses(epochs(5, 0), loads(103, 0), epochs(5, 0))
			p.expect(view{false, true, nil, upTo(ring), ring + 18})
		}
		p.returns(ring - 1)
		p.sends(api.OK, 6)
		p.accesses(slices.Concat([]port.Touch{epochs(5, 0), loads(103, 1), loads(p.m.used(0), ring-1)}, message(p.m.words, 5, ring, ring-1, 6), []port.Touch{epochs(5, 0)})...)
		p.sends(api.ErrFull)
		p.accesses(epochs(5, 0), loads(103, 1), epochs(5, 0))
		p.slots(nil, upTo(ring))
	}
}

// P16.3, steps 5 and 6: the slots and the numbers of several messages, and that each goes where NEXT is.
func TestWrite(t *testing.T) {
	for _, ring := range rings {
		p := paired(t, 100, ring, 2, 5, 0)
		var list []int
		for i := range 3 * ring {
			d := i % ring
			want := []port.Touch{epochs(5, 0)}
			if i == 0 {
				want = append(want, loads(101, 0))
			}
			want = append(want, loads(103, max(0, i-ring+1)))
			if i >= ring {
				p.returns(d)
				want = append(want, loads(p.m.used(i), d))
			}
			if len(list) == 8 {
				list = nil
			}
			list = append(list, 65535-i)
			p.sends(api.OK, list...)
			p.accesses(slices.Concat(want, message(p.m.words, 5, i, d, list...), []port.Touch{epochs(5, 0)})...)
		}
	}
}

// P16.3, step 7: the peer's epoch differs at the last access alone, with OK, ErrFull and both kinds of ErrCorrupt told by then.
func TestOver(t *testing.T) {
	for _, own := range []int{0, 7} {
		for _, other := range []int{1, 5, 65535} {
			for _, scene := range []struct {
				sent     int
				returned []int
				ui       int
				want     api.Errno
				taken    bool
			}{{0, nil, 0, api.OK, true}, {3, []int{1}, 1, api.OK, true}, {4, nil, 0, api.ErrFull, false}, {2, nil, 3, api.ErrCorrupt, false}, {2, []int{1, 1}, 2, api.ErrCorrupt, false}} {
				p := paired(t, 100, 4, 2, 5, own)
				if own > 0 {
					p.sends(api.ErrReset)
				}
				p.set(p.m.ce(), own)
				for range scene.sent {
					p.sends(api.OK, 4)
				}
				p.returns(scene.returned...)
				p.set(p.m.ui(), scene.ui)
				p.atLast(other)
				p.sends(api.ErrReset, 8, 8)
				if last := p.gm.touches[len(p.gm.touches)-1]; last != epochs(5, other) {
					t.Fatal(p.gm.touches)
				}
				if n := 4 - len(p.g.Free()) - scene.sent + min(len(scene.returned), 1); (n == 1) != scene.taken {
					t.Fatal(scene, p.g.Free())
				}
				// The epoch that differed is not known: the next call makes a new link with it.
				p.use(nil)
				p.sends(api.ErrReset, 9)
				p.accesses(epochs(5, other), stores(102, 0), stores(100, (own+other)%65536), fences())
				p.slots(upTo(4), nil)
			}
		}
	}
}

// P16.3, step 7: NEXT after a call that ended with ErrReset at its last access, if the peer's epoch is the known one again; the slot that was taken remains out.
func TestOverNext(t *testing.T) {
	p := paired(t, 100, 4, 2, 5, 0)
	p.sends(api.OK, 1)
	p.atLast(6)
	p.sends(api.ErrReset, 2)
	p.accesses(slices.Concat([]port.Touch{epochs(5, 0), loads(103, 0)}, message(p.m.words, 5, 1, 1, 2), []port.Touch{epochs(5, 6)})...)
	p.expect(view{false, true, []int{2, 3}, []int{0, 1}, 22})
	p.use(nil)
	p.peerEpoch(0)
	p.sends(api.OK, 3)
	p.accesses(slices.Concat([]port.Touch{epochs(5, 0), loads(103, 0)}, message(p.m.words, 5, 1, 2, 3), []port.Touch{epochs(5, 0)})...)
	p.sends(api.OK, 4)
	p.accesses(slices.Concat([]port.Touch{epochs(5, 0), loads(103, 0)}, message(p.m.words, 5, 2, 3, 4), []port.Touch{epochs(5, 0)})...)
	// Only three messages were sent with OK, but four slots are out.
	p.sends(api.ErrFull)
	p.returns(1, 0, 2, 3)
	p.sends(api.OK, 5)
	p.slots([]int{0, 2, 3}, []int{1})
}

// P16.3, step 7: NEXT is incremented with OK alone.
func TestNext(t *testing.T) {
	p := paired(t, 100, 2, 2, 5, 0)
	next := func(n, d int) {
		t.Helper()
		p.sends(api.OK)
		list := p.gm.touches
		if want := append(message(p.m.words, 5, n, d), epochs(5, 0)); !slices.Equal(list[len(list)-7:], want) {
			t.Fatalf("accesses %v, want %v at the end", list, want)
		}
	}
	p.set(p.m.ce(), 1)
	p.sends(api.ErrDown)
	p.set(p.m.ce(), 0)
	p.set(p.m.ui(), 1)
	p.sends(api.ErrCorrupt)
	p.set(p.m.ui(), 0)
	next(0, 0)
	next(1, 1)
	p.sends(api.ErrFull)
	p.returns(5)
	p.sends(api.ErrCorrupt)
	p.returns(1, 1)
	p.sends(api.ErrCorrupt)
	p.returns(0)
	next(2, 1)
	next(3, 0)
}

// P16.3: NEXT and TAIL pass 65535, with Ui at every distance there.
func TestWrapround(t *testing.T) {
	for _, ring := range rings {
		p := paired(t, 100, ring, 2, 5, 0)
		for range 65536 - 2*ring {
			p.fast(api.OK)
			p.returns(p.g.Out()...)
		}
		p.send()
		for round := range 6 * ring {
			for len(p.g.Out()) < ring {
				p.sends(api.OK, round, 1)
			}
			p.sends(api.ErrFull)
			for _, ahead := range []int{ring + 1, ring + 2, 32768, 65535, 65535 - ring} {
				p.set(p.m.ui(), (p.m.tail+ahead)%65536)
				p.sends(api.ErrCorrupt)
			}
			list := p.g.Out()
			p.returns(list[:1+round%ring]...)
			p.sends(api.OK, round)
		}
		if p.m.next > 10*ring*ring || p.m.tail > 10*ring*ring {
			t.Fatal("not beyond 65535:", p.m.next, p.m.tail)
		}
	}
}

// P16.3: the accesses at 65535 themselves.
func TestWraproundAccesses(t *testing.T) {
	p := paired(t, 0, 2, 0, 1, 0)
	for i := range 65535 {
		p.fast(api.OK)
		p.returns(i % 2)
	}
	// NEXT is 65535, and TAIL is 65534 until the returned slot is loaded.
	p.sends(api.OK, 7)
	p.accesses(slices.Concat([]port.Touch{epochs(1, 0), loads(3, 65535), loads(6, 0)}, message(p.m.words, 1, 65535, 1, 7), []port.Touch{epochs(1, 0)})...)
	if p.gm.words[2] != 0 || p.gm.words[5] != 1 {
		t.Fatal(p.gm.words)
	}
	p.sends(api.OK, 8)
	p.accesses(slices.Concat([]port.Touch{epochs(1, 0), loads(3, 65535)}, message(p.m.words, 1, 0, 0, 8), []port.Touch{epochs(1, 0)})...)
	p.sends(api.ErrFull)
	p.set(3, 65534)
	p.sends(api.ErrCorrupt)
	p.set(3, 2)
	p.sends(api.ErrCorrupt)
	p.accesses(epochs(1, 0), loads(3, 2), epochs(1, 0))
	p.set(3, 1)
	p.set(6, 0, 1)
	p.sends(api.OK, 9)
	p.accesses(slices.Concat([]port.Touch{epochs(1, 0), loads(3, 1), loads(7, 1), loads(6, 0)}, message(p.m.words, 1, 1, 1, 9), []port.Touch{epochs(1, 0)})...)
	p.slots([]int{0}, []int{1})
}

// P16.4: the lists are the caller's own.
func TestLists(t *testing.T) {
	p := filled(t, 4)
	p.returns(2, 0)
	p.between = func() {
		for _, list := range [][]int{p.g.Free(), p.g.Out(), p.g.Free(), p.g.Out()} {
			for i := range list {
				list[i] = -5
			}
			list = append(list, -6, -7)
			for i := range list[:cap(list)] {
				list[:cap(list)][i] = -8
			}
		}
	}
	p.sends(api.OK, 1)
	p.sends(api.OK, 2)
	p.between()
	p.sends(api.ErrFull, 3)
	free, out := p.g.Free(), p.g.Out()
	p.returns(1)
	p.sends(api.OK, 4)
	if len(free) != 0 || !slices.Equal(out, []int{1, 3, 2, 0}) {
		t.Fatal("lists that were returned have changed:", free, out)
	}
}

// P16.4: Bound, which a call of a linked giver with all slots out comes nearest to.
func TestBound(t *testing.T) {
	for _, ring := range rings {
		p := filled(t, ring)
		p.returns(upTo(ring)...)
		p.sends(api.OK, 1, 2, 3, 4, 5, 6, 7, 8)
		if n := len(p.gm.touches); n != ring+17 || p.g.Bound() != ring+18 {
			t.Fatal(ring, n, p.g.Bound())
		}
	}
}

// Every method of a nil Giver.
func TestNil(t *testing.T) {
	var g *giver.Giver
	m := &memory{words: map[int]int{}}
	for range 2 {
		for _, load := range [][]int{nil, {}, {1}, {-1}, make([]int, 9)} {
			if e := g.Send(load); e != api.ErrNone {
				t.Fatalf("Send(%v) = %d", load, e)
			}
		}
		for _, p := range []port.Port{m, nil, (*port.Core)(nil), bad{}} {
			if done, e := g.Step(p); !done || e != api.ErrNone {
				t.Fatalf("Step() = %v, %d", done, e)
			}
		}
		if v := look(g); !v.same(view{}) {
			t.Fatal(v)
		}
	}
	if m.touches != nil {
		t.Fatal(m.touches)
	}
}

// Two givers share nothing, also if they were made alike or their calls are made by turns.
func TestTwo(t *testing.T) {
	p, q := filled(t, 4), paired(t, 100, 4, 2, 5, 0)
	q.expect(view{false, false, upTo(4), nil, 22})
	p.returns(3, 1)
	p.between = func() {
		if !q.g.Busy() {
			q.fast(q.m.send(&memory{words: map[int]int{101: 77}}, nil))
		}
	}
	q.set(q.m.ce(), 77)
	p.sends(api.OK, 1, 2)
	q.expect(view{false, false, upTo(4), nil, 22})
	q.set(q.m.ce(), 0)
	p.between = nil
	q.between = func() { p.fast(api.ErrCorrupt) }
	p.set(p.m.ui(), 60)
	q.sends(api.OK, 3)
	p.slots([]int{1}, []int{0, 2, 3})
}

// bad is a port that panics.
type bad struct{}

func (bad) Load(a int) int     { panic("load") }
func (bad) Store(a, w int)     { panic(nil) }
func (bad) Fence()             { panic(api.ErrArg) }
func (bad) Epoch(core int) int { return []int{}[core] }
func (bad) Kick(to int)        { panic(to) }

// none returns the ports through which nothing is possible.
func none() []port.Port {
	s, _ := soc.New(site.Plan{Cores: 2, Words: 99, Locks: 1}, 1)
	s.Hold(0)
	return []port.Port{nil, bad{}, (*port.Plain)(nil), (*port.Core)(nil), (*port.Trace)(nil), port.Traced(nil), port.Traced(bad{}), port.OfWords(nil, nil), port.OfCore(nil, 0), port.OfCore(s, 0), port.OfCore(s, 7)}
}

// P1: a port that is nil, or panics, or through which nothing is possible reads 0.
func TestNoPort(t *testing.T) {
	for i := range none() {
		for _, own := range []int{0, 5} {
			p := paired(t, 0, 2, 0, 1, own)
			nothing := &memory{words: map[int]int{}}
			nothing.ahead = func(m *memory) { clear(m.words) }
			for range 5 {
				var views []view
				nothing.touches = nil
				want := p.m.send(watched{nothing, func() { views = append(views, p.m.view()) }}, []int{1, 2})
				if e := p.g.Send([]int{1, 2}); e != api.OK {
					t.Fatal(e)
				}
				for k := range views {
					p.expect(views[k])
					done, e := p.g.Step(none()[i])
					if done != (k == len(views)-1) || done && e != want || !done && e != api.OK {
						t.Fatal(i, own, k, done, e, want)
					}
				}
				p.expect(p.m.view())
			}
		}
	}
}

// P1: a port that calls the giver whose access it makes changes nothing.
func TestPortCallsBack(t *testing.T) {
	p := filled(t, 4)
	var own port.Port
	back := func() {
		if e := p.g.Send(nil); e != api.ErrBusy {
			t.Fatalf("Send() = %d during an access", e)
		}
		for _, q := range []port.Port{own, p.mm, nil, bad{}} {
			if done, e := p.g.Step(q); done || e != api.OK {
				t.Fatalf("Step() = %v, %d during an access", done, e)
			}
		}
		if !p.g.Busy() {
			t.Fatal("not busy during an access")
		}
	}
	own = watched{p.gm, back}
	call := func(want api.Errno, load ...int) {
		t.Helper()
		p.gm.touches, p.mm.touches = nil, nil
		p.m.send(p.mm, load)
		if e := finish(t, p.g, own, load...); e != want || !slices.Equal(p.gm.touches, p.mm.touches) {
			t.Fatalf("%d after %v, want %d after %v", e, p.gm.touches, want, p.mm.touches)
		}
		p.expect(p.m.view())
	}
	call(api.ErrFull)
	p.returns(3, 1)
	call(api.OK, 1, 2, 3)
	p.returns(2, 2)
	call(api.ErrCorrupt)
	p.peerEpoch(1)
	call(api.ErrReset)
	call(api.ErrDown)
}

// strange is a port that reads numbers that are no words.
type strange struct {
	memory
	dice dice
}

// number returns a number, a word now and then.
func (s *strange) number() int {
	if s.dice.roll(2) == 0 {
		return s.dice.roll(4)
	}
	return far[s.dice.roll(len(far))] + s.dice.roll(3)
}

func (s *strange) Load(a int) int {
	s.memory.Load(a)
	return s.number()
}

func (s *strange) Epoch(core int) int {
	s.memory.Epoch(core)
	if s.dice.roll(20) > 0 {
		return 0
	}
	return s.number()
}

// P1, P16.5: a port that reads numbers that are no words.
func TestStrangePort(t *testing.T) {
	ended := map[api.Errno]int{}
	for seed := range 3000 {
		ring := rings[seed%3]
		g := giver.New(plot.Plot{Base: 7, Ring: ring}, 0, 1, 0)
		s := &strange{memory: memory{words: map[int]int{}}, dice: dice(seed)}
		for range 20 {
			s.touches = nil
			if e := g.Send(make([]int, seed%9)); e != api.OK {
				t.Fatal(e)
			}
			for done := false; !done; {
				n := len(s.touches)
				var e api.Errno
				if done, e = g.Step(s); len(s.touches) != n+1 {
					t.Fatal(s.touches)
				}
				if done {
					ended[e]++
				}
				lawful(t, g, s.touches, words{7, ring}, 1)
			}
		}
	}
	for _, e := range []api.Errno{api.OK, api.ErrReset, api.ErrDown, api.ErrCorrupt} {
		if ended[e] == 0 {
			t.Fatalf("no call has ended with %d", e)
		}
	}
}

// An own epoch other than 0 knows no epoch at all, not even one that is no word.
func TestKnowsNone(t *testing.T) {
	for _, n := range append([]int{0, -1}, far...) {
		p := paired(t, 0, 2, 0, 1, 9)
		p.gm.epochs[1] = n
		if e := finish(t, p.g, p.gm); e != api.ErrReset || len(p.gm.touches) != 4 {
			t.Fatal(n, e, p.gm.touches)
		}
	}
}

// lawful checks P16.5 behind a step of a call with the accesses.
func lawful(t *testing.T, g *giver.Giver, list []port.Touch, c words, peer int) {
	t.Helper()
	if len(list) > g.Bound() || len(list) > c.ring+18 {
		t.Fatalf("%d accesses", len(list))
	}
	for _, x := range list {
		place, _ := plot.Where(api.Conf{Cores: 2, Ring: c.ring, Buf: 1}, x.At-c.base)
		switch x.Kind {
		case 1:
			if place.From != 0 || !slices.Contains([]int{plot.Ce, plot.Ui, plot.Used}, place.Field) {
				t.Fatalf("a load at %d: %v", x.At, place)
			}
		case 2:
			if place.From != 0 || !slices.Contains([]int{plot.Ai, plot.Pe, plot.Load, plot.Len, plot.Avail}, place.Field) {
				t.Fatalf("a store at %d: %v", x.At, place)
			}
		case 4, 5:
			if x.At != peer {
				t.Fatalf("access %d of core %d", x.Kind, x.At)
			}
		}
	}
	all := append(g.Free(), g.Out()...)
	if slices.Sort(all); !slices.Equal(all, upTo(c.ring)) {
		t.Fatalf("free %v, out %v", g.Free(), g.Out())
	}
}

// P16.5: in memories whose words are arbitrary and change between the steps.
func TestLaws(t *testing.T) {
	ended := map[api.Errno]int{}
	for seed := range 1800 {
		ring := rings[seed%6]
		own := []int{0, 1, 65535}[seed/6%3]
		p := paired(t, 300, ring, 4, 1, own)
		d := dice(seed)
		for range 40 {
			p.arbitrary(dice(d.roll(1<<30)), seed%5)
			load := make([]int, d.roll(9))
			for i := range load {
				load[i] = d.roll(65536)
			}
			p.between = func() { lawful(t, p.g, p.gm.touches, p.m.words, 1) }
			ended[p.send(load...)]++
			p.between()
		}
	}
	for _, e := range []api.Errno{api.OK, api.ErrFull, api.ErrReset, api.ErrDown, api.ErrCorrupt} {
		if ended[e] < 100 {
			t.Fatalf("%d calls have ended with %d", ended[e], e)
		}
	}
}

// arbitrary lets words of the channel, and the peer's epoch, change ahead of every access. The wilder, the less they are what a peer would store.
func (p *pair) arbitrary(d dice, wild int) {
	c, tail, mark := p.m.words, p.m.tail, p.m.own
	if len(p.m.known) > 0 {
		mark = p.m.epoch()
	}
	out := slices.Clone(p.m.out)
	p.use(func(m *memory) {
		r := d + dice(len(m.touches))*977
		for range 1 + wild {
			m.words[c.base+r.roll(4+11*c.ring)] = r.roll(65536)
		}
		if r.roll(8) >= wild {
			m.words[c.ce()] = mark
		}
		if r.roll(16) >= wild {
			m.words[c.ui()] = (tail + min(r.roll(c.ring+2), len(out)+r.roll(20)/19)) % 65536
		}
		for i := range c.ring {
			if r.roll(200) >= wild {
				m.words[c.used(tail+i)] = append(out, c.ring)[(i*(1+2*int(d%2)))%max(len(out), 1)]
			}
		}
		if r.roll(400) < wild {
			m.epochs[p.m.peer] = r.roll(3)
		}
	})
}

// P16.3: all sequences of a few calls of a giver with two slots, in all of these scenes.
func TestAllSmall(t *testing.T) {
	type scene struct {
		ahead, first, second int // Ui behind TAIL, and the next two words of Used
		early, late, mark    bool
	}
	var scenes []scene
	for _, ahead := range []int{-1, 0, 3} {
		scenes = append(scenes, scene{ahead: ahead})
	}
	for s := range 3 {
		scenes = append(scenes, scene{ahead: 1, first: s})
		for r := range 3 {
			scenes = append(scenes, scene{ahead: 2, first: s, second: r})
		}
	}
	scenes = append(scenes, scene{early: true}, scene{late: true}, scene{ahead: 1, late: true}, scene{ahead: 3, late: true}, scene{mark: true})
	const calls = 4
	total := 1
	for range calls {
		total *= len(scenes)
	}
	for n := range total {
		p := paired(t, 0, 2, 1, 0, n%2)
		epoch := 0
		for range calls {
			s := scenes[n%len(scenes)]
			n /= len(scenes)
			p.set(p.m.used(p.m.tail), s.first)
			p.set(p.m.used(p.m.tail+1), s.second)
			p.set(p.m.ui(), (p.m.tail+s.ahead+65536)%65536)
			if s.early {
				epoch++
			}
			p.peerEpoch(epoch)
			p.set(p.m.ce(), p.m.own+epoch)
			if s.mark {
				p.set(p.m.ce(), p.m.own+epoch+1)
			}
			p.use(nil)
			if s.late {
				epoch++
				p.atLast(epoch)
			}
			p.send(n % 7)
		}
	}
}

// Each step uses the port that it is given.
func TestPorts(t *testing.T) {
	g := giver.New(plot.Plot{Base: 0, Ring: 2}, 0, 1, 0)
	if e := g.Send([]int{5}); e != api.OK {
		t.Fatal(e)
	}
	want := slices.Concat([]port.Touch{epochs(1, 0), loads(1, 0), loads(3, 0)}, message(words{0, 2}, 1, 0, 0, 5), []port.Touch{epochs(1, 0)})
	for i, x := range want {
		p := port.Traced(nil)
		if done, e := g.Step(p); done != (i == len(want)-1) || e != api.OK || !slices.Equal(p.Touches(), []port.Touch{x}) {
			t.Fatal(i, done, e, p.Touches(), x)
		}
	}
}

// A giver on a soc: what another core sees of a message when it is rung, whatever the buffer's capacity is.
func TestSoc(t *testing.T) {
	c := api.Conf{Cores: 3, Ring: 2}
	for c.Buf = 1; c.Buf <= 16; c.Buf++ {
		s, e := soc.New(site.Plan{Cores: 3, Words: plot.Words(c), Locks: 1}, c.Buf)
		if e != api.OK {
			t.Fatal(e)
		}
		x, _ := plot.Of(c, 2, 1)
		g, p := giver.New(x, 2, 1, 0), port.OfCore(s, 2)
		peer := port.OfCore(s, 1)
		for i, load := range [][]int{{9, 8, 7}, {1, 2, 3, 4, 5, 6, 7, 8}} {
			if e := g.Send(load); e != api.OK {
				t.Fatal(e)
			}
			for {
				// The message is there whenever Ai shows it.
				w := words{x.Base, x.Ring}
				if peer.Load(w.ai()) == i+1 && (peer.Load(w.avail(i)) != i || peer.Load(w.len(i)) != len(load) || peer.Load(w.load(i, len(load)-1)) != load[len(load)-1]) {
					t.Fatal("shown ahead of being there:", s.Ram().Cells())
				}
				bits, n := s.Mail(1)
				if n == i+1 && (bits != 4 || peer.Load(w.ai()) != i+1) {
					t.Fatal("rung ahead of being shown:", s.Ram().Cells())
				}
				if done, e := g.Step(p); done {
					if e != api.OK || len(s.Waits(2)) != 0 {
						t.Fatal(e, s.Waits(2))
					}
					break
				}
			}
		}
		if _, n := s.Mail(1); n != 2 {
			t.Fatal(n)
		}
		if e := finish(t, g, p); e != api.ErrFull {
			t.Fatal(e)
		}
		s.Hold(1)
		s.Start(1)
		if e := finish(t, g, p); e != api.ErrReset || peer.Load(x.Base) != 1 || peer.Load(x.Base+2) != 0 {
			t.Fatal(e, s.Ram().Cells())
		}
		if e := finish(t, g, p); e != api.ErrDown {
			t.Fatal(e)
		}
		peer.Store(x.Base+1, 1)
		peer.Fence()
		if e := finish(t, g, p, 4); e != api.OK || peer.Load(x.Base+2) != 1 {
			t.Fatal(e, s.Ram().Cells())
		}
	}
}
