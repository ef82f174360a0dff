package board_test

import (
	"slices"
	"testing"

	"switchyard/api"
	"switchyard/board"
	"switchyard/diary"
	"switchyard/site"
	"switchyard/soc"
)

// The example of the chapter.
func TestExample(t *testing.T) {
	for buf := 1; buf <= 16; buf++ {
		b := made(t, 2, 2, buf)
		all(t, b, board.Event{Kind: board.Send, Core: 0, Peer: 1})
		if n, e := b.Run(0); n != 10 || e != api.OK {
			t.Fatal(n, e)
		}
		all(t, b, board.Event{Kind: board.Recv, Core: 1, Peer: 0})
		if n, e := b.Run(1); n != 6 || e != api.OK {
			t.Fatal(n, e)
		}
	}
}

// The numbers of the chapter's constants, and the limits.
func TestConstants(t *testing.T) {
	got := []int{board.Step, board.Drain, board.Send, board.Recv, board.Release, board.Hold, board.Start, board.Write, api.MaxCores, api.MaxRing, api.MaxBuf, api.MaxLoad}
	if want := []int{1, 2, 3, 4, 5, 6, 7, 8, 8, 64, 16, 8}; !slices.Equal(got, want) {
		t.Errorf("the constants are %v, want %v", got, want)
	}
}

// P20.1, and the initial state: every valid configuration.
func TestNew(t *testing.T) {
	for cores := 2; cores <= 8; cores++ {
		for ring := 2; ring <= 64; ring *= 2 {
			for buf := 1; buf <= 16; buf++ {
				b := made(t, cores, ring, buf)
				if c := (api.Conf{Cores: cores, Ring: ring, Buf: buf}); b.Conf() != c {
					t.Fatal(b.Conf(), c)
				}
				initial(t, b)
			}
		}
	}
}

// initial checks that nothing has happened on a board.
func initial(t *testing.T, b *board.Board) {
	t.Helper()
	c := b.Conf()
	if b.Now() != 0 || len(b.Diary()) != 0 {
		t.Fatal(c, b.Now(), b.Diary())
	}
	s, e := soc.New(site.Plan{Cores: c.Cores, Words: c.Cores * (c.Cores - 1) * (4 + 11*c.Ring), Locks: 1}, c.Buf)
	if e != api.OK || !soc.Same(b.Soc(), s) || b.Soc().Plan() != s.Plan() {
		t.Fatal(c, e, b.Soc().Plan())
	}
	for i := -1; i <= c.Cores; i++ {
		if b.Busy(i) {
			t.Fatal(c, i, "is busy")
		}
		for k := -1; k <= c.Cores; k++ {
			var free []int
			if i != k && min(i, k) >= 0 && max(i, k) < c.Cores {
				free = upTo(c.Ring)
			}
			slotsAre(t, b, i, k, free, nil, nil)
			linkedAre(t, b, i, k, false, false)
		}
	}
}

// P20.1: the neighbours of the limits of one field alone, and the numbers far from them.
func TestNewOfNothing(t *testing.T) {
	none := func(cores, ring, buf int) {
		t.Helper()
		if b, e := board.New(api.Conf{Cores: cores, Ring: ring, Buf: buf}); b != nil || e != api.ErrArg {
			t.Errorf("New({%d %d %d}) = %v, %d", cores, ring, buf, b, e)
		}
	}
	for _, n := range append([]int{1, 0, -1, 9, 10, 16, 256, 65536 + 2}, far...) {
		none(n, 2, 1)
		none(n, 64, 16)
	}
	for _, n := range append([]int{1, 0, -1, 3, 5, 6, 7, 9, 12, 31, 33, 48, 63, 65, 96, 128, 256, 65536}, far...) {
		none(2, n, 1)
		none(8, n, 16)
	}
	for _, n := range append([]int{0, -1, 17, 18, 32, 256, 65536 + 1}, far...) {
		none(2, 2, n)
		none(8, 64, n)
	}
	none(0, 0, 0)
	none(9, 65, 17)
	none(-1, -2, -1)
	for n := -40; n <= 200; n++ {
		_, e := board.New(api.Conf{Cores: n, Ring: 4, Buf: 2})
		if (e == api.OK) != (2 <= n && n <= 8) {
			t.Error("cores", n, e)
		}
		_, e = board.New(api.Conf{Cores: 2, Ring: n, Buf: 2})
		if (e == api.OK) != slices.Contains([]int{2, 4, 8, 16, 32, 64}, n) {
			t.Error("ring", n, e)
		}
		_, e = board.New(api.Conf{Cores: 2, Ring: 4, Buf: n})
		if (e == api.OK) != (1 <= n && n <= 16) {
			t.Error("buf", n, e)
		}
	}
}

// P20.1: the time counts the events, whether they are rejected or not, and nothing else.
func TestNow(t *testing.T) {
	b := made(t, 3, 2, 1)
	l := []board.Event{
		step(0), step(3), step(-1), drain(0), drain(5), write(0, 3, 4), write(0, 3, -1), write(0, -1, 0), write(3, 3, 3), {}, {Kind: 9}, {Kind: -1},
		send(0, 1, 7), send(0, 1, 7), send(1, 1), send(1, 3), send(2, 1, -1), recv(1, 0), recv(1, 0), step(0), step(1), release(2, 0, 64),
		hold(1), hold(1), hold(3), step(1), recv(1, 0), start(1), start(1), start(-1), drain(2), step(0),
	}
	for i, x := range l {
		b.Do(x)
		if b.Now() != i+1 {
			t.Fatalf("the time is %d after %d events", b.Now(), i+1)
		}
		b.Conf()
		b.Busy(0)
		b.Diary()
		b.Slots(0, 1)
		b.Linked(0, 1)
		b.Soc()
		if b.Now() != i+1 {
			t.Fatalf("the time is %d after %d events and some questions", b.Now(), i+1)
		}
	}
}

// P20.2: kinds that do not exist, whatever the cores are like.
func TestKinds(t *testing.T) {
	p := scene(t)
	was := seen(p.b)
	for _, kind := range append([]int{0, 9, 10, -1, 16, 255, 256, 257, 65536}, far...) {
		for _, core := range []int{-1, 0, 1, 2, 3, 4, 8} {
			for _, peer := range []int{-1, 0, 1, 2, 3, 4, 8} {
				p.does(api.ErrArg, board.Event{Kind: kind, Core: core, Peer: peer, Handle: 64, Load: []int{1}, At: 2, Word: 3})
			}
		}
	}
	was.check(t, p.b)
}

// scene returns a board on which core 0 has no call and holds two messages of core 2, core 1 is held, core 2 is sending to core 0 with a store that is pending, and core 3 has been started again and has a call.
func scene(t testing.TB) *pair {
	t.Helper()
	p := paired(t, 4, 4, 3)
	for _, w := range []int{70, 71} {
		p.ends(api.OK, send(2, 0, w))
		p.ends(api.OK, recv(0, 2))
	}
	p.does(api.OK, hold(1), hold(3), start(3), write(0, 1, 5))
	p.does(api.OK, send(2, 0, 72, 73), recv(3, 0), step(3))
	p.steps(2, 4)
	return p
}

// sight is all that can be asked of a board but the time, in a form that can be held against another one.
type sight struct {
	history []diary.Entry
	soc     *soc.Soc
	slots   [][]int
	linked  []bool
	busy    []bool
}

// seen returns what can be asked of a board now.
func seen(b *board.Board) sight {
	s := sight{history: b.Diary(), soc: b.Soc()}
	for i := range b.Conf().Cores {
		s.busy = append(s.busy, b.Busy(i))
		for k := range b.Conf().Cores {
			free, out, held := b.Slots(i, k)
			s.slots = append(s.slots, free, out, held)
			giver, taker := b.Linked(i, k)
			s.linked = append(s.linked, giver, taker)
		}
	}
	return s
}

// check compares what can be asked of a board with what could be asked of it.
func (s sight) check(t testing.TB, b *board.Board) {
	t.Helper()
	now := seen(b)
	if !diary.Same(s.history, now.history) || !soc.Same(s.soc, now.soc) || !slices.Equal(s.linked, now.linked) || !slices.Equal(s.busy, now.busy) || !slices.EqualFunc(s.slots, now.slots, slices.Equal[[]int]) {
		t.Fatalf("%+v, want %+v", now, s)
	}
}

// The numbers of cores and peers of a board with so many cores.
func numbers(cores int) []int {
	return append(append([]int{-1}, upTo(cores+2)...), append([]int{256, 65536}, far...)...)
}

// refused are calls that no machine begins, with the errors that they have then.
var refused = []struct {
	x    board.Event
	want api.Errno
}{
	{send(0, 0, 1, 2, 3, 4, 5, 6, 7, 8, 9), api.ErrLong},
	{send(0, 0, 1, 2, 3, -4, 5, 6, 7, 8, 65536), api.ErrLong},
	{send(0, 0, make([]int, 100)...), api.ErrLong},
	{send(0, 0, -1), api.ErrArg},
	{send(0, 0, 65536), api.ErrArg},
	{send(0, 0, 1, 2, 3, 4, 5, 6, 7, 1<<32), api.ErrArg},
	{release(0, 0, 0), api.ErrHandle},
	{release(0, 0, 1), api.ErrHandle},
	{release(0, 0, 64), api.ErrHandle},
	{release(0, 0, -64), api.ErrHandle},
	{release(0, 0, 1<<62), api.ErrHandle},
}

// P20.2: the errors of Send, Recv and Release, in their order, for all cores and peers, when one core is up, busy or held; they change nothing.
func TestCallErrors(t *testing.T) {
	for _, cores := range []int{2, 3, 8} {
		for _, one := range []int{0, cores - 1} {
			for state := range 3 {
				b := made(t, cores, 2, 2)
				switch state {
				case 1:
					all(t, b, recv(one, cores-1-one))
				case 2:
					all(t, b, hold(one))
				}
				was := seen(b)
				for _, y := range refused {
					for _, core := range numbers(cores) {
						for _, peer := range numbers(cores) {
							x, want, now := y.x, y.want, b.Now()
							x.Core, x.Peer = core, peer
							switch {
							case min(core, peer) < 0 || max(core, peer) >= cores:
								want = api.ErrCore
							case core == one && state == 2:
								want = api.ErrOff
							case core == peer:
								want = api.ErrArg
							case core == one && state == 1:
								want = api.ErrBusy
							}
							if e := b.Do(x); e != want || b.Now() != now+1 {
								t.Fatalf("%+v has the result %d at %d, want %d", x, e, b.Now(), want)
							}
						}
					}
				}
				was.check(t, b)
			}
		}
	}
}

// P20.2: the same errors of calls that would begin otherwise, and calls that do so, also when the peer is held or busy.
func TestCallsBegin(t *testing.T) {
	for _, cores := range []int{2, 5, 8} {
		for state := range 3 {
			for _, core := range numbers(cores) {
				for _, peer := range numbers(cores) {
					for _, x := range []board.Event{send(core, peer), send(core, peer, 0, 65535), send(core, peer, 1, 2, 3, 4, 5, 6, 7, 8), recv(core, peer)} {
						b := made(t, cores, 2, 1)
						switch state {
						case 1:
							b.Do(recv(peer, core))
						case 2:
							b.Do(hold(peer))
						}
						want := api.OK
						switch {
						case min(core, peer) < 0 || max(core, peer) >= cores:
							want = api.ErrCore
						case core == peer && state == 2:
							want = api.ErrOff
						case core == peer:
							want = api.ErrArg
						}
						was := seen(b)
						if e := b.Do(x); e != want || e == api.OK && !b.Busy(core) {
							t.Fatalf("%+v has the result %d in the state %d, want %d", x, e, state, want)
						}
						if want != api.OK {
							was.check(t, b)
						}
					}
				}
			}
		}
	}
}

// P20.2: the order of the errors where all of them apply, and where the first ones do no more.
func TestCallErrorsOrder(t *testing.T) {
	for kind := 3; kind <= 5; kind++ {
		b := made(t, 3, 2, 2)
		all(t, b, recv(0, 1), hold(1))
		x := board.Event{Kind: kind, Load: make([]int, 9), Handle: 5}
		result := func(core, peer int, want api.Errno) {
			t.Helper()
			x.Core, x.Peer = core, peer
			if e := b.Do(x); e != want {
				t.Errorf("kind %d from %d to %d: %d, want %d", kind, core, peer, e, want)
			}
		}
		result(1, 3, api.ErrCore) // a held core, and no peer
		result(1, -1, api.ErrCore)
		result(3, 1, api.ErrCore)
		result(3, 3, api.ErrCore) // no cores, which are equal
		result(0, 3, api.ErrCore) // a busy core, and no peer
		result(1, 1, api.ErrOff)  // a held core, and itself
		result(1, 0, api.ErrOff)
		result(0, 0, api.ErrArg) // a busy core, and itself
		result(0, 1, api.ErrBusy)
		result(0, 2, api.ErrBusy)
		result(2, 2, api.ErrArg)
		if kind != 4 {
			want := map[int]api.Errno{3: api.ErrLong, 5: api.ErrHandle}[kind]
			result(2, 0, want)
			result(2, 1, want)
		}
	}
}

// P20.2: the handles of one channel are none on another one, and each is valid once.
func TestHandles(t *testing.T) {
	p := paired(t, 3, 2, 2)
	for range 2 {
		p.ends(api.OK, send(0, 1, 5))
		p.ends(api.OK, recv(1, 0))
	}
	for _, h := range []int{64, 65} {
		p.does(api.ErrHandle, release(1, 2, h), release(0, 1, h), release(2, 1, h), release(1, 0, h+64), release(1, 0, h+2), release(1, 0, h-64), release(1, 0, h+65536*64))
		p.ends(api.OK, release(1, 0, h))
		p.does(api.ErrHandle, release(1, 0, h))
	}
}

// P20.2: the errors of Step, in their order.
func TestStepErrors(t *testing.T) {
	for _, cores := range []int{2, 4, 8} {
		p := paired(t, cores, 2, 2)
		p.does(api.OK, recv(0, 1), step(0), hold(0), recv(1, 0))
		was := seen(p.b)
		for _, n := range numbers(cores) {
			x := board.Event{Kind: board.Step, Core: n, Peer: -1, Handle: 64, Load: make([]int, 9), At: -1, Word: -1}
			switch {
			case n < 0 || n >= cores:
				p.does(api.ErrCore, x)
			case n == 0:
				// Its call is no longer in progress, which would be ErrIdle.
				p.does(api.ErrOff, x)
			case n > 1:
				p.does(api.ErrIdle, x)
			}
		}
		was.check(t, p.b)
		p.runs(1, 4, api.ErrEmpty)
	}
}

// P20.2: Drain drains the oldest store of the core, and has the errors of the soc.
func TestDrain(t *testing.T) {
	p := paired(t, 3, 2, 2)
	p.does(api.OK, write(0, 5, 6), write(0, 7, 8), write(1, 5, 9))
	p.does(api.OK, drain(0))
	if l := ram(p.b); l[5] != 6 || l[7] != 0 {
		t.Fatal(l)
	}
	p.does(api.OK, drain(0), drain(0), drain(1), drain(1), drain(2))
	if l := ram(p.b); l[5] != 9 || l[7] != 8 {
		t.Fatal(l)
	}
	p.does(api.OK, write(2, 1, 1), hold(2), drain(2), drain(2))
	was := seen(p.b)
	for _, n := range append([]int{-1, 3, 4, 7, 8}, far...) {
		p.does(api.ErrCore, drain(n))
	}
	was.check(t, p.b)
}

// P20.2: Write writes what the soc writes, and nothing else.
func TestWrite(t *testing.T) {
	p := paired(t, 3, 2, 2)
	last := 3*2*26 - 1
	p.does(api.OK, write(0, 0, 65535), write(0, last, 1))
	if l := p.b.Soc().Waits(0); !slices.Equal(l, []complex128{65535i, complex(float64(last), 1)}) {
		t.Fatal(l)
	}
	// A store for which there is no room drains the oldest one, and a register all of them.
	p.does(api.OK, write(0, 1, 2))
	if l := p.b.Soc().Waits(0); len(l) != 2 || ram(p.b)[0] != 65535 {
		t.Fatal(l)
	}
	p.does(api.OK, write(0, bellAt(2), 77))
	if bits, n := p.b.Soc().Mail(2); bits != 1 || n != 1 || len(p.b.Soc().Waits(0)) != 0 {
		t.Fatal(bits, n)
	}
	// The first register of the own mailbox acknowledges.
	p.does(api.OK, write(2, bellAt(2)-2, 1))
	if bits, n := p.b.Soc().Mail(2); bits != 0 || n != 1 {
		t.Fatal(bits, n)
	}
}

// P20.2: the errors of a Write are those of the soc, in their order, and change nothing.
func TestWriteErrors(t *testing.T) {
	p := paired(t, 3, 2, 2)
	p.does(api.OK, write(0, 3, 4), write(2, 3, 5), hold(1))
	was := seen(p.b)
	size := 3 * 2 * 26
	nowhere := append([]int{-1, size, size + 1, 65535, bellAt(0) - 1, bellAt(2) - 2, bellAt(0) + 1, bellAt(2) + 1, bellAt(3), lockAt + 1, gateAt(0), gateAt(2), gateAt(3)}, far...)
	for _, core := range append([]int{-1, 3, 8}, far...) {
		for _, a := range append(nowhere, 0, lockAt, bellAt(0)) {
			p.does(api.ErrCore, write(core, a, 1), write(core, a, -1))
		}
	}
	for _, a := range append(nowhere, 0, lockAt, bellAt(0)) {
		p.does(api.ErrOff, write(1, a, 1), write(1, a, -1))
	}
	for _, a := range nowhere {
		p.does(api.ErrAddr, write(0, a, 1), write(0, a, 65536))
	}
	for _, a := range []int{0, size - 1, bellAt(0), bellAt(1), bellAt(0) - 2, lockAt} {
		for _, w := range append([]int{-1, 65536}, far...) {
			p.does(api.ErrArg, write(0, a, w))
		}
	}
	p.does(api.ErrLock, write(0, lockAt, 0), write(2, lockAt, 1))
	was.check(t, p.b)
}

// P20.2: a Write into a full mailbox has an error, but does all that the soc does then.
func TestWriteFull(t *testing.T) {
	p := paired(t, 3, 2, 2)
	for i := range 16 {
		p.does(api.OK, write(0, bellAt(1), i))
	}
	p.does(api.OK, write(2, 3, 4))
	p.does(api.ErrFull, write(2, bellAt(1), 5))
	if bits, n := p.b.Soc().Mail(1); bits != 5 || n != 16 || len(p.b.Soc().Waits(2)) != 0 {
		t.Fatal(bits, n)
	}
}

// P20.2: the errors of Hold and of Start, which change nothing.
func TestHoldAndStartErrors(t *testing.T) {
	p := scene(t)
	was := seen(p.b)
	for _, n := range append([]int{-1, 4, 5, 7, 8}, far...) {
		p.does(api.ErrCore, hold(n), start(n))
	}
	// Core 1 is held; of the others one has no call, and two have one.
	p.does(api.ErrBusy, hold(1), hold(1))
	p.does(api.ErrIdle, start(0), start(2), start(3))
	was.check(t, p.b)
	p.does(api.OK, start(1))
	p.does(api.ErrIdle, start(1), start(1))
	p.does(api.OK, hold(2))
	p.does(api.ErrBusy, hold(2))
}

// rejections returns events that the scene rejects, with their errors.
func rejections() map[api.Errno][]board.Event {
	long := make([]int, 9)
	return map[api.Errno][]board.Event{
		api.ErrCore:   {step(4), step(-1), drain(4), write(4, 0, 1), send(4, 0, 1), send(0, 4, 1), recv(-1, 0), recv(0, -1), release(4, 2, 64), release(0, 4, 64), hold(4), start(-1), send(2, 4), recv(1, 4)},
		api.ErrOff:    {step(1), write(1, 0, 1), send(1, 0, 1), send(1, 1), recv(1, 2), release(1, 2, 64)},
		api.ErrIdle:   {step(0), start(0), start(2), start(3)},
		api.ErrArg:    {{}, {Kind: 9, Core: 2}, send(0, 0, 1), recv(2, 2), release(3, 3, 64), send(0, 2, -1), send(0, 1, 5, 65536), write(0, 3, -1), write(2, bellAt(0), 65536)},
		api.ErrBusy:   {send(2, 0, 1), send(2, 1, long...), recv(2, 0), release(2, 3, 0), send(3, 0), recv(3, 0), hold(1)},
		api.ErrLong:   {send(0, 2, long...), send(0, 1, long...)},
		api.ErrHandle: {release(0, 2, 66), release(0, 2, 128), release(0, 1, 64), release(0, 3, 64), release(0, 2, 0)},
		api.ErrAddr:   {write(0, 4*3*48, 1), write(2, -1, 1), write(0, gateAt(0), 0), write(2, bellAt(0)-2, 1)},
		api.ErrLock:   {write(0, lockAt, 0), write(2, lockAt, 0)},
	}
}

// P20.2: an event that is rejected changes nothing but the time: neither what can be asked of the board, nor what it does behind that.
func TestRejected(t *testing.T) {
	rest := []board.Event{
		step(2), step(3), drain(2), step(2), step(2), step(2), step(3), step(2), step(2), step(3), start(1), step(2), recv(1, 0), step(1),
		release(0, 2, 65), step(0), step(0), step(0), step(0), step(0), step(0), send(2, 0, 9), recv(0, 2),
	}
	for e, l := range rejections() {
		for _, x := range l {
			p, twin := scene(t), scene(t)
			was, now := seen(p.b), p.b.Now()
			p.does(e, x)
			was.check(t, p.b)
			if p.b.Now() != now+1 {
				t.Fatal(x, p.b.Now(), now)
			}
			for _, y := range rest {
				if got, want := p.b.Do(y), twin.b.Do(y); got != want || want != api.OK {
					t.Fatalf("behind %+v, %+v has the result %d, and %d without it", x, y, got, want)
				}
			}
			for i := range 4 {
				p.b.Run(i)
				twin.b.Run(i)
			}
			later(twin.b, now, 1).check(t, p.b)
		}
	}
}

// later returns what can be asked of a board, as if all that happened behind a time had happened so much later.
func later(b *board.Board, time, by int) sight {
	s := seen(b)
	for i := range s.history {
		x := &s.history[i]
		if x.Begin > time {
			x.Begin += by
		}
		if x.End > time {
			x.End += by
		}
	}
	return s
}

// P20.2: a Send, access by access: what is pending, what is in the memory, and whether the peer has been rung. Each step makes one of the accesses.
func TestStepsOfSend(t *testing.T) {
	p := paired(t, 2, 2, 16)
	c := wordsOf(p.m.conf, 0, 1)
	p.does(api.OK, send(0, 1, 70, 71))
	pending := [][]complex128{
		nil, nil, nil, // Epoch, Ce, Ui
		{cell(c.load(0, 0), 70)},
		{cell(c.load(0, 0), 70), cell(c.load(0, 1), 71)},
		{cell(c.load(0, 0), 70), cell(c.load(0, 1), 71), cell(c.len(0), 2)},
		{cell(c.load(0, 0), 70), cell(c.load(0, 1), 71), cell(c.len(0), 2), cell(c.avail(0), 0)},
		nil, // Fence
		{cell(c.ai(), 1)},
		nil, nil, nil, // Fence, Kick, Epoch
	}
	for i, want := range pending {
		if !p.b.Busy(0) || p.last().End != 0 {
			t.Fatalf("the call has ended after %d steps", i)
		}
		p.does(api.OK, step(0))
		if l := p.b.Soc().Waits(0); !slices.Equal(l, want) {
			t.Fatalf("after %d steps %v wait, want %v", i+1, l, want)
		}
		if bits, n := p.b.Soc().Mail(1); bits != n || (n == 1) != (i >= 10) {
			t.Fatalf("after %d steps the peer has %d, %d", i+1, bits, n)
		}
		if l := ram(p.b); (l[c.load(0, 1)] == 71) != (i >= 7) || (l[c.ai()] == 1) != (i >= 9) {
			t.Fatalf("after %d steps the memory is %v", i+1, l)
		}
	}
	if p.b.Busy(0) {
		t.Fatal("the call has not ended")
	}
	p.is(diary.Entry{Core: 0, Peer: 1, Kind: diary.Send, Begin: 1, End: 13, Load: []int{70, 71}})
}

// cell returns a pending store.
func cell(addr, w int) complex128 { return complex(float64(addr), float64(w)) }

// P20.2: a Release, access by access, and a Recv, which stores nothing.
func TestStepsOfRelease(t *testing.T) {
	p := paired(t, 2, 2, 16)
	c := wordsOf(p.m.conf, 1, 0)
	for range 2 {
		p.ends(api.OK, send(1, 0))
	}
	for range 2 {
		p.does(api.OK, recv(0, 1))
		for p.b.Busy(0) {
			p.does(api.OK, step(0))
			if l := p.b.Soc().Waits(0); len(l) != 0 {
				t.Fatal(l)
			}
		}
	}
	p.does(api.OK, release(0, 1, 65))
	// Epoch, Used, Fence, Ui, Fence, Epoch.
	for i, want := range [][]complex128{nil, {cell(c.used(0), 1)}, nil, {cell(c.ui(), 1)}, nil, nil} {
		p.does(api.OK, step(0))
		if l := p.b.Soc().Waits(0); !slices.Equal(l, want) || p.b.Busy(0) != (i < 5) {
			t.Fatalf("after %d steps %v wait, want %v", i+1, l, want)
		}
	}
}

// P20.2: a step accesses the soc as its core does: it sees the core's own pending stores and no other ones, and reading an epoch drains them.
func TestOwnPort(t *testing.T) {
	for _, writer := range []int{0, 1, 2} {
		for drained := range 2 {
			p := paired(t, 3, 2, 4)
			c := wordsOf(p.m.conf, 0, 1)
			p.does(api.OK, write(1, 0, 9), recv(1, 0), step(1))
			if len(p.b.Soc().Waits(1)) != 0 || ram(p.b)[0] != 9 {
				t.Fatal("the first access has not drained the core's store")
			}
			p.does(api.OK, write(1, 0, 0), step(1), write(writer, c.ai(), 3))
			if drained == 1 {
				p.does(api.OK, drain(writer), drain(writer))
			}
			// Three messages are more than there are slots.
			want := api.ErrEmpty
			if writer == 1 || drained == 1 {
				want = api.ErrCorrupt
			}
			p.steps(1, 2)
			if e := p.last(); e.Err != want || e.End == 0 {
				t.Fatal(writer, drained, e, want)
			}
		}
	}
}

// P20.2: each core steps its own call, whichever calls the others have.
func TestStepsInTurn(t *testing.T) {
	p := paired(t, 3, 2, 2)
	p.does(api.OK, send(0, 1, 1, 2), recv(1, 0), recv(2, 0))
	p.steps(0, 5)
	p.steps(2, 3)
	p.steps(0, 6)
	p.steps(1, 7)
	p.does(api.OK, step(2), step(0), step(1))
	for i := range 3 {
		if p.b.Busy(i) {
			t.Fatal(i)
		}
	}
	want := []diary.Entry{
		{Core: 0, Peer: 1, Kind: 1, Begin: 1, End: 26, Load: []int{1, 2}},
		{Core: 1, Peer: 0, Kind: 2, Begin: 2, End: 27, Load: []int{1, 2}, Handle: 64},
		{Core: 2, Peer: 0, Kind: 2, Begin: 3, End: 25, Err: api.ErrEmpty},
	}
	if l := p.b.Diary(); !diary.Same(l, want) {
		t.Fatal(l)
	}
}

// P20.2, and the history: what a call's entry has while it is in progress, and that it has nothing of the event's other fields.
func TestEntries(t *testing.T) {
	p := paired(t, 4, 4, 2)
	for range 3 {
		p.ends(api.OK, send(3, 1, 5))
		p.ends(api.OK, recv(1, 3))
	}
	n := p.b.Now()
	list := []struct {
		x    board.Event
		want diary.Entry
	}{
		{board.Event{Kind: 3, Core: 0, Peer: 2, Load: []int{1, 0, 65535}, Handle: 64, At: 9, Word: 9}, diary.Entry{Core: 0, Peer: 2, Kind: 1, Load: []int{1, 0, 65535}}},
		{board.Event{Kind: 5, Core: 1, Peer: 3, Load: []int{1, -1}, Handle: 65, At: 9, Word: 9}, diary.Entry{Core: 1, Peer: 3, Kind: 3, Handle: 65}},
		{board.Event{Kind: 4, Core: 2, Peer: 0, Load: make([]int, 9), Handle: 64, At: 9, Word: 9}, diary.Entry{Core: 2, Peer: 0, Kind: 2}},
		{board.Event{Kind: 3, Core: 3, Peer: 0}, diary.Entry{Core: 3, Peer: 0, Kind: 1}},
	}
	for i, y := range list {
		p.does(api.OK, y.x)
		y.want.Begin = n + i + 1
		p.is(y.want)
	}
	for core := range 4 {
		p.steps(core, 3)
	}
	l := p.b.Diary()[6:]
	for i, y := range list {
		y.want.Begin = n + i + 1
		if !diary.Same(l[i:i+1], []diary.Entry{y.want}) {
			t.Fatalf("during the call the entry is %+v, want %+v", l[i], y.want)
		}
	}
}

// P20.2: an event that is rejected, and one that begins no call, adds nothing to the history.
func TestNoEntries(t *testing.T) {
	p := scene(t)
	n := len(p.b.Diary())
	for e, l := range rejections() {
		p.does(e, l...)
	}
	p.does(api.OK, step(2), drain(2), write(2, 0, 1), hold(2), start(2), start(1))
	p.b.Run(0)
	if l := p.b.Diary(); len(l) != n {
		t.Fatal(l[n:])
	}
}

// ended checks the last entry of the history, which must have ended now.
func (p *pair) ended(kind int, e api.Errno, load []int, handle int) {
	p.t.Helper()
	x := p.last()
	if x.Kind != kind || x.Err != e || x.End != p.b.Now() || x.Begin >= x.End || !slices.Equal(x.Load, load) || x.Handle != handle {
		p.t.Fatalf("at %d the entry is %+v, want kind %d, result %d, %v, handle %d", p.b.Now(), x, kind, e, load, handle)
	}
}

// P20.2, and the history: what the step that ends a call sets, for every result of a Send.
func TestEndsOfSend(t *testing.T) {
	p := paired(t, 2, 2, 1)
	c := wordsOf(p.m.conf, 0, 1)
	p.ends(api.OK, send(0, 1, 6, 7))
	p.ended(1, api.OK, []int{6, 7}, 0)
	p.ends(api.OK, send(0, 1))
	p.ended(1, api.OK, nil, 0)
	p.ends(api.ErrFull, send(0, 1, 8))
	p.ended(1, api.ErrFull, []int{8}, 0)
	p.does(api.OK, write(1, c.ui(), 3), drain(1))
	p.ends(api.ErrCorrupt, send(0, 1, 9, 9, 9))
	p.ended(1, api.ErrCorrupt, []int{9, 9, 9}, 0)
	p.does(api.OK, hold(1), start(1))
	p.ends(api.ErrReset, send(0, 1, 10))
	p.ended(1, api.ErrReset, []int{10}, 0)
	p.ends(api.ErrDown, send(0, 1, 11))
	p.ended(1, api.ErrDown, []int{11}, 0)
	// The peer is reset during the call.
	p.ends(api.ErrReset, recv(1, 0))
	p.does(api.OK, send(0, 1, 12, 13))
	p.steps(0, 11)
	p.does(api.OK, hold(1), start(1), step(0))
	p.ended(1, api.ErrReset, []int{12, 13}, 0)
}

// P20.2, and the history: what the step that ends a call sets, for every result of a Recv. Only with OK it has words and a handle.
func TestEndsOfRecv(t *testing.T) {
	p := paired(t, 2, 2, 1)
	c := wordsOf(p.m.conf, 0, 1)
	p.ends(api.ErrEmpty, recv(1, 0))
	p.ended(2, api.ErrEmpty, nil, 0)
	for i, load := range [][]int{{6, 7}, {}} {
		p.ends(api.OK, send(0, 1, load...))
		p.ends(api.OK, recv(1, 0))
		p.ended(2, api.OK, load, 64+i)
	}
	p.does(api.OK, write(0, c.ai(), 3), drain(0))
	p.ends(api.ErrCorrupt, recv(1, 0))
	p.ended(2, api.ErrCorrupt, nil, 0)
	p.does(api.OK, hold(0), start(0))
	p.ends(api.ErrReset, recv(1, 0))
	p.ended(2, api.ErrReset, nil, 0)
	p.ends(api.ErrDown, recv(1, 0))
	p.ended(2, api.ErrDown, nil, 0)
	p.ends(api.ErrReset, send(0, 1))
	for _, load := range [][]int{{1, 2, 3, 4, 5, 6, 7, 8}, {0, 65535}} {
		p.ends(api.OK, send(0, 1, load...))
	}
	// The generations of the slots go on behind a new link.
	p.ends(api.OK, recv(1, 0))
	p.ended(2, api.OK, []int{1, 2, 3, 4, 5, 6, 7, 8}, 128)
	// Avail and Len are not what they may be.
	p.does(api.OK, write(0, c.len(1), 9), drain(0))
	p.ends(api.ErrCorrupt, recv(1, 0))
	p.ended(2, api.ErrCorrupt, nil, 0)
	p.does(api.OK, write(0, c.avail(1), 0), drain(0))
	p.ends(api.ErrCorrupt, recv(1, 0))
	p.ended(2, api.ErrCorrupt, nil, 0)
	p.does(api.OK, write(0, c.avail(1), 1), drain(0), write(0, c.len(1), 2), drain(0))
	p.ends(api.OK, recv(1, 0))
	p.ended(2, api.OK, []int{0, 65535}, 129)
}

// The history: a Recv that has read a message, but ends with another result than OK, has neither words nor a handle.
func TestEndsOfRecvLate(t *testing.T) {
	p := paired(t, 2, 2, 1)
	p.ends(api.OK, send(0, 1, 6, 7))
	p.does(api.OK, recv(1, 0))
	p.steps(1, 7)
	p.does(api.OK, hold(0), start(0), step(1))
	p.ended(2, api.ErrReset, nil, 0)
}

// P20.2, and the history: what the step that ends a call sets, for every result of a Release.
func TestEndsOfRelease(t *testing.T) {
	p := paired(t, 2, 2, 1)
	for _, w := range []int{6, 7} {
		p.ends(api.OK, send(0, 1, w))
		p.ends(api.OK, recv(1, 0))
	}
	p.ends(api.OK, release(1, 0, 65))
	p.ended(3, api.OK, nil, 65)
	p.does(api.OK, release(1, 0, 64))
	p.steps(1, 5)
	p.does(api.OK, hold(0), start(0), step(1))
	p.ended(3, api.ErrReset, nil, 64)
	p.ends(api.ErrReset, send(0, 1))
	p.ends(api.ErrReset, recv(1, 0))
	p.ends(api.OK, send(0, 1))
	p.ends(api.OK, recv(1, 0))
	p.does(api.OK, hold(0), start(0))
	p.ends(api.ErrReset, release(1, 0, 128))
	p.ended(3, api.ErrReset, nil, 128)
}

// The history: the words received are those that the Recv has loaded, when it has loaded them, whatever is in the memory later.
func TestWordsWhenLoaded(t *testing.T) {
	for loaded := range 5 {
		p := paired(t, 2, 2, 1)
		c := wordsOf(p.m.conf, 0, 1)
		p.ends(api.OK, send(0, 1, 1, 2, 3, 4))
		p.does(api.OK, recv(1, 0))
		// Epoch, Pe, Ai, Avail, Len, and then the words.
		p.steps(1, 5+loaded)
		want := []int{1, 2, 3, 4}
		for i := range 8 {
			p.does(api.OK, write(0, c.load(0, i), 90+i), drain(0))
			if loaded <= i && i < 4 {
				want[i] = 90 + i
			}
		}
		p.does(api.OK, write(0, c.len(0), 7), drain(0))
		p.steps(1, 5-loaded)
		p.ended(2, api.OK, want, 64)
	}
}

// engaged returns a board on which core 1 has exchanged a message with core 0 in both directions, which both hold, and has a call in progress, of which so many steps have been made.
func engaged(t testing.TB, x board.Event, steps int) *pair {
	t.Helper()
	p := paired(t, 3, 2, 2)
	p.ends(api.OK, send(0, 1, 5))
	p.ends(api.OK, send(1, 0, 6, 7))
	p.ends(api.OK, recv(1, 0))
	p.ends(api.OK, recv(0, 1))
	p.does(api.OK, x)
	p.steps(1, steps)
	return p
}

// P20.2: a Hold during each call, behind each of its steps.
func TestHoldDuringCall(t *testing.T) {
	for _, y := range []struct {
		x     board.Event
		entry diary.Entry
		steps int
	}{
		{send(1, 0, 8, 9), diary.Entry{Core: 1, Peer: 0, Kind: 1, Load: []int{8, 9}}, 11},
		{send(1, 2, 8), diary.Entry{Core: 1, Peer: 2, Kind: 1, Load: []int{8}}, 11},
		{recv(1, 0), diary.Entry{Core: 1, Peer: 0, Kind: 2}, 3},
		{release(1, 0, 64), diary.Entry{Core: 1, Peer: 0, Kind: 3, Handle: 64}, 6},
	} {
		for n := range y.steps {
			p := engaged(t, y.x, n)
			y.entry.Begin = p.b.Now() - n
			p.is(y.entry)
			p.does(api.OK, hold(1))
			held(t, p)
			p.is(y.entry)
			p.does(api.OK, start(1))
			p.is(y.entry)
			started(t, p)
			if l := p.b.Diary(); l[4].End != 0 || l[4].Err != api.OK || !diary.Right(l) {
				t.Fatal(l)
			}
		}
		// The number of steps is that of the whole call.
		p := engaged(t, y.x, 0)
		if n, _ := p.b.Run(1); n != y.steps {
			t.Fatal(y.x, n)
		}
	}
}

// held checks that core 1 of an engaged board has no call and no machines, while the other cores' machines stay.
func held(t testing.TB, p *pair) {
	t.Helper()
	if p.b.Busy(1) || p.b.Soc().Up(1) || len(p.b.Soc().Waits(1)) != 0 {
		t.Fatal("core 1 is up or busy")
	}
	p.slots(1, 0, nil, nil, []int{0})
	p.slots(0, 1, []int{1}, []int{0}, nil)
	p.slots(1, 2, nil, nil, nil)
	p.slots(2, 1, upTo(2), nil, nil)
	p.slots(0, 2, upTo(2), nil, nil)
	linkedAre(t, p.b, 1, 0, false, true)
	linkedAre(t, p.b, 0, 1, true, false)
	linkedAre(t, p.b, 1, 2, false, false)
	p.does(api.ErrOff, step(1), send(1, 0), recv(1, 0), release(1, 0, 64))
}

// started checks that core 1 of an engaged board has new machines, whose own epoch is 1 and which the other cores get to know.
func started(t testing.TB, p *pair) {
	t.Helper()
	p.slots(1, 0, upTo(2), nil, []int{0})
	p.slots(0, 1, []int{1}, []int{0}, nil)
	p.slots(1, 2, upTo(2), nil, nil)
	linkedAre(t, p.b, 1, 0, false, true)
	linkedAre(t, p.b, 0, 1, true, false)
	p.does(api.ErrIdle, step(1))
	p.does(api.ErrHandle, release(1, 0, 64))
	c, d := wordsOf(p.m.conf, 1, 0), wordsOf(p.m.conf, 0, 1)
	n := len(p.b.Diary())
	p.ends(api.ErrReset, send(1, 0, 5))
	p.ends(api.ErrReset, recv(1, 0))
	if l := ram(p.b); l[c.pe()] != 1 || l[d.ce()] != 1 || len(p.b.Diary()) != n+2 {
		t.Fatal(l)
	}
	p.ends(api.ErrDown, send(1, 0, 5))
	p.ends(api.ErrDown, recv(1, 0))
	p.ends(api.ErrReset, recv(0, 1))
	p.ends(api.ErrReset, send(0, 1, 5))
	p.slots(1, 0, upTo(2), nil, nil)
	p.ends(api.OK, send(1, 0, 4))
	p.ends(api.OK, recv(0, 1))
	p.ended(2, api.OK, []int{4}, 128)
	p.ends(api.OK, send(0, 1, 3))
	p.ends(api.OK, recv(1, 0))
	// The new taker has new generations.
	p.ended(2, api.OK, []int{3}, 64)
	linkedAre(t, p.b, 1, 0, true, true)
	linkedAre(t, p.b, 0, 1, true, true)
}

// P20.2: a Hold and a Start without a call, and again, so that each Start has another epoch.
func TestHoldAndStart(t *testing.T) {
	p := paired(t, 3, 2, 2)
	c := wordsOf(p.m.conf, 2, 0)
	for epoch := 1; epoch <= 5; epoch++ {
		p.does(api.OK, write(2, 0, 9), hold(2))
		if len(p.b.Soc().Waits(2)) != 0 || p.b.Soc().Up(2) {
			t.Fatal("core 2 is not held")
		}
		p.slots(2, 0, nil, nil, nil)
		p.slots(0, 2, upTo(2), nil, nil)
		p.does(api.OK, start(2))
		p.slots(2, 0, upTo(2), nil, nil)
		if n, e := p.b.Soc().Epoch(2); n != epoch || e != api.OK {
			t.Fatal(n, e)
		}
		p.ends(api.ErrReset, send(2, 0, 5))
		if l := ram(p.b); l[c.pe()] != epoch {
			t.Fatal(l[c.pe()], epoch)
		}
		p.ends(api.ErrDown, send(2, 0, 5))
		p.ends(api.ErrReset, recv(0, 2))
		p.ends(api.OK, send(2, 0, 5))
		p.slots(2, 0, []int{1}, []int{0}, nil)
	}
}

// P20.2: a Hold of a core leaves the calls of the other ones as they are, also those with that core.
func TestHoldOfPeer(t *testing.T) {
	p := paired(t, 3, 2, 2)
	p.ends(api.OK, send(0, 1, 5))
	p.does(api.OK, send(0, 1, 6), recv(1, 0), send(2, 1, 7))
	p.steps(0, 3)
	p.steps(2, 3)
	p.does(api.OK, hold(1))
	if !p.b.Busy(0) || p.b.Busy(1) || !p.b.Busy(2) {
		t.Fatal(p.b.Busy(0), p.b.Busy(1), p.b.Busy(2))
	}
	p.steps(0, 3)
	p.does(api.OK, start(1))
	p.runs(0, 4, api.ErrReset)
	p.runs(2, 8, api.ErrReset)
	if l := p.b.Diary(); l[1].Err != api.ErrReset || l[2].End != 0 || l[3].Err != api.ErrReset {
		t.Fatal(l)
	}
}

// P20.2: held cores are no obstacle for the others' calls with each other, and an event that begins a call needs its own core only.
func TestHeldOthers(t *testing.T) {
	p := paired(t, 4, 2, 2)
	p.does(api.OK, hold(1), hold(3))
	p.ends(api.OK, send(0, 2, 5))
	p.ends(api.OK, recv(2, 0))
	p.ends(api.OK, send(0, 1, 5))
	p.ends(api.ErrEmpty, recv(2, 3))
	p.slots(0, 1, []int{1}, []int{0}, nil)
	p.slots(1, 3, nil, nil, nil)
}

// P20.3: Run for calls that end, from their beginning and behind each of their steps.
func TestRun(t *testing.T) {
	for _, y := range []struct {
		x     board.Event
		steps int
		e     api.Errno
	}{
		{send(1, 0), 9, api.OK},
		{send(1, 0, 1, 2, 3, 4, 5, 6, 7, 8), 17, api.OK},
		{send(1, 2, 3), 11, api.OK},
		{recv(1, 0), 3, api.ErrEmpty},
		{recv(1, 2), 4, api.ErrEmpty},
		{release(1, 0, 64), 6, api.OK},
	} {
		for n := range y.steps {
			p := engaged(t, y.x, n)
			now := p.b.Now()
			p.runs(1, y.steps-n, y.e)
			if p.b.Now() != now+y.steps-n || p.last().End != p.b.Now() || p.b.Busy(1) {
				t.Fatal(y.x, n, p.b.Now(), p.last())
			}
			p.runs(1, 0, api.ErrIdle)
		}
	}
}

// P20.3: every result of a call.
func TestRunResults(t *testing.T) {
	p := paired(t, 2, 2, 4)
	c := wordsOf(p.m.conf, 0, 1)
	runs := func(x board.Event, steps int, want api.Errno) {
		t.Helper()
		p.does(api.OK, x)
		p.runs(x.Core, steps, want)
	}
	runs(send(0, 1), 10, api.OK)
	runs(send(0, 1, 7, 8), 11, api.OK)
	runs(send(0, 1), 3, api.ErrFull)
	runs(recv(1, 0), 6, api.OK)
	runs(recv(1, 0), 7, api.OK)
	runs(recv(1, 0), 3, api.ErrEmpty)
	runs(release(1, 0, 65), 6, api.OK)
	runs(send(0, 1, 9), 11, api.OK) // one returned slot is loaded
	p.does(api.OK, write(1, c.ui(), 7), drain(1))
	runs(send(0, 1, 9), 3, api.ErrCorrupt)
	p.does(api.OK, hold(0), start(0))
	runs(send(0, 1, 9), 4, api.ErrReset)
	runs(send(0, 1, 9), 2, api.ErrDown)
	runs(release(1, 0, 64), 4, api.ErrReset)
}

// P20.3: Run of a core whose step is rejected adds 1 to the time, and changes nothing else.
func TestRunRejected(t *testing.T) {
	p := scene(t)
	was := seen(p.b)
	for i := range 5 {
		now := p.b.Now()
		p.runs(0, 0, api.ErrIdle)
		p.runs(1, 0, api.ErrOff)
		p.runs(4, 0, api.ErrCore)
		p.runs(-1, 0, api.ErrCore)
		for _, n := range far {
			p.runs(n, 0, api.ErrCore)
		}
		if p.b.Now() != now+4+len(far) {
			t.Fatal(i, p.b.Now())
		}
		was.check(t, p.b)
	}
	// A core that is held during its call has none.
	p.does(api.OK, hold(2))
	p.runs(2, 0, api.ErrOff)
	p.does(api.OK, start(2))
	p.runs(2, 0, api.ErrIdle)
}

// P20.3: the result is that of the core's own call, whichever calls of other cores began or ended later.
func TestRunAmongOthers(t *testing.T) {
	p := paired(t, 3, 2, 2)
	p.does(api.OK, send(0, 1, 5), recv(1, 2), recv(2, 0))
	p.runs(1, 4, api.ErrEmpty)
	p.does(api.OK, hold(1), start(1), send(1, 2))
	p.runs(0, 4, api.ErrReset)
	p.runs(2, 4, api.ErrEmpty)
	p.runs(1, 4, api.ErrReset)
	p.does(api.OK, send(2, 0, 1), recv(0, 2))
	p.runs(2, 11, api.OK)
	p.runs(0, 7, api.OK)
}

// P20.4: Busy, for all cores.
func TestBusy(t *testing.T) {
	p := paired(t, 8, 2, 2)
	for core := range 8 {
		p.does(api.OK, recv(core, (core+1)%8))
		for i := range 8 {
			if p.b.Busy(i) != (i <= core) {
				t.Fatal(core, i)
			}
		}
	}
	for _, n := range append([]int{-1, 8, 9, 16}, far...) {
		if p.b.Busy(n) {
			t.Fatal(n)
		}
	}
	for core := range 8 {
		p.steps(core, 3)
		if !p.b.Busy(core) {
			t.Fatal(core)
		}
		p.steps(core, 1)
		if p.b.Busy(core) {
			t.Fatal(core)
		}
	}
}

// P20.4: the entries are in the order of their Begin, in whatever order the calls ended.
func TestDiaryOrder(t *testing.T) {
	p := paired(t, 4, 2, 2)
	p.does(api.OK, recv(3, 0), recv(1, 0), recv(2, 0))
	p.steps(2, 4)
	p.does(api.OK, send(2, 0, 1))
	p.steps(1, 4)
	p.does(api.OK, send(0, 3))
	p.steps(3, 4)
	p.does(api.OK, recv(1, 2), recv(3, 1))
	p.does(api.OK, hold(1), start(1), send(1, 0, 6))
	var cores, begins []int
	for _, x := range p.b.Diary() {
		cores, begins = append(cores, x.Core), append(begins, x.Begin)
	}
	if !slices.Equal(cores, []int{3, 1, 2, 2, 0, 1, 3, 1}) || !slices.IsSorted(begins) || len(slices.Compact(begins)) != 8 {
		t.Fatal(cores, begins)
	}
}

// P20.4: the lists that are returned are new ones each time, also the Loads in them.
func TestLists(t *testing.T) {
	p := scene(t)
	p.ends(api.OK, send(0, 2, 1, 2, 3))
	spoil := func(l []int) {
		for i := range l[:cap(l)] {
			l[:cap(l)][i] = -7
		}
		_ = append(l, -8)
	}
	for range 3 {
		was := seen(p.b)
		l := p.b.Diary()
		for i := range l {
			spoil(l[i].Load)
			l[i] = diary.Entry{Core: 5, Load: []int{-1}}
		}
		_ = append(l, diary.Entry{Core: 6})
		for i := range 4 {
			for k := range 4 {
				free, out, held := p.b.Slots(i, k)
				spoil(free)
				spoil(out)
				spoil(held)
			}
		}
		was.check(t, p.b)
		p.compare()
		p.does(api.OK, recv(0, 2))
		p.runs(0, 3, api.ErrEmpty)
	}
	// Two answers share nothing either.
	a, b := p.b.Diary(), p.b.Diary()
	for i := range a {
		spoil(a[i].Load)
	}
	p.compare()
	if !diary.Same(b, p.m.history) {
		t.Fatal(b)
	}
}

// P20.4: Slots of a channel with slots that are free, out and held, in the orders that chapters 16 and 17 have.
func TestSlots(t *testing.T) {
	p := paired(t, 3, 4, 2)
	p.slots(0, 1, []int{0, 1, 2, 3}, nil, nil)
	for i := range 4 {
		p.ends(api.OK, send(0, 1, i))
	}
	p.slots(0, 1, nil, []int{0, 1, 2, 3}, nil)
	for range 3 {
		p.ends(api.OK, recv(1, 0))
	}
	p.slots(0, 1, nil, []int{0, 1, 2, 3}, []int{0, 1, 2})
	p.ends(api.OK, release(1, 0, 66))
	p.ends(api.OK, release(1, 0, 64))
	p.slots(0, 1, nil, []int{0, 1, 2, 3}, []int{1})
	p.ends(api.OK, send(0, 1, 9))
	p.slots(0, 1, []int{0}, []int{1, 3, 2}, []int{1})
	// A slot is taken, and released, during the calls.
	p.does(api.OK, send(0, 1, 9), release(1, 0, 65))
	p.slots(0, 1, []int{0}, []int{1, 3, 2}, nil)
	p.steps(0, 2)
	p.slots(0, 1, nil, []int{1, 3, 2, 0}, nil)
	p.slots(1, 0, []int{0, 1, 2, 3}, nil, nil)
	p.slots(2, 0, []int{0, 1, 2, 3}, nil, nil)
}

// P20.4: Slots and Linked of channels that do not exist.
func TestNoChannel(t *testing.T) {
	b := made(t, 3, 2, 2)
	for core := range 3 {
		for peer := range 3 {
			if core != peer {
				finish(t, b, api.OK, send(core, peer))
				finish(t, b, api.OK, recv(peer, core))
			}
		}
	}
	for _, i := range numbers(3) {
		for _, k := range numbers(3) {
			exists := i != k && min(i, k) >= 0 && max(i, k) < 3
			linkedAre(t, b, i, k, exists, exists)
			if exists {
				slotsAre(t, b, i, k, []int{1}, []int{0}, []int{0})
				continue
			}
			if free, out, held := b.Slots(i, k); free != nil || out != nil || held != nil {
				t.Fatal(i, k, free, out, held)
			}
		}
	}
}

// P20.4: Linked before and behind the handshake of each end, and behind a Hold of each.
func TestLinked(t *testing.T) {
	p := paired(t, 3, 2, 2)
	is := func(giver, taker bool) {
		t.Helper()
		linkedAre(t, p.b, 0, 1, giver, taker)
		linkedAre(t, p.b, 1, 0, false, false)
		linkedAre(t, p.b, 0, 2, false, false)
		linkedAre(t, p.b, 2, 1, false, false)
	}
	is(false, false)
	p.does(api.OK, send(0, 1, 5), step(0))
	is(false, false)
	p.does(api.OK, step(0))
	is(true, false)
	p.does(api.OK, recv(1, 0), step(1))
	is(true, false)
	p.does(api.OK, step(1))
	is(true, true)
	p.b.Run(0)
	p.b.Run(1)
	is(true, true)
	all(t, p.b, hold(0))
	is(false, true)
	all(t, p.b, start(0))
	is(false, true)
	finish(t, p.b, api.ErrReset, send(0, 1))
	finish(t, p.b, api.ErrDown, send(0, 1))
	is(false, true)
	finish(t, p.b, api.ErrReset, recv(1, 0))
	is(false, false)
	finish(t, p.b, api.OK, send(0, 1))
	finish(t, p.b, api.OK, recv(1, 0))
	is(true, true)
	all(t, p.b, hold(1))
	is(true, false)
	all(t, p.b, hold(0))
	is(false, false)
}

// P20.4: the soc that is returned is a copy: what happens to it does not happen on the board, and the other way round.
func TestSoc(t *testing.T) {
	p := scene(t)
	s := p.b.Soc()
	s.Write(0, 3, 9)
	s.Write(2, bellAt(0), 9)
	s.Read(0, lockAt)
	s.Hold(3)
	s.Start(1)
	s.Fence(2)
	p.compare()
	p.does(api.ErrLock, write(0, lockAt, 0))
	p.does(api.ErrOff, step(1))
	s, was := p.b.Soc(), p.b.Soc()
	p.does(api.OK, write(0, 3, 9), write(2, bellAt(0), 9), hold(3), start(1), drain(2), drain(0))
	p.runs(2, 7, api.OK)
	if !soc.Same(s, was) || soc.Same(s, p.b.Soc()) {
		t.Fatal("the copy has changed with the board")
	}
	if a := p.b.Soc(); a == p.b.Soc() || a == s {
		t.Fatal("one soc is returned twice")
	}
}

// P20.2, rules: no event's Load is changed or kept, and the memory beyond its length is not read.
func TestLoadArgument(t *testing.T) {
	// The list is changed behind so many steps.
	for later := range 13 {
		p := paired(t, 2, 2, 2)
		memory := []int{1, 2, 3, 70000, -1, 6, 7, 8, 9, 10}
		x := board.Event{Kind: board.Send, Core: 0, Peer: 1, Load: memory[:3]}
		p.does(api.OK, x)
		p.steps(0, later)
		if !slices.Equal(memory, []int{1, 2, 3, 70000, -1, 6, 7, 8, 9, 10}) {
			t.Fatal(memory)
		}
		memory[0], memory[1], memory[2] = 4, 5, 6
		p.runs(0, 13-later, api.OK)
		p.is(diary.Entry{Core: 0, Peer: 1, Kind: 1, Begin: 1, End: 14, Load: []int{1, 2, 3}})
		p.ends(api.OK, recv(1, 0))
		p.ended(2, api.OK, []int{1, 2, 3}, 64)
		if !slices.Equal(memory, []int{4, 5, 6, 70000, -1, 6, 7, 8, 9, 10}) {
			t.Fatal(memory)
		}
	}
	p := paired(t, 2, 2, 2)
	for _, l := range [][]int{make([]int, 9), {1, 2, -3}, {65536}} {
		was := slices.Clone(l)
		p.do(send(0, 1, l...))
		p.do(send(0, 1, l...))
		if !slices.Equal(l, was) || p.b.Busy(0) {
			t.Fatal(l)
		}
	}
}

// Every method of a nil Board.
func TestNil(t *testing.T) {
	var b *board.Board
	if b.Conf() != (api.Conf{}) || b.Now() != 0 || b.Diary() != nil || b.Soc() != nil {
		t.Fatal(b.Conf(), b.Now(), b.Diary(), b.Soc())
	}
	for _, n := range append([]int{-1, 0, 1, 2, 7, 8}, far...) {
		for kind := -1; kind <= 9; kind++ {
			if e := b.Do(board.Event{Kind: kind, Core: n, Peer: n, Load: make([]int, 9)}); e != api.ErrNone {
				t.Fatal(kind, n, e)
			}
		}
		if steps, e := b.Run(n); steps != 0 || e != api.ErrNone || b.Busy(n) {
			t.Fatal(n, steps, e)
		}
		free, out, held := b.Slots(n, 0)
		giver, taker := b.Linked(0, n)
		if free != nil || out != nil || held != nil || giver || taker {
			t.Fatal(n, free, out, held, giver, taker)
		}
	}
	if b.Now() != 0 {
		t.Fatal(b.Now())
	}
}

// Two boards have nothing in common.
func TestTwo(t *testing.T) {
	p, q := paired(t, 3, 2, 2), paired(t, 3, 2, 2)
	p.ends(api.OK, send(0, 1, 5))
	q.compare()
	q.ends(api.ErrEmpty, recv(1, 0))
	p.compare()
	p.ends(api.OK, recv(1, 0))
	q.does(api.OK, hold(0))
	p.compare()
	q.does(api.ErrHandle, release(1, 0, 64))
	p.ends(api.OK, release(1, 0, 64))
	q.compare()
}
