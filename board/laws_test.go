package board_test

import (
	"slices"
	"testing"

	"switchyard/api"
	"switchyard/board"
	"switchyard/diary"
)

// mix is which events a run of random ones has, besides the ordinary ones.
type mix struct{ holds, writes, strange bool }

// event returns a random event.
func (d *dice) event(p *pair, m mix) board.Event {
	core, peer := d.roll(p.m.conf.Cores), d.roll(p.m.conf.Cores)
	if m.strange && d.roll(20) == 0 {
		core, peer = d.roll(p.m.conf.Cores+2)-1, d.roll(p.m.conf.Cores+2)-1
	}
	switch n := d.roll(200); {
	case n < 60 && !p.b.Busy(core) || n < 5:
		return d.call(p, core, peer)
	case n < 70:
		return drain(core)
	case n < 76 && m.writes:
		return d.write(p, core)
	case n < 78 && m.holds || p.m.exists(core) && !p.m.s.Up(core) && n < 110:
		if p.m.exists(core) && !p.m.s.Up(core) {
			return start(core)
		}
		return hold(core)
	case n < 80 && m.strange:
		return board.Event{Kind: d.roll(20) - 5, Core: core, Peer: peer, Handle: d.roll(200), At: d.roll(300), Word: d.roll(9)}
	}
	return step(core)
}

// call returns a random call.
func (d *dice) call(p *pair, core, peer int) board.Event {
	switch d.roll(3) {
	case 0:
		load := make([]int, d.roll(10))
		for i := range load {
			load[i] = d.roll(65540)
		}
		return send(core, peer, load...)
	case 1:
		return recv(core, peer)
	}
	// Most handles are some that have been received; whether they are still valid is left to chance.
	for i := range p.m.history {
		x := p.m.history[len(p.m.history)-1-i]
		if x.Core == core && x.Kind == 2 && x.Handle != 0 && d.roll(4) > 0 {
			return release(core, x.Peer, x.Handle)
		}
	}
	return release(core, peer, d.roll(400))
}

// write returns a random Write, mostly into the rings and slots of a channel of the core.
func (d *dice) write(p *pair, core int) board.Event {
	peer := d.roll(p.m.conf.Cores)
	if !p.m.exists(core) || core == peer || d.roll(10) == 0 {
		at := []int{bellAt(peer), bellAt(peer) - 2, bellAt(peer) - 1, lockAt, gateAt(peer), -1, 70000, d.roll(60)}
		return write(core, at[d.roll(len(at))], d.roll(9))
	}
	c := wordsOf(p.m.conf, core, peer)
	if d.roll(2) == 0 {
		c = wordsOf(p.m.conf, peer, core)
	}
	i := d.roll(c.ring)
	at := []int{c.pe(), c.ce(), c.ai(), c.ui(), c.avail(i), c.used(i), c.len(i), c.load(i, d.roll(8))}
	w := []int{0, 1, 2, 3, 8, 9, 65535, d.roll(65536), d.roll(c.ring)}
	return write(core, at[d.roll(len(at))], w[d.roll(len(w))])
}

// counter counts the steps of the calls in progress, by cores.
type counter map[int]int

// note counts an event that was processed, and checks that no call takes more than Ring + 18 steps.
func (n counter) note(p *pair, x board.Event, e api.Errno) {
	p.t.Helper()
	switch {
	case e != api.OK:
	case x.Kind == board.Step:
		n[x.Core]++
		if n[x.Core] > p.m.conf.Ring+18 {
			p.t.Fatalf("a call of core %d takes %d steps", x.Core, n[x.Core])
		}
	case x.Kind == board.Send || x.Kind == board.Recv || x.Kind == board.Release:
		n[x.Core] = 0
	}
}

// results counts the entries by their kinds and results; a call that has not ended has the result -1.
type results map[[2]int]int

func (r results) add(l []diary.Entry) {
	for _, x := range l {
		if x.End == 0 {
			x.Err = -1
		}
		r[[2]int{x.Kind, int(x.Err)}]++
	}
}

// P20.5: the history is valid behind every event, and no call takes more than Ring + 18 steps; and, behind every event, all that can be asked of the board is as the text of the chapter says.
func TestLaws(t *testing.T) {
	r, d := results{}, dice(1)
	for i := range 240 {
		p := paired(t, 2+i%3, 2<<(i/3%3), 1+i/9%5)
		m, steps := mix{i&8 > 0, i&16 > 0, i&32 > 0}, counter{}
		for range 1200 {
			x := d.event(p, m)
			steps.note(p, x, p.do(x))
			if l := p.b.Diary(); !diary.Right(l) {
				t.Fatalf("behind %+v the history %v is not valid", x, l)
			}
		}
		for core := range p.m.conf.Cores {
			if p.b.Busy(core) {
				if n, _ := p.b.Run(core); n+steps[core] > p.m.conf.Ring+18 {
					t.Fatal(n, steps[core])
				}
			}
		}
		r.add(p.m.history)
	}
	for kind, l := range map[int][]api.Errno{
		1: {-1, api.OK, api.ErrFull, api.ErrReset, api.ErrDown, api.ErrCorrupt},
		2: {-1, api.OK, api.ErrEmpty, api.ErrReset, api.ErrDown, api.ErrCorrupt},
		3: {-1, api.OK, api.ErrReset},
	} {
		for _, e := range l {
			if r[[2]int{kind, int(e)}] < 20 {
				t.Errorf("there were %d calls of kind %d with the result %d", r[[2]int{kind, int(e)}], kind, e)
			}
			delete(r, [2]int{kind, int(e)})
		}
	}
	if len(r) != 0 {
		t.Errorf("there were other results: %v", r)
	}
}

// P20.5: the longest call, a Send of MaxLoad words to which all slots were returned, for each ring.
func TestLongest(t *testing.T) {
	for ring := 2; ring <= 64; ring *= 2 {
		b := made(t, 2, ring, 3)
		for range ring {
			finish(t, b, api.OK, send(0, 1))
		}
		for i := range ring {
			finish(t, b, api.OK, recv(1, 0))
			finish(t, b, api.OK, release(1, 0, 64+i))
		}
		all(t, b, send(0, 1, 1, 2, 3, 4, 5, 6, 7, 8))
		if n, e := b.Run(0); n != ring+17 || e != api.OK {
			t.Fatal(ring, n, e)
		}
		all(t, b, recv(1, 0))
		if n, e := b.Run(1); n != 13 || e != api.OK {
			t.Fatal(ring, n, e)
		}
	}
}

// ways are what two cores can do at a time: calls, which are made without interruption, resets, and a reset of each core during a call of each.
func ways(p *pair) []func() {
	whole := func(x board.Event) func() {
		return func() {
			if p.do(x) != api.OK {
				return
			}
			for p.b.Busy(x.Core) {
				p.does(api.OK, step(x.Core))
			}
		}
	}
	reset := func(core int) func() {
		return func() { p.does(api.OK, hold(core), start(core)) }
	}
	during := func(x board.Event, core int) func() {
		return func() {
			if p.do(x) != api.OK {
				return
			}
			p.do(step(x.Core))
			p.do(step(x.Core))
			reset(core)()
			for p.b.Busy(x.Core) {
				p.does(api.OK, step(x.Core))
			}
		}
	}
	return []func(){
		whole(send(0, 1, len(p.m.history))), whole(recv(1, 0)), func() { whole(release(1, 0, p.lastHandle()))() },
		reset(0), reset(1),
		during(send(0, 1, 7, 8), 1), during(send(0, 1, 9), 0), during(recv(1, 0), 0),
	}
}

// lastHandle returns the last handle that was received.
func (p *pair) lastHandle() int {
	for i := len(p.m.history) - 1; i >= 0; i-- {
		if h := p.m.history[i].Handle; h != 0 {
			return h
		}
	}
	return 64
}

// P20.1 to P20.4: all sequences of four of these things.
func TestAllSmall(t *testing.T) {
	for n := range 8 * 8 * 8 * 8 {
		p := paired(t, 2, 2, 2)
		for range 4 {
			ways(p)[n%8]()
			n /= 8
		}
		if !diary.Right(p.b.Diary()) {
			t.Fatal(p.b.Diary())
		}
	}
}

// The history, and P3: the handle of slot 0 is 0 when it has been given 65536 times. The message has its words nevertheless, and the handle can be released.
func TestHandleZero(t *testing.T) {
	b := made(t, 2, 2, 4)
	handle := 0
	message := func(i int) {
		// The slots take turns, so that this is the slot and how many times it will have been given.
		handle = (i/2+1)%65536*64 + i%2
		finish(t, b, api.OK, send(0, 1, i%65536, 7))
		finish(t, b, api.OK, recv(1, 0))
	}
	for i := range 2*65536 - 2 {
		message(i)
		finish(t, b, api.OK, release(1, 0, handle))
	}
	message(2*65536 - 2)
	l := b.Diary()
	x := l[len(l)-1]
	if handle != 0 || x.Err != api.OK || x.Handle != 0 || x.End != b.Now() || !slices.Equal(x.Load, []int{65534, 7}) {
		t.Fatal(handle, x)
	}
	slotsAre(t, b, 0, 1, []int{1}, []int{0}, []int{0})
	message(2*65536 - 1)
	slotsAre(t, b, 0, 1, nil, []int{0, 1}, []int{0, 1})
	finish(t, b, api.OK, release(1, 0, 0))
	if e := b.Do(release(1, 0, 0)); e != api.ErrHandle {
		t.Fatal(e)
	}
	slotsAre(t, b, 0, 1, nil, []int{0, 1}, []int{1})
	message(2 * 65536)
	l = b.Diary()
	if x := l[len(l)-1]; x.Handle != 64 || !slices.Equal(x.Load, []int{0, 7}) || !diary.Right(l) {
		t.Fatal(x)
	}
}

// link is a channel in a period in which neither end changes its epoch.
type link struct {
	channel
	epoch int
}

// traffic is what was sent in a link with OK, what was received in it, and what may have been sent in it.
type traffic struct{ sent, got, cut [][]int }

// P5: in each link the messages received are the first ones of those sent with OK, possibly followed by one more whose Send has not ended, or with ErrReset.
func TestLinks(t *testing.T) {
	d, more := dice(5), 0
	for i := range 600 {
		p := paired(t, 2+i%2, 2<<(i%2), 1+i%3)
		links := map[int]link{} // by places in the history
		for range 3000 {
			x := d.event(p, mix{holds: i%4 > 0})
			n := len(p.m.history)
			want := p.m.do(x)
			if e := p.b.Do(x); e != want {
				t.Fatal(x, e, want)
			}
			if len(p.m.history) > n {
				way := p.m.calls[x.Core].way
				from, _ := p.m.s.Epoch(way.from)
				to, _ := p.m.s.Epoch(way.to)
				links[n] = link{way, from + to}
			}
		}
		list := map[link]*traffic{}
		for k, x := range p.b.Diary() {
			if list[links[k]] == nil {
				list[links[k]] = &traffic{}
			}
			list[links[k]].add(x)
		}
		for k, l := range list {
			if !l.right() {
				t.Fatalf("in the link %+v: %+v", k, l)
			}
			if len(l.got) > len(l.sent) {
				more++
			}
		}
	}
	if more == 0 {
		t.Fatal("in no link one more message was received")
	}
}

// P5: a Send that its core does not end, since it is held, behind each of its steps; its message can be received when it has been shown.
func TestOneMore(t *testing.T) {
	for n := range 12 {
		p := paired(t, 2, 2, 4)
		p.does(api.OK, send(0, 1, 7, 8))
		p.steps(0, n)
		p.does(api.OK, hold(0))
		// Behind the Fence that shows it.
		if n >= 10 {
			p.ends(api.OK, recv(1, 0))
			p.ended(2, api.OK, []int{7, 8}, 64)
		}
		p.ends(api.ErrEmpty, recv(1, 0))
		if x := p.b.Diary()[0]; x.End != 0 || x.Err != api.OK {
			t.Fatal(x)
		}
	}
}

// add adds a call of the link.
func (l *traffic) add(x diary.Entry) {
	switch {
	case x.Kind == diary.Send && (x.End == 0 || x.Err == api.ErrReset):
		l.cut = append(l.cut, x.Load)
	case x.Kind == diary.Send && x.Err == api.OK:
		l.sent = append(l.sent, x.Load)
	case x.Kind == diary.Recv && x.End != 0 && x.Err == api.OK:
		l.got = append(l.got, x.Load)
	}
}

// right reports whether what was received is right.
func (l *traffic) right() bool {
	n := min(len(l.got), len(l.sent))
	if !slices.EqualFunc(l.got[:n], l.sent[:n], slices.Equal[[]int]) {
		return false
	}
	rest := l.got[n:]
	return len(rest) == 0 || len(rest) == 1 && slices.ContainsFunc(l.cut, func(load []int) bool { return slices.Equal(load, rest[0]) })
}

// P1: no event and no number makes a call panic, and none that cannot be has an effect but on the time.
func TestArbitrary(t *testing.T) {
	some := append([]int{-1, 0, 1, 2, 3, 4, 5, 6, 7, 8, 9, 64, 65, 128, 65535, 65536, bellAt(0), lockAt, gateAt(1)}, far...)
	d := dice(9)
	one := func() int { return some[d.roll(len(some))] }
	for i := range 60 {
		p := paired(t, 2+i%7, 2<<(i%6), 1+i%16)
		for k := range 500 {
			x := board.Event{Kind: one(), Core: one(), Peer: one(), Handle: one(), At: one(), Word: one()}
			if d.roll(3) > 0 {
				// Most numbers are small, so that something happens.
				x.Kind, x.Core, x.Peer = 1+d.roll(8), d.roll(3), d.roll(3)
			}
			for range d.roll(11) {
				x.Load = append(x.Load, one())
			}
			want := p.m.do(x)
			if e := p.b.Do(x); e != want {
				t.Fatalf("%+v has the result %d, want %d", x, e, want)
			}
			n := one()
			mn, me := p.m.run(n)
			if steps, e := p.b.Run(n); steps != mn || e != me {
				t.Fatalf("Run(%d) = %d, %d, want %d, %d", n, steps, e, mn, me)
			}
			p.b.Busy(one())
			p.b.Slots(one(), one())
			p.b.Linked(one(), one())
			if k%50 == 0 {
				p.compare()
			}
		}
		p.compare()
	}
}
