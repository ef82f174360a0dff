package order_test

import (
	"slices"
	"testing"

	"switchyard/api"
	"switchyard/board"
	"switchyard/diary"
	"switchyard/order"
)

// lists returns all lists of at most n entries of these.
func lists(entries []diary.Entry, n int) [][]diary.Entry {
	all := [][]diary.Entry{nil}
	for from := 0; n > 0; n-- {
		until := len(all)
		for _, l := range all[from:until] {
			for _, x := range entries {
				all = append(all, append(slices.Clip(l), x))
			}
		}
		from = until
	}
	return all
}

// timed returns the calls with all of these times.
func timed(times [][2]int, calls ...diary.Entry) []diary.Entry {
	var l []diary.Entry
	for _, x := range calls {
		for _, n := range times {
			l = append(l, at(x, n[0], n[1]))
		}
	}
	return l
}

// P21.1, P21.2, P21.3: all lists of at most two calls each of a few kinds, results and times.
func TestAllShort(t *testing.T) {
	sends := timed([][2]int{{1, 1}, {1, 2}, {2, 2}}, put(7), full(), failed(1, 8))
	sends = append(sends, at(put(8), 1, 2), at(put(8), 2, 3), at(put(7), 1, 0), at(put(8), 2, 0))
	takes := timed([][2]int{{1, 1}, {1, 2}, {2, 2}}, get(7), empty(), back())
	takes = append(takes, at(get(8), 1, 2), at(failed(2, 9), 1, 2), at(failed(3, 9), 2, 2), at(get(), 1, 0), at(back(), 1, 0), at(back(), 2, 0))
	found, none := 0, 0
	for _, sent := range lists(sends, 2) {
		for _, taken := range lists(takes, 2) {
			for room := range 3 {
				if short(t, sent, taken, room) > 0 {
					found++
				} else {
					none++
				}
			}
		}
	}
	if found < 10000 || none < 10000 {
		t.Errorf("%d lists have a linearization, and %d have none", found, none)
	}
}

// P21.1, P21.2, P21.3: all lists of at most four calls that are made at the same time, with words that differ.
func TestAllTogether(t *testing.T) {
	sends := []diary.Entry{at(put(7), 1, 9), at(put(8), 1, 9), at(full(), 1, 9)}
	takes := []diary.Entry{at(get(7), 1, 9), at(get(8), 1, 9), at(empty(), 1, 9), at(back(), 1, 9)}
	found := 0
	for _, sent := range lists(sends, 3) {
		for _, taken := range lists(takes, 4) {
			for room := 1; room < 3; room++ {
				if short(t, sent, taken, room) > 0 {
					found++
				}
			}
		}
	}
	if found < 900 {
		t.Errorf("%d lists have a linearization", found)
	}
}

// made returns calls that were made on a queue, one after another, at most n in each list, each with a time around its moment; spread is how far around. The calls of a list may be in any order of their times.
func (d *dice) made(n, room, spread int) (sent, taken []diary.Entry) {
	q := queue{room: room}
	for moment := 100; len(sent) < n && len(taken) < n && d.roll(3*n) > 0; moment += 10 {
		x := []diary.Entry{put(d.roll(3)), full(), get(), empty(), back(), back(), failed(1+d.roll(3), 8)}[d.roll(7)]
		if x.Kind == 2 && x.Err == 0 && q.got < q.put {
			x.Load = q.messages[q.got]
		}
		if !q.possible(x) {
			continue
		}
		q = q.after(x)
		x = at(x, moment-d.roll(spread+1), moment+d.roll(spread+1))
		if x.Kind == 1 {
			sent = append(sent, x)
		} else {
			taken = append(taken, x)
		}
	}
	if len(sent) > 0 && sent[len(sent)-1].Err == 0 && d.roll(3) == 0 {
		sent[len(sent)-1].End = 0
	}
	if len(taken) > 0 && taken[len(taken)-1].Err == 0 && d.roll(3) == 0 {
		taken[len(taken)-1].End = 0
	}
	return sent, taken
}

// change changes something of the list.
func (d *dice) change(l []diary.Entry) []diary.Entry {
	if len(l) == 0 {
		return l
	}
	l = slices.Clone(l)
	i := d.roll(len(l))
	switch d.roll(7) {
	case 0:
		l[i].End -= d.roll(30)
	case 1:
		l[i].Begin += d.roll(30)
	case 2:
		l[i].Err = api.Errno([]int{0, 5, 6, 8}[d.roll(4)])
	case 3:
		l[i].Load = []int{d.roll(3)}
	case 4:
		k := d.roll(len(l))
		l[i], l[k] = l[k], l[i]
	case 5:
		l = slices.Delete(l, i, i+1)
	case 6:
		l = slices.Insert(l, i, l[d.roll(len(l))])
	}
	return l
}

// P21.1, P21.2, P21.3: random lists, as they are made and with changes, against all sequences of their calls; what was made and not changed has a linearization.
func TestRandom(t *testing.T) {
	d := dice(7)
	many, none := 0, 0
	for range 60000 {
		room, spread := d.roll(4), []int{0, 4, 15, 30, 100}[d.roll(5)]
		sent, taken := d.made(5, room, spread)
		n := short(t, sent, taken, room)
		if n == 0 {
			t.Fatalf("%v, %v with the room %d have no linearization", sent, taken, room)
		}
		if n > 5 {
			many++
		}
		for range 1 + d.roll(2) {
			sent, taken = d.change(sent), d.change(taken)
		}
		if short(t, sent, taken, room+d.roll(3)-1) == 0 {
			none++
		}
	}
	if many < 5000 || none < 5000 {
		t.Errorf("%d lists have many linearizations, and %d have none", many, none)
	}
}

// P21.1, P21.2, P21.3: longer random lists against a table, which is as all sequences of the calls where there are few.
func TestRandomLong(t *testing.T) {
	d := dice(3)
	found, none := 0, 0
	for i := range 3000 {
		room, spread := d.roll(6), []int{0, 4, 15, 30, 100, 1000}[d.roll(6)]
		sent, taken := d.made(1+d.roll(60), room, spread)
		if !long(t, sent, taken, room) {
			t.Fatalf("%v, %v with the room %d have no linearization", sent, taken, room)
		}
		for range 1 + i%3 {
			sent, taken = d.change(sent), d.change(taken)
		}
		fits := long(t, sent, taken, room)
		if len(sent)+len(taken) < 8 && (len(all(sent, taken, room)) > 0) != fits {
			t.Fatal(sent, taken, room, fits)
		}
		if fits {
			found++
		} else {
			none++
		}
	}
	if found < 500 || none < 500 {
		t.Errorf("%d changed lists have a linearization, and %d have none", found, none)
	}
}

// P21.1, P21.2, P1: lists of some hundred entries with many calls at the same time, as they were made and with one change.
func TestRandomHundreds(t *testing.T) {
	d := dice(5)
	many, fits := 0, 0
	for i := range 60 {
		room, spread := 1+d.roll(8), []int{100, 1000, 100000}[i%3]
		sent, taken := d.made(400, room, spread)
		if len(sent)+len(taken) > 500 {
			many++
		}
		if !long(t, sent, taken, room) {
			t.Fatalf("%v, %v with the room %d have no linearization", sent, taken, room)
		}
		if long(t, d.change(sent), taken, room) {
			fits++
		}
		if long(t, sent, d.change(taken), room) {
			fits++
		}
	}
	if many < 20 || fits < 10 || fits > 110 {
		t.Errorf("%d long lists, %d of the changed ones have a linearization", many, fits)
	}
}

// P1: whatever entries have, every call ends without a panic, and with what the text says.
func TestArbitrary(t *testing.T) {
	d := dice(11)
	pick := func(common ...int) int {
		if d.roll(8) == 0 {
			return far[d.roll(len(far))]
		}
		return common[d.roll(len(common))]
	}
	entries := func(kinds ...int) []diary.Entry {
		var l []diary.Entry
		for range d.roll(5) {
			x := diary.Entry{Core: pick(0, 1), Peer: pick(0, 1), Kind: kinds[d.roll(len(kinds))], Begin: pick(1, 2, 3), End: pick(2, 3, 4), Err: api.Errno(pick(0, 0, 5, 6)), Handle: pick(64)}
			if d.roll(20) == 0 {
				x.Kind = pick(0, 1, 2, 3)
			}
			if d.roll(8) == 0 {
				x.End = 0
			}
			x.Load = [][]int{nil, {}, {pick(7)}}[d.roll(3)]
			l = append(l, x)
		}
		return l
	}
	found := 0
	for range 100000 {
		if short(t, entries(1), entries(2, 2, 3), pick(0, 1, 2)) > 0 {
			found++
		}
	}
	if found < 10000 {
		t.Errorf("%d lists have a linearization", found)
	}
}

// P21.4: calls that were made one after another on a queue have a linearization, which is their order.
func TestSequential(t *testing.T) {
	d := dice(2)
	seen := map[[2]int]int{}
	for i := range 500 {
		room := i % 6
		q := queue{room: room}
		var calls []diary.Entry
		var want []int
		for range 200 {
			x := []diary.Entry{put(d.roll(2)), full(), get(), empty(), back()}[d.roll(5)]
			if x.Kind == 2 && x.Err == 0 && q.got < q.put {
				x.Load = q.messages[q.got]
			}
			if q.possible(x) {
				q = q.after(x)
				calls = append(calls, x)
				seen[[2]int{x.Kind, int(x.Err)}]++
			}
		}
		sent, taken := series(calls...)
		s, k := 0, len(sent)
		for _, x := range calls {
			if x.Kind == 1 {
				want = append(want, s)
				s++
			} else {
				want = append(want, k)
				k++
			}
		}
		answers(t, sent, taken, room, want, true)
	}
	for _, n := range [][2]int{{1, 0}, {1, 5}, {2, 0}, {2, 6}, {3, 0}} {
		if seen[n] < 1000 {
			t.Errorf("there were %d calls of kind %d with the result %d", seen[n], n[0], n[1])
		}
	}
}

// event returns a random event of a board on which no core is held and no core writes.
func (d *dice) event(b *board.Board, cores int) board.Event {
	core, peer := d.roll(cores), d.roll(cores)
	switch n := d.roll(10); {
	case n == 0:
		return board.Event{Kind: board.Drain, Core: core}
	case n < 6 && !b.Busy(core):
		return d.call(b, core, peer)
	}
	return board.Event{Kind: board.Step, Core: core}
}

// call returns a random call; most Releases are of a handle that was received.
func (d *dice) call(b *board.Board, core, peer int) board.Event {
	switch d.roll(3) {
	case 0:
		return board.Event{Kind: board.Send, Core: core, Peer: peer, Load: []int{d.roll(4), d.roll(65536)}[:d.roll(3)]}
	case 1:
		return board.Event{Kind: board.Recv, Core: core, Peer: peer}
	}
	var got []diary.Entry
	for _, x := range b.Diary() {
		if x.Core == core && x.Kind == diary.Recv && x.End != 0 && x.Err == api.OK {
			got = append(got, x)
		}
	}
	if len(got) == 0 {
		return board.Event{Kind: board.Release, Core: core, Peer: peer, Handle: 64}
	}
	x := got[max(0, len(got)-1-d.roll(6))]
	return board.Event{Kind: board.Release, Core: core, Peer: x.Peer, Handle: x.Handle}
}

// P21.4, P3: the calls of every channel of a board have a linearization with the capacity Ring behind every event, if no core is held and no core writes.
func TestBoards(t *testing.T) {
	d := dice(1)
	seen := map[[2]int]int{}
	needed := 0
	for i := range 48 {
		c := api.Conf{Cores: 2 + i%3, Ring: 2 << (i / 3 % 3), Buf: 1 + i%7}
		b, e := board.New(c)
		if e != api.OK {
			t.Fatal(c, e)
		}
		for range 1000 {
			b.Do(d.event(b, c.Cores))
			needed += channels(t, b, c, false)
		}
		channels(t, b, c, true)
		for _, x := range b.Diary() {
			seen[[2]int{x.Kind, int(x.Err)}]++
		}
	}
	for _, n := range [][2]int{{1, 0}, {1, 5}, {2, 0}, {2, 6}, {3, 0}} {
		if seen[n] < 50 {
			t.Errorf("there were %d calls of kind %d with the result %d", seen[n], n[0], n[1])
		}
	}
	if needed < 50 {
		t.Errorf("a call that had not ended was in %d linearizations", needed)
	}
}

// channels checks that the calls of each channel have a linearization, and returns how many of these have a call that has not ended; if all is to be checked, they are those of the table.
func channels(t *testing.T, b *board.Board, c api.Conf, all bool) int {
	t.Helper()
	history, n := b.Diary(), 0
	for from := range c.Cores {
		for to := range c.Cores {
			sent, taken := diary.Of(history, from, to)
			l, ok := order.Witness(sent, taken, c.Ring)
			if !ok {
				t.Fatalf("the channel from %d to %d has no linearization: %v, %v", from, to, sent, taken)
			}
			if len(l) > lastEnded(sent)+lastEnded(taken) {
				n++
			}
			if all && !long(t, sent, taken, c.Ring) {
				t.Fatal(from, to)
			}
		}
	}
	return n
}
