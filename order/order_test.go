package order_test

import (
	"math"
	"runtime/debug"
	"slices"
	"testing"

	"switchyard/api"
	"switchyard/diary"
	"switchyard/order"
)

// The calls, of which those that have ended have the End 1 until they get their times.
func put(load ...int) diary.Entry { return diary.Entry{Kind: 1, End: 1, Load: load} }
func get(load ...int) diary.Entry { return diary.Entry{Kind: 2, End: 1, Load: load} }
func full() diary.Entry           { return diary.Entry{Kind: 1, End: 1, Err: 5, Load: []int{9}} }
func empty() diary.Entry          { return diary.Entry{Kind: 2, End: 1, Err: 6} }
func back() diary.Entry           { return diary.Entry{Kind: 3, End: 1, Handle: 64} }

// failed returns a call with any result.
func failed(kind int, e api.Errno) diary.Entry { return diary.Entry{Kind: kind, End: 1, Err: e} }

// open returns the call as one that has not ended.
func open(x diary.Entry) diary.Entry {
	x.End = 0
	return x
}

// at returns the call with these times.
func at(x diary.Entry, begin, end int) diary.Entry {
	x.Begin, x.End = begin, end
	return x
}

// series returns the lists of calls of which each begins after the one ahead of it has ended, if it has.
func series(calls ...diary.Entry) (sent, taken []diary.Entry) {
	for i, x := range calls {
		x.Begin = 10*i + 1
		if x.End != 0 {
			x.End = 10*i + 6
		}
		if x.Kind == 1 {
			sent = append(sent, x)
		} else {
			taken = append(taken, x)
		}
	}
	return sent, taken
}

// fits checks whether there is a linearization of calls that were made one after another; there is no other one than themselves, in their order.
func fits(t testing.TB, room int, want bool, calls ...diary.Entry) {
	t.Helper()
	sent, taken := series(calls...)
	if n := short(t, sent, taken, room); (n > 0) != want {
		t.Fatalf("there are %d linearizations of %v with the room %d", n, calls, room)
	}
}

// The example of the chapter, which is the seventh one of the document.
func TestExample(t *testing.T) {
	sent := []diary.Entry{at(put(4), 1, 5)}
	for begin, want := range map[int]bool{2: true, 5: true, 6: false} {
		taken := []diary.Entry{at(empty(), begin, begin+1)}
		l, ok := order.Witness(sent, taken, 1)
		if ok != want || ok && !slices.Equal(l, []int{1, 0}) || order.Fits(sent, taken, 1) != want {
			t.Errorf("a Recv that begins at %d: %v, %v", begin, l, ok)
		}
		short(t, sent, taken, 1)
	}
}

// towards returns calls, one after another, after which the counters of a queue of this room are these. Message n has the words n and 100.
func towards(n counters) []diary.Entry {
	var l []diary.Entry
	for i := range n.put {
		l = append(l, put(i, 100))
		if i < n.got {
			l = append(l, get(i, 100))
		}
		if i < n.back {
			l = append(l, back())
		}
	}
	return l
}

// counters are those of a queue.
type counters struct{ put, got, back int }

// states returns all counters that a queue of this room can have, up to some messages.
func states(room, most int) []counters {
	var l []counters
	for p := range most + 1 {
		for g := range p + 1 {
			for b := range g + 1 {
				if p-b <= room && p <= room*most {
					l = append(l, counters{p, g, b})
				}
			}
		}
	}
	return l
}

// telling returns calls that are possible one after another just on a queue with these counters: all messages are received, then all of them are returned, then it is filled.
func telling(n counters, room int) []diary.Entry {
	var l []diary.Entry
	for i := n.got; i < n.put; i++ {
		l = append(l, get(i, 100))
	}
	l = append(l, empty())
	for range n.put - n.back {
		l = append(l, back())
	}
	for range room {
		l = append(l, put(5))
	}
	return append(l, full())
}

// effect checks that a call is possible behind others, and leads to just these counters, or that it is not possible.
func effect(t *testing.T, before counters, x diary.Entry, room int, possible bool, after counters) {
	t.Helper()
	l := append(towards(before), x)
	check := func(want bool, calls []diary.Entry) {
		t.Helper()
		sent, taken := series(calls...)
		if got := order.Fits(sent, taken, room); got != want {
			t.Fatalf("%+v with the room %d, behind %+v: %v, not %+v", x, room, before, got, after)
		}
	}
	check(possible, l)
	for _, n := range states(room, after.put+1) {
		// Counters that differ only in messages that have been returned cannot be told.
		same := diary.Same(telling(n, room), telling(after, room))
		check(possible && same, append(slices.Clip(l), telling(n, room)...))
	}
}

// P21.1: the effect of each call, and the condition under which it is possible, in all states of small queues.
func TestEffects(t *testing.T) {
	for room := range 4 {
		for _, n := range states(room, 4) {
			more, got, returned := n, n, n
			more.put++
			got.got++
			returned.back++
			effect(t, n, put(n.put, 100), room, n.put-n.back < room, more)
			effect(t, n, full(), room, n.put-n.back == room, n)
			effect(t, n, get(n.got, 100), room, n.got < n.put, got)
			effect(t, n, get(n.got+1, 100), room, false, n)
			effect(t, n, empty(), room, n.got == n.put, n)
			effect(t, n, back(), room, n.back < n.got, returned)
		}
	}
}

// P21.1: a call with any other result is always possible, and has no effect.
func TestOtherResults(t *testing.T) {
	results := slices.Clone(far)
	for e := 1; e < 30; e++ {
		results = append(results, e)
	}
	for kind := 1; kind <= 3; kind++ {
		for _, e := range results {
			if kind == diary.Send && e == int(api.ErrFull) || kind == diary.Recv && e == int(api.ErrEmpty) {
				continue
			}
			x := failed(kind, api.Errno(e))
			x.Load = []int{0, 100}
			for room := range 3 {
				for _, n := range states(room, 2) {
					effect(t, n, x, room, true, n)
				}
			}
		}
	}
}

// P21.1: the condition of a Send at and on either side of the boundary, with rooms of all sizes, also where it is far away.
func TestRooms(t *testing.T) {
	for room := range 5 {
		var l []diary.Entry
		for n := range 7 {
			fits(t, room, n < room, append(slices.Clip(l), put(1))...)
			fits(t, room, n == room, append(slices.Clip(l), full())...)
			l = append(l, put(1))
		}
	}
	for _, room := range []int{api.MaxRing, 65536, 1<<31 - 1, 1 << 32, 1 << 62, math.MaxInt - 1, math.MaxInt} {
		fits(t, room, true)
		fits(t, room, true, put(1), put(2), get(1), back(), put(3), get(2), get(3), empty())
		fits(t, room, false, full())
		fits(t, room, false, put(1), full())
	}
	for _, room := range []int{-1, -2, -65536, 1 - 1<<32, -1 << 62, math.MinInt, math.MinInt + 1} {
		fits(t, room, false)
		fits(t, room, false, full())
		fits(t, room, false, empty())
		fits(t, room, false, failed(1, api.ErrReset))
		fits(t, room, false, failed(3, api.ErrReset))
		fits(t, room, false, open(put()))
		fits(t, room, false, put(1))
	}
}

// P21.1: the capacity 0, of which a queue is always full and always empty.
func TestNoRoom(t *testing.T) {
	fits(t, 0, true)
	fits(t, 0, true, full(), empty(), full(), empty(), failed(1, api.ErrReset), failed(3, api.ErrReset))
	fits(t, 0, false, put())
	fits(t, 0, false, get())
	fits(t, 0, false, back())
	fits(t, 0, true, open(put()), empty(), open(get()))
}

// P21.1: a Recv has exactly the words of its message, also words that no memory has, and more of them than a message can have.
func TestWords(t *testing.T) {
	loads := [][]int{nil, {}, {0}, {7}, {8}, {7, 0}, {0, 7}, {7, 8}, {8, 7}, {7, 8, 9}, {65535}, {65536}, {-1}, {65543}, {1<<32 + 7}, {math.MinInt}, {math.MaxInt}, make([]int, 8), make([]int, 9), make([]int, 1000)}
	for i, a := range loads {
		for k, b := range loads {
			same := i == k || len(a)+len(b) == 0
			fits(t, 1, same, put(a...), get(b...))
			fits(t, 2, same, put(a...), put(5), get(b...), get(5))
			fits(t, 2, same, put(5), put(a...), get(5), get(b...))
			fits(t, 2, same, put(5), get(5), put(a...), get(b...))
			// What was not sent with OK is no message, and what was not received with OK has no words.
			fits(t, 1, same, failed(1, api.ErrReset), put(a...), full(), failed(2, api.ErrReset), get(b...))
		}
	}
	fits(t, 2, true, put(7), put(8), get(7), get(8))
	fits(t, 2, false, put(7), put(8), get(8), get(7))
	fits(t, 2, false, put(7), put(8), get(7), get(7))
	fits(t, 2, false, put(7), put(8), get(8))
	fits(t, 2, false, put(7), get(7), get(7))
}

// P21.1: the words of a Send with another result are those of no message, and the words of all other calls do not matter.
func TestOtherWords(t *testing.T) {
	x := full()
	x.Load = []int{7}
	fits(t, 1, false, put(8), x, get(7))
	fits(t, 1, true, put(8), x, get(8))
	y := empty()
	y.Load = []int{7}
	z := back()
	z.Load = []int{7, -1}
	fits(t, 1, true, y, put(8), get(8), y, z, put(9))
}

// P21.1: what else an entry has does not matter: its core and its peer, its handle, and whether it is in a valid history.
func TestOtherFields(t *testing.T) {
	for _, n := range append([]int{0, 1, 7, 8}, far...) {
		sent, taken := series(put(7), get(7), back(), put(8), full(), get(8))
		for _, l := range [][]diary.Entry{sent, taken} {
			for i := range l {
				l[i].Core, l[i].Peer, l[i].Handle = n, n, n
			}
		}
		if short(t, sent, taken, 1) != 1 {
			t.Fatal(n)
		}
	}
}

// P21.1, P21.2: a call that has not ended may be omitted, or is one with OK where that is needed.
func TestOpen(t *testing.T) {
	for _, c := range []struct {
		room        int
		sent, taken []diary.Entry
		want        []int
		fits        bool
	}{
		{1, []diary.Entry{at(put(7), 1, 0)}, nil, nil, true},
		{0, []diary.Entry{at(put(7), 1, 0)}, nil, nil, true},
		{1, nil, []diary.Entry{at(get(7), 1, 0)}, nil, true},
		{1, nil, []diary.Entry{at(back(), 1, 0)}, nil, true},
		{1, []diary.Entry{at(put(7), 1, 0)}, []diary.Entry{at(get(7), 2, 0)}, nil, true},
		// It is needed, and in the order of the construction wherever it is possible.
		{1, []diary.Entry{at(put(7), 1, 0)}, []diary.Entry{at(get(7), 2, 3)}, []int{0, 1}, true},
		{0, []diary.Entry{at(put(7), 1, 0)}, []diary.Entry{at(get(7), 2, 3)}, nil, false},
		{1, []diary.Entry{at(put(7), 1, 0)}, []diary.Entry{at(get(8), 2, 3)}, nil, false},
		{1, []diary.Entry{at(put(7), 1, 0)}, []diary.Entry{at(get(7), 2, 3), at(get(7), 4, 5)}, nil, false},
		{1, []diary.Entry{at(put(7), 1, 0)}, []diary.Entry{at(empty(), 2, 3)}, []int{1}, true},
		{1, []diary.Entry{at(put(7), 1, 0)}, []diary.Entry{at(failed(2, 9), 2, 3)}, []int{0, 1}, true},
		{0, []diary.Entry{at(put(7), 1, 0)}, []diary.Entry{at(failed(2, 9), 2, 3)}, []int{1}, true},
		{1, []diary.Entry{at(put(7), 1, 0)}, []diary.Entry{at(empty(), 2, 3), at(get(7), 4, 5)}, []int{1, 0, 2}, true},
		{1, []diary.Entry{at(put(7), 1, 2), at(put(8), 3, 0)}, []diary.Entry{at(get(7), 4, 5), at(empty(), 6, 7)}, []int{0, 2, 3}, true},
		// A Release that has not ended, and makes room. A Recv that has not ended is no help for anything.
		{1, []diary.Entry{at(put(7), 1, 2), at(put(8), 6, 7)}, []diary.Entry{at(get(7), 3, 4), at(back(), 5, 0)}, []int{0, 2, 3, 1}, true},
		{1, []diary.Entry{at(put(7), 1, 2), at(full(), 6, 7)}, []diary.Entry{at(get(7), 3, 4), at(back(), 5, 0)}, []int{0, 2, 1}, true},
		{1, []diary.Entry{at(put(7), 1, 2), at(put(8), 6, 7)}, []diary.Entry{at(get(7), 3, 0)}, nil, false},
		{1, []diary.Entry{at(put(7), 1, 2), at(put(8), 6, 7)}, []diary.Entry{at(back(), 3, 0)}, nil, false},
		// The other list begins behind it.
		{1, []diary.Entry{at(put(7), 9, 0)}, []diary.Entry{at(get(7), 2, 9)}, []int{0, 1}, true},
		{1, []diary.Entry{at(put(7), 9, 0)}, []diary.Entry{at(get(7), 2, 8)}, nil, false},
		{1, []diary.Entry{at(put(7), 9, 0)}, []diary.Entry{at(failed(2, 9), 2, 8)}, []int{1}, true},
		{1, []diary.Entry{at(put(7), 1, 2), at(put(8), 6, 7)}, []diary.Entry{at(get(7), 3, 4), at(back(), 7, 0)}, []int{0, 2, 3, 1}, true},
		{1, []diary.Entry{at(put(7), 1, 2), at(put(8), 6, 7)}, []diary.Entry{at(get(7), 3, 4), at(back(), 8, 0)}, nil, false},
		// It may be behind all others, wherever they begin.
		{1, []diary.Entry{at(put(7), 1, 0)}, []diary.Entry{at(empty(), 20, 30), at(get(7), 40, 50)}, []int{1, 0, 2}, true},
		{1, []diary.Entry{at(put(7), -9, 0)}, []diary.Entry{at(empty(), 20, 30), at(get(7), 40, 50)}, []int{1, 0, 2}, true},
	} {
		if l, ok := order.Witness(c.sent, c.taken, c.room); ok != c.fits || !slices.Equal(l, c.want) {
			t.Errorf("Witness(%v, %v, %d) = %v, %v", c.sent, c.taken, c.room, l, ok)
		}
		short(t, c.sent, c.taken, c.room)
	}
}

// P21.1: a call that has not ended is one with OK whatever its Err and, for a Recv, its words are.
func TestOpenResults(t *testing.T) {
	for _, e := range append([]int{0, 1, 5, 6, 8, 9, 20, 21}, far...) {
		x, y, z := open(put(7)), open(get(7)), open(back())
		x.Err, y.Err, z.Err = api.Errno(e), api.Errno(e), api.Errno(e)
		fits(t, 1, true, x, get(7))
		fits(t, 1, false, x, get(8))
		fits(t, 1, true, x, empty())
		fits(t, 0, false, x, get(7))
		fits(t, 1, true, put(7), get(7), z, put(8))
		fits(t, 1, false, put(7), z, put(8))
		for _, load := range [][]int{nil, {}, {7}, {8}, {7, 8}} {
			y.Load = load
			fits(t, 1, true, put(7), y)
			fits(t, 1, true, y)
			fits(t, 1, true, y, put(7), full())
		}
	}
}

// P21.1: there is no linearization if a call that has not ended is not the last one of its list.
func TestOpenNotLast(t *testing.T) {
	sends := []diary.Entry{put(7), full(), failed(1, 8), open(put(7))}
	takes := []diary.Entry{get(7), empty(), back(), failed(2, 8), failed(3, 9), open(get()), open(back())}
	for _, x := range sends {
		fits(t, 1, false, open(put(7)), x)
		fits(t, 9, false, failed(1, 8), open(put(7)), x)
		fits(t, 9, false, open(put(7)), failed(1, 8), x)
	}
	for _, x := range takes {
		for _, y := range takes[5:] {
			fits(t, 1, false, y, x)
			fits(t, 9, false, put(7), put(7), get(7), y, x)
			fits(t, 9, false, put(7), put(7), get(7), y, failed(2, 8), x)
		}
	}
	fits(t, 1, true, open(put(7)), open(get()))
	fits(t, 1, true, open(get()), open(put(7)))
	fits(t, 1, true, put(7), get(7), open(back()), open(put(8)))
	fits(t, 1, false, put(7), open(get()), open(put(8)), full())
}

// P21.1: there is no linearization if an entry of sent is no Send, or one of taken is neither a Recv nor a Release, whatever else it is.
func TestKinds(t *testing.T) {
	kinds := append([]int{0, 1, 2, 3, 4, 5, 8}, far...)
	for _, kind := range kinds {
		for _, x := range []diary.Entry{failed(kind, 0), failed(kind, 5), failed(kind, 6), failed(kind, 8), open(failed(kind, 0))} {
			// Behind all others the queue is empty, and has room.
			x = at(x, 90, 95*x.End)
			isSend := kind == 1 && x.Err != api.ErrFull
			isTake := (kind == 2 || kind == 3) && (x.End == 0 || x.Err != api.OK)
			for _, others := range [][]diary.Entry{nil, {put(), get(), back()}} {
				sent, taken := series(others...)
				if got := short(t, append(slices.Clip(sent), x), taken, 1) > 0; got != isSend {
					t.Fatalf("as a Send, %+v: %v", x, got)
				}
				if got := short(t, sent, append(slices.Clip(taken), x), 1) > 0; got != isTake {
					t.Fatalf("as a call of taken, %+v: %v", x, got)
				}
				if x.End != 0 {
					x.Begin, x.End = -9, -8
					short(t, append([]diary.Entry{x}, sent...), taken, 1)
					short(t, sent, append([]diary.Entry{x}, taken...), 1)
					x.Begin, x.End = 90, 95
				}
			}
		}
	}
}

// P21.1, P21.2, P21.3: empty lists, and nil ones, are equivalent, as lists and as Loads.
func TestNothing(t *testing.T) {
	none := []diary.Entry{}
	for _, l := range [][2][]diary.Entry{{nil, nil}, {none, nil}, {nil, none}, {none, none}} {
		for _, room := range []int{0, 1, 64, math.MaxInt} {
			if w, ok := order.Witness(l[0], l[1], room); len(w) > 0 || !ok || !order.Fits(l[0], l[1], room) || order.Longest(l[0], l[1], room) != 0 {
				t.Error(l, room, w, ok)
			}
		}
		if w, ok := order.Witness(l[0], l[1], -1); w != nil || ok || order.Fits(l[0], l[1], -1) || order.Longest(l[0], l[1], -1) != 0 {
			t.Error(l, w, ok)
		}
	}
	for _, empties := range [][2][]int{{nil, {}}, {{}, nil}, {nil, nil}, {{}, {}}} {
		x, y := at(put(), 1, 2), at(get(), 3, 4)
		x.Load, y.Load = empties[0], empties[1]
		if w, ok := order.Witness([]diary.Entry{x}, []diary.Entry{y}, 1); !slices.Equal(w, []int{0, 1}) || !ok {
			t.Error(empties, w, ok)
		}
	}
	short(t, nil, []diary.Entry{at(empty(), 1, 2)}, 1)
	short(t, []diary.Entry{at(put(), 1, 2)}, nil, 1)
}

// P21.2: nil is returned where there is no linearization.
func TestNil(t *testing.T) {
	for _, calls := range [][]diary.Entry{{put(7), get(8)}, {get(7)}, {back()}, {put(7), put(8)}, {full()}, {put(7), empty()}, {open(put(7)), put(8)}, {failed(0, 8)}} {
		sent, taken := series(calls...)
		if l, ok := order.Witness(sent, taken, 1); l != nil || ok {
			t.Errorf("Witness of %v = %v, %v", calls, l, ok)
		}
	}
}

// P21.1: a call that has ended is not behind one whose Begin is greater than its End, in any two calls of both lists and of one, with times of all signs.
func TestTimes(t *testing.T) {
	times := []int{-4, -3, -2, -1, 0, 1, 2, 3, 4}
	for _, begin := range times {
		for _, end := range times {
			for _, begin2 := range times {
				for _, end2 := range times {
					sent, taken := []diary.Entry{at(put(7), begin, end)}, []diary.Entry{at(empty(), begin2, end2)}
					// The Recv must be ahead of the Send; if one of them has not ended, it may be omitted.
					want := end == 0 || end2 == 0 || begin2 <= end
					if got := short(t, sent, taken, 1) > 0; got != want {
						t.Fatalf("%v, %v: %v", sent, taken, got)
					}
					// The Send must be ahead of the Recv.
					taken = []diary.Entry{at(get(7), begin2, end2)}
					want = end2 == 0 || begin <= end2
					if got := short(t, sent, taken, 1) > 0; got != want {
						t.Fatalf("%v, %v: %v", sent, taken, got)
					}
					inOneList(t, at(put(7), begin, end), at(put(7), begin2, end2))
					inOneList(t, at(failed(1, 8), begin, end), at(full(), begin2, end2))
					inOneList(t, at(empty(), begin, end), at(failed(3, 9), begin2, end2))
				}
			}
		}
	}
}

// inOneList checks two calls that are in the same list in this order, and possible as far as their times go.
func inOneList(t *testing.T, x, y diary.Entry) {
	t.Helper()
	want := x.End != 0 && (y.End == 0 || x.Begin <= y.End)
	sent, taken, room := []diary.Entry{x, y}, []diary.Entry(nil), 2
	if x.Kind != diary.Send {
		sent, taken = nil, sent
	}
	if y.Err == api.ErrFull {
		room = 0
	}
	if got := short(t, sent, taken, room) > 0; got != want {
		t.Fatalf("%v, %v: %v", x, y, got)
	}
}

// P21.1: the order of the times holds between all calls, also those that are not next to each other, and also against a call that has not ended.
func TestTimesApart(t *testing.T) {
	other := failed(2, api.ErrDown)
	for n := range 12 {
		// Calls that are possible in any order keep the last one from being behind the first one, which began late.
		sent := []diary.Entry{at(put(7), 10, 20)}
		for range n {
			sent = append(sent, at(failed(1, 8), 1, 30))
		}
		for end, want := range map[int]bool{9: false, 10: true} {
			sent := append(slices.Clip(sent), at(put(8), 5, end))
			if got := order.Fits(sent, nil, 2); got != want {
				t.Fatalf("%v: %v", sent, got)
			}
			taken := []diary.Entry{at(get(7), 6, 30)}
			for range n {
				taken = append(taken, at(other, 1, 30))
			}
			taken = append(taken, at(get(8), 5, 30))
			if got := order.Fits(sent, taken, 2); got != want {
				t.Fatalf("%v, %v: %v", sent, taken, got)
			}
		}
	}
	// The Send that has not ended is needed by a Recv, and begins after the End of another call that can only be behind that.
	sent := []diary.Entry{at(put(7), 10, 0)}
	taken := []diary.Entry{at(get(7), 5, 20), at(empty(), 5, 9)}
	short(t, sent, taken, 1)
	if order.Fits(sent, taken, 1) {
		t.Error("a call that has not ended is no Begin")
	}
	taken[1].End = 10
	if !order.Fits(sent, taken, 1) {
		t.Error("the Begin is not behind the End")
	}
}

// P21.1: times as large as there are.
func TestFarTimes(t *testing.T) {
	times := append([]int{0, 1}, far...)
	for _, begin := range times {
		for _, end := range times {
			x := at(put(7), begin, end)
			for _, other := range times {
				short(t, []diary.Entry{x}, []diary.Entry{at(get(7), other, other)}, 1)
				short(t, []diary.Entry{x}, []diary.Entry{at(empty(), other, other), at(back(), begin, end)}, 1)
				short(t, []diary.Entry{x, at(full(), other, end)}, nil, 1)
			}
		}
	}
}

// P21.2: how entries are numbered, and which of several linearizations is returned.
func TestWitness(t *testing.T) {
	for _, c := range []struct {
		room        int
		sent, taken []diary.Entry
		want        []int
	}{
		{2, []diary.Entry{at(put(7), 1, 9)}, []diary.Entry{at(failed(2, 9), 1, 9)}, []int{0, 1}},
		{2, []diary.Entry{at(put(7), 1, 9), at(put(8), 1, 9)}, []diary.Entry{at(get(7), 1, 9), at(get(8), 1, 9), at(back(), 1, 9)}, []int{0, 1, 2, 3, 4}},
		{2, []diary.Entry{at(put(7), 1, 9), at(put(8), 1, 9), at(put(9), 1, 9)}, []diary.Entry{at(get(7), 1, 9), at(back(), 1, 9), at(get(8), 1, 9)}, []int{0, 1, 3, 4, 2, 5}},
		// The call of sent that is next would be possible first, but no linearization goes on from there.
		{2, []diary.Entry{at(put(7), 1, 9), at(put(8), 1, 9)}, []diary.Entry{at(empty(), 1, 9), at(failed(3, 9), 1, 9), at(get(7), 1, 9), at(empty(), 1, 9), at(get(8), 1, 9)}, []int{2, 0, 3, 4, 5, 1, 6}},
		{1, []diary.Entry{at(put(7), 1, 9), at(full(), 1, 9)}, []diary.Entry{at(failed(2, 8), 1, 9), at(get(7), 1, 9)}, []int{0, 1, 2, 3}},
		{1, []diary.Entry{at(put(7), 1, 9), at(put(8), 1, 9), at(full(), 1, 9)}, []diary.Entry{at(get(7), 1, 9), at(back(), 1, 9)}, []int{0, 3, 4, 1, 2}},
		// Only calls of one list.
		{2, []diary.Entry{at(put(7), 1, 2), at(put(8), 3, 4)}, nil, []int{0, 1}},
		{2, nil, []diary.Entry{at(empty(), 1, 2), at(failed(3, 9), 3, 4)}, []int{0, 1}},
		// Behind the last call that has ended nothing is appended.
		{2, []diary.Entry{at(put(7), 1, 2), at(put(8), 3, 0)}, []diary.Entry{at(failed(2, 8), 1, 2)}, []int{0, 2}},
		{2, []diary.Entry{at(put(7), 1, 2), at(put(8), 3, 0)}, []diary.Entry{at(failed(2, 8), 1, 9)}, []int{0, 1, 2}},
		{2, []diary.Entry{at(put(7), 1, 2)}, []diary.Entry{at(get(7), 1, 0)}, []int{0}},
	} {
		if l, ok := order.Witness(c.sent, c.taken, c.room); !ok || !slices.Equal(l, c.want) {
			t.Errorf("Witness(%v, %v, %d) = %v, %v, want %v", c.sent, c.taken, c.room, l, ok, c.want)
		}
		short(t, c.sent, c.taken, c.room)
	}
}

// P21.2: what is returned is a list of its own.
func TestOwnList(t *testing.T) {
	sent, taken := series(put(7), get(7), back(), put(8))
	l, _ := order.Witness(sent, taken, 1)
	m, _ := order.Witness(sent, taken, 1)
	for i := range l {
		l[i] = -1
	}
	again, _ := order.Witness(sent, taken, 1)
	for _, got := range [][]int{m, again} {
		if !slices.Equal(got, []int{0, 2, 3, 1}) {
			t.Error(got)
		}
	}
}

// P21.3: the greatest number of entries, in the cases that the definition distinguishes.
func TestLongest(t *testing.T) {
	for _, c := range []struct {
		room        int
		sent, taken []diary.Entry
		want        int
	}{
		{2, []diary.Entry{at(put(7), 1, 2), at(put(8), 3, 4)}, nil, 2},
		{1, []diary.Entry{at(put(7), 1, 2), at(put(8), 3, 4), at(full(), 5, 6)}, nil, 1},
		{0, []diary.Entry{at(put(7), 1, 2)}, nil, 0},
		{-1, []diary.Entry{at(failed(1, 8), 1, 2)}, nil, 0},
		{0, []diary.Entry{at(failed(1, 8), 1, 2), at(full(), 3, 4)}, nil, 2},
		// A smaller number has none: the Recv of the second message began ahead of the End of the first Send.
		{9, []diary.Entry{at(put(7), 1, 9), at(put(8), 1, 9)}, []diary.Entry{at(get(7), 3, 9), at(get(8), 3, 9)}, 2},
		{9, []diary.Entry{at(put(7), 1, 9), at(put(8), 1, 9), at(put(9), 12, 13)}, []diary.Entry{at(get(7), 3, 9), at(get(8), 3, 9), at(empty(), 15, 16)}, 3},
		{9, []diary.Entry{at(put(7), 1, 9), at(put(8), 1, 9), at(full(), 12, 13)}, []diary.Entry{at(get(7), 3, 9), at(get(8), 3, 9)}, 2},
		{9, []diary.Entry{at(put(7), 1, 9), at(full(), 1, 9), at(full(), 1, 9)}, []diary.Entry{at(get(8), 3, 9)}, 0},
		// An entry of taken begins at the End of the last one, before it and after it.
		{9, []diary.Entry{at(put(7), 1, 5)}, []diary.Entry{at(get(8), 4, 9)}, 0},
		{9, []diary.Entry{at(put(7), 1, 5)}, []diary.Entry{at(get(8), 5, 9)}, 0},
		{9, []diary.Entry{at(put(7), 1, 5)}, []diary.Entry{at(get(8), 6, 9)}, 1},
		{9, []diary.Entry{at(put(7), -5, -1)}, []diary.Entry{at(get(8), 0, 9)}, 1},
		{9, []diary.Entry{at(put(7), -5, -1)}, []diary.Entry{at(get(8), -1, 9)}, 0},
		// The last one has not ended.
		{9, []diary.Entry{at(put(7), 5, 0)}, []diary.Entry{at(get(8), 4, 9)}, 0},
		{9, []diary.Entry{at(put(7), 5, 0)}, []diary.Entry{at(get(8), 5, 9)}, 0},
		{9, []diary.Entry{at(put(7), 5, 0)}, []diary.Entry{at(get(8), 6, 9)}, 1},
		{9, []diary.Entry{at(put(7), 5, 0)}, []diary.Entry{at(get(7), 1, 9)}, 1},
		{9, []diary.Entry{at(put(7), 5, 0), at(put(8), 6, 7)}, nil, 1},
		{9, []diary.Entry{at(put(7), 5, 0), at(put(8), 6, 0), at(put(9), 7, 0)}, nil, 1},
		// Entries that cannot be, ahead of the End and behind it.
		{9, []diary.Entry{at(put(7), 1, 5), at(failed(2, 9), 6, 7)}, nil, 1},
		{9, []diary.Entry{at(failed(0, 9), 1, 5), at(put(7), 6, 7)}, nil, 0},
		{9, []diary.Entry{at(put(7), 1, 5), at(put(8), 6, 7)}, []diary.Entry{at(failed(1, 9), 6, 9)}, 1},
		{9, []diary.Entry{at(put(7), 1, 5), at(put(8), 6, 7)}, []diary.Entry{at(failed(1, 9), 8, 9)}, 2},
		{9, []diary.Entry{at(put(7), 1, 5), at(put(8), 6, 7)}, []diary.Entry{at(get(), 1, 0), at(get(7), 6, 9)}, 1},
		{9, []diary.Entry{at(put(7), 1, 5), at(put(8), 6, 7)}, []diary.Entry{at(get(), 1, 0), at(get(7), 8, 9)}, 2},
		// Entries of taken that are not in the order of their times: those behind are left out wherever they are.
		{9, []diary.Entry{at(put(7), 1, 5)}, []diary.Entry{at(get(8), 6, 9), at(get(7), 2, 9)}, 1},
		{9, []diary.Entry{at(put(7), 1, 5), at(put(8), 6, 7)}, []diary.Entry{at(get(8), 7, 9), at(get(7), 2, 9)}, 1},
		{9, nil, []diary.Entry{at(empty(), 1, 2)}, 0},
	} {
		if got := order.Longest(c.sent, c.taken, c.room); got != c.want || longest(c.sent, c.taken, c.room) != c.want {
			t.Errorf("Longest(%v, %v, %d) = %d, want %d", c.sent, c.taken, c.room, got, c.want)
		}
		short(t, c.sent, c.taken, c.room)
	}
}

// together returns n calls that are all made at the same time.
func together(n int, x diary.Entry) []diary.Entry {
	l := make([]diary.Entry, n)
	for i := range l {
		l[i] = at(x, 1+i, 1000000+i)
	}
	return l
}

// P21.1, P21.2: long lists of calls that are all made at the same time; without the record of visited pairs the search would not end.
func TestLong(t *testing.T) {
	for _, n := range []int{50, 300} {
		// The Send must be ahead of all, and the Recv behind it finds a message.
		sent := append([]diary.Entry{at(put(7), 1, 5)}, together(n, failed(1, api.ErrReset))...)
		taken := append(together(n, failed(2, api.ErrReset)), at(empty(), 6, 7))
		if long(t, sent, taken, 5) {
			t.Error("there is a message")
		}
		taken[n] = at(get(7), 6, 7)
		if long(t, sent, taken, 5) {
			t.Error("the calls of the same time begin after the end of the last one")
		}
		taken[n] = at(get(7), 6, n+7)
		if !long(t, sent, taken, 5) {
			t.Error("there is no linearization")
		}
		// Each message needs a slot that is returned, in the last moment or in the first one.
		sent, taken = together(n, put(7)), nil
		for _, x := range together(2*n, get(7)) {
			if x.Begin%2 == 0 {
				x.Kind = diary.Release
			}
			taken = append(taken, x)
		}
		for room := range 4 {
			if long(t, sent, taken, room) != (room > 0) {
				t.Error(n, room)
			}
			if long(t, append(slices.Clip(sent), at(full(), 1, 2000000)), taken, room) != (room > 0 && room <= n) {
				t.Error(n, room)
			}
		}
		if long(t, sent, append(taken, at(back(), 1, 2000000)), 3) || long(t, sent, append(taken, at(get(7), 1, 2000000)), 3) {
			t.Error("nothing is there to be received and returned")
		}
	}
}

// P21.1, P21.2, P1: lists that are longer than a search can recurse, also where what was wrong at the beginning is found at the end only. The stack is kept small, so that its use would be noticed.
func TestDeep(t *testing.T) {
	defer debug.SetMaxStack(debug.SetMaxStack(32 << 20))
	const n = 25000
	sent, taken := []diary.Entry{at(put(7), 1, 2000000)}, together(n, failed(2, api.ErrReset))
	taken = append(taken, at(empty(), 1, 2000000))
	if !long(t, sent, taken, 1) {
		t.Error("the Send is not behind all others")
	}
	if long(t, sent, append(taken, at(get(8), 1, 2000000)), 1) {
		t.Error("there is no such message")
	}
	if long(t, append(sent, at(full(), 1, 3), at(put(), 1, 3)), taken, 1) {
		t.Error("there is no room")
	}
	for _, gap := range []int{0, n} {
		var sent, taken []diary.Entry
		for i := range 200000 {
			sent = append(sent, at(put(i), 2*i, 2*i+1))
			taken = append(taken, at(get(i), 2*i, 2*i+2+2*gap))
		}
		l, ok := order.Witness(sent, taken, len(sent))
		if !ok || len(l) != 400000 || !order.Fits(sent, taken, len(sent)) || order.Longest(sent, taken, len(sent)) != 200000 {
			t.Error(gap, len(l), ok)
		}
	}
}
