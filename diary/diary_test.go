package diary_test

import (
	"math"
	"slices"
	"strings"
	"testing"

	"switchyard/api"
	"switchyard/diary"
)

// The example of the chapter.
func TestExample(t *testing.T) {
	x := diary.Entry{Core: 0, Peer: 1, Kind: diary.Send, Begin: 3, End: 9, Err: api.OK}
	if s := diary.Text(x); s != "0s1 3-9 0" {
		t.Errorf("Text(%v) = %q", x, s)
	}
}

// The numbers of the chapter's constants, and the limits.
func TestConstants(t *testing.T) {
	got := []int{diary.Send, diary.Recv, diary.Release, api.MaxCores, api.MaxLoad}
	if want := []int{1, 2, 3, 8, 8}; !slices.Equal(got, want) {
		t.Errorf("the constants are %v, want %v", got, want)
	}
}

// right checks what Right reports, and that the text of the chapter says so.
func right(t *testing.T, l []diary.Entry, want bool) {
	t.Helper()
	if got := diary.Right(l); got != want {
		t.Fatalf("Right(%v) = %v", l, got)
	}
	if valid(l) != want {
		t.Fatalf("the text does not say %v of %v", want, l)
	}
}

// others returns a valid history in which no call is made by the cores 0, 1, 4, 6 and 7.
func others() []diary.Entry {
	return []diary.Entry{
		{Core: 2, Peer: 1, Kind: diary.Send, Begin: 10, End: 19, Load: []int{0, 65535}},
		{Core: 5, Peer: 4, Kind: diary.Recv, Begin: 10, End: 30, Load: []int{1}, Handle: 64},
		{Core: 2, Peer: 3, Kind: diary.Release, Begin: 20, Handle: 65},
		{Core: 3, Peer: 2, Kind: diary.Send, Begin: 1, End: 1, Err: api.ErrFull},
		{Core: 2, Peer: 0, Kind: diary.Recv, Begin: 21},
		{Core: 5, Peer: 7, Kind: diary.Release, Begin: 31, End: 40, Err: api.ErrReset},
	}
}

// probe returns an entry that can be anywhere among the others.
func probe() diary.Entry {
	return diary.Entry{Core: 1, Peer: 4, Kind: diary.Send, Begin: 10, End: 20, Load: []int{5, 6}, Handle: 3}
}

// alone checks that the history of this entry is valid, or that it is not, alone and at each place among the others.
func alone(t *testing.T, x diary.Entry, want bool) {
	t.Helper()
	right(t, []diary.Entry{x}, want)
	for i := range len(others()) + 1 {
		right(t, with(others(), i, x), want)
	}
}

// P19.1: a history without a call, and the valid ones to which the following tests add a call.
func TestRightNone(t *testing.T) {
	right(t, nil, true)
	right(t, []diary.Entry{}, true)
	right(t, others()[:0], true)
	right(t, others(), true)
	alone(t, probe(), true)
	// The zero entry has neither two cores nor a kind nor a time.
	alone(t, diary.Entry{}, false)
}

// P19.1: the limits of Core and of Peer, and equal ones.
func TestRightCores(t *testing.T) {
	for _, n := range []int{0, 1, 6, 7} {
		x := probe()
		x.Core = n
		alone(t, x, true)
	}
	for _, n := range append([]int{-1, 8, 9, 4}, far...) {
		x := probe()
		x.Core = n
		alone(t, x, false)
	}
	for _, n := range []int{0, 2, 3, 4, 5, 6, 7} {
		x := probe()
		x.Peer = n
		alone(t, x, true)
	}
	for _, n := range append([]int{-1, 8, 9, 1}, far...) {
		x := probe()
		x.Peer = n
		alone(t, x, false)
	}
}

// P19.1: all pairs of cores.
func TestRightPairsOfCores(t *testing.T) {
	numbers := append([]int{-1, 0, 1, 2, 3, 4, 5, 6, 7, 8, 9}, far...)
	for _, core := range numbers {
		for _, peer := range numbers {
			for kind := 1; kind <= 3; kind++ {
				x := diary.Entry{Core: core, Peer: peer, Kind: kind, Begin: 1}
				right(t, []diary.Entry{x}, 0 <= core && core < 8 && 0 <= peer && peer < 8 && core != peer)
			}
		}
	}
}

// P19.1: the kinds.
func TestRightKinds(t *testing.T) {
	for _, n := range append([]int{-1, 0, 1, 2, 3, 4, 5, 6, 7, 8, 's', 'r', 'x'}, far...) {
		x := probe()
		x.Kind = n
		alone(t, x, n == 1 || n == 2 || n == 3)
	}
}

// P19.1: Begin, of a call that has ended and of one that has not.
func TestRightBegin(t *testing.T) {
	for kind := 1; kind <= 3; kind++ {
		x := probe()
		x.Kind = kind
		for n := -30; n <= 30; n++ {
			x.Begin, x.End = n, 20
			alone(t, x, 1 <= n && n <= 20)
			x.Begin, x.End = n, 0
			alone(t, x, n >= 1)
			x.Begin, x.End = n, n
			alone(t, x, n >= 1)
		}
		for _, n := range far {
			x.Begin, x.End = n, 0
			alone(t, x, n > 0)
			x.Begin, x.End = n, 20
			alone(t, x, false)
			x.Begin, x.End = n, n
			alone(t, x, n > 0)
		}
	}
}

// P19.1: End.
func TestRightEnd(t *testing.T) {
	for kind := 1; kind <= 3; kind++ {
		x := probe()
		x.Kind = kind
		for _, begin := range []int{1, 2, 10, math.MaxInt - 1, math.MaxInt} {
			x.Begin = begin
			for _, n := range append([]int{-begin, 1 - begin, -1, 0, 1, 2, 3, 9, 10, 11, 12, begin - 1, begin}, far...) {
				x.End = n
				alone(t, x, n == 0 || n >= begin)
			}
		}
	}
}

// P19.1: all small times.
func TestRightTimes(t *testing.T) {
	for begin := -6; begin <= 6; begin++ {
		for end := -6; end <= 6; end++ {
			x := probe()
			x.Begin, x.End = begin, end
			alone(t, x, begin > 0 && (end == 0 || end >= begin))
		}
	}
}

// P19.1: the number of words, for each kind and result.
func TestRightLength(t *testing.T) {
	for n := range 20 {
		for i := range 3 * 2 {
			x := probe()
			x.Kind, x.Load = 1+i/2, make([]int, n)
			if i%2 == 1 {
				x.End = 0
			} else {
				x.Err = api.Errno(n)
			}
			alone(t, x, n <= 8)
		}
	}
	x := probe()
	x.Load = nil
	alone(t, x, true)
	for _, n := range []int{255, 256, 257, 65535, 65536, 65544, 1 << 20} {
		x.Load = make([]int, n)
		right(t, []diary.Entry{x}, false)
	}
}

// P19.1: the limits of words, at each place of each Load.
func TestRightWords(t *testing.T) {
	for kind := 1; kind <= 3; kind++ {
		for n := 1; n <= 8; n++ {
			for place := range n {
				for _, w := range append([]int{-1, 0, 1, 32767, 32768, 65534, 65535, 65536}, far...) {
					x := probe()
					x.Kind, x.Load = kind, slices.Repeat([]int{7}, n)
					x.Load[place] = w
					alone(t, x, 0 <= w && w <= 65535)
				}
			}
		}
	}
	x := probe()
	x.Load = []int{0, 65535, 0, 65535, 65535, 0, 65535, 0}
	alone(t, x, true)
}

// P19.1: what the memory of a Load or of the list has beyond its length does not matter.
func TestRightBeyond(t *testing.T) {
	x := probe()
	for n := range 9 {
		l := slices.Repeat([]int{65535}, n)
		x.Load = append(l, -1, 65536, 9, 9, 9, 9, 9, 9, 9)[:n]
		alone(t, x, true)
	}
	l := others()
	for n := range len(l) {
		m := append(copied(l[:n]), diary.Entry{}, probe())
		right(t, m, false)
		right(t, m[:n], true)
	}
}

// P19.1: the results, of a call that has ended and of one that has not.
func TestRightErr(t *testing.T) {
	for kind := 1; kind <= 3; kind++ {
		numbers := append([]int{-1, 21, 22}, far...)
		for n := range 21 {
			numbers = append(numbers, n)
		}
		for _, n := range numbers {
			x := probe()
			x.Kind, x.Err = kind, api.Errno(n)
			alone(t, x, true)
			x.End = x.Begin
			alone(t, x, true)
			x.End = 0
			alone(t, x, n == 0)
		}
	}
}

// P19.1: every Handle can be, whatever the kind and the result are, and also if others have it.
func TestRightHandle(t *testing.T) {
	for kind := 1; kind <= 3; kind++ {
		for _, n := range append([]int{-1, 0, 1, 63, 64, 65, 65535, 65536}, far...) {
			x := probe()
			x.Kind, x.Handle = kind, n
			alone(t, x, true)
			x.Err = api.ErrHandle
			alone(t, x, true)
			x.End, x.Err = 0, api.OK
			alone(t, x, true)
		}
	}
}

// P19.1: two things that are wrong do not make one that is right.
func TestRightTwoWrong(t *testing.T) {
	for _, change := range []func(x *diary.Entry){
		func(x *diary.Entry) { x.Core, x.Peer = -1, 8 },
		func(x *diary.Entry) { x.Core, x.Peer = 8, 8 },
		func(x *diary.Entry) { x.Begin, x.End = -5, -3 },
		func(x *diary.Entry) { x.Begin, x.End = 0, -1 },
		func(x *diary.Entry) { x.End, x.Err = -1, api.ErrFull },
		func(x *diary.Entry) { x.Load = []int{-1, 65536} },
		func(x *diary.Entry) { x.Load = slices.Repeat([]int{-1}, 9) },
		func(x *diary.Entry) { x.Kind, x.Load = 0, []int{-1} },
	} {
		x := probe()
		change(&x)
		alone(t, x, false)
	}
}

// twoCalls checks two calls of each core: next to each other, and with calls of other cores ahead of them, between them and behind them.
func twoCalls(t *testing.T, begin, end, begin2, end2 int, want bool) {
	t.Helper()
	for core := range 8 {
		peer := func(i int) int { return (core + 1 + i) % 8 }
		x := diary.Entry{Core: core, Peer: peer(0), Kind: diary.Recv, Begin: begin, End: end}
		y := diary.Entry{Core: core, Peer: peer(3), Kind: diary.Send, Begin: begin2, End: end2}
		z := diary.Entry{Core: peer(0), Peer: core, Kind: diary.Send, Begin: 15, End: 25}
		w := diary.Entry{Core: peer(3), Peer: core, Kind: diary.Recv, Begin: 2}
		right(t, []diary.Entry{x, y}, want)
		right(t, []diary.Entry{z, x, w, y}, want)
		right(t, []diary.Entry{x, w, z, y}, want)
		right(t, []diary.Entry{x, y, w, z}, want)
		// The same channel and the same kind.
		y.Peer, y.Kind = x.Peer, x.Kind
		right(t, []diary.Entry{x, y}, want)
		right(t, []diary.Entry{w, x, z, y}, want)
	}
}

// P19.1: the later one of two calls of a core begins behind the Begin and the End of the other one.
func TestRightTwoCalls(t *testing.T) {
	for begin := 1; begin <= 25; begin++ {
		for _, length := range []int{0, 1, 5} {
			twoCalls(t, 10, 20, begin, begin+length, begin > 20)
			twoCalls(t, 10, 11, begin, begin+length, begin > 11)
			twoCalls(t, 10, 10, begin, begin+length, begin > 10)
			twoCalls(t, 10, 0, begin, begin+length, begin > 10)
		}
		twoCalls(t, 10, 20, begin, 0, begin > 20)
		twoCalls(t, 10, 10, begin, 0, begin > 10)
		twoCalls(t, 10, 0, begin, 0, begin > 10)
	}
}

// P19.1: the ends of the range of numbers.
func TestRightTwoCallsAtTheEnds(t *testing.T) {
	const top = math.MaxInt
	twoCalls(t, 1, 0, top, top, true)
	twoCalls(t, 1, 1, top, 0, true)
	twoCalls(t, 1, top-1, top, top, true)
	twoCalls(t, 1, top, top, top, false)
	twoCalls(t, 1, top, 2, top, false)
	twoCalls(t, 1, top, 2, 2, false)
	twoCalls(t, top-1, 0, top, 0, true)
	twoCalls(t, top-1, top-1, top, 0, true)
	twoCalls(t, top-1, top, top, 0, false)
	twoCalls(t, top, 0, top, 0, false)
	twoCalls(t, top, top, top, top, false)
	twoCalls(t, top, 0, 1, 0, false)
	twoCalls(t, top, top, math.MinInt, 0, false)
	twoCalls(t, math.MinInt, 0, 1, 0, false)
	twoCalls(t, 1, math.MinInt, 2, 0, false)
	twoCalls(t, 1, 0, 2, math.MinInt, false)
}

// P19.1: calls of a core that are not neighbours among its calls.
func TestRightThreeCalls(t *testing.T) {
	call := func(begin, end int) diary.Entry {
		return diary.Entry{Core: 3, Peer: 6, Kind: diary.Send, Begin: begin, End: end}
	}
	right(t, []diary.Entry{call(1, 4), call(5, 0), call(6, 6)}, true)
	right(t, []diary.Entry{call(1, 4), call(5, 0), call(5, 6)}, false)
	right(t, []diary.Entry{call(1, 4), call(5, 0), call(4, 6)}, false)
	right(t, []diary.Entry{call(1, 9), call(5, 0), call(6, 7)}, false)
	right(t, []diary.Entry{call(1, 9), call(2, 3), call(4, 5)}, false)
	right(t, []diary.Entry{call(1, 0), call(2, 0), call(3, 0)}, true)
	right(t, []diary.Entry{call(1, 0), call(3, 0), call(2, 0)}, false)
	right(t, []diary.Entry{call(5, 6), call(7, 8), call(1, 2)}, false)
}

// P19.1: the times of different cores have nothing to do with each other.
func TestRightSameTimes(t *testing.T) {
	for _, times := range [][2]int{{1, 1}, {1, 0}, {5, 9}, {math.MaxInt, math.MaxInt}, {math.MaxInt, 0}} {
		var l []diary.Entry
		for core := range 8 {
			l = append(l, diary.Entry{Core: core, Peer: 7 - core, Kind: 1 + core%3, Begin: times[0], End: times[1]})
		}
		right(t, l, true)
		slices.Reverse(l)
		right(t, l, true)
		// One more call at the same time is not possible for any of them.
		for core := range 8 {
			right(t, append(copied(l), l[core]), false)
		}
	}
	var l []diary.Entry
	for core := range 8 {
		l = append(l, diary.Entry{Core: core, Peer: (core + 1) % 8, Kind: diary.Recv, Begin: 20 - core, End: 30 - core})
	}
	right(t, l, true)
	// The times of a peer are those of another core.
	right(t, []diary.Entry{{Core: 0, Peer: 1, Kind: 1, Begin: 5, End: 9}, {Core: 1, Peer: 0, Kind: 2, Begin: 5, End: 6}, {Core: 1, Peer: 0, Kind: 3, Begin: 7, End: 8}, {Core: 0, Peer: 1, Kind: 3, Begin: 10}}, true)
}

// P19.1: all lists of up to three calls of two cores with small times.
func TestRightAllSmall(t *testing.T) {
	var calls []diary.Entry
	for core := range 2 {
		for begin := range 5 {
			for end := -1; end <= 5; end++ {
				calls = append(calls, diary.Entry{Core: core, Peer: 1 - core, Kind: 1 + core, Begin: begin, End: end})
			}
		}
	}
	n := 0
	for _, x := range calls {
		for _, y := range calls {
			for _, z := range calls {
				l := []diary.Entry{x, y, z}
				if diary.Right(l) != valid(l) {
					t.Fatal(l, valid(l))
				}
				if valid(l) {
					n++
				}
			}
			l := []diary.Entry{x, y}
			right(t, l, valid(l))
		}
	}
	if n < 5000 {
		t.Fatal(n)
	}
}

// P19.1: valid histories, and those of which one or two entries are changed or exchanged.
func TestRightArbitrary(t *testing.T) {
	var reports [2]int
	for seed := range 30000 {
		d := dice(seed)
		l := d.history(20)
		right(t, l, true)
		if len(l) == 0 {
			continue
		}
		for range 1 + d.roll(2) {
			i, j := d.roll(len(l)), d.roll(len(l))
			if d.roll(4) == 0 {
				l[i], l[j] = l[j], l[i]
			} else {
				l[i] = d.spoil(l[i])
			}
		}
		want := valid(l)
		right(t, l, want)
		if want {
			reports[1]++
		} else {
			reports[0]++
		}
	}
	if min(reports[0], reports[1]) < 5000 {
		t.Fatal(reports)
	}
}

// P19.1, P19.2: long lists.
func TestLong(t *testing.T) {
	var l []diary.Entry
	for i := range 1 << 17 {
		l = append(l, diary.Entry{Core: i % 8, Peer: (i + 1) % 8, Kind: 1 + i/8%2, Begin: 1 + i/8*2, End: 2 + i/8*2, Load: []int{i % 65536}})
	}
	if !diary.Right(l) {
		t.Fatal("a valid history")
	}
	if sent, taken := diary.Of(l, 3, 4); len(sent) != 1<<13 || len(taken) != 0 {
		t.Fatal(len(sent), len(taken))
	}
	if sent, taken := diary.Of(l, 4, 3); len(sent) != 0 || len(taken) != 1<<13 {
		t.Fatal(len(sent), len(taken))
	}
	if n := diary.Count(l, diary.Send, api.OK); n != 1<<16 {
		t.Fatal(n)
	}
	c := copied(l)
	if !diary.Same(l, c) {
		t.Fatal("equal lists")
	}
	c[len(c)-1].Load[0]++
	if diary.Same(l, c) {
		t.Fatal("lists of which the last words differ")
	}
	l[len(l)-1].Begin -= 1
	if diary.Right(l) {
		t.Fatal("a call that begins at the End of the one before it")
	}
}

// channel checks the entries of a channel against the places where they are in the list.
func channel(t *testing.T, l []diary.Entry, from, to int, sent, taken []int) {
	t.Helper()
	pick := func(places []int) []string {
		var k []string
		for _, i := range places {
			k = append(k, key(l[i]))
		}
		return k
	}
	s, r := diary.Of(l, from, to)
	if !slices.Equal(keys(s), pick(sent)) || !slices.Equal(keys(r), pick(taken)) {
		t.Fatalf("Of(%v, %d, %d) = %v, %v, want the entries %v and %v", l, from, to, s, r, sent, taken)
	}
}

// mixed returns calls of all kinds, and of none, on several channels; they are no valid history.
func mixed() []diary.Entry {
	return []diary.Entry{
		{Core: 0, Peer: 1, Kind: diary.Send, Begin: 9, End: 9, Load: []int{7, 8}},
		{Core: 1, Peer: 0, Kind: diary.Recv, Begin: 3, End: 8, Load: []int{7, 8}, Handle: 64},
		{Core: 1, Peer: 0, Kind: diary.Send, Begin: 1, Load: []int{5}},
		{Core: 0, Peer: 1, Kind: diary.Release, Begin: 2, End: 4, Err: api.ErrHandle, Handle: 3},
		{Core: 0, Peer: 1, Kind: diary.Send, Begin: 4, End: 6, Err: api.ErrFull},
		{Core: 1, Peer: 0, Kind: diary.Release, Begin: 2, Handle: 64},
		{Core: 0, Peer: 1, Kind: diary.Recv, Begin: 7, End: 2, Err: api.ErrEmpty},
		{Core: 0, Peer: 2, Kind: diary.Send, Begin: 8, End: 8},
		{Core: 2, Peer: 1, Kind: diary.Recv, Begin: 8, End: 9, Err: api.ErrReset},
		{Core: 1, Peer: 0, Kind: diary.Recv, Begin: 1, End: -3, Err: -2, Load: []int{-1, 65536}},
		{Core: 0, Peer: 1, Kind: 0, Begin: 3},
		{Core: 1, Peer: 0, Kind: 4, Begin: 3},
		{Core: 1, Peer: 0, Kind: -1, Begin: 3},
		{Core: 1, Peer: 0, Kind: -2, Begin: 3},
		{Core: 0, Peer: 1, Kind: diary.Send, Load: make([]int, 12)},
	}
}

// P19.2: each channel of a list.
func TestOf(t *testing.T) {
	l := mixed()
	channel(t, l, 0, 1, []int{0, 4, 14}, []int{1, 5, 9})
	channel(t, l, 1, 0, []int{2}, []int{3, 6})
	channel(t, l, 0, 2, []int{7}, nil)
	channel(t, l, 1, 2, nil, []int{8})
	called := [][2]int{{0, 1}, {1, 0}, {0, 2}, {1, 2}}
	for from := -3; from <= 11; from++ {
		for to := -3; to <= 11; to++ {
			if !slices.Contains(called, [2]int{from, to}) {
				channel(t, l, from, to, nil, nil)
			}
		}
	}
}

// P19.2: lists in which there is nothing.
func TestOfNothing(t *testing.T) {
	for _, l := range [][]diary.Entry{nil, {}, mixed()[10:14], mixed()[:0]} {
		for from := -1; from <= 8; from++ {
			for to := -1; to <= 8; to++ {
				channel(t, l, from, to, nil, nil)
			}
		}
	}
}

// P19.2: a call is on one channel only, which its kind tells; no other number of it matters.
func TestOfOne(t *testing.T) {
	for core := range 8 {
		for peer := range 8 {
			for kind := -1; kind <= 5; kind++ {
				x := diary.Entry{Core: core, Peer: peer, Kind: kind, Begin: 3 - kind, End: kind, Err: api.Errno(kind), Load: []int{kind}, Handle: core}
				for from := range 8 {
					for to := range 8 {
						var sent, taken []int
						if kind == 1 && from == core && to == peer {
							sent = []int{0}
						}
						if (kind == 2 || kind == 3) && from == peer && to == core {
							taken = []int{0}
						}
						channel(t, []diary.Entry{x}, from, to, sent, taken)
					}
				}
			}
		}
	}
}

// P19.2: cores that cannot be, and the same core twice, are numbers like all others, by the literal text: calls that cannot be are found by them.
func TestOfWildCores(t *testing.T) {
	numbers := append([]int{-1, 0, 7, 8, 9}, far...)
	for _, a := range numbers {
		for _, b := range numbers {
			l := []diary.Entry{
				{Core: a, Peer: b, Kind: diary.Send, Handle: 1},
				{Core: b, Peer: a, Kind: diary.Recv, Handle: 2},
				{Core: 3, Peer: 4, Kind: diary.Send, Handle: 3},
				{Core: b, Peer: a, Kind: diary.Release, Handle: 4},
				{Core: a, Peer: b, Kind: diary.Send, Handle: 5},
			}
			channel(t, l, a, b, []int{0, 4}, []int{1, 3})
			channel(t, l, 3, 4, []int{2}, nil)
			if a != b {
				channel(t, l, b, a, nil, nil)
				channel(t, l, a, a, nil, nil)
				channel(t, l, b, b, nil, nil)
			}
		}
	}
}

// P19.2: the order is that of the list, whatever the times are.
func TestOfOrder(t *testing.T) {
	for seed := range 2000 {
		d := dice(seed)
		var l []diary.Entry
		for i := range 40 {
			x := diary.Entry{Core: 2, Peer: 6, Kind: diary.Send, Begin: d.roll(9), End: d.roll(9), Handle: i}
			if d.roll(2) == 0 {
				x.Core, x.Peer, x.Kind = 6, 2, 2+d.roll(2)
			}
			l = append(l, x)
		}
		sent, taken := diary.Of(l, 2, 6)
		ascending := func(a, b diary.Entry) int { return a.Handle - b.Handle }
		if len(sent)+len(taken) != 40 || !slices.IsSortedFunc(sent, ascending) || !slices.IsSortedFunc(taken, ascending) {
			t.Fatal(sent, taken)
		}
		places, others := placesOf(l, 2, 6)
		channel(t, l, 2, 6, places, others)
	}
}

// P19.2: valid histories and other lists.
func TestOfArbitrary(t *testing.T) {
	found := 0
	for seed := range 2000 {
		d := dice(seed)
		for _, l := range [][]diary.Entry{d.history(30), d.wild(30)} {
			for from := -1; from <= 9; from++ {
				for to := -1; to <= 9; to++ {
					sent, taken := placesOf(l, from, to)
					channel(t, l, from, to, sent, taken)
					found += len(sent) + len(taken)
				}
			}
		}
	}
	if found < 20000 {
		t.Fatal(found)
	}
}

// P19.2: the memory of a list or of a Load beyond its length is not read.
func TestOfBeyond(t *testing.T) {
	l := mixed()
	channel(t, l[:2], 0, 1, []int{0}, []int{1})
	channel(t, l[:0], 0, 1, nil, nil)
	l[0].Load = []int{1, 2, 3, 4}[:2]
	l[1].Load = []int{1, 2, 3, 4}[:0]
	sent, taken := diary.Of(l, 0, 1)
	for _, x := range append(sent, taken...) {
		for _, w := range x.Load[len(x.Load):cap(x.Load)] {
			if w != 0 {
				t.Fatal("words beyond a Load are returned", x)
			}
		}
	}
}

// overwrite changes all that a list holds, also its memory beyond its length and that of its Loads.
func overwrite(l []diary.Entry) {
	l = l[:cap(l)]
	for i := range l {
		load := l[i].Load[:cap(l[i].Load)]
		for j := range load {
			load[j] = 99
		}
		l[i] = diary.Entry{Core: 99, Peer: 99, Kind: 99, Load: []int{99}}
	}
}

// P19.2, Rules: a change of one result changes neither the list nor the other result nor a later answer, and a change of the list changes no result.
func TestOfMemory(t *testing.T) {
	for seed := range 300 {
		d := dice(seed)
		l := d.history(40)
		if seed == 0 {
			l = mixed()
		}
		was := keys(l)
		for i := range 8 * 8 {
			from, to := i/8, i%8
			sent, taken := diary.Of(l, from, to)
			again, more := diary.Of(l, from, to)
			s, r := keys(sent), keys(taken)
			overwrite(sent)
			if !slices.Equal(keys(taken), r) || !slices.Equal(keys(l), was) {
				t.Fatal("a change of the first result", from, to)
			}
			overwrite(taken)
			if !slices.Equal(keys(again), s) || !slices.Equal(keys(more), r) || !slices.Equal(keys(l), was) {
				t.Fatal("a change of the second result", from, to)
			}
			c := copied(l)
			sent, taken = diary.Of(c, from, to)
			overwrite(c)
			if !slices.Equal(keys(sent), s) || !slices.Equal(keys(taken), r) {
				t.Fatal("a change of the list", from, to)
			}
		}
	}
}

// P19.2, Rules: entries of a list may share a Load; those of the results share nothing.
func TestOfSharedLoads(t *testing.T) {
	load := []int{1, 2, 3}
	l := []diary.Entry{
		{Core: 0, Peer: 1, Kind: diary.Send, Load: load},
		{Core: 0, Peer: 1, Kind: diary.Send, Load: load[:2]},
		{Core: 1, Peer: 0, Kind: diary.Recv, Load: load},
		{Core: 1, Peer: 0, Kind: diary.Release, Load: load[1:]},
	}
	sent, taken := diary.Of(l, 0, 1)
	all := append(slices.Clone(sent), taken...)
	for i := range all {
		before := keys(all)
		for j := range all[i].Load {
			all[i].Load[j] = 70 + i
		}
		after := keys(all)
		before[i], after[i] = "", ""
		if !slices.Equal(before, after) {
			t.Fatal("two Loads of the results share memory", all)
		}
		_ = append(all[i].Load, 88)
	}
	if !slices.Equal(load, []int{1, 2, 3}) {
		t.Fatal(load)
	}
}

// same checks what Same reports, in both orders.
func same(t *testing.T, a, b []diary.Entry, want bool) {
	t.Helper()
	if diary.Same(a, b) != want || diary.Same(b, a) != want {
		t.Fatalf("Same(%v, %v) is not %v", a, b, want)
	}
}

// P19.3: lists of different lengths, and nil and empty ones.
func TestSameLength(t *testing.T) {
	same(t, nil, nil, true)
	same(t, nil, []diary.Entry{}, true)
	same(t, []diary.Entry{}, []diary.Entry{}, true)
	same(t, nil, []diary.Entry{{}}, false)
	same(t, []diary.Entry{}, []diary.Entry{{}}, false)
	same(t, []diary.Entry{{}}, []diary.Entry{{}, {}}, false)
	for n := range len(mixed()) + 1 {
		for m := range len(mixed()) + 1 {
			same(t, mixed()[:n], mixed()[:m], n == m)
			same(t, mixed()[n:], mixed()[m:], n == m)
		}
	}
	l := mixed()
	same(t, l, l, true)
}

// changed checks that the entry with a change differs from it, at each place of a list.
func changed(t *testing.T, x diary.Entry, change func(x *diary.Entry)) {
	t.Helper()
	y := copied([]diary.Entry{x})[0]
	change(&y)
	same(t, []diary.Entry{x}, []diary.Entry{y}, false)
	for i := range len(others()) + 1 {
		same(t, with(others(), i, x), with(others(), i, x), true)
		same(t, with(others(), i, x), with(others(), i, y), false)
	}
}

// P19.3: lists that differ in one field of one entry.
func TestSameFields(t *testing.T) {
	for _, n := range append([]int{-1, 0, 1, 2, 3, 4, 8, 65535, 65536}, far...) {
		x := diary.Entry{Core: n - 1, Peer: n - 1, Kind: n - 1, Begin: n - 1, End: n - 1, Err: api.Errno(n - 1), Load: []int{n - 1, 0}, Handle: n - 1}
		changed(t, x, func(x *diary.Entry) { x.Core = n })
		changed(t, x, func(x *diary.Entry) { x.Peer = n })
		changed(t, x, func(x *diary.Entry) { x.Kind = n })
		changed(t, x, func(x *diary.Entry) { x.Begin = n })
		changed(t, x, func(x *diary.Entry) { x.End = n })
		changed(t, x, func(x *diary.Entry) { x.Err = api.Errno(n) })
		changed(t, x, func(x *diary.Entry) { x.Load[0] = n })
		changed(t, x, func(x *diary.Entry) { x.Handle = n })
		// Numbers that differ by a multiple of 65536 or of 2^32 are not equal.
		changed(t, x, func(x *diary.Entry) { x.Core += 1 << 32 })
		changed(t, x, func(x *diary.Entry) { x.Err += 65536 })
		changed(t, x, func(x *diary.Entry) { x.Load[0] += 65536 })
		changed(t, x, func(x *diary.Entry) { x.Handle += 65536 })
	}
}

// P19.3: fields that are exchanged, or that together have not changed.
func TestSameExchanged(t *testing.T) {
	x := probe()
	changed(t, x, func(x *diary.Entry) { x.Core, x.Peer = x.Peer, x.Core })
	changed(t, x, func(x *diary.Entry) { x.Begin, x.End = x.End, x.Begin })
	changed(t, x, func(x *diary.Entry) { x.Load[0], x.Load[1] = x.Load[1], x.Load[0] })
	changed(t, x, func(x *diary.Entry) { x.Begin, x.End = x.Begin+1, x.End-1 })
	changed(t, x, func(x *diary.Entry) { *x = diary.Entry{} })
	l := others()
	for i := range l {
		for j := range l {
			m := others()
			m[i], m[j] = m[j], m[i]
			same(t, l, m, i == j)
		}
	}
}

// P19.3: Loads of other lengths and with other words, and nil and empty ones.
func TestSameLoads(t *testing.T) {
	load := []int{1, 2, 3, 4, 5, 6, 7, 8, 9, 10, 11, 12}
	of := func(load []int) []diary.Entry {
		x := probe()
		x.Load = load
		return with(others(), 3, x)
	}
	same(t, of(nil), of([]int{}), true)
	same(t, of(nil), of(load[:0]), true)
	same(t, of(nil), of([]int{0}), false)
	same(t, of([]int{}), of([]int{0}), false)
	for n := range load {
		for m := range load {
			same(t, of(load[:n]), of(load[:m]), n == m)
		}
		// The memory beyond a Load does not matter.
		same(t, of(load[:n]), of(append(slices.Clone(load[:n]), 77)[:n]), true)
		for place := range n {
			other := slices.Clone(load[:n])
			other[place] += 9
			same(t, of(load[:n]), of(other), false)
		}
	}
	// The words are those of the same entry.
	x, y := probe(), probe()
	x.Load, y.Load = []int{1}, []int{2, 3}
	a := []diary.Entry{x, y}
	x.Load, y.Load = []int{1, 2}, []int{3}
	same(t, a, []diary.Entry{x, y}, false)
}

// P19.3: histories, and those of which one entry is changed.
func TestSameArbitrary(t *testing.T) {
	var reports [2]int
	for seed := range 20000 {
		d := dice(seed)
		l := d.history(12)
		if seed%3 == 0 {
			l = d.wild(12)
		}
		same(t, l, copied(l), true)
		if len(l) == 0 {
			continue
		}
		m := copied(l)
		i := d.roll(len(m))
		m[i] = d.spoil(m[i])
		want := slices.Equal(keys(l), keys(m))
		same(t, l, m, want)
		if want {
			reports[1]++
		} else {
			reports[0]++
		}
	}
	if reports[0] < 10000 || reports[1] < 100 {
		t.Fatal(reports)
	}
}

// text checks the text of an entry, which its Load and its Handle do not change.
func text(t *testing.T, x diary.Entry, want string) {
	t.Helper()
	for i := range 3 {
		if s := diary.Text(x); s != want {
			t.Fatalf("Text(%v) = %q, want %q", x, s, want)
		}
		x.Load, x.Handle = slices.Repeat([]int{i}, 9*i), 64*i
	}
}

// P19.3: texts, written out.
func TestText(t *testing.T) {
	text(t, diary.Entry{}, "0?0 0-..")
	text(t, diary.Entry{Core: 0, Peer: 1, Kind: diary.Send, Begin: 3, End: 9}, "0s1 3-9 0")
	text(t, diary.Entry{Core: 1, Peer: 0, Kind: diary.Recv, Begin: 4, End: 4, Err: api.ErrEmpty}, "1r0 4-4 6")
	text(t, diary.Entry{Core: 7, Peer: 6, Kind: diary.Release, Begin: 10, End: 100, Err: api.ErrHandle}, "7x6 10-100 7")
	text(t, diary.Entry{Core: 2, Peer: 5, Kind: diary.Recv, Begin: 12}, "2r5 12-..")
	text(t, diary.Entry{Core: 2, Peer: 5, Kind: diary.Release, Begin: 1}, "2x5 1-..")
	text(t, diary.Entry{Core: 2, Peer: 5, Kind: diary.Send, Begin: 1000000}, "2s5 1000000-..")
	text(t, diary.Entry{Core: -1, Peer: -20, Kind: -3, Begin: -400, End: -5000, Err: -6}, "-1?-20 -400--5000 -6")
	text(t, diary.Entry{Core: 12, Peer: 345, Kind: 4, Begin: 6789, End: -1, Err: 21}, "12?345 6789--1 21")
	text(t, diary.Entry{Core: math.MinInt, Peer: math.MaxInt, Kind: math.MaxInt, Begin: math.MinInt, End: math.MaxInt, Err: math.MinInt}, "-9223372036854775808?9223372036854775807 -9223372036854775808-9223372036854775807 -9223372036854775808")
	text(t, diary.Entry{Core: math.MaxInt, Peer: math.MinInt, Kind: math.MinInt, Begin: math.MaxInt, End: math.MinInt, Err: math.MaxInt}, "9223372036854775807?-9223372036854775808 9223372036854775807--9223372036854775808 9223372036854775807")
}

// P19.3: the letters of the kinds.
func TestTextKinds(t *testing.T) {
	letters := map[int]string{1: "s", 2: "r", 3: "x"}
	for _, kind := range append([]int{-1, 0, 1, 2, 3, 4, 5, 6, 7, 8, 's', 'r', 'x', '?'}, far...) {
		letter, ok := letters[kind]
		if !ok {
			letter = "?"
		}
		text(t, diary.Entry{Core: 3, Peer: 4, Kind: kind, Begin: 5}, "3"+letter+"4 5-..")
		text(t, diary.Entry{Core: 3, Peer: 4, Kind: kind, Begin: 5, End: 6, Err: 8}, "3"+letter+"4 5-6 8")
	}
}

// P19.3: each result of a call that has ended, and none of one that has not.
func TestTextErr(t *testing.T) {
	for e, name := range strings.Fields("0 1 2 3 4 5 6 7 8 9 10 11 12 13 14 15 16 17 18 19 20 21 22") {
		for kind, letter := range []string{"?", "s", "r", "x", "?"} {
			text(t, diary.Entry{Core: 1, Peer: 2, Kind: kind, Begin: 3, End: 4, Err: api.Errno(e)}, "1"+letter+"2 3-4 "+name)
			text(t, diary.Entry{Core: 1, Peer: 2, Kind: kind, Begin: 3, End: -4, Err: api.Errno(e)}, "1"+letter+"2 3--4 "+name)
			text(t, diary.Entry{Core: 1, Peer: 2, Kind: kind, Begin: 3, Err: api.Errno(e)}, "1"+letter+"2 3-..")
			if e > 0 {
				text(t, diary.Entry{Core: 1, Peer: 2, Kind: kind, Begin: 3, End: 4, Err: -api.Errno(e)}, "1"+letter+"2 3-4 -"+name)
			}
		}
	}
}

// P19.3: numbers of all sizes in each field.
func TestTextNumbers(t *testing.T) {
	numbers := append([]int{-1, 0, 1, 9, 10, 11, 99, 100, 101, 999, 1000, 65535, 65536}, far...)
	for _, n := range numbers {
		for i := range 12 {
			x := diary.Entry{Core: 1, Peer: 2, Kind: 1 + i%3, Begin: 3, End: 4 * (i % 2), Err: 5}
			for j, field := range []*int{&x.Core, &x.Peer, &x.Begin, &x.End, (*int)(&x.Err)} {
				if j == i%5 {
					*field = n
				}
			}
			text(t, x, textOf(x))
		}
	}
	for seed := range 20000 {
		d := dice(seed)
		for _, x := range append(d.history(3), d.wild(3)...) {
			text(t, x, textOf(x))
		}
	}
}

// count checks a number of calls.
func count(t *testing.T, l []diary.Entry, kind int, e api.Errno, want int) {
	t.Helper()
	if n := diary.Count(l, kind, e); n != want {
		t.Fatalf("Count(%v, %d, %d) = %d, want %d", l, kind, e, n, want)
	}
}

// P19.3: calls that have ended and others, with OK and other results.
func TestCount(t *testing.T) {
	l := []diary.Entry{
		{Core: 0, Peer: 1, Kind: diary.Send, Begin: 1, End: 2},
		{Core: 1, Peer: 0, Kind: diary.Send, Begin: 1, End: 9},
		{Core: 2, Peer: 0, Kind: diary.Send, Begin: 1},
		{Core: 0, Peer: 3, Kind: diary.Send, Begin: 3, End: 4, Err: api.ErrFull},
		{Core: 0, Peer: 1, Kind: diary.Recv, Begin: 5, End: 6},
		{Core: 0, Peer: 1, Kind: diary.Recv, Begin: 7, End: 8, Err: api.ErrEmpty},
		{Core: 0, Peer: 1, Kind: diary.Recv, Begin: 9, End: 10, Err: api.ErrEmpty},
		{Core: 0, Peer: 1, Kind: diary.Release, Begin: 11},
		// The following ones are in no valid history.
		{Core: 0, Peer: 1, Kind: diary.Send, Begin: 5, End: -1},
		{Core: 0, Peer: 1, Kind: diary.Recv, Begin: 5, Err: api.ErrEmpty},
		{Core: 0, Peer: 1, Kind: 0, Begin: 5, End: 6},
		{Core: 0, Peer: 1, Kind: -1, Begin: 5, End: 6, Err: -1},
		{Core: 9, Peer: 9, Kind: 4, Begin: 5, End: 6, Err: 21},
	}
	count(t, l, diary.Send, api.OK, 3)
	count(t, l, diary.Send, api.ErrFull, 1)
	count(t, l, diary.Send, api.ErrEmpty, 0)
	count(t, l, diary.Recv, api.OK, 1)
	count(t, l, diary.Recv, api.ErrEmpty, 2)
	count(t, l, diary.Recv, api.ErrFull, 0)
	count(t, l, diary.Release, api.OK, 0)
	count(t, l, 0, api.OK, 1)
	count(t, l, -1, -1, 1)
	count(t, l, -1, api.OK, 0)
	count(t, l, 4, 21, 1)
	count(t, l, 4, api.OK, 0)
	count(t, l[:3], diary.Send, api.OK, 2)
	for kind := -5; kind <= 5; kind++ {
		for e := api.Errno(-3); e <= 25; e++ {
			count(t, l, kind, e, countOf(l, kind, e))
			count(t, nil, kind, e, 0)
			count(t, []diary.Entry{}, kind, e, 0)
			count(t, l[:0], kind, e, 0)
		}
	}
}

// P19.3: each call alone, against all kinds and results.
func TestCountOne(t *testing.T) {
	for _, kind := range append([]int{-1, 0, 1, 2, 3, 4}, far...) {
		for e := api.Errno(-1); e <= 21; e++ {
			for _, end := range []int{0, 1, 5, -1, math.MaxInt, math.MinInt} {
				l := []diary.Entry{{Core: 1, Peer: 2, Kind: kind, Begin: 1, End: end, Err: e}}
				want := 1
				if end == 0 {
					want = 0
				}
				count(t, l, kind, e, want)
				count(t, l, kind+1, e, 0)
				count(t, l, kind-1, e, 0)
				count(t, l, kind, e+1, 0)
				count(t, l, kind, e-1, 0)
				count(t, append(l, l[0], l[0]), kind, e, 3*want)
			}
		}
	}
}

// P19.3: histories and other lists.
func TestCountArbitrary(t *testing.T) {
	total := 0
	for seed := range 1000 {
		d := dice(seed)
		for _, l := range [][]diary.Entry{d.history(40), d.wild(40)} {
			for kind := -1; kind <= 4; kind++ {
				for e := api.Errno(-1); e <= 21; e++ {
					count(t, l, kind, e, countOf(l, kind, e))
					total += countOf(l, kind, e)
				}
			}
		}
	}
	if total < 10000 {
		t.Fatal(total)
	}
}

// belongs returns how often each entry, told by its handle, is in the results of Of for all pairs of cores.
func belongs(l []diary.Entry) map[int]int {
	times := map[int]int{}
	for from := -1; from <= 8; from++ {
		for to := -1; to <= 8; to++ {
			sent, taken := diary.Of(l, from, to)
			for _, x := range append(sent, taken...) {
				times[x.Handle]++
			}
		}
	}
	return times
}

// P19.4: each entry of a valid history is in exactly one of the results.
func TestLaws(t *testing.T) {
	entries := 0
	for seed := range 3000 {
		d := dice(seed)
		l := d.history(60)
		right(t, l, true)
		times := belongs(l)
		for _, x := range l {
			if times[x.Handle] != 1 {
				t.Fatal(x, times[x.Handle])
			}
		}
		if len(times) != len(l) {
			t.Fatal(len(times), len(l))
		}
		entries += len(l)
	}
	if entries < 50000 {
		t.Fatal(entries)
	}
}

// P19.4: each call that a valid history can have, alone.
func TestLawsOfOne(t *testing.T) {
	n := 0
	for core := range 8 {
		for peer := range 8 {
			for kind := 1; kind <= 3; kind++ {
				l := []diary.Entry{{Core: core, Peer: peer, Kind: kind, Begin: 1, Handle: 5}}
				if diary.Right(l) != (core != peer) {
					t.Fatal(l)
				}
				if core != peer {
					if times := belongs(l); len(times) != 1 || times[5] != 1 {
						t.Fatal(l, times)
					}
					n++
				}
			}
		}
	}
	if n != 8*7*3 {
		t.Fatal(n)
	}
}

// roomy returns a copy of a list that has memory beyond its length, and so have its Loads.
func roomy(l []diary.Entry) []diary.Entry {
	c := append(copied(l), mixed()[:3]...)[:len(l)]
	for i := range c {
		c[i].Load = append(c[i].Load, 71, 72, 73)[:len(l[i].Load)]
	}
	return c
}

// whole returns the keys of all entries in the memory of a list, with their Loads to the end of the memory of these.
func whole(l []diary.Entry) []string {
	c := slices.Clone(l[:cap(l)])
	for i := range c {
		c[i].Load = c[i].Load[:cap(c[i].Load)]
	}
	return keys(c)
}

// Rules: no call changes its arguments, nor their memory beyond their length.
func TestArguments(t *testing.T) {
	for seed := range 3000 {
		d := dice(seed)
		l, m := roomy(d.history(10)), roomy(d.wild(10))
		a, b := whole(l), whole(m)
		for _, x := range [][]diary.Entry{l, m} {
			diary.Right(x)
			for i := range 10 * 10 {
				diary.Of(x, i/10-1, i%10-1)
			}
			for _, y := range x {
				diary.Text(y)
			}
			diary.Count(x, d.roll(5), api.Errno(d.roll(21)))
		}
		diary.Same(l, m)
		diary.Same(m, l)
		diary.Same(l, l)
		if !slices.Equal(whole(l), a) || !slices.Equal(whole(m), b) {
			t.Fatal("an argument has changed", l, m)
		}
	}
}

// Nothing is kept: the same call has the same result, whatever was called between.
func TestKeepsNothing(t *testing.T) {
	l := mixed()
	sent, taken := diary.Of(l, 0, 1)
	for seed := range 200 {
		d := dice(seed)
		m := d.wild(20)
		diary.Right(m)
		diary.Of(m, d.any(), d.any())
		diary.Same(m, l)
		diary.Count(m, d.any(), api.Errno(d.any()))
		right(t, l, false)
		right(t, others(), true)
		channel(t, l, 0, 1, []int{0, 4, 14}, []int{1, 5, 9})
		count(t, l, diary.Send, api.OK, 2)
		text(t, l[0], "0s1 9-9 0")
	}
	if !diary.Same(sent, []diary.Entry{l[0], l[4], l[14]}) || !diary.Same(taken, []diary.Entry{l[1], l[5], l[9]}) {
		t.Fatal(sent, taken)
	}
}

// P1: whatever the calls are given.
func TestNoPanic(t *testing.T) {
	for seed := range 20000 {
		d := dice(seed)
		l, m := d.wild(12), d.wild(12)
		right(t, l, valid(l))
		diary.Of(l, d.any(), d.any())
		diary.Same(l, m)
		diary.Count(l, d.any(), api.Errno(d.any()))
		for _, x := range l {
			diary.Text(x)
		}
	}
}
