package order_test

import (
	"math"
	"slices"
	"testing"

	"switchyard/diary"
	"switchyard/order"
)

// The functions have the signatures of the chapter.
var (
	_ func(sent, taken []diary.Entry, room int) bool          = order.Fits
	_ func(sent, taken []diary.Entry, room int) ([]int, bool) = order.Witness
	_ func(sent, taken []diary.Entry, room int) int           = order.Longest
)

// far holds numbers that are no kinds and no results of calls. Some of them have the low bits of such a number.
var far = []int{-1, -2, -5, -6, -65536, 65536, 65537, 65538, 65541, 65542, 1<<31 - 1, 1 << 31, 1<<32 - 1, 1 << 32, 1<<32 + 1, 1<<32 + 5, 1<<32 + 6, 1 - 1<<32, 1 << 62, -1 << 62, math.MinInt, math.MinInt + 5, math.MaxInt}

// queue is a queue by the text of the chapter.
type queue struct {
	room           int
	messages       [][]int
	put, got, back int
}

// possible reports whether a call is possible, by the text, with its numbers written out.
func (q *queue) possible(x diary.Entry) bool {
	e := x.Err
	if x.End == 0 {
		e = 0
	}
	switch {
	case x.Kind == 1 && e == 0:
		return q.put-q.back < q.room
	case x.Kind == 1 && e == 5:
		return q.put-q.back == q.room
	case x.Kind == 2 && e == 0 && x.End == 0:
		return q.got < q.put
	case x.Kind == 2 && e == 0:
		return q.got < q.put && slices.Equal(q.messages[q.got], x.Load)
	case x.Kind == 2 && e == 6:
		return q.got == q.put
	case x.Kind == 3 && e == 0:
		return q.back < q.got
	}
	return true
}

// after returns the queue after the effect of a call.
func (q queue) after(x diary.Entry) queue {
	if x.End != 0 && x.Err != 0 {
		return q
	}
	switch x.Kind {
	case 1:
		q.messages = append(slices.Clip(q.messages), x.Load)
		q.put++
	case 2:
		q.got++
	case 3:
		q.back++
	}
	return q
}

// hopeless reports whether there is no linearization in the cases that the text names.
func hopeless(sent, taken []diary.Entry, room int) bool {
	for _, l := range [][]diary.Entry{sent, taken} {
		for i, x := range l {
			if x.End == 0 && i != len(l)-1 {
				return true
			}
		}
	}
	for _, x := range sent {
		if x.Kind != 1 {
			return true
		}
	}
	for _, x := range taken {
		if x.Kind != 2 && x.Kind != 3 {
			return true
		}
	}
	return room < 0
}

// missing reports whether a call that has ended is not among the first i and j ones.
func missing(sent, taken []diary.Entry, i, j int) bool {
	for _, x := range append(slices.Clone(sent[i:]), taken[j:]...) {
		if x.End != 0 {
			return true
		}
	}
	return false
}

// timely reports whether a call may be behind these others.
func timely(x diary.Entry, others []diary.Entry) bool {
	for _, y := range others {
		if x.End != 0 && y.Begin > x.End {
			return false
		}
	}
	return true
}

// all returns every linearization, by the text: all sequences of the calls are tried.
func all(sent, taken []diary.Entry, room int) [][]int {
	if hopeless(sent, taken, room) {
		return nil
	}
	var found [][]int
	var try func(i, j int, q queue, calls []diary.Entry, l []int)
	try = func(i, j int, q queue, calls []diary.Entry, l []int) {
		if !missing(sent, taken, i, j) {
			found = append(found, slices.Clone(l))
		}
		if i < len(sent) && q.possible(sent[i]) && timely(sent[i], calls) {
			try(i+1, j, q.after(sent[i]), append(slices.Clip(calls), sent[i]), append(slices.Clip(l), i))
		}
		if j < len(taken) && q.possible(taken[j]) && timely(taken[j], calls) {
			try(i, j+1, q.after(taken[j]), append(slices.Clip(calls), taken[j]), append(slices.Clip(l), len(sent)+j))
		}
	}
	try(0, 0, queue{room: room}, nil, nil)
	return found
}

// construct returns the linearization that the text describes, of those that there are.
func construct(sent, taken []diary.Entry, linearizations [][]int) []int {
	var l []int
	i, j := 0, 0
	for missing(sent, taken, i, j) {
		continues := func(other []int) bool {
			return len(other) > len(l) && slices.Equal(other[:len(l)], l) && other[len(l)] == i
		}
		if i < len(sent) && slices.ContainsFunc(linearizations, continues) {
			l = append(l, i)
			i++
		} else {
			l = append(l, len(sent)+j)
			j++
		}
	}
	return l
}

// table says of each pair of positions whether a linearization goes on from there, for lists that are too long for all; it is filled from its end.
type table struct {
	sent, taken []diary.Entry
	sends       []queue // after the first calls of sent alone
	takes       []queue // after the first calls of taken alone
	latest      [2][]int
	live        [][]bool
}

// tabled returns the table of these lists, which must not be hopeless.
func tabled(sent, taken []diary.Entry, room int) *table {
	t := &table{sent: sent, taken: taken}
	t.sends, t.latest[0] = alone(sent, room)
	t.takes, t.latest[1] = alone(taken, room)
	t.live = make([][]bool, len(sent)+1)
	for i := len(sent); i >= 0; i-- {
		t.live[i] = make([]bool, len(taken)+1)
		for j := len(taken); j >= 0; j-- {
			t.live[i][j] = i >= lastEnded(sent) && j >= lastEnded(taken) ||
				i < len(sent) && t.may(i, j, sent[i]) && t.live[i+1][j] ||
				j < len(taken) && t.may(i, j, taken[j]) && t.live[i][j+1]
		}
	}
	return t
}

// alone returns the queues, and the latest Begins, after the first calls of a list.
func alone(l []diary.Entry, room int) (queues []queue, latest []int) {
	q, begin := queue{room: room}, math.MinInt
	for _, x := range l {
		queues, latest = append(queues, q), append(latest, begin)
		q, begin = q.after(x), max(begin, x.Begin)
	}
	return append(queues, q), append(latest, begin)
}

// lastEnded returns the position behind the last call that has ended.
func lastEnded(l []diary.Entry) int {
	n := 0
	for i, x := range l {
		if x.End != 0 {
			n = i + 1
		}
	}
	return n
}

// may reports whether the call can follow the first i and j ones.
func (t *table) may(i, j int, x diary.Entry) bool {
	q := t.sends[i]
	q.got, q.back = t.takes[j].got, t.takes[j].back
	return q.possible(x) && (x.End == 0 || t.latest[0][i] <= x.End && t.latest[1][j] <= x.End)
}

// construct returns the linearization that the text describes.
func (t *table) construct() []int {
	var l []int
	for i, j := 0, 0; i < lastEnded(t.sent) || j < lastEnded(t.taken); {
		if i < len(t.sent) && t.may(i, j, t.sent[i]) && t.live[i+1][j] {
			l = append(l, i)
			i++
		} else {
			l = append(l, len(t.sent)+j)
			j++
		}
	}
	return l
}

// longest returns what Longest is defined as, by Fits.
func longest(sent, taken []diary.Entry, room int) int {
	greatest := 0
	for n := 1; n <= len(sent); n++ {
		last := sent[n-1]
		var with []diary.Entry
		for _, x := range taken {
			if last.End != 0 && x.Begin > last.End || last.End == 0 && x.Begin > last.Begin {
				continue
			}
			with = append(with, x)
		}
		if order.Fits(sent[:n], with, room) {
			greatest = n
		}
	}
	return greatest
}

// guarded returns a copy of the list in memory of its own, and a function that reports whether nothing in that memory has changed, also behind the list.
func guarded(l []diary.Entry) ([]diary.Entry, func() bool) {
	fill := func() []diary.Entry {
		m := make([]diary.Entry, 0, len(l)+2)
		for _, x := range l {
			x.Load = append(append(make([]int, 0, len(x.Load)+2), x.Load...), 77, 78)[:len(x.Load)]
			m = append(m, x)
		}
		return append(m, diary.Entry{Kind: 1, End: 3}, diary.Entry{Kind: 3, End: 3})[:len(l)]
	}
	given, kept := fill(), fill()
	return given, func() bool {
		same := diary.Same(given[:len(l)+2], kept[:len(l)+2])
		for i := range given {
			n := len(given[i].Load) + 2
			same = same && slices.Equal(given[i].Load[:n], kept[i].Load[:n])
		}
		return same
	}
}

// answers checks what all three functions return for these lists, where there is this linearization or none, and that nothing else has changed. It returns what Longest returns.
func answers(t testing.TB, sent, taken []diary.Entry, room int, want []int, fits bool) int {
	t.Helper()
	s, sentKept := guarded(sent)
	k, takenKept := guarded(taken)
	if got := order.Fits(s, k, room); got != fits {
		t.Fatalf("Fits(%v, %v, %d) = %v", sent, taken, room, got)
	}
	l, ok := order.Witness(s, k, room)
	if ok != fits || !slices.Equal(l, want) {
		t.Fatalf("Witness(%v, %v, %d) = %v, %v, want %v, %v", sent, taken, room, l, ok, want, fits)
	}
	n := order.Longest(s, k, room)
	if m := longest(sent, taken, room); n != m {
		t.Fatalf("Longest(%v, %v, %d) = %d, want %d", sent, taken, room, n, m)
	}
	if !sentKept() || !takenKept() {
		t.Fatalf("the arguments %v, %v have changed", sent, taken)
	}
	return n
}

// short checks all three functions against all sequences of the calls, and returns how many are linearizations.
func short(t testing.TB, sent, taken []diary.Entry, room int) int {
	t.Helper()
	l := all(sent, taken, room)
	var want []int
	if len(l) > 0 {
		want = construct(sent, taken, l)
	}
	answers(t, sent, taken, room, want, len(l) > 0)
	return len(l)
}

// long checks all three functions against the table, and reports whether there is a linearization.
func long(t testing.TB, sent, taken []diary.Entry, room int) bool {
	t.Helper()
	if hopeless(sent, taken, room) {
		answers(t, sent, taken, room, nil, false)
		return false
	}
	m := tabled(sent, taken, room)
	if !m.live[0][0] {
		answers(t, sent, taken, room, nil, false)
		return false
	}
	answers(t, sent, taken, room, m.construct(), true)
	return true
}

// dice are numbers that follow from each other, the same ones in every run.
type dice uint64

// roll returns one of n numbers from 0 on.
func (d *dice) roll(n int) int {
	*d = *d*6364136223846793005 + 1442695040888963407
	return int(*d>>33) % n
}
