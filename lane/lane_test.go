package lane_test

import (
	"math"
	"slices"
	"testing"

	"switchyard/api"
	"switchyard/lane"
)

// noCapacities holds invalid capacities, the neighbours of the limits first.
var noCapacities = []int{0, 65, -1, -2, 66, -63, -64, -65, 128, 65536, 1 << 32, 1<<32 + 1, -1 << 32, math.MinInt, math.MinInt + 1, math.MaxInt - 1, math.MaxInt}

// numbers holds elements of all kinds, more of them than a queue can have.
var numbers = slices.Concat([]int{0, -1, math.MinInt, math.MaxInt, 1, 0, 0, 65535, 65536, -65536, 1 << 32, 1<<32 + 1, -1 << 32, math.MinInt + 1, math.MaxInt - 1, 7, 7, 7}, steps(100))

// steps returns n numbers of both signs that differ from each other.
func steps(n int) []int {
	l := make([]int, n)
	for i := range l {
		l[i] = (i - n/2) * 1000003
	}
	return l
}

// made returns a new queue with the capacity most.
func made(t *testing.T, most int) *lane.Lane {
	t.Helper()
	l := lane.New(most)
	if l == nil {
		t.Fatalf("New(%d) is nil", most)
	}
	return l
}

// with returns a queue with the capacity most and these elements, the first one at the given place of a ring.
func with(t *testing.T, most, shift int, elements ...int) *lane.Lane {
	t.Helper()
	l := made(t, most)
	for range shift {
		put(t, l, -77)
		take(t, l, -77)
	}
	put(t, l, elements...)
	return l
}

// put appends numbers that must be appended.
func put(t *testing.T, l *lane.Lane, list ...int) {
	t.Helper()
	for _, x := range list {
		if e := l.Put(x); e != api.OK {
			t.Fatalf("Put(%d) = %d with %d of %d elements", x, e, l.Len(), l.Cap())
		}
	}
}

// take takes numbers that must be these.
func take(t *testing.T, l *lane.Lane, list ...int) {
	t.Helper()
	for _, want := range list {
		if x, e := l.Take(); x != want || e != api.OK {
			t.Fatalf("Take() = %d, %d, want %d", x, e, want)
		}
	}
}

// expect compares everything that can be asked of l with a capacity and its elements.
func expect(t *testing.T, l *lane.Lane, most int, want ...int) {
	t.Helper()
	if l.Cap() != most || l.Len() != len(want) {
		t.Fatalf("Cap() = %d, Len() = %d, want %d, %d", l.Cap(), l.Len(), most, len(want))
	}
	for i, w := range want {
		if x, ok := l.At(i); x != w || !ok {
			t.Fatalf("At(%d) of %v = %d, %v", i, want, x, ok)
		}
	}
	for _, i := range []int{-1, len(want)} {
		if x, ok := l.At(i); x != 0 || ok {
			t.Fatalf("At(%d) of %v = %d, %v", i, want, x, ok)
		}
	}
	if all := l.All(); !slices.Equal(all, want) {
		t.Fatalf("All() = %v, want %v", all, want)
	}
}

// The example of the chapter.
func TestExample(t *testing.T) {
	l := lane.New(2)
	if e := l.Put(5); e != api.OK {
		t.Error("Put(5)", e)
	}
	if e := l.Put(7); e != api.OK {
		t.Error("Put(7)", e)
	}
	if e := l.Put(9); e != api.ErrFull {
		t.Error("Put(9)", e)
	}
	if x, e := l.Take(); x != 5 || e != api.OK {
		t.Error("Take", x, e)
	}
}

// P4.1
func TestNew(t *testing.T) {
	if lane.Most != 64 {
		t.Fatal(lane.Most)
	}
	for most := 1; most <= 64; most++ {
		expect(t, made(t, most), most)
	}
}

// P4.1
func TestNewOfNoCapacity(t *testing.T) {
	for _, most := range noCapacities {
		if l := lane.New(most); l != nil {
			t.Errorf("New(%d) is a queue with the capacity %d", most, l.Cap())
		}
	}
}

// P4.1: two queues share nothing.
func TestNewIsNew(t *testing.T) {
	first := made(t, 3)
	put(t, first, 1, 2)
	second := made(t, 3)
	expect(t, second, 3)
	put(t, second, 8, 9, 10)
	take(t, second, 8)
	expect(t, first, 3, 1, 2)
	expect(t, second, 3, 9, 10)
}

// P4.1: every length at every capacity; the capacity stays.
func TestCapAndLen(t *testing.T) {
	for most := 1; most <= lane.Most; most++ {
		l := made(t, most)
		for n := 1; n <= most; n++ {
			put(t, l, n)
			if l.Len() != n || l.Cap() != most {
				t.Fatalf("Len() = %d, Cap() = %d after %d of %d elements", l.Len(), l.Cap(), n, most)
			}
		}
		for n := most - 1; n >= 0; n-- {
			take(t, l, most-n)
			if l.Len() != n || l.Cap() != most {
				t.Fatalf("Len() = %d, Cap() = %d with %d of %d elements left", l.Len(), l.Cap(), n, most)
			}
		}
	}
}

// P4.2: every capacity is filled and emptied many times over, with numbers of all kinds.
func TestFillAndEmpty(t *testing.T) {
	for most := 1; most <= lane.Most; most++ {
		l := made(t, most)
		for round := range 100 {
			list := make([]int, most)
			for i := range list {
				list[i] = numbers[(round+i)%len(numbers)]
			}
			put(t, l, list...)
			if e := l.Put(1); e != api.ErrFull {
				t.Fatalf("Put = %d with %d of %d elements", e, l.Len(), most)
			}
			expect(t, l, most, list...)
			take(t, l, list...)
			if x, e := l.Take(); x != 0 || e != api.ErrEmpty {
				t.Fatalf("Take of an empty queue = %d, %d", x, e)
			}
			expect(t, l, most)
		}
	}
}

// P4.2: a queue that holds the same number of elements all the time, for every such number.
func TestPutAndTakeInTurn(t *testing.T) {
	for _, most := range []int{1, 2, 3, 7, 63, 64} {
		for held := range most {
			l := made(t, most)
			for i, x := range numbers {
				put(t, l, x)
				if i >= held {
					take(t, l, numbers[i-held])
				}
				expect(t, l, most, numbers[max(0, i+1-held):i+1]...)
			}
		}
	}
}

// P4.2: a number is returned as it was put, at every place.
func TestAnyNumber(t *testing.T) {
	for _, x := range numbers {
		for shift := range 3 {
			l := with(t, 3, shift, x, 5, x)
			expect(t, l, 3, x, 5, x)
			take(t, l, x, 5, x)
		}
	}
}

// P4.2: rejected calls leave no trace, wherever the elements begin.
func TestRejectedCalls(t *testing.T) {
	for _, most := range []int{1, 2, 3, 64} {
		for _, shift := range []int{0, 1, most - 1, most, most + 1} {
			full := with(t, most, shift, numbers[:most]...)
			empty := with(t, most, shift)
			for _, x := range numbers {
				if e := full.Put(x); e != api.ErrFull {
					t.Fatalf("Put(%d) into a full queue = %d", x, e)
				}
				if got, e := empty.Take(); got != 0 || e != api.ErrEmpty {
					t.Fatalf("Take of an empty queue = %d, %d", got, e)
				}
			}
			expect(t, full, most, numbers[:most]...)
			expect(t, empty, most)
			take(t, full, numbers[:most]...)
			put(t, empty, numbers[:most]...)
			expect(t, full, most)
			expect(t, empty, most, numbers[:most]...)
		}
	}
}

// P4.3: every index of every queue of some capacities, wherever the elements begin.
func TestAtAndAll(t *testing.T) {
	for _, most := range []int{1, 2, 3, 8, 64} {
		for shift := range most + 2 {
			for n := range most + 1 {
				expect(t, with(t, most, shift, numbers[:n]...), most, numbers[:n]...)
			}
		}
	}
}

// P4.3: no other number is an index, also not the place of an element that was taken.
func TestNoIndex(t *testing.T) {
	for _, most := range []int{1, 2, 3, 64} {
		for n := range most + 1 {
			l := made(t, most)
			put(t, l, numbers[:most]...)
			take(t, l, numbers[:most-n]...)
			for _, i := range []int{-1, n, n + 1, -2, -n, -n - 1, most, most + 1, -most, -most - 1, 2 * most, 64, 65, 1 << 32, -1 << 32, math.MinInt, math.MinInt + 1, math.MaxInt - 1, math.MaxInt} {
				if 0 <= i && i < n {
					continue
				}
				if x, ok := l.At(i); x != 0 || ok {
					t.Errorf("At(%d) of %d of %d elements = %d, %v", i, n, most, x, ok)
				}
			}
			expect(t, l, most, numbers[most-n:most]...)
		}
	}
}

// P4.3: a queue of any length is cleared, and is then as a new one.
func TestClear(t *testing.T) {
	for _, most := range []int{1, 2, 3, 64} {
		for _, shift := range []int{0, 1, most - 1, most} {
			for n := range most + 1 {
				l := with(t, most, shift, numbers[:n]...)
				if got := l.Clear(); got != n {
					t.Fatalf("Clear of %d elements = %d", n, got)
				}
				expect(t, l, most)
				if x, e := l.Take(); x != 0 || e != api.ErrEmpty {
					t.Fatalf("Take after Clear = %d, %d", x, e)
				}
				if got := l.Clear(); got != 0 {
					t.Fatalf("a second Clear = %d", got)
				}
				put(t, l, numbers[1:most+1]...)
				expect(t, l, most, numbers[1:most+1]...)
				if e := l.Put(1); e != api.ErrFull {
					t.Fatalf("Put into a full queue after Clear = %d", e)
				}
				take(t, l, numbers[1:most+1]...)
			}
		}
	}
}

// P4.3: a clone of any length has the same elements and the same room.
func TestClone(t *testing.T) {
	for _, most := range []int{1, 2, 3, 64} {
		for shift := range most + 1 {
			for _, n := range []int{0, 1, most / 2, most - 1, most} {
				l := with(t, most, shift, numbers[:n]...)
				c := l.Clone()
				if c == nil || c == l {
					t.Fatal("the clone is nil or the queue itself")
				}
				expect(t, c, most, numbers[:n]...)
				put(t, c, numbers[n:most]...)
				if e := c.Put(1); e != api.ErrFull {
					t.Fatalf("Put into a full clone = %d", e)
				}
				take(t, c, numbers[:most]...)
				if x, e := c.Take(); x != 0 || e != api.ErrEmpty {
					t.Fatalf("Take of an empty clone = %d, %d", x, e)
				}
				expect(t, l, most, numbers[:n]...)
			}
		}
	}
}

// P4.3: neither a clone nor its original nor a clone's clone sees calls on another one.
func TestCloneIsIndependent(t *testing.T) {
	for shift := range 5 {
		l := with(t, 4, shift, 1, 2, 3)
		c := l.Clone()
		d := c.Clone()
		put(t, l, 10)
		expect(t, c, 4, 1, 2, 3)
		put(t, c, 20)
		expect(t, l, 4, 1, 2, 3, 10)
		expect(t, d, 4, 1, 2, 3)
		take(t, c, 1, 2)
		put(t, c, 21, 22)
		expect(t, l, 4, 1, 2, 3, 10)
		expect(t, d, 4, 1, 2, 3)
		d.Clear()
		put(t, d, 30, 31, 32, 33)
		expect(t, l, 4, 1, 2, 3, 10)
		expect(t, c, 4, 3, 20, 21, 22)
		l.Clear()
		put(t, l, 40, 41, 42, 43)
		expect(t, l, 4, 40, 41, 42, 43)
		expect(t, c, 4, 3, 20, 21, 22)
		expect(t, d, 4, 30, 31, 32, 33)
	}
}

// P4.3: a list that All returned belongs to the caller.
func TestAllIsIndependent(t *testing.T) {
	for shift := range 5 {
		for n := 1; n <= 4; n++ {
			l := with(t, 4, shift, numbers[10:10+n]...)
			first, second := l.All(), l.All()
			for i := range first {
				first[i] = 99
			}
			_ = append(first, 98, 97)
			_ = append(first[:0], 96)
			expect(t, l, 4, numbers[10:10+n]...)
			if !slices.Equal(second, numbers[10:10+n]) {
				t.Fatal("another list changed:", second)
			}
			put(t, l, numbers[30:34-n]...)
			take(t, l, numbers[10:10+n]...)
			take(t, l, numbers[30:34-n]...)
		}
	}
}

// P4.3: later calls do not change a list that was returned.
func TestAllStays(t *testing.T) {
	for shift := range 4 {
		l := with(t, 3, shift, 1, 2, 3)
		all := l.All()
		take(t, l, 1, 2)
		put(t, l, 8, 9)
		l.Clear()
		put(t, l, 5, 6, 7)
		if !slices.Equal(all, []int{1, 2, 3}) {
			t.Error(all)
		}
	}
}

// The rule that the memory of a list beyond its length is not returned.
func TestAllHasNothingBeyond(t *testing.T) {
	for shift := range 9 {
		for n := range 9 {
			l := with(t, 8, shift, steps(n)...)
			all := l.All()
			for _, x := range all[:cap(all)][n:] {
				if x != 0 {
					t.Errorf("All of %d elements has %d beyond its length", n, x)
				}
			}
		}
	}
}

// A nil Lane.
func TestNil(t *testing.T) {
	var l *lane.Lane
	for _, x := range numbers {
		if e := l.Put(x); e != api.ErrNone {
			t.Errorf("Put(%d) = %d", x, e)
		}
		if got, ok := l.At(x); got != 0 || ok {
			t.Errorf("At(%d) = %d, %v", x, got, ok)
		}
	}
	if x, e := l.Take(); x != 0 || e != api.ErrNone {
		t.Error("Take", x, e)
	}
	if l.Cap() != 0 || l.Len() != 0 || len(l.All()) != 0 || l.Clear() != 0 || l.Clone() != nil {
		t.Error(l.Cap(), l.Len(), l.All(), l.Clear(), l.Clone())
	}
}

// model is a queue by the text of the chapter: a list that grows at its end and is cut at its start.
type model struct {
	most  int
	list  []int
	put   []int
	taken []int
}

// call makes one of four calls on l and on the model, and returns the queue to go on with.
func (m *model) call(t *testing.T, l *lane.Lane, which, x int) *lane.Lane {
	t.Helper()
	switch which {
	case 0:
		want := api.OK
		if len(m.list) == m.most {
			want = api.ErrFull
		} else {
			m.list = append(m.list, x)
			m.put = append(m.put, x)
		}
		if e := l.Put(x); e != want {
			t.Fatalf("Put(%d) = %d, want %d", x, e, want)
		}
	case 1:
		first, want := 0, api.ErrEmpty
		if len(m.list) > 0 {
			first, want = m.list[0], api.OK
			m.list = m.list[1:]
			m.taken = append(m.taken, first)
		}
		if got, e := l.Take(); got != first || e != want {
			t.Fatalf("Take() = %d, %d, want %d, %d", got, e, first, want)
		}
	case 2:
		if n := l.Clear(); n != len(m.list) {
			t.Fatalf("Clear() = %d, want %d", n, len(m.list))
		}
		m.list = nil
	case 3:
		l = l.Clone()
	}
	return l
}

// P4.2, P4.3, P4.4: all sequences of eight calls on small queues.
func TestAllSequences(t *testing.T) {
	for _, most := range []int{1, 2, 3} {
		for code := range 1 << 16 {
			l, m := made(t, most), model{most: most}
			for i := range 8 {
				l = m.call(t, l, code>>(2*i)&3, 100+i)
			}
			expect(t, l, most, m.list...)
		}
	}
}

// P4.4: what was put is what was taken and then what is left, whatever is put and taken.
func TestLaws(t *testing.T) {
	for _, most := range []int{1, 2, 3, 5, 16, 63, 64} {
		l, m := made(t, most), model{most: most}
		seed := uint32(most)
		draw := func(n int) int {
			seed = seed*1664525 + 1013904223
			return int(seed>>8) % n
		}
		for i := range 20000 {
			// Long runs in which one of the two calls prevails let the queue become full and empty in turn.
			which := i / (4*most + 20) % 2
			if draw(4) == 0 {
				which = 1 - which
			}
			l = m.call(t, l, which, i*2654435761-draw(65536))
			if l.Len() != len(m.put)-len(m.taken) {
				t.Fatalf("Len() = %d after %d puts and %d takes", l.Len(), len(m.put), len(m.taken))
			}
		}
		if !slices.Equal(slices.Concat(m.taken, l.All()), m.put) {
			t.Errorf("with the capacity %d the numbers taken are not those that were put", most)
		}
		if len(m.taken) < 1000 {
			t.Errorf("with the capacity %d only %d numbers were taken", most, len(m.taken))
		}
	}
}

// P1: all calls with all numbers.
func TestNoPanic(t *testing.T) {
	for _, most := range slices.Concat(noCapacities, []int{1, 2, 64}) {
		l := lane.New(most)
		for _, x := range numbers {
			l.Put(x)
			l.At(x)
			l.Clone().Take()
		}
		for range 70 {
			l.Take()
			l.All()
			l.Len()
			l.Cap()
		}
		l.Clear()
		l.Clear()
	}
}
