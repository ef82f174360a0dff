package grant_test

import (
	"math"
	"slices"
	"testing"

	"switchyard/api"
	"switchyard/grant"
)

// far holds numbers that are neither slots nor numbers of them nor handles, the neighbours of the limits first. Some of them have the low bits of a slot or of a handle.
var far = []int{-1, -2, -63, -64, -65, -66, -127, -128, -129, -65535, -65536, -65537, -4194304, -4194303, -4194239, 4194304, 4194305, 4194368, 4194369, 4194304 + 130, 1<<31 - 1, 1 << 31, 1<<31 + 65, 1<<32 - 1, 1 << 32, 1<<32 + 1, 1<<32 + 64, 1<<32 + 65, -1 << 32, 1 - 1<<32, 65 - 1<<32, 1<<48 + 65, 1 << 62, 1<<62 + 65, math.MinInt, math.MinInt + 1, math.MinInt + 64, math.MinInt + 65, math.MaxInt - 64, math.MaxInt - 63, math.MaxInt - 1, math.MaxInt}

// outside returns numbers that are no slots of a table with so many.
func outside(n int) []int {
	list := []int{n, n + 1, 62 + n, 63, 64, 65, 127, 128, n - 1 + 1<<16, n - 1 + 1<<32, n - 1 - 1<<32}
	list = slices.DeleteFunc(list, func(i int) bool { return i >= 0 && i < n })
	return append(list, far...)
}

// state is a slot by the text of the chapter.
type state struct {
	generation int
	held       bool
}

// model is a table by the text of the chapter.
type model []state

// give gives a slot.
func (m model) give(i int) (int, bool) {
	if i < 0 || i > len(m)-1 || m[i].held {
		return 0, false
	}
	m[i] = state{(m[i].generation + 1) % 65536, true}
	return m[i].generation*64 + i, true
}

// slot returns the held slot with a handle.
func (m model) slot(handle int) (int, bool) {
	for i, s := range m {
		if s.held && s.generation*64+i == handle {
			return i, true
		}
	}
	return 0, false
}

// drop releases the slot with a handle.
func (m model) drop(handle int) api.Errno {
	i, ok := m.slot(handle)
	if !ok {
		return api.ErrHandle
	}
	m[i].held = false
	return api.OK
}

// held returns the held slots.
func (m model) held() []int {
	var list []int
	for i, s := range m {
		if s.held {
			list = append(list, i)
		}
	}
	return list
}

// clear releases all slots.
func (m model) clear() int {
	n := len(m.held())
	for i := range m {
		m[i].held = false
	}
	return n
}

// asked returns the handles that expect asks for: those of the slots' last generations and of their neighbours, with all numbers of slots nearby.
func (m model) asked() []int {
	list := []int{0, 1, 63, 64, 65, 4194303}
	for i, s := range m {
		for d := -1; d <= 1; d++ {
			list = append(list, (s.generation+d)*64+i)
		}
		list = append(list, s.generation*64+(i+1)%64, (s.generation+65536)*64+i, (s.generation-65536)*64+i, -s.generation*64-i)
	}
	return list
}

// made returns a new table.
func made(t *testing.T, n int) *grant.Table {
	t.Helper()
	x := grant.New(n)
	if x == nil {
		t.Fatalf("New(%d) is nil", n)
	}
	return x
}

// gives gives a slot, with results that must be these.
func gives(t *testing.T, x *grant.Table, i, want int, wantOK bool) {
	t.Helper()
	if handle, ok := x.Give(i); handle != want || ok != wantOK {
		t.Fatalf("Give(%d) = %d, %v, want %d, %v", i, handle, ok, want, wantOK)
	}
}

// slot asks for the slot of a handle.
func slot(t *testing.T, x *grant.Table, handle, want int, wantOK bool) {
	t.Helper()
	if i, ok := x.Slot(handle); i != want || ok != wantOK {
		t.Fatalf("Slot(%d) = %d, %v, want %d, %v", handle, i, ok, want, wantOK)
	}
}

// drops drops handles, with a result that must be this.
func drops(t *testing.T, x *grant.Table, want api.Errno, list ...int) {
	t.Helper()
	for _, handle := range list {
		if e := x.Drop(handle); e != want {
			t.Fatalf("Drop(%d) = %d, want %d", handle, e, want)
		}
	}
}

// held compares the slots that are held.
func held(t *testing.T, x *grant.Table, want ...int) {
	t.Helper()
	if list := x.Held(); !slices.Equal(list, want) {
		t.Fatalf("Held() = %v, want %v", list, want)
	}
}

// clears clears a table, with a result that must be this.
func clears(t *testing.T, x *grant.Table, want int) {
	t.Helper()
	if n := x.Clear(); n != want {
		t.Fatalf("Clear() = %d, want %d", n, want)
	}
}

// expect compares everything that can be asked of x with the model.
func expect(t *testing.T, x *grant.Table, m model) {
	t.Helper()
	if n := x.Len(); n != len(m) {
		t.Fatalf("Len() = %d, want %d", n, len(m))
	}
	held(t, x, m.held()...)
	for _, handle := range m.asked() {
		i, ok := m.slot(handle)
		slot(t, x, handle, i, ok)
	}
}

// generations compares the generations of x with the model's by giving all slots to a copy.
func generations(t *testing.T, x *grant.Table, m model) {
	t.Helper()
	expect(t, x, m)
	c, n := x.Clone(), slices.Clone(m)
	clears(t, c, n.clear())
	for i := range n {
		handle, ok := n.give(i)
		gives(t, c, i, handle, ok)
	}
	expect(t, c, n)
	expect(t, x, m)
}

// built returns a table whose slots are those of the model; a slot with generation 0 is not held.
func built(t *testing.T, m model) *grant.Table {
	t.Helper()
	x := made(t, len(m))
	for i, s := range m {
		for n := 1; n <= s.generation; n++ {
			gives(t, x, i, n*64+i, true)
			if n < s.generation || !s.held {
				drops(t, x, api.OK, n*64+i)
			}
		}
	}
	return x
}

// mixed returns a model in which some slots are held and most generations differ.
func mixed(n int) model {
	m := make(model, n)
	for i := range m {
		m[i].generation = (i*i + 3*n) % 13
		m[i].held = m[i].generation > 0 && (i*5+n)%7 < 4
	}
	return m
}

// The example of the chapter.
func TestExample(t *testing.T) {
	for n := 3; n <= 64; n++ {
		x := made(t, n)
		gives(t, x, 2, 66, true)
		drops(t, x, api.OK, 66)
		drops(t, x, api.ErrHandle, 66)
		gives(t, x, 2, 130, true)
	}
}

// P15.1: every number of slots, none of which is held.
func TestNew(t *testing.T) {
	if api.MaxRing != 64 {
		t.Fatal(api.MaxRing)
	}
	for n := 1; n <= 64; n++ {
		x := made(t, n)
		generations(t, x, make(model, n))
		held(t, x)
		for handle := range 64 * 3 {
			slot(t, x, handle, 0, false)
		}
		clears(t, x, 0)
		for i := range n {
			gives(t, x, i, 64+i, true)
		}
		if x.Len() != n {
			t.Fatalf("Len() = %d of a table whose %d slots are held", x.Len(), n)
		}
	}
}

// P15.1: the numbers next to the limits, and those far from them.
func TestNewOfNoSize(t *testing.T) {
	for _, n := range append([]int{0, -1, 65, 66, 127, 128, 256, 1024, 65535, 65536}, far...) {
		if grant.New(n) != nil {
			t.Errorf("New(%d) is a table", n)
		}
	}
}

// P15.1: two tables share nothing.
func TestNewIsNew(t *testing.T) {
	m := mixed(9)
	first := built(t, m)
	second := made(t, 9)
	expect(t, second, make(model, 9))
	for i := range 9 {
		gives(t, second, i, 64+i, true)
	}
	generations(t, first, m)
	clears(t, second, 9)
	generations(t, first, m)
}

// P15.2: Give of each slot, alone and while the other ones are held, increments its generation only.
func TestGive(t *testing.T) {
	for _, n := range []int{1, 2, 3, 5, 8, 63, 64} {
		for i := range n {
			x, m := made(t, n), make(model, n)
			for generation := 1; generation <= 4; generation++ {
				gives(t, x, i, generation*64+i, true)
				m[i] = state{generation, true}
				generations(t, x, m)
				gives(t, x, i, 0, false)
				generations(t, x, m)
				drops(t, x, api.OK, generation*64+i)
				m[i].held = false
				generations(t, x, m)
			}
		}
	}
}

// P15.2: all slots are given, in several orders.
func TestGiveAll(t *testing.T) {
	for _, n := range []int{1, 2, 4, 32, 63, 64} {
		for _, step := range []int{1, n - 1, n + 1} {
			x, m := made(t, n), make(model, n)
			for k := range n {
				i := k * step % n
				handle, ok := m.give(i)
				gives(t, x, i, handle, ok)
				expect(t, x, m)
			}
			for i := range n {
				want, ok := m.give(i)
				gives(t, x, i, want, ok)
			}
			generations(t, x, m)
		}
	}
}

// P15.2: slots that do not exist, in tables with no slot held, with some and with all of them.
func TestGiveNoSlot(t *testing.T) {
	for _, n := range []int{1, 2, 3, 7, 63, 64} {
		for _, m := range []model{make(model, n), mixed(n), slices.Repeat(model{{2, true}}, n)} {
			x := built(t, m)
			for _, i := range outside(n) {
				gives(t, x, i, 0, false)
			}
			generations(t, x, m)
		}
	}
}

// P15.2: a held slot is not given, and leaves no trace: its handle stays valid and its generation stays.
func TestGiveHeld(t *testing.T) {
	for _, n := range []int{1, 2, 64} {
		for i := range n {
			x := made(t, n)
			gives(t, x, i, 64+i, true)
			for range 5 {
				gives(t, x, i, 0, false)
				slot(t, x, 64+i, i, true)
				slot(t, x, 128+i, 0, false)
			}
			drops(t, x, api.OK, 64+i)
			gives(t, x, i, 128+i, true)
		}
	}
}

// P15.2: the handle of each generation of a slot, also after the wraparound, is valid from Give to Drop, and no other one.
func TestGenerations(t *testing.T) {
	for _, size := range []struct{ n, i int }{{1, 0}, {2, 0}, {2, 1}, {64, 0}, {64, 1}, {64, 37}, {64, 63}} {
		x := made(t, size.n)
		for k := 1; k <= 65536+3; k++ {
			generation := k % 65536
			handle := generation*64 + size.i
			slot(t, x, handle, 0, false)
			drops(t, x, api.ErrHandle, handle)
			gives(t, x, size.i, handle, true)
			slot(t, x, handle, size.i, true)
			for _, other := range []int{handle - 64, handle + 64, handle + 1, handle - 1, handle + 65536*64, handle - 65536*64} {
				slot(t, x, other, 0, false)
			}
			drops(t, x, api.OK, handle)
		}
	}
}

// P15.2: the wraparound of every slot; the handle of slot 0 with generation 0 is 0.
func TestGenerationWraps(t *testing.T) {
	x, m := made(t, 64), make(model, 64)
	for range 65535 {
		for i := range m {
			handle, _ := m.give(i)
			gives(t, x, i, handle, true)
		}
		clears(t, x, 64)
		m.clear()
	}
	for i := range m {
		if m[i].generation != 65535 {
			t.Fatal(m[i])
		}
	}
	slot(t, x, 0, 0, false)
	drops(t, x, api.ErrHandle, 0)
	for i := range 64 {
		gives(t, x, i, i, true)
		slot(t, x, i, i, true)
		gives(t, x, i, 0, false)
	}
	for i := range 64 {
		drops(t, x, api.OK, i)
		drops(t, x, api.ErrHandle, i)
		gives(t, x, i, 64+i, true)
	}
}

// P15.2: a handle belongs to its own slot and generation only, while all slots are held with other generations.
func TestSlotOfOthers(t *testing.T) {
	m := model{{3, true}, {1, true}, {2, false}, {3, false}, {7, true}}
	x := built(t, m)
	valid := map[int]int{3 * 64: 0, 64 + 1: 1, 7*64 + 4: 4}
	for handle := -64 * 20; handle < 64*20; handle++ {
		want, ok := valid[handle]
		slot(t, x, handle, want, ok)
		if !ok {
			drops(t, x, api.ErrHandle, handle)
		}
	}
	generations(t, x, m)
}

// P15.2: handles with the number of a slot that this table does not have, of every generation that the slots have had.
func TestSlotBeyondTheTable(t *testing.T) {
	for n := 1; n <= 63; n++ {
		m := make(model, n)
		for i := range m {
			m[i] = state{1 + i%3, true}
		}
		x := built(t, m)
		for generation := range 5 {
			for i := n; i < 64; i++ {
				slot(t, x, generation*64+i, 0, false)
				drops(t, x, api.ErrHandle, generation*64+i)
			}
		}
		generations(t, x, m)
	}
}

// P15.2: handles that no slot can have, in tables with no slot held, with some and with all of them.
func TestNoHandle(t *testing.T) {
	for _, n := range []int{1, 2, 3, 7, 63, 64} {
		for _, m := range []model{make(model, n), mixed(n), slices.Repeat(model{{1, true}}, n), slices.Repeat(model{{2, true}}, n)} {
			x := built(t, m)
			for _, handle := range append([]int{0}, far...) {
				slot(t, x, handle, 0, false)
				drops(t, x, api.ErrHandle, handle)
			}
			for i := range m {
				for _, handle := range []int{i, i - 64, i - 128, -(64 + i), -(128 + i), 64 + i + 1<<22, 128 + i + 1<<22, 64 + i + 1<<32, 64 + i - 1<<32} {
					slot(t, x, handle, 0, false)
					drops(t, x, api.ErrHandle, handle)
				}
			}
			generations(t, x, m)
		}
	}
}

// P15.2: Drop releases one slot, once; the other ones stay.
func TestDrop(t *testing.T) {
	for _, n := range []int{1, 2, 5, 64} {
		for i := range n {
			m := slices.Repeat(model{{1, true}}, n)
			x := built(t, m)
			drops(t, x, api.OK, 64+i)
			m[i].held = false
			expect(t, x, m)
			slot(t, x, 64+i, 0, false)
			drops(t, x, api.ErrHandle, 64+i)
			generations(t, x, m)
			gives(t, x, i, 128+i, true)
			m[i] = state{2, true}
			drops(t, x, api.ErrHandle, 64+i)
			generations(t, x, m)
		}
	}
}

// P15.3: Held is ascending, whatever the order in which the slots were given.
func TestHeld(t *testing.T) {
	x := made(t, 64)
	held(t, x)
	for _, i := range []int{63, 5, 0, 40, 6} {
		gives(t, x, i, 64+i, true)
	}
	held(t, x, 0, 5, 6, 40, 63)
	drops(t, x, api.OK, 64+5)
	held(t, x, 0, 6, 40, 63)
	gives(t, x, 1, 65, true)
	gives(t, x, 5, 128+5, true)
	held(t, x, 0, 1, 5, 6, 40, 63)
	drops(t, x, api.OK, 64, 65, 128+5, 64+6, 64+40, 64+63)
	held(t, x)
}

// P15.3: Held of all sets of the slots of small tables, Clear of them, and the first Give after it.
func TestHeldAndClear(t *testing.T) {
	for n := 1; n <= 6; n++ {
		for set := range 1 << n {
			m := make(model, n)
			for i := range m {
				m[i] = state{1 + i%2, set>>i&1 == 1}
			}
			x := built(t, m)
			generations(t, x, m)
			clears(t, x, m.clear())
			held(t, x)
			generations(t, x, m)
			clears(t, x, 0)
			generations(t, x, m)
			for i := range m {
				slot(t, x, (1+i%2)*64+i, 0, false)
				drops(t, x, api.ErrHandle, (1+i%2)*64+i)
				gives(t, x, i, (2+i%2)*64+i, true)
			}
		}
	}
}

// P15.3: Clear of tables of every size with no slot held, with some and with all of them.
func TestClear(t *testing.T) {
	for n := 1; n <= 64; n++ {
		for _, m := range []model{make(model, n), mixed(n), slices.Repeat(model{{1, true}}, n), slices.Repeat(model{{3, false}}, n)} {
			x := built(t, m)
			clears(t, x, len(m.held()))
			m.clear()
			generations(t, x, m)
		}
	}
}

// P15.3: the list of Held is new each time.
func TestHeldIsNew(t *testing.T) {
	m := mixed(20)
	x := built(t, m)
	first, second := x.Held(), x.Held()
	if len(first) < 2 {
		t.Fatal(first)
	}
	for i := range first {
		first[i] = 99
	}
	_ = append(first[:0], 7, 7)
	if !slices.Equal(second, m.held()) {
		t.Fatalf("a list of Held changed another one: %v", second)
	}
	expect(t, x, m)
	x.Clear()
	if !slices.Equal(second, m.held()) {
		t.Fatalf("Clear changed a list of Held: %v", second)
	}
}

// P15.3: the copy and the table are independent in both directions, generations included.
func TestClone(t *testing.T) {
	for _, n := range []int{1, 2, 7, 64} {
		m := mixed(n)
		x := built(t, m)
		c := x.Clone()
		if c == x {
			t.Fatal("Clone is the table itself")
		}
		generations(t, c, m)
		changed := slices.Clone(m)
		change(t, x, changed)
		generations(t, x, changed)
		generations(t, c, m)
		kept := slices.Clone(m)
		clears(t, c, m.clear())
		generations(t, x, changed)
		generations(t, c, m)
		d := c.Clone()
		change(t, c, m)
		kept.clear()
		generations(t, d, kept)
		generations(t, c, m)
		generations(t, x, changed)
	}
}

// change drops the held slots of x and of the model, and gives all of them twice.
func change(t *testing.T, x *grant.Table, m model) {
	t.Helper()
	for i, s := range m {
		if s.held {
			drops(t, x, m.drop(s.generation*64+i), s.generation*64+i)
		}
		for range 2 {
			handle, ok := m.give(i)
			gives(t, x, i, handle, ok)
			drops(t, x, m.drop(handle), handle)
		}
		handle, ok := m.give(i)
		gives(t, x, i, handle, ok)
	}
}

// P15.4: a handle that was dropped or cleared is valid again when its slot has been given 65536 times, and not before.
func TestLaws(t *testing.T) {
	for _, way := range []func(x *grant.Table, handle int){
		func(x *grant.Table, handle int) { x.Drop(handle) },
		func(x *grant.Table, handle int) { x.Clear() },
	} {
		for _, size := range []struct{ n, i, before int }{{1, 0, 1}, {2, 1, 1}, {2, 0, 2}, {64, 0, 1}, {64, 63, 1}, {64, 20, 9}} {
			x := made(t, size.n)
			for range size.before - 1 {
				handle, _ := x.Give(size.i)
				drops(t, x, api.OK, handle)
			}
			first := size.before*64 + size.i
			gives(t, x, size.i, first, true)
			way(x, first)
			for k := 1; k <= 65535; k++ {
				slot(t, x, first, 0, false)
				drops(t, x, api.ErrHandle, first)
				handle, ok := x.Give(size.i)
				if !ok || handle == first {
					t.Fatalf("Give(%d) = %d, %v, the %dth time after %d", size.i, handle, ok, k, first)
				}
				slot(t, x, first, 0, false)
				drops(t, x, api.ErrHandle, first)
				way(x, handle)
			}
			slot(t, x, first, 0, false)
			gives(t, x, size.i, first, true)
			slot(t, x, first, size.i, true)
			drops(t, x, api.OK, first)
		}
	}
}

// P15.4: giving other slots does not count.
func TestLawsOfOtherSlots(t *testing.T) {
	x := made(t, 3)
	gives(t, x, 1, 65, true)
	drops(t, x, api.OK, 65)
	for k := 1; k <= 65536; k++ {
		handle := k % 65536 * 64
		gives(t, x, 0, handle, true)
		gives(t, x, 2, handle+2, true)
		slot(t, x, 65, 0, false)
		clears(t, x, 2)
	}
	gives(t, x, 1, 129, true)
}

// P15.1 to P15.4: all sequences of five calls on small tables.
func TestSequences(t *testing.T) {
	for n := 1; n <= 2; n++ {
		sequences(t, made(t, n), make(model, n), 5)
	}
}

// sequences makes every call on a copy of x and of the model, and then all sequences that follow.
func sequences(t *testing.T, x *grant.Table, m model, left int) {
	t.Helper()
	expect(t, x, m)
	if left == 0 {
		return
	}
	for i := -1; i <= len(m); i++ {
		c, n := x.Clone(), slices.Clone(m)
		handle, ok := n.give(i)
		gives(t, c, i, handle, ok)
		sequences(t, c, n, left-1)
	}
	for generation := range 3 {
		for i := range 2 {
			c, n := x.Clone(), slices.Clone(m)
			drops(t, c, n.drop(generation*64+i), generation*64+i)
			sequences(t, c, n, left-1)
		}
	}
	c, n := x.Clone(), slices.Clone(m)
	clears(t, c, n.clear())
	sequences(t, c, n, left-1)
}

// drawer returns a function that draws numbers below its argument, always the same ones.
func drawer(seed uint64) func(n int) int {
	return func(n int) int {
		seed = seed*6364136223846793005 + 1442695040888963407
		return int(seed>>33) % n
	}
}

// P15.1 to P15.4: long sequences of calls against the model.
func TestLongSequences(t *testing.T) {
	for _, n := range []int{1, 2, 3, 8, 33, 64} {
		draw := drawer(uint64(n))
		x, m := made(t, n), make(model, n)
		var known []int
		for range 4000 {
			switch k := draw(40); {
			case k < 18:
				i := draw(n+2) - 1
				handle, ok := m.give(i)
				gives(t, x, i, handle, ok)
				known = append(known, handle)
			case k < 38 && len(known) > 0:
				handle := known[len(known)-1-draw(min(len(known), 2*n))]
				drops(t, x, m.drop(handle), handle)
			case k == 38:
				clears(t, x, m.clear())
			default:
				x = x.Clone()
			}
			held(t, x, m.held()...)
		}
		generations(t, x, m)
	}
}

// The sentence on a nil Table.
func TestNil(t *testing.T) {
	var x *grant.Table
	for _, n := range append([]int{0, 1, 2, 63, 64, 65, 66, 128}, far...) {
		gives(t, x, n, 0, false)
		slot(t, x, n, 0, false)
		drops(t, x, api.ErrNone, n)
	}
	if x.Len() != 0 || x.Held() != nil || x.Clear() != 0 || x.Clone() != nil {
		t.Fatal("a nil Table has something")
	}
}

// P1: no call panics, whatever it is given.
func TestNoPanic(t *testing.T) {
	for _, n := range append([]int{0, 1, 2, 64, 65}, far...) {
		x := grant.New(n)
		for _, k := range append([]int{0, 1, 2, 62, 63, 64, 65, 66, 127, 128}, far...) {
			x.Give(k)
			x.Slot(k)
			x.Len()
			x.Held()
			x.Clone().Drop(k)
			x.Drop(k)
		}
		x.Clear()
	}
	for _, x := range []*grant.Table{nil, {}} {
		for _, k := range far {
			x.Give(k)
			x.Slot(k)
			x.Drop(k)
			x.Clone().Clear()
		}
	}
}
