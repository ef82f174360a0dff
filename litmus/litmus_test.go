package litmus_test

import (
	"math"
	"slices"
	"testing"

	"switchyard/api"
	"switchyard/bus"
	"switchyard/litmus"
)

// The addresses of the tests' programs have names, as usual in litmus tests.
const (
	x = iota
	y
	z
)

// wide holds numbers far outside of all limits; some of them equal small numbers modulo a power of 2.
var wide = []int{-2, -4, -9, -10, 11, 16, 255, 256, 257, 258, 260, 65536, 65537, 1 << 31, 1<<31 + 1, 1 << 32, 1<<32 + 1, 1<<32 + 2, 1 - 1<<32, math.MinInt, math.MinInt + 1, math.MinInt + 2, math.MaxInt - 1, math.MaxInt}

func load(addr, reg int) litmus.Op { return litmus.Op{Kind: litmus.Load, Addr: addr, Reg: reg} }

func store(addr, word int) litmus.Op {
	return litmus.Op{Kind: litmus.Store, Addr: addr, Word: word}
}

func fence() litmus.Op { return litmus.Op{Kind: litmus.Fence} }

func swap(addr, word, reg int) litmus.Op {
	return litmus.Op{Kind: litmus.Swap, Addr: addr, Word: word, Reg: reg}
}

// list is the operations of a core.
func list(ops ...litmus.Op) []litmus.Op { return ops }

// cores is the programs of several cores.
func cores(lists ...[]litmus.Op) [][]litmus.Op { return lists }

// fences returns n fences.
func fences(n int) []litmus.Op { return slices.Repeat(list(fence()), n) }

// copied returns programs that share nothing with p.
func copied(p [][]litmus.Op) [][]litmus.Op {
	var c [][]litmus.Op
	for _, ops := range p {
		c = append(c, slices.Clone(ops))
	}
	return c
}

// samePrograms compares programs operation by operation.
func samePrograms(a, b [][]litmus.Op) bool {
	return slices.EqualFunc(a, b, func(a, b []litmus.Op) bool { return slices.Equal(a, b) })
}

// sameOutcomes compares lists of outcomes.
func sameOutcomes(a, b [][]int) bool {
	return slices.EqualFunc(a, b, func(a, b []int) bool { return slices.Equal(a, b) })
}

// contains looks for an outcome without relying on the order of the list.
func contains(all [][]int, one []int) bool {
	return slices.ContainsFunc(all, func(o []int) bool { return slices.Equal(o, one) })
}

// within reports whether all outcomes of few are in many.
func within(few, many [][]int) bool {
	return !slices.ContainsFunc(few, func(o []int) bool { return !contains(many, o) })
}

// outcomes returns the outcomes of valid programs; there is at least one, all have the right length, and they ascend strictly.
func outcomes(t *testing.T, p [][]litmus.Op, buf int) [][]int {
	t.Helper()
	if !litmus.Right(p, buf) {
		t.Fatalf("Right(%v, %d) = false", p, buf)
	}
	all, e := litmus.Outcomes(p, buf)
	if e != api.OK || len(all) == 0 {
		t.Fatalf("Outcomes(%v, %d) = %v, %d", p, buf, all, e)
	}
	for i, o := range all {
		if len(o) != 4*len(p)+4 {
			t.Fatalf("Outcomes(%v, %d) has %v", p, buf, o)
		}
		if i > 0 && slices.Compare(all[i-1], o) >= 0 {
			t.Fatalf("Outcomes(%v, %d) has %v before %v", p, buf, all[i-1], o)
		}
	}
	return all
}

// model is an execution by the text of the chapter. A core's pending stores are the Store operations from done up to next.
type model struct {
	p          [][]litmus.Op
	buf        int
	next, done [3]int
	regs       [12]int
	memory     [4]int
}

// waits returns the pending stores of a core, the oldest first.
func (m model) waits(core int) []litmus.Op {
	var l []litmus.Op
	for _, op := range m.p[core][m.done[core]:m.next[core]] {
		if op.Kind == litmus.Store {
			l = append(l, op)
		}
	}
	return l
}

// drained returns what follows when the oldest store of a core is drained, and whether there is one.
func (m model) drained(core int) (model, bool) {
	for m.done[core] < m.next[core] {
		op := m.p[core][m.done[core]]
		m.done[core]++
		if op.Kind == litmus.Store {
			m.memory[op.Addr] = op.Word
			return m, true
		}
	}
	return m, false
}

// emptied returns what follows when all stores of a core are drained.
func (m model) emptied(core int) model {
	for more := true; more; {
		m, more = m.drained(core)
	}
	return m
}

// executed returns what follows when a core executes its next operation.
func (m model) executed(core int) model {
	op := m.p[core][m.next[core]]
	switch op.Kind {
	case litmus.Load:
		w := m.memory[op.Addr]
		for _, s := range m.waits(core) {
			if s.Addr == op.Addr {
				w = s.Word
			}
		}
		m.regs[4*core+op.Reg] = w
	case litmus.Store:
		if len(m.waits(core)) == m.buf {
			m, _ = m.drained(core)
		}
	case litmus.Fence:
		m = m.emptied(core)
	case litmus.Swap:
		m = m.emptied(core)
		m.regs[4*core+op.Reg] = m.memory[op.Addr]
		m.memory[op.Addr] = op.Word
	}
	m.next[core]++
	if m.buf == 0 {
		m = m.emptied(core)
	}
	return m
}

// record holds outcomes, each once; those of fewer than three cores end with zeros as keys.
type record map[[16]int][]int

// add records an outcome.
func (r record) add(outcome []int) {
	var key [16]int
	copy(key[:], outcome)
	if r[key] == nil {
		r[key] = slices.Clone(outcome)
	}
}

// walk passes through all executions, one by one, and records their outcomes.
func (m model) walk(found record) {
	ended := true
	for core, ops := range m.p {
		if m.next[core] < len(ops) {
			ended = false
			m.executed(core).walk(found)
		}
		if after, ok := m.drained(core); ok {
			ended = false
			after.walk(found)
		}
	}
	if ended {
		found.add(append(m.regs[:4*len(m.p):4*len(m.p)], m.memory[:]...))
	}
}

// expected returns the outcomes of valid programs by the model.
func expected(p [][]litmus.Op, buf int) [][]int {
	found := record{}
	model{p: p, buf: buf}.walk(found)
	return ordered(found)
}

// ordered returns what was found in ascending order.
func ordered(found record) [][]int {
	var all [][]int
	for _, o := range found {
		all = append(all, o)
	}
	slices.SortFunc(all, func(a, b []int) int {
		for i := range a {
			if a[i] != b[i] {
				return a[i] - b[i]
			}
		}
		return 0
	})
	return all
}

// expect compares the outcomes of valid programs with those of the model, for a capacity.
func expect(t *testing.T, p [][]litmus.Op, buf int) {
	t.Helper()
	if all, want := outcomes(t, p, buf), expected(p, buf); !sameOutcomes(all, want) {
		t.Fatalf("Outcomes(%v, %d) = %v, want %v", p, buf, all, want)
	}
}

// known is programs with the outcomes that are known for buf 0 and the further ones that appear from a capacity on, all as short forms: a short form leaves out what is 0 in all outcomes.
type known struct {
	name string
	p    [][]litmus.Op
	show []int   // the positions in an outcome that the short forms have
	base [][]int // with buf 0
	from int     // the smallest capacity with further outcomes; 0 if there are none
	more [][]int
}

// The position of a register, and of a word of the memory of two and of three cores.
func reg(core, r int) int { return 4*core + r }
func mem2(a int) int      { return 8 + a }
func mem3(a int) int      { return 12 + a }

// full returns the outcomes that short forms stand for.
func (k known) full(short [][]int) [][]int {
	var all [][]int
	for _, s := range short {
		o := make([]int, 4*len(k.p)+4)
		for i, at := range k.show {
			o[at] = s[i]
		}
		all = append(all, o)
	}
	return all
}

// classics holds litmus tests whose outcomes are known from elsewhere.
var classics = []known{
	{
		name: "store buffering",
		p:    cores(list(store(x, 1), load(y, 0)), list(store(y, 1), load(x, 0))),
		show: []int{reg(0, 0), reg(1, 0), mem2(x), mem2(y)},
		base: [][]int{{0, 1, 1, 1}, {1, 0, 1, 1}, {1, 1, 1, 1}},
		from: 1, more: [][]int{{0, 0, 1, 1}},
	},
	{
		name: "store buffering with fences",
		p:    cores(list(store(x, 1), fence(), load(y, 0)), list(store(y, 1), fence(), load(x, 0))),
		show: []int{reg(0, 0), reg(1, 0), mem2(x), mem2(y)},
		base: [][]int{{0, 1, 1, 1}, {1, 0, 1, 1}, {1, 1, 1, 1}},
	},
	{
		name: "store buffering with one fence",
		p:    cores(list(store(x, 1), fence(), load(y, 0)), list(store(y, 1), load(x, 0))),
		show: []int{reg(0, 0), reg(1, 0), mem2(x), mem2(y)},
		base: [][]int{{0, 1, 1, 1}, {1, 0, 1, 1}, {1, 1, 1, 1}},
		from: 1, more: [][]int{{0, 0, 1, 1}},
	},
	{
		name: "store buffering with a swap elsewhere in between",
		p:    cores(list(store(x, 1), swap(z, 5, 3), load(y, 0)), list(store(y, 1), swap(z, 5, 3), load(x, 0))),
		show: []int{reg(0, 0), reg(0, 3), reg(1, 0), reg(1, 3), mem2(x), mem2(y), mem2(z)},
		base: [][]int{{0, 0, 1, 5, 1, 1, 5}, {1, 0, 1, 5, 1, 1, 5}, {1, 5, 0, 0, 1, 1, 5}, {1, 5, 1, 0, 1, 1, 5}},
	},
	{
		name: "store buffering by swaps",
		p:    cores(list(swap(x, 1, 1), load(y, 0)), list(swap(y, 1, 1), load(x, 0))),
		show: []int{reg(0, 0), reg(1, 0), mem2(x), mem2(y)},
		base: [][]int{{0, 1, 1, 1}, {1, 0, 1, 1}, {1, 1, 1, 1}},
	},
	{
		name: "message passing",
		p:    cores(list(store(x, 1), store(y, 1)), list(load(y, 0), load(x, 1))),
		show: []int{reg(1, 0), reg(1, 1), mem2(x), mem2(y)},
		base: [][]int{{0, 0, 1, 1}, {0, 1, 1, 1}, {1, 1, 1, 1}},
	},
	{
		name: "load buffering",
		p:    cores(list(load(x, 0), store(y, 1)), list(load(y, 0), store(x, 1))),
		show: []int{reg(0, 0), reg(1, 0), mem2(x), mem2(y)},
		base: [][]int{{0, 0, 1, 1}, {0, 1, 1, 1}, {1, 0, 1, 1}},
	},
	{
		name: "two stores against two stores",
		p:    cores(list(store(x, 1), store(y, 2)), list(store(y, 1), store(x, 2))),
		show: []int{mem2(x), mem2(y)},
		base: [][]int{{1, 2}, {2, 1}, {2, 2}},
	},
	{
		name: "a store against a store, then a load (R)",
		p:    cores(list(store(x, 1), store(y, 1)), list(store(y, 2), load(x, 0))),
		show: []int{reg(1, 0), mem2(x), mem2(y)},
		base: [][]int{{0, 1, 1}, {1, 1, 1}, {1, 1, 2}},
		from: 1, more: [][]int{{0, 1, 2}},
	},
	{
		name: "a load, then a store against a store (S)",
		p:    cores(list(store(x, 2), store(y, 1)), list(load(y, 0), store(x, 1))),
		show: []int{reg(1, 0), mem2(x), mem2(y)},
		base: [][]int{{0, 1, 1}, {0, 2, 1}, {1, 1, 1}},
	},
	{
		name: "own stores are seen early (n6)",
		p:    cores(list(store(x, 1), load(x, 0), load(y, 1)), list(store(y, 2), store(x, 2))),
		show: []int{reg(0, 0), reg(0, 1), mem2(x), mem2(y)},
		base: [][]int{{1, 0, 2, 2}, {1, 2, 1, 2}, {1, 2, 2, 2}, {2, 2, 2, 2}},
		from: 1, more: [][]int{{1, 0, 1, 2}},
	},
	{
		name: "own stores are seen early by both",
		p:    cores(list(store(x, 1), load(x, 0), load(y, 1)), list(store(y, 1), load(y, 0), load(x, 1))),
		show: []int{reg(0, 0), reg(0, 1), reg(1, 0), reg(1, 1), mem2(x), mem2(y)},
		base: [][]int{{1, 0, 1, 1, 1, 1}, {1, 1, 1, 0, 1, 1}, {1, 1, 1, 1, 1, 1}},
		from: 1, more: [][]int{{1, 0, 1, 0, 1, 1}},
	},
	{
		name: "a store that is passed on",
		p:    cores(list(store(x, 1)), list(load(x, 0), store(y, 1)), list(load(y, 0), load(x, 1))),
		show: []int{reg(1, 0), reg(2, 0), reg(2, 1), mem3(x), mem3(y)},
		base: [][]int{{0, 0, 0, 1, 1}, {0, 0, 1, 1, 1}, {0, 1, 0, 1, 1}, {0, 1, 1, 1, 1}, {1, 0, 0, 1, 1}, {1, 0, 1, 1, 1}, {1, 1, 1, 1, 1}},
	},
	{
		name: "two loads of one word",
		p:    cores(list(store(x, 1)), list(load(x, 0), load(x, 1))),
		show: []int{reg(1, 0), reg(1, 1), mem2(x)},
		base: [][]int{{0, 0, 1}, {0, 1, 1}, {1, 1, 1}},
	},
	{
		name: "store buffering of three cores",
		p:    cores(list(store(x, 1), load(y, 0)), list(store(y, 1), load(z, 0)), list(store(z, 1), load(x, 0))),
		show: []int{reg(0, 0), reg(1, 0), reg(2, 0), mem3(x), mem3(y), mem3(z)},
		base: [][]int{{0, 0, 1, 1, 1, 1}, {0, 1, 0, 1, 1, 1}, {0, 1, 1, 1, 1, 1}, {1, 0, 0, 1, 1, 1}, {1, 0, 1, 1, 1, 1}, {1, 1, 0, 1, 1, 1}, {1, 1, 1, 1, 1, 1}},
		from: 1, more: [][]int{{0, 0, 0, 1, 1, 1}},
	},
	{
		name: "the first store leaves a buffer of 1",
		p:    cores(list(store(x, 1), store(z, 1), load(y, 0)), list(store(y, 1), store(z, 1), load(x, 0))),
		show: []int{reg(0, 0), reg(1, 0), mem2(x), mem2(y), mem2(z)},
		base: [][]int{{0, 1, 1, 1, 1}, {1, 0, 1, 1, 1}, {1, 1, 1, 1, 1}},
		from: 2, more: [][]int{{0, 0, 1, 1, 1}},
	},
	{
		name: "the first store leaves a buffer of 2",
		p:    cores(list(store(x, 1), store(z, 1), store(z, 1), load(y, 0)), list(swap(y, 1, 1), load(x, 0))),
		show: []int{reg(0, 0), reg(1, 0), mem2(x), mem2(y), mem2(z)},
		base: [][]int{{0, 1, 1, 1, 1}, {1, 0, 1, 1, 1}, {1, 1, 1, 1, 1}},
		from: 3, more: [][]int{{0, 0, 1, 1, 1}},
	},
	{
		name: "swaps of one word by three cores",
		p:    cores(list(swap(x, 1, 0)), list(swap(x, 2, 1)), list(swap(x, 3, 2))),
		show: []int{reg(0, 0), reg(1, 1), reg(2, 2), mem3(x)},
		base: [][]int{{0, 1, 2, 3}, {0, 3, 1, 2}, {2, 0, 1, 3}, {3, 0, 2, 1}, {2, 3, 0, 1}, {3, 1, 0, 2}},
	},
}

// The example of the chapter.
func TestExample(t *testing.T) {
	p := cores(list(store(x, 1), load(y, 0)), list(store(y, 1), load(x, 0)))
	both := []int{0, 0, 0, 0, 0, 0, 0, 0, 1, 1, 0, 0}
	if !litmus.Can(p, 1, both) || litmus.Can(p, 0, both) {
		t.Error("both load 0:", litmus.Can(p, 1, both), litmus.Can(p, 0, both))
	}
}

// P7.1, P7.2: litmus tests that are known, with every capacity.
func TestClassics(t *testing.T) {
	for _, k := range classics {
		for buf := 0; buf <= 4; buf++ {
			want := k.full(k.base)
			if k.from > 0 && buf >= k.from {
				want = append(want, k.full(k.more)...)
			}
			slices.SortFunc(want, slices.Compare[[]int])
			if all := outcomes(t, k.p, buf); !sameOutcomes(all, want) {
				t.Errorf("%s with %d: %v, want %v", k.name, buf, all, want)
			}
			weak := k.from > 0 && buf >= k.from
			if litmus.Weak(k.p, buf) != weak {
				t.Errorf("%s with %d: Weak = %v", k.name, buf, !weak)
			}
			for _, o := range k.full(k.base) {
				if !litmus.Can(k.p, buf, o) {
					t.Errorf("%s with %d: Can(%v) = false", k.name, buf, o)
				}
			}
			for _, o := range k.full(k.more) {
				if litmus.Can(k.p, buf, o) != weak {
					t.Errorf("%s with %d: Can(%v) = %v", k.name, buf, o, !weak)
				}
			}
		}
	}
}

// P7.1: one operation of each kind, with every address, register and word, alone and beside cores that do nothing.
func TestEachOperation(t *testing.T) {
	for n := 1; n <= 3; n++ {
		for core := range n {
			for kind := litmus.Load; kind <= litmus.Swap; kind++ {
				for code := range 4 * 4 * 10 {
					op := litmus.Op{Kind: kind, Addr: code % 4, Reg: code / 4 % 4, Word: code / 16}
					p := make([][]litmus.Op, n)
					p[core] = list(op)
					want := make([]int, 4*n+4)
					if kind == litmus.Store || kind == litmus.Swap {
						want[4*n+op.Addr] = op.Word
					}
					for buf := 0; buf <= 4; buf++ {
						if all := outcomes(t, p, buf); !sameOutcomes(all, [][]int{want}) {
							t.Fatalf("Outcomes(%v, %d) = %v, want %v", p, buf, all, want)
						}
					}
				}
			}
		}
	}
}

// P7.1: a load and a swap read the word of their address into their register, whatever else they have; another core has the same registers of its own.
func TestReadsOfEachAddress(t *testing.T) {
	for code := range 4 * 4 * 4 {
		from, to, r := code%4, code/4%4, code/16
		for buf := 0; buf <= 4; buf++ {
			for _, read := range []litmus.Op{{Kind: litmus.Load, Addr: to, Reg: r, Word: 5}, {Kind: litmus.Swap, Addr: to, Reg: r, Word: 5}} {
				want := make([]int, 12)
				want[8+from] = 9
				if from == to {
					want[4+r] = 9
				}
				if read.Kind == litmus.Swap {
					want[8+to] = 5
				}
				p := cores(nil, list(store(from, 9), read))
				if all := outcomes(t, p, buf); !sameOutcomes(all, [][]int{want}) {
					t.Fatalf("Outcomes(%v, %d) = %v, want %v", p, buf, all, want)
				}
			}
		}
	}
}

// P7.1: what an operation does not use has no effect.
func TestUnusedFields(t *testing.T) {
	p := cores(list(store(x, 1), fence(), load(y, 1)), list(store(y, 2), load(x, 3)))
	for code := range 4 * 4 * 10 {
		a, r, w := code%4, code/4%4, code/16
		q := copied(p)
		q[0][0].Reg, q[1][0].Reg = r, a
		q[0][1].Addr, q[0][1].Word, q[0][1].Reg = a, w, r
		q[0][2].Word, q[1][1].Word = w, 9-w
		for buf := 0; buf <= 4; buf++ {
			if all, want := outcomes(t, q, buf), outcomes(t, p, buf); !sameOutcomes(all, want) {
				t.Fatalf("Outcomes(%v, %d) = %v, want %v", q, buf, all, want)
			}
		}
	}
}

// P7.1: programs without operations have one outcome; nil lists are empty lists.
func TestNoOperations(t *testing.T) {
	for n := 1; n <= 3; n++ {
		empty := make([][]litmus.Op, n)
		for i := range empty {
			empty[i] = []litmus.Op{}
		}
		for buf := 0; buf <= 4; buf++ {
			for _, p := range [][][]litmus.Op{make([][]litmus.Op, n), empty} {
				zero := make([]int, 4*n+4)
				if all := outcomes(t, p, buf); !sameOutcomes(all, [][]int{zero}) {
					t.Errorf("Outcomes(%v, %d) = %v", p, buf, all)
				}
				if !litmus.Can(p, buf, zero) || litmus.Can(p, buf, nil) || litmus.Can(p, buf, []int{}) || litmus.Weak(p, buf) {
					t.Error("Can or Weak of no operations", n, buf)
				}
			}
		}
	}
	a := cores(nil, list(store(x, 1), load(y, 0)), list(store(y, 1), load(x, 0)))
	b := cores([]litmus.Op{}, a[1], a[2])
	for buf := 0; buf <= 4; buf++ {
		if !sameOutcomes(outcomes(t, a, buf), outcomes(t, b, buf)) || litmus.Weak(a, buf) != litmus.Weak(b, buf) {
			t.Error("a nil list is no empty list", buf)
		}
	}
}

// invalid checks what is reported of programs that are not valid.
func invalid(t *testing.T, p [][]litmus.Op, buf int, wants ...[]int) {
	t.Helper()
	if litmus.Right(p, buf) {
		t.Errorf("Right(%v, %d) = true", p, buf)
	}
	if all, e := litmus.Outcomes(p, buf); len(all) != 0 || e != api.ErrArg {
		t.Errorf("Outcomes(%v, %d) = %v, %d", p, buf, all, e)
	}
	wants = append(wants, nil, []int{}, []int{0})
	for n := range 5 {
		wants = append(wants, make([]int, 4*n+4))
	}
	for _, want := range wants {
		if litmus.Can(p, buf, want) {
			t.Errorf("Can(%v, %d, %v) = true", p, buf, want)
		}
	}
	if litmus.Weak(p, buf) {
		t.Errorf("Weak(%v, %d) = true", p, buf)
	}
}

// P7.1, P7.2: 1 to 3 cores.
func TestNumbersOfCores(t *testing.T) {
	for buf := 0; buf <= 4; buf++ {
		for n := 1; n <= 3; n++ {
			outcomes(t, make([][]litmus.Op, n), buf)
			p := make([][]litmus.Op, n)
			p[n-1] = list(store(3, 9), load(3, 3))
			expect(t, p, buf)
		}
		invalid(t, nil, buf)
		invalid(t, [][]litmus.Op{}, buf)
		for _, n := range []int{4, 5, 8, 256, 257, 65537, 1 << 20} {
			invalid(t, make([][]litmus.Op, n), buf)
		}
		invalid(t, cores(list(store(x, 1), load(y, 0)), list(store(y, 1), load(x, 0)), nil, nil), buf)
		invalid(t, cores(nil, nil, nil, list(store(x, 1))), buf)
	}
}

// P7.1, P7.2: at most 4 operations of each core and at most 6 in all: all lengths up to 8.
func TestNumbersOfOperations(t *testing.T) {
	for code := range 9 * 9 * 9 {
		lens := []int{code % 9, code / 9 % 9, code / 81}
		for n := 1; n <= 3; n++ {
			p := make([][]litmus.Op, n)
			all, long := 0, 0
			for i := range p {
				p[i] = fences(lens[i])
				all, long = all+lens[i], max(long, lens[i])
			}
			if all <= 6 && long <= 4 {
				outcomes(t, p, 0)
				outcomes(t, p, 4)
			} else {
				invalid(t, p, 0)
				invalid(t, p, 4)
			}
		}
	}
	for _, n := range []int{255, 256, 258, 65536, 65540, 1 << 20} {
		invalid(t, cores(fences(n)), 1)
		invalid(t, cores(nil, nil, fences(n)), 1)
		invalid(t, cores(fences(n), fences(n), fences(n)), 1)
	}
}

// P7.1: the greatest programs, with each capacity.
func TestGreatestPrograms(t *testing.T) {
	four := list(store(x, 1), store(y, 2), load(z, 0), store(x, 3))
	for buf := 0; buf <= 4; buf++ {
		expect(t, cores(four), buf)
		expect(t, cores(four, list(swap(x, 9, 3), store(z, 4))), buf)
		expect(t, cores(list(load(3, 3)), four, list(load(x, 1))), buf)
		expect(t, cores(nil, list(store(3, 9), store(3, 8)), four), buf)
		expect(t, cores(four[:2], list(store(y, 4), store(x, 5)), list(store(z, 6), store(x, 7))), buf)
		expect(t, cores(four[:3], list(load(y, 0), load(x, 1), store(z, 5))), buf)
	}
}

// places returns the positions of all operations of p.
func places(p [][]litmus.Op) [][2]int {
	var l [][2]int
	for i, ops := range p {
		for j := range ops {
			l = append(l, [2]int{i, j})
		}
	}
	return l
}

// P7.1, P7.2: each Kind; Addr, Reg and Word at and beyond their limits, in each operation, also where an operation does not use them.
func TestLimitsOfOperations(t *testing.T) {
	p := cores(list(store(x, 1), load(y, 0)), list(store(y, 1), load(x, 0)), list(swap(z, 3, 1), fence()))
	all := outcomes(t, p, 1)
	fields := []struct {
		low, high int
		set       func(op *litmus.Op, n int)
	}{
		{1, 4, func(op *litmus.Op, n int) { op.Kind = n }},
		{0, 3, func(op *litmus.Op, n int) { op.Addr = n }},
		{0, 3, func(op *litmus.Op, n int) { op.Reg = n }},
		{0, 9, func(op *litmus.Op, n int) { op.Word = n }},
	}
	for _, at := range places(p) {
		for i, field := range fields {
			for n := field.low; n <= field.high; n++ {
				q := copied(p)
				field.set(&q[at[0]][at[1]], n)
				outcomes(t, q, 1)
			}
			for _, n := range append([]int{field.low - 1, field.high + 1, field.high + 2}, wide...) {
				if n >= field.low && n <= field.high {
					t.Fatal("a number of the test is within the limits", i, n)
				}
				q := copied(p)
				field.set(&q[at[0]][at[1]], n)
				invalid(t, q, 0, all...)
				invalid(t, q, 1, all...)
			}
		}
		q := copied(p)
		q[at[0]][at[1]] = litmus.Op{}
		invalid(t, q, 1, all...)
	}
}

// P7.1: each kind has the number that the chapter gives it.
func TestKinds(t *testing.T) {
	if litmus.Load != 1 || litmus.Store != 2 || litmus.Fence != 3 || litmus.Swap != 4 {
		t.Error(litmus.Load, litmus.Store, litmus.Fence, litmus.Swap)
	}
}

// P7.1, P7.2: capacities at and beyond their limits, for all sorts of programs.
func TestLimitsOfBuf(t *testing.T) {
	for _, k := range classics {
		for buf := 0; buf <= 4; buf++ {
			outcomes(t, k.p, buf)
		}
		all := slices.Concat(k.full(k.base), k.full(k.more))
		for _, buf := range append([]int{-1, 5, 6, 10}, slices.DeleteFunc(slices.Clone(wide), func(n int) bool { return n >= 0 && n <= 4 })...) {
			invalid(t, k.p, buf, all...)
		}
	}
	for _, buf := range append([]int{-1, 5}, wide...) {
		invalid(t, nil, buf)
		invalid(t, cores(nil), buf, make([]int, 8))
	}
}

// P7.1: a core sees its own most recent pending store, another one sees the stores one after the other.
func TestSeveralAtOneAddress(t *testing.T) {
	p := cores(list(store(x, 3), store(x, 1), load(x, 0), store(x, 2)), list(load(x, 0), load(x, 1)))
	for buf := 0; buf <= 4; buf++ {
		order := []int{0, 3, 1, 2}
		var want [][]int
		for i, first := range order {
			for _, second := range order[i:] {
				want = append(want, []int{1, 0, 0, 0, first, second, 0, 0, 2, 0, 0, 0})
			}
		}
		slices.SortFunc(want, slices.Compare[[]int])
		if all := outcomes(t, p, buf); !sameOutcomes(all, want) {
			t.Errorf("with %d: %v, want %v", buf, all, want)
		}
	}
	own := cores(list(store(x, 1), store(y, 2), store(x, 0), load(x, 0)))
	for buf := 0; buf <= 4; buf++ {
		if all := outcomes(t, own, buf); !sameOutcomes(all, [][]int{{0, 0, 0, 0, 0, 2, 0, 0}}) {
			t.Errorf("with %d: %v", buf, all)
		}
	}
}

// P7.1: a pending store hides what others have written, until it is drained over it.
func TestPendingStoreHidesMemory(t *testing.T) {
	p := cores(list(store(x, 1), load(x, 0)), list(swap(x, 2, 0)))
	for buf := 0; buf <= 4; buf++ {
		want := [][]int{
			{1, 0, 0, 0, 0, 0, 0, 0, 1, 0, 0, 0}, // the swap comes first, or the store is drained over it
			{1, 0, 0, 0, 1, 0, 0, 0, 2, 0, 0, 0},
			{2, 0, 0, 0, 1, 0, 0, 0, 2, 0, 0, 0}, // the store is drained, the swap comes, the load comes
		}
		if all := outcomes(t, p, buf); !sameOutcomes(all, want) {
			t.Errorf("with %d: %v", buf, all)
		}
	}
}

// P7.1: a store into a full buffer drains the oldest store only: what another core may still miss depends on the capacity.
func TestFullBuffers(t *testing.T) {
	// The load shows that all stores were executed before the other core's first swap, so that at most buf of them are pending then.
	for stores := 1; stores <= 3; stores++ {
		var own []litmus.Op
		for a := range stores {
			own = append(own, store(a, a+1))
		}
		own = append(own, load(3, 0))
		for a := range stores {
			p := cores(own, list(swap(3, 9, 0), load(a, 1)))
			for buf := 0; buf <= 4; buf++ {
				missed := make([]int, 12)
				missed[11] = 9
				for i := range stores {
					missed[8+i] = i + 1
				}
				want := stores-a <= buf
				if litmus.Can(p, buf, missed) != want || litmus.Weak(p, buf) != want {
					t.Errorf("store %d of %d is missed with %d: %v, %v", a, stores, buf, litmus.Can(p, buf, missed), litmus.Weak(p, buf))
				}
				seen := slices.Clone(missed)
				seen[5] = a + 1
				if !litmus.Can(p, buf, seen) {
					t.Errorf("store %d of %d is never seen with %d", a, stores, buf)
				}
				expect(t, p, buf)
			}
		}
	}
}

// P7.1: a fence and a swap drain all pending stores, in order, before anything else; those of other cores stay pending.
func TestDrainsOfPendingStores(t *testing.T) {
	barriers := []litmus.Op{fence(), swap(3, 5, 3), load(3, 3)}
	for i, barrier := range barriers {
		for buf := 0; buf <= 4; buf++ {
			p := cores(list(store(x, 1), store(x, 2), barrier, load(y, 0)), list(swap(y, 7, 0), load(x, 1)))
			for _, old := range []int{0, 1} {
				// After the fence or the swap the other core can no longer load what was before.
				late := []int{0, 0, 0, 0, 0, old, 0, 0, 2, 7, 0, 0}
				if i == 1 {
					late[11] = 5
				}
				want := i == 2 && (buf >= 2 || buf == 1 && old == 1)
				if litmus.Can(p, buf, late) != want {
					t.Errorf("barrier %d, capacity %d: %d is loaded late: %v", i, buf, old, !want)
				}
			}
			expect(t, p, buf)
		}
	}
	for buf := 0; buf <= 4; buf++ {
		own := cores(list(store(x, 1), store(x, 2), swap(x, 3, 1), load(x, 2)))
		if all := outcomes(t, own, buf); !sameOutcomes(all, [][]int{{0, 2, 3, 0, 3, 0, 0, 0}}) {
			t.Errorf("with %d: %v", buf, all)
		}
		others := cores(list(store(x, 1), load(y, 0)), list(fence(), swap(y, 2, 0), fence(), load(x, 1)))
		missed := []int{0, 0, 0, 0, 0, 0, 0, 0, 1, 2, 0, 0}
		if litmus.Can(others, buf, missed) != (buf > 0) {
			t.Errorf("fences of another core drain the store with %d", buf)
		}
		expect(t, others, buf)
	}
}

// P7.1: registers keep the word of their last load or swap.
func TestRegistersAreOverwritten(t *testing.T) {
	p := cores(list(store(x, 4), load(x, 2), load(y, 2)), list(swap(z, 6, 1), swap(z, 7, 1), swap(z, 8, 1)))
	for buf := 0; buf <= 4; buf++ {
		if all := outcomes(t, p, buf); !sameOutcomes(all, [][]int{{0, 0, 0, 0, 0, 7, 0, 0, 4, 0, 8, 0}}) {
			t.Errorf("with %d: %v", buf, all)
		}
	}
}

// lists returns all lists of up to most of the operations.
func lists(ops []litmus.Op, most int) [][]litmus.Op {
	all := [][]litmus.Op{nil}
	for from := 0; most > 0; most-- {
		to := len(all)
		for _, l := range all[from:to] {
			for _, op := range ops {
				all = append(all, append(slices.Clone(l), op))
			}
		}
		from = to
	}
	return all
}

// P7.1, P7.2, P7.3: all programs of two cores with up to two operations of each kind, against the model.
func TestAllSmallPrograms(t *testing.T) {
	all := lists(list(load(x, 0), load(y, 1), store(x, 1), store(y, 2), fence(), swap(x, 3, 0)), 2)
	for _, first := range all {
		for _, second := range all {
			laws(t, cores(first, second), 3)
		}
	}
}

// laws compares programs with the model for capacities up to most, and checks that a greater capacity preserves the outcomes and what Weak reports.
func laws(t *testing.T, p [][]litmus.Op, most int) {
	t.Helper()
	var before, base [][]int
	for buf := 0; buf <= most; buf++ {
		expect(t, p, buf)
		all := outcomes(t, p, buf)
		if buf == 0 {
			base = all
		}
		if !within(before, all) {
			t.Fatalf("%v loses outcomes with %d: %v, %v", p, buf, before, all)
		}
		if weak := !within(all, base); litmus.Weak(p, buf) != weak {
			t.Fatalf("Weak(%v, %d) = %v", p, buf, !weak)
		}
		before = all
	}
}

// drawer returns a function that draws a number below n, the same ones for the same seed.
func drawer(seed uint32) func(n int) int {
	return func(n int) int {
		seed = seed*1664525 + 1013904223
		return int(seed>>8) % n
	}
}

// drawn returns programs with the given numbers of operations, mostly stores and loads at few addresses.
func drawn(draw func(n int) int, lens ...int) [][]litmus.Op {
	kinds := []int{litmus.Load, litmus.Load, litmus.Load, litmus.Store, litmus.Store, litmus.Store, litmus.Store, litmus.Fence, litmus.Swap}
	p := make([][]litmus.Op, len(lens))
	addrs := 2 + draw(3)
	for i, n := range lens {
		for range n {
			p[i] = append(p[i], litmus.Op{Kind: kinds[draw(len(kinds))], Addr: draw(addrs), Word: draw(10), Reg: draw(4)})
		}
	}
	return p
}

// P7.1, P7.2, P7.3: drawn programs of all shapes with 5 and 6 operations, against the model.
func TestDrawnPrograms(t *testing.T) {
	shapes := [][]int{{4, 2}, {2, 4}, {3, 3}, {4, 1, 1}, {1, 4, 1}, {3, 2, 1}, {1, 2, 3}, {2, 2, 2}, {0, 3, 3}, {4}, {2, 0, 4}, {3, 2}, {2, 1, 2}}
	draw := drawer(7)
	for range 25 {
		for _, lens := range shapes {
			laws(t, drawn(draw, lens...), 4)
		}
	}
}

// fenced returns the programs with a Fence after each operation.
func fenced(p [][]litmus.Op) [][]litmus.Op {
	q := make([][]litmus.Op, len(p))
	for i, ops := range p {
		for _, op := range ops {
			q[i] = append(q[i], op, fence())
		}
	}
	return q
}

// P7.3: with a Fence after each operation the outcomes are those for buf 0, of the same programs and of those without fences.
func TestFencesAfterEachOperation(t *testing.T) {
	all := lists(list(load(x, 0), load(y, 1), store(x, 1), store(y, 2), swap(y, 3, 2)), 2)
	check := func(p [][]litmus.Op) {
		t.Helper()
		want := outcomes(t, p, 0)
		for buf := 0; buf <= 4; buf++ {
			if got := outcomes(t, fenced(p), buf); !sameOutcomes(got, want) {
				t.Fatalf("Outcomes(%v, %d) = %v, want %v", fenced(p), buf, got, want)
			}
			if litmus.Weak(fenced(p), buf) {
				t.Fatalf("Weak(%v, %d) = true", fenced(p), buf)
			}
		}
	}
	for _, first := range all {
		for _, second := range all {
			if len(first)+len(second) <= 3 {
				check(cores(first, second))
				check(cores(second, nil, first))
			}
		}
	}
	for code := range 5 * 5 * 5 {
		one := all[1:6]
		check(cores(one[code%5], one[code/5%5], one[code/25]))
	}
}

// P7.3: whoever has seen a store sees no older state of another address: all sequences of four stores, and all pairs of loads.
func TestStoresAreSeenInOrder(t *testing.T) {
	for code := range 4 * 4 * 4 * 4 {
		addrs := []int{code % 4, code / 4 % 4, code / 16 % 4, code / 64}
		var own []litmus.Op
		for i, a := range addrs {
			own = append(own, store(a, i+1))
		}
		for pair := range 16 {
			a, b := pair%4, pair/4
			for _, buf := range []int{0, 1, 2, 4} {
				for _, o := range outcomes(t, cores(own, list(load(a, 0), load(b, 1))), buf) {
					least := 0
					for i := range o[4] {
						if addrs[i] == b {
							least = i + 1
						}
					}
					if o[5] < least {
						t.Fatalf("stores at %v: %d is seen at %d, and then %d at %d", addrs, o[4], a, o[5], b)
					}
				}
			}
		}
	}
}

// P7.2: Can accepts each outcome and nothing else of similar kind.
func TestCan(t *testing.T) {
	for _, k := range classics {
		for buf := 0; buf <= 4; buf++ {
			all := outcomes(t, k.p, buf)
			for _, o := range all {
				if !litmus.Can(k.p, buf, o) {
					t.Fatalf("Can(%v, %d, %v) = false", k.p, buf, o)
				}
				for i := range o {
					for _, step := range []int{1, -1, 256, 1 << 32, math.MinInt} {
						other := slices.Clone(o)
						other[i] += step
						if litmus.Can(k.p, buf, other) != contains(all, other) {
							t.Fatalf("Can(%v, %d, %v) = %v", k.p, buf, other, !contains(all, other))
						}
					}
				}
			}
		}
	}
}

// P7.2: a list of another length is no outcome.
func TestCanOfOtherLengths(t *testing.T) {
	for _, k := range classics {
		for buf := 0; buf <= 4; buf++ {
			all := outcomes(t, k.p, buf)
			for _, o := range all {
				for n := range o {
					if litmus.Can(k.p, buf, o[:n]) || n > 0 && litmus.Can(k.p, buf, o[n:]) {
						t.Fatalf("a part of %v is an outcome", o)
					}
				}
				for _, more := range [][]int{{0}, {1}, {-1}, {0, 0, 0, 0}, o} {
					if litmus.Can(k.p, buf, slices.Concat(o, more)) || litmus.Can(k.p, buf, slices.Concat(more, o)) {
						t.Fatalf("more than %v is an outcome", o)
					}
				}
			}
			if litmus.Can(k.p, buf, nil) || litmus.Can(k.p, buf, []int{}) {
				t.Fatal("no words are an outcome")
			}
			if litmus.Can(k.p, buf, slices.Concat(all...)) && len(all) > 1 {
				t.Fatal("all outcomes are an outcome")
			}
			if litmus.Can(k.p, buf, make([]int, 1<<16)) {
				t.Fatal("a long list is an outcome")
			}
		}
	}
}

// P7.2: all lists of small words, for a program whose outcomes differ in few places.
func TestCanOfAllLists(t *testing.T) {
	p := cores(list(store(x, 1), store(x, 2), load(y, 0)), list(swap(y, 1, 0), load(x, 1)))
	for buf := 0; buf <= 4; buf++ {
		want, n := expected(p, buf), 0
		for code := range 3 * 3 * 3 * 3 * 3 {
			o := []int{code % 3, 0, 0, 0, code / 3 % 3, code / 9 % 3, 0, 0, code / 27 % 3, code / 81, 0, 0}
			if litmus.Can(p, buf, o) != contains(want, o) {
				t.Fatalf("Can(.., %d, %v) = %v", buf, o, !contains(want, o))
			}
			if litmus.Can(p, buf, o) {
				n++
			}
		}
		if n != len(want) {
			t.Fatalf("%d of %d outcomes", n, len(want))
		}
	}
}

// roomy returns programs whose lists go on beyond their lengths, with operations that are not valid.
func roomy(p [][]litmus.Op) [][]litmus.Op {
	q := make([][]litmus.Op, 0, len(p)+3)
	for _, ops := range p {
		q = append(q, append(slices.Clone(ops), litmus.Op{Kind: 9}, litmus.Op{Kind: -9, Addr: 99, Word: -1, Reg: 7})[:len(ops)])
	}
	return append(q, list(store(9, 9)), nil, list(fence()))[:len(p)]
}

// The arguments are neither changed nor read beyond their lengths.
func TestArgumentsAreNotChanged(t *testing.T) {
	for _, k := range classics {
		for buf := 0; buf <= 4; buf++ {
			p, want := roomy(k.p), append(k.full(k.base)[0], 77)
			short := want[:len(want)-1]
			all, _ := litmus.Outcomes(p, buf)
			if !sameOutcomes(all, outcomes(t, k.p, buf)) || !litmus.Right(p, buf) || !litmus.Can(p, buf, short) || litmus.Weak(p, buf) != litmus.Weak(k.p, buf) {
				t.Fatalf("%s: what is beyond the lists has an effect", k.name)
			}
			if !slices.Equal(want, append(k.full(k.base)[0], 77)) {
				t.Fatalf("%s: want was changed", k.name)
			}
			before := roomy(k.p)
			if !samePrograms(p[:cap(p)][:len(p)+3], before[:len(p)+3]) {
				t.Fatalf("%s: the programs were changed", k.name)
			}
			for i := range p {
				if n := len(p[i]) + 2; !slices.Equal(p[i][:n], before[i][:n]) {
					t.Fatalf("%s: a program was changed", k.name)
				}
			}
		}
	}
	bad := cores(list(store(x, 1)), list(load(x, 0), litmus.Op{Kind: 7}))
	before := copied(bad)
	invalid(t, bad, 1)
	if !samePrograms(bad, before) {
		t.Error("rejected programs were changed")
	}
}

// Results that the caller changes have no effect on later calls or on each other.
func TestResultsAreNew(t *testing.T) {
	for _, k := range classics {
		for buf := 0; buf <= 4; buf++ {
			first, second := outcomes(t, k.p, buf), outcomes(t, k.p, buf)
			kept := make([][]int, len(first))
			for i, o := range first {
				kept[i] = slices.Clone(o)
			}
			for i, o := range first {
				if !slices.Equal(o, kept[i]) {
					t.Fatalf("%s: two outcomes share memory", k.name)
				}
				for j := range o[:cap(o)] {
					o[:cap(o)][j] = -5
				}
			}
			clear(first[:cap(first)])
			if !sameOutcomes(second, kept) || !sameOutcomes(outcomes(t, k.p, buf), kept) {
				t.Fatalf("%s: a change of a result has an effect", k.name)
			}
			for _, o := range kept {
				if !litmus.Can(k.p, buf, o) {
					t.Fatalf("%s: a change of a result has an effect on Can", k.name)
				}
			}
			if litmus.Weak(k.p, buf) != (k.from > 0 && buf >= k.from) {
				t.Fatalf("%s: a change of a result has an effect on Weak", k.name)
			}
		}
	}
}

// Programs are not kept: what the caller changes afterwards counts in the next call, and not in earlier results.
func TestProgramsAreNotKept(t *testing.T) {
	p := cores(list(store(x, 1), load(y, 0)), list(store(y, 1), load(x, 0)))
	before := outcomes(t, p, 1)
	kept := expected(p, 1)
	p[0][0] = store(z, 8)
	expect(t, p, 1)
	if !sameOutcomes(before, kept) {
		t.Error("a result follows the programs")
	}
	p[0] = nil
	expect(t, p, 1)
	p[1][0].Kind = 5
	invalid(t, p, 1, kept...)
	p[1][0].Kind = litmus.Store
	expect(t, p, 1)
}

// Cores may have one and the same list.
func TestSharedList(t *testing.T) {
	ops := list(swap(x, 1, 0), store(x, 0))
	for buf := 0; buf <= 4; buf++ {
		shared, apart := cores(ops, ops, ops), cores(slices.Clone(ops), slices.Clone(ops), slices.Clone(ops))
		if !sameOutcomes(outcomes(t, shared, buf), outcomes(t, apart, buf)) || litmus.Weak(shared, buf) != litmus.Weak(apart, buf) {
			t.Error("a shared list has an effect", buf)
		}
		expect(t, shared, buf)
	}
}

// The same call returns the same, in whatever order calls are made.
func TestCallsAreRepeatable(t *testing.T) {
	for round := range 5 {
		for i := range classics {
			k := classics[(i*5+round)%len(classics)]
			for buf := 4; buf >= 0; buf-- {
				if !sameOutcomes(outcomes(t, k.p, buf), outcomes(t, k.p, buf)) {
					t.Fatal(k.name)
				}
			}
			outcomes(t, k.p, 2)
			invalid(t, k.p, 5)
			if litmus.Weak(k.p, 2) != (k.from > 0 && k.from <= 2) {
				t.Fatal(k.name)
			}
		}
	}
}

// onBus passes through all executions of programs on a bus and records their outcomes.
func onBus(b *bus.Bus, p [][]litmus.Op, next []int, regs []int, found record) {
	ended := true
	for core, ops := range p {
		if next[core] < len(ops) {
			ended = false
			c, n, r := b.Clone(), slices.Clone(next), slices.Clone(regs)
			op := ops[next[core]]
			n[core]++
			switch op.Kind {
			case litmus.Load:
				r[4*core+op.Reg], _ = c.Load(core, op.Addr)
			case litmus.Store:
				c.Store(core, op.Addr, op.Word)
			case litmus.Fence:
				c.Fence(core)
			case litmus.Swap:
				r[4*core+op.Reg], _ = c.Swap(core, op.Addr, op.Word)
			}
			onBus(c, p, n, r, found)
		}
		c := b.Clone()
		if was, _ := c.Drain(core); was {
			ended = false
			onBus(c, p, next, regs, found)
		}
	}
	if ended {
		memory, _ := b.Ram().Span(0, 4)
		found.add(slices.Concat(regs, memory))
	}
}

// P2: what programs result in on a bus, in whatever order its cores proceed and its stores are drained, are their outcomes.
func TestBus(t *testing.T) {
	programs := [][][]litmus.Op{
		cores(list(store(x, 1), store(x, 2), load(x, 0)), list(store(x, 3), swap(x, 4, 1))),
		cores(list(store(x, 1), store(y, 2), store(x, 3), load(z, 0)), list(store(z, 4), load(x, 0))),
	}
	for _, k := range classics {
		programs = append(programs, k.p)
	}
	for _, p := range programs {
		for buf := 1; buf <= 4; buf++ {
			b, e := bus.New(len(p), 4, buf)
			if e != api.OK {
				t.Fatal(e)
			}
			found := record{}
			onBus(b, p, make([]int, len(p)), make([]int, 4*len(p)), found)
			if all, want := outcomes(t, p, buf), ordered(found); !sameOutcomes(all, want) {
				t.Errorf("Outcomes(%v, %d) = %v, but on a bus %v", p, buf, all, want)
			}
		}
	}
}

// P1: all calls with arguments of all sorts.
func TestNoPanic(t *testing.T) {
	numbers := append([]int{-1, 0, 1, 2, 3, 4, 5, 9, 10}, wide...)
	for _, kind := range numbers {
		for _, n := range numbers {
			op := litmus.Op{Kind: kind, Addr: n, Word: n, Reg: n}
			for _, p := range [][][]litmus.Op{cores(list(op)), cores(nil, list(op, op)), cores(list(op), nil, list(op, op, op, op))} {
				for _, buf := range []int{-1, 0, 1, 4, 5, n, kind} {
					right := litmus.Right(p, buf)
					all, e := litmus.Outcomes(p, buf)
					if right != (e == api.OK) || right != (len(all) > 0) {
						t.Fatalf("Right(%v, %d) = %v, but Outcomes %v, %d", p, buf, right, all, e)
					}
					litmus.Can(p, buf, []int{n, kind})
					litmus.Weak(p, buf)
				}
			}
		}
	}
}
