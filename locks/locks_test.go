package locks_test

import (
	"math"
	"slices"
	"testing"

	"switchyard/api"
	"switchyard/locks"
)

// far holds numbers that are neither cores nor locks nor numbers of them, the neighbours of the limits first. Some of them have the low bits of a core or lock.
var far = []int{-1, -2, -7, -8, -9, -15, -16, -17, -63, -64, -65536, 17, 18, 31, 32, 63, 64, 65, 255, 256, 256 + 1, 65535, 65536, 65537, 1 << 31, 1<<31 - 1, 1 << 32, 1<<32 + 1, 1<<32 - 1, -1 << 32, 1 - 1<<32, math.MinInt, math.MinInt + 1, math.MaxInt - 1, math.MaxInt}

// outside returns numbers that are not in 0 to n-1, the neighbours of the limits first.
func outside(n int) []int {
	list := []int{-1}
	for x := n; x <= 17; x++ {
		list = append(list, x)
	}
	return append(append(list, n-1+1<<8, n-1+1<<16, n-1+1<<32, n-1-1<<32), far...)
}

// model is a bank by the text of the chapter: the owner of each lock, or -1.
type model struct {
	cores  int
	owners []int
}

// fresh returns a model of a new bank.
func fresh(cores, n int) model { return model{cores, slices.Repeat([]int{-1}, n)} }

// clone returns a model that shares nothing with m.
func (m model) clone() model { return model{m.cores, slices.Clone(m.owners)} }

// same reports whether both models have the same number of cores and locks and the same owners.
func (m model) same(other model) bool {
	return m.cores == other.cores && slices.Equal(m.owners, other.owners)
}

// check returns the error for a core and a lock.
func (m model) check(core, i int) api.Errno {
	if core < 0 || core > m.cores-1 {
		return api.ErrCore
	}
	if i < 0 || i > len(m.owners)-1 {
		return api.ErrArg
	}
	return api.OK
}

// try tries to acquire a lock for a core.
func (m model) try(core, i int) (bool, api.Errno) {
	if e := m.check(core, i); e != api.OK || m.owners[i] != -1 {
		return false, e
	}
	m.owners[i] = core
	return true, api.OK
}

// free frees a lock of a core.
func (m model) free(core, i int) api.Errno {
	if e := m.check(core, i); e != api.OK {
		return e
	}
	if m.owners[i] != core {
		return api.ErrLock
	}
	m.owners[i] = -1
	return api.OK
}

// held returns the locks of an existing core.
func (m model) held(core int) []int {
	var list []int
	for i := range m.owners {
		if m.owners[i] == core {
			list = append(list, i)
		}
	}
	return list
}

// release frees the locks of a core.
func (m model) release(core int) (int, api.Errno) {
	if e := m.check(core, 0); e != api.OK {
		return 0, e
	}
	list := m.held(core)
	for _, i := range list {
		m.owners[i] = -1
	}
	return len(list), api.OK
}

// made returns a new bank.
func made(t *testing.T, cores, n int) *locks.Bank {
	t.Helper()
	b := locks.New(cores, n)
	if b == nil {
		t.Fatalf("New(%d, %d) is nil", cores, n)
	}
	return b
}

// owned returns a bank whose locks have the owners of the model.
func owned(t *testing.T, m model) *locks.Bank {
	t.Helper()
	b := made(t, m.cores, len(m.owners))
	for i, owner := range m.owners {
		if owner != -1 {
			acquire(t, b, owner, i)
		}
	}
	expect(t, b, m)
	return b
}

// acquire acquires locks that must be free.
func acquire(t *testing.T, b *locks.Bank, core int, list ...int) {
	t.Helper()
	for _, i := range list {
		if ok, e := b.Try(core, i); !ok || e != api.OK {
			t.Fatalf("Try(%d, %d) = %v, %d", core, i, ok, e)
		}
	}
}

// fails tries to acquire locks that must not be free.
func fails(t *testing.T, b *locks.Bank, core int, list ...int) {
	t.Helper()
	for _, i := range list {
		if ok, e := b.Try(core, i); ok || e != api.OK {
			t.Fatalf("Try(%d, %d) = %v, %d", core, i, ok, e)
		}
	}
}

// frees frees locks with a result that must be this.
func frees(t *testing.T, b *locks.Bank, want api.Errno, core int, list ...int) {
	t.Helper()
	for _, i := range list {
		if e := b.Free(core, i); e != want {
			t.Fatalf("Free(%d, %d) = %d, want %d", core, i, e, want)
		}
	}
}

// release releases the locks of a core that must own so many.
func release(t *testing.T, b *locks.Bank, core, want int) {
	t.Helper()
	if n, e := b.Release(core); n != want || e != api.OK {
		t.Fatalf("Release(%d) = %d, %d, want %d", core, n, e, want)
	}
}

// expect compares everything that can be asked of b with the model.
func expect(t *testing.T, b *locks.Bank, m model) {
	t.Helper()
	n := len(m.owners)
	if b.Len() != n {
		t.Fatalf("Len() = %d, want %d", b.Len(), n)
	}
	for i, want := range m.owners {
		if owner, e := b.Owner(i); owner != want || e != api.OK {
			t.Fatalf("Owner(%d) = %d, %d, want %d of %v", i, owner, e, want, m)
		}
	}
	for _, i := range []int{-1, n} {
		if owner, e := b.Owner(i); owner != 0 || e != api.ErrArg {
			t.Fatalf("Owner(%d) = %d, %d with %d locks", i, owner, e, n)
		}
	}
	for core := range m.cores {
		if held := b.Held(core); !slices.Equal(held, m.held(core)) {
			t.Fatalf("Held(%d) = %v, want %v of %v", core, held, m.held(core), m)
		}
		// The error tells that the core exists, and the call leaves no trace.
		frees(t, b, api.ErrArg, core, n)
	}
	for _, core := range []int{-1, m.cores} {
		if held := b.Held(core); len(held) != 0 {
			t.Fatalf("Held(%d) = %v with %d cores", core, held, m.cores)
		}
		frees(t, b, api.ErrCore, core, 0)
	}
}

// sizes calls visit for the pairs of numbers of cores and of locks that are near a limit, and for some between.
func sizes(visit func(cores, n int)) {
	for _, cores := range []int{1, 2, 3, 7, 8} {
		for _, n := range []int{1, 2, 3, 8, 9, 15, 16} {
			visit(cores, n)
		}
	}
}

// states returns all models with at most so many cores and so many locks.
func states(cores, n int) []model {
	var list []model
	for c := 1; c <= cores; c++ {
		level := []model{fresh(c, 0)}
		for range n {
			var next []model
			for _, m := range level {
				for owner := -1; owner < c; owner++ {
					next = append(next, model{c, append(slices.Clone(m.owners), owner)})
				}
			}
			list = append(list, next...)
			level = next
		}
	}
	return list
}

// mixed returns a model in which the cores own runs, single locks and none, and some locks are free.
func mixed(cores, n int) model {
	m := fresh(cores, n)
	for i := range n {
		m.owners[i] = (i*i/2+i/3+cores)%(cores+1) - 1
	}
	return m
}

// The example of the chapter.
func TestExample(t *testing.T) {
	b := made(t, 2, 3)
	acquire(t, b, 0, 2)
	fails(t, b, 1, 2)
	frees(t, b, api.ErrLock, 1, 2)
	if owner, e := b.Owner(2); owner != 0 || e != api.OK {
		t.Error("Owner(2)", owner, e)
	}
}

// P10.1: every number of cores and of locks.
func TestNew(t *testing.T) {
	if api.MaxCores != 8 || api.MaxLocks != 16 {
		t.Fatal(api.MaxCores, api.MaxLocks)
	}
	for cores := 1; cores <= 8; cores++ {
		for n := 1; n <= 16; n++ {
			b := made(t, cores, n)
			expect(t, b, fresh(cores, n))
			m := fresh(cores, n)
			for i := range n {
				acquire(t, b, i%cores, i)
				m.try(i%cores, i)
				expect(t, b, m)
			}
		}
	}
}

// P10.1: the numbers next to the limits, and those far from them, alone and together.
func TestNewOfNoSize(t *testing.T) {
	noCores, noLocks := append([]int{0, 9, 10, 15, 16}, far...), append([]int{0}, far...)
	for _, cores := range noCores {
		for _, n := range slices.Concat(noLocks, []int{1, 2, 8, 9, 16}) {
			if locks.New(cores, n) != nil {
				t.Errorf("New(%d, %d) is a bank", cores, n)
			}
		}
	}
	for cores := 1; cores <= 8; cores++ {
		for _, n := range noLocks {
			if locks.New(cores, n) != nil {
				t.Errorf("New(%d, %d) is a bank", cores, n)
			}
		}
	}
}

// P10.1: two banks share nothing.
func TestNewIsNew(t *testing.T) {
	first := owned(t, mixed(3, 5))
	second := made(t, 3, 5)
	expect(t, second, fresh(3, 5))
	acquire(t, second, 2, 0, 1, 2, 3, 4)
	expect(t, first, mixed(3, 5))
	first.Release(0)
	first.Release(1)
	first.Release(2)
	expect(t, second, model{3, []int{2, 2, 2, 2, 2}})
}

// P10.1: the number of locks does not depend on their owners.
func TestLenStays(t *testing.T) {
	sizes(func(cores, n int) {
		b := made(t, cores, n)
		for i := range n {
			acquire(t, b, cores-1, i)
			if b.Len() != n || b.Clone().Len() != n {
				t.Fatalf("Len() = %d of %d", b.Len(), n)
			}
		}
		release(t, b, cores-1, n)
		if b.Len() != n {
			t.Fatalf("Len() = %d of %d", b.Len(), n)
		}
	})
}

// P10.2: each lock for each core: free, acquired, tried and freed by every core, and free again.
func TestTryAndFree(t *testing.T) {
	for cores := 1; cores <= 8; cores++ {
		b := made(t, cores, 16)
		for core := range cores {
			for i := range 16 {
				m := fresh(cores, 16)
				for other := range cores {
					frees(t, b, api.ErrLock, other, i)
				}
				expect(t, b, m)
				acquire(t, b, core, i)
				m.owners[i] = core
				expect(t, b, m)
				for other := range cores {
					fails(t, b, other, i)
					if other != core {
						frees(t, b, api.ErrLock, other, i)
					}
					expect(t, b, m)
				}
				frees(t, b, api.OK, core, i)
				expect(t, b, fresh(cores, 16))
			}
		}
	}
}

// P10.2: a lock that was freed can be acquired by another core, and by the same one.
func TestTryAfterFree(t *testing.T) {
	b := made(t, 8, 3)
	for round := range 3 {
		for core := range 8 {
			acquire(t, b, core, 1)
			fails(t, b, core, 1)
			fails(t, b, (core+1)%8, 1)
			frees(t, b, api.OK, core, 1)
			frees(t, b, api.ErrLock, core, 1)
			acquire(t, b, core, 1)
			if round == 1 {
				release(t, b, core, 1)
			} else {
				frees(t, b, api.OK, core, 1)
			}
		}
	}
	expect(t, b, fresh(8, 3))
}

// P10.2: cores and locks that do not exist, alone and together, in banks that are free, partly owned and all owned by one core.
func TestRejectedTryAndFree(t *testing.T) {
	sizes(func(cores, n int) {
		full := model{cores, slices.Repeat([]int{cores - 1}, n)}
		first := model{cores, make([]int, n)}
		for _, m := range []model{fresh(cores, n), mixed(cores, n), full, first} {
			b := owned(t, m)
			for _, core := range outside(cores) {
				for _, i := range slices.Concat(outside(n), []int{0, n / 2, n - 1}) {
					rejected(t, b, core, i, api.ErrCore)
				}
			}
			for core := range cores {
				for _, i := range outside(n) {
					rejected(t, b, core, i, api.ErrArg)
				}
			}
			expect(t, b, m)
		}
	})
}

// rejected calls Try and Free, which must return the error want.
func rejected(t *testing.T, b *locks.Bank, core, i int, want api.Errno) {
	t.Helper()
	if ok, e := b.Try(core, i); ok || e != want {
		t.Fatalf("Try(%d, %d) = %v, %d, want %d", core, i, ok, e, want)
	}
	frees(t, b, want, core, i)
}

// P10.2: the owner of each lock, and no other number is a lock.
func TestOwner(t *testing.T) {
	sizes(func(cores, n int) {
		m := mixed(cores, n)
		b := owned(t, m)
		for _, i := range outside(n) {
			if owner, e := b.Owner(i); owner != 0 || e != api.ErrArg {
				t.Fatalf("Owner(%d) = %d, %d with %d locks", i, owner, e, n)
			}
		}
		expect(t, b, m)
	})
}

// P10.2: the owner of a lock that is free, owned, freed and released.
func TestOwnerChanges(t *testing.T) {
	b := made(t, 8, 16)
	owner := func(want int) {
		t.Helper()
		if core, e := b.Owner(15); core != want || e != api.OK {
			t.Fatalf("Owner(15) = %d, %d, want %d", core, e, want)
		}
	}
	for core := range 8 {
		owner(-1)
		acquire(t, b, core, 15)
		owner(core)
		frees(t, b, api.OK, core, 15)
		owner(-1)
		acquire(t, b, core, 15)
		owner(core)
		release(t, b, core, 1)
	}
	owner(-1)
}

// P10.3: no lock, one, all and every other one, acquired upwards and downwards.
func TestHeld(t *testing.T) {
	sizes(func(cores, n int) {
		for core := range cores {
			up := made(t, cores, n)
			down := made(t, cores, n)
			m := fresh(cores, n)
			for i := range n {
				single := made(t, cores, n)
				acquire(t, single, core, i)
				if held := single.Held(core); !slices.Equal(held, []int{i}) {
					t.Fatalf("Held(%d) = %v, want only %d", core, held, i)
				}
				acquire(t, up, core, i)
				m.owners[i] = core
				expect(t, up, m)
				acquire(t, down, core, n-1-i)
			}
			expect(t, down, m)
			for i := 0; i < n; i += 2 {
				frees(t, up, api.OK, core, i)
				m.owners[i] = -1
			}
			expect(t, up, m)
		}
	})
}

// P10.3: the order of the locks is not that of their acquisition.
func TestHeldInOrder(t *testing.T) {
	b := made(t, 3, 16)
	acquire(t, b, 1, 9, 15, 0, 8, 3, 12)
	acquire(t, b, 2, 14, 1)
	acquire(t, b, 1, 2)
	frees(t, b, api.OK, 1, 8)
	acquire(t, b, 1, 10)
	for core, want := range [][]int{nil, {0, 2, 3, 9, 10, 12, 15}, {1, 14}, nil} {
		if held := b.Held(core); !slices.Equal(held, want) {
			t.Errorf("Held(%d) = %v, want %v", core, held, want)
		}
	}
}

// P10.3: cores that do not exist hold and release nothing.
func TestHeldAndReleaseOfNoCore(t *testing.T) {
	sizes(func(cores, n int) {
		for _, m := range []model{fresh(cores, n), mixed(cores, n), {cores, make([]int, n)}} {
			b := owned(t, m)
			for _, core := range outside(cores) {
				if held := b.Held(core); held != nil {
					t.Fatalf("Held(%d) = %v with %d cores", core, held, cores)
				}
				if n, e := b.Release(core); n != 0 || e != api.ErrCore {
					t.Fatalf("Release(%d) = %d, %d with %d cores", core, n, e, cores)
				}
			}
			expect(t, b, m)
		}
	})
}

// A list that Held returned belongs to the caller, and later calls do not change it.
func TestHeldIsIndependent(t *testing.T) {
	m := model{2, []int{1, 1, 0, 1, -1, 1, 1}}
	b := owned(t, m)
	first, second := b.Held(1), b.Held(1)
	for i := range first {
		first[i] = 4
	}
	_ = append(first, 4, 4)
	_ = append(first[:0], 4)
	expect(t, b, m)
	if !slices.Equal(second, []int{0, 1, 3, 5, 6}) {
		t.Fatal("another list changed:", second)
	}
	release(t, b, 1, 5)
	acquire(t, b, 0, 0, 1, 3)
	if !slices.Equal(second, []int{0, 1, 3, 5, 6}) {
		t.Fatal("the list changed:", second)
	}
	for _, x := range second[:cap(second)][len(second):] {
		if x != 0 {
			t.Error("the list has something beyond its length:", x)
		}
	}
}

// P10.3: each core of a mixed bank, which frees its own locks only; then it has none.
func TestRelease(t *testing.T) {
	for cores := 1; cores <= 8; cores++ {
		for n := 1; n <= 16; n++ {
			for core := range cores {
				m := mixed(cores, n)
				b := owned(t, m)
				held := b.Held(core)
				release(t, b, core, len(held))
				for _, i := range held {
					m.owners[i] = -1
				}
				expect(t, b, m)
				release(t, b, core, 0)
				expect(t, b, m)
				other := (core + 1) % cores
				acquire(t, b, other, held...)
				for _, i := range held {
					m.owners[i] = other
				}
				expect(t, b, m)
				fails(t, b, core, held...)
			}
		}
	}
}

// P10.3: no lock, each number of locks and all of them.
func TestReleaseOfNumbers(t *testing.T) {
	b := made(t, 8, 16)
	for core := range 8 {
		for n := range 17 {
			for i := range n {
				acquire(t, b, core, (i+core)%16)
			}
			release(t, b, core, n)
			expect(t, b, fresh(8, 16))
		}
	}
}

// P10.2, P10.3: every call in every state of small banks, by its result and by what it leaves.
func TestAllCallsInAllStates(t *testing.T) {
	for _, m := range states(3, 3) {
		n := len(m.owners)
		for core := -1; core <= m.cores; core++ {
			for i := -1; i <= n; i++ {
				b, after := owned(t, m), m.clone()
				both(t, b, after, 0, core, i)
				expect(t, b, after)
				b, after = owned(t, m), m.clone()
				both(t, b, after, 1, core, i)
				expect(t, b, after)
			}
			b, after := owned(t, m), m.clone()
			both(t, b, after, 2, core, 0)
			expect(t, b, after)
		}
	}
}

// both makes one of three calls on b and on the model, which must have the same results.
func both(t *testing.T, b *locks.Bank, m model, which, core, i int) {
	t.Helper()
	switch which {
	case 0:
		want, wantE := m.try(core, i)
		if ok, e := b.Try(core, i); ok != want || e != wantE {
			t.Fatalf("Try(%d, %d) = %v, %d, want %v, %d", core, i, ok, e, want, wantE)
		}
	case 1:
		frees(t, b, m.free(core, i), core, i)
	case 2:
		want, wantE := m.release(core)
		if n, e := b.Release(core); n != want || e != wantE {
			t.Fatalf("Release(%d) = %d, %d, want %d, %d", core, n, e, want, wantE)
		}
	}
}

// P10.4: a clone has everything that its original has, and goes on as it would.
func TestClone(t *testing.T) {
	for cores := 1; cores <= 8; cores++ {
		for n := 1; n <= 16; n++ {
			m := mixed(cores, n)
			b := owned(t, m)
			c := b.Clone()
			if c == nil || c == b {
				t.Fatal("the clone is nil or the bank itself")
			}
			expect(t, c, m)
			after := m.clone()
			for i := range n {
				both(t, c, after, i%2, (i+1)%cores, i)
				both(t, c, after, 0, i%cores, n-1-i)
			}
			expect(t, c, after)
			expect(t, b, m)
		}
	}
}

// P10.4: neither a clone nor its original nor a clone's clone sees calls on another one.
func TestCloneIsIndependent(t *testing.T) {
	for which := range 3 {
		for core := range 2 {
			for i := range 3 {
				for _, m := range states(2, 3) {
					b := owned(t, m)
					c := b.Clone()
					d := c.Clone()
					both(t, b, m.clone(), which, core, i)
					expect(t, c, m)
					expect(t, d, m)
					e := d.Clone()
					both(t, c, m.clone(), which, core, i)
					expect(t, d, m)
					expect(t, e, m)
					both(t, e, m.clone(), which, core, i)
					expect(t, d, m)
				}
			}
		}
	}
}

// P10.4: every two small banks are the same if their numbers of cores and locks and their owners are, whatever has happened to them before.
func TestSame(t *testing.T) {
	list := states(3, 3)
	banks, used := make([]*locks.Bank, len(list)), make([]*locks.Bank, len(list))
	for k, m := range list {
		banks[k] = owned(t, m)
		used[k] = made(t, m.cores, len(m.owners))
		for i := range m.owners {
			acquire(t, used[k], i%m.cores, i)
		}
		for core := range m.cores {
			used[k].Release(core)
		}
		for i := len(m.owners) - 1; i >= 0; i-- {
			if m.owners[i] != -1 {
				acquire(t, used[k], m.owners[i], i)
			}
		}
	}
	for i, m := range list {
		for j, other := range list {
			want := m.same(other)
			if locks.Same(banks[i], banks[j]) != want || locks.Same(banks[i], used[j]) != want || locks.Same(used[i], banks[j]) != want {
				t.Errorf("Same of %v and %v is not %v", m, other, want)
			}
		}
		expect(t, banks[i], m)
		expect(t, used[i], m)
	}
}

// P10.4: new banks, and banks whose owners are the same as far as both have locks, of all sizes.
func TestSameOfSizes(t *testing.T) {
	type bank struct{ fresh, owned *locks.Bank }
	var list []bank
	for cores := 1; cores <= 8; cores++ {
		for n := 1; n <= 16; n++ {
			list = append(list, bank{made(t, cores, n), owned(t, model{cores, make([]int, n)})})
		}
	}
	for i, a := range list {
		for j, b := range list {
			if locks.Same(a.fresh, b.fresh) != (i == j) || locks.Same(a.owned, b.owned) != (i == j) {
				t.Errorf("Same of %d and %d is not %v", i, j, i == j)
			}
			if locks.Same(a.fresh, b.owned) || locks.Same(a.owned, b.fresh) {
				t.Errorf("a new bank %d is the same as an owned one %d", i, j)
			}
		}
	}
}

// P10.4: the owner of each single lock matters, also when it is the first core.
func TestSameOfOneOwner(t *testing.T) {
	for cores := 1; cores <= 8; cores++ {
		for n := 1; n <= 16; n++ {
			for i := range n {
				b := owned(t, mixed(cores, n))
				owner, _ := b.Owner(i)
				c := b.Clone()
				if !locks.Same(b, b) || !locks.Same(b, c) || !locks.Same(c, b) {
					t.Fatal("a clone is not the same")
				}
				if owner != -1 {
					frees(t, c, api.OK, owner, i)
				} else {
					acquire(t, c, 0, i)
				}
				if locks.Same(b, c) || locks.Same(c, b) {
					t.Fatalf("Same with another owner of lock %d than %d", i, owner)
				}
				if owner != -1 {
					acquire(t, c, owner, i)
				} else {
					frees(t, c, api.OK, 0, i)
				}
				if !locks.Same(b, c) || !locks.Same(c, b) {
					t.Fatal("banks with the same owners again are not the same")
				}
			}
		}
	}
}

// A nil Bank.
func TestNil(t *testing.T) {
	var b *locks.Bank
	numbers := slices.Concat(far, []int{0, 1, 7, 8, 15, 16})
	for _, x := range numbers {
		for _, y := range numbers {
			rejected(t, b, x, y, api.ErrNone)
		}
		if owner, e := b.Owner(x); owner != 0 || e != api.ErrNone {
			t.Errorf("Owner(%d) = %d, %d", x, owner, e)
		}
		if held := b.Held(x); held != nil {
			t.Errorf("Held(%d) = %v", x, held)
		}
		if n, e := b.Release(x); n != 0 || e != api.ErrNone {
			t.Errorf("Release(%d) = %d, %d", x, n, e)
		}
	}
	if b.Len() != 0 || b.Clone() != nil {
		t.Error(b.Len(), b.Clone())
	}
	if !locks.Same(nil, nil) || !locks.Same(b, b.Clone()) {
		t.Error("two nil banks are not the same")
	}
	for cores := 1; cores <= 8; cores++ {
		for n := 1; n <= 16; n++ {
			if c := made(t, cores, n); locks.Same(nil, c) || locks.Same(c, nil) {
				t.Error("a nil Bank is the same as one with cores and locks:", cores, n)
			}
		}
	}
}

// act is a call of a core that had an effect on a lock.
type act struct {
	core, lock int
	acquired   bool
}

// ownerAfter returns the owner of a lock by P10.5: the core that acquired it and has neither freed nor lost it.
func ownerAfter(history []act, lock int) int {
	for _, a := range slices.Backward(history) {
		if a.lock == lock && a.acquired {
			return a.core
		}
		if a.lock == lock {
			return -1
		}
	}
	return -1
}

// record makes one of three calls on b and returns the effects that its results report, none if they report an error.
func record(t *testing.T, b *locks.Bank, which, core, i int) []act {
	t.Helper()
	var acts []act
	switch which {
	case 0:
		if ok, e := b.Try(core, i); ok && e == api.OK {
			acts = append(acts, act{core, i, true})
		}
	case 1:
		if b.Free(core, i) == api.OK {
			acts = append(acts, act{core, i, false})
		}
	case 2:
		for _, i := range b.Held(core) {
			acts = append(acts, act{core, i, false})
		}
		if n, _ := b.Release(core); n != len(acts) {
			t.Fatalf("Release(%d) = %d with %d locks", core, n, len(acts))
		}
	}
	return acts
}

// lawful checks P10.5 for all locks of b.
func lawful(t *testing.T, b *locks.Bank, cores int, history []act) {
	t.Helper()
	for i := range b.Len() {
		want := ownerAfter(history, i)
		if who, e := b.Owner(i); who != want || e != api.OK {
			t.Fatalf("Owner(%d) = %d, %d, want %d after %v", i, who, e, want, history)
		}
		for core := range cores {
			if held := b.Held(core); slices.Contains(held, i) != (core == want) {
				t.Fatalf("Held(%d) = %v after %v", core, held, history)
			}
		}
	}
}

// P10.5: all sequences of five calls of two cores at two locks.
func TestAllSequences(t *testing.T) {
	type choice struct{ which, core, i int }
	choices := []choice{{0, 0, 0}, {0, 1, 0}, {0, 0, 1}, {0, 1, 1}, {1, 0, 0}, {1, 1, 0}, {1, 0, 1}, {1, 1, 1}, {2, 0, 0}, {2, 1, 0}}
	for code := range 100000 {
		b, m := made(t, 2, 2), fresh(2, 2)
		var history []act
		for range 5 {
			c := choices[code%10]
			code /= 10
			clone := b.Clone()
			both(t, clone, m, c.which, c.core, c.i)
			history = append(history, record(t, b, c.which, c.core, c.i)...)
			if !locks.Same(b, clone) {
				t.Fatal("the same call has another effect on a clone")
			}
		}
		expect(t, b, m)
		lawful(t, b, 2, history)
	}
}

// drawer returns a function that returns numbers in 0 to n-1, of a sequence that depends on the seed.
func drawer(seed uint32) func(n int) int {
	return func(n int) int {
		seed = seed*1664525 + 1013904223
		return int(seed>>8) % n
	}
}

// P10.2 to P10.5: long sequences of all calls, in which locks are acquired, refused, freed and released many times. In some stretches most calls acquire, so that the locks run out.
func TestLongSequences(t *testing.T) {
	for cores := 1; cores <= 8; cores++ {
		draw := drawer(uint32(cores))
		b, m := made(t, cores, 16), fresh(cores, 16)
		var history []act
		runOut := 0
		for k := range 3000 {
			which := []int{0, 0, 0, 1, 1, 1, 1, 2}[draw(8)]
			if k/100%2 == 0 {
				which = draw(40) / 39
			}
			core, i := draw(cores+2)-1, draw(18)-1
			c := b.Clone()
			both(t, c, m, which, core, i)
			history = append(history, record(t, b, which, core, i)...)
			if !locks.Same(b, c) {
				t.Fatal("the same call has another effect on a clone")
			}
			b = c
			if !slices.Contains(m.owners, -1) {
				runOut++
			}
			if k%10 == 0 {
				expect(t, b, m)
				lawful(t, b, cores, history)
			}
		}
		if len(history) < 300 || runOut == 0 {
			t.Errorf("with %d cores only %d effects, and %d times no free lock", cores, len(history), runOut)
		}
	}
}

// P1: all calls with all numbers.
func TestNoPanic(t *testing.T) {
	numbers := slices.Concat(far, []int{0, 1, 2, 7, 8, 9, 15, 16})
	for _, cores := range numbers {
		for _, n := range numbers {
			b := locks.New(cores, n)
			for _, x := range numbers {
				for _, y := range []int{math.MinInt, -1, 0, 15, 16, math.MaxInt} {
					b.Try(x, y)
					b.Free(x, y)
					b.Try(y, x)
					b.Free(y, x)
				}
				b.Owner(x)
				b.Held(x)
				b.Release(x)
			}
			b.Len()
			locks.Same(b, b.Clone())
		}
	}
}
