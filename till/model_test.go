package till_test

import (
	"fmt"
	"math"
	"slices"
	"testing"

	"switchyard/api"
	"switchyard/site"
	"switchyard/soc"
	"switchyard/till"
)

// far holds numbers that are no bases, items, locks or cores. Some of them have the low bits of such a number.
var far = []int{-2, -31, -32, -33, -65535, -65536, -65537, 65537, 131072, 1<<31 - 1, 1 << 31, 1<<32 - 1, 1 << 32, 1<<32 + 1, -1 << 32, 1 - 1<<32, 1 << 62, math.MinInt, math.MinInt + 1, math.MaxInt - 1, math.MaxInt}

// The addresses of the words of a list, and of a lock, where the text of the chapters has them.
func headAt(base int) int       { return base }
func nextAt(base, item int) int { return base + 1 + item }
func lockAt(i int) int          { return 65792 + i }

// what is a call: a Pop, or the Push of an item.
type what struct {
	push bool
	item int
}

// begin begins the call of a till.
func (x what) begin(k *till.Till) api.Errno {
	if x.push {
		return k.Push(x.item)
	}
	return k.Pop()
}

// touch is an access: the read of a word, or the write of one.
type touch struct {
	write      bool
	addr, word int
}

func reads(addr, w int) touch  { return touch{false, addr, w} }
func writes(addr, w int) touch { return touch{true, addr, w} }

// model is a till by the text of the chapter, on a soc of its own. It makes a whole call at once.
type model struct {
	base, items, lock, core int
	mine                    []int
	s                       *soc.Soc
	// change changes the soc ahead of an access, which is told by its number in the call, if it is there.
	change func(s *soc.Soc, n int)
	// The accesses of the last call that returned no error, and the soc behind each access.
	touches []touch
	behind  []*soc.Soc
}

// touch makes an access.
func (m *model) touch(write bool, addr, w int) (int, api.Errno) {
	if len(m.behind) == 1000 {
		panic("a call without an end")
	}
	if m.change != nil {
		m.change(m.s, len(m.behind))
	}
	var e api.Errno
	if write {
		e = m.s.Write(m.core, addr, w)
	} else {
		w, e = m.s.Read(m.core, addr)
	}
	if e == api.OK {
		m.touches = append(m.touches, touch{write, addr, w})
	}
	m.behind = append(m.behind, m.s.Clone())
	return w, e
}

// do makes a call.
func (m *model) do(x what) api.Errno {
	m.touches, m.behind = nil, nil
	for {
		got, e := m.touch(false, lockAt(m.lock), 0)
		if e != api.OK {
			return e
		}
		if got != 0 {
			break
		}
	}
	item, result, e := m.edit(x)
	if e != api.OK {
		return e
	}
	if _, e := m.touch(true, lockAt(m.lock), 0); e != api.OK {
		return e
	}
	if result == api.OK && x.push {
		i := slices.Index(m.mine, item)
		m.mine = append(slices.Clone(m.mine[:i]), m.mine[i+1:]...)
	} else if result == api.OK {
		m.mine = append(m.mine, item)
	}
	return result
}

// edit is steps 2 to 4: it returns the item, the result with which step 5 is reached, and the error of an access.
func (m *model) edit(x what) (item int, result, e api.Errno) {
	head, e := m.touch(false, headAt(m.base), 0)
	if e != api.OK {
		return 0, 0, e
	}
	if x.push {
		if _, e := m.touch(true, nextAt(m.base, x.item), head); e != api.OK {
			return 0, 0, e
		}
		_, e = m.touch(true, headAt(m.base), x.item+1)
		return x.item, api.OK, e
	}
	if head == 0 {
		return 0, api.ErrEmpty, api.OK
	}
	if head > m.items {
		return 0, api.ErrCorrupt, api.OK
	}
	next, e := m.touch(false, nextAt(m.base, head-1), 0)
	if e != api.OK {
		return 0, 0, e
	}
	if next > m.items {
		return 0, api.ErrCorrupt, api.OK
	}
	_, e = m.touch(true, headAt(m.base), next)
	return head - 1, api.OK, e
}

// made returns a new soc.
func made(t testing.TB, cores, words, locks, buf int) *soc.Soc {
	t.Helper()
	s, e := soc.New(site.Plan{Cores: cores, Words: words, Locks: locks}, buf)
	if e != api.OK {
		t.Fatal(cores, words, locks, buf, e)
	}
	return s
}

// laid returns a new soc with 8 cores, 64 words and 16 locks, in which core 7 has laid a list.
func laid(t testing.TB, base, items, buf int) *soc.Soc {
	t.Helper()
	s := made(t, 8, 64, 16, buf)
	if e := till.Lay(s, 7, base, items); e != api.OK {
		t.Fatal(base, items, e)
	}
	return s
}

// set stores words in the memory at once, from an address on.
func set(s *soc.Soc, addr int, list ...int) {
	// A core with pending stores would drain them.
	core := slices.IndexFunc(upTo(s.Plan().Cores), func(i int) bool { return s.Up(i) && len(s.Waits(i)) == 0 })
	for i, w := range list {
		if _, e := s.Swap(core, addr+i, w); e != api.OK {
			panic(e)
		}
	}
}

// ram returns the words of the memory.
func ram(s *soc.Soc) []int {
	r := s.Ram()
	list, _ := r.Span(0, r.Size())
	return list
}

// fenced returns the words of the memory behind a fence of every core, in a copy of the soc.
func fenced(s *soc.Soc) []int {
	c := s.Clone()
	for core := range c.Plan().Cores {
		for len(c.Waits(core)) > 0 {
			c.Drain(core)
		}
	}
	return ram(c)
}

// owner compares the owner of a lock.
func owner(t testing.TB, s *soc.Soc, lock, want int) {
	t.Helper()
	if n, e := s.Owner(lock); n != want || e != api.OK {
		t.Fatalf("Owner(%d) = %d, %d, want %d", lock, n, e, want)
	}
}

// tillOf returns a new till.
func tillOf(t testing.TB, base, items, lock, core int) *till.Till {
	t.Helper()
	k := till.New(base, items, lock, core)
	if k == nil {
		t.Fatalf("New(%d, %d, %d, %d) is nil", base, items, lock, core)
	}
	return k
}

// pair is a till and its model, with socs of their own that are the same.
type pair struct {
	t testing.TB
	k *till.Till
	m *model
	s *soc.Soc
}

// paired returns a new till and its model, on a soc and its copy.
func paired(t testing.TB, s *soc.Soc, base, items, lock, core int) *pair {
	t.Helper()
	m := &model{base: base, items: items, lock: lock, core: core, s: s.Clone()}
	return &pair{t: t, k: tillOf(t, base, items, lock, core), m: m, s: s}
}

// both changes both socs.
func (p *pair) both(change func(s *soc.Soc)) {
	change(p.s)
	change(p.m.s)
}

// set stores words in both memories.
func (p *pair) set(addr int, list ...int) {
	p.both(func(s *soc.Soc) { set(s, addr, list...) })
}

// expect compares what can be asked of the till.
func (p *pair) expect(busy bool, mine []int) {
	p.t.Helper()
	if p.k.Busy() != busy || !slices.Equal(p.k.Mine(), mine) {
		p.t.Fatalf("busy %v, mine %v, want %v and %v", p.k.Busy(), p.k.Mine(), busy, mine)
	}
}

// do makes a call of both, and compares every step: that it makes the same access, and leaves the same state. It returns the result.
func (p *pair) do(x what) api.Errno {
	p.t.Helper()
	was := p.m.mine
	want := p.m.do(x)
	if e := x.begin(p.k); e != api.OK {
		p.t.Fatalf("%+v has begun with %d", x, e)
	}
	for i, behind := range p.m.behind {
		p.expect(true, was)
		if p.m.change != nil {
			p.m.change(p.s, i)
		}
		done, e := p.k.Step(p.s)
		if last := i == len(p.m.behind)-1; done != last || last && e != want || !last && e != api.OK {
			p.t.Fatalf("%+v, step %d of %d: %v, %d, want %d at the end", x, i+1, len(p.m.behind), done, e, want)
		}
		if !soc.Same(p.s, behind) {
			p.t.Fatalf("%+v, step %d: %s, want %s behind the accesses %v", x, i+1, tell(p.s), tell(behind), p.m.touches)
		}
	}
	p.expect(false, p.m.mine)
	return want
}

// tell returns the state of a soc as far as tills may change it.
func tell(s *soc.Soc) string {
	text := fmt.Sprint(ram(s)[:min(s.Plan().Words, 64)])
	for core := range s.Plan().Cores {
		text += fmt.Sprint(s.Waits(core))
	}
	for i := range s.Plan().Locks {
		n, _ := s.Owner(i)
		text += fmt.Sprint(" ", n)
	}
	return text
}

// does makes a call of both, with a result that must be this.
func (p *pair) does(want api.Errno, x what) {
	p.t.Helper()
	if e := p.do(x); e != want {
		p.t.Fatalf("%+v ended with %d after %v, want %d", x, e, p.m.touches, want)
	}
}

// pops makes Pops of both, with a result that must be this.
func (p *pair) pops(want api.Errno, times int) {
	p.t.Helper()
	for range times {
		p.does(want, what{})
	}
}

// pushes makes Pushes of both, which must end with OK.
func (p *pair) pushes(items ...int) {
	p.t.Helper()
	for _, i := range items {
		p.does(api.OK, what{true, i})
	}
}

// touches compares the accesses of the last call.
func (p *pair) touches(want ...touch) {
	p.t.Helper()
	if !slices.Equal(p.m.touches, want) {
		p.t.Fatalf("accesses %v, want %v", p.m.touches, want)
	}
}

// finish makes a call of a till on a soc, and returns its result and the number of its steps.
func finish(t testing.TB, k *till.Till, s *soc.Soc, x what) (api.Errno, int) {
	t.Helper()
	if e := x.begin(k); e != api.OK {
		t.Fatalf("%+v has begun with %d", x, e)
	}
	for n := range 5 {
		done, e := k.Step(s)
		if done {
			return e, n + 1
		}
		if e != api.OK {
			t.Fatalf("error %d ahead of the end", e)
		}
	}
	t.Fatal("the call has not ended after 5 accesses")
	return api.OK, 0
}

// ends makes a call of a till that must have this result.
func ends(t testing.TB, k *till.Till, s *soc.Soc, x what, want api.Errno) {
	t.Helper()
	if e, n := finish(t, k, s, x); e != want {
		t.Fatalf("%+v ended with %d after %d steps, want %d", x, e, n, want)
	}
}

// owns compares the items of a till, which must have no call in progress.
func owns(t testing.TB, k *till.Till, want ...int) {
	t.Helper()
	if l := k.Mine(); !slices.Equal(l, want) || k.Busy() {
		t.Fatalf("mine %v, busy %v, want %v", l, k.Busy(), want)
	}
}

// upTo returns the numbers from 0 on, so many.
func upTo(n int) []int {
	list := make([]int, n)
	for i := range list {
		list[i] = i
	}
	return list
}

// dice are numbers that follow from each other, the same ones in every run.
type dice uint64

// roll returns one of n numbers from 0 on.
func (d *dice) roll(n int) int {
	*d = *d*6364136223846793005 + 1442695040888963407
	return int(*d>>33) % n
}
