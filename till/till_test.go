package till_test

import (
	"slices"
	"testing"

	"switchyard/api"
	"switchyard/soc"
	"switchyard/till"
)

// The example of the chapter.
func TestExample(t *testing.T) {
	for lock := range 16 {
		for core := range 8 {
			s, k := laid(t, 10, 3, 4), tillOf(t, 10, 3, lock, core)
			if e, n := finish(t, k, s, what{}); e != api.OK || n != 5 {
				t.Fatal(e, n)
			}
			owns(t, k, 0)
		}
	}
}

// P18.1: every till that the limits allow, which owns nothing and makes no call.
func TestNew(t *testing.T) {
	if till.MostItems != 32 || api.MaxLocks != 16 || api.MaxCores != 8 {
		t.Fatal(till.MostItems, api.MaxLocks, api.MaxCores)
	}
	s := made(t, 1, 1, 1, 1)
	for _, base := range []int{0, 1, 33, 999, 32768, 65502, 65503, 65534, 65535} {
		for items := 1; items <= 32; items++ {
			for i := range 16 * 8 {
				k := tillOf(t, base, items, i/8, i%8)
				owns(t, k)
				if done, e := k.Step(s); !done || e != api.ErrIdle {
					t.Fatal(base, items, i, done, e)
				}
			}
		}
	}
}

// P18.1: the neighbours of the limits, and the numbers far from them.
func TestNewOfNothing(t *testing.T) {
	none := func(base, items, lock, core int) {
		t.Helper()
		if k := till.New(base, items, lock, core); k != nil {
			t.Errorf("New(%d, %d, %d, %d) is a till", base, items, lock, core)
		}
	}
	for _, n := range append([]int{-1, 65536}, far...) {
		none(n, 1, 0, 0)
		none(n, 32, 15, 7)
	}
	for _, n := range append([]int{0, -1, 33, 34, 64, 65535, 65536}, far...) {
		none(0, n, 0, 0)
		none(65535, n, 15, 7)
	}
	for _, n := range append([]int{-1, 16, 17, 32, 256, 65792, 65535, 65536}, far...) {
		none(0, 1, n, 0)
		none(65535, 32, n, 7)
	}
	for _, n := range append([]int{-1, 8, 9, 16, 256, 65535, 65536}, far...) {
		none(0, 1, 0, n)
		none(65535, 32, 15, n)
	}
	none(-1, 0, 16, 8)
	for n := -40; n <= 80; n++ {
		if k := till.New(0, n, 0, 0); (k != nil) != (1 <= n && n <= 32) {
			t.Error("items", n)
		}
		if k := till.New(0, 1, n, 0); (k != nil) != (0 <= n && n <= 15) {
			t.Error("lock", n)
		}
		if k := till.New(0, 1, 0, n); (k != nil) != (0 <= n && n <= 7) {
			t.Error("core", n)
		}
	}
}

// chain returns the words of a list in which all items are.
func chain(items int) []int {
	list := upTo(items + 1)[1:]
	return append(list, 0)
}

// P18.1: the words that Lay writes, among others that it leaves as they are, and that they are drained.
func TestLay(t *testing.T) {
	for items := 1; items <= 32; items++ {
		for i := range 8 * 16 {
			core, buf, base := i%8, 1+i/8, (7*i+items)%(65-items)
			s := made(t, 8, 66, 1, buf)
			set(s, 0, slices.Repeat([]int{777}, 66)...)
			if e := till.Lay(s, core, base, items); e != api.OK {
				t.Fatal(core, base, items, e)
			}
			want := slices.Repeat([]int{777}, 66)
			copy(want[base:], chain(items))
			if !slices.Equal(ram(s), want) || len(s.Waits(core)) != 0 {
				t.Fatal(core, base, items, ram(s), s.Waits(core))
			}
		}
	}
}

// P18.1: the words, written out.
func TestLayWords(t *testing.T) {
	for _, want := range [][]int{{1, 0}, {1, 2, 0}, {1, 2, 3, 0}, {1, 2, 3, 4, 0}} {
		s := made(t, 1, len(want), 1, 3)
		if e := till.Lay(s, 0, 0, len(want)-1); e != api.OK || !slices.Equal(ram(s), want) {
			t.Fatal(e, ram(s), want)
		}
	}
	s := made(t, 1, 65536, 1, 3)
	if e := till.Lay(s, 0, 65503, 32); e != api.OK {
		t.Fatal(e)
	}
	if l := ram(s)[65503:]; l[0] != 1 || l[1] != 2 || l[31] != 32 || l[32] != 0 || len(l) != 33 {
		t.Fatal(l)
	}
}

// P18.1: base and items out of their ranges, whatever the core and the soc are like, change nothing.
func TestLayArguments(t *testing.T) {
	s := made(t, 4, 65536, 1, 4)
	s.Hold(1)
	s.Write(0, 5, 6)
	s.Write(2, 7, 8)
	was := s.Clone()
	lay := func(core, base, items int) {
		t.Helper()
		if e := till.Lay(s, core, base, items); e != api.ErrArg || !soc.Same(s, was) {
			t.Fatalf("Lay(%d, %d, %d) = %d", core, base, items, e)
		}
	}
	for _, core := range append([]int{0, 1, 2, 3, 4, 7, 8, -1}, far...) {
		for _, n := range append([]int{-1, 65536}, far...) {
			lay(core, n, 1)
			lay(core, n, 32)
			lay(core, n, n)
		}
		for _, n := range append([]int{0, -1, 33, 34, 64, 65535, 65536}, far...) {
			lay(core, 0, n)
			lay(core, 65535, n)
		}
	}
	for n := -40; n <= 80; n++ {
		if e := till.Lay(s, 0, 0, n); (e == api.OK) != (1 <= n && n <= 32) || e != api.OK && e != api.ErrArg {
			t.Error("items", n, e)
		}
	}
	for _, n := range []int{0, 1, 32768, 65534} {
		if e := till.Lay(s, 0, n, 1); e != api.OK {
			t.Error("base", n, e)
		}
	}
}

// P18.1: Lay does not ask for anything but base and items: the soc rejects cores, also those beyond the limit of tills.
func TestLayFirstError(t *testing.T) {
	s := made(t, 4, 64, 1, 4)
	s.Hold(1)
	s.Write(0, 5, 6)
	was := s.Clone()
	lay := func(want api.Errno, core, base, items int) {
		t.Helper()
		if e := till.Lay(s, core, base, items); e != want || !soc.Same(s, was) {
			t.Fatalf("Lay(%d, %d, %d) = %d, want %d", core, base, items, e, want)
		}
	}
	for _, n := range append([]int{-1, 4, 5, 7, 8, 9, 65535, 65536}, far...) {
		lay(api.ErrCore, n, 0, 1)
		lay(api.ErrCore, n, 64, 32)
	}
	lay(api.ErrOff, 1, 0, 1)
	lay(api.ErrOff, 1, 64, 32)
	for _, core := range []int{0, 2, 3} {
		for _, base := range []int{64, 65, 100, 65535} {
			lay(api.ErrAddr, core, base, 1)
			lay(api.ErrAddr, core, base, 32)
		}
	}
}

// P18.1: for a list of which only the first words are in the memory, Lay writes those, in their order, and drains nothing.
func TestLayStops(t *testing.T) {
	for items := 1; items <= 32; items++ {
		for inside := 1; inside <= items; inside++ {
			for _, buf := range []int{1, 2, 5, 16} {
				s := made(t, 2, 10+inside, 1, buf)
				set(s, 10, slices.Repeat([]int{777}, inside)...)
				if e := till.Lay(s, 1, 10, items); e != api.ErrAddr {
					t.Fatal(items, inside, e)
				}
				// The last stores wait, the oldest ones have made room for them.
				waits := min(inside, buf)
				var cells []complex128
				for i := inside - waits; i < inside; i++ {
					cells = append(cells, complex(float64(10+i), float64(i+1)))
				}
				memory := slices.Concat(make([]int, 10), chain(items)[:inside-waits], slices.Repeat([]int{777}, waits))
				if !slices.Equal(s.Waits(1), cells) || !slices.Equal(ram(s), memory) || len(s.Waits(0)) != 0 {
					t.Fatal(items, inside, buf, s.Waits(1), ram(s))
				}
			}
		}
	}
}

// P18.1: a Lay without an error drains the core's earlier stores too, and those of no other core.
func TestLayDrains(t *testing.T) {
	for buf := 1; buf <= 16; buf++ {
		s := made(t, 3, 70, 1, buf)
		for core := range 3 {
			s.Write(core, 40+core, 5)
			// Lay writes this word again, behind the core's earlier store.
			s.Write(core, 3, 9)
		}
		c := s.Clone()
		if e := till.Lay(s, 1, 2, 4); e != api.OK {
			t.Fatal(e)
		}
		for i, w := range []int{1, 2, 3, 4, 0} {
			c.Write(1, 2+i, w)
		}
		c.Fence(1)
		if !soc.Same(s, c) || len(s.Waits(1)) != 0 || len(s.Waits(0)) != min(2, buf) || len(s.Waits(2)) != min(2, buf) {
			t.Fatal(buf, tell(s), tell(c))
		}
		if l := ram(s); l[41] != 5 || !slices.Equal(l[2:7], []int{1, 2, 3, 4, 0}) {
			t.Fatal(l)
		}
	}
}

// P18.1: a Lay with an error leaves the stores pending, the earlier ones too.
func TestLayDrainsNot(t *testing.T) {
	s := made(t, 2, 8, 1, 4)
	s.Write(0, 0, 5)
	s.Write(1, 1, 6)
	if e := till.Lay(s, 0, 6, 2); e != api.ErrAddr || !slices.Equal(s.Waits(0), []complex128{5i, 6 + 1i, 7 + 2i}) || !slices.Equal(s.Waits(1), []complex128{1 + 6i}) {
		t.Fatal(e, tell(s))
	}
	if !slices.Equal(ram(s), make([]int, 8)) {
		t.Fatal(ram(s))
	}
	// The buffer has room for one more store.
	if e := till.Lay(s, 0, 5, 3); e != api.ErrAddr || !slices.Equal(s.Waits(0), []complex128{7 + 2i, 5 + 1i, 6 + 2i, 7 + 3i}) {
		t.Fatal(e, tell(s))
	}
	if !slices.Equal(ram(s), []int{5, 0, 0, 0, 0, 0, 1, 0}) {
		t.Fatal(ram(s))
	}
	if e := till.Lay(s, 0, 8, 1); e != api.ErrAddr || len(s.Waits(0)) != 4 {
		t.Fatal(e, tell(s))
	}
}

// P18.1: a list that ends where the memory of 65536 words ends; behind it there are the registers of mailboxes, which soc.Write writes or does not.
func TestLayAtTheEnd(t *testing.T) {
	for items := 1; items <= 32; items++ {
		for outside := 0; outside <= items; outside++ {
			base := 65535 - items + outside
			for core := range 3 {
				s := made(t, 3, 65536, 1, 2)
				for i := range 3 {
					s.Write(i, 65552, 0)
					s.Write(i, 65538+16*core, 99)
				}
				s.Write(core, 1, 2)
				c, want := s.Clone(), api.OK
				for i, w := range chain(items) {
					if want = c.Write(core, base+i, w); want != api.OK {
						break
					}
				}
				if want == api.OK {
					c.Fence(core)
				}
				// Of registers outside the memory only register 0 of the own mailbox can be written ahead of register 1.
				if known := outside == 0 || outside == 1 && core == 0; (want == api.OK) != known {
					t.Fatal(want, items, outside, core)
				}
				if e := till.Lay(s, core, base, items); e != want || !soc.Same(s, c) {
					t.Fatal(e, want, items, outside, core, s.Waits(core), c.Waits(core))
				}
			}
		}
	}
}

// P18.1: a list that is laid again is whole again, whatever its words were.
func TestLayAgain(t *testing.T) {
	s := laid(t, 3, 5, 4)
	k := tillOf(t, 3, 5, 0, 0)
	for i := range 5 {
		ends(t, k, s, what{}, api.OK)
		owns(t, k, upTo(i+1)...)
	}
	ends(t, k, s, what{}, api.ErrEmpty)
	for range 2 {
		if e := till.Lay(s, 2, 3, 5); e != api.OK || !slices.Equal(ram(s)[3:9], chain(5)) {
			t.Fatal(e, ram(s))
		}
	}
}

// P18.2, P18.3: all items of lists of every length, taken in their order, and put back in every rotation.
func TestPopAndPush(t *testing.T) {
	for items := 1; items <= 32; items++ {
		p := paired(t, laid(t, 20, items, 1+items%16), 20, items, items%16, items%8)
		for i := range items {
			p.pops(api.OK, 1)
			owns(t, p.k, upTo(i+1)...)
		}
		p.pops(api.ErrEmpty, 2)
		for by := range items {
			p.pushes(append(upTo(items)[by:], upTo(by)...)...)
			owns(t, p.k)
			var want []int
			for i := range items {
				p.pops(api.OK, 1)
				// The last item that was put back is the first one.
				want = append(want, (by-1-i+2*items)%items)
				owns(t, p.k, want...)
			}
			p.pops(api.ErrEmpty, 1)
		}
	}
}

// P18.3: the accesses of a Pop and a Push in their order, written out.
func TestAccesses(t *testing.T) {
	p := paired(t, laid(t, 10, 3, 4), 10, 3, 5, 2)
	lock := 65792 + 5
	p.pops(api.OK, 1)
	p.touches(reads(lock, 1), reads(10, 1), reads(11, 2), writes(10, 2), writes(lock, 0))
	p.pops(api.OK, 1)
	p.touches(reads(lock, 1), reads(10, 2), reads(12, 3), writes(10, 3), writes(lock, 0))
	p.pushes(0)
	p.touches(reads(lock, 1), reads(10, 3), writes(11, 3), writes(10, 1), writes(lock, 0))
	p.pops(api.OK, 2)
	p.touches(reads(lock, 1), reads(10, 3), reads(13, 0), writes(10, 0), writes(lock, 0))
	p.pops(api.ErrEmpty, 1)
	p.touches(reads(lock, 1), reads(10, 0), writes(lock, 0))
	p.pushes(1)
	p.touches(reads(lock, 1), reads(10, 0), writes(12, 0), writes(10, 2), writes(lock, 0))
	p.set(10, 4)
	p.pops(api.ErrCorrupt, 1)
	p.touches(reads(lock, 1), reads(10, 4), writes(lock, 0))
	p.set(10, 3, 0, 0, 4)
	p.pops(api.ErrCorrupt, 1)
	p.touches(reads(lock, 1), reads(10, 3), reads(13, 4), writes(lock, 0))
}

// progress returns a till of core 4 with lock 9, at base 30, whose call on s has made so many steps. It owns the items 0, 1 and 2 of five ahead of the call.
func progress(t testing.TB, x what, steps int) (k *till.Till, s *soc.Soc) {
	t.Helper()
	s, k = laid(t, 30, 5, 4), tillOf(t, 30, 5, 9, 4)
	for range 3 {
		ends(t, k, s, what{}, api.OK)
	}
	if e := x.begin(k); e != api.OK {
		t.Fatal(e)
	}
	for range steps {
		if done, e := k.Step(s); done || e != api.OK {
			t.Fatal(x, steps, done, e)
		}
	}
	return k, s
}

// sequence returns the accesses of a call that progress has begun: with the words that it writes, and 0 for those that it reads.
func sequence(x what) []touch {
	if x.push {
		return []touch{reads(65801, 0), reads(30, 0), writes(31+x.item, 4), writes(30, x.item+1), writes(65801, 0)}
	}
	return []touch{reads(65801, 0), reads(30, 0), reads(34, 0), writes(30, 5), writes(65801, 0)}
}

// steps calls f for each access of a Pop and of Pushes: with the call, the number of the access, and the access.
func steps(f func(x what, i int, at touch)) {
	for _, x := range []what{{}, {true, 0}, {true, 1}, {true, 2}} {
		for i, at := range sequence(x) {
			f(x, i, at)
		}
	}
}

// P18.3: each step makes its access at its address and nowhere else, as a memory or a bank of another size shows.
func TestAccessAddress(t *testing.T) {
	steps(func(x what, i int, at touch) {
		for words := 1; words <= 64; words++ {
			for _, locks := range []int{1, 9, 10, 16} {
				k, _ := progress(t, x, i)
				s := made(t, 8, words, locks, 2)
				if i == 4 {
					s.Read(4, lockAt(9))
				}
				was := s.Clone()
				missing := at.addr < 65536 && at.addr >= words || at.addr > 65536 && at.addr >= lockAt(locks)
				done, e := k.Step(s)
				if missing && (!done || e != api.ErrAddr || !soc.Same(s, was)) || !missing && (done != (i == 4) || e != api.OK) {
					t.Fatalf("%+v, access %d with %d words and %d locks: %v, %d", x, i+1, words, locks, done, e)
				}
			}
		}
	})
}

// P18.3: each step makes its access as the core of the till, and of the kind that is told.
func TestAccessKind(t *testing.T) {
	steps(func(x what, i int, at touch) {
		k, _ := progress(t, x, i)
		s := made(t, 8, 64, 16, 3)
		for core := range 8 {
			if i != 4 || core != 4 {
				s.Read(core, lockAt(core))
				s.Write(core, 60, core)
			}
		}
		if i == 4 {
			s.Read(4, lockAt(9))
		}
		c := s.Clone()
		if at.write {
			c.Write(4, at.addr, at.word)
		} else {
			c.Read(4, at.addr)
		}
		if done, e := k.Step(s); done != (i == 4) || e != api.OK || !soc.Same(s, c) {
			t.Fatal(x, i, done, e, tell(s), tell(c))
		}
		if l := s.Waits(4); at.write && i < 4 && (len(l) != 2 || l[1] != complex(float64(at.addr), float64(at.word))) {
			t.Fatal(x, i, l)
		}
	})
}

// P18.3: other cores do not matter: they may be held, or lack.
func TestAccessCore(t *testing.T) {
	steps(func(x what, i int, at touch) {
		for cores := 1; cores <= 8; cores++ {
			k, _ := progress(t, x, i)
			s := made(t, cores, 64, 16, 2)
			for core := range cores {
				if core != 4 {
					s.Hold(core)
				}
			}
			if i == 4 {
				s.Read(4, lockAt(9))
			}
			done, e := k.Step(s)
			if cores <= 4 && (!done || e != api.ErrCore) || cores > 4 && (done != (i == 4) || e != api.OK) {
				t.Fatal(x, i, cores, done, e)
			}
		}
	})
}

// P18.3: a Pop and a Push use what a read finds when it is made, and no earlier or later word.
func TestReadWhenMade(t *testing.T) {
	p := paired(t, laid(t, 30, 5, 4), 30, 5, 9, 4)
	p.pops(api.OK, 2)
	// Ahead of each access both words that may be read are others.
	p.m.change = func(s *soc.Soc, n int) {
		set(s, 30, []int{1, 4, 5, 3, 2}[n])
		set(s, 31, 5, 4, 3, []int{1, 2, 5, 3, 4}[n], 1)
	}
	p.does(api.OK, what{})
	p.touches(reads(65801, 1), reads(30, 4), reads(34, 5), writes(30, 5), writes(65801, 0))
	owns(t, p.k, 0, 1, 3)
	p.pushes(1)
	p.touches(reads(65801, 1), reads(30, 4), writes(32, 4), writes(30, 2), writes(65801, 0))
	owns(t, p.k, 0, 3)
}

// P18.3: while another core owns the lock, each step tries it again, and nothing else is read or written.
func TestLockTaken(t *testing.T) {
	for tries := range 20 {
		for _, x := range []what{{}, {true, 1}} {
			p := paired(t, laid(t, 30, 5, 4), 30, 5, 9, 4)
			p.pops(api.OK, 2)
			p.both(func(s *soc.Soc) { s.Read(6, lockAt(9)) })
			p.m.change = func(s *soc.Soc, n int) {
				// HEAD is corrupt until the lock is free, and stores of the core stand in its buffer.
				if n < tries {
					owner(t, s, 9, 6)
					set(s, 30, 6+n)
					s.Write(4, 50, n)
				}
				if n == tries {
					set(s, 30, 5)
					s.Write(6, lockAt(9), 0)
				}
			}
			p.does(api.OK, x)
			if len(p.m.behind) != tries+5 || p.m.touches[tries] != reads(65801, 1) {
				t.Fatal(tries, p.m.touches)
			}
			for i := range tries {
				// The try drains the core's stores, as soc.Read does.
				if p.m.touches[i] != reads(65801, 0) || len(p.m.behind[i].Waits(4)) != 0 || ram(p.m.behind[i])[50] != i {
					t.Fatal(tries, i, p.m.touches, tell(p.m.behind[i]))
				}
			}
		}
	}
}

// P18.3: with a memory of which nothing of the list exists, a try that fails is no error: no word of the list is read.
func TestLockTakenAlone(t *testing.T) {
	for _, x := range []what{{}, {true, 2}} {
		k, _ := progress(t, x, 0)
		s := made(t, 8, 1, 16, 2)
		s.Read(1, lockAt(9))
		was := s.Clone()
		for range 100 {
			if done, e := k.Step(s); done || e != api.OK || !soc.Same(s, was) || !k.Busy() {
				t.Fatal(done, e, tell(s))
			}
		}
		s.Write(1, lockAt(9), 0)
		if done, e := k.Step(s); done || e != api.OK {
			t.Fatal(done, e)
		}
		owner(t, s, 9, 4)
		if done, e := k.Step(s); !done || e != api.ErrAddr {
			t.Fatal(done, e)
		}
	}
}

// P18.3: the other locks do not matter, and a core that owns the lock already tries it in vain.
func TestLocks(t *testing.T) {
	for lock := range 16 {
		s := laid(t, 0, 2, 4)
		for i := range 16 {
			if i != lock {
				s.Read(7-i%8, lockAt(i))
			}
		}
		p := paired(t, s, 0, 2, lock, 3)
		p.pops(api.OK, 1)
		p.pushes(0)
		p.both(func(s *soc.Soc) { s.Read(3, lockAt(lock)) })
		p.m.change = func(s *soc.Soc, n int) {
			if n == 4 {
				s.Write(3, lockAt(lock), 0)
			}
		}
		p.pops(api.OK, 1)
		if len(p.m.behind) != 9 {
			t.Fatal(p.m.touches)
		}
	}
}

// around returns words at the limits of a list with so many items.
func around(items int) []int {
	list := []int{0, 1, 2, items - 1, items, items + 1, items + 2, 32, 33, 34, 64, 255, 256, 32767, 32768, 65534, 65535, 65536 - items}
	slices.Sort(list)
	return slices.Compact(list)
}

// P18.3: a Pop with every word at HEAD and at NEXT that matters.
func TestPopWords(t *testing.T) {
	for _, items := range []int{1, 2, 3, 4, 16, 31, 32} {
		for _, head := range around(items) {
			for _, next := range around(items) {
				p := paired(t, laid(t, 20, items, 4), 20, items, 1, 5)
				p.pops(api.OK, 1)
				p.set(20, slices.Repeat([]int{next}, items+1)...)
				p.set(20, head)
				was := ram(p.s)
				want := api.OK
				switch {
				case head == 0:
					want = api.ErrEmpty
				case head > items || next > items:
					want = api.ErrCorrupt
				}
				p.does(want, what{})
				owner(t, p.s, 1, -1)
				if want != api.OK {
					owns(t, p.k, 0)
					if !slices.Equal(ram(p.s), was) || len(p.s.Waits(5)) != 0 {
						t.Fatal(items, head, next, tell(p.s))
					}
					if steps := len(p.m.behind); steps != 3 && head > items || steps != 4 && head > 0 && head <= items {
						t.Fatal(items, head, next, p.m.touches)
					}
					continue
				}
				owns(t, p.k, 0, head-1)
				was[20] = next
				if !slices.Equal(ram(p.s), was) {
					t.Fatal(items, head, next, tell(p.s))
				}
			}
		}
	}
}

// P18.3: a Push with every word at HEAD that matters, which it writes whatever it is.
func TestPushWords(t *testing.T) {
	for _, items := range []int{1, 2, 3, 4, 16, 31, 32} {
		for _, head := range around(items) {
			for _, item := range []int{0, items / 2, items - 1} {
				p := paired(t, laid(t, 20, items, 4), 20, items, 1, 5)
				p.pops(api.OK, items)
				p.set(20, slices.Repeat([]int{777}, items+1)...)
				p.set(20, head)
				was := ram(p.s)
				p.pushes(item)
				p.touches(reads(65793, 1), reads(20, head), writes(21+item, head), writes(20, item+1), writes(65793, 0))
				owner(t, p.s, 1, -1)
				owns(t, p.k, slices.Delete(upTo(items), item, item+1)...)
				was[20], was[21+item] = item+1, head
				if !slices.Equal(ram(p.s), was) {
					t.Fatal(items, head, item, tell(p.s))
				}
				// What the Push has hidden shows itself to the next Pop.
				if head > items {
					p.pops(api.ErrCorrupt, 1)
				} else {
					p.pops(api.OK, 1)
				}
			}
		}
	}
}

// P18.2: during a call, of which nothing changes, and after one; ErrBusy precedes ErrHandle.
func TestBusy(t *testing.T) {
	for _, x := range []what{{}, {true, 0}, {true, 1}, {true, 2}} {
		for i := range 5 {
			k, s := progress(t, x, i)
			was := s.Clone()
			for range 2 {
				if e := k.Pop(); e != api.ErrBusy {
					t.Fatalf("Pop() = %d", e)
				}
				for _, n := range append([]int{0, 1, 2, 3, 4, 5, -1}, far...) {
					if e := k.Push(n); e != api.ErrBusy {
						t.Fatalf("Push(%d) = %d", n, e)
					}
				}
			}
			if !k.Busy() || !soc.Same(s, was) || !slices.Equal(k.Mine(), []int{0, 1, 2}) {
				t.Fatal(x, i, k.Mine(), tell(s))
			}
			// The call goes on where it was, as what it was.
			for n := i; n < 5; n++ {
				if done, e := k.Step(s); done != (n == 4) || e != api.OK {
					t.Fatal(x, i, n, done, e)
				}
			}
			want := []int{0, 1, 2, 3}
			if x.push {
				want = slices.Delete([]int{0, 1, 2}, x.item, x.item+1)
			}
			owns(t, k, want...)
			ends(t, k, s, what{}, api.OK)
			ends(t, k, s, what{true, want[0]}, api.OK)
		}
	}
}

// P18.2: a till that waits for the lock has a call in progress.
func TestBusyWaiting(t *testing.T) {
	k, s := progress(t, what{}, 0)
	s.Read(0, lockAt(9))
	for range 30 {
		if done, e := k.Step(s); done || e != api.OK || !k.Busy() || k.Pop() != api.ErrBusy || k.Push(0) != api.ErrBusy || k.Push(9) != api.ErrBusy {
			t.Fatal(done, e)
		}
	}
}

// P18.2: a Push of anything but an item of MINE begins no call and changes nothing.
func TestPushErrors(t *testing.T) {
	s := laid(t, 30, 5, 4)
	a, b := tillOf(t, 30, 5, 9, 4), tillOf(t, 30, 5, 9, 1)
	refused := func(k *till.Till, list ...int) {
		t.Helper()
		mine, was := k.Mine(), s.Clone()
		for _, n := range append(list, far...) {
			if e := k.Push(n); e != api.ErrHandle {
				t.Fatalf("Push(%d) = %d with %v", n, e, mine)
			}
			owns(t, k, mine...)
			if done, e := k.Step(s); !done || e != api.ErrIdle || !soc.Same(s, was) {
				t.Fatal(n, done, e)
			}
		}
	}
	refused(a, 0, 1, 2, 3, 4, 5, 6, -1, 30, 31, 32)
	ends(t, a, s, what{}, api.OK)
	ends(t, b, s, what{}, api.OK)
	ends(t, a, s, what{}, api.OK)
	// 0 and 2 are a's, 1 is b's, 3 and 4 are in the list.
	refused(a, 1, 3, 4, 5, 6, -1, 32, 0+1<<32, 2+1<<32)
	refused(b, 0, 2, 3, 4, 5, 6, -1, 32, 1+1<<32)
	ends(t, a, s, what{true, 0}, api.OK)
	refused(a, 0, 1, 3, 4, 5, -1)
	refused(b, 0, 2, 3, 4, 5, -1)
	ends(t, b, s, what{}, api.OK)
	owns(t, b, 1, 0)
	refused(a, 0, 1, 3, 4, 5, -1)
	ends(t, a, s, what{true, 2}, api.OK)
	refused(a, 0, 1, 2, 3, 4, 5, -1)
	ends(t, b, s, what{true, 1}, api.OK)
	ends(t, b, s, what{true, 0}, api.OK)
	refused(b, 0, 1, 2, 3, 4, 5, -1)
}

// P18.3: without a call in progress there is no access, on whatever soc.
func TestStepIdle(t *testing.T) {
	s := laid(t, 30, 3, 4)
	p := paired(t, s, 30, 3, 9, 4)
	off := s.Clone()
	off.Hold(4)
	idle := func() {
		t.Helper()
		for _, s := range []*soc.Soc{s, off, made(t, 1, 1, 1, 1), nil} {
			was := s.Clone()
			for range 3 {
				if done, e := p.k.Step(s); !done || e != api.ErrIdle || !soc.Same(s, was) {
					t.Fatalf("Step() = %v, %d", done, e)
				}
			}
		}
		p.expect(false, p.m.mine)
	}
	idle()
	p.pops(api.OK, 1)
	idle()
	p.pushes(0)
	idle()
	p.pops(api.OK, 3)
	idle()
	p.pops(api.ErrEmpty, 1)
	idle()
	p.set(30, 4)
	p.pops(api.ErrCorrupt, 1)
	idle()
	if e := p.k.Push(3); e != api.ErrHandle {
		t.Fatal(e)
	}
	idle()
	p.m.change = func(s *soc.Soc, n int) {
		if n == 2 {
			s.Hold(4)
		}
	}
	p.does(api.ErrOff, what{true, 1})
	idle()
}

// P18.3: an error that the soc returns at each of the accesses: the call ends with it, nothing is owned that was not, and the next call begins with the lock again.
func TestAccessErrors(t *testing.T) {
	socs := []struct {
		want api.Errno
		of   func(t *testing.T) *soc.Soc
		all  bool // whether the error is returned at every access
	}{
		{api.ErrNone, func(t *testing.T) *soc.Soc { return nil }, true},
		{api.ErrCore, func(t *testing.T) *soc.Soc { return made(t, 4, 64, 16, 2) }, true},
		{api.ErrOff, func(t *testing.T) *soc.Soc {
			s := made(t, 8, 64, 16, 2)
			s.Hold(4)
			return s
		}, true},
		{api.ErrAddr, func(t *testing.T) *soc.Soc { return made(t, 8, 30, 9, 2) }, true},
		{api.ErrLock, func(t *testing.T) *soc.Soc { return made(t, 8, 64, 16, 2) }, false},
		{api.ErrLock, func(t *testing.T) *soc.Soc {
			s := made(t, 8, 64, 16, 2)
			s.Read(5, lockAt(9))
			return s
		}, false},
	}
	for _, of := range socs {
		steps(func(x what, i int, at touch) {
			if i < 4 && !of.all {
				return
			}
			k, s := progress(t, x, i)
			bad := of.of(t)
			bad.Write(4, 3, 3)
			was := bad.Clone()
			if done, e := k.Step(bad); !done || e != of.want || !soc.Same(bad, was) {
				t.Fatal(x, i, done, e, of.want)
			}
			owns(t, k, 0, 1, 2)
			if done, e := k.Step(s); !done || e != api.ErrIdle {
				t.Fatal(x, i, done, e)
			}
			// Nothing remains of the call but what its accesses have done: with the lock it goes on owning it.
			if i > 0 {
				owner(t, s, 9, 4)
				s.Write(4, lockAt(9), 0)
			}
			again(t, k, s, x, i)
		})
	}
}

// again makes calls behind one that has ended with an error at its access i.
func again(t *testing.T, k *till.Till, s *soc.Soc, x what, i int) {
	t.Helper()
	if x.push && i == 4 {
		// HEAD refers to the item, which the till goes on owning.
		ends(t, k, s, what{}, api.OK)
		owns(t, k, 0, 1, 2, x.item)
		return
	}
	if i == 4 {
		// HEAD no longer refers to item 3, which nobody owns.
		ends(t, k, s, what{}, api.OK)
		owns(t, k, 0, 1, 2, 4)
		return
	}
	for _, item := range []int{2, 0, 1} {
		ends(t, k, s, what{true, item}, api.OK)
	}
	for range 5 {
		ends(t, k, s, what{}, api.OK)
	}
	owns(t, k, 1, 0, 2, 3, 4)
	ends(t, k, s, what{}, api.ErrEmpty)
}

// P18.3: an error at the last access precedes the result with which it is reached.
func TestFreeErrors(t *testing.T) {
	for _, head := range []int{0, 6, 65535} {
		for _, want := range []api.Errno{api.ErrLock, api.ErrOff} {
			p := paired(t, laid(t, 30, 5, 4), 30, 5, 9, 4)
			p.pops(api.OK, 2)
			p.set(30, head)
			p.m.change = func(s *soc.Soc, n int) {
				if n == 2 {
					s.Hold(4)
					if want == api.ErrLock {
						s.Start(4)
					}
				}
			}
			p.does(want, what{})
			owns(t, p.k, 0, 1)
			p.m.change = nil
			if want == api.ErrOff {
				p.pops(api.ErrOff, 3)
				p.does(api.ErrOff, what{true, 1})
				p.both(func(s *soc.Soc) { s.Start(4) })
			}
			p.pushes(0)
			owns(t, p.k, 1)
		}
	}
}

// P18.3: a core that is held and started again during a call has lost the lock, which another core may own then.
func TestReset(t *testing.T) {
	steps(func(x what, i int, at touch) {
		for _, taken := range []bool{false, true} {
			p := paired(t, laid(t, 30, 5, 4), 30, 5, 9, 4)
			p.pops(api.OK, 3)
			p.m.change = func(s *soc.Soc, n int) {
				if n == i {
					s.Hold(4)
					s.Start(4)
					if taken && i > 0 {
						s.Read(2, lockAt(9))
					}
				}
			}
			want := api.ErrLock
			if i == 0 {
				want = api.OK
			}
			p.does(want, x)
			if i > 0 {
				owns(t, p.k, 0, 1, 2)
			}
		}
	})
}

// P18.3: a list whose words are the registers of mailboxes, by the literal text: what soc.Read and soc.Write do there, and an error that no other word has.
func TestFullMailbox(t *testing.T) {
	s := made(t, 3, 65536, 1, 4)
	p := paired(t, s, 65535, 32, 0, 1)
	// NEXT of item 18 is register 2 of core 1's mailbox: the number of words in it.
	p.both(func(s *soc.Soc) {
		for range 3 {
			s.Write(0, 65554, 9)
		}
	})
	p.set(65535, 19)
	p.pops(api.OK, 1)
	p.touches(reads(65792, 1), reads(65535, 19), reads(65554, 3), writes(65535, 3), writes(65792, 0))
	owns(t, p.k, 18)
	p.pops(api.ErrAddr, 1)
	// NEXT of item 2 is register 2 of core 0's mailbox, which core 1 cannot read, and the lock has not been freed.
	p.touches(reads(65792, 1), reads(65535, 3))
	owner(t, p.s, 0, 1)
	free := func(s *soc.Soc) { s.Write(1, 65792, 0) }
	p.both(free)
	p.pushes(18)
	if bits, n := p.s.Mail(1); bits != 3 || n != 4 {
		t.Fatal(bits, n)
	}
	p.pops(api.OK, 1)
	p.both(func(s *soc.Soc) {
		for range 12 {
			s.Write(0, 65554, 9)
		}
	})
	p.does(api.ErrFull, what{true, 18})
	owner(t, p.s, 0, 1)
	owns(t, p.k, 18)
}

// P18.3: a list of which only a part is in the memory.
func TestPartOfList(t *testing.T) {
	s := made(t, 2, 13, 1, 4)
	if e := till.Lay(s, 0, 10, 4); e != api.ErrAddr {
		t.Fatal(e)
	}
	s.Fence(0)
	p := paired(t, s, 10, 4, 0, 0)
	p.pops(api.OK, 2)
	// NEXT of item 2 is not in the memory.
	p.pops(api.ErrAddr, 1)
	owner(t, p.s, 0, 0)
	owns(t, p.k, 0, 1)
	p.both(func(s *soc.Soc) { s.Write(0, lockAt(0), 0) })
	p.pushes(0)
	p.pops(api.OK, 1)
	owns(t, p.k, 1, 0)
	k := tillOf(t, 13, 4, 0, 0)
	ends(t, k, p.s, what{}, api.ErrAddr)
}

// P18.3: the stores that stand in the core's buffer are in the memory when the lock is free, and those of other cores remain.
func TestFreeDrains(t *testing.T) {
	for buf := 1; buf <= 16; buf++ {
		for _, x := range []what{{}, {true, 0}, {true, 1}} {
			p := paired(t, laid(t, 30, 5, buf), 30, 5, 9, 4)
			p.pops(api.OK, 3)
			p.both(func(s *soc.Soc) { s.Write(3, 60, 1) })
			p.m.change = func(s *soc.Soc, n int) {
				if n > 0 {
					s.Write(4, 50+n, n)
				}
			}
			p.does(api.OK, x)
			own := 5
			if x.push {
				own = 6
			}
			// Ahead of the last access they wait, as far as there is room for them.
			if n := len(p.m.behind[3].Waits(4)); n != min(own-1, buf) {
				t.Fatal(buf, n)
			}
			if len(p.s.Waits(4)) != 0 || len(p.s.Waits(3)) != 1 || !slices.Equal(ram(p.s)[51:55], []int{1, 2, 3, 4}) {
				t.Fatal(buf, tell(p.s))
			}
			want := []int{4, 2, 3, 4, 5, 0}
			if x.push {
				want[0], want[1+x.item] = x.item+1, 4
			} else {
				want[0] = 5
			}
			if !slices.Equal(ram(p.s)[30:36], want) {
				t.Fatal(buf, x, tell(p.s))
			}
		}
	}
}

// P18.3: a Pop and a Push store nothing but HEAD and NEXT of the item, which other cores see when the lock is free, not before it with this capacity.
func TestSeenBehindFree(t *testing.T) {
	for _, x := range []what{{}, {true, 1}} {
		for i := range 5 {
			k, s := progress(t, x, i)
			if l := ram(s)[30:36]; !slices.Equal(l, []int{4, 2, 3, 4, 5, 0}) {
				t.Fatal(x, i, l)
			}
			if n := max(i-2, 0); x.push && len(s.Waits(4)) != n || !x.push && len(s.Waits(4)) != n/2 {
				t.Fatal(x, i, s.Waits(4))
			}
			for !must(k.Step(s)) {
			}
			want := []int{5, 2, 3, 4, 5, 0}
			if x.push {
				want = []int{2, 2, 4, 4, 5, 0}
			}
			if l := ram(s)[30:36]; !slices.Equal(l, want) || len(s.Waits(4)) != 0 {
				t.Fatal(x, i, l)
			}
		}
	}
}

// must returns whether a call has ended, which must be with OK.
func must(done bool, e api.Errno) bool {
	if e != api.OK {
		panic(e)
	}
	return done
}

// P18.3, P18.4: MINE in the order in which the items were taken, also if some in its midst were put back and taken again.
func TestMineOrder(t *testing.T) {
	p := paired(t, laid(t, 20, 8, 4), 20, 8, 3, 6)
	p.pops(api.OK, 6)
	owns(t, p.k, 0, 1, 2, 3, 4, 5)
	p.pushes(2)
	owns(t, p.k, 0, 1, 3, 4, 5)
	p.pushes(4)
	owns(t, p.k, 0, 1, 3, 5)
	p.pops(api.OK, 1)
	owns(t, p.k, 0, 1, 3, 5, 4)
	p.pushes(0)
	owns(t, p.k, 1, 3, 5, 4)
	p.pops(api.OK, 3)
	owns(t, p.k, 1, 3, 5, 4, 0, 2, 6)
	p.pushes(4, 6, 1)
	owns(t, p.k, 3, 5, 0, 2)
	p.pops(api.OK, 4)
	owns(t, p.k, 3, 5, 0, 2, 1, 6, 4, 7)
	p.pops(api.ErrEmpty, 1)
	p.pushes(3, 5, 0, 2, 1, 6, 4, 7)
	owns(t, p.k)
	p.pops(api.OK, 8)
	owns(t, p.k, 7, 4, 6, 1, 2, 0, 5, 3)
}

// P18.3: an item that a corrupt list holds twice is taken twice, by the literal text, and a Push puts it back once: the first one.
func TestTakenTwice(t *testing.T) {
	p := paired(t, laid(t, 20, 3, 4), 20, 3, 3, 6)
	p.set(21, 2, 1)
	p.pops(api.OK, 5)
	owns(t, p.k, 0, 1, 0, 1, 0)
	p.pushes(1)
	owns(t, p.k, 0, 0, 1, 0)
	p.pushes(0, 0)
	owns(t, p.k, 1, 0)
	p.pushes(0)
	owns(t, p.k, 1)
	if e := p.k.Push(0); e != api.ErrHandle {
		t.Fatal(e)
	}
}

// P18.4: Busy and Mine ahead of a call, between its steps, and behind them.
func TestBusyAndMine(t *testing.T) {
	s, k := laid(t, 30, 3, 4), tillOf(t, 30, 3, 9, 4)
	for round := range 3 {
		owns(t, k, upTo(round)...)
		if e := k.Pop(); e != api.OK {
			t.Fatal(e)
		}
		for i := range 5 {
			if !k.Busy() || !slices.Equal(k.Mine(), upTo(round)) {
				t.Fatal(round, i, k.Busy(), k.Mine())
			}
			k.Step(s)
		}
		owns(t, k, upTo(round+1)...)
	}
	for round := range 3 {
		if e := k.Push(round); e != api.OK {
			t.Fatal(e)
		}
		for i := range 5 {
			if !k.Busy() || !slices.Equal(k.Mine(), upTo(3)[round:]) {
				t.Fatal(round, i, k.Busy(), k.Mine())
			}
			k.Step(s)
		}
		owns(t, k, upTo(3)[round+1:]...)
	}
}

// P18.4: each list is new memory, also beyond its length: changes of it do not matter, and later calls do not change it.
func TestLists(t *testing.T) {
	spoil := func(l []int) {
		l = l[:cap(l)]
		for i := range l {
			l[i] = 99
		}
	}
	p := paired(t, laid(t, 20, 8, 4), 20, 8, 3, 6)
	p.m.change = func(s *soc.Soc, n int) { spoil(p.k.Mine()) }
	kept, was := [][]int{}, [][]int{}
	check := func() {
		t.Helper()
		kept, was = append(kept, p.k.Mine()), append(was, slices.Clone(p.m.mine))
		for i := range kept {
			if !slices.Equal(kept[i], was[i]) {
				t.Fatalf("%v has become %v", was[i], kept[i])
			}
		}
		a, b := p.k.Mine(), p.k.Mine()
		spoil(a)
		if !slices.Equal(b, p.m.mine) || !slices.Equal(p.k.Mine(), p.m.mine) {
			t.Fatal(b, p.k.Mine(), p.m.mine)
		}
		_ = append(p.k.Mine(), 88)
		p.expect(false, p.m.mine)
	}
	check()
	for _, item := range []int{-1, -1, -1, -1, 1, 3, -1, 0, -1, -1, -1, 2, 1, -1, -1} {
		p.do(what{item >= 0, max(item, 0)})
		check()
	}
}

// P1: every method of a nil Till.
func TestNil(t *testing.T) {
	var k *till.Till
	s := laid(t, 0, 3, 4)
	was := s.Clone()
	for range 2 {
		if e := k.Pop(); e != api.ErrNone {
			t.Fatal(e)
		}
		for _, n := range append([]int{0, 1, -1}, far...) {
			if e := k.Push(n); e != api.ErrNone {
				t.Fatal(n, e)
			}
		}
		for _, s := range []*soc.Soc{s, nil} {
			if done, e := k.Step(s); !done || e != api.ErrNone {
				t.Fatal(done, e)
			}
		}
		if k.Busy() || k.Mine() != nil {
			t.Fatal(k.Busy(), k.Mine())
		}
	}
	if !soc.Same(s, was) {
		t.Fatal(tell(s))
	}
}

// P18.1, P18.3: a nil soc, whose error precedes all others; a Step without a call accesses no soc at all.
func TestNilSoc(t *testing.T) {
	for _, n := range append([]int{0, 1, 7, 8, 32, 33, -1, 65535, 65536}, far...) {
		for _, m := range append([]int{0, 1, 32, 33, -1}, far...) {
			if e := till.Lay(nil, n, 0, 1); e != api.ErrNone {
				t.Fatal(n, e)
			}
			if e := till.Lay(nil, 0, n, m); e != api.ErrNone {
				t.Fatal(n, m, e)
			}
		}
	}
	for _, x := range []what{{}, {true, 1}} {
		for i := range 5 {
			k, _ := progress(t, x, i)
			if done, e := k.Step(nil); !done || e != api.ErrNone {
				t.Fatal(x, i, done, e)
			}
			owns(t, k, 0, 1, 2)
			if done, e := k.Step(nil); !done || e != api.ErrIdle {
				t.Fatal(x, i, done, e)
			}
		}
	}
}

// Each step uses the soc that it is given.
func TestSocs(t *testing.T) {
	k := tillOf(t, 30, 5, 9, 4)
	one := func(change func(s *soc.Soc), last bool) *soc.Soc {
		t.Helper()
		s := made(t, 8, 64, 16, 4)
		change(s)
		if done, e := k.Step(s); done != last || e != api.OK {
			t.Fatal(done, e)
		}
		return s
	}
	k.Pop()
	owner(t, one(func(s *soc.Soc) {}, false), 9, 4)
	one(func(s *soc.Soc) { set(s, 30, 3) }, false)
	one(func(s *soc.Soc) { set(s, 33, 4) }, false)
	if l := one(func(s *soc.Soc) {}, false).Waits(4); !slices.Equal(l, []complex128{30 + 4i}) {
		t.Fatal(l)
	}
	owner(t, one(func(s *soc.Soc) { s.Read(4, lockAt(9)) }, true), 9, -1)
	owns(t, k, 2)
	k.Push(2)
	one(func(s *soc.Soc) {}, false)
	one(func(s *soc.Soc) { set(s, 30, 77) }, false)
	if l := one(func(s *soc.Soc) {}, false).Waits(4); !slices.Equal(l, []complex128{33 + 77i}) {
		t.Fatal(l)
	}
	if l := one(func(s *soc.Soc) {}, false).Waits(4); !slices.Equal(l, []complex128{30 + 3i}) {
		t.Fatal(l)
	}
	one(func(s *soc.Soc) { s.Read(4, lockAt(9)) }, true)
	owns(t, k)
}

// Two tills share nothing but the soc: also with lists, locks and cores of their own.
func TestTwo(t *testing.T) {
	s := laid(t, 0, 4, 4)
	if e := till.Lay(s, 0, 5, 6); e != api.OK {
		t.Fatal(e)
	}
	a, b := tillOf(t, 0, 4, 0, 1), tillOf(t, 5, 6, 1, 2)
	a.Pop()
	b.Pop()
	for i := range 5 {
		for _, k := range []*till.Till{a, b} {
			if done, e := k.Step(s); done != (i == 4) || e != api.OK {
				t.Fatal(i, done, e)
			}
		}
	}
	ends(t, b, s, what{}, api.OK)
	owns(t, a, 0)
	owns(t, b, 0, 1)
	ends(t, a, s, what{true, 0}, api.OK)
	owns(t, b, 0, 1)
	if e := a.Push(1); e != api.ErrHandle {
		t.Fatal(e)
	}
	if !slices.Equal(ram(s)[:12], []int{1, 2, 3, 4, 0, 3, 2, 3, 4, 5, 6, 0}) {
		t.Fatal(ram(s))
	}
}

// Two tills of one core for one list: the core owns what either of them has, and the lock keeps their calls apart.
func TestTwoOfOneCore(t *testing.T) {
	s := laid(t, 0, 4, 4)
	a, b := tillOf(t, 0, 4, 0, 1), tillOf(t, 0, 4, 0, 1)
	a.Pop()
	a.Step(s)
	b.Pop()
	for range 10 {
		if done, e := b.Step(s); done || e != api.OK {
			t.Fatal(done, e)
		}
	}
	for !must(a.Step(s)) {
	}
	for !must(b.Step(s)) {
	}
	owns(t, a, 0)
	owns(t, b, 1)
	if e := a.Push(1); e != api.ErrHandle {
		t.Fatal(e)
	}
}

// P18.3: all sequences of a few calls of a till, in lists of which each word is any one that matters.
func TestAllSmall(t *testing.T) {
	for items := 1; items <= 3; items++ {
		values := items + 2
		total := 1
		for range items + 1 {
			total *= values
		}
		for n := range total {
			var words []int
			for range items + 1 {
				words, n = append(words, n%values), n/values
			}
			for calls := range 4 * 4 * 4 * 4 {
				p := paired(t, made(t, 1, items+1, 1, 1+calls%3), 0, items, 0, 0)
				p.set(0, words...)
				for range 4 {
					x := what{calls%4 > 0, calls%4 - 1}
					calls /= 4
					if x.push && !slices.Contains(p.m.mine, x.item) {
						if e := p.k.Push(x.item); e != api.ErrHandle {
							t.Fatal(words, x, e)
						}
						continue
					}
					if !x.push {
						x.item = 0
					}
					p.do(x)
				}
			}
		}
	}
}

// P18.3: calls in memories whose words change between the steps, with stores and resets of this core and of others, and a lock that others own now and then.
func TestArbitrary(t *testing.T) {
	ended := map[what]map[api.Errno]int{{}: {}, {push: true}: {}}
	for seed := range 3000 {
		d := dice(seed)
		items := []int{1, 2, 5, 32}[seed%4]
		words := 40
		if seed%3 == 0 {
			// Only a part of the list, HEAD at least, is in the memory.
			words = 6 + d.roll(items)
		}
		s := made(t, 4, words, 3, 1+d.roll(16))
		till.Lay(s, 3, 5, items)
		p := paired(t, s, 5, items, 1+seed%5/4, 2)
		for range 30 {
			// Behind an error the core owns the lock, which it would try in vain.
			p.both(func(s *soc.Soc) { s.Write(2, lockAt(p.m.lock), 0) })
			turn := dice(d.roll(1 << 30))
			wild := d.roll(4)
			p.m.change = func(s *soc.Soc, n int) { disturb(s, turn+dice(n)*977, wild, items, p.m.lock) }
			x := what{}
			if n := len(p.m.mine); n > 0 && d.roll(2) == 0 {
				x = what{true, p.m.mine[d.roll(n)]}
			}
			ended[what{push: x.push}][p.do(x)]++
		}
	}
	// A Push meets no word outside the memory, since NEXT of an item that was taken has been read.
	for _, e := range []api.Errno{api.OK, api.ErrLock, api.ErrOff} {
		if ended[what{push: true}][e] < 500 {
			t.Fatal("Push", e, ended)
		}
	}
	for _, e := range []api.Errno{api.OK, api.ErrEmpty, api.ErrCorrupt, api.ErrAddr, api.ErrLock, api.ErrOff} {
		if ended[what{}][e] < 500 {
			t.Fatal("Pop", e, ended)
		}
	}
}

// disturb changes a soc ahead of an access of core 2. The wilder, the more.
func disturb(s *soc.Soc, d dice, wild, items, lock int) {
	for range d.roll(1 + wild) {
		s.Write(d.roll(4), 5+d.roll(items+1), d.roll(items+1+d.roll(2)))
		s.Drain(d.roll(4))
	}
	if d.roll(40) < wild {
		s.Write(0, 5, 65535-d.roll(3))
	}
	if d.roll(60) < wild {
		s.Hold(2)
	}
	if !s.Up(2) && d.roll(4) > 0 {
		s.Start(2)
	}
	other := []int{0, 1, 3}[d.roll(3)]
	if d.roll(4) < wild {
		s.Read(other, lockAt(lock))
	}
	if owner, _ := s.Owner(lock); owner != 2 && d.roll(2) == 0 {
		s.Write(owner, lockAt(lock), 0)
	}
}

// world is a soc with a list and with tills for it, whose calls are made step by step in any order.
type world struct {
	t           testing.TB
	s           *soc.Soc
	base, items int
	tills       []*till.Till
	calls       []what
	// The items in the list by the calls that have ended, the first one of the list at the end.
	stack   []int
	results map[api.Errno]int
}

// worldOf returns a world with so many cores, each of which has a till.
func worldOf(t testing.TB, s *soc.Soc, base, items, lock int) *world {
	t.Helper()
	v := &world{t: t, s: s, base: base, items: items, results: map[api.Errno]int{}}
	if e := till.Lay(s, 0, base, items); e != api.OK {
		t.Fatal(e)
	}
	for core := range s.Plan().Cores {
		v.tills = append(v.tills, tillOf(t, base, items, lock, core))
	}
	v.calls = make([]what, len(v.tills))
	v.stack = upTo(items)
	slices.Reverse(v.stack)
	v.whole()
	return v
}

// begin begins a call of a core.
func (v *world) begin(core int, x what) {
	v.t.Helper()
	if e := x.begin(v.tills[core]); e != api.OK {
		v.t.Fatal(core, x, e)
	}
	v.calls[core] = x
}

// step makes a step of a core that has a call in progress, and checks P18.5 behind it.
func (v *world) step(core int) {
	v.t.Helper()
	k := v.tills[core]
	was := k.Mine()
	done, e := k.Step(v.s)
	if done {
		v.results[e]++
		v.ended(core, was, e)
	} else if e != api.OK || !slices.Equal(k.Mine(), was) {
		v.t.Fatal(core, e, k.Mine(), was)
	}
	var owners [32]int
	for _, k := range v.tills {
		for _, item := range k.Mine() {
			if owners[item]++; item >= v.items || owners[item] > 1 {
				v.t.Fatalf("item %d is owned twice", item)
			}
		}
	}
	if !slices.ContainsFunc(v.tills, (*till.Till).Busy) {
		v.whole()
	}
}

// ended checks the result of a call: calls are made one after the other, in the order in which they end.
func (v *world) ended(core int, was []int, e api.Errno) {
	v.t.Helper()
	want, mine, x := api.OK, slices.Clone(was), v.calls[core]
	switch n := len(v.stack); {
	case x.push:
		v.stack = append(v.stack, x.item)
		mine = slices.DeleteFunc(mine, func(i int) bool { return i == x.item })
	case n == 0:
		want = api.ErrEmpty
	default:
		mine = append(mine, v.stack[n-1])
		v.stack = v.stack[:n-1]
	}
	if e != want || !slices.Equal(v.tills[core].Mine(), mine) {
		v.t.Fatalf("core %d, %+v: %d, mine %v, want %d, %v", core, x, e, v.tills[core].Mine(), want, mine)
	}
}

// whole checks that each item is owned or in the list, once, while no call is in progress.
func (v *world) whole() {
	v.t.Helper()
	var all, list []int
	end := v.base + 1 + v.items
	words := ram(v.s)[v.base:end]
	if !slices.Equal(words, fenced(v.s)[v.base:end]) {
		v.t.Fatal("stores of the list wait behind the last call:", tell(v.s))
	}
	for at := words[0]; at != 0 && len(list) <= v.items; at = words[at] {
		list = append(list, at-1)
	}
	for _, k := range v.tills {
		all = append(all, k.Mine()...)
	}
	all = append(all, list...)
	slices.Sort(all)
	slices.Reverse(list)
	if !slices.Equal(all, upTo(v.items)) || !slices.Equal(list, v.stack) {
		v.t.Fatalf("owned or in the list: %v; in the list: %v, want %v", all, list, v.stack)
	}
}

// program is the calls of a core, in which -1 is a Pop and any other number the Push of the item at that place of MINE.
type program []int

// run makes a step of a core, beginning the next call of its program if none is in progress, and reports whether there was a step.
func (v *world) run(core int, rest *program) bool {
	v.t.Helper()
	if k := v.tills[core]; !k.Busy() {
		for len(*rest) > 0 && (*rest)[0] >= len(k.Mine()) {
			*rest = (*rest)[1:]
		}
		if len(*rest) == 0 {
			return false
		}
		x := what{}
		if n := (*rest)[0]; n >= 0 {
			x = what{true, k.Mine()[n]}
		}
		*rest = (*rest)[1:]
		v.begin(core, x)
	}
	v.step(core)
	return true
}

// finish makes the steps that are left by turns, which come to an end.
func (v *world) finish(rest []program) {
	v.t.Helper()
	for range 1000 {
		left := false
		for core := range rest {
			left = v.run(core, &rest[core]) || left
		}
		if !left {
			v.whole()
			return
		}
	}
	v.t.Fatal("the calls do not end")
}

// programs are what each of two cores does in a small world.
var programs = [][2]program{{{-1, 0, -1}, {-1, 0, -1}}, {{-1, -1, 0, 0}, {-1, 0}}, {{-1, -1, 1, -1}, {-1, -1, 0}}}

// P18.5, P11: all orders of the first steps of two cores, and then by turns.
func TestAllOrders(t *testing.T) {
	for items := 1; items <= 3; items++ {
		for _, list := range programs {
			for n := range 1 << 13 {
				v := worldOf(t, made(t, 2, items+1, 1, 1+n%2), 0, items, 0)
				rest := []program{list[0], list[1]}
				for i := range 13 {
					core := n >> i % 2
					v.run(core, &rest[core])
				}
				v.finish(rest)
			}
		}
	}
}

// P18.5, P11: all orders of some steps of two cores and drains of their stores, from each place of a call on.
func TestAllOrdersWithDrains(t *testing.T) {
	const turns = 5
	for items := 1; items <= 2; items++ {
		for _, list := range programs {
			for n := range 1 << (2 * turns) {
				for ahead := range 12 {
					v := worldOf(t, made(t, 2, items+1, 1, 2), 0, items, 0)
					rest := []program{list[0], list[1]}
					for range ahead {
						v.run(0, &rest[0])
					}
					for i := range turns {
						core := n >> (2 * i) % 2
						if n>>(2*i+1)%2 == 0 {
							v.run(core, &rest[core])
						} else {
							v.s.Drain(core)
						}
					}
					v.finish(rest)
				}
			}
		}
	}
}

// P18.5, P11: many cores that step in any order, with stores of other words, and stores drained at any time.
func TestLaws(t *testing.T) {
	results := map[api.Errno]int{}
	for seed := range 400 {
		d := dice(seed)
		cores, items := 1+seed%8, []int{1, 2, 3, 7, 31, 32}[seed%6]
		s := made(t, cores, items+9, 16, 1+d.roll(16))
		v := worldOf(t, s, 4, items, d.roll(16))
		v.results = results
		eager := d.roll(4)
		for range 1500 {
			core := d.roll(cores)
			switch n := d.roll(20); {
			case n < 3:
				s.Drain(core)
			case n < 5 && core > 0:
				// Words beside the list, which core 0 leaves alone.
				s.Write(core, []int{0, 1, 2, 3, items + 5, items + 6}[d.roll(6)], d.roll(65536))
			case v.tills[core].Busy():
				v.step(core)
			default:
				x, mine := what{}, v.tills[core].Mine()
				if len(mine) > 0 && d.roll(4) >= eager {
					x = what{true, mine[d.roll(len(mine))]}
				}
				v.begin(core, x)
			}
		}
		v.finish(make([]program, cores))
	}
	if len(results) != 2 || results[api.OK] < 1000 || results[api.ErrEmpty] < 1000 {
		t.Fatal(results)
	}
}

// P18.5: lists in one memory, each with a lock of its own, or all with the same lock.
func TestLawsOfLists(t *testing.T) {
	for seed := range 60 {
		d := dice(seed)
		s := made(t, 4, 40, 3, 1+d.roll(4))
		var worlds []*world
		for i := range 3 {
			lock := 0
			if seed%2 == 0 {
				lock = i
			}
			worlds = append(worlds, worldOf(t, s, 12*i, 2+3*i, lock))
		}
		for range 3000 {
			v, core := worlds[d.roll(3)], d.roll(4)
			switch mine := v.tills[core].Mine(); {
			case d.roll(8) == 0:
				s.Drain(core)
			case v.tills[core].Busy():
				v.step(core)
			case len(mine) > 0 && d.roll(2) == 0:
				v.begin(core, what{true, mine[d.roll(len(mine))]})
			default:
				v.begin(core, what{})
			}
		}
	}
}

// P1: whatever a till, its calls and its socs are given.
func TestNoPanic(t *testing.T) {
	numbers := append([]int{0, 1, 2, 7, 8, 15, 16, 31, 32, 33, -1, 65503, 65534, 65535, 65536, 65792}, far...)
	socs := []*soc.Soc{nil, made(t, 1, 1, 1, 1), made(t, 8, 65536, 16, 16), made(t, 2, 40, 2, 2)}
	socs[3].Hold(0)
	for seed := range 4000 {
		d := dice(seed)
		pick := func() int { return numbers[d.roll(len(numbers))] }
		k := till.New(pick(), pick(), pick(), pick())
		if k == nil && d.roll(4) > 0 {
			k = till.New([]int{0, 1, 65503, 65534, 65535}[d.roll(5)], 1+d.roll(32), d.roll(16), d.roll(8))
		}
		for range 40 {
			s := socs[d.roll(4)]
			switch d.roll(8) {
			case 0:
				till.Lay(s, d.roll(9), []int{0, 1, 65503, 65534, 65535}[d.roll(5)], 1+d.roll(32))
				till.Lay(s, pick(), pick(), pick())
			case 1:
				k.Push(pick())
			case 2, 3:
				k.Pop()
				k.Mine()
				k.Busy()
			default:
				k.Step(s)
			}
		}
	}
}
