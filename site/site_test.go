package site_test

import (
	"math"
	"slices"
	"testing"

	"switchyard/api"
	"switchyard/site"
)

// The kinds and the first addresses have no type: they fit every number that can hold them.
var (
	_ uint8   = site.None
	_ uint8   = site.Ram
	_ uint8   = site.Mail
	_ uint8   = site.Lock
	_ uint8   = site.Gate
	_ uint32  = site.MailBase
	_ uint32  = site.LockBase
	_ float64 = site.GateBase
)

// far holds numbers that are outside of all limits; some of them equal small numbers modulo a power of 2, also if they are multiplied by 16.
var far = []int{-1, -2, -3, -15, -16, -17, -256, -512, -65535, -65536, -65537, -65792, -66048, 1 << 28, 1<<28 + 1, 1 << 31, 1 << 32, 1<<32 + 1, 1<<32 + 65536, 1<<32 + 66048, -1 << 32, 1 - 1<<32, 1 << 60, 1<<60 + 1, 1 << 61, -1 << 60, math.MinInt, math.MinInt + 1, math.MinInt + 65536, math.MinInt + 66048, math.MaxInt - 66048, math.MaxInt - 65536, math.MaxInt - 1, math.MaxInt}

// greatest is the plan with all limits.
var greatest = site.Plan{Cores: 8, Words: 65536, Locks: 16}

// least is the plan with one of everything.
var least = site.Plan{Cores: 1, Words: 1, Locks: 1}

// plans holds valid plans: the limits, each limit alone, their neighbours, and ordinary ones.
var plans = []site.Plan{
	least, greatest,
	{8, 1, 1}, {1, 65536, 1}, {1, 1, 16},
	{1, 65536, 16}, {8, 1, 16}, {8, 65536, 1},
	{2, 2, 2}, {7, 65535, 15},
	{2, 8, 1}, {3, 5, 4}, {4, 256, 8}, {5, 1000, 11}, {6, 17, 3},
}

// noCounts returns numbers that are not in 1 to most, the neighbours of the limits first.
func noCounts(most int) []int {
	return append([]int{0, most + 1, most + 2, 2 * most, most + 1<<16, most + 1<<32}, far...)
}

// noPlans returns plans of which one number, two numbers or all of them are outside their limits.
func noPlans() []site.Plan {
	l := []site.Plan{{}, {9, 65537, 17}, {-1, -1, -1}, {0, 0, 1}, {0, 1, 0}, {1, 0, 0}, {9, 65537, 16}, {9, 65536, 17}, {8, 65537, 17}}
	for _, p := range []site.Plan{least, greatest, {2, 8, 1}} {
		for _, n := range noCounts(8) {
			l = append(l, site.Plan{Cores: n, Words: p.Words, Locks: p.Locks})
		}
		for _, n := range noCounts(65536) {
			l = append(l, site.Plan{Cores: p.Cores, Words: n, Locks: p.Locks})
		}
		for _, n := range noCounts(16) {
			l = append(l, site.Plan{Cores: p.Cores, Words: p.Words, Locks: n})
		}
	}
	return l
}

// mapped returns the address map of a valid plan by the text of the chapter, with its numbers written out.
func mapped(p site.Plan) map[int]site.Spot {
	m := map[int]site.Spot{}
	for a := range p.Words {
		m[a] = site.Spot{Kind: 1, Index: 0, Reg: a}
	}
	for core := range p.Cores {
		m[65536+16*core] = site.Spot{Kind: 2, Index: core, Reg: 0}
		m[65537+16*core] = site.Spot{Kind: 2, Index: core, Reg: 1}
		m[65538+16*core] = site.Spot{Kind: 2, Index: core, Reg: 2}
		m[66048+core] = site.Spot{Kind: 4, Index: core, Reg: 0}
	}
	for lock := range p.Locks {
		m[65792+lock] = site.Spot{Kind: 3, Index: lock, Reg: 0}
	}
	return m
}

// found checks that the address has the spot, and the spot the address.
func found(t *testing.T, p site.Plan, addr int, want site.Spot) {
	t.Helper()
	if s, ok := site.Decode(p, addr); !ok || s != want {
		t.Errorf("Decode(%v, %d) = %v, %v, want %v", p, addr, s, ok, want)
	}
	if a, ok := site.Encode(p, want); !ok || a != addr {
		t.Errorf("Encode(%v, %v) = %d, %v, want %d", p, want, a, ok, addr)
	}
}

// empty checks that nothing is located at these addresses.
func empty(t *testing.T, p site.Plan, addrs ...int) {
	t.Helper()
	for _, addr := range addrs {
		if s, ok := site.Decode(p, addr); ok || s != (site.Spot{}) {
			t.Errorf("Decode(%v, %d) = %v, %v, want nothing", p, addr, s, ok)
		}
	}
}

// nowhere checks that these spots have no address.
func nowhere(t *testing.T, p site.Plan, spots ...site.Spot) {
	t.Helper()
	for _, s := range spots {
		if a, ok := site.Encode(p, s); ok || a != 0 {
			t.Errorf("Encode(%v, %v) = %d, %v, want nothing", p, s, a, ok)
		}
	}
}

// The example of the chapter.
func TestExample(t *testing.T) {
	p := site.Plan{Cores: 2, Words: 8, Locks: 1}
	found(t, p, 7, site.Spot{Kind: site.Ram, Index: 0, Reg: 7})
	empty(t, p, 8)
	found(t, p, 65553, site.Spot{Kind: site.Mail, Index: 1, Reg: 1})
	found(t, p, 65792, site.Spot{Kind: site.Lock, Index: 0, Reg: 0})
}

// The numbers of the chapter's constants.
func TestConstants(t *testing.T) {
	got := []int{site.None, site.Ram, site.Mail, site.Lock, site.Gate, site.MailBase, site.LockBase, site.GateBase}
	if want := []int{0, 1, 2, 3, 4, 65536, 65792, 66048}; !slices.Equal(got, want) {
		t.Errorf("the constants are %v, want %v", got, want)
	}
}

// P8.1
func TestRight(t *testing.T) {
	for _, p := range plans {
		if !site.Right(p) {
			t.Errorf("Right(%v) = false", p)
		}
	}
	for _, p := range noPlans() {
		if site.Right(p) {
			t.Errorf("Right(%v) = true", p)
		}
	}
}

// P8.1: all numbers of cores and locks around their limits, with numbers of words around theirs.
func TestRightAroundTheLimits(t *testing.T) {
	for cores := -2; cores <= api.MaxCores+2; cores++ {
		for locks := -2; locks <= api.MaxLocks+2; locks++ {
			for _, words := range []int{-1, 0, 1, 2, 8, 65535, 65536, 65537} {
				p := site.Plan{Cores: cores, Words: words, Locks: locks}
				want := cores > 0 && cores < 9 && words > 0 && words < 65537 && locks > 0 && locks < 17
				if site.Right(p) != want {
					t.Errorf("Right(%v) = %v", p, !want)
				}
			}
		}
	}
}

// P8.1, P8.2: the memory, at both ends.
func TestMemory(t *testing.T) {
	for _, p := range plans {
		found(t, p, 0, site.Spot{Kind: site.Ram})
		found(t, p, p.Words-1, site.Spot{Kind: site.Ram, Reg: p.Words - 1})
		found(t, p, p.Words/2, site.Spot{Kind: site.Ram, Reg: p.Words / 2})
		empty(t, p, -1, -2, -p.Words)
		for addr := p.Words; addr < 65536; addr++ {
			empty(t, p, addr)
		}
		nowhere(t, p, site.Spot{Kind: site.Ram, Reg: p.Words}, site.Spot{Kind: site.Ram, Reg: p.Words + 1}, site.Spot{Kind: site.Ram, Reg: 65536}, site.Spot{Kind: site.Ram, Reg: -1})
	}
}

// P8.1: the greatest memory ends where the mailboxes begin.
func TestMemoryMeetsMailboxes(t *testing.T) {
	found(t, greatest, 65535, site.Spot{Kind: site.Ram, Reg: 65535})
	found(t, greatest, 65536, site.Spot{Kind: site.Mail})
	nowhere(t, greatest, site.Spot{Kind: site.Ram, Reg: 65536}, site.Spot{Kind: site.Mail, Reg: -1})
	empty(t, site.Plan{Cores: 8, Words: 65535, Locks: 16}, 65535)
}

// P8.1, P8.2: each of the sixteen addresses of each mailbox, also of the ones that the plan does not have.
func TestMailboxes(t *testing.T) {
	for _, p := range plans {
		for core := range 16 {
			for reg := range 16 {
				addr, s := 65536+16*core+reg, site.Spot{Kind: site.Mail, Index: core, Reg: reg}
				if core < p.Cores && reg < 3 {
					found(t, p, addr, s)
					continue
				}
				empty(t, p, addr)
				nowhere(t, p, s)
			}
		}
	}
}

// P8.1, P8.2: the locks, at both ends.
func TestLocks(t *testing.T) {
	for _, p := range plans {
		found(t, p, 65792, site.Spot{Kind: site.Lock})
		found(t, p, 65792+p.Locks-1, site.Spot{Kind: site.Lock, Index: p.Locks - 1})
		empty(t, p, 65791, 65790, 65792+p.Locks, 65793+p.Locks, 65808, 65809)
		nowhere(t, p, site.Spot{Kind: site.Lock, Index: -1}, site.Spot{Kind: site.Lock, Index: p.Locks}, site.Spot{Kind: site.Lock, Index: p.Locks + 1}, site.Spot{Kind: site.Lock, Index: 16})
	}
}

// P8.1, P8.2: the epochs, at both ends.
func TestEpochs(t *testing.T) {
	for _, p := range plans {
		found(t, p, 66048, site.Spot{Kind: site.Gate})
		found(t, p, 66048+p.Cores-1, site.Spot{Kind: site.Gate, Index: p.Cores - 1})
		empty(t, p, 66047, 66046, 66048+p.Cores, 66049+p.Cores, 66056, 66057)
		nowhere(t, p, site.Spot{Kind: site.Gate, Index: -1}, site.Spot{Kind: site.Gate, Index: p.Cores}, site.Spot{Kind: site.Gate, Index: p.Cores + 1}, site.Spot{Kind: site.Gate, Index: 8})
	}
}

// P8.1: negative and very large addresses.
func TestFarAddresses(t *testing.T) {
	for _, p := range plans {
		empty(t, p, far...)
		empty(t, p, 66056, 66064, 66304, 131072, 2*65792, 2*66048, 1<<20)
	}
}

// P8.1, P8.2: a plan that is not valid has no spots and no addresses.
func TestNoPlan(t *testing.T) {
	addrs := append([]int{0, 1, 7, 65535, 65536, 65537, 65538, 65552, 65792, 65793, 66048, 66049}, far...)
	for _, p := range noPlans() {
		empty(t, p, addrs...)
		for kind := -1; kind <= 5; kind++ {
			nowhere(t, p, site.Spot{Kind: kind}, site.Spot{Kind: kind, Index: 1}, site.Spot{Kind: kind, Reg: 1}, site.Spot{Kind: kind, Index: -1}, site.Spot{Kind: kind, Reg: -1})
		}
		if n := site.Count(p); n != 0 {
			t.Errorf("Count(%v) = %d", p, n)
		}
	}
}

// P8.2: no other kind has an address, whatever the other numbers are.
func TestNoKind(t *testing.T) {
	for _, p := range plans {
		for _, kind := range append([]int{site.None, 5, 6, 8, 16, 256, 257, 65536, 65537}, far...) {
			nowhere(t, p, site.Spot{Kind: kind}, site.Spot{Kind: kind, Index: 1}, site.Spot{Kind: kind, Reg: 1}, site.Spot{Kind: kind, Index: -1, Reg: -1})
		}
	}
}

// P8.2: an Index or a Reg that would lead to the address of another spot, or of none.
func TestNoSpot(t *testing.T) {
	nowhere(t, greatest,
		site.Spot{Kind: site.Ram, Index: 1},
		site.Spot{Kind: site.Ram, Index: 1, Reg: 5},
		site.Spot{Kind: site.Ram, Index: -1},
		site.Spot{Kind: site.Ram, Index: -1, Reg: 65536},
		site.Spot{Kind: site.Ram, Index: 7, Reg: 65535},
		site.Spot{Kind: site.Ram, Reg: 65792},
		site.Spot{Kind: site.Ram, Reg: 66048},
		site.Spot{Kind: site.Mail, Reg: 3},
		site.Spot{Kind: site.Mail, Reg: 15},
		site.Spot{Kind: site.Mail, Reg: 16},
		site.Spot{Kind: site.Mail, Reg: -65536},
		site.Spot{Kind: site.Mail, Index: 1, Reg: -16},
		site.Spot{Kind: site.Mail, Index: 1, Reg: -14},
		site.Spot{Kind: site.Mail, Index: -1, Reg: 16},
		site.Spot{Kind: site.Mail, Index: -1, Reg: 2},
		site.Spot{Kind: site.Mail, Index: 8},
		site.Spot{Kind: site.Mail, Index: 16},
		site.Spot{Kind: site.Lock, Reg: 1},
		site.Spot{Kind: site.Lock, Reg: -1},
		site.Spot{Kind: site.Lock, Index: 1, Reg: -1},
		site.Spot{Kind: site.Lock, Index: -1, Reg: 1},
		site.Spot{Kind: site.Lock, Index: 256},
		site.Spot{Kind: site.Lock, Index: -256},
		site.Spot{Kind: site.Gate, Reg: 1},
		site.Spot{Kind: site.Gate, Reg: -1},
		site.Spot{Kind: site.Gate, Index: 1, Reg: -1},
		site.Spot{Kind: site.Gate, Index: -1, Reg: 1},
		site.Spot{Kind: site.Gate, Index: -256},
		site.Spot{Kind: site.Gate, Index: -512},
	)
}

// P8.2: every kind with an Index and a Reg around and far outside of the limits.
func TestEncodeAsTheText(t *testing.T) {
	numbers := append([]int{0, 1, 2, 3, 4, 7, 8, 9, 14, 15, 16, 17, 18, 31, 32, 255, 256, 257, 512, 65534, 65535, 65536, 65537, 65792, 66048}, far...)
	for _, p := range plans {
		addrs := map[site.Spot]int{}
		for addr, s := range mapped(p) {
			addrs[s] = addr
		}
		for kind := -2; kind <= 6; kind++ {
			for _, index := range slices.Concat(numbers, []int{p.Cores - 1, p.Cores, p.Locks - 1, p.Locks}) {
				for _, reg := range slices.Concat(numbers, []int{p.Words - 1, p.Words, p.Words + 1}) {
					s := site.Spot{Kind: kind, Index: index, Reg: reg}
					want, is := addrs[s]
					if a, ok := site.Encode(p, s); a != want || ok != is {
						t.Fatalf("Encode(%v, %v) = %d, %v, want %d, %v", p, s, a, ok, want, is)
					}
				}
			}
		}
	}
}

// P8.1, P8.3: every address of every plan, and all addresses around the map.
func TestDecodeAsTheText(t *testing.T) {
	for _, p := range plans {
		m := mapped(p)
		for addr := -70000; addr <= 140000; addr++ {
			want, is := m[addr]
			if s, ok := site.Decode(p, addr); s != want || ok != is {
				t.Fatalf("Decode(%v, %d) = %v, %v, want %v, %v", p, addr, s, ok, want, is)
			}
		}
	}
}

// P8.3: the address of the spot at an address is that address, and no spot is at two addresses.
func TestEncodeInvertsDecode(t *testing.T) {
	for _, p := range plans {
		at := map[site.Spot]int{}
		for addr := -70000; addr <= 140000; addr++ {
			s, ok := site.Decode(p, addr)
			if !ok {
				continue
			}
			if first, is := at[s]; is {
				t.Fatalf("%v of %v is at %d and at %d", s, p, first, addr)
			}
			at[s] = addr
			if a, ok := site.Encode(p, s); !ok || a != addr {
				t.Fatalf("Encode(%v, %v) = %d, %v, want %d", p, s, a, ok, addr)
			}
		}
		if len(at) != site.Count(p) {
			t.Errorf("%v has %d spots, Count = %d", p, len(at), site.Count(p))
		}
	}
}

// P8.3: the spot at the address of a spot is that spot, and no two spots have the same address.
func TestDecodeInvertsEncode(t *testing.T) {
	for _, p := range plans {
		owner := map[int]site.Spot{}
		for kind := -1; kind <= 5; kind++ {
			for index := -2; index <= 18; index++ {
				for reg := -20; reg <= p.Words+20; reg++ {
					s := site.Spot{Kind: kind, Index: index, Reg: reg}
					addr, ok := site.Encode(p, s)
					if !ok {
						continue
					}
					if first, is := owner[addr]; is {
						t.Fatalf("%v and %v of %v are both at %d", first, s, p, addr)
					}
					owner[addr] = s
					if got, ok := site.Decode(p, addr); !ok || got != s {
						t.Fatalf("Decode(%v, %d) = %v, %v, want %v", p, addr, got, ok, s)
					}
				}
			}
		}
		if len(owner) != site.Count(p) {
			t.Errorf("%v has %d addresses, Count = %d", p, len(owner), site.Count(p))
		}
	}
}

// P8.2
func TestCount(t *testing.T) {
	for _, c := range []struct {
		p    site.Plan
		want int
	}{
		{least, 6},
		{greatest, 65584},
		{site.Plan{Cores: 2, Words: 8, Locks: 1}, 17},
		{site.Plan{Cores: 8, Words: 1, Locks: 1}, 34},
		{site.Plan{Cores: 1, Words: 65536, Locks: 1}, 65541},
		{site.Plan{Cores: 1, Words: 1, Locks: 16}, 21},
		{site.Plan{Cores: 3, Words: 100, Locks: 5}, 117},
		{site.Plan{}, 0},
		{site.Plan{Cores: 9, Words: 65536, Locks: 16}, 0},
		{site.Plan{Cores: 8, Words: 65537, Locks: 16}, 0},
		{site.Plan{Cores: 8, Words: 65536, Locks: 17}, 0},
	} {
		if n := site.Count(c.p); n != c.want {
			t.Errorf("Count(%v) = %d, want %d", c.p, n, c.want)
		}
	}
	for _, p := range plans {
		if n := site.Count(p); n != len(mapped(p)) {
			t.Errorf("Count(%v) = %d, want %d", p, n, len(mapped(p)))
		}
	}
}

// P8.2: each core, word and lock more brings its own spots only.
func TestCountGrows(t *testing.T) {
	for cores := 1; cores <= api.MaxCores; cores++ {
		for locks := 1; locks <= api.MaxLocks; locks++ {
			for _, words := range []int{1, 2, 3, 255, 65535, 65536} {
				p := site.Plan{Cores: cores, Words: words, Locks: locks}
				if n := site.Count(p); n != words+4*cores+locks {
					t.Errorf("Count(%v) = %d", p, n)
				}
			}
		}
	}
}

// P1: all calls with all numbers.
func TestNoPanic(t *testing.T) {
	numbers := append([]int{0, 1, 2, 3, 4, 5, 8, 9, 16, 17, 65535, 65536, 65537, 65792, 66048}, far...)
	for _, p := range slices.Concat(plans, noPlans()) {
		site.Right(p)
		site.Count(p)
		for _, a := range numbers {
			site.Decode(p, a)
			site.Encode(p, site.Spot{Kind: a, Index: a, Reg: a})
			for kind := range 6 {
				site.Encode(p, site.Spot{Kind: kind, Index: a})
				site.Encode(p, site.Spot{Kind: kind, Reg: a})
				site.Encode(p, site.Spot{Kind: kind, Index: a, Reg: a})
			}
		}
	}
	for _, cores := range numbers {
		for _, words := range numbers {
			for _, locks := range numbers {
				p := site.Plan{Cores: cores, Words: words, Locks: locks}
				site.Right(p)
				site.Count(p)
				site.Decode(p, cores)
				site.Encode(p, site.Spot{Kind: site.Mail, Index: words, Reg: locks})
			}
		}
	}
}
