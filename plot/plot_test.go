package plot_test

import (
	"math"
	"slices"
	"testing"

	"switchyard/api"
	"switchyard/plot"
)

// The fields have no type: they fit every number that can hold them.
var (
	_ uint8   = plot.Pe
	_ int16   = plot.Ce
	_ uint32  = plot.Ai
	_ float64 = plot.Ui
	_ uint8   = plot.Avail
	_ uint8   = plot.Used
	_ uint8   = plot.Len
	_ uint8   = plot.Load
)

// far holds numbers that are outside of all limits; some of them equal small numbers modulo a power of 2, also if they are multiplied by 8, 11 or 708.
var far = []int{-1, -2, -3, -4, -8, -16, -26, -64, -708, -65535, -65536, -65537, 65535, 65536, 65537, 65538, 1 << 28, 1<<28 + 1, 1 << 31, 1 << 32, 1<<32 + 1, 1<<32 + 2, 1<<32 + 8, 1<<32 + 64, -1 << 32, 2 - 1<<32, 1 << 60, 1<<60 + 1, 1 << 61, 1<<61 + 2, 1 << 62, 1<<62 + 4, -1 << 60, -1 << 62, math.MinInt, math.MinInt + 1, math.MinInt + 2, math.MinInt + 64, math.MaxInt - 64, math.MaxInt - 2, math.MaxInt - 1, math.MaxInt}

// rings holds the numbers of slots that a channel can have.
var rings = []int{2, 4, 8, 16, 32, 64}

// noRings returns numbers of slots that no channel can have: those around and between the limits, and far ones.
func noRings() []int {
	l := slices.Clone(far)
	for n := -130; n <= 600; n++ {
		if !slices.Contains(rings, n) {
			l = append(l, n)
		}
	}
	return append(l, 1024, 4096, 1<<15, 1<<20)
}

// confs returns valid configurations: all numbers of cores and of slots, with the limits of Buf and numbers between.
func confs() []api.Conf {
	var l []api.Conf
	for cores := 2; cores <= 8; cores++ {
		for _, ring := range rings {
			for _, buf := range []int{1, 2, 9, 16} {
				l = append(l, api.Conf{Cores: cores, Ring: ring, Buf: buf})
			}
		}
	}
	return l
}

// noConfs returns configurations of which one number, two numbers or all of them are outside their limits.
func noConfs() []api.Conf {
	l := []api.Conf{{}, {Cores: -1, Ring: -1, Buf: -1}, {Cores: 9, Ring: 128, Buf: 17}, {Cores: 1, Ring: 1, Buf: 0}, {Cores: 9, Ring: 128, Buf: 16}, {Cores: 9, Ring: 64, Buf: 17}, {Cores: 8, Ring: 128, Buf: 17}}
	for _, c := range []api.Conf{{Cores: 2, Ring: 2, Buf: 1}, {Cores: 8, Ring: 64, Buf: 16}, {Cores: 3, Ring: 8, Buf: 5}} {
		for _, n := range append([]int{0, 1, 9, 10, 16, 64}, far...) {
			l = append(l, api.Conf{Cores: n, Ring: c.Ring, Buf: c.Buf})
		}
		for _, n := range append([]int{0, 1, 3, 5, 6, 7, 9, 24, 48, 63, 65, 96, 127, 128, 129, 256}, far...) {
			l = append(l, api.Conf{Cores: c.Cores, Ring: n, Buf: c.Buf})
		}
		for _, n := range append([]int{0, 17, 18, 32, 64}, far...) {
			l = append(l, api.Conf{Cores: c.Cores, Ring: c.Ring, Buf: n})
		}
	}
	return l
}

// laid returns the words of all channels in the order of their addresses, by the text of the chapter, with its numbers written out.
func laid(c api.Conf) []plot.Place {
	var l []plot.Place
	for from := range c.Cores {
		for to := range c.Cores {
			if from != to {
				l = append(l, channel(from, to, c.Ring)...)
			}
		}
	}
	return l
}

// channel returns the words of one channel in the order of their addresses.
func channel(from, to, ring int) []plot.Place {
	var l []plot.Place
	for _, field := range []int{1, 2, 3, 4} {
		l = append(l, plot.Place{From: from, To: to, Field: field})
	}
	for _, field := range []int{5, 6, 7} {
		for slot := range ring {
			l = append(l, plot.Place{From: from, To: to, Field: field, Slot: slot})
		}
	}
	for slot := range ring {
		for index := range 8 {
			l = append(l, plot.Place{From: from, To: to, Field: 8, Slot: slot, Index: index})
		}
	}
	return l
}

// of returns a channel that must be there.
func of(t *testing.T, c api.Conf, from, to int) plot.Plot {
	t.Helper()
	p, ok := plot.Of(c, from, to)
	if !ok || p.Ring != c.Ring {
		t.Fatalf("Of(%v, %d, %d) = %v, %v", c, from, to, p, ok)
	}
	return p
}

// based checks that there is a channel, with this base.
func based(t *testing.T, c api.Conf, from, to, base int) {
	t.Helper()
	if p := of(t, c, from, to); p.Base != base {
		t.Fatalf("Of(%v, %d, %d) = %v, want the base %d", c, from, to, p, base)
	}
}

// apart checks that there is no channel.
func apart(t *testing.T, c api.Conf, from, to int) {
	t.Helper()
	if p, ok := plot.Of(c, from, to); ok || p != (plot.Plot{}) {
		t.Fatalf("Of(%v, %d, %d) = %v, %v, want nothing", c, from, to, p, ok)
	}
}

// at checks the address of a word.
func at(t *testing.T, p plot.Plot, field, slot, index, want int) {
	t.Helper()
	if a, ok := p.At(field, slot, index); !ok || a != want {
		t.Fatalf("%v.At(%d, %d, %d) = %d, %v, want %d", p, field, slot, index, a, ok, want)
	}
}

// nowhere checks that there is no such word.
func nowhere(t *testing.T, p plot.Plot, field, slot, index int) {
	t.Helper()
	if a, ok := p.At(field, slot, index); ok || a != 0 {
		t.Fatalf("%v.At(%d, %d, %d) = %d, %v, want nothing", p, field, slot, index, a, ok)
	}
}

// found checks what the word at an address is.
func found(t *testing.T, c api.Conf, addr int, want plot.Place) {
	t.Helper()
	if x, ok := plot.Where(c, addr); !ok || x != want {
		t.Fatalf("Where(%v, %d) = %v, %v, want %v", c, addr, x, ok, want)
	}
}

// empty checks that there are no words at these addresses.
func empty(t *testing.T, c api.Conf, addrs ...int) {
	t.Helper()
	for _, addr := range addrs {
		if x, ok := plot.Where(c, addr); ok || x != (plot.Place{}) {
			t.Fatalf("Where(%v, %d) = %v, %v, want nothing", c, addr, x, ok)
		}
	}
}

// The example of the chapter.
func TestExample(t *testing.T) {
	c := api.Conf{Cores: 2, Ring: 2, Buf: 1}
	if n := plot.Size(2); n != 26 {
		t.Errorf("Size(2) = %d", n)
	}
	if n := plot.Words(c); n != 52 {
		t.Errorf("Words(%v) = %d", c, n)
	}
	based(t, c, 1, 0, 26)
	at(t, of(t, c, 1, 0), plot.Load, 1, 2, 46)
	found(t, c, 46, plot.Place{From: 1, To: 0, Field: plot.Load, Slot: 1, Index: 2})
}

// The numbers of the chapter's constants.
func TestConstants(t *testing.T) {
	got := []int{plot.Pe, plot.Ce, plot.Ai, plot.Ui, plot.Avail, plot.Used, plot.Len, plot.Load}
	if want := []int{1, 2, 3, 4, 5, 6, 7, 8}; !slices.Equal(got, want) {
		t.Errorf("the fields are %v, want %v", got, want)
	}
}

// P13.1
func TestRight(t *testing.T) {
	for _, c := range confs() {
		if !plot.Right(c) {
			t.Errorf("Right(%v) = false", c)
		}
	}
	for _, c := range noConfs() {
		if plot.Right(c) {
			t.Errorf("Right(%v) = true", c)
		}
	}
}

// P13.1: all numbers around and between the limits.
func TestRightAroundTheLimits(t *testing.T) {
	for cores := -2; cores <= api.MaxCores+2; cores++ {
		for ring := -4; ring <= 2*api.MaxRing+2; ring++ {
			for buf := -2; buf <= api.MaxBuf+2; buf++ {
				c := api.Conf{Cores: cores, Ring: ring, Buf: buf}
				want := cores > 1 && cores < 9 && slices.Contains(rings, ring) && buf > 0 && buf < 17
				if plot.Right(c) != want {
					t.Fatalf("Right(%v) = %v", c, !want)
				}
			}
		}
	}
}

// P13.1
func TestSize(t *testing.T) {
	for ring, want := range map[int]int{2: 26, 4: 48, 8: 92, 16: 180, 32: 356, 64: 708} {
		if n := plot.Size(ring); n != want {
			t.Errorf("Size(%d) = %d, want %d", ring, n, want)
		}
	}
	for _, ring := range noRings() {
		if n := plot.Size(ring); n != 0 {
			t.Errorf("Size(%d) = %d, want 0", ring, n)
		}
	}
}

// P13.1
func TestWords(t *testing.T) {
	for _, x := range []struct{ cores, ring, want int }{
		{2, 2, 52}, {3, 2, 156}, {8, 2, 1456}, {2, 64, 1416}, {8, 64, 39648}, {3, 8, 552}, {5, 4, 960}, {4, 16, 2160}, {7, 32, 14952}, {6, 64, 21240},
	} {
		for buf := 1; buf <= 16; buf++ {
			c := api.Conf{Cores: x.cores, Ring: x.ring, Buf: buf}
			if n := plot.Words(c); n != x.want {
				t.Errorf("Words(%v) = %d, want %d", c, n, x.want)
			}
		}
	}
	for _, c := range noConfs() {
		if n := plot.Words(c); n != 0 {
			t.Errorf("Words(%v) = %d, want 0", c, n)
		}
	}
}

// P13.1: the numbers of words are those that the chapter lists.
func TestWordsAsTheText(t *testing.T) {
	for _, c := range confs() {
		if n := plot.Size(c.Ring); n != len(channel(0, 1, c.Ring)) {
			t.Errorf("Size(%d) = %d", c.Ring, n)
		}
		if n := plot.Words(c); n != len(laid(c)) {
			t.Errorf("Words(%v) = %d, want %d", c, n, len(laid(c)))
		}
	}
}

// P13.2
func TestOf(t *testing.T) {
	c := api.Conf{Cores: 3, Ring: 4, Buf: 2}
	based(t, c, 0, 1, 0)
	based(t, c, 0, 2, 48)
	based(t, c, 1, 0, 96)
	based(t, c, 1, 2, 144)
	based(t, c, 2, 0, 192)
	based(t, c, 2, 1, 240)
	c = api.Conf{Cores: 8, Ring: 64, Buf: 16}
	based(t, c, 0, 7, 6*708)
	based(t, c, 3, 2, 23*708)
	based(t, c, 3, 4, 24*708)
	based(t, c, 7, 0, 49*708)
	based(t, c, 7, 6, 55*708)
}

// P13.2: the channels of all pairs of cores, also of cores that do not exist.
func TestOfAsTheText(t *testing.T) {
	for _, c := range confs() {
		bases := map[[2]int]int{}
		for addr, x := range laid(c) {
			if x.Field == 1 {
				bases[[2]int{x.From, x.To}] = addr
			}
		}
		for from := -3; from <= c.Cores+8; from++ {
			for to := -3; to <= c.Cores+8; to++ {
				if base, is := bases[[2]int{from, to}]; is {
					based(t, c, from, to, base)
					continue
				}
				apart(t, c, from, to)
			}
		}
	}
}

// P13.2: the limits of the cores, one of which does not exist or which are the same.
func TestNoChannel(t *testing.T) {
	for _, c := range confs() {
		last := c.Cores - 1
		apart(t, c, 0, 0)
		apart(t, c, last, last)
		for _, n := range append([]int{c.Cores, c.Cores + 1, 2 * c.Cores}, far...) {
			apart(t, c, n, 0)
			apart(t, c, n, last)
			apart(t, c, 0, n)
			apart(t, c, last, n)
			apart(t, c, n, n)
			apart(t, c, n, n+1)
			apart(t, c, n+1, n)
		}
	}
}

// P13.2, P13.3: a configuration that is not valid has no channels and no words.
func TestNoConf(t *testing.T) {
	for _, c := range noConfs() {
		for from := -1; from <= 9; from++ {
			for to := -1; to <= 9; to++ {
				apart(t, c, from, to)
			}
		}
		apart(t, c, c.Cores-2, c.Cores-1)
		apart(t, c, c.Cores-1, c.Cores)
		empty(t, c, far...)
		empty(t, c, 0, 1, 2, 3, 4, 5, 25, 26, 51, 52, 707, 708, 1415, 1416, 39647, 39648)
	}
}

// P13.2: the first and the last word of each field.
func TestAt(t *testing.T) {
	for _, x := range []struct {
		p                             plot.Plot
		avail, used, lens, load, last int
	}{
		{plot.Plot{Base: 26, Ring: 2}, 30, 32, 34, 36, 51},
		{plot.Plot{Base: 0, Ring: 2}, 4, 6, 8, 10, 25},
		{plot.Plot{Base: 184, Ring: 8}, 188, 196, 204, 212, 275},
		{plot.Plot{Base: 38940, Ring: 64}, 38944, 39008, 39072, 39136, 39647},
	} {
		top := x.p.Ring - 1
		at(t, x.p, plot.Pe, 0, 0, x.p.Base)
		at(t, x.p, plot.Ce, 0, 0, x.p.Base+1)
		at(t, x.p, plot.Ai, 0, 0, x.p.Base+2)
		at(t, x.p, plot.Ui, 0, 0, x.p.Base+3)
		at(t, x.p, plot.Avail, 0, 0, x.avail)
		at(t, x.p, plot.Avail, top, 0, x.used-1)
		at(t, x.p, plot.Used, 0, 0, x.used)
		at(t, x.p, plot.Used, top, 0, x.lens-1)
		at(t, x.p, plot.Len, 0, 0, x.lens)
		at(t, x.p, plot.Len, top, 0, x.load-1)
		at(t, x.p, plot.Load, 0, 0, x.load)
		at(t, x.p, plot.Load, 0, 7, x.load+7)
		at(t, x.p, plot.Load, 1, 0, x.load+8)
		at(t, x.p, plot.Load, top, 7, x.last)
	}
}

// P13.2: a slot or an index that must be 0 and is not, or that is behind the last one.
func TestNoWord(t *testing.T) {
	for _, c := range confs() {
		p := of(t, c, c.Cores-1, 0)
		for _, field := range []int{plot.Pe, plot.Ce, plot.Ai, plot.Ui} {
			for _, n := range append([]int{1, 2, 7, 8, p.Ring - 1, p.Ring}, far...) {
				nowhere(t, p, field, n, 0)
				nowhere(t, p, field, 0, n)
				nowhere(t, p, field, n, n)
				nowhere(t, p, field, n, -n)
			}
		}
		for _, field := range []int{plot.Avail, plot.Used, plot.Len} {
			for _, n := range append([]int{1, 2, 7, 8, p.Ring - 1, p.Ring}, far...) {
				nowhere(t, p, field, 0, n)
				nowhere(t, p, field, p.Ring-1, n)
			}
		}
		for _, field := range []int{plot.Avail, plot.Used, plot.Len, plot.Load} {
			for _, n := range append([]int{p.Ring, p.Ring + 1, 2 * p.Ring}, far...) {
				nowhere(t, p, field, n, 0)
				nowhere(t, p, field, n, 7)
			}
		}
		for _, n := range append([]int{8, 9, 16}, far...) {
			nowhere(t, p, plot.Load, 0, n)
			nowhere(t, p, plot.Load, p.Ring-1, n)
		}
	}
}

// P13.2: no other field has words.
func TestNoField(t *testing.T) {
	for _, c := range confs() {
		p := of(t, c, 0, c.Cores-1)
		for _, field := range append([]int{0, 9, 10, 16, 256, 257}, far...) {
			for _, n := range []int{-1, 0, 1, p.Ring - 1, p.Ring} {
				nowhere(t, p, field, n, 0)
				nowhere(t, p, field, 0, n)
				nowhere(t, p, field, n, n)
			}
		}
	}
}

// P13.2: every field with slots and indices around and far outside of the limits, wherever the channel starts.
func TestAtAsTheText(t *testing.T) {
	fields := append([]int{0, 1, 2, 3, 4, 5, 6, 7, 8, 9, 10, 16}, far...)
	indices := append([]int{0, 1, 2, 3, 4, 5, 6, 7, 8, 9, 10, 16}, far...)
	for _, ring := range rings {
		offsets := map[plot.Place]int{}
		for offset, x := range channel(0, 1, ring) {
			offsets[plot.Place{Field: x.Field, Slot: x.Slot, Index: x.Index}] = offset
		}
		slots := slices.Clone(far)
		for slot := range 2*ring + 2 {
			slots = append(slots, slot)
		}
		for _, base := range []int{0, 1, 26, 65535} {
			p := plot.Plot{Base: base, Ring: ring}
			for _, field := range fields {
				for _, slot := range slots {
					for _, index := range indices {
						offset, is := offsets[plot.Place{Field: field, Slot: slot, Index: index}]
						want := 0
						if is {
							want = base + offset
						}
						if a, ok := p.At(field, slot, index); a != want || ok != is {
							t.Fatalf("%v.At(%d, %d, %d) = %d, %v, want %d, %v", p, field, slot, index, a, ok, want, is)
						}
					}
				}
			}
		}
	}
}

// P13.2: without slots there are no words of slots, but those that do not depend on slots.
func TestNoSlots(t *testing.T) {
	plots := []plot.Plot{{}, {Base: 26}}
	for _, ring := range far {
		if ring < 0 {
			plots = append(plots, plot.Plot{Base: 5, Ring: ring})
		}
	}
	for _, p := range plots {
		for i, field := range []int{plot.Pe, plot.Ce, plot.Ai, plot.Ui} {
			at(t, p, field, 0, 0, p.Base+i)
			nowhere(t, p, field, 1, 0)
			nowhere(t, p, field, -1, 0)
			nowhere(t, p, field, 0, 1)
			nowhere(t, p, field, 0, -1)
		}
		for _, field := range []int{0, plot.Avail, plot.Used, plot.Len, plot.Load, 9} {
			for _, slot := range append([]int{0, 1, p.Ring - 1, p.Ring, p.Ring + 1}, far...) {
				for _, index := range []int{-1, 0, 1, 7, 8} {
					nowhere(t, p, field, slot, index)
				}
			}
		}
	}
}

// P13.3: the borders of fields and channels.
func TestWhere(t *testing.T) {
	c := api.Conf{Cores: 3, Ring: 4, Buf: 1}
	found(t, c, 0, plot.Place{From: 0, To: 1, Field: plot.Pe})
	found(t, c, 3, plot.Place{From: 0, To: 1, Field: plot.Ui})
	found(t, c, 4, plot.Place{From: 0, To: 1, Field: plot.Avail})
	found(t, c, 7, plot.Place{From: 0, To: 1, Field: plot.Avail, Slot: 3})
	found(t, c, 8, plot.Place{From: 0, To: 1, Field: plot.Used})
	found(t, c, 47, plot.Place{From: 0, To: 1, Field: plot.Load, Slot: 3, Index: 7})
	found(t, c, 48, plot.Place{From: 0, To: 2, Field: plot.Pe})
	found(t, c, 95, plot.Place{From: 0, To: 2, Field: plot.Load, Slot: 3, Index: 7})
	found(t, c, 97, plot.Place{From: 1, To: 0, Field: plot.Ce})
	found(t, c, 146, plot.Place{From: 1, To: 2, Field: plot.Ai})
	found(t, c, 207, plot.Place{From: 2, To: 0, Field: plot.Len, Slot: 3})
	found(t, c, 265, plot.Place{From: 2, To: 1, Field: plot.Load, Slot: 1, Index: 1})
	found(t, c, 287, plot.Place{From: 2, To: 1, Field: plot.Load, Slot: 3, Index: 7})
	empty(t, c, 288, 289, -1, -48)
}

// P13.3: the last address and those behind it, and far ones.
func TestWhereAtTheEnd(t *testing.T) {
	for _, c := range confs() {
		n := len(laid(c))
		last := plot.Place{From: c.Cores - 1, To: c.Cores - 2, Field: 8, Slot: c.Ring - 1, Index: 7}
		found(t, c, n-1, last)
		empty(t, c, n, n+1, n+7, n+25, n+26, n+plot.Size(c.Ring), 2*n, 39648, 65535, 65536)
		empty(t, c, -n, -n-1, 1-n)
		empty(t, c, far...)
	}
}

// P13.3: every address of every configuration, and all addresses around them.
func TestWhereAsTheText(t *testing.T) {
	for _, c := range confs() {
		l := laid(c)
		for addr := -1500; addr < len(l)+1500; addr++ {
			if 0 <= addr && addr < len(l) {
				found(t, c, addr, l[addr])
				continue
			}
			empty(t, c, addr)
		}
	}
}

// P13.4: the address of the word at an address is that address, and no word is at two addresses.
func TestAtInvertsWhere(t *testing.T) {
	for _, c := range confs() {
		first := map[plot.Place]int{}
		for addr := -100; addr < plot.Words(c)+100; addr++ {
			x, ok := plot.Where(c, addr)
			if !ok {
				continue
			}
			if a, is := first[x]; is {
				t.Fatalf("%v of %v is at %d and at %d", x, c, a, addr)
			}
			first[x] = addr
			at(t, of(t, c, x.From, x.To), x.Field, x.Slot, x.Index, addr)
		}
		if len(first) != plot.Words(c) {
			t.Errorf("%v has %d words, Words = %d", c, len(first), plot.Words(c))
		}
	}
}

// P13.4: the word at the address of a word is that word, no two words have the same address, and all addresses are less than Words.
func TestWhereInvertsAt(t *testing.T) {
	for _, c := range confs() {
		owner := map[int]plot.Place{}
		for from := -1; from <= c.Cores; from++ {
			for to := -1; to <= c.Cores; to++ {
				if p, ok := plot.Of(c, from, to); ok {
					own(t, c, owner, p, from, to)
				}
			}
		}
		if len(owner) != plot.Words(c) {
			t.Errorf("%v has %d addresses, Words = %d", c, len(owner), plot.Words(c))
		}
	}
}

// own enters the words of a channel by their addresses, which must be free.
func own(t *testing.T, c api.Conf, owner map[int]plot.Place, p plot.Plot, from, to int) {
	t.Helper()
	for field := -1; field <= 10; field++ {
		for slot := -2; slot <= c.Ring+1; slot++ {
			for index := -2; index <= 9; index++ {
				addr, ok := p.At(field, slot, index)
				if !ok {
					continue
				}
				x := plot.Place{From: from, To: to, Field: field, Slot: slot, Index: index}
				if first, is := owner[addr]; is {
					t.Fatalf("%v and %v of %v are both at %d", first, x, c, addr)
				}
				owner[addr] = x
				if addr < 0 || addr >= plot.Words(c) {
					t.Fatalf("%v of %v is at %d, Words = %d", x, c, addr, plot.Words(c))
				}
				found(t, c, addr, x)
			}
		}
	}
}

// P1: all calls with all numbers, also for Plots that Of does not return.
func TestNoPanic(t *testing.T) {
	numbers := append([]int{0, 1, 2, 3, 4, 5, 7, 8, 9, 16, 17, 63, 64, 65, 128}, far...)
	for _, a := range numbers {
		plot.Size(a)
		for _, b := range numbers {
			for _, c := range numbers {
				plot.Plot{Base: a, Ring: b}.At(c, 0, 0)
				plot.Plot{Base: a, Ring: b}.At(plot.Load, c, 7)
				for field := plot.Pe; field <= plot.Load; field++ {
					plot.Plot{Base: a, Ring: b}.At(field, c, 0)
					plot.Plot{Base: a, Ring: b}.At(field, b-1, c)
				}
				conf := api.Conf{Cores: a, Ring: b, Buf: c}
				plot.Right(conf)
				plot.Words(conf)
				plot.Of(conf, b, c)
				plot.Of(conf, a-1, c)
				plot.Where(conf, a)
				plot.Where(conf, c)
			}
		}
	}
	for _, c := range slices.Concat(confs(), noConfs()) {
		for _, a := range numbers {
			plot.Where(c, a)
			for _, b := range numbers {
				plot.Of(c, a, b)
			}
		}
	}
}
