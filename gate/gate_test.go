package gate_test

import (
	"math"
	"slices"
	"testing"

	"switchyard/api"
	"switchyard/gate"
)

// far holds numbers that are neither cores nor numbers of them, the neighbours of the limits first. Some of them have the low bits of a core.
var far = []int{-1, -2, -7, -8, -9, -15, -16, -255, -256, -65535, -65536, 9, 10, 15, 16, 17, 63, 64, 65, 255, 256, 256 + 1, 65535, 65536, 65537, 1<<31 - 1, 1 << 31, 1<<31 + 1, 1<<32 - 1, 1 << 32, 1<<32 + 1, -1 << 32, 1 - 1<<32, math.MinInt, math.MinInt + 1, math.MaxInt - 1, math.MaxInt}

// outside returns numbers that are no cores of a gate with so many, the neighbours of the limits first.
func outside(cores int) []int {
	list := []int{-1}
	for core := cores; core <= 9; core++ {
		list = append(list, core)
	}
	return append(append(list, cores-1+1<<8, cores-1+1<<16, cores-1+1<<32, cores-1-1<<32), far...)
}

// state is a core by the text of the chapter.
type state struct {
	held  bool
	epoch int
}

// model is a gate by the text of the chapter.
type model []state

// up reports whether a core exists and is up.
func (m model) up(core int) bool { return m.check(core) == api.OK && !m[core].held }

// check returns the error for a core.
func (m model) check(core int) api.Errno {
	if core < 0 || core > len(m)-1 {
		return api.ErrCore
	}
	return api.OK
}

// epoch returns the epoch of a core.
func (m model) epoch(core int) (int, api.Errno) {
	if e := m.check(core); e != api.OK {
		return 0, e
	}
	return m[core].epoch, api.OK
}

// hold holds a core.
func (m model) hold(core int) api.Errno {
	e := m.check(core)
	if e == api.OK && m[core].held {
		return api.ErrBusy
	}
	if e == api.OK {
		m[core].held = true
	}
	return e
}

// start starts a core.
func (m model) start(core int) api.Errno {
	e := m.check(core)
	if e == api.OK && !m[core].held {
		return api.ErrIdle
	}
	if e == api.OK {
		m[core] = state{false, (m[core].epoch + 1) % 65536}
	}
	return e
}

// link returns the sum of two cores' epochs.
func (m model) link(a, b int) (int, api.Errno) {
	if m.check(a) != api.OK || m.check(b) != api.OK {
		return 0, api.ErrCore
	}
	if a == b {
		return 0, api.ErrArg
	}
	return (m[a].epoch + m[b].epoch) % 65536, api.OK
}

// down returns the held cores.
func (m model) down() []int {
	var list []int
	for core, s := range m {
		if s.held {
			list = append(list, core)
		}
	}
	return list
}

// made returns a new gate.
func made(t *testing.T, cores int) *gate.Gate {
	t.Helper()
	g := gate.New(cores)
	if g == nil {
		t.Fatalf("New(%d) is nil", cores)
	}
	return g
}

// built returns a gate whose cores are those of the model.
func built(t *testing.T, m model) *gate.Gate {
	t.Helper()
	g := made(t, len(m))
	for core, s := range m {
		restart(t, g, core, s.epoch)
		if s.held {
			holds(t, g, api.OK, core)
		}
	}
	return g
}

// holds holds cores with a result that must be this.
func holds(t *testing.T, g *gate.Gate, want api.Errno, list ...int) {
	t.Helper()
	for _, core := range list {
		if e := g.Hold(core); e != want {
			t.Fatalf("Hold(%d) = %d, want %d", core, e, want)
		}
	}
}

// starts starts cores with a result that must be this.
func starts(t *testing.T, g *gate.Gate, want api.Errno, list ...int) {
	t.Helper()
	for _, core := range list {
		if e := g.Start(core); e != want {
			t.Fatalf("Start(%d) = %d, want %d", core, e, want)
		}
	}
}

// restart holds and starts a core that is up, so many times.
func restart(t *testing.T, g *gate.Gate, core, times int) {
	t.Helper()
	for range times {
		holds(t, g, api.OK, core)
		starts(t, g, api.OK, core)
	}
}

// epoch compares the epoch of a core that exists.
func epoch(t *testing.T, g *gate.Gate, core, want int) {
	t.Helper()
	if n, e := g.Epoch(core); n != want || e != api.OK {
		t.Fatalf("Epoch(%d) = %d, %d, want %d", core, n, e, want)
	}
}

// link compares the link of two cores in both orders.
func link(t *testing.T, g *gate.Gate, a, b, want int, wantE api.Errno) {
	t.Helper()
	if n, e := g.Link(a, b); n != want || e != wantE {
		t.Fatalf("Link(%d, %d) = %d, %d, want %d, %d", a, b, n, e, want, wantE)
	}
	if n, e := g.Link(b, a); n != want || e != wantE {
		t.Fatalf("Link(%d, %d) = %d, %d, want %d, %d", b, a, n, e, want, wantE)
	}
}

// expect compares everything that can be asked of g with the model.
func expect(t *testing.T, g *gate.Gate, m model) {
	t.Helper()
	for core := -1; core <= len(m); core++ {
		if up := g.Up(core); up != m.up(core) {
			t.Fatalf("Up(%d) = %v of %v", core, up, m)
		}
		want, wantE := m.epoch(core)
		if n, e := g.Epoch(core); n != want || e != wantE {
			t.Fatalf("Epoch(%d) = %d, %d of %v", core, n, e, m)
		}
		for other := -1; other <= len(m); other++ {
			sum, sumE := m.link(core, other)
			if n, e := g.Link(core, other); n != sum || e != sumE {
				t.Fatalf("Link(%d, %d) = %d, %d of %v", core, other, n, e, m)
			}
		}
	}
	if down := g.Down(); !slices.Equal(down, m.down()) {
		t.Fatalf("Down() = %v of %v", down, m)
	}
}

// both makes one of two calls on g and on the model, which must have the same result.
func both(t *testing.T, g *gate.Gate, m model, which, core int) {
	t.Helper()
	if which == 0 {
		holds(t, g, m.hold(core), core)
	} else {
		starts(t, g, m.start(core), core)
	}
}

// states returns all models with 1 to so many cores whose epochs are at most top.
func states(cores, top int) []model {
	var list []model
	level := []model{{}}
	for range cores {
		var next []model
		for _, m := range level {
			for n := range top + 1 {
				next = append(next, append(slices.Clone(m), state{false, n}), append(slices.Clone(m), state{true, n}))
			}
		}
		list = append(list, next...)
		level = next
	}
	return list
}

// mixed returns a model in which some cores are held and almost all epochs differ.
func mixed(cores int) model {
	m := make(model, cores)
	for core := range m {
		m[core] = state{(core+cores)*core/2%2 == 1, (core*core + 2*cores) % 11}
	}
	return m
}

// The example of the chapter.
func TestExample(t *testing.T) {
	g := made(t, 3)
	holds(t, g, api.OK, 1)
	starts(t, g, api.OK, 1)
	epoch(t, g, 1, 1)
	link(t, g, 0, 1, 1, api.OK)
	link(t, g, 0, 2, 0, api.OK)
}

// P11.1: every number of cores, all of them up and with epoch 0.
func TestNew(t *testing.T) {
	if api.MaxCores != 8 {
		t.Fatal(api.MaxCores)
	}
	for cores := 1; cores <= 8; cores++ {
		g := made(t, cores)
		expect(t, g, make(model, cores))
		for core := range cores {
			if !g.Up(core) {
				t.Errorf("Up(%d) is false in a new gate", core)
			}
			epoch(t, g, core, 0)
		}
	}
}

// P11.1: the numbers next to the limits, and those far from them.
func TestNewOfNoSize(t *testing.T) {
	for _, cores := range append([]int{0, 9, 10, 16}, far...) {
		if gate.New(cores) != nil {
			t.Errorf("New(%d) is a gate", cores)
		}
	}
}

// P11.1: two gates share nothing.
func TestNewIsNew(t *testing.T) {
	m := mixed(5)
	first := built(t, m)
	second := made(t, 5)
	expect(t, second, make(model, 5))
	holds(t, second, api.OK, 0, 1, 2, 3, 4)
	starts(t, second, api.OK, 0, 2, 4)
	expect(t, first, m)
	expect(t, second, model{{false, 1}, {true, 0}, {false, 1}, {true, 0}, {false, 1}})
}

// P11.1: Up of each core before, while and after it is held, and of numbers that are no cores.
func TestUp(t *testing.T) {
	for cores := 1; cores <= 8; cores++ {
		g := made(t, cores)
		for core := range cores {
			for range 3 {
				up(t, g, cores, -1)
				holds(t, g, api.OK, core)
				up(t, g, cores, core)
				starts(t, g, api.OK, core)
				up(t, g, cores, -1)
			}
		}
		for core := range cores {
			holds(t, g, api.OK, core)
			for other := range cores {
				if g.Up(other) != (other > core) {
					t.Fatalf("Up(%d) is wrong while the cores up to %d are held", other, core)
				}
			}
		}
	}
}

// up checks that all cores are up, except one, and that no other number is an up core.
func up(t *testing.T, g *gate.Gate, cores, except int) {
	t.Helper()
	for core := range cores {
		if g.Up(core) != (core != except) {
			t.Fatalf("Up(%d) is wrong while only core %d of %d is held", core, except, cores)
		}
	}
	for _, core := range outside(cores) {
		if g.Up(core) {
			t.Fatalf("Up(%d) with %d cores", core, cores)
		}
	}
}

// P11.2: Hold of each core while it is up and while it is held, which leaves no trace then and changes no epoch.
func TestHold(t *testing.T) {
	for cores := 1; cores <= 8; cores++ {
		for core := range cores {
			for n := range 3 {
				g, m := made(t, cores), make(model, cores)
				restart(t, g, core, n)
				m[core].epoch = n
				holds(t, g, api.OK, core)
				m[core].held = true
				expect(t, g, m)
				for range 3 {
					holds(t, g, api.ErrBusy, core)
					expect(t, g, m)
				}
				starts(t, g, api.OK, core)
				m[core] = state{false, n + 1}
				expect(t, g, m)
			}
		}
	}
}

// P11.2: Start of each core while it is up, which leaves no trace, and while it is held.
func TestStart(t *testing.T) {
	for cores := 1; cores <= 8; cores++ {
		for core := range cores {
			g, m := made(t, cores), make(model, cores)
			for n := range 4 {
				m[core] = state{false, n}
				for range 3 {
					starts(t, g, api.ErrIdle, core)
					expect(t, g, m)
				}
				holds(t, g, api.OK, core)
				starts(t, g, api.OK, core)
			}
			epoch(t, g, core, 4)
		}
	}
}

// P11.2: a call on one core neither holds nor starts another one, whatever the state of both is.
func TestHoldAndStartOfOneCore(t *testing.T) {
	for _, m := range states(3, 1) {
		for core := -1; core <= len(m); core++ {
			for which := range 2 {
				g, after := built(t, m), slices.Clone(m)
				expect(t, g, m)
				both(t, g, after, which, core)
				expect(t, g, after)
			}
		}
	}
}

// P11.2: cores that do not exist, in gates whose cores are up, held and mixed.
func TestNoCore(t *testing.T) {
	for cores := 1; cores <= 8; cores++ {
		down := slices.Repeat(model{{true, 1}}, cores)
		for _, m := range []model{make(model, cores), down, mixed(cores)} {
			g := built(t, m)
			for _, core := range outside(cores) {
				holds(t, g, api.ErrCore, core)
				starts(t, g, api.ErrCore, core)
				if n, e := g.Epoch(core); n != 0 || e != api.ErrCore {
					t.Fatalf("Epoch(%d) = %d, %d with %d cores", core, n, e, cores)
				}
			}
			expect(t, g, m)
		}
	}
}

// P11.2: the epoch of each core before and after each Hold and Start; only a Start with OK increments it, and by one.
func TestEpoch(t *testing.T) {
	for cores := 1; cores <= 8; cores++ {
		g := made(t, cores)
		for n := range 20 {
			for core := range cores {
				epoch(t, g, core, n)
				starts(t, g, api.ErrIdle, core)
				epoch(t, g, core, n)
				holds(t, g, api.OK, core)
				epoch(t, g, core, n)
				holds(t, g, api.ErrBusy, core)
				epoch(t, g, core, n)
				starts(t, g, api.OK, core)
				epoch(t, g, core, n+1)
				for other := range cores {
					want := n
					if other <= core {
						want++
					}
					epoch(t, g, other, want)
				}
			}
		}
	}
}

// P11.2: the epoch counts through all words and wraps round, and the epochs of the other cores stay.
func TestEpochWraps(t *testing.T) {
	for _, size := range []struct{ cores, core int }{{1, 0}, {2, 1}, {8, 0}, {8, 7}} {
		g, m := made(t, size.cores), make(model, size.cores)
		for n := range 65536 {
			epoch(t, g, size.core, n)
			holds(t, g, api.OK, size.core)
			if n == 0 || n > 65533 {
				m[size.core] = state{true, n}
				expect(t, g, m)
			}
			starts(t, g, api.OK, size.core)
		}
		expect(t, g, make(model, size.cores))
		restart(t, g, size.core, 1)
		epoch(t, g, size.core, 1)
	}
}

// P11.3: all pairs of cores in both orders, while they are up and while they are held.
func TestLink(t *testing.T) {
	for cores := 1; cores <= 8; cores++ {
		m := make(model, cores)
		for core := range m {
			m[core].epoch = 1 << core
		}
		g := built(t, m)
		sums(t, g, cores)
		for core := range cores {
			holds(t, g, api.OK, core)
			sums(t, g, cores)
		}
	}
}

// sums checks the links of a gate in which the epoch of each core is its power of two.
func sums(t *testing.T, g *gate.Gate, cores int) {
	t.Helper()
	for a := range cores {
		for b := range cores {
			if a == b {
				link(t, g, a, b, 0, api.ErrArg)
			} else {
				link(t, g, a, b, 1<<a|1<<b, api.OK)
			}
		}
	}
}

// P11.3: sums next to the place where they wrap round, and far behind it.
func TestLinkWraps(t *testing.T) {
	g := made(t, 3)
	restart(t, g, 0, 65535)
	link(t, g, 0, 1, 65535, api.OK)
	link(t, g, 1, 2, 0, api.OK)
	restart(t, g, 1, 1)
	link(t, g, 0, 1, 0, api.OK)
	link(t, g, 0, 2, 65535, api.OK)
	link(t, g, 1, 2, 1, api.OK)
	restart(t, g, 1, 1)
	link(t, g, 0, 1, 1, api.OK)
	restart(t, g, 1, 65533)
	link(t, g, 0, 1, 65534, api.OK)
	link(t, g, 1, 2, 65535, api.OK)
	restart(t, g, 2, 32768)
	link(t, g, 1, 2, 32767, api.OK)
	holds(t, g, api.OK, 0, 1)
	link(t, g, 0, 1, 65534, api.OK)
	starts(t, g, api.OK, 0)
	link(t, g, 0, 1, 65535, api.OK)
	link(t, g, 0, 2, 32768, api.OK)
	starts(t, g, api.OK, 1)
	link(t, g, 0, 1, 0, api.OK)
	link(t, g, 1, 2, 32768, api.OK)
}

// P11.3: cores that do not exist, as the first one, as the second one and as both, also if both are the same number; and the same core twice.
func TestLinkErrors(t *testing.T) {
	for cores := 1; cores <= 8; cores++ {
		for _, m := range []model{make(model, cores), slices.Repeat(model{{true, 2}}, cores), mixed(cores)} {
			g := built(t, m)
			none := outside(cores)
			for _, a := range none {
				for b := range cores {
					link(t, g, a, b, 0, api.ErrCore)
				}
				for _, b := range none {
					link(t, g, a, b, 0, api.ErrCore)
				}
				link(t, g, a, a, 0, api.ErrCore)
			}
			for core := range cores {
				link(t, g, core, core, 0, api.ErrArg)
			}
			expect(t, g, m)
		}
	}
}

// P11.4: every set of held cores of every gate, held in ascending and in descending order.
func TestDown(t *testing.T) {
	for cores := 1; cores <= 8; cores++ {
		for set := range 1 << cores {
			m := make(model, cores)
			up, back := made(t, cores), made(t, cores)
			for core := range cores {
				if set>>core&1 == 1 {
					m[core].held = true
					holds(t, up, api.OK, core)
				}
				if set>>(cores-1-core)&1 == 1 {
					holds(t, back, api.OK, cores-1-core)
				}
			}
			expect(t, up, m)
			expect(t, back, m)
			if down := up.Down(); !slices.IsSorted(down) || len(down) != len(m.down()) {
				t.Fatalf("Down() = %v of %v", down, m)
			}
		}
	}
}

// P11.4: no core, all cores, and again no core.
func TestDownOfAll(t *testing.T) {
	all := []int{0, 1, 2, 3, 4, 5, 6, 7}
	for cores := 1; cores <= 8; cores++ {
		g := made(t, cores)
		for range 3 {
			if down := g.Down(); len(down) != 0 {
				t.Fatalf("Down() = %v, want none", down)
			}
			holds(t, g, api.OK, all[:cores]...)
			if down := g.Down(); !slices.Equal(down, all[:cores]) {
				t.Fatalf("Down() = %v, want all of %d", down, cores)
			}
			starts(t, g, api.OK, all[:cores]...)
		}
	}
}

// A list that Down returned belongs to the caller, and later calls do not change it.
func TestDownIsIndependent(t *testing.T) {
	m := model{{true, 0}, {false, 1}, {true, 2}, {false, 0}, {false, 0}, {true, 0}, {true, 1}, {true, 0}}
	g := built(t, m)
	first, second := g.Down(), g.Down()
	for i := range first {
		first[i] = 1
	}
	_ = append(first, 3, 4)
	_ = append(first[:0], 3)
	expect(t, g, m)
	if !slices.Equal(second, []int{0, 2, 5, 6, 7}) {
		t.Fatal("another list changed:", second)
	}
	starts(t, g, api.OK, 0, 2, 5)
	holds(t, g, api.OK, 1)
	if !slices.Equal(second, []int{0, 2, 5, 6, 7}) {
		t.Fatal("the list changed:", second)
	}
	for _, x := range second[:cap(second)][len(second):] {
		if x != 0 {
			t.Error("the list has something beyond its length:", x)
		}
	}
}

// P11.4: a clone has everything that its original has, and goes on as it would.
func TestClone(t *testing.T) {
	for cores := 1; cores <= 8; cores++ {
		m := mixed(cores)
		g := built(t, m)
		c := g.Clone()
		if c == nil || c == g {
			t.Fatal("the clone is nil or the gate itself")
		}
		expect(t, c, m)
		after := slices.Clone(m)
		for core := range cores {
			both(t, c, after, 0, core)
			expect(t, c, after)
			both(t, c, after, 1, core)
			both(t, c, after, core%2, cores-1-core)
			expect(t, c, after)
		}
		expect(t, g, m)
	}
}

// P11.4: neither a clone nor its original nor a clone's clone sees calls on another one.
func TestCloneIsIndependent(t *testing.T) {
	for _, m := range states(3, 1) {
		for core := range m {
			for which := range 2 {
				g := built(t, m)
				c := g.Clone()
				d := c.Clone()
				both(t, g, slices.Clone(m), which, core)
				expect(t, c, m)
				expect(t, d, m)
				e := d.Clone()
				both(t, c, slices.Clone(m), which, core)
				expect(t, d, m)
				expect(t, e, m)
				both(t, e, slices.Clone(m), which, core)
				expect(t, d, m)
			}
		}
	}
}

// worn returns a gate whose cores are those of the model, as built does, but by other calls: core by core in turns from the last one, with rejected calls between, and, if round is so, with one core all the way round before.
func worn(t *testing.T, m model, round bool) *gate.Gate {
	t.Helper()
	g := made(t, len(m))
	if round {
		restart(t, g, len(m)-1, 65536)
	}
	for k := range 4 {
		for core, s := range slices.Backward(m) {
			if k < s.epoch || k == s.epoch && s.held {
				holds(t, g, api.OK, core)
				holds(t, g, api.ErrBusy, core)
			}
			if k < s.epoch {
				starts(t, g, api.OK, core)
				starts(t, g, api.ErrIdle, core)
			}
		}
		g = g.Clone()
	}
	return g
}

// P11.4: every two small gates are the same if their numbers of cores, epochs and held cores are, whatever has happened to them before.
func TestSame(t *testing.T) {
	list := states(3, 2)
	var gates, used []*gate.Gate
	for k, m := range list {
		gates = append(gates, built(t, m))
		used = append(used, worn(t, m, k%16 == 0))
	}
	for i, m := range list {
		for j, other := range list {
			want := slices.Equal(m, other)
			if gate.Same(gates[i], gates[j]) != want || gate.Same(gates[i], used[j]) != want || gate.Same(used[i], gates[j]) != want {
				t.Errorf("Same of %v and %v is not %v", m, other, want)
			}
		}
		expect(t, gates[i], m)
		expect(t, used[i], m)
	}
}

// P11.4: new gates of all sizes, and gates of all sizes with all cores held.
func TestSameOfSizes(t *testing.T) {
	for a := 1; a <= 8; a++ {
		for b := 1; b <= 8; b++ {
			x, y := made(t, a), made(t, b)
			if gate.Same(x, y) != (a == b) {
				t.Errorf("Same of gates with %d and %d cores is not %v", a, b, a == b)
			}
			z := built(t, slices.Repeat(model{{true, 0}}, b))
			if gate.Same(x, z) || gate.Same(z, x) {
				t.Errorf("a gate with %d cores is the same as one with %d held cores", a, b)
			}
			for core := range min(a, b) {
				holds(t, x, api.OK, core)
				holds(t, y, api.OK, core)
			}
			if gate.Same(x, y) != (a == b) {
				t.Errorf("Same of gates with %d and %d cores is not %v", a, b, a == b)
			}
		}
	}
}

// P11.4: the state and the epoch of each single core matter.
func TestSameOfOneCore(t *testing.T) {
	for cores := 1; cores <= 8; cores++ {
		for core := range cores {
			g := built(t, mixed(cores))
			g.Start(core)
			c := g.Clone()
			same(t, g, c, true)
			holds(t, c, api.OK, core)
			same(t, g, c, false)
			starts(t, c, api.OK, core)
			same(t, g, c, false)
			holds(t, g, api.OK, core)
			same(t, g, c, false)
			holds(t, c, api.OK, core)
			same(t, g, c, false)
			starts(t, g, api.OK, core)
			same(t, g, c, false)
			starts(t, c, api.OK, core)
			same(t, g, c, false)
			restart(t, g, core, 1)
			same(t, g, c, true)
		}
	}
}

// same checks Same of two gates in both orders, and of each with itself.
func same(t *testing.T, a, b *gate.Gate, want bool) {
	t.Helper()
	if gate.Same(a, b) != want || gate.Same(b, a) != want {
		t.Fatalf("Same is not %v", want)
	}
	if !gate.Same(a, a) || !gate.Same(b, b) {
		t.Fatal("a gate is not the same as itself")
	}
}

// A nil Gate.
func TestNil(t *testing.T) {
	var g *gate.Gate
	numbers := slices.Concat(far, []int{0, 1, 2, 7, 8})
	for _, x := range numbers {
		holds(t, g, api.ErrNone, x)
		starts(t, g, api.ErrNone, x)
		if n, e := g.Epoch(x); n != 0 || e != api.ErrNone {
			t.Errorf("Epoch(%d) = %d, %d", x, n, e)
		}
		if g.Up(x) {
			t.Errorf("Up(%d)", x)
		}
		for _, y := range numbers {
			link(t, g, x, y, 0, api.ErrNone)
		}
	}
	if g.Down() != nil || g.Clone() != nil {
		t.Error(g.Down(), g.Clone())
	}
	if !gate.Same(nil, nil) || !gate.Same(g, g.Clone()) {
		t.Error("two nil gates are not the same")
	}
	for cores := 1; cores <= 8; cores++ {
		c := made(t, cores)
		if gate.Same(nil, c) || gate.Same(c, nil) {
			t.Error("a nil Gate is the same as one with cores:", cores)
		}
	}
}

// P11.5: each Hold and Start of a core increments the link of every pair with that core by one, wherever it starts, and that of no other pair.
func TestLinkCountsRestarts(t *testing.T) {
	for cores := 2; cores <= 8; cores++ {
		for core := range cores {
			g := built(t, mixed(cores))
			for other := range cores {
				g.Start(other)
			}
			for range 4 {
				before := links(t, g, cores)
				holds(t, g, api.OK, core)
				if !slices.Equal(links(t, g, cores), before) {
					t.Fatalf("Hold(%d) alone changed a link", core)
				}
				starts(t, g, api.OK, core)
				incremented(t, before, links(t, g, cores), core)
			}
		}
	}
}

// P11.5: the same law where the link wraps round, also while the other core is held.
func TestLinkCountsRestartsRound(t *testing.T) {
	g := made(t, 3)
	restart(t, g, 2, 65533)
	holds(t, g, api.OK, 2)
	for k := range 6 {
		before := links(t, g, 3)
		restart(t, g, k%2, 1)
		incremented(t, before, links(t, g, 3), k%2)
	}
	link(t, g, 0, 2, 0, api.OK)
	link(t, g, 0, 1, 6, api.OK)
}

// pair is a link with its two cores.
type pair struct{ a, b, link int }

// links returns the links of all pairs of cores.
func links(t *testing.T, g *gate.Gate, cores int) []pair {
	t.Helper()
	var list []pair
	for a := range cores {
		for b := range cores {
			n, e := g.Link(a, b)
			if (e == api.OK) != (a != b) {
				t.Fatalf("Link(%d, %d) = %d, %d", a, b, n, e)
			}
			if a != b {
				list = append(list, pair{a, b, n})
			}
		}
	}
	return list
}

// incremented checks that just the links of the pairs with the core were incremented.
func incremented(t *testing.T, before, after []pair, core int) {
	t.Helper()
	for i, p := range before {
		if p.a == core || p.b == core {
			p.link = (p.link + 1) % 65536
		}
		if after[i] != p {
			t.Fatalf("a link is %v after a restart of core %d, want %v", after[i], core, p)
		}
	}
}

// P11.2 to P11.5: all sequences of six calls on two cores.
func TestAllSequences(t *testing.T) {
	for code := range 1 << 12 {
		g, m := made(t, 2), make(model, 2)
		for step := range 6 {
			call := code >> (2 * step) & 3
			c := g.Clone()
			both(t, c, slices.Clone(m), call&1, call>>1)
			both(t, g, m, call&1, call>>1)
			expect(t, g, m)
			if !gate.Same(g, c) {
				t.Fatal("the same call has another effect on a clone")
			}
		}
	}
}

// drawer returns a function that returns numbers in 0 to n-1, of a sequence that depends on the seed.
func drawer(seed uint32) func(n int) int {
	return func(n int) int {
		seed = seed*1664525 + 1013904223
		return int(seed>>8) % n
	}
}

// P11.2 to P11.5: long sequences of calls on all cores and their neighbours. In some stretches most calls hold, so that all cores are held at times.
func TestLongSequences(t *testing.T) {
	for cores := 1; cores <= 8; cores++ {
		draw := drawer(uint32(cores))
		g, m := made(t, cores), make(model, cores)
		none, all := 0, 0
		for k := range 4000 {
			which := draw(2)
			if draw(3) > 0 {
				which = k / 100 % 2
			}
			core := draw(cores+2) - 1
			c := g.Clone()
			both(t, c, slices.Clone(m), which, core)
			both(t, g, m, which, core)
			if !gate.Same(g, c) {
				t.Fatal("the same call has another effect on a clone")
			}
			g = c
			expect(t, g, m)
			switch len(m.down()) {
			case 0:
				none++
			case cores:
				all++
			}
		}
		if none < 50 || all < 50 {
			t.Errorf("with %d cores none was held %d times and all %d times", cores, none, all)
		}
	}
}

// P1: all calls with all numbers.
func TestNoPanic(t *testing.T) {
	numbers := slices.Concat(far, []int{0, 1, 2, 7, 8, 9})
	for _, cores := range numbers {
		g := gate.New(cores)
		for _, x := range numbers {
			g.Hold(x)
			g.Up(x)
			g.Epoch(x)
			for _, y := range numbers {
				g.Link(x, y)
			}
			g.Down()
			gate.Same(g, g.Clone())
			g.Start(x)
		}
	}
}
