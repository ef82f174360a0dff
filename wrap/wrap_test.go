package wrap_test

import (
	"fmt"
	"math"
	"math/big"
	"strings"
	"testing"

	"switchyard/wrap"
)

// sample holds the limits of the chapter, their neighbours, and the ends of int.
var sample = []int{
	math.MinInt, math.MinInt + 1, -1<<32 - 5, -1 << 32,
	-131073, -131072, -131071, -65537, -65536, -65535,
	-32769, -32768, -32767, -2, -1, 0, 1, 2, 5, 255, 4096,
	32766, 32767, 32768, 32769, 65534, 65535, 65536, 65537,
	131071, 131072, 131073, 1 << 32, 1<<32 + 7, 1 << 62,
	math.MaxInt - 1, math.MaxInt,
}

// modulo computes the word of n in numbers without limits, so that it shares no overflow with the package.
func modulo(n *big.Int) int {
	return int(new(big.Int).Mod(n, big.NewInt(65536)).Int64())
}

func number(n int) *big.Int { return big.NewInt(int64(n)) }

func TestSize(t *testing.T) {
	if wrap.Size != 65536 {
		t.Fatal(wrap.Size)
	}
}

// P1.1
func TestWordExamples(t *testing.T) {
	for _, c := range []struct{ n, want int }{
		{0, 0}, {1, 1}, {65535, 65535}, {65536, 0}, {65537, 1}, {131071, 65535}, {131072, 0},
		{-1, 65535}, {-32768, 32768}, {-65535, 1}, {-65536, 0}, {-65537, 65535},
		{math.MinInt64, 0}, {math.MinInt64 + 1, 1}, {math.MaxInt64, 65535}, {1 << 62, 0},
	} {
		if got := wrap.Word(c.n); got != c.want {
			t.Errorf("Word(%d) = %d, want %d", c.n, got, c.want)
		}
	}
}

// P1.1
func TestWordOfAllNear(t *testing.T) {
	for n := -3 * 65536; n <= 3*65536; n++ {
		if got, want := wrap.Word(n), modulo(number(n)); got != want {
			t.Fatalf("Word(%d) = %d, want %d", n, got, want)
		}
	}
}

// P1.1
func TestAddSubExamples(t *testing.T) {
	for _, c := range []struct{ a, b, add, sub int }{
		{3, 5, 8, 65534},
		{0, 0, 0, 0},
		{65535, 1, 0, 65534},
		{65535, 2, 1, 65533},
		{65535, 65535, 65534, 0},
		{0, 1, 1, 65535},
		{0, 65536, 0, 0},
		{-1, -1, 65534, 0},
		{-32768, 32767, 65535, 1},
		{math.MaxInt64, math.MaxInt64, 65534, 0},
		{math.MinInt64, math.MaxInt64, 65535, 1},
		{math.MinInt64, 1, 1, 65535},
	} {
		if got := wrap.Add(c.a, c.b); got != c.add {
			t.Errorf("Add(%d, %d) = %d, want %d", c.a, c.b, got, c.add)
		}
		if got := wrap.Sub(c.a, c.b); got != c.sub {
			t.Errorf("Sub(%d, %d) = %d, want %d", c.a, c.b, got, c.sub)
		}
	}
}

// P1.1
func TestAddSubOfSample(t *testing.T) {
	for _, a := range sample {
		for _, b := range sample {
			add := modulo(new(big.Int).Add(number(a), number(b)))
			if got := wrap.Add(a, b); got != add {
				t.Errorf("Add(%d, %d) = %d, want %d", a, b, got, add)
			}
			sub := modulo(new(big.Int).Sub(number(a), number(b)))
			if got := wrap.Sub(a, b); got != sub {
				t.Errorf("Sub(%d, %d) = %d, want %d", a, b, got, sub)
			}
		}
	}
}

// P1.2
func TestAheadExamples(t *testing.T) {
	for _, c := range []struct{ a, b, want int }{
		{65534, 3, 5},
		{3, 65534, -5},
		{10, 5, -5},
		{7, 7, 0},
		{7, 7 + 65536, 0},
		{0, 65535, -1},
		{65535, 0, 1},
		{0, 32767, 32767},
		{0, 32768, -32768},
		{0, 32769, -32767},
		{32768, 0, -32768},
		{32767, 0, -32767},
		{32769, 0, 32767},
		{65535, 32766, 32767},
		{65535, 32767, -32768},
		{-1, 1, 2},
		{math.MinInt64, math.MaxInt64, -1},
		{math.MaxInt64, math.MinInt64, 1},
	} {
		if got := wrap.Ahead(c.a, c.b); got != c.want {
			t.Errorf("Ahead(%d, %d) = %d, want %d", c.a, c.b, got, c.want)
		}
	}
}

// P1.2
func TestAheadLeadsThere(t *testing.T) {
	for _, a := range sample {
		for b := -1; b <= 65536; b++ {
			d := wrap.Ahead(a, b)
			if d < -32768 || d > 32767 {
				t.Fatalf("Ahead(%d, %d) = %d is outside", a, b, d)
			}
			if got := modulo(number(modulo(number(a)) + d)); got != modulo(number(b)) {
				t.Fatalf("Ahead(%d, %d) = %d leads to %d", a, b, d, got)
			}
		}
	}
}

// P1.3
func TestInExamples(t *testing.T) {
	for _, c := range []struct {
		from, n, x int
		want       bool
	}{
		{5, 3, 4, false}, {5, 3, 5, true}, {5, 3, 7, true}, {5, 3, 8, false},
		{5, 1, 5, true}, {5, 1, 6, false}, {5, 1, 4, false},
		{65535, 1, 0, false}, {65535, 2, 0, true}, {65535, 2, 65535, true}, {65535, 2, 1, false},
		{65534, 4, 1, true}, {65534, 4, 2, false}, {65534, 4, 65533, false},
		{-1, 2, 65536, true}, {65536 + 5, 1, 5, true}, {5, 1, 5 - 65536, true},
		{5, 0, 5, false}, {5, -1, 5, false}, {5, -65536, 5, false}, {5, math.MinInt64, 5, false},
		{5, 65535, 4, false}, {5, 65535, 3, true}, {5, 65535, 5, true},
		{5, 65536, 4, true}, {5, 65537, 4, true}, {5, 131072, 4, true}, {5, math.MaxInt64, 4, true},
		{math.MaxInt64, 2, math.MinInt64, true}, {math.MaxInt64, 1, math.MinInt64, false},
	} {
		if got := wrap.In(c.from, c.n, c.x); got != c.want {
			t.Errorf("In(%d, %d, %d) = %v, want %v", c.from, c.n, c.x, got, c.want)
		}
	}
}

// P1.3: the words are counted out one by one.
func TestInCountedOut(t *testing.T) {
	for _, from := range []int{-65537, -3, 0, 1, 32767, 65530, 65535, 65536} {
		for _, n := range []int{-1, 0, 1, 2, 9, 32768, 65535, 65536, 65537} {
			member := make([]bool, 65536)
			for i := 0; i < n; i++ {
				member[modulo(number(from+i))] = true
			}
			for x, want := range member {
				if got := wrap.In(from, n, x); got != want {
					t.Fatalf("In(%d, %d, %d) = %v, want %v", from, n, x, got, want)
				}
			}
		}
	}
}

// P1.4
func TestHexExamples(t *testing.T) {
	for _, c := range []struct {
		n    int
		want string
	}{
		{0, "0000"}, {1, "0001"}, {9, "0009"}, {10, "000a"}, {15, "000f"}, {16, "0010"},
		{255, "00ff"}, {4096, "1000"}, {0xabcd, "abcd"}, {65535, "ffff"}, {65536, "0000"},
		{65537, "0001"}, {-1, "ffff"}, {-65536, "0000"}, {-32768, "8000"}, {32767, "7fff"},
		{math.MinInt64, "0000"}, {math.MaxInt64, "ffff"},
	} {
		if got := wrap.Hex(c.n); got != c.want {
			t.Errorf("Hex(%d) = %q, want %q", c.n, got, c.want)
		}
	}
}

// P1.4, P1.6
func TestHexAndReadOfEveryWord(t *testing.T) {
	for w := range 65536 {
		s := fmt.Sprintf("%04x", w)
		if got := wrap.Hex(w); got != s {
			t.Fatalf("Hex(%d) = %q, want %q", w, got, s)
		}
		if got, ok := wrap.Read(s); !ok || got != w {
			t.Fatalf("Read(%q) = %d, %v", s, got, ok)
		}
	}
}

// P1.4
func TestReadRejects(t *testing.T) {
	for _, s := range []string{
		"", "0", "00", "000", "00f", "00000", "000ff", "0000ffff", "10000",
		"00FF", "00fF", "ABCD", "0x0f", "0X0f", "+0ff", "-001", " 0ff", "0ff ", "0ff\n", "00_f", "0.00",
		"000g", "g000", "000`", "000/", "000:", "000@", "00\x000", "\x00\x00\x00\x00",
		"é00", "00é", "000é", "éé", "０００f", "٠٠٠٠", "𝟎", "😀", "00\u200b",
		"\xff000", "000\xff", "\xff\xff\xff\xff", "00\xc3\xa9", "00\xf0\x9f",
		strings.Repeat("0", 100000), strings.Repeat("é", 4),
	} {
		if got, ok := wrap.Read(s); ok || got != 0 {
			t.Errorf("Read(%q) = %d, %v, want 0, false", s, got, ok)
		}
	}
}

// P1.4: every byte at every place.
func TestReadOfEveryByte(t *testing.T) {
	for place := range 4 {
		for c := range 256 {
			text := []byte("b3e8")
			text[place] = byte(c)
			s := string(text)
			value := strings.IndexByte("0123456789abcdef", byte(c))
			got, ok := wrap.Read(s)
			if value < 0 {
				if ok || got != 0 {
					t.Errorf("Read(%q) = %d, %v, want 0, false", s, got, ok)
				}
				continue
			}
			if !ok || fmt.Sprintf("%04x", got) != s {
				t.Errorf("Read(%q) = %d, %v", s, got, ok)
			}
		}
	}
}

// P1.5
func TestLogOfPowers(t *testing.T) {
	for l := range 63 {
		if got, ok := wrap.Log(1 << l); !ok || got != l {
			t.Errorf("Log(2^%d) = %d, %v", l, got, ok)
		}
	}
}

// P1.5
func TestLogRejects(t *testing.T) {
	for _, n := range []int{
		0, -1, -2, -4, -65536, -1 << 62, math.MinInt64, math.MinInt64 + 1,
		3, 5, 6, 7, 9, 12, 65535, 65537, 1<<62 - 1, 1<<62 + 1, 1<<61 + 1<<60, math.MaxInt64,
	} {
		if got, ok := wrap.Log(n); ok || got != 0 {
			t.Errorf("Log(%d) = %d, %v, want 0, false", n, got, ok)
		}
	}
	for l := 2; l < 63; l++ {
		for _, n := range []int{1<<l - 1, 1<<l + 1, 1<<l + 1<<(l-1), -1 << l} {
			if got, ok := wrap.Log(n); ok || got != 0 {
				t.Errorf("Log(%d) = %d, %v, want 0, false", n, got, ok)
			}
		}
	}
}

// P1.5
func TestLogOfAllSmall(t *testing.T) {
	next := 1
	for n := -10; n <= 1<<17; n++ {
		want := n == next
		if want {
			next *= 2
		}
		if _, ok := wrap.Log(n); ok != want {
			t.Fatalf("Log(%d) reports %v", n, ok)
		}
	}
}

// P1.6
func TestSubInvertsAdd(t *testing.T) {
	for _, a := range sample {
		for _, b := range sample {
			if got, want := wrap.Sub(wrap.Add(a, b), b), modulo(number(a)); got != want {
				t.Errorf("Sub(Add(%d, %d), %d) = %d, want %d", a, b, b, got, want)
			}
			if got, want := wrap.Add(wrap.Sub(a, b), b), modulo(number(a)); got != want {
				t.Errorf("Add(Sub(%d, %d), %d) = %d, want %d", a, b, b, got, want)
			}
		}
	}
}

// P1.6
func TestReadInvertsHex(t *testing.T) {
	for _, n := range sample {
		if got, ok := wrap.Read(wrap.Hex(n)); !ok || got != modulo(number(n)) {
			t.Errorf("Read(Hex(%d)) = %d, %v", n, got, ok)
		}
	}
}

// P1
func TestNoCallPanics(t *testing.T) {
	for _, a := range sample {
		wrap.Word(a)
		wrap.Hex(a)
		wrap.Log(a)
		for _, b := range sample {
			wrap.Add(a, b)
			wrap.Sub(a, b)
			wrap.Ahead(a, b)
			for _, c := range sample {
				wrap.In(a, b, c)
			}
		}
	}
	for _, s := range []string{"", "\xff", "\xf0\x9f\x98", strings.Repeat("f", 1<<20), strings.Repeat("\x80", 4)} {
		wrap.Read(s)
	}
}

// The chapter's examples.
func TestChapterExamples(t *testing.T) {
	if got := wrap.Sub(3, 5); got != 65534 {
		t.Errorf("Sub(3, 5) = %d", got)
	}
	if got := wrap.Ahead(65534, 3); got != 5 {
		t.Errorf("Ahead(65534, 3) = %d", got)
	}
	if got := wrap.Hex(-1); got != "ffff" {
		t.Errorf("Hex(-1) = %q", got)
	}
}
