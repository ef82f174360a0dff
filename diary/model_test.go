package diary_test

import (
	"fmt"
	"math"
	"slices"

	"switchyard/api"
	"switchyard/diary"
)

// The constants have no type: they fit every number that can hold them.
var (
	_ uint8   = diary.Send
	_ float64 = diary.Recv
	_ int64   = diary.Release
)

// The fields of an entry are those of the chapter, and there are no others.
var _ = struct {
	Core, Peer, Kind int
	Begin, End       int
	Err              api.Errno
	Load             []int
	Handle           int
}(diary.Entry{})

// far holds numbers that are no cores, kinds, words or errors. Some of them have the low bits of such a number.
var far = []int{-2, -3, -8, -9, -65535, -65536, -65537, 65537, 131071, 131072, 1<<31 - 1, 1 << 31, 1<<32 - 1, 1 << 32, 1<<32 + 1, 1<<32 + 7, -1 << 32, 1 - 1<<32, 1 << 62, -1 << 62, math.MinInt, math.MinInt + 1, math.MinInt + 3, math.MaxInt - 1, math.MaxInt}

// valid reports whether the history is valid, by the text of the chapter, with its numbers written out, for all pairs of entries.
func valid(l []diary.Entry) bool {
	for i, x := range l {
		if !validAlone(x) {
			return false
		}
		for _, other := range l[:i] {
			if other.Core == x.Core && !(x.Begin > other.Begin && (other.End == 0 || x.Begin > other.End)) {
				return false
			}
		}
	}
	return true
}

// validAlone is what the text says of each entry.
func validAlone(x diary.Entry) bool {
	cores := x.Core >= 0 && x.Core <= 7 && x.Peer >= 0 && x.Peer <= 7 && x.Core != x.Peer
	kind := x.Kind == 1 || x.Kind == 2 || x.Kind == 3
	times := x.Begin > 0 && (x.End == 0 || x.End >= x.Begin)
	load := len(x.Load) <= 8
	for _, w := range x.Load {
		load = load && w >= 0 && w <= 65535
	}
	return cores && kind && times && load && (x.End != 0 || x.Err == 0)
}

// placesOf returns where the entries of a channel are in the list, by the text of the chapter.
func placesOf(l []diary.Entry, from, to int) (sent, taken []int) {
	for i, x := range l {
		if x.Kind == 1 && x.Core == from && x.Peer == to {
			sent = append(sent, i)
		}
		if x.Kind == 2 && x.Core == to && x.Peer == from || x.Kind == 3 && x.Core == to && x.Peer == from {
			taken = append(taken, i)
		}
	}
	return sent, taken
}

// textOf returns the text of an entry, by the text of the chapter.
func textOf(x diary.Entry) string {
	kind := "?"
	if x.Kind >= 1 && x.Kind <= 3 {
		kind = []string{"s", "r", "x"}[x.Kind-1]
	}
	if x.End == 0 {
		return fmt.Sprintf("%d%s%d %d-..", x.Core, kind, x.Peer, x.Begin)
	}
	return fmt.Sprintf("%d%s%d %d-%d %d", x.Core, kind, x.Peer, x.Begin, x.End, int(x.Err))
}

// countOf returns the number of entries of a kind that have ended with a result.
func countOf(l []diary.Entry, kind int, e api.Errno) int {
	return len(slices.DeleteFunc(slices.Clone(l), func(x diary.Entry) bool { return x.Kind != kind || x.End == 0 || x.Err != e }))
}

// key returns all that an entry is, as a text: those of two entries are equal if all their fields are.
func key(x diary.Entry) string {
	return fmt.Sprint(x.Core, x.Peer, x.Kind, x.Begin, x.End, int(x.Err), len(x.Load), x.Load, x.Handle)
}

// keys returns the keys of a list.
func keys(l []diary.Entry) []string {
	var k []string
	for _, x := range l {
		k = append(k, key(x))
	}
	return k
}

// copied returns a copy of a list that shares no memory with it.
func copied(l []diary.Entry) []diary.Entry {
	var c []diary.Entry
	for _, x := range l {
		x.Load = append([]int{}, x.Load...)
		c = append(c, x)
	}
	return c
}

// with returns a copy of a list in which x is inserted at a place.
func with(l []diary.Entry, place int, x diary.Entry) []diary.Entry {
	return slices.Insert(copied(l), place, x)
}

// dice are numbers that follow from each other, the same ones in every run.
type dice uint64

// roll returns one of n numbers from 0 on.
func (d *dice) roll(n int) int {
	*d = *d*6364136223846793005 + 1442695040888963407
	return int(*d>>33) % n
}

// words returns a Load with words of all sizes, among them the limits.
func (d *dice) words() []int {
	var l []int
	for range d.roll(9) {
		l = append(l, []int{0, 65535, d.roll(65536), d.roll(4)}[d.roll(4)])
	}
	return l
}

// call returns a valid call of a core, which begins behind a time; some calls do not end.
func (d *dice) call(core, behind int) diary.Entry {
	x := diary.Entry{Core: core, Peer: (core + 1 + d.roll(7)) % 8, Kind: 1 + d.roll(3), Begin: behind + 1 + d.roll(3), Load: d.words()}
	if d.roll(4) > 0 {
		x.End, x.Err = x.Begin+d.roll(4), api.Errno(d.roll(21))
	}
	return x
}

// history returns a valid history of at most n entries of some cores. The entries of different cores are in any order; all handles differ.
func (d *dice) history(n int) []diary.Entry {
	var l []diary.Entry
	var last [8]int
	cores := 1 + d.roll(8)
	for i := range d.roll(n + 1) {
		x := d.call(d.roll(cores), 0)
		x = d.call(x.Core, last[x.Core])
		x.Handle = i + 1
		last[x.Core] = max(x.Begin, x.End)
		l = append(l, x)
	}
	return l
}

// any returns a number that is near to the limits of something, or far from them.
func (d *dice) any() int {
	if d.roll(4) == 0 {
		return far[d.roll(len(far))]
	}
	return []int{-1, 0, 1, 2, 3, 4, 7, 8, 9, 20, 21, 65535, 65536}[d.roll(13)]
}

// wild returns a list of entries of which each number is any one.
func (d *dice) wild(n int) []diary.Entry {
	var l []diary.Entry
	for range d.roll(n + 1) {
		x := diary.Entry{Core: d.any(), Peer: d.any(), Kind: d.any(), Begin: d.any(), End: d.any(), Err: api.Errno(d.any()), Handle: d.any()}
		for range d.roll(12) {
			x.Load = append(x.Load, d.any())
		}
		l = append(l, x)
	}
	return l
}

// spoil returns the entry with one thing changed, often to what cannot be.
func (d *dice) spoil(x diary.Entry) diary.Entry {
	x.Load = slices.Clone(x.Load)
	switch d.roll(8) {
	case 0:
		x.Core = d.any()
	case 1:
		x.Peer = d.any()
	case 2:
		x.Kind = d.any()
	case 3:
		x.Begin += d.roll(9) - 4
	case 4:
		x.End += d.roll(9) - 4
	case 5:
		x.Err = api.Errno(d.any())
	case 6:
		x.Load = append(x.Load, d.any())
	default:
		x.Handle = d.any()
	}
	return x
}
