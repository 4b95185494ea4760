package trie_test

import (
	"math"
	"math/rand"
	"slices"
	"testing"

	"scansion/api"
	"scansion/trie"
)

const (
	top    = api.MaxRune
	size   = 256
	blocks = 4352
)

// list is entries, by Low, High and Value in turn.
func list(n ...int) []api.Prop {
	var l []api.Prop
	for i := 0; i+2 < len(n); i += 3 {
		l = append(l, api.Prop{Low: n[i], High: n[i+1], Value: byte(n[i+2])})
	}
	return l
}

// valuesOf is the values of all numbers, one by one, as P3.1 says them.
func valuesOf(l []api.Prop) []byte {
	values := make([]byte, top+1)
	for _, p := range l {
		for r := p.Low; r <= p.High; r++ {
			values[r] = p.Value
		}
	}
	return values
}

// firstOf is the first blocks of values, and which of them each block is like, by holding each block against all first ones.
func firstOf(values []byte) (first [][]byte, like []int) {
	for i := 0; i < len(values); i += size {
		b := values[i : i+size]
		n := slices.IndexFunc(first, func(f []byte) bool { return slices.Equal(f, b) })
		if n < 0 {
			n = len(first)
			first = append(first, b)
		}
		like = append(like, n)
	}
	return first, like
}

// rangesOf is what All has to tell of values.
func rangesOf(values []byte) []api.Prop {
	var l []api.Prop
	for low := 0; low < len(values); {
		high := low
		for high+1 < len(values) && values[high+1] == values[low] {
			high++
		}
		if values[low] != 0 {
			l = append(l, api.Prop{Low: low, High: high, Value: values[low]})
		}
		low = high + 1
	}
	return l
}

// bytesOf is what Save has to tell of values.
func bytesOf(values []byte) []byte {
	first, like := firstOf(values)
	b := []byte{byte(len(first) - 1)}
	for _, n := range like {
		b = append(b, byte(n))
	}
	return append(b, slices.Concat(first...)...)
}

func build(t *testing.T, l []api.Prop) *trie.Trie {
	t.Helper()
	x, e := trie.Build(l)
	if e != api.OK || x == nil {
		t.Fatalf("Build: error %d, trie %p", e, x)
	}
	return x
}

func load(t *testing.T, b []byte) *trie.Trie {
	t.Helper()
	x, e := trie.Load(b)
	if e != api.OK || x == nil {
		t.Fatalf("Load: error %d, trie %p", e, x)
	}
	return x
}

// hold holds all that a trie tells against values.
func hold(t *testing.T, x *trie.Trie, values []byte) {
	t.Helper()
	for r, want := range values {
		if got := x.Of(r); got != want {
			t.Fatalf("Of(%#x): %d, want %d", r, got, want)
		}
	}
	first, _ := firstOf(values)
	if got := x.Blocks(); got != len(first) {
		t.Errorf("Blocks: %d, want %d", got, len(first))
	}
	if got, want := x.All(), rangesOf(values); !slices.Equal(got, want) {
		t.Errorf("All: %d ranges, want %d", len(got), len(want))
	}
	if got, want := x.Save(), bytesOf(values); !slices.Equal(got, want) {
		t.Errorf("Save: %d bytes, want %d", len(got), len(want))
	}
}

// marked is entries that make count blocks, from the block at on, unlike one another and unlike the block of nothing: at most 255 times 256.
func marked(at, count int) []api.Prop {
	var l []api.Prop
	for i := range count {
		r := (at+i)*size + i/255
		l = append(l, list(r, r, 1+i%255)...)
	}
	return l
}

// anyEntries is entries by chance, in few enough blocks, so that they overlap, and begin and end with blocks.
func anyEntries(chance *rand.Rand, count int) []api.Prop {
	edge := func() int {
		r := chance.Intn(6)*size + chance.Intn(3) - 1
		switch chance.Intn(4) {
		case 0:
			r = top - r
		case 1:
			r = chance.Intn(8 * size)
		case 2:
			r = chance.Intn(top + 1)
		}
		return min(max(r, 0), top)
	}
	var l []api.Prop
	for range count {
		a, b := edge(), edge()
		l = append(l, list(min(a, b), max(a, b), chance.Intn(4)*85)...)
	}
	return l
}

// P3.1

func TestBuild(t *testing.T) {
	for _, c := range []struct {
		what   string
		l      []api.Prop
		blocks int
	}{
		{"none", nil, 1},
		{"empty", []api.Prop{}, 1},
		{"the chapter's", list(65, 66, 3), 2},
		{"the first number", list(0, 0, 7), 2},
		{"the last number", list(top, top, 7), 2},
		{"both", list(0, 0, 7, top, top, 7), 3},
		{"all", list(0, top, 9), 1},
		{"all but the first", list(1, top, 9), 2},
		{"all but the last", list(0, top-1, 9), 2},
		{"the greatest value", list(5, 9, 255), 2},
		{"surrogates", list(0xD800, 0xDFFF, 4), 2},
		{"one block", list(256, 511, 1), 2},
		{"the block's ends", list(256, 256, 1, 511, 511, 1), 2},
		{"over a block's end", list(255, 256, 1), 3},
		{"over two ends", list(255, 512, 1), 4},
		{"the last block", list(top-255, top, 1), 2},
		{"value 0 on nothing", list(10, 20, 0), 1},
		{"value 0 on some", list(10, 20, 5, 12, 13, 0), 2},
		{"value 0 on all of it", list(10, 20, 5, 0, 300, 0), 1},
		{"value 0 ahead", list(10, 20, 0, 12, 13, 5), 2},
		{"overlap", list(10, 20, 5, 15, 25, 6), 2},
		{"overlap, other order", list(15, 25, 6, 10, 20, 5), 2},
		{"in one another", list(0, 1000, 5, 300, 400, 6), 4},
		{"hidden", list(300, 400, 6, 0, 1000, 5), 3},
		{"the same, twice", list(300, 400, 6, 300, 400, 6), 2},
		{"there and back", list(0, 9, 1, 0, 9, 2, 0, 9, 1), 2},
		{"alike", list(65, 66, 3, 65+256, 66+256, 3, 65+512, 66+512, 3), 2},
		{"alike, put together in two ways", list(65, 66, 3, 65+256, 65+256, 3, 66+256, 66+256, 3), 2},
		{"alike, first and last", list(1, 1, 3, top-254, top-254, 3), 2},
		{"unlike by their values", list(65, 66, 3, 65+256, 66+256, 4), 3},
		{"unlike by their places", list(65, 66, 3, 66+256, 67+256, 3), 3},
		{"unlike by their length", list(65, 66, 3, 65+256, 67+256, 3), 3},
		{"whole blocks of two values", list(0, 511, 1, 512, 1023, 2, 1024, 1279, 1), 3},
		{"the blocks part nothing", list(0, 100, 1, 101, 700, 1, 701, 767, 1), 2},
	} {
		t.Run(c.what, func(t *testing.T) {
			x := build(t, c.l)
			if got := x.Blocks(); got != c.blocks {
				t.Errorf("Blocks: %d, want %d", got, c.blocks)
			}
			hold(t, x, valuesOf(c.l))
		})
	}
}

func TestBuildOfChance(t *testing.T) {
	chance := rand.New(rand.NewSource(3))
	for range 60 {
		l := anyEntries(chance, 1+chance.Intn(40))
		hold(t, build(t, l), valuesOf(l))
	}
}

func TestOfOutside(t *testing.T) {
	for _, l := range [][]api.Prop{nil, list(0, top, 9), list(0, 0, 7, top, top, 8)} {
		x := build(t, l)
		for _, r := range []int{-1, -2, -256, -257, -65, math.MinInt, math.MinInt32, top + 1, top + 2, top + 257, math.MaxInt32, math.MaxInt} {
			if got := x.Of(r); got != 0 {
				t.Errorf("Of(%d): %d, want 0", r, got)
			}
		}
	}
	x := build(t, list(0, 0, 7, top, top, 8))
	if x.Of(0) != 7 || x.Of(1) != 0 || x.Of(top-1) != 0 || x.Of(top) != 8 {
		t.Error(x.Of(0), x.Of(1), x.Of(top-1), x.Of(top))
	}
}

// repeat is an entry, count times.
func repeat(count int, n ...int) []api.Prop {
	return slices.Repeat(list(n...), count)
}

func TestBuildErrors(t *testing.T) {
	full := marked(0, 256)
	for _, c := range []struct {
		what string
		l    []api.Prop
		want api.Errno
	}{
		{"Low below 0", list(-1, 5, 1), api.ErrArg},
		{"both below 0", list(-5, -1, 1), api.ErrArg},
		{"Low far below 0", list(math.MinInt, 5, 1), api.ErrArg},
		{"High above", list(5, top+1, 1), api.ErrArg},
		{"both above", list(top+1, top+1, 1), api.ErrArg},
		{"High far above", list(5, math.MaxInt, 1), api.ErrArg},
		{"ends of all numbers", list(math.MinInt, math.MaxInt, 1), api.ErrArg},
		{"Low above High", list(6, 5, 1), api.ErrArg},
		{"Low above High, of other blocks", list(top, 0, 1), api.ErrArg},
		{"turned ends of all numbers", list(math.MaxInt, math.MinInt, 1), api.ErrArg},
		{"value 0 is no excuse", list(6, 5, 0), api.ErrArg},
		{"the first of several", list(-1, 5, 1, 0, 5, 1, 0, 7, 2), api.ErrArg},
		{"one between", list(0, 5, 1, 6, 5, 1, 0, 7, 2), api.ErrArg},
		{"the last of several", list(0, 5, 1, 0, 7, 2, 5, top+1, 1), api.ErrArg},
		{"hidden", list(6, 5, 1, 0, top, 2), api.ErrArg},
		{"4096 entries", repeat(4096, 0, top, 1), api.OK},
		{"4097 entries", repeat(4097, 0, top, 1), api.ErrFull},
		{"4097 that are nothing", make([]api.Prop, 4097), api.ErrFull},
		{"5000 wrong ones", repeat(5000, 6, 5, 1), api.ErrFull},
		{"4096 entries, the last one wrong", slices.Concat(repeat(4095, 0, 9, 1), list(-1, 5, 1)), api.ErrArg},
		{"4097 entries, the last one wrong", slices.Concat(repeat(4096, 0, 9, 1), list(-1, 5, 1)), api.ErrFull},
		{"256 first blocks", marked(0, 255), api.OK},
		{"257 first blocks", full, api.ErrFull},
		{"257 first blocks, and a wrong entry", slices.Concat(full, list(6, 5, 1)), api.ErrArg},
		{"far more first blocks", marked(0, 4096), api.ErrFull},
		{"257 ahead of the last entry", slices.Concat(full, list(0, 255, 0)), api.OK},
		{"257 by the last block", slices.Concat(marked(0, 255), list(top, top, 77)), api.ErrFull},
		{"256 with a last block like another", slices.Concat(marked(0, 255), list(top-255, top-255, 77)), api.OK},
	} {
		t.Run(c.what, func(t *testing.T) {
			x, e := trie.Build(c.l)
			if e != c.want || (x == nil) != (c.want != api.OK) {
				t.Errorf("error %d, want %d; trie %p", e, c.want, x)
			}
		})
	}
}

func TestFirstBlocks(t *testing.T) {
	hidden := slices.Concat(marked(0, 3800), list(0, top, 0), marked(4352-255, 255))
	for _, c := range []struct {
		what   string
		l      []api.Prop
		blocks int
	}{
		{"256 of them at the beginning", marked(0, 255), 256},
		{"256 of them at the end", marked(4352-255, 255), 256},
		{"255", marked(7, 254), 255},
		{"many that are hidden are none", hidden, 256},
		{"a mark of the value that is there is none", slices.Concat(list(0, top, 255), marked(0, 255)), 255},
	} {
		t.Run(c.what, func(t *testing.T) {
			x := build(t, c.l)
			if got := x.Blocks(); got != c.blocks {
				t.Errorf("Blocks: %d, want %d", got, c.blocks)
			}
			hold(t, x, valuesOf(c.l))
			hold(t, load(t, x.Save()), valuesOf(c.l))
		})
	}
}

func TestBuildLeavesEntries(t *testing.T) {
	l := list(300, 400, 6, 0, 1000, 5, 10, 20, 0)
	kept := slices.Clone(l)
	x := build(t, l)
	if !slices.Equal(l, kept) {
		t.Error("changed", l)
	}
	for i := range l {
		l[i] = api.Prop{Low: 0, High: top, Value: 200}
	}
	hold(t, x, valuesOf(kept))
}

// P3.2

func TestAll(t *testing.T) {
	for _, c := range []struct {
		what    string
		l, want []api.Prop
	}{
		{"none", nil, nil},
		{"the value 0 alone", list(5, 9, 0), nil},
		{"the chapter's", list(65, 66, 3), list(65, 66, 3)},
		{"all", list(0, top, 9), list(0, top, 9)},
		{"the ends", list(top, top, 7, 0, 0, 7), list(0, 0, 7, top, top, 7)},
		{"rising", list(900, 900, 1, 3, 3, 1, 500, 500, 1), list(3, 3, 1, 500, 500, 1, 900, 900, 1)},
		{"touch, of one value", list(5, 9, 3, 10, 12, 3), list(5, 12, 3)},
		{"touch, of two values", list(5, 9, 3, 10, 12, 4), list(5, 9, 3, 10, 12, 4)},
		{"a number between", list(5, 9, 3, 11, 12, 3), list(5, 9, 3, 11, 12, 3)},
		{"another value between", list(5, 9, 3, 10, 10, 4, 11, 12, 3), list(5, 9, 3, 10, 10, 4, 11, 12, 3)},
		{"over a block's end", list(250, 260, 3), list(250, 260, 3)},
		{"touch at a block's end", list(200, 255, 3, 256, 300, 3), list(200, 300, 3)},
		{"touch at a block's end, of two values", list(200, 255, 3, 256, 300, 4), list(200, 255, 3, 256, 300, 4)},
		{"over many blocks", list(100, 100000, 3), list(100, 100000, 3)},
		{"the last one parts", list(65, 70, 3, 66, 66, 4), list(65, 65, 3, 66, 66, 4, 67, 70, 3)},
		{"value 0 parts", list(65, 70, 3, 66, 66, 0), list(65, 65, 3, 67, 70, 3)},
		{"the last one joins", list(5, 9, 3, 11, 12, 3, 10, 10, 3), list(5, 12, 3)},
		{"up to the end", list(top-600, top, 255, top-300, top, 254), list(top-600, top-301, 255, top-300, top, 254)},
	} {
		if got := build(t, c.l).All(); !slices.Equal(got, c.want) {
			t.Errorf("%s: %v, want %v", c.what, got, c.want)
		}
	}
}

func TestAllIsTheCallers(t *testing.T) {
	l := list(65, 70, 3, 66, 66, 4)
	x := build(t, l)
	for _, told := range [][]api.Prop{x.All(), x.All()} {
		for i := range told {
			told[i] = api.Prop{Value: 9}
		}
		hold(t, x, valuesOf(l))
	}
}
