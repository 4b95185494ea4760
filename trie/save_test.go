package trie_test

import (
	"bytes"
	"math/rand"
	"slices"
	"testing"

	"scansion/api"
	"scansion/trie"
)

const head = 1 + blocks

// P3.3

func TestSave(t *testing.T) {
	b := build(t, nil).Save()
	if want := make([]byte, 1+blocks+size); !bytes.Equal(b, want) {
		t.Errorf("of nothing: %d bytes, want %d, all 0", len(b), len(want))
	}

	b = build(t, list(256+65, 256+66, 3, 1024+7, 1024+7, 9, top-255+65, top-255+66, 3)).Save()
	want := make([]byte, 1+blocks+3*size)
	want[0] = 2
	want[1+1], want[1+4], want[1+4351] = 1, 2, 1
	want[head+size+65], want[head+size+66], want[head+2*size+7] = 3, 3, 9
	if !bytes.Equal(b, want) {
		t.Error("of three first blocks")
	}

	b = build(t, list(0, 511, 8)).Save()
	if b[0] != 1 || b[1] != 0 || b[2] != 0 || b[3] != 1 || b[head] != 8 || b[head+255] != 8 || b[head+256] != 0 {
		t.Error("the first block is counted 0, whatever its values are")
	}

	b = build(t, marked(0, 255)).Save()
	if len(b) != 1+blocks+256*size || b[0] != 255 || b[1] != 0 || b[255] != 254 || b[256] != 255 || b[257] != 255 {
		t.Error("of 256 first blocks")
	}
}

func TestSaveIsTheCallers(t *testing.T) {
	l := list(65, 70, 3, 666, 666, 4)
	x := build(t, l)
	for _, told := range [][]byte{x.Save(), x.Save()} {
		for i := range told {
			told[i] = 0xAA
		}
		hold(t, x, valuesOf(l))
	}
}

func TestLoad(t *testing.T) {
	for _, l := range [][]api.Prop{nil, list(65, 66, 3), list(0, top, 9), list(0, 0, 7, top, top, 8), marked(0, 255)} {
		b := build(t, l).Save()
		kept := slices.Clone(b)
		x := load(t, b)
		if !bytes.Equal(b, kept) {
			t.Error("Load changed its bytes")
		}
		for i := range b {
			b[i] ^= 0xFF
		}
		hold(t, x, valuesOf(l))
	}
}

// TestLoadOfManyRanges: more ranges than Build takes entries are a trie, too, where it is loaded.
func TestLoadOfManyRanges(t *testing.T) {
	b := make([]byte, head+size)
	for j := range size {
		b[head+j] = byte(j % 3)
	}
	x := load(t, b)
	values := make([]byte, 0, top+1)
	for r := range top + 1 {
		values = append(values, byte(r%size%3))
	}
	hold(t, x, values)
	if e := errorOfBuild(x.All()); e != api.ErrFull {
		t.Errorf("Build of more than 4096 ranges: error %d", e)
	}
}

// TestAllOfManyRanges: entries that part one another make more ranges than Build takes; Save and Load take them.
func TestAllOfManyRanges(t *testing.T) {
	l := list(0, top, 1)
	for i := range 4095 {
		l = append(l, list(2*i+1, 2*i+1, 2)...)
	}
	x := build(t, l)
	hold(t, x, valuesOf(l))
	hold(t, load(t, x.Save()), valuesOf(l))
	if n := len(x.All()); n != 2*4095+1 {
		t.Errorf("%d ranges, want %d", n, 2*4095+1)
	}
	if e := errorOfBuild(x.All()); e != api.ErrFull {
		t.Errorf("Build of more than 4096 ranges: error %d", e)
	}
	if e := errorOfBuild(x.All()[:4096]); e != api.OK {
		t.Errorf("Build of 4096 ranges: error %d", e)
	}
}

func errorOfBuild(l []api.Prop) api.Errno {
	_, e := trie.Build(l)
	return e
}

// coded is bytes of the form of Save, made of their parts: which first block the blocks are like (0, where like ends), and of each first block its value at the place 0.
func coded(like []byte, first ...byte) []byte {
	b := make([]byte, head+len(first)*size)
	b[0] = byte(len(first) - 1)
	copy(b[1:], like)
	for i, value := range first {
		b[head+i*size] = value
	}
	return b
}

func TestLoadErrors(t *testing.T) {
	good := coded([]byte{0, 1, 2, 1}, 5, 0, 6)
	load(t, good)
	lastLike := func(n byte) []byte { return append(make([]byte, blocks-1), n) }
	unlikeAtEnd := coded([]byte{0, 1}, 5, 5)
	unlikeAtEnd[len(unlikeAtEnd)-1] = 1
	alikeAtEnd := slices.Clone(unlikeAtEnd)
	alikeAtEnd[head+size-1] = 1
	many := build(t, marked(0, 255)).Save()
	alikeOfMany := slices.Clone(many)
	copy(alikeOfMany[head+255*size:], alikeOfMany[head+3*size:head+4*size])
	none := slices.Clone(many)
	for i := 256; i < head; i++ {
		none[i] = 7
	}
	for _, c := range []struct {
		what string
		b    []byte
		want api.Errno
	}{
		{"nil", nil, api.ErrForm},
		{"empty", []byte{}, api.ErrForm},
		{"one byte", []byte{0}, api.ErrForm},
		{"no block's place told", make([]byte, blocks), api.ErrForm},
		{"no values", make([]byte, head), api.ErrForm},
		{"one byte of values", make([]byte, head+1), api.ErrForm},
		{"a byte too few", good[:len(good)-1], api.ErrForm},
		{"a byte too many", append(slices.Clone(good), 0), api.ErrForm},
		{"a block too few", good[:len(good)-size], api.ErrForm},
		{"a block too many", append(slices.Clone(good), make([]byte, size)...), api.ErrForm},
		{"twice", append(slices.Clone(good), good...), api.ErrForm},
		{"one block", coded(nil, 0), api.OK},
		{"256 blocks, a byte too few", many[:len(many)-1], api.ErrForm},
		{"256 blocks, a byte too many", append(slices.Clone(many), 0), api.ErrForm},
		{"256 blocks", many, api.OK},
		{"256 blocks, two alike", alikeOfMany, api.ErrForm},
		{"256 blocks, none like the last one", none, api.ErrForm},
		{"one that is not there", coded([]byte{0, 1}, 5), api.ErrForm},
		{"one that is not there, behind those that are", coded([]byte{0, 1, 2}, 5, 6), api.ErrForm},
		{"one that is far from there", coded([]byte{0, 255}, 5), api.ErrForm},
		{"the last block like one that is not there", coded(lastLike(1), 5), api.ErrForm},
		{"the last block like one that is there", coded(lastLike(1), 5, 6), api.OK},
		{"the last block like the one behind", coded(lastLike(2), 5, 6, 7), api.ErrForm},
		{"not counted from 0 on", coded([]byte{1, 0}, 5, 6), api.ErrForm},
		{"not counted in order", coded([]byte{0, 2, 1}, 5, 6, 7), api.ErrForm},
		{"counted in order, and again", coded([]byte{0, 1, 0, 2, 1, 0, 3, 2}, 5, 6, 7, 8), api.OK},
		{"none is like the last one", coded([]byte{0, 1}, 5, 6, 7), api.ErrForm},
		{"none is like the second one", coded(nil, 5, 6), api.ErrForm},
		{"none is like the second of three", coded([]byte{0, 2}, 5, 6, 7), api.ErrForm},
		{"two are alike", coded([]byte{0, 1}, 5, 5), api.ErrForm},
		{"two of three are alike", coded([]byte{0, 1, 2}, 5, 6, 5), api.ErrForm},
		{"all are alike", coded([]byte{0, 1, 2}, 5, 5, 5), api.ErrForm},
		{"unlike at their end", unlikeAtEnd, api.OK},
		{"alike up to their end", alikeAtEnd, api.ErrForm},
	} {
		t.Run(c.what, func(t *testing.T) {
			x, e := trie.Load(c.b)
			if e != c.want || (x == nil) != (c.want != api.OK) {
				t.Fatalf("error %d, want %d; trie %p", e, c.want, x)
			}
			if e == api.OK && !bytes.Equal(x.Save(), c.b) {
				t.Error("saved otherwise")
			}
		})
	}
	told := coded(nil, 0)
	for n := 1; n < 256; n++ {
		told[0] = byte(n)
		if _, e := trie.Load(told); e != api.ErrForm {
			t.Errorf("%d blocks told, one there: error %d", n+1, e)
		}
	}
}

func TestLoadOfAllLengths(t *testing.T) {
	b := make([]byte, head+3*size)
	for n := range len(b) + 1 {
		want := api.ErrForm
		if n == head+size {
			want = api.OK
		}
		if x, e := trie.Load(b[:n]); e != want || (x == nil) != (want != api.OK) {
			t.Fatalf("%d bytes that are 0: error %d, want %d", n, e, want)
		}
	}
}

// saves tells whether there are values whose Save is b: those that b tells, if it tells any.
func saves(b []byte) bool {
	if len(b) < head || len(b) != head+(int(b[0])+1)*size {
		return false
	}
	var values []byte
	for _, n := range b[1:head] {
		if n > b[0] {
			return false
		}
		at := head + int(n)*size
		values = append(values, b[at:at+size]...)
	}
	return bytes.Equal(bytesOf(values), b)
}

func TestLoadOfChance(t *testing.T) {
	chance := rand.New(rand.NewSource(33))
	good, bad := 0, 0
	for range 400 {
		b := build(t, anyEntries(chance, 1+chance.Intn(6))).Save()
		for range 1 + chance.Intn(2) {
			at := chance.Intn(12)
			if chance.Intn(3) == 0 {
				at = head + chance.Intn(len(b)-head)
			}
			b[at] = byte(chance.Intn(int(b[0]) + 3))
		}
		x, e := trie.Load(b)
		if !saves(b) {
			bad++
			if e != api.ErrForm || x != nil {
				t.Fatalf("error %d, trie %p of no trie's bytes", e, x)
			}
			continue
		}
		good++
		if e != api.OK || !bytes.Equal(x.Save(), b) {
			t.Fatalf("error %d of a trie's bytes", e)
		}
	}
	if good < 40 || bad < 40 {
		t.Errorf("%d tries, %d that are none: too few of one", good, bad)
	}
}

// P3.4

func TestBuildOfAll(t *testing.T) {
	chance := rand.New(rand.NewSource(34))
	lists := [][]api.Prop{nil, list(0, top, 9), list(0, 0, 7, top, top, 8), marked(0, 255)}
	for range 40 {
		lists = append(lists, anyEntries(chance, 1+chance.Intn(60)))
	}
	for _, l := range lists {
		x := build(t, l)
		y := build(t, x.All())
		for r := range top + 1 {
			if x.Of(r) != y.Of(r) {
				t.Fatalf("Of(%#x): %d, and %d of the trie of its ranges", r, x.Of(r), y.Of(r))
			}
		}
		if !bytes.Equal(x.Save(), y.Save()) || !slices.Equal(x.All(), y.All()) || x.Blocks() != y.Blocks() {
			t.Fatal("the same values, told otherwise")
		}
	}
}

func TestSaveAndLoad(t *testing.T) {
	chance := rand.New(rand.NewSource(35))
	for range 40 {
		l := anyEntries(chance, 1+chance.Intn(60))
		x := build(t, l)
		y := load(t, x.Save())
		if !bytes.Equal(y.Save(), x.Save()) {
			t.Fatal("saved otherwise")
		}
		hold(t, y, valuesOf(l))
	}
}

// savedBlocks is the first blocks that Save tells, each as a text.
func savedBlocks(x *trie.Trie) []string {
	var l []string
	for part := range slices.Chunk(x.Save()[head:], size) {
		l = append(l, string(part))
	}
	return l
}

// made tells how many first blocks the last entry of l makes that were not there ahead of it.
func made(t *testing.T, l []api.Prop) int {
	t.Helper()
	ahead := savedBlocks(build(t, l[:len(l)-1]))
	n := 0
	for _, b := range savedBlocks(build(t, l)) {
		if !slices.Contains(ahead, b) {
			n++
		}
	}
	return n
}

func TestAnEntryMakesThree(t *testing.T) {
	for _, c := range []struct {
		what string
		l    []api.Prop
		want int
	}{
		{"the value 0", list(5, 9, 0), 0},
		{"one block", list(5, 9, 1), 1},
		{"a whole one", list(0, 255, 1), 1},
		{"two", list(5, 300, 1), 2},
		{"three", list(5, 600, 1), 3},
		{"three, of many blocks", list(5, 100000, 1), 3},
		{"all", list(0, top, 1), 1},
		{"all but two", list(1, top-1, 1), 3},
		{"blocks that are there", list(5, 600, 1, 768+5, 768+600, 1), 0},
	} {
		if got := made(t, c.l); got != c.want {
			t.Errorf("%s: %d, want %d", c.what, got, c.want)
		}
	}
	chance := rand.New(rand.NewSource(36))
	for range 20 {
		l := anyEntries(chance, 40)
		for n := 1; n <= len(l); n++ {
			if got := made(t, l[:n]); got > 3 {
				t.Fatalf("%v makes %d", l[n-1], got)
			}
		}
	}
}
