package ucd_test

import (
	"bytes"
	"math/rand"
	"slices"
	"testing"

	"scansion/api"
	"scansion/trie"
	"scansion/ucd"
)

const (
	count = 4              // bytes ahead of each part
	least = 1 + 4352 + 256 // bytes of a part of one block
)

func load(t *testing.T, b []byte) *ucd.Data {
	t.Helper()
	d, e := ucd.Load(b)
	if e != api.OK || d == nil {
		t.Fatalf("Load: error %d, data %p", e, d)
	}
	return d
}

// refused tells whether Load answers ErrForm, and nothing beside it.
func refused(b []byte) bool {
	d, e := ucd.Load(b)
	return e == api.ErrForm && d == nil
}

// shippedParts is the four parts of what Save has to tell of the shipped tables.
func shippedParts(t *testing.T) [][]byte {
	t.Helper()
	var parts [][]byte
	for i := range tables {
		parts = append(parts, partOf(t, rows(t, i)))
	}
	return parts
}

// P4.2

func TestSave(t *testing.T) {
	if !bytes.Equal(ucd.New().Save(), saved(shippedParts(t)...)) {
		t.Error("saved otherwise")
	}
}

// TestSaveByParts reads what is saved on its own, byte by byte.
func TestSaveByParts(t *testing.T) {
	b := ucd.New().Save()
	for i := range tables {
		n := int(b[0]) + 256*int(b[1]) + 65536*int(b[2]) + 16777216*int(b[3])
		p := b[count : count+n]
		b = b[count+n:]
		x, e := trie.Load(p)
		if e != api.OK {
			t.Fatalf("part %d: error %d", i, e)
		}
		want := valuesOf(t, rows(t, i))
		for r := range top + 1 {
			if got := int(x.Of(r)); got != want[r] {
				t.Fatalf("part %d, %#x: %d, want %d", i, r, got, want[r])
			}
		}
		for r := firstSyllable; r <= lastSyllable && i == 0; r++ {
			if x.Of(r) != 0 {
				t.Fatalf("%#x has a value in what is saved of Cluster", r)
			}
		}
	}
	if len(b) != 0 {
		t.Errorf("%d bytes behind the parts", len(b))
	}
}

// TestSaveIsLaid: the lengths and the first bytes of the least data and of one that has more, written out here.
func TestSaveIsLaid(t *testing.T) {
	nothing := saved(part(t), part(t), part(t), part(t))
	b := load(t, nothing).Save()
	if len(b) != 4*(count+least) || !bytes.Equal(b[:6], []byte{0x01, 0x12, 0, 0, 0, 0}) {
		t.Errorf("of nothing: %d bytes, % X ..", len(b), b[:6])
	}
	var many []int
	for i := range 255 {
		many = append(many, 256*i, 256*i, i+1)
	}
	b = load(t, saved(part(t), part(t), part(t, many...), part(t))).Save()
	at := 2 * (count + least)
	if !bytes.Equal(b[at:at+8], []byte{0x01, 0x11, 0x01, 0, 255, 0, 1, 2}) {
		t.Errorf("of 256 blocks: % X ..", b[at:at+8])
	}
}

func TestSaveIsTheCallers(t *testing.T) {
	d := ucd.New()
	for range 2 {
		b := d.Save()
		for i := range b {
			b[i] = 0xAA
		}
		hold(t, d)
	}
}

func TestLoadSharesNothing(t *testing.T) {
	b := ucd.New().Save()
	kept := slices.Clone(b)
	d := load(t, b)
	if !bytes.Equal(b, kept) {
		t.Error("Load changed its bytes")
	}
	for i := range b {
		b[i] ^= 0xFF
	}
	hold(t, d)
	if !bytes.Equal(d.Save(), kept) {
		t.Error("saved otherwise")
	}
}

// TestLoadOfOtherValues: values that the tables don't name are data, too, at all numbers.
func TestLoadOfOtherValues(t *testing.T) {
	b := saved(
		part(t, 'a', 'a', 14, 'b', 'b', 255, 'c', 'c', 12, 'd', 'd', 13, 0xABFF, 0xABFF, 77, 0xD7A4, 0xD7A4, 78, 0xD800, 0xDFFF, 99, top, top, 200),
		part(t, 'a', 'a', 19, 'b', 'b', 255, 'c', 'c', 1, 0xAC00, 0xAC01, 200, 0xD800, 0xDFFF, 98, top, top, 201),
		part(t, 0, 0, 3, 'a', 'a', 5, 'b', 'b', 255, 0xD800, 0xDFFF, 97, top, top, 202),
		part(t, 'a', 'a', 2, 'b', 'b', 255, 'c', 'c', 1, 0xD800, 0xDFFF, 96, top, top, 203),
	)
	d := load(t, b)
	for _, c := range []struct{ r, cluster, word, script, picto int }{
		{0, 0, 0, 3, 0},
		{'a', 14, 19, 5, 1},
		{'b', 255, 255, 255, 1},
		{'c', 12, 1, 0, 1},
		{'d', 13, 0, 0, 0},
		{'\r', 0, 0, 0, 0},
		{0xABFF, 77, 0, 0, 0},
		{0xAC00, 12, 200, 0, 0},
		{0xAC01, 13, 200, 0, 0},
		{0xAC02, 13, 0, 0, 0},
		{0xD7A3, 13, 0, 0, 0},
		{0xD7A4, 78, 0, 0, 0},
		{0xD800, 99, 98, 97, 1},
		{0xDFFF, 99, 98, 97, 1},
		{0xE000, 0, 0, 0, 0},
		{top, 200, 201, 202, 1},
	} {
		if got, want := values(d, c.r), [4]int{c.cluster, c.word, c.script, c.picto}; got != want {
			t.Errorf("%#x: Cluster, Word, Script, Picto: %v, want %v", c.r, got, want)
		}
	}
	if !bytes.Equal(d.Save(), b) {
		t.Error("saved otherwise")
	}
}

// TestLoadOfSyllables: whatever the table says of them, they are told as syllables, and saved as the table says.
func TestLoadOfSyllables(t *testing.T) {
	full := part(t, 0, top, 7)
	d := load(t, saved(full, full, full, full))
	for r := range top + 1 {
		want := [4]int{7, 7, 7, 1}
		if r >= firstSyllable && r <= lastSyllable {
			want[0] = 13
			if (r-firstSyllable)%28 == 0 {
				want[0] = 12
			}
		}
		if got := values(d, r); got != want {
			t.Fatalf("%#x: %v, want %v", r, got, want)
		}
	}
	for _, r := range outside() {
		if !none(d, r) {
			t.Errorf("%#x: %v", r, values(d, r))
		}
	}
	if !bytes.Equal(d.Save(), saved(full, full, full, full)) {
		t.Error("saved otherwise")
	}
}

// TestLoadErrors puts each bad part in each place among good ones.
func TestLoadErrors(t *testing.T) {
	good := shippedParts(t)
	load(t, saved(good...))
	some := part(t, 256, 256, 1, 512, 512, 2)
	changed := func(at int, value byte) []byte {
		b := slices.Clone(some)
		b[at] = value
		return b
	}
	alike := changed(least, 1)
	alike[least+256] = 1
	bad := map[string][]byte{
		"nothing":                nil,
		"one byte":               {0},
		"a byte too few":         some[:len(some)-1],
		"a byte too many":        append(slices.Clone(some), 0),
		"a block too few":        some[:len(some)-256],
		"a block too many":       append(slices.Clone(some), make([]byte, 256)...),
		"fewer blocks told":      changed(0, 1),
		"more blocks told":       changed(0, 3),
		"a block not there":      changed(4, 3),
		"counted out of order":   changed(2, 2),
		"a block that none has":  changed(3, 1),
		"blocks that are alike":  alike,
		"no byte that is a trie": bytes.Repeat([]byte{0xFF}, least),
		"two tries":              slices.Concat(some, some),
		"its own count ahead":    saved(some),
	}
	load(t, saved(some, some, some, some))
	for i := range 4 {
		for what, p := range bad {
			parts := slices.Clone(good)
			parts[i] = p
			if !refused(saved(parts...)) {
				t.Errorf("part %d, %s: not refused", i, what)
			}
		}
	}
}

func TestLoadOfPartCounts(t *testing.T) {
	p := part(t)
	for n := range 7 {
		parts := slices.Repeat([][]byte{p}, n)
		if n == 4 {
			load(t, saved(parts...))
			continue
		}
		if !refused(saved(parts...)) {
			t.Errorf("%d parts: not refused", n)
		}
	}
	b := saved(p, p, p, p)
	for _, more := range [][]byte{{0}, {1}, {0, 0, 0, 0}, {0, 0, 0, 0, 0}, b} {
		if !refused(slices.Concat(b, more)) {
			t.Errorf("%d bytes behind the parts: not refused", len(more))
		}
		if !refused(slices.Concat(more, b)) {
			t.Errorf("%d bytes ahead of the parts: not refused", len(more))
		}
	}
}

// TestLoadOfLengths cuts bytes off, and tells other lengths than the parts have.
func TestLoadOfLengths(t *testing.T) {
	if !refused(nil) || !refused([]byte{}) {
		t.Error("of nothing: not refused")
	}
	p := part(t)
	good := saved(p, p, p, p)
	load(t, good)
	for n := range len(good) {
		if !refused(good[:n]) {
			t.Fatalf("the first %d bytes: not refused", n)
		}
	}
	size := count + len(p)
	for i := range 4 {
		for _, n := range []int{0, 1, len(p) - 1, len(p) + 1, len(p) + 256, len(p) + 65536, len(p) + 1<<24, len(p) + 1<<31, size, size + len(p), len(good), len(good) - count - i*size + 1, 0x7FFFFFFF, 0x80000000, 0xFFFFFFFF, 0xFFFFFFFF - count} {
			b := slices.Clone(good)
			tell(b[i*size:], n)
			if !refused(b) {
				t.Errorf("part %d has %d bytes, told %d: not refused", i, len(p), n)
			}
		}
		b := slices.Clone(good)
		slices.Reverse(b[i*size : i*size+count])
		if !refused(b) {
			t.Errorf("part %d, the highest byte first: not refused", i)
		}
	}
}

// tell writes a length over the four bytes that tell it.
func tell(b []byte, n int) {
	for i := range count {
		b[i] = byte(n >> (8 * i))
	}
}

// TestLoadOfShortBytes: counts with nothing behind them.
func TestLoadOfShortBytes(t *testing.T) {
	for n := range 40 {
		for _, value := range []byte{0, 1, 4, 0x7F, 0x80, 0xFF} {
			if !refused(bytes.Repeat([]byte{value}, n)) {
				t.Errorf("%d bytes that are %d: not refused", n, value)
			}
		}
	}
}

// saves tells whether there is data whose Save is b: four tries' bytes, each with its count ahead.
func saves(b []byte) bool {
	for range 4 {
		if len(b) < count {
			return false
		}
		n := int(b[0]) | int(b[1])<<8 | int(b[2])<<16 | int(b[3])<<24
		if n > len(b)-count {
			return false
		}
		if _, e := trie.Load(b[count : count+n]); e != api.OK {
			return false
		}
		b = b[count+n:]
	}
	return len(b) == 0
}

func TestLoadOfChance(t *testing.T) {
	chance := rand.New(rand.NewSource(4))
	good, bad := 0, 0
	for range 1500 {
		var parts [][]byte
		for range 4 {
			var n []int
			for range chance.Intn(4) {
				low := chance.Intn(top + 1)
				n = append(n, low, low+chance.Intn(top+1-low), chance.Intn(256))
			}
			parts = append(parts, part(t, n...))
		}
		b := saved(parts...)
		for range chance.Intn(3) {
			at := chance.Intn(len(b))
			if chance.Intn(2) == 0 {
				at = chance.Intn(12)
			}
			b[at] += byte(1 + chance.Intn(255))
		}
		d, e := ucd.Load(b)
		if !saves(b) {
			bad++
			if e != api.ErrForm || d != nil {
				t.Fatalf("error %d, data %p of no data's bytes", e, d)
			}
			continue
		}
		good++
		if e != api.OK || !bytes.Equal(d.Save(), b) {
			t.Fatalf("error %d of data's bytes, or saved otherwise", e)
		}
	}
	if good < 100 || bad < 100 {
		t.Errorf("%d data, %d that are none: too few of one", good, bad)
	}
}

// P4.3

func TestLoadOfSaveOfNew(t *testing.T) {
	b := ucd.New().Save()
	d := load(t, b)
	hold(t, d)
	x := ucd.New()
	for _, r := range append(outside(), 0, top) {
		if values(d, r) != values(x, r) {
			t.Errorf("%#x: %v, and %v once loaded", r, values(x, r), values(d, r))
		}
	}
	if !bytes.Equal(d.Save(), b) {
		t.Error("saved otherwise")
	}
}

// TestLoadedIsSaved: what was loaded is saved as it stood there, and told again when that is loaded.
func TestLoadedIsSaved(t *testing.T) {
	p := [][]byte{part(t), part(t, 0, top, 255), part(t, 0, 0, 1, top, top, 2), part(t, 0x300, 0x4FF, 4, firstSyllable, lastSyllable, 12)}
	for i := range 256 {
		b := saved(p[i%4], p[i/4%4], p[i/16%4], p[i/64])
		d := load(t, b)
		if !bytes.Equal(d.Save(), b) {
			t.Fatalf("parts %d: saved otherwise", i)
		}
		x := load(t, d.Save())
		for _, r := range []int{-1, 0, 1, 0x2FF, 0x300, 0x4FF, 0x500, 0xABFF, 0xAC00, 0xAC01, 0xD7A3, 0xD7A4, top, top + 1} {
			if values(d, r) != values(x, r) {
				t.Fatalf("parts %d, %#x: %v, and %v", i, r, values(d, r), values(x, r))
			}
		}
	}
}
