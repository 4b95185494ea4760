package utf_test

import (
	"bytes"
	"math"
	"slices"
	"testing"
	"unicode/utf8"

	"scansion/api"
	"scansion/utf"
)

func good(r, at, width int) api.Unit { return api.Unit{Rune: r, At: at, Width: width} }

func bad(at int) api.Unit { return api.Unit{Rune: 0xFFFD, At: at, Width: 1, Bad: true} }

// edges are code points about which something turns, with their bytes, written out by hand.
func edges() map[int]string {
	return map[int]string{
		0x0: "\x00", 0x41: "A", 0x7F: "\x7F",
		0x80: "\xC2\x80", 0xE9: "\xC3\xA9", 0x7FF: "\xDF\xBF",
		0x800: "\xE0\xA0\x80", 0xE01: "\xE0\xB8\x81", 0xFFF: "\xE0\xBF\xBF", 0x1000: "\xE1\x80\x80",
		0xD7FF: "\xED\x9F\xBF", 0xE000: "\xEE\x80\x80", 0xFFFD: "\xEF\xBF\xBD", 0xFFFF: "\xEF\xBF\xBF",
		0x10000: "\xF0\x90\x80\x80", 0x1F600: "\xF0\x9F\x98\x80", 0x3FFFF: "\xF0\xBF\xBF\xBF",
		0x40000: "\xF1\x80\x80\x80", 0x10FFFF: "\xF4\x8F\xBF\xBF",
	}
}

// noPoints are numbers that are no code points.
func noPoints() []int {
	return []int{
		-1, -0x80, -0x10FFFF, math.MinInt, math.MinInt32,
		0xD800, 0xD801, 0xDABC, 0xDC00, 0xDFFE, 0xDFFF,
		0x110000, 0x1FFFFF, 0x200000, math.MaxInt32, math.MaxInt,
		math.MaxInt - 0x7FFF, math.MinInt + 0x41, // whose low bits are those of a letter, or are all there
	}
}

// P1.1

func TestEncodeEdges(t *testing.T) {
	for r, want := range edges() {
		if b, e := utf.Encode(r); e != api.OK || string(b) != want {
			t.Errorf("Encode(%X): % X, %d; want % X", r, b, e, want)
		}
	}
}

func TestEncodeNoPoint(t *testing.T) {
	for _, r := range noPoints() {
		if b, e := utf.Encode(r); e != api.ErrArg || len(b) != 0 {
			t.Errorf("Encode(%X): % X, %d; want ErrArg alone", r, b, e)
		}
	}
}

func TestEncodeAll(t *testing.T) {
	for r := -0x1000; r < 0x120000; r++ {
		b, e := utf.Encode(r)
		if !utf8.ValidRune(rune(r)) {
			if e != api.ErrArg || len(b) != 0 {
				t.Fatalf("Encode(%X): % X, %d; want ErrArg alone", r, b, e)
			}
		} else if want := utf8.AppendRune(nil, rune(r)); e != api.OK || !bytes.Equal(b, want) {
			t.Fatalf("Encode(%X): % X, %d; want % X", r, b, e, want)
		}
	}
}

func TestText(t *testing.T) {
	var l []int
	var want string
	for r, s := range edges() {
		l = append(l, r)
		want += s
	}
	kept := slices.Clone(l)
	if b, e := utf.Text(l); e != api.OK || string(b) != want {
		t.Errorf("Text(%X): % X, %d; want % X", l, b, e, want)
	}
	if !slices.Equal(l, kept) {
		t.Error("Text changed what it was given")
	}
	for _, l := range [][]int{nil, {}} {
		if b, e := utf.Text(l); e != api.OK || len(b) != 0 {
			t.Errorf("Text of nothing: % X, %d", b, e)
		}
	}
}

func TestTextNoPoint(t *testing.T) {
	for _, r := range noPoints() {
		for _, l := range [][]int{{r}, {r, 0x41}, {0x41, r}, {0x41, r, 0x42}, {r, r}} {
			if b, e := utf.Text(l); e != api.ErrArg || len(b) != 0 {
				t.Errorf("Text(%X): % X, %d; want ErrArg alone", l, b, e)
			}
		}
	}
}

func TestEncodeIsTheCallers(t *testing.T) {
	first, _ := utf.Encode(0x1F600)
	clear(first)
	if second, _ := utf.Encode(0x1F600); string(second) != "\xF0\x9F\x98\x80" {
		t.Errorf("what was told before turned the answer: % X", second)
	}
}

// P1.2

func TestDecodeUnits(t *testing.T) {
	tests := []struct {
		name, in string
		want     []api.Unit
	}{
		{"the chapter's example", "\xC3\xA9\xFF\x41", []api.Unit{good(0xE9, 0, 2), bad(2), good(0x41, 3, 1)}},
		{"nothing", "", nil},
		{"each count of bytes", "A\xC3\xA9\xE0\xB8\x81\xF0\x9F\x98\x80", []api.Unit{good(0x41, 0, 1), good(0xE9, 1, 2), good(0xE01, 3, 3), good(0x1F600, 6, 4)}},
		{"FFFD as a code point is not bad", "\xEF\xBF\xBD", []api.Unit{good(0xFFFD, 0, 3)}},
		{"zero", "\x00\x00", []api.Unit{good(0, 0, 1), good(0, 1, 1)}},
		{"two bytes cut off", "\xC3", []api.Unit{bad(0)}},
		{"three bytes cut off", "\xE4\xB8", []api.Unit{bad(0), bad(1)}},
		{"four bytes cut off", "\xF0\x9F\x98", []api.Unit{bad(0), bad(1), bad(2)}},
		{"cut off by a letter", "\xE4\xB8A", []api.Unit{bad(0), bad(1), good(0x41, 2, 1)}},
		{"cut off by another one", "\xF0\x9F\xC3\xA9", []api.Unit{bad(0), bad(1), good(0xE9, 2, 2)}},
		{"cut off by the same one", "\xE4\xE4\xB8\xAD", []api.Unit{bad(0), good(0x4E2D, 1, 3)}},
		{"overlong of two", "\xC0\x80\xC1\xBF", []api.Unit{bad(0), bad(1), bad(2), bad(3)}},
		{"overlong of three", "\xE0\x80\x80", []api.Unit{bad(0), bad(1), bad(2)}},
		{"the last overlong of three", "\xE0\x9F\xBF", []api.Unit{bad(0), bad(1), bad(2)}},
		{"the last overlong of four", "\xF0\x8F\xBF\xBF", []api.Unit{bad(0), bad(1), bad(2), bad(3)}},
		{"D800", "\xED\xA0\x80", []api.Unit{bad(0), bad(1), bad(2)}},
		{"DFFF", "\xED\xBF\xBF", []api.Unit{bad(0), bad(1), bad(2)}},
		{"110000", "\xF4\x90\x80\x80", []api.Unit{bad(0), bad(1), bad(2), bad(3)}},
		{"1FFFFF", "\xF7\xBF\xBF\xBF", []api.Unit{bad(0), bad(1), bad(2), bad(3)}},
		{"five bytes", "\xF8\x88\x80\x80\x80", []api.Unit{bad(0), bad(1), bad(2), bad(3), bad(4)}},
		{"a byte more than is asked for", "\xC3\xA9\xA9", []api.Unit{good(0xE9, 0, 2), bad(2)}},
		{"bytes that begin nothing", "\x80\xBF\xFE\xFF", []api.Unit{bad(0), bad(1), bad(2), bad(3)}},
	}
	for _, c := range tests {
		if l := utf.Decode([]byte(c.in)); !slices.Equal(l, c.want) {
			t.Errorf("%s: Decode(% X): %v; want %v", c.name, c.in, l, c.want)
		}
		checkRunesAndValid(t, []byte(c.in), c.want)
	}
}

func TestDecodeEdges(t *testing.T) {
	for r, s := range edges() {
		want := []api.Unit{good(r, 0, len(s))}
		if l := utf.Decode([]byte(s)); !slices.Equal(l, want) {
			t.Errorf("Decode(% X): %v; want %v", s, l, want)
		}
		for cut := 1; cut < len(s); cut++ {
			var want []api.Unit
			for at := range cut {
				want = append(want, bad(at))
			}
			if l := utf.Decode([]byte(s[:cut])); !slices.Equal(l, want) {
				t.Errorf("Decode(% X), cut off: %v; want %v", s[:cut], l, want)
			}
		}
	}
}

func checkRunesAndValid(t *testing.T, b []byte, l []api.Unit) {
	t.Helper()
	var runes []int
	valid := true
	for _, u := range l {
		runes = append(runes, u.Rune)
		valid = valid && !u.Bad
	}
	if got := utf.Runes(b); !slices.Equal(got, runes) {
		t.Errorf("Runes(% X): %X; want %X", b, got, runes)
	}
	if got := utf.Valid(b); got != valid {
		t.Errorf("Valid(% X): %t; want %t", b, got, valid)
	}
}

func TestNothing(t *testing.T) {
	for _, b := range [][]byte{nil, {}} {
		if len(utf.Decode(b)) != 0 || len(utf.Runes(b)) != 0 || !utf.Valid(b) {
			t.Errorf("nothing: %v, %v, %t", utf.Decode(b), utf.Runes(b), utf.Valid(b))
		}
	}
}

func TestValidLooksAtAll(t *testing.T) {
	for _, s := range []string{"\xFFab", "a\xFFb", "ab\xFF", "ab\xC3"} {
		if utf.Valid([]byte(s)) {
			t.Errorf("Valid(% X)", s)
		}
	}
	if !utf.Valid([]byte("ab\xEF\xBF\xBD")) {
		t.Error("FFFD, well written, is taken for bad")
	}
}

// library tells the units of b by the library's own decoder.
func library(b []byte) []api.Unit {
	var l []api.Unit
	for at := 0; at < len(b); {
		r, width := utf8.DecodeRune(b[at:])
		l = append(l, api.Unit{Rune: int(r), At: at, Width: width, Bad: r == utf8.RuneError && width == 1})
		at += width
	}
	return l
}

// turns are bytes about which a decoder turns: the first and the last ones of each sort, and their neighbours.
var turns = []byte{
	0x00, 0x41, 0x7F, 0x80, 0x81, 0x8F, 0x90, 0x91, 0x9F, 0xA0, 0xA1, 0xBE, 0xBF,
	0xC0, 0xC1, 0xC2, 0xC3, 0xDE, 0xDF, 0xE0, 0xE1, 0xEC, 0xED, 0xEE, 0xEF,
	0xF0, 0xF1, 0xF3, 0xF4, 0xF5, 0xF7, 0xF8, 0xFB, 0xFC, 0xFE, 0xFF,
}

func checkLibrary(t *testing.T, b []byte) {
	t.Helper()
	if l, want := utf.Decode(b), library(b); !slices.Equal(l, want) {
		t.Fatalf("Decode(% X): %v; want %v", b, l, want)
	}
}

func TestDecodeAllPairs(t *testing.T) {
	for first := range 256 {
		checkLibrary(t, []byte{byte(first)})
		for second := range 256 {
			checkLibrary(t, []byte{byte(first), byte(second)})
		}
	}
}

func TestDecodeTurns(t *testing.T) {
	for _, first := range turns {
		for _, second := range turns {
			for _, third := range turns {
				checkLibrary(t, []byte{first, second, third})
				for _, fourth := range turns {
					checkLibrary(t, []byte{first, second, third, fourth})
				}
			}
		}
	}
}

func TestDecodeLeavesItsBytes(t *testing.T) {
	b := []byte("A\xC3\xA9\xFF")
	l := utf.Decode(b)
	runes := utf.Runes(b)
	utf.Valid(b)
	if string(b) != "A\xC3\xA9\xFF" {
		t.Errorf("the bytes were changed: % X", b)
	}
	clear(b)
	if l[1] != good(0xE9, 1, 2) || runes[1] != 0xE9 {
		t.Error("the answer hangs on the bytes that were handed in")
	}
}

// P1.3

func TestIndex(t *testing.T) {
	l := utf.Decode([]byte("\xC3\xA9\xFF\x41\xF0\x9F\x98\x80"))
	want := map[int]int{
		math.MinInt: -1, -1: -1, 0: 0, 1: -1, 2: 1, 3: 2, 4: 3, 5: -1, 6: -1, 7: -1, 8: 4, 9: -1, math.MaxInt: -1,
	}
	for at, i := range want {
		if got := utf.Index(l, at); got != i {
			t.Errorf("Index(%d): %d; want %d", at, got, i)
		}
	}
}

func TestIndexOfNone(t *testing.T) {
	for _, l := range [][]api.Unit{nil, {}} {
		for at, want := range map[int]int{math.MinInt: -1, -1: -1, 0: 0, 1: -1, math.MaxInt: -1} {
			if got := utf.Index(l, at); got != want {
				t.Errorf("Index of none, %d: %d; want %d", at, got, want)
			}
		}
	}
}

func TestIndexOfEachUnit(t *testing.T) {
	b := bytes.Repeat([]byte("a\xC3\xA9\xFF\xE0\xB8\x81\xF0\x9F\x98\x80\x80"), 50)
	checkPlaces(t, b, utf.Decode(b))
}

func TestIndexOfAnyUnits(t *testing.T) {
	wild := [][]api.Unit{
		{{}},
		{{At: math.MaxInt, Width: math.MaxInt}},
		{{At: math.MinInt, Width: math.MinInt}, {At: -5, Width: -1}},
		{{At: 7, Width: 1}, {At: 3, Width: 2}, {At: 5}},
	}
	for _, l := range wild {
		for _, at := range []int{math.MinInt, -5, -1, 0, 1, 3, 5, 7, math.MaxInt} {
			if i := utf.Index(l, at); i < -1 || i > len(l) {
				t.Errorf("Index(%v, %d): %d", l, at, i)
			}
		}
	}
}

// checkPlaces holds Index at all offsets, and at the first ones beyond, against a plain look through the units.
func checkPlaces(t *testing.T, b []byte, l []api.Unit) {
	t.Helper()
	for at := -2; at <= len(b)+2; at++ {
		want := slices.IndexFunc(l, func(u api.Unit) bool { return u.At == at })
		if at == len(b) {
			want = len(l)
		}
		if got := utf.Index(l, at); got != want {
			t.Fatalf("Index of % X at %d: %d; want %d", b, at, got, want)
		}
	}
}

// P1.4

// checkParts looks whether the units part the bytes, each with the bytes of its code point.
func checkParts(t *testing.T, b []byte) {
	t.Helper()
	at := 0
	l := utf.Decode(b)
	for _, u := range l {
		if u.At != at || u.Width < 1 || u.At+u.Width > len(b) {
			t.Fatalf("% X: %v does not begin at %d, or has no bytes", b, u, at)
		}
		at += u.Width
		if u.Bad {
			if u != bad(u.At) {
				t.Fatalf("% X: %v is bad in another way", b, u)
			}
		} else if e, err := utf.Encode(u.Rune); err != api.OK || !bytes.Equal(e, b[u.At:at]) {
			t.Fatalf("% X: %v is encoded as % X, %d", b, u, e, err)
		}
	}
	if at != len(b) {
		t.Fatalf("% X: the units end at %d", b, at)
	}
	checkLibrary(t, b)
	checkRunesAndValid(t, b, l)
	checkPlaces(t, b, l)
}

func TestAllPointsComeBack(t *testing.T) {
	var l []int
	for r := range api.MaxRune + 1 {
		if r < 0xD800 || r > 0xDFFF {
			l = append(l, r)
		}
	}
	b, e := utf.Text(l)
	if e != api.OK {
		t.Fatal(e)
	}
	if !utf.Valid(b) || !slices.Equal(utf.Runes(b), l) {
		t.Error("the code points don't come back from one text")
	}
	slices.Reverse(l)
	b, _ = utf.Text(l)
	if !utf.Valid(b) || !slices.Equal(utf.Runes(b), l) {
		t.Error("the code points don't come back from behind")
	}
}

func TestUnitsPartTheBytes(t *testing.T) {
	state := uint32(1)
	next := func(n int) int { // numbers that jump about, the same ones each time
		state = state*1664525 + 1013904223
		return int(state>>8) % n
	}
	for range 5000 {
		b := make([]byte, next(24))
		for i := range b {
			b[i] = turns[next(len(turns))]
			if next(4) == 0 {
				b[i] = byte(next(256))
			}
		}
		checkParts(t, b)
	}
}

func FuzzUnits(f *testing.F) {
	for _, s := range edges() {
		f.Add([]byte(s))
	}
	f.Add([]byte("\xC3\xA9\xFF\x41"))
	f.Add([]byte("\xF0\x9F\x98\xED\xA0\x80\xF4\x90\x80\x80\xC0\x80"))
	f.Fuzz(func(t *testing.T, b []byte) {
		if len(b) < 1<<10 { // the plain look for places goes through all units at each offset
			checkParts(t, b)
		}
	})
}
