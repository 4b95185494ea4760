// Package utf is layer 1: bytes as code points, whatever they are. What is no code point is one unit a byte.
package utf

import (
	"cmp"
	"iter"
	"slices"

	"scansion/api"
)

const (
	replacement    = 0xFFFD
	firstSurrogate = 0xD800
	lastSurrogate  = 0xDFFF

	tailMark = 0x80 // the two high bits of each byte behind the first one
	tailBits = 6    // how many bits of the number such a byte has
	tailMask = 1<<tailBits - 1
)

// headMarks are the high bits of a first byte, by how many bytes there are.
var headMarks = [5]byte{0, 0, 0xC0, 0xE0, 0xF0}

// Decode tells the units of b, one behind the other.
func Decode(b []byte) []api.Unit {
	var l []api.Unit
	for u := range units(b) {
		l = append(l, u)
	}
	return l
}

// Encode tells the bytes of a code point.
func Encode(r int) ([]byte, api.Errno) {
	if size(r) == 0 {
		return nil, api.ErrArg
	}
	return put(nil, r), api.OK
}

// Runes tells the code points of b alone, a bad byte as FFFD.
func Runes(b []byte) []int {
	var l []int
	for u := range units(b) {
		l = append(l, u.Rune)
	}
	return l
}

// Text tells the bytes of code points, one behind the other.
func Text(l []int) ([]byte, api.Errno) {
	var b []byte
	for _, r := range l {
		if size(r) == 0 {
			return nil, api.ErrArg
		}
		b = put(b, r)
	}
	return b, api.OK
}

// Valid tells whether all bytes are those of code points.
func Valid(b []byte) bool {
	for u := range units(b) {
		if u.Bad {
			return false
		}
	}
	return true
}

// Index tells the place of the unit that begins at an offset, len(l) where the last one ends, else -1.
func Index(l []api.Unit, at int) int {
	// Decode's units rise, so that not all of them need be gone through.
	i, found := slices.BinarySearchFunc(l, at, func(u api.Unit, at int) int {
		return cmp.Compare(u.At, at)
	})
	switch {
	case found:
		return i
	case at == end(l):
		return len(l)
	}
	return -1
}

// end is the offset behind the last unit.
func end(l []api.Unit) int {
	if len(l) == 0 {
		return 0
	}
	last := l[len(l)-1]
	return last.At + last.Width
}

// units hands out the units of b. Each has at least one byte, so that going on behind it comes to an end.
func units(b []byte) iter.Seq[api.Unit] {
	return func(yield func(api.Unit) bool) {
		for at := 0; at < len(b); {
			u := api.Unit{Rune: replacement, At: at, Width: 1, Bad: true}
			if r, width := point(b[at:]); width > 0 {
				u = api.Unit{Rune: r, At: at, Width: width}
			}
			if !yield(u) {
				return
			}
			at += u.Width
		}
	}
}

// point is the code point with whose bytes b begins, and how many bytes it has: 0, if b begins with none.
func point(b []byte) (r, width int) {
bytes:
	for i, c := range b {
		switch {
		case i == 0:
			r, width = head(c)
		case i < width && c&^tailMask == tailMark:
			r = r<<tailBits | int(c&tailMask)
		default:
			break bytes
		}
	}
	// A number of another size is no code point, or was written with too many bytes, or was cut off: the bits that came are then too few for so many bytes.
	if size(r) != width {
		return 0, 0
	}
	return r, width
}

// head is the bits of the number that a first byte has, and how many bytes it asks for: 0, if it can't be a first one.
func head(c byte) (bits, width int) {
	switch {
	case c < 0x80:
		return int(c), 1
	case c < 0xC0:
		return 0, 0
	case c < 0xE0:
		return int(c & 0x1F), 2
	case c < 0xF0:
		return int(c & 0x0F), 3
	case c < 0xF8:
		return int(c & 0x07), 4
	}
	return 0, 0
}

// size is how many bytes a code point has: 0 of a number that is none.
func size(r int) int {
	switch {
	case r < 0, r > api.MaxRune, firstSurrogate <= r && r <= lastSurrogate:
		return 0
	case r < 0x80:
		return 1
	case r < 0x800:
		return 2
	case r < 0x10000:
		return 3
	}
	return 4
}

// put appends the bytes of a code point to b.
func put(b []byte, r int) []byte {
	width := size(r)
	shift := tailBits * (width - 1)
	b = append(b, headMarks[width]|byte(r>>shift))
	for shift > 0 {
		shift -= tailBits
		b = append(b, tailMark|byte(r>>shift)&tailMask)
	}
	return b
}
