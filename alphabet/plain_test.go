package alphabet_test

import (
	"slices"
	"testing"

	"scansion/alphabet"
	"scansion/api"
)

// What the tests hold alphabets against: the chapter's words, number by number.

const top = api.MaxRune

// numbers are a set of the ranges that pairs of numbers tell.
func numbers(pairs ...int) []api.Range {
	var l []api.Range
	for pair := range slices.Chunk(pairs, 2) {
		l = append(l, api.Range{Low: pair[0], High: pair[1]})
	}
	return l
}

// alone are so many numbers, from the first one on, each so far from the next one.
func alone(first, step, count int) []api.Range {
	var l []api.Range
	for i := range count {
		l = append(l, api.Range{Low: first + i*step, High: first + i*step})
	}
	return l
}

func plainSet(l []api.Range) bool {
	for i, r := range l {
		if r.Low < 0 || r.High > top || r.Low > r.High || i > 0 && r.Low-2 < l[i-1].High {
			return false
		}
	}
	return true
}

func plainMask(sets [][]api.Range, r int) uint64 {
	mask := uint64(0)
	for i, s := range sets {
		for _, x := range s {
			if x.Low <= r && r <= x.High {
				mask += 1 << i
			}
		}
	}
	return mask
}

// edges are the first and the last number of each range of the sets, their neighbours outside, and those of all numbers, rising.
func edges(sets [][]api.Range) []int {
	l := []int{0, top}
	for _, s := range sets {
		for _, x := range s {
			l = append(l, max(x.Low-1, 0), x.Low, x.High, min(x.High+1, top))
		}
	}
	slices.Sort(l)
	return slices.Compact(l)
}

// plain is what an alphabet tells: the masks of its classes, and their least numbers; the ranges of numbers of one class, as entries.
type plain struct {
	masks   []uint64
	least   []int
	entries []api.Prop
}

// plainOf looks at edges alone: between two of them no mask changes.
func plainOf(sets [][]api.Range) plain {
	var p plain
	ahead := -1
	for _, r := range edges(sets) {
		mask := plainMask(sets, r)
		class := slices.Index(p.masks, mask)
		if class < 0 {
			class = len(p.masks)
			p.masks = append(p.masks, mask)
			p.least = append(p.least, r)
		}
		if class != ahead {
			p.entries = append(p.entries, api.Prop{Low: r, Value: byte(class)})
		}
		p.entries[len(p.entries)-1].High = r
		ahead = class
	}
	return p
}

// firstBlocks tells how many blocks of 256 numbers' classes are unlike.
func (p plain) firstBlocks() int {
	classes := make([]byte, 0, top+1)
	for _, x := range p.entries {
		for len(classes) <= x.High {
			classes = append(classes, x.Value)
		}
	}
	unlike := map[string]bool{}
	for block := range slices.Chunk(classes, 256) {
		unlike[string(block)] = true
	}
	return len(unlike)
}

// plainError is the error that is named first of those that apply.
func plainError(sets [][]api.Range) api.Errno {
	if len(sets) > 60 {
		return api.ErrFull
	}
	if slices.ContainsFunc(sets, func(s []api.Range) bool { return !plainSet(s) }) {
		return api.ErrArg
	}
	p := plainOf(sets)
	if len(p.masks) > 200 || len(p.entries) > 4096 || p.firstBlocks() > 256 {
		return api.ErrFull
	}
	return api.OK
}

func made(t testing.TB, sets ...[]api.Range) *alphabet.Alphabet {
	t.Helper()
	a, e := alphabet.New(sets)
	if e != api.OK || a == nil {
		t.Fatalf("error %d, alphabet %p", e, a)
	}
	return a
}

func refused(t testing.TB, want api.Errno, what string, sets ...[]api.Range) {
	t.Helper()
	if a, e := alphabet.New(sets); e != want || a != nil {
		t.Errorf("%s: error %d, want %d; alphabet %p", what, e, want, a)
	}
}

// hold holds all that an alphabet tells against its sets: at their edges, and beside all numbers and classes.
func hold(t testing.TB, a *alphabet.Alphabet, sets [][]api.Range) {
	t.Helper()
	p := plainOf(sets)
	holdClasses(t, a, p.masks, p.least)
	asked := append(edges(sets), -1, top+1)
	word := a.Word(asked)
	if len(word) != len(asked) {
		t.Fatalf("the word of %d numbers has %d masks", len(asked), len(word))
	}
	for i, r := range asked {
		class, mask := -1, uint64(0)
		if 0 <= r && r <= top {
			mask = plainMask(sets, r)
			class = slices.Index(p.masks, mask)
		}
		if a.Of(r) != class || word[i] != mask {
			t.Fatalf("%#x: class %d, mask %b; want %d, %b", r, a.Of(r), word[i], class, mask)
		}
	}
}

func holdClasses(t testing.TB, a *alphabet.Alphabet, masks []uint64, least []int) {
	t.Helper()
	if a.Count() != len(masks) || !slices.Equal(a.Masks(), masks) {
		t.Fatalf("%d classes of the masks %b, want %d of %b", a.Count(), a.Masks(), len(masks), masks)
	}
	for class := range masks {
		if a.Mask(class) != masks[class] || a.Any(class) != least[class] || a.Of(least[class]) != class {
			t.Fatalf("class %d: mask %b, least number %#x, whose class is %d; want %b, %#x",
				class, a.Mask(class), a.Any(class), a.Of(least[class]), masks[class], least[class])
		}
	}
	for _, class := range []int{-1, len(masks)} {
		if a.Mask(class) != 0 || a.Any(class) != -1 {
			t.Fatalf("class %d of %d: mask %b, least number %d", class, len(masks), a.Mask(class), a.Any(class))
		}
	}
}
