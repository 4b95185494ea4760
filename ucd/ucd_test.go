package ucd_test

import (
	"math"
	"testing"

	"scansion/ucd"
)

// values is what data tells of a number in each of the four tables, 1 for a picture.
func values(d *ucd.Data, r int) [4]int {
	v := [4]int{d.Cluster(r), d.Word(r), d.Script(r)}
	if d.Picto(r) {
		v[3] = 1
	}
	return v
}

// hold holds what data tells of all code points against the document's tables.
func hold(t *testing.T, d *ucd.Data) {
	t.Helper()
	k := known(t)
	for r := range top + 1 {
		if got, want := values(d, r), [4]int{k[0][r], k[1][r], k[2][r], k[3][r]}; got != want {
			t.Fatalf("%#x: Cluster, Word, Script, Picto: %v, want %v", r, got, want)
		}
	}
}

// none tells whether data has the value 0 of a number in all tables.
func none(d *ucd.Data, r int) bool { return values(d, r) == [4]int{} }

// P4.1

func TestExamples(t *testing.T) {
	d := ucd.New()
	if got := d.Cluster(0xD); got != 1 {
		t.Errorf("Cluster(D): %d", got)
	}
	if got := d.Cluster(0xAC01); got != 13 {
		t.Errorf("Cluster(AC01): %d", got)
	}
	if got := d.Word(0x41); got != 10 {
		t.Errorf("Word(41): %d", got)
	}
	if got := d.Script(0xE01); got != 2 {
		t.Errorf("Script(E01): %d", got)
	}
	if !d.Picto(0x1F600) {
		t.Error("Picto(1F600): false")
	}
}

func TestShipped(t *testing.T) { hold(t, ucd.New()) }

// TestOneOfEach: code points written out here, at least one of each value.
func TestOneOfEach(t *testing.T) {
	d := ucd.New()
	for _, c := range []struct{ r, cluster, word, script, picto int }{
		{0x0, 3, 0, 0, 0},
		{'\r', 1, 1, 0, 0},
		{'\n', 2, 2, 0, 0},
		{'\t', 3, 0, 0, 0},
		{'\v', 3, 3, 0, 0},
		{0x85, 3, 3, 0, 0},
		{0x301, 4, 4, 0, 0},
		{0x200D, 5, 5, 0, 0},
		{0xAD, 3, 6, 0, 0},
		{0x202A, 3, 6, 0, 0},
		{0x2065, 3, 0, 0, 0},
		{0x1F1E6, 6, 7, 0, 0},
		{0x600, 7, 6, 0, 0},
		{0x110BD, 7, 0, 0, 0},
		{0x903, 8, 4, 0, 0},
		{0x1100, 9, 10, 0, 0},
		{0x1160, 10, 10, 0, 0},
		{0x11A8, 11, 10, 0, 0},
		{0xAC00, 12, 10, 0, 0},
		{0xAC01, 13, 10, 0, 0},
		{0x30AB, 0, 8, 1, 0},
		{0x30FB, 0, 0, 0, 0},
		{0xFF70, 0, 8, 0, 0},
		{0x5D0, 0, 9, 0, 0},
		{'a', 0, 10, 0, 0},
		{'\'', 0, 11, 0, 0},
		{'"', 0, 12, 0, 0},
		{'.', 0, 13, 0, 0},
		{':', 0, 14, 0, 0},
		{',', 0, 15, 0, 0},
		{'7', 0, 16, 0, 0},
		{'_', 0, 17, 0, 0},
		{' ', 0, 18, 0, 0},
		{'!', 0, 0, 0, 0},
		{0x4E00, 0, 0, 1, 0},
		{0x3042, 0, 0, 1, 0},
		{0xE01, 0, 0, 2, 0},
		{0xE33, 8, 4, 2, 0},
		{0xE50, 0, 16, 0, 0},
		{0xE81, 0, 0, 3, 0},
		{0xED0, 0, 16, 0, 0},
		{0x1780, 0, 0, 4, 0},
		{0x17B4, 4, 4, 0, 0},
		{0x17E0, 0, 16, 0, 0},
		{0xA9, 0, 0, 0, 1},
		{0x1F3FA, 0, 0, 0, 1},
		{0x1F3FB, 4, 4, 0, 0},
		{0x1F600, 0, 0, 0, 1},
		{0xE0001, 3, 6, 0, 0},
		{0xE01EF, 4, 4, 0, 0},
		{0x2FA1D, 0, 0, 1, 0},
		{top, 0, 0, 0, 0},
	} {
		if got, want := values(d, c.r), [4]int{c.cluster, c.word, c.script, c.picto}; got != want {
			t.Errorf("%#x: Cluster, Word, Script, Picto: %v, want %v", c.r, got, want)
		}
	}
}

// TestEdges: the first and the last code point of each range, and their neighbours outside.
func TestEdges(t *testing.T) {
	d := ucd.New()
	k := known(t)
	for i := range tables {
		for _, p := range rows(t, i) {
			for _, r := range []int{p.Low, p.High} {
				if got := values(d, r)[i]; got != int(p.Value) {
					t.Errorf("table %d, %#x: %d, want %d", i, r, got, p.Value)
				}
			}
			for _, r := range []int{p.Low - 1, p.High + 1} {
				want := 0
				if r >= 0 {
					want = k[i][r]
				}
				if got := values(d, r)[i]; got != want {
					t.Errorf("table %d, %#x: %d, want %d", i, r, got, want)
				}
			}
		}
	}
}

func TestSyllables(t *testing.T) {
	d := ucd.New()
	for i := range 399 {
		r := 0xAC00 + 28*i
		if got := d.Cluster(r); got != 12 {
			t.Errorf("Cluster(%#x): %d, want 12", r, got)
		}
		for tail := 1; tail < 28; tail++ {
			if got := d.Cluster(r + tail); got != 13 {
				t.Errorf("Cluster(%#x): %d, want 13", r+tail, got)
			}
		}
	}
	if d.Cluster(0xABFF) != 0 || d.Cluster(0xD7A3) != 13 || d.Cluster(0xD7A4) != 0 {
		t.Error("around the syllables")
	}
	if d.Word(0xABFF) != 0 || d.Word(0xAC00) != 10 || d.Word(0xD7A3) != 10 || d.Word(0xD7A4) != 0 {
		t.Error("words of syllables")
	}
}

func TestNoCodePoints(t *testing.T) {
	d := ucd.New()
	for r := 0xD800; r <= 0xDFFF; r++ {
		if !none(d, r) {
			t.Errorf("%#x: %v", r, values(d, r))
		}
	}
	for _, r := range outside() {
		if !none(d, r) {
			t.Errorf("%#x: %v", r, values(d, r))
		}
	}
}

// outside is numbers that are not from 0 to 10FFFF, among them such as are like others in their low bits.
func outside() []int {
	l := []int{-1, -2, -28, -0xA, -0xAC00, -0xAC01, -0xD7A3, -256, -257, top + 1, top + 2, top + 0x300, 2 * top, math.MaxInt32, math.MinInt32, math.MaxInt, math.MinInt, math.MaxInt - 1, math.MinInt + 1}
	for _, r := range []int{0xA, 0x41, 0x301, 0xAC00, 0xAC01, 0xE01, 0x1F600} {
		l = append(l, r-(top+1), r+top+1, r+1<<24, r-1<<24, r+1<<32, r-1<<32, r+math.MinInt)
	}
	return l
}
