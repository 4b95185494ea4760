package cluster_test

import (
	"fmt"
	"math"
	"math/rand"
	"slices"
	"testing"

	"scansion/api"
	"scansion/cluster"
	"scansion/ucd"
)

// signs is one code point of each kind, in the kinds' order, and a picture.
var signs = []int{'a', '\r', '\n', 0x7, 0x301, 0x200D, 0x1F1E6, 0x600, 0x903, 0x1100, 0x1160, 0x11A8, 0xAC00, 0xAC01, 0x1F600}

// texts hands out all texts of at most so many signs.
func texts(signs []int, most int, use func([]int)) {
	var longer func(l []int)
	longer = func(l []int) {
		use(l)
		if len(l) == most {
			return
		}
		for _, r := range signs {
			longer(append(l, r))
		}
	}
	longer(make([]int, 0, most))
}

// drawn is a text of signs that are drawn by lot.
func drawn(lot *rand.Rand, signs []int, most int) []int {
	l := make([]int, lot.Intn(most+1))
	for i := range l {
		l[i] = signs[lot.Intn(len(signs))]
	}
	return l
}

func hex(l []int) string { return fmt.Sprintf("%x", l) }

// hold holds All, Break and At of a text against the places at which clusters end.
func hold(t *testing.T, d *ucd.Data, l, want []int) {
	t.Helper()
	if got := cluster.All(d, l); !slices.Equal(got, want) {
		t.Fatalf("All(%s): %v, want %v", hex(l), got, want)
	}
	for i := range len(l) + 1 {
		n, ends := slices.BinarySearch(want, i)
		if got := cluster.Break(d, l, i); got != ends {
			t.Fatalf("Break(%s, %d): %v", hex(l), i, got)
		}
		if !ends {
			n--
		}
		first, next := want[n], want[min(n+1, len(want)-1)]
		if a, b := cluster.At(d, l, i); a != first || b != next {
			t.Fatalf("At(%s, %d): %d, %d, want %d, %d", hex(l), i, a, b, first, next)
		}
	}
}

// P5.1

func TestExamples(t *testing.T) {
	d := ucd.New()
	hold(t, d, []int{0x41, 0x301, 0x42}, []int{0, 2, 3})
	hold(t, d, []int{0x1F1E6, 0x1F1E7, 0x1F1E8}, []int{0, 2, 3})
}

// TestRules: each rule where it says something, and where one behind it does.
func TestRules(t *testing.T) {
	d := ucd.New()
	for _, x := range []struct {
		rule       int
		text, want []int
	}{
		{1, nil, []int{0}},
		{1, []int{}, []int{0}},
		{1, []int{'a'}, []int{0, 1}},
		{1, []int{0x301}, []int{0, 1}},
		{1, []int{0x600}, []int{0, 1}},
		{1, []int{0x200D}, []int{0, 1}},

		{2, []int{'\r', '\n'}, []int{0, 2}},
		{2, []int{'\n', '\r'}, []int{0, 1, 2}},
		{2, []int{'\r', '\r', '\n', '\n'}, []int{0, 1, 3, 4}},
		{2, []int{'\r', 0x301, '\n'}, []int{0, 1, 2, 3}},

		{3, []int{'\r', 0x301}, []int{0, 1, 2}},
		{3, []int{'\n', 0x301}, []int{0, 1, 2}},
		{3, []int{0x200B, 0x301, 0x302}, []int{0, 1, 3}},
		{3, []int{'\t', 0x200D}, []int{0, 1, 2}},
		{3, []int{'\t', 0x903}, []int{0, 1, 2}},
		{3, []int{0x600, '\r'}, []int{0, 1, 2}},
		{3, []int{0x600, '\n'}, []int{0, 1, 2}},
		{3, []int{0x600, 0xAD}, []int{0, 1, 2}},
		{3, []int{0x200E, 0x200F}, []int{0, 1, 2}},

		{4, []int{0x1100, 0x115F}, []int{0, 2}},
		{4, []int{0x1100, 0x1160}, []int{0, 2}},
		{4, []int{0x1100, 0xAC00}, []int{0, 2}},
		{4, []int{0x1100, 0xAC01}, []int{0, 2}},
		{4, []int{0x1100, 0x11A8}, []int{0, 1, 2}},
		{4, []int{0xAC00, 0x1100}, []int{0, 1, 2}},

		{5, []int{0xAC00, 0x1160}, []int{0, 2}},
		{5, []int{0xAC00, 0x11A8}, []int{0, 2}},
		{5, []int{0x1160, 0x11A7}, []int{0, 2}},
		{5, []int{0x1160, 0x11FF}, []int{0, 2}},
		{5, []int{0x1160, 0x1100}, []int{0, 1, 2}},
		{5, []int{0x1160, 0xAC00}, []int{0, 1, 2}},
		{5, []int{0xAC00, 0xAC00}, []int{0, 1, 2}},
		{5, []int{0xAC00, 0xAC01}, []int{0, 1, 2}},

		{6, []int{0xAC01, 0x11A8}, []int{0, 2}},
		{6, []int{0x11A8, 0x11A8}, []int{0, 2}},
		{6, []int{0xAC01, 0x1160}, []int{0, 1, 2}},
		{6, []int{0x11A8, 0x1160}, []int{0, 1, 2}},
		{6, []int{0xAC01, 0xD7A3}, []int{0, 1, 2}},
		{6, []int{0x1100, 0x1100, 0xAC00, 0x1160, 0x11A8, 0x11A8, 0x1100}, []int{0, 6, 7}},

		{7, []int{'a', 0x301, 0xFE0F, 0x200D, 0x903, 'b'}, []int{0, 5, 6}},
		{7, []int{0x301, 0x301}, []int{0, 2}},
		{7, []int{0x1100, 0x301, 0x1160}, []int{0, 2, 3}},
		{7, []int{0x1F1E6, 0x301, 0x1F1E7}, []int{0, 2, 3}},
		{7, []int{0xE01, 0xE33, 0xE34}, []int{0, 3}},

		{8, []int{0x600, 'a'}, []int{0, 2}},
		{8, []int{0x600, 0x600, 0x1F1E6, 0x1F1E7, 0x1F1E8}, []int{0, 4, 5}},
		{8, []int{0x600, 0x1F600, 0x200D, 0x2764}, []int{0, 4}},
		{8, []int{'a', 0x600}, []int{0, 1, 2}},
		{8, []int{0x600, 0x301, 'a'}, []int{0, 2, 3}},

		{9, []int{0x1F600, 0x200D, 0x2764}, []int{0, 3}},
		{9, []int{0x1F600, 0xFE0F, 0x200D, 0x2764}, []int{0, 4}},
		{9, []int{0x1F600, 0x301, 0x302, 0x303, 0x200D, 0x2764}, []int{0, 6}},
		{9, []int{0x2764, 0x200D, 0x2764, 0xFE0F, 0x200D, 0x2764, 'a'}, []int{0, 6, 7}},
		{9, []int{0x1F600, 0x2764}, []int{0, 1, 2}},
		{9, []int{0x1F600, 0xFE0F, 0x2764}, []int{0, 2, 3}},
		{9, []int{0x1F600, 0x200D, 'a'}, []int{0, 2, 3}},
		{9, []int{'a', 0x200D, 0x2764}, []int{0, 2, 3}},
		{9, []int{'a', 0x301, 0x200D, 0x2764}, []int{0, 3, 4}},
		{9, []int{0x200D, 0x2764}, []int{0, 1, 2}},
		{9, []int{0x301, 0x301, 0x200D, 0x2764}, []int{0, 3, 4}},
		{9, []int{0x1F600, 0x200D, 0x200D, 0x2764}, []int{0, 3, 4}},
		{9, []int{0x1F600, 0x903, 0x200D, 0x2764}, []int{0, 3, 4}},
		{9, []int{0x1F600, 0x200D, 0x301, 0x2764}, []int{0, 3, 4}},
		{9, []int{0x1F600, 0x200D, 0x1F1E6}, []int{0, 2, 3}},
		{9, []int{0x1F600, '\n', 0x200D, 0x2764}, []int{0, 1, 2, 3, 4}},

		{10, []int{0x1F1E6, 0x1F1FF}, []int{0, 2}},
		{10, []int{0x1F1E6, 0x1F1E6, 0x1F1E6, 0x1F1E6}, []int{0, 2, 4}},
		{10, []int{0x1F1E6, 0x1F1E6, 0x1F1E6, 0x1F1E6, 0x1F1E6}, []int{0, 2, 4, 5}},
		{10, []int{'a', 0x1F1E6, 0x1F1E7, 0x1F1E8}, []int{0, 1, 3, 4}},
		{10, []int{0x1F1E6, 'a', 0x1F1E6, 0x1F1E7}, []int{0, 1, 2, 4}},
		{10, []int{0x1F1E6, 0x200D, 0x1F1E6, 0x1F1E7}, []int{0, 2, 4}},
		{10, []int{0x1F1E6, 0x1F1E7, 0x1F1E8, 0x301, 0x1F1E6, 0x1F1E7}, []int{0, 2, 4, 6}},
		{10, []int{0x1F1E6, '\n', 0x1F1E7, 0x1F1E8}, []int{0, 1, 2, 4}},

		{11, []int{'a', 'b'}, []int{0, 1, 2}},
		{11, []int{0x4E00, 0x3042, 0x30A2}, []int{0, 1, 2, 3}},
		{11, []int{'a', 0x1100, 'b', 0x11A8, 'c', 0x1F1E6, 'd', 0x1F600}, []int{0, 1, 2, 3, 4, 5, 6, 7, 8}},
	} {
		t.Run(fmt.Sprintf("rule %d of %s", x.rule, hex(x.text)), func(t *testing.T) { hold(t, d, x.text, x.want) })
	}
}

// TestTwo: whether a cluster ends between two signs, of each kind and each kind.
func TestTwo(t *testing.T) {
	// The rows of signs ahead; 1 where a cluster ends ahead of a, CR, LF, Control, Extend, ZWJ, RegionalIndicator, Prepend, SpacingMark, L, V, T, LV, LVT, a picture.
	rows := []string{
		"111100110111111", // a
		"110111111111111", // CR
		"111111111111111", // LF
		"111111111111111", // Control
		"111100110111111", // Extend
		"111100110111111", // ZWJ
		"111100010111111", // RegionalIndicator
		"011100000000000", // Prepend
		"111100110111111", // SpacingMark
		"111100110001001", // L
		"111100110100111", // V
		"111100110110111", // T
		"111100110100111", // LV
		"111100110110111", // LVT
		"111100110111111", // a picture
	}
	d := ucd.New()
	for i, ahead := range signs {
		for j, behind := range signs {
			l := []int{ahead, behind}
			if got := cluster.Break(d, l, 1); got != (rows[i][j] == '1') {
				t.Errorf("Break(%s, 1): %v", hex(l), got)
			}
		}
	}
}

// TestAllShort: all texts of at most four signs of all kinds, by the rules and by the shape of clusters.
func TestAllShort(t *testing.T) {
	d := ucd.New()
	texts(signs, 4, func(l []int) {
		want := allByRules(d, l)
		if shaped := allByShape(d, l); !slices.Equal(shaped, want) {
			t.Fatalf("%s: by rules %v, by shape %v", hex(l), want, shaped)
		}
		hold(t, d, l, want)
	})
}

// TestLookAhead: all texts of some length, of the kinds for which rules look farther ahead than one sign.
func TestLookAhead(t *testing.T) {
	d := ucd.New()
	texts([]int{0x301, 0x200D, 0x1F600, 0x1F1E6}, 7, func(l []int) { hold(t, d, l, allByShape(d, l)) })
	texts([]int{'a', 0x1F1E6}, 12, func(l []int) { hold(t, d, l, allByShape(d, l)) })
	texts([]int{0x301, 0x200D, 0x1F600}, 8, func(l []int) { hold(t, d, l, allByRules(d, l)) })
}

func TestDrawn(t *testing.T) {
	d := ucd.New()
	lot := rand.New(rand.NewSource(5))
	more := slices.Concat(signs, []int{0x1F1FF, 0x1F1E6, 0xFE0F, 0x2764, 0x200D, 0xD7A3, 0x10FFFF, 0xD800, -1, 0x110000})
	for range 3000 {
		l := drawn(lot, more, 40)
		hold(t, d, l, allByRules(d, l))
	}
}

// TestNoPlace: what is no place of a text.
func TestNoPlace(t *testing.T) {
	d := ucd.New()
	for _, l := range [][]int{nil, {}, {'a'}, {'a', 0x301}, {'\n'}, {0x1F1E6, 0x1F1E7, 0x1F1E8}} {
		for _, i := range []int{math.MinInt, math.MinInt32, -2, -1, len(l) + 1, len(l) + 2, math.MaxInt32, math.MaxInt} {
			if cluster.Break(d, l, i) {
				t.Errorf("Break(%s, %d)", hex(l), i)
			}
			if a, b := cluster.At(d, l, i); a != 0 || b != 0 {
				t.Errorf("At(%s, %d): %d, %d", hex(l), i, a, b)
			}
		}
	}
}

// TestSpare: signs beyond a text's length, in the same memory, are none of its own.
func TestSpare(t *testing.T) {
	d := ucd.New()
	l := []int{'a', 0x301, 0x302}
	hold(t, d, l[:1], []int{0, 1})
	hold(t, d, l[1:2], []int{0, 1})
	if cluster.Break(d, l[:1], 2) {
		t.Error("a place beyond the end")
	}
}

// TestNoCodePoints: numbers that are no code points are of the kind Other, and no pictures.
func TestNoCodePoints(t *testing.T) {
	d := ucd.New()
	for _, r := range []int{-1, math.MinInt, math.MaxInt, 0x110000, 0x1F600 + 1<<32, 0xD800, 0xDFFF, -0xD, 0x301 - 1<<32} {
		hold(t, d, []int{r}, []int{0, 1})
		hold(t, d, []int{r, r}, []int{0, 1, 2})
		hold(t, d, []int{'a', r, 0x301, r}, []int{0, 1, 3, 4})
		hold(t, d, []int{0x600, r, '\n', r}, []int{0, 2, 3, 4})
		hold(t, d, []int{0x1F600, 0x200D, r, 0x200D, 0x1F600}, []int{0, 2, 4, 5})
		hold(t, d, []int{0x1F1E6, r, 0x1F1E6, 0x1F1E6}, []int{0, 1, 2, 4})
	}
}

// TestLoaded: data with values that the tables don't name.
func TestLoaded(t *testing.T) {
	d := loaded(t, []api.Prop{
		{Low: 'A', High: 'A', Value: 14},
		{Low: 'B', High: 'B', Value: 255},
		{Low: 'E', High: 'E', Value: 4},
		{Low: 'L', High: 'L', Value: 9},
		{Low: 'R', High: 'R', Value: 6},
		{Low: 'T', High: 'T', Value: 11},
		{Low: 'V', High: 'V', Value: 10},
		{Low: 'X', High: 'X', Value: 12},
		{Low: 'Y', High: 'Y', Value: 13},
		{Low: 'Z', High: 'Z', Value: 5},
		{Low: 'e', High: 'e', Value: 4},
		{Low: 'n', High: 'n', Value: 3},
		{Low: 'r', High: 'r', Value: 6},
		{Low: 'z', High: 'z', Value: 5},
		{Low: 0xAC00, High: 0xAC01, Value: 3},
	}, []api.Prop{
		{Low: 'P', High: 'P', Value: 200},
		{Low: 'e', High: 'z', Value: 2},
	})
	for _, x := range []struct {
		text string
		want []int
	}{
		// Kinds beyond those that are named are like Other.
		{"AB", []int{0, 1, 2}},
		{"BA", []int{0, 1, 2}},
		{"AEBE", []int{0, 2, 4}},
		{"AZP", []int{0, 2, 3}},
		// What the shipped tables say is not looked at.
		{"a\u0301", []int{0, 1, 2}},
		{"\r\n", []int{0, 1, 2}},
		// LV and LVT may be others than Hangul's; its own have their kinds whatever the table says.
		{"LXVT", []int{0, 4}},
		{"YTT", []int{0, 3}},
		{"XYV", []int{0, 1, 2, 3}},
		{"L\uac00VL\uac01T", []int{0, 3, 6}},
		{"\uac01V", []int{0, 1, 2}},
		// A picture is one of any value but 0.
		{"PZP", []int{0, 3}},
		{"PEEZP", []int{0, 5}},
		// A picture may be an Extend, a joiner or an indicator as well.
		{"eZP", []int{0, 3}},
		{"eEZP", []int{0, 4}},
		{"aeZP", []int{0, 4}},
		{"aeEZP", []int{0, 5}},
		{"PeZP", []int{0, 4}},
		{"EZP", []int{0, 2, 3}},
		{"zZP", []int{0, 3}},
		{"zP", []int{0, 1, 2}},
		{"Pz", []int{0, 2}},
		{"PzP", []int{0, 3}},
		{"rZr", []int{0, 3}},
		{"rRZr", []int{0, 3, 4}},
		{"rZrr", []int{0, 4}},
		{"rRrR", []int{0, 2, 4}},
		{"RZP", []int{0, 2, 3}},
		// A control that is a picture is one to the rule that looks ahead for it, though a cluster ends behind it.
		{"nZP", []int{0, 1, 3}},
		{"nP", []int{0, 1, 2}},
		{"PZn", []int{0, 2, 3}},
	} {
		var l []int
		for _, r := range x.text {
			l = append(l, int(r))
		}
		t.Run(x.text, func(t *testing.T) { hold(t, d, l, x.want) })
	}
}

// TestLoadedDrawn: data of which each sign has a value by lot, and is a picture or none by lot.
func TestLoadedDrawn(t *testing.T) {
	lot := rand.New(rand.NewSource(55))
	for range 60 {
		var clusters, pictures []api.Prop
		var own []int
		for r := 'A'; r <= 'Z'; r++ {
			own = append(own, int(r))
			value := lot.Intn(15)
			if value == 14 {
				value += lot.Intn(242)
			}
			clusters = append(clusters, api.Prop{Low: int(r), High: int(r), Value: byte(value)})
			if lot.Intn(2) == 0 {
				pictures = append(pictures, api.Prop{Low: int(r), High: int(r), Value: byte(1 + lot.Intn(255))})
			}
		}
		d := loaded(t, clusters, pictures)
		for range 100 {
			few := drawn(lot, own, 6)
			if len(few) == 0 {
				continue
			}
			l := drawn(lot, few, 15)
			hold(t, d, l, allByRules(d, l))
		}
	}
}

// TestLong: a long text takes no longer than its length asks for, whatever stands ahead of a place.
func TestLong(t *testing.T) {
	d := ucd.New()
	const count = 1 << 20
	repeat := func(l ...int) []int { return slices.Repeat(l, count/len(l)) }
	for _, x := range []struct {
		name   string
		text   []int
		places int
	}{
		{"indicators, an even number", repeat(0x1F1E6), count/2 + 1},
		{"indicators, an odd number", append(repeat(0x1F1E6), 0x1F1E6), count/2 + 2},
		{"a sign ahead of indicators", append([]int{0x600}, repeat(0x1F1E6)...), count/2 + 1},
		{"a picture, many Extend", slices.Concat([]int{0x1F600}, repeat(0x301), []int{0x200D, 0x1F600}), 2},
		{"no picture, many Extend", append(repeat(0x301), 0x200D, 0x1F600), 3},
		{"joined pictures", append(repeat(0x1F600, 0x301, 0x301, 0x200D), 0x1F600), 2},
		{"joiners", append(repeat(0x200D), 0x1F600), 3},
		{"joiners between pictures", repeat(0x200D, 0x1F600), 3},
		{"signs ahead", append(repeat(0x600), 0x1F1E6), 2},
		{"letters", repeat('a'), count + 1},
		{"controls", repeat('\n'), count + 1},
	} {
		l := x.text
		t.Run(x.name, func(t *testing.T) {
			all := cluster.All(d, l)
			if len(all) != x.places || all[0] != 0 || all[len(all)-1] != len(l) {
				t.Fatalf("%d places, want %d, from 0 to %d", len(all), x.places, len(l))
			}
			for _, i := range []int{0, 1, 2, len(l) / 2, len(l) - 2, len(l) - 1} {
				n, _ := slices.BinarySearch(all, i+1)
				if a, b := cluster.At(d, l, i); a != all[n-1] || b != all[n] {
					t.Errorf("At %d: %d, %d, want %d, %d", i, a, b, all[n-1], all[n])
				}
			}
			if a, b := cluster.At(d, l, len(l)); a != len(l) || b != len(l) {
				t.Errorf("At the end: %d, %d", a, b)
			}
		})
	}
}

// TestOwn: a text stays as it is, and what is told is the caller's own (R3).
func TestOwn(t *testing.T) {
	d := ucd.New()
	l := []int{'a', 0x301, 'b', 0x1F1E6, 0x1F1E7, 0x1F1E8}
	was := slices.Clone(l)
	first := cluster.All(d, l)
	want := slices.Clone(first)
	clear(first)
	cluster.Break(d, l, 2)
	cluster.At(d, l, 4)
	if !slices.Equal(l, was) {
		t.Errorf("the text was changed: %s", hex(l))
	}
	if again := cluster.All(d, l); !slices.Equal(again, want) {
		t.Errorf("All, told again: %v, want %v", again, want)
	}
}

// P5.2

// joined is the places of two texts, one behind the other, of which each keeps its own.
func joined(d *ucd.Data, a, b []int) []int {
	all := cluster.All(d, a)
	for _, i := range cluster.All(d, b)[1:] {
		all = append(all, len(a)+i)
	}
	return all
}

// byControl tells whether a cluster ends between two texts by the third rule.
func byControl(d *ucd.Data, a, b []int) bool {
	alone := func(r int) bool { k := d.Cluster(r); return k == 1 || k == 2 || k == 3 }
	if len(a) == 0 || len(b) == 0 {
		return false
	}
	ahead, behind := a[len(a)-1], b[0]
	return (alone(ahead) || alone(behind)) && !(d.Cluster(ahead) == 1 && d.Cluster(behind) == 2)
}

func holdJoined(t *testing.T, d *ucd.Data, a, b []int) {
	t.Helper()
	if !byControl(d, a, b) {
		return
	}
	if got, want := cluster.All(d, slices.Concat(a, b)), joined(d, a, b); !slices.Equal(got, want) {
		t.Fatalf("All(%s, %s): %v, want %v", hex(a), hex(b), got, want)
	}
}

func TestJoined(t *testing.T) {
	d := ucd.New()
	// What a text has ahead of a control would keep these together.
	for _, x := range []struct{ a, b []int }{
		{[]int{0x1F1E6, '\n'}, []int{0x1F1E7, 0x1F1E8}},
		{[]int{0x1F1E6}, []int{'\n', 0x1F1E7, 0x1F1E8}},
		{[]int{0x1F600, 0x7}, []int{0x200D, 0x2764}},
		{[]int{0x1F600}, []int{0x7, 0x200D, 0x2764}},
		{[]int{0x600, '\r'}, []int{'a', 0x301}},
		{[]int{0x600}, []int{'\r', '\n'}},
		{[]int{'a', '\n'}, []int{'\r', '\n'}},
		{[]int{'\r', '\r'}, []int{'\r', '\n'}},
		{[]int{'\n'}, []int{0x301, 0x903}},
		{[]int{0x1100, '\n'}, []int{0x1161, 0x11A8}},
	} {
		if !byControl(d, x.a, x.b) {
			t.Errorf("%s, %s: no control", hex(x.a), hex(x.b))
		}
		holdJoined(t, d, x.a, x.b)
	}
	texts(signs, 2, func(a []int) {
		texts(signs, 2, func(b []int) { holdJoined(t, d, a, b) })
	})
	lot := rand.New(rand.NewSource(52))
	for range 20000 {
		a, b := drawn(lot, signs, 12), drawn(lot, signs, 12)
		if lot.Intn(2) == 0 {
			a = append(a, signs[1+lot.Intn(3)])
		} else {
			b = slices.Concat([]int{signs[1+lot.Intn(3)]}, b)
		}
		holdJoined(t, d, a, b)
	}
}

// TestLineKeptWhole: a CR and the LF behind it are one cluster, whichever texts they stand in: there the places are not those of each.
func TestLineKeptWhole(t *testing.T) {
	d := ucd.New()
	hold(t, d, []int{'a', '\r', '\n', 'b'}, []int{0, 1, 3, 4})
	if slices.Contains(cluster.All(d, slices.Concat([]int{'a', '\r'}, []int{'\n', 'b'})), 2) {
		t.Error("a cluster ends between CR and LF")
	}
}

// TestEnds: each text has its first place, and its end.
func TestEnds(t *testing.T) {
	d := ucd.New()
	texts(signs, 3, func(l []int) {
		all := cluster.All(d, l)
		if all[0] != 0 || all[len(all)-1] != len(l) || !cluster.Break(d, l, 0) || !cluster.Break(d, l, len(l)) {
			t.Fatalf("All(%s): %v", hex(l), all)
		}
		for i := 1; i < len(all); i++ {
			if all[i] <= all[i-1] {
				t.Fatalf("All(%s) doesn't rise: %v", hex(l), all)
			}
		}
	})
}
