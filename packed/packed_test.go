package packed_test

import (
	"bytes"
	"encoding/binary"
	"math"
	"math/rand"
	"slices"
	"testing"

	"scansion/api"
	"scansion/follow"
	"scansion/least"
	"scansion/match"
	"scansion/packed"
	"scansion/subset"
)

type list = []int

// save1 is what Save tells where it tells no error.
func save1(t *testing.T, d api.Dfa) []byte {
	t.Helper()
	b, e := packed.Save(d)
	if e != api.OK {
		t.Fatalf("Save of %v: error %d", brief(d), e)
	}
	return b
}

// load1 is what Load tells where it tells no error.
func load1(t *testing.T, b []byte) api.Dfa {
	t.Helper()
	d, e := packed.Load(b)
	if e != api.OK {
		t.Fatalf("Load of % X: error %d", start(b), e)
	}
	return d
}

// brief is what a fault tells of states: not thousands of them.
func brief(d api.Dfa) any {
	if len(d.Next) > 20 {
		return len(d.Next)
	}
	return d
}

// start is what a fault tells of bytes.
func start(b []byte) []byte { return b[:min(len(b), 100)] }

// holdSaved holds that states are saved as bytes, and these loaded as the states.
func holdSaved(t *testing.T, d api.Dfa, want []byte) {
	t.Helper()
	b := save1(t, d)
	if !bytes.Equal(b, want) {
		t.Fatalf("Save of %v: % X, not % X", brief(d), start(b), start(want))
	}
	if l := load1(t, b); !same(l, d) {
		t.Fatalf("Load of % X: %v, not %v", start(b), brief(l), brief(d))
	}
}

// holdRefused holds that Load tells an error of bytes, and nothing beside it.
func holdRefused(t *testing.T, what string, b []byte) {
	t.Helper()
	d, e := packed.Load(b)
	if e != api.ErrForm {
		t.Errorf("%s: Load of % X: error %d", what, start(b), e)
	}
	if d.Next != nil || d.Final != nil {
		t.Errorf("%s: Load of % X: beside the error %v", what, start(b), brief(d))
	}
}

// holdLoad holds that Load tells of bytes what the plain one does; what was loaded is saved as it stood there, and may be.
func holdLoad(t *testing.T, b []byte) {
	t.Helper()
	want, e := plainLoad(b)
	if e != api.OK {
		holdRefused(t, "plainly no states", b)
		return
	}
	d := load1(t, b)
	if !same(d, want) {
		t.Fatalf("Load of % X: %v, not %v", start(b), brief(d), brief(want))
	}
	if !subset.Right(d) {
		t.Fatalf("Load of % X: %v may not be", start(b), brief(d))
	}
	if again := save1(t, d); !bytes.Equal(again, b) {
		t.Fatalf("% X is saved as % X", start(b), start(again))
	}
}

// P14.1

func TestNumber(t *testing.T) {
	for _, x := range []struct {
		n int
		b []byte
	}{
		{300, []byte{0xAC, 2}}, // the chapter's
		{0, []byte{0}},
		{1, []byte{1}},
		{2, []byte{2}},
		{126, []byte{0x7E}},
		{127, []byte{0x7F}},
		{128, []byte{0x80, 1}},
		{129, []byte{0x81, 1}},
		{200, []byte{0xC8, 1}},
		{255, []byte{0xFF, 1}},
		{256, []byte{0x80, 2}},
		{4999, []byte{0x87, 0x27}},
		{5000, []byte{0x88, 0x27}},
		{1<<14 - 1, []byte{0xFF, 0x7F}},
		{1 << 14, []byte{0x80, 0x80, 1}},
		{1<<21 - 1, []byte{0xFF, 0xFF, 0x7F}},
		{1 << 21, []byte{0x80, 0x80, 0x80, 1}},
		{1<<28 - 1, []byte{0xFF, 0xFF, 0xFF, 0x7F}},
		{1 << 28, []byte{0x80, 0x80, 0x80, 0x80, 1}},
		{1<<31 - 1, []byte{0xFF, 0xFF, 0xFF, 0xFF, 7}},
		{1 << 31, []byte{0x80, 0x80, 0x80, 0x80, 8}},
		{1<<35 - 1, []byte{0xFF, 0xFF, 0xFF, 0xFF, 0x7F}},
		{1 << 35, []byte{0x80, 0x80, 0x80, 0x80, 0x80, 1}},
		{math.MaxInt, []byte{0xFF, 0xFF, 0xFF, 0xFF, 0xFF, 0xFF, 0xFF, 0xFF, 0x7F}},
		{-1, []byte{0}},
		{-2, []byte{0}},
		{-127, []byte{0}},
		{-128, []byte{0}},
		{-300, []byte{0}},
		{math.MinInt32, []byte{0}},
		{math.MinInt + 1, []byte{0}},
		{math.MinInt, []byte{0}},
	} {
		if b := packed.Number(x.n); !bytes.Equal(b, x.b) {
			t.Errorf("Number(%d): % X, not % X", x.n, b, x.b)
		}
		if b := plainNumber(x.n); !bytes.Equal(b, x.b) {
			t.Errorf("plainly Number(%d): % X", x.n, b)
		}
	}
}

// numbers are those around each power of 2, and some beside them.
func numbers() []int {
	var l []int
	for n := -300; n < 70000; n++ {
		l = append(l, n)
	}
	for i := 16; i < 63; i++ {
		for n := -70; n <= 70; n++ {
			l = append(l, 1<<i+n)
		}
	}
	r := rand.New(rand.NewSource(41))
	for range 30000 {
		l = append(l, int(r.Uint64()>>r.Intn(64)))
	}
	return l
}

func TestNumberOfMany(t *testing.T) {
	for _, n := range numbers() {
		b := packed.Number(n)
		if want := plainNumber(n); !bytes.Equal(b, want) {
			t.Fatalf("Number(%d): % X, not % X", n, b, want)
		}
		if want := binary.AppendUvarint(nil, uint64(max(n, 0))); !bytes.Equal(b, want) {
			t.Fatalf("Number(%d): % X, not % X", n, b, want)
		}
	}
}

// holdTold holds what Told tells.
func holdTold(t *testing.T, b []byte, n, size int, want api.Errno) {
	t.Helper()
	if gotN, gotSize, e := packed.Told(b); gotN != n || gotSize != size || e != want {
		t.Fatalf("Told of % X: %d, %d, error %d, not %d, %d, error %d", start(b), gotN, gotSize, e, n, size, want)
	}
}

func TestTold(t *testing.T) {
	for _, x := range []struct {
		b       []byte
		n, size int
		e       api.Errno
	}{
		{[]byte{0xAC, 2}, 300, 2, api.OK}, // the chapter's
		{nil, 0, 0, api.ErrForm},
		{[]byte{}, 0, 0, api.ErrForm},
		{[]byte{0}, 0, 1, api.OK},
		{[]byte{1}, 1, 1, api.OK},
		{[]byte{0x7F}, 127, 1, api.OK},
		{[]byte{0x80, 1}, 128, 2, api.OK},
		{[]byte{0xFF, 0xFF, 0xFF, 0xFF, 7}, math.MaxInt32, 5, api.OK},
		// Bytes behind it.
		{[]byte{0, 0}, 0, 1, api.OK},
		{[]byte{0, 0x80}, 0, 1, api.OK},
		{[]byte{5, 0xFF, 0xFF, 0xFF, 0xFF, 0xFF}, 5, 1, api.OK},
		{[]byte{0xAC, 2, 9}, 300, 2, api.OK},
		{[]byte{0xAC, 2, 0x80, 0}, 300, 2, api.OK},
		{[]byte{0xFF, 0xFF, 0xFF, 0xFF, 7, 0xFF}, math.MaxInt32, 5, api.OK},
		// It ends nowhere.
		{[]byte{0x80}, 0, 0, api.ErrForm},
		{[]byte{0xFF}, 0, 0, api.ErrForm},
		{[]byte{0xAC}, 0, 0, api.ErrForm},
		{[]byte{0x81, 0x80}, 0, 0, api.ErrForm},
		{[]byte{0xFF, 0xFF, 0xFF, 0xFF}, 0, 0, api.ErrForm},
		{[]byte{0xFF, 0xFF, 0xFF, 0xFF, 0x87}, 0, 0, api.ErrForm},
		{bytes.Repeat([]byte{0x80}, 5000), 0, 0, api.ErrForm},
		{bytes.Repeat([]byte{0xFF}, 1<<20), 0, 0, api.ErrForm},
		// It has more bytes than it needs.
		{[]byte{0x80, 0}, 0, 0, api.ErrForm},
		{[]byte{0x81, 0}, 0, 0, api.ErrForm},
		{[]byte{0xFF, 0}, 0, 0, api.ErrForm},
		{[]byte{0x81, 0, 1}, 0, 0, api.ErrForm},
		{[]byte{0x81, 0x80, 0}, 0, 0, api.ErrForm},
		{[]byte{0xAC, 0x82, 0}, 0, 0, api.ErrForm},
		{[]byte{0xFF, 0xFF, 0xFF, 0xFF, 0}, 0, 0, api.ErrForm},
		{[]byte{0xFF, 0xFF, 0xFF, 0xFF, 0x87, 0}, 0, 0, api.ErrForm},
		{[]byte{0x80, 0x80, 0x80, 0x80, 0x80, 0x80, 0x80, 0x80, 0x80, 0}, 0, 0, api.ErrForm},
		// It is above 2^31 - 1.
		{[]byte{0x80, 0x80, 0x80, 0x80, 8}, 0, 0, api.ErrForm},
		{[]byte{0xFF, 0xFF, 0xFF, 0xFF, 8}, 0, 0, api.ErrForm},
		{[]byte{0xFF, 0xFF, 0xFF, 0xFF, 0xF}, 0, 0, api.ErrForm},
		{[]byte{0x80, 0x80, 0x80, 0x80, 0x10}, 0, 0, api.ErrForm},
		{[]byte{0x81, 0x80, 0x80, 0x80, 0x10}, 0, 0, api.ErrForm},
		{[]byte{0xFF, 0xFF, 0xFF, 0xFF, 0x7F}, 0, 0, api.ErrForm},
		{[]byte{0x80, 0x80, 0x80, 0x80, 0x80, 1}, 0, 0, api.ErrForm},
		{[]byte{0x81, 0x80, 0x80, 0x80, 0x80, 0x80, 0x80, 0x80, 0x80, 2}, 0, 0, api.ErrForm},
	} {
		holdTold(t, x.b, x.n, x.size, x.e)
		if n, size, e := plainTold(x.b); n != x.n || size != x.size || e != x.e {
			t.Errorf("plainly Told of % X: %d, %d, error %d", x.b, n, size, e)
		}
	}
}

// What Number tells is told again, whatever stands behind it; cut off at any place it is no number.
func TestToldOfNumbers(t *testing.T) {
	for _, n := range numbers() {
		b := packed.Number(n)
		for cut := range b {
			holdTold(t, b[:cut], 0, 0, api.ErrForm)
		}
		for _, behind := range []string{"", "\x00", "\x01", "\x7F", "\x80", "\xFF", "\x80\x00", "\xFF\xFF\xFF\xFF\xFF\xFF"} {
			all := append(slices.Clone(b), behind...)
			if n > math.MaxInt32 {
				holdTold(t, all, 0, 0, api.ErrForm)
			} else {
				holdTold(t, all, max(n, 0), len(b), api.OK)
			}
		}
		b[len(b)-1] += 0x80
		for more := 1; more < 12; more++ {
			holdTold(t, append(b, 0), 0, 0, api.ErrForm)
			b = append(b, 0x80)
		}
	}
}

func TestToldOfAllSmall(t *testing.T) {
	var every []byte
	for c := range 256 {
		every = append(every, byte(c))
	}
	small := slices.Concat(texts(string(every), 1), texts(string(every), 2))
	for size := range 8 {
		small = append(small, texts("\x00\x01\x07\x08\x7F\x80\xFF", size)...)
	}
	for _, b := range small {
		n, size, e := plainTold(b)
		holdTold(t, b, n, size, e)
	}
}

// P14.2

func TestSave(t *testing.T) {
	for _, x := range []struct {
		what  string
		next  []list
		final []bool
		b     string
	}{
		{"the chapter's", []list{{0, 0, 0}}, []bool{true}, "SD\x01\x03\x01\x03\x00"},
		{"one state, one class", []list{{0}}, []bool{false}, "SD\x01\x01\x00\x01\x00"},
		{"one Final state, one class", []list{{0}}, []bool{true}, "SD\x01\x01\x01\x01\x00"},
		{"two states", []list{{1}, {0}}, []bool{false, true}, "SD\x02\x01\x00\x01\x01\x01\x01\x00"},
		{"two Final states", []list{{0}, {1}}, []bool{true, true}, "SD\x02\x01\x01\x01\x00\x01\x01\x01"},
		{"two states, two classes", []list{{0, 1}, {1, 1}}, []bool{true, false}, "SD\x02\x02\x01\x01\x00\x01\x01\x00\x02\x01"},
		{"a run at the beginning", []list{{1, 1, 0}, {0, 0, 0}}, []bool{false, false}, "SD\x02\x03\x00\x02\x01\x01\x00\x00\x03\x00"},
		{"a run in the middle", []list{{0, 1, 1, 1, 0}, {1, 0, 0, 0, 1}}, []bool{false, false}, "SD\x02\x05\x00\x01\x00\x03\x01\x01\x00\x00\x01\x01\x03\x00\x01\x01"},
		{"a run at the end", []list{{0, 1, 1}, {1, 0, 0}}, []bool{false, false}, "SD\x02\x03\x00\x01\x00\x02\x01\x00\x01\x01\x02\x00"},
		{"runs that lead to one state with another one between", []list{{0, 0, 1, 0, 0}, {1, 1, 1, 1, 1}}, []bool{true, true}, "SD\x02\x05\x01\x02\x00\x01\x01\x02\x00\x01\x05\x01"},
		{"a run goes on over no row's end", []list{{1, 1}, {1, 1}}, []bool{false, false}, "SD\x02\x02\x00\x02\x01\x00\x02\x01"},
		{"each class leads elsewhere", []list{{2, 1, 0}, {0, 1, 2}, {1, 2, 0}}, []bool{false, true, false}, "SD\x03\x03\x00\x01\x02\x01\x01\x01\x00\x01\x01\x00\x01\x01\x01\x02\x00\x01\x01\x01\x02\x01\x00"},
	} {
		d := api.Dfa{Next: x.next, Final: x.final}
		holdSaved(t, d, []byte(x.b))
		if b := plainSave(d); string(b) != x.b {
			t.Errorf("%s: plainly % X", x.what, b)
		}
	}
}

func TestSaveNumbersOfTwoBytes(t *testing.T) {
	// One state, whose run is all the classes there are.
	for _, x := range []struct {
		classes int
		b       string
	}{
		{1, "SD\x01\x01\x01\x01\x00"},
		{127, "SD\x01\x7F\x01\x7F\x00"},
		{128, "SD\x01\x80\x01\x01\x80\x01\x00"},
		{129, "SD\x01\x81\x01\x01\x81\x01\x00"},
		{199, "SD\x01\xC7\x01\x01\xC7\x01\x00"},
		{200, "SD\x01\xC8\x01\x01\xC8\x01\x00"},
	} {
		holdSaved(t, toFirst(1, x.classes), []byte(x.b))
	}
	// States that lead to the last one.
	for _, x := range []struct {
		states      int
		count, last string
	}{
		{127, "\x7F", "\x7E"},
		{128, "\x80\x01", "\x7F"},
		{129, "\x81\x01", "\x80\x01"},
		{5000, "\x88\x27", "\x87\x27"},
	} {
		d := stepping(x.states, 200, x.states, func(int, int) int { return x.states - 1 })
		want := "SD" + x.count + "\xC8\x01"
		for state := range x.states {
			want += string([]byte{finalByte(state == 0)}) + "\xC8\x01" + x.last
		}
		holdSaved(t, d, []byte(want))
	}
	// Two runs, the first one of each length.
	for first := 1; first < 200; first++ {
		d := stepping(2, 200, 3, func(state, class int) int {
			if class < first {
				return state
			}
			return 1 - state
		})
		a, b := string(plainNumber(first)), string(plainNumber(200-first))
		holdSaved(t, d, []byte("SD\x02\xC8\x01\x01"+a+"\x00"+b+"\x01\x00"+a+"\x01"+b+"\x00"))
	}
}

func finalByte(is bool) byte {
	if is {
		return 1
	}
	return 0
}

// The states that subset.Build and least.Least tell, of each kind of expression.
func TestSaveOfExpressions(t *testing.T) {
	a, b := set(0), set(1)
	for _, x := range []struct {
		what        string
		n           api.Node
		free        bool
		built, lest string
	}{
		{"a set", a, false, "SD\x03\x03\x00\x01\x01\x01\x02\x01\x01\x01\x03\x02\x00\x03\x02", ""},
		{"a set, free", a, true, "SD\x02\x03\x00\x01\x01\x01\x00\x01\x01\x01\x01\x01\x01\x00\x01\x01", ""},
		{"nothing", cat(), false, "SD\x02\x03\x01\x03\x01\x00\x03\x01", ""},
		{"nothing, free", cat(), true, "SD\x01\x03\x01\x03\x00", ""},
		{"a cat", cat(a, b), false, "SD\x04\x03\x00\x01\x01\x01\x02\x01\x01\x00\x01\x02\x02\x03\x00\x03\x02\x01\x03\x02", ""},
		{"an alternative", alt(a, b), false, "SD\x05\x03\x00\x01\x01\x01\x02\x01\x03\x01\x03\x04\x01\x03\x04\x01\x03\x04\x00\x03\x04", "SD\x03\x03\x00\x03\x01\x01\x03\x02\x00\x03\x02"},
		{"a star", star(a), false, "SD\x03\x03\x01\x01\x01\x01\x02\x01\x01\x01\x01\x01\x01\x02\x01\x01\x00\x03\x02", "SD\x02\x03\x01\x01\x00\x01\x01\x01\x00\x00\x03\x01"},
		{"a plus", plus(a), false, "SD\x03\x03\x00\x01\x01\x01\x02\x01\x01\x01\x01\x01\x01\x02\x01\x01\x00\x03\x02", ""},
		{"an opt", opt(a), false, "SD\x03\x03\x01\x01\x01\x01\x02\x01\x01\x01\x03\x02\x00\x03\x02", ""},
	} {
		d := built(t, x.n, []uint64{1, 2, 3}, x.free)
		l, _ := least.Least(d)
		if x.lest == "" {
			x.lest = x.built
		}
		t.Run(x.what, func(t *testing.T) {
			holdSaved(t, d, []byte(x.built))
			holdSaved(t, l, []byte(x.lest))
		})
	}
}

// built are the states of an expression that may be.
func built(t *testing.T, n api.Node, masks []uint64, free bool) api.Dfa {
	t.Helper()
	a, e := follow.Build(n)
	if e != api.OK {
		t.Fatalf("follow.Build(%v): error %d", n, e)
	}
	d, e := subset.Build(a, masks, free, api.MaxState)
	if e != api.OK {
		t.Fatalf("subset.Build(%v): error %d", n, e)
	}
	return d
}

func TestSaveOfMostStates(t *testing.T) {
	r := rand.New(rand.NewSource(42))
	for _, classes := range []int{1, 2, 127, 128, 200} {
		for _, states := range []int{1, 2, 128, 129, 4999, 5000} {
			for _, d := range []api.Dfa{toFirst(states, classes), eachElsewhere(states, classes), inRuns(r, states, classes, 2*classes)} {
				holdSaved(t, d, plainSave(d))
			}
		}
	}
	if b := save1(t, toFirst(5000, 200)); len(b) != 2+2+2+5000*4 {
		t.Errorf("rows of one run: %d bytes", len(b))
	}
	// The numbers below 128 have one byte each.
	if b := save1(t, eachElsewhere(5000, 200)); len(b) != 2+2+2+5000*(1+200*3)-200*128 {
		t.Errorf("rows of 200 runs: %d bytes", len(b))
	}
}

func TestSaveOfWhatMayNotBe(t *testing.T) {
	right := stepping(3, 2, 2, func(state, class int) int { return (state + class) % 3 })
	if _, e := packed.Save(right); e != api.OK {
		t.Fatalf("error %d", e)
	}
	with := func(change func(d *api.Dfa)) api.Dfa {
		d := copied(right)
		change(&d)
		return d
	}
	for _, x := range []struct {
		what string
		d    api.Dfa
	}{
		{"no states", api.Dfa{}},
		{"no states, but empty lists", api.Dfa{Next: []list{}, Final: []bool{}}},
		{"no Next", api.Dfa{Final: []bool{true}}},
		{"no Final", api.Dfa{Next: []list{{0}}}},
		{"no classes", api.Dfa{Next: []list{{}}, Final: []bool{true}}},
		{"no classes, nil", api.Dfa{Next: []list{nil, nil}, Final: []bool{true, true}}},
		{"too few of Final", with(func(d *api.Dfa) { d.Final = d.Final[:2] })},
		{"too many of Final", with(func(d *api.Dfa) { d.Final = append(d.Final, false) })},
		{"a short first row", with(func(d *api.Dfa) { d.Next[0] = d.Next[0][:1] })},
		{"a short last row", with(func(d *api.Dfa) { d.Next[2] = d.Next[2][:1] })},
		{"a long row", with(func(d *api.Dfa) { d.Next[1] = list{0, 0, 0} })},
		{"an empty row", with(func(d *api.Dfa) { d.Next[1] = nil })},
		{"a state below 0", with(func(d *api.Dfa) { d.Next[1][0] = -1 })},
		{"a state too great", with(func(d *api.Dfa) { d.Next[2][1] = 3 })},
		{"the least number for a state", with(func(d *api.Dfa) { d.Next[0][0] = math.MinInt })},
		{"the greatest number for a state", with(func(d *api.Dfa) { d.Next[2][1] = math.MaxInt })},
		{"5001 states", toFirst(5001, 1)},
		{"201 classes", toFirst(1, 201)},
	} {
		b, e := packed.Save(x.d)
		if e != api.ErrArg || b != nil {
			t.Errorf("%s: Save: % X, error %d", x.what, start(b), e)
		}
	}
}

// P14.3

func TestLoad(t *testing.T) {
	for _, x := range []struct{ what, b string }{
		{"the chapter's", "SD\x01\x03\x01\x03\x00"},
		{"one state, one class", "SD\x01\x01\x00\x01\x00"},
		{"two states", "SD\x02\x03\x01\x02\x00\x01\x01\x00\x01\x01\x02\x00"},
		{"a state that is not led to", "SD\x02\x01\x00\x01\x00\x01\x01\x01"},
		{"200 classes", "SD\x01\xC8\x01\x01\xC8\x01\x00"},
	} {
		want, e := plainLoad([]byte(x.b))
		if d := load1(t, []byte(x.b)); e != api.OK || !same(d, want) {
			t.Errorf("%s: %v, plainly %v, error %d", x.what, d, want, e)
		}
	}
}

func TestLoadOfNone(t *testing.T) {
	for _, x := range []struct{ what, b string }{
		{"nothing", ""},
		{"one byte", "S"},
		{"the mark alone", "SD"},
		{"no mark", "\x01\x01\x01\x01\x00"},
		{"another mark", "SE\x01\x01\x01\x01\x00"},
		{"another mark's first byte", "TD\x01\x01\x01\x01\x00"},
		{"the mark turned", "DS\x01\x01\x01\x01\x00"},
		{"the mark twice", "SDSD\x01\x01\x01\x01\x00"},
		{"no states", "SD\x00\x01"},
		{"no states, of no classes", "SD\x00\x00"},
		{"no states, but a row", "SD\x00\x01\x01\x01\x00"},
		{"no classes", "SD\x01\x00\x01"},
		{"no classes, but a run", "SD\x01\x00\x01\x01\x00"},
		{"no classes, but a run of none", "SD\x01\x00\x01\x00\x00"},
		{"no number of classes", "SD\x01"},
		{"no rows", "SD\x01\x01"},
		{"a row without runs", "SD\x01\x01\x01"},
		{"a run without its state", "SD\x01\x01\x01\x01"},
		{"too few rows", "SD\x02\x01\x01\x01\x00"},
		{"too many rows", "SD\x01\x01\x01\x01\x00\x01\x01\x00"},
		{"a byte behind all", "SD\x01\x01\x01\x01\x00\x00"},
		{"another one behind all", "SD\x01\x01\x01\x01\x00\x80"},
		{"Final is 2", "SD\x01\x01\x02\x01\x00"},
		{"Final is 255", "SD\x01\x01\xFF\x01\x00"},
		{"Final is 80, as if one byte more stood behind it", "SD\x01\x01\x80\x00\x01\x00"},
		{"Final is 81, as if one byte more stood behind it", "SD\x01\x01\x81\x00\x01\x00"},
		{"the second Final is 2", "SD\x02\x01\x01\x01\x00\x02\x01\x00"},
		{"a run of no classes", "SD\x01\x01\x01\x00\x00\x01\x00"},
		{"a run of no classes alone", "SD\x01\x01\x01\x00\x00"},
		{"a run of no classes behind the others", "SD\x01\x01\x01\x01\x00\x00\x00"},
		{"a run of no classes between", "SD\x02\x02\x01\x01\x00\x00\x01\x01\x00\x00\x02\x00"},
		{"a run of more classes than there are", "SD\x01\x01\x01\x02\x00"},
		{"a second run of more classes than there are", "SD\x02\x03\x01\x02\x00\x02\x01\x01\x03\x00"},
		{"a run over a row's end", "SD\x02\x02\x01\x04\x00"},
		{"a run of far more classes", "SD\x01\x01\x01\xFF\xFF\xFF\xFF\x07\x00"},
		{"a run of fewer classes", "SD\x01\x02\x01\x01\x00"},
		{"two runs to one state", "SD\x01\x02\x01\x01\x00\x01\x00"},
		{"two runs to one state, of two", "SD\x02\x03\x01\x01\x01\x02\x01\x00\x03\x00"},
		{"two runs to one state, in the second row", "SD\x02\x02\x01\x01\x01\x01\x00\x00\x01\x01\x01\x01"},
		{"the second and third run to one state", "SD\x02\x03\x01\x01\x01\x01\x00\x01\x00\x00\x03\x00"},
		{"a state too great", "SD\x01\x01\x01\x01\x01"},
		{"a state too great, of two", "SD\x02\x01\x01\x01\x00\x01\x01\x02"},
		{"a state far too great", "SD\x01\x01\x01\x01\xFF\xFF\xFF\xFF\x07"},
		{"a state above 2^31 - 1", "SD\x01\x01\x01\x01\x80\x80\x80\x80\x10"},
		{"a state above 2^64 - 1", "SD\x01\x01\x01\x01\x80\x80\x80\x80\x80\x80\x80\x80\x80\x02"},
		{"states in more bytes than it needs", "SD\x81\x00\x01\x01\x01\x00"},
		{"classes in more bytes than it needs", "SD\x01\x81\x00\x01\x01\x00"},
		{"a run in more bytes than it needs", "SD\x01\x01\x01\x81\x00\x00"},
		{"a state in more bytes than it needs", "SD\x01\x01\x01\x01\x80\x00"},
		{"2^31 - 1 states", "SD\xFF\xFF\xFF\xFF\x07\x01\x01\x01\x00"},
		{"2^31 states", "SD\x80\x80\x80\x80\x08\x01\x01\x01\x00"},
		{"2^31 - 1 classes", "SD\x01\xFF\xFF\xFF\xFF\x07\x01\xFF\xFF\xFF\xFF\x07\x00"},
		{"2^31 - 1 of both", "SD\xFF\xFF\xFF\xFF\x07\xFF\xFF\xFF\xFF\x07\x01\xFF\xFF\xFF\xFF\x07\x00"},
		{"201 classes", "SD\x01\xC9\x01\x01\xC9\x01\x00"},
		{"small letters", "sd\x01\x01\x01\x01\x00"},
	} {
		holdRefused(t, x.what, []byte(x.b))
		if _, e := plainLoad([]byte(x.b)); e != api.ErrForm {
			t.Errorf("%s: plainly error %d", x.what, e)
		}
	}
}

// Of so many states and classes none may be more.
func TestLoadOfTooMany(t *testing.T) {
	for _, x := range []struct{ states, classes int }{{5001, 1}, {5001, 200}, {5000, 201}, {1, 201}, {6000, 1}, {10000, 2}, {2, 300}} {
		holdRefused(t, "too many", plainSave(toFirst(x.states, x.classes)))
		holdRefused(t, "too many", plainSave(eachElsewhere(x.states, x.classes)))
	}
	for _, x := range []struct{ states, classes int }{{5000, 1}, {5000, 200}, {4999, 199}, {1, 200}} {
		holdLoad(t, plainSave(toFirst(x.states, x.classes)))
	}
	// All that stands there says so, but there are not so many.
	for _, size := range []int{0, 1, 2, 1000, 14999, 15001, 1 << 20} {
		holdRefused(t, "many zeros", append([]byte("SD\x88\x27\xC8\x01"), make([]byte, size)...))
		holdRefused(t, "many ones", append([]byte("SD\x88\x27\x01"), bytes.Repeat([]byte{1}, size)...))
	}
	holdLoad(t, append([]byte("SD\x88\x27\x01"), bytes.Repeat([]byte{1}, 15000)...))
}

// some are states of which bytes are cut, turned and put together.
func some() []api.Dfa {
	r := rand.New(rand.NewSource(43))
	l := []api.Dfa{
		toFirst(1, 1), toFirst(1, 3), toFirst(2, 2), toFirst(3, 1), toFirst(1, 128), toFirst(1, 200), toFirst(2, 200),
		eachElsewhere(2, 2), eachElsewhere(3, 3), eachElsewhere(4, 6), eachElsewhere(130, 3), eachElsewhere(3, 130),
	}
	for range 20 {
		l = append(l, inRuns(r, 1+r.Intn(6), 1+r.Intn(6), 1+r.Intn(4)))
	}
	return append(l, inRuns(r, 150, 4, 6), inRuns(r, 4, 150, 150), inRuns(r, 3, 200, 400))
}

func TestLoadOfCut(t *testing.T) {
	for _, d := range some() {
		b := save1(t, d)
		for cut := range b {
			holdRefused(t, "cut off", b[:cut])
		}
		for c := range 256 {
			holdRefused(t, "one more", append(slices.Clone(b), byte(c)))
		}
		holdRefused(t, "twice", append(slices.Clone(b), b...))
	}
}

func TestLoadOfTurned(t *testing.T) {
	for _, d := range some() {
		b := save1(t, d)
		step := 1
		if len(b) > 200 {
			step = 37 // of many bytes, not all 256 at each place
		}
		for at, was := range b {
			for c := at % step; c < 256; c += step {
				b[at] = byte(c)
				if holdLoad(t, b); at < 2 && b[at] != was {
					holdRefused(t, "no mark", b)
				}
			}
			b[at] = was
		}
	}
}

// Bytes put in, taken out, and changed with the next one.
func TestLoadOfChanged(t *testing.T) {
	for _, d := range some() {
		b := save1(t, d)
		for at := range b {
			holdLoad(t, slices.Delete(slices.Clone(b), at, at+1))
			for _, c := range []byte{0, 1, 2, 0x7F, 0x80, 0x81, 0xFF} {
				holdLoad(t, slices.Insert(slices.Clone(b), at, c))
			}
			if at > 0 {
				turned := slices.Clone(b)
				turned[at-1], turned[at] = turned[at], turned[at-1]
				holdLoad(t, turned)
			}
		}
	}
}

func TestLoadDrawn(t *testing.T) {
	r := rand.New(rand.NewSource(44))
	there := 0
	for range 200000 {
		b := save1(t, inRuns(r, 1+r.Intn(5), 1+r.Intn(5), 1+r.Intn(4)))
		for range 1 + r.Intn(3) {
			at := 2 + r.Intn(len(b)-2)
			switch r.Intn(5) {
			case 0:
				b[at] = byte(r.Intn(4))
			case 1:
				b[at] = byte(int(b[at]) + r.Intn(3) - 1)
			case 2:
				b[at] ^= 1 << r.Intn(8)
			case 3:
				b = slices.Delete(b, at, min(at+r.Intn(3), len(b)))
			default:
				b = slices.Insert(b, at, byte(r.Intn(4)))
			}
			if len(b) == 2 {
				break
			}
		}
		if holdLoad(t, b); plainly(b) {
			there++
		}
	}
	if there < 1000 {
		t.Errorf("only %d of them are states", there)
	}
}

// plainly tells whether bytes are states.
func plainly(b []byte) bool {
	_, e := plainLoad(b)
	return e == api.OK
}

// P14.4

// All states of few states and classes are saved, each as other bytes, and loaded as they were.
func TestAllSmallStates(t *testing.T) {
	known := map[string]api.Dfa{}
	count := 0
	for _, x := range []struct{ states, classes int }{{1, 1}, {1, 2}, {1, 3}, {1, 4}, {2, 1}, {2, 2}, {2, 3}, {2, 4}, {3, 1}, {3, 2}, {4, 1}} {
		for _, d := range allStates(x.states, x.classes) {
			b := plainSave(d)
			holdSaved(t, d, b)
			known[string(b)] = d
			count++
		}
	}
	if len(known) != count {
		t.Errorf("%d texts of %d states", len(known), count)
	}
}

// Of all small texts of bytes those are loaded that states are saved as, and no others.
func TestAllSmallTexts(t *testing.T) {
	known := map[string]api.Dfa{}
	for states := 1; states <= 3; states++ {
		for classes := 1; classes <= 5-states; classes++ {
			for _, d := range allStates(states, classes) {
				known[string(plainSave(d))] = d
			}
		}
	}
	loaded := 0
	for size := range 10 {
		some := "\x00\x01\x02\x03"
		if size < 6 {
			some += "\x04\x7F\x80\x81\xFF"
		}
		for _, tail := range texts(some, size) {
			b := append([]byte("SD"), tail...)
			d, e := packed.Load(b)
			want, there := known[string(b)]
			if there != (e == api.OK) || there && !same(d, want) {
				// Only those of few classes are known.
				if !there && plainly(b) && b[3] > 5-b[2] {
					continue
				}
				t.Fatalf("Load of % X: %v, error %d, not %v", b, d, e, want)
			}
			if there {
				loaded++
				if again := save1(t, d); !bytes.Equal(again, b) || !subset.Right(d) {
					t.Fatalf("% X is saved as % X", b, again)
				}
			} else if e != api.ErrForm || d.Next != nil || d.Final != nil {
				t.Fatalf("Load of % X: %v, error %d", b, d, e)
			}
		}
	}
	if loaded < 50 {
		t.Errorf("only %d of them are states", loaded)
	}
}

// All bytes there are, of the states that have the fewest.
func TestAllBytesOfOneRun(t *testing.T) {
	for states := range 256 {
		for c := range 256 {
			holdLoad(t, []byte{0x53, 0x44, byte(states), byte(c), 1, 1, 0})
			holdLoad(t, []byte{0x53, 0x44, 1, byte(states), 0, byte(c), 0})
			holdLoad(t, []byte{0x53, 0x44, 1, 1, byte(states), 1, byte(c)})
			holdLoad(t, []byte{0x53, 0x44, 1, byte(states), byte(c), 1, 1, 0})
			holdLoad(t, []byte{0x53, 0x44, 1, 0xC8, 1, 1, byte(states), byte(c), 0})
			holdLoad(t, []byte{byte(states), byte(c), 1, 1, 0, 1, 0})
		}
	}
}

// The states of small expressions, and the fewest of the same words; the words are the same when they are loaded.
func TestAllSmallExpressions(t *testing.T) {
	masks := []uint64{0, 1, 2, 3}
	var tries [][]int
	for size := range 4 {
		tries = append(tries, words(len(masks), size)...)
	}
	for i, n := range upTo(5) {
		for _, free := range []bool{false, true} {
			d := built(t, n, masks, free)
			l, _ := least.Least(d)
			holdSaved(t, d, plainSave(d))
			holdSaved(t, l, plainSave(l))
			if i%10 == 0 {
				holdWords(t, n, masks, free, load1(t, save1(t, l)), tries)
			}
		}
	}
}

// holdWords holds that states that were loaded take the words of an expression.
func holdWords(t *testing.T, n api.Node, masks []uint64, free bool, d api.Dfa, tries [][]int) {
	t.Helper()
	for _, w := range tries {
		signs := make([]uint64, len(w))
		for i, class := range w {
			signs[i] = masks[class]
		}
		want := match.Whole(n, signs)
		if free {
			want = match.Suffix(n, signs)
		}
		if takes(d, 0, w) != want {
			t.Fatalf("%v: %v is taken: %v", n, w, !want)
		}
	}
}

func TestDrawn(t *testing.T) {
	r := rand.New(rand.NewSource(45))
	for range 20000 {
		d := inRuns(r, 1+r.Intn(200), 1+r.Intn(20), 1+r.Intn(9))
		holdSaved(t, d, plainSave(d))
	}
	for range 200 {
		d := inRuns(r, 1+r.Intn(1000), 1+r.Intn(200), 1+r.Intn(400))
		holdSaved(t, d, plainSave(d))
	}
}

// No word leads out of what was loaded, whatever the bytes were.
func TestNoWordLeadsOut(t *testing.T) {
	r := rand.New(rand.NewSource(46))
	there := 0
	for range 20000 {
		b := save1(t, inRuns(r, 1+r.Intn(200), 1+r.Intn(6), 1+r.Intn(4)))
		for range r.Intn(3) {
			b[2+r.Intn(len(b)-2)] = byte(r.Intn(256))
		}
		d, e := packed.Load(b)
		if e != api.OK {
			continue
		}
		there++
		w := make([]int, 30)
		for i := range w {
			w[i] = r.Intn(len(d.Next[0]))
		}
		if at, e := subset.Run(d, r.Intn(len(d.Next)), w); e != api.OK || at < 0 || at >= len(d.Next) {
			t.Fatalf("% X: %v leads to %d, error %d", start(b), w, at, e)
		}
	}
	if there < 5000 {
		t.Errorf("only %d of them are states", there)
	}
}

// R2, R3, R4

func TestStaysAsItIs(t *testing.T) {
	for _, d := range some() {
		x := copied(d)
		b := save1(t, d)
		if !same(d, x) {
			t.Fatalf("%v is %v now", brief(x), brief(d))
		}
		was := slices.Clone(b)
		load1(t, b)
		packed.Told(b)
		if !bytes.Equal(b, was) {
			t.Fatalf("% X is % X now", start(was), start(b))
		}
		if again := save1(t, d); !bytes.Equal(again, was) {
			t.Fatalf("%v: not the same again", brief(d))
		}
		// Behind what is handed in, too.
		roomy := append(make([]byte, 0, len(b)+9), b...)
		room := roomy[len(b):cap(roomy)]
		load1(t, roomy)
		packed.Told(roomy)
		if slices.Max(room) != 0 {
			t.Fatalf("% X stands behind what was handed in", room)
		}
	}
}

func TestIsOnesOwn(t *testing.T) {
	for _, d := range some() {
		was := copied(d)
		b := save1(t, d)
		want := slices.Clone(b)
		for i := range b[:cap(b)] {
			b[:cap(b)][i] = 0x99
		}
		if !same(d, was) || !bytes.Equal(save1(t, d), want) {
			t.Fatalf("%v: Save keeps what it told", brief(was))
		}
		b = slices.Clone(want)
		l := load1(t, b)
		for i := range b {
			b[i] = 0x99
		}
		if !same(l, was) {
			t.Fatalf("%v: changed with what was handed in", brief(was))
		}
		for i := range l.Next {
			row := l.Next[i]
			row = row[:cap(row)]
			for j := range row {
				row[j] = -77
			}
			l.Final[i] = !l.Final[i]
			for j := i + 1; j < len(l.Next); j++ {
				if !slices.Equal(l.Next[j], was.Next[j]) {
					t.Fatalf("the row %d is the same memory as %d", j, i)
				}
			}
		}
		if !same(load1(t, want), was) {
			t.Fatalf("%v: not the same again", brief(was))
		}
	}
}

func TestNumberIsOnesOwn(t *testing.T) {
	for _, n := range []int{-1, 0, 1, 127, 128, 300, 1 << 40} {
		b := packed.Number(n)
		for i := range b[:cap(b)] {
			b[:cap(b)][i] = 0x99
		}
		if again := packed.Number(n); !bytes.Equal(again, plainNumber(n)) {
			t.Errorf("Number(%d) is % X now", n, again)
		}
	}
}

// FuzzLoad holds Load, and Told, against the plain ones.
func FuzzLoad(f *testing.F) {
	f.Add([]byte("\x01\x03\x01\x03\x00"))
	f.Add([]byte("\x02\x03\x01\x02\x00\x01\x01\x00\x01\x01\x02\x00"))
	f.Add([]byte("\x01\xC8\x01\x01\xC8\x01\x00"))
	f.Fuzz(func(t *testing.T, b []byte) {
		n, size, e := plainTold(b)
		holdTold(t, b, n, size, e)
		holdLoad(t, b)
		holdLoad(t, append([]byte("SD"), b...))
	})
}
