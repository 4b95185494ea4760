package ucd_test

import (
	"strconv"
	"strings"
	"testing"

	"scansion/api"
	"scansion/trie"
)

const (
	top           = api.MaxRune
	firstSyllable = 0xAC00
	lastSyllable  = 0xD7A3
)

// tables is the document's four tables, as they are written there, without the lines of LV and LVT.
var tables = [4]string{`
| 1 CR | D |
| 2 LF | A |
| 3 Control | 0-9, B-C, E-1F, 7F-9F, AD, 200B, 200E-200F, 2028-202E, 2060-206F, FEFF, E0001 |
| 4 Extend | 300-36F, 483-489, 591-5BD, 610-61A, 64B-65F, 93A, 93C, 941-948, 94D, E31, E34-E3A, E47-E4E, EB1, EB4-EBC, EC8-ECE, 17B4-17B5, 17B7-17BD, 17C6, 17C9-17D3, 17DD, 1DC0-1DFF, 200C, 20D0-20F0, 302A-302F, 3099-309A, FE00-FE0F, FE20-FE2F, 1F3FB-1F3FF, E0020-E007F, E0100-E01EF |
| 5 ZWJ | 200D |
| 6 RegionalIndicator | 1F1E6-1F1FF |
| 7 Prepend | 600-605, 6DD, 70F, 110BD |
| 8 SpacingMark | 903, 93B, 93E-940, 949-94C, 94E-94F, E33, EB3, 17B6, 17BE-17C5, 17C7-17C8 |
| 9 L | 1100-115F |
| 10 V | 1160-11A7 |
| 11 T | 11A8-11FF |
`, `
| 1 CR | D |
| 2 LF | A |
| 3 Newline | B-C, 85, 2028-2029 |
| 4 Extend | 300-36F, 483-489, 591-5BD, 610-61A, 64B-65F, 903, 93A-93C, 93E-94F, E31, E33-E3A, E47-E4E, EB1, EB3-EBC, EC8-ECE, 17B4-17D3, 17DD, 1DC0-1DFF, 200C, 20D0-20F0, 302A-302F, 3099-309A, FE00-FE0F, FE20-FE2F, 1F3FB-1F3FF, E0020-E007F, E0100-E01EF |
| 5 ZWJ | 200D |
| 6 Format | AD, 600-605, 6DD, 70F, 200E-200F, 202A-202E, 2060-2064, 2066-206F, FEFF, E0001 |
| 7 RegionalIndicator | 1F1E6-1F1FF |
| 8 Katakana | 3031-3035, 309B-309C, 30A0-30FA, 30FC-30FF, 31F0-31FF, FF66-FF9D |
| 9 HebrewLetter | 5D0-5EA, 5EF-5F2, FB1D, FB1F-FB28 |
| 10 ALetter | 41-5A, 61-7A, AA, B5, BA, C0-D6, D8-F6, F8-2D7, 370-373, 376-377, 37B-37D, 37F, 386, 388-3FF, 400-481, 48A-52F, 531-556, 561-587, 620-64A, 671-6D3, 904-939, 10A0-10FF, 1100-1248, 1E00-1FBC, AC00-D7A3 |
| 11 SingleQuote | 27 |
| 12 DoubleQuote | 22 |
| 13 MidNumLet | 2E, 2018-2019, 2024, FE52, FF07, FF0E |
| 14 MidLetter | 3A, B7, 387, 55F, 5F4, 2027, FE13, FE55, FF1A |
| 15 MidNum | 2C, 3B, 37E, 589, 60C-60D, 66C, 7F8, 2044, FE10, FE14, FF0C, FF1B |
| 16 Numeric | 30-39, 660-669, 66B, 6F0-6F9, 966-96F, E50-E59, ED0-ED9, 17E0-17E9, FF10-FF19 |
| 17 ExtendNumLet | 5F, 202F, 203F-2040, 2054, FE33-FE34, FE4D-FE4F, FF3F |
| 18 WSegSpace | 20, 1680, 2000-2006, 2008-200A, 205F, 3000 |
`, `
| 1 CJK | 2E80-2FD5, 3005-3007, 3021-3029, 3038-303B, 3041-3096, 309D-309F, 30A1-30FA, 30FD-30FF, 31F0-31FF, 3400-4DBF, 4E00-9FFF, F900-FAD9, FF66-FF6F, FF71-FF9D, 20000-2FA1D |
| 2 Thai | E01-E3A, E40-E4E |
| 3 Lao | E81-EBD, EC0-ECE, EDC-EDF |
| 4 Khmer | 1780-17B3, 17B6-17D3, 17D7, 17DC-17DD |
`, `
| 1 yes | A9, AE, 203C, 2049, 2122, 2139, 2194-2199, 21A9-21AA, 231A-231B, 2328, 23CF, 23E9-23F3, 24C2, 25AA-25AB, 25B6, 25C0, 25FB-25FE, 2600-2605, 2607-2612, 2614-2685, 2690-2705, 2708-2712, 2714, 2716, 271D, 2721, 2728, 2733-2734, 2744, 2747, 274C, 274E, 2753-2755, 2757, 2763-2767, 2795-2797, 27A1, 27B0, 27BF, 2934-2935, 2B05-2B07, 2B1B-2B1C, 2B50, 2B55, 3030, 303D, 3297, 3299, 1F000-1F0FF, 1F10D-1F10F, 1F12F, 1F16C-1F171, 1F17E-1F17F, 1F18E, 1F191-1F19A, 1F201-1F20F, 1F21A, 1F22F, 1F232-1F23A, 1F249-1F3FA, 1F400-1F53D, 1F546-1F64F, 1F680-1F6FF, 1F90C-1F93A, 1F93C-1F945, 1F947-1FAFF |
`,
}

// rows is the entries of one of the document's tables.
func rows(t *testing.T, table int) []api.Prop {
	t.Helper()
	var l []api.Prop
	for _, line := range strings.Split(strings.TrimSpace(tables[table]), "\n") {
		cells := strings.Split(strings.Trim(line, "| "), " | ")
		value, err := strconv.Atoi(strings.Fields(cells[0])[0])
		if err != nil {
			t.Fatal(err)
		}
		for _, s := range strings.Split(cells[1], ", ") {
			low, high, several := strings.Cut(s, "-")
			if !several {
				high = low
			}
			l = append(l, api.Prop{Low: number(t, low), High: number(t, high), Value: byte(value)})
		}
	}
	return l
}

func number(t *testing.T, s string) int {
	t.Helper()
	n, err := strconv.ParseInt(s, 16, 32)
	if err != nil {
		t.Fatal(err)
	}
	return int(n)
}

// valuesOf is a value of each code point, 0 where no entry has it. No number stands in two entries.
func valuesOf(t *testing.T, l []api.Prop) []int {
	t.Helper()
	values := make([]int, top+1)
	for _, p := range l {
		for r := p.Low; r <= p.High; r++ {
			if values[r] != 0 {
				t.Fatalf("%#x stands in two entries", r)
			}
			values[r] = int(p.Value)
		}
	}
	return values
}

// known is the values that the document tells of all code points, those of the syllables with them.
func known(t *testing.T) [4][]int {
	t.Helper()
	var k [4][]int
	for i := range k {
		k[i] = valuesOf(t, rows(t, i))
	}
	for r := firstSyllable; r <= lastSyllable; r++ {
		k[0][r] = 13
	}
	for r := firstSyllable; r <= lastSyllable; r += 28 {
		k[0][r] = 12
	}
	return k
}

// saved is bytes of the form of Save: of each part four bytes that tell how many it has, and the part.
func saved(parts ...[]byte) []byte {
	var b []byte
	for _, p := range parts {
		n := len(p)
		b = append(b, byte(n), byte(n>>8), byte(n>>16), byte(n>>24))
		b = append(b, p...)
	}
	return b
}

// part is a trie's bytes, of entries by Low, High and Value in turn.
func part(t *testing.T, n ...int) []byte {
	t.Helper()
	var l []api.Prop
	for i := 0; i+2 < len(n); i += 3 {
		l = append(l, api.Prop{Low: n[i], High: n[i+1], Value: byte(n[i+2])})
	}
	return partOf(t, l)
}

func partOf(t *testing.T, l []api.Prop) []byte {
	t.Helper()
	x, e := trie.Build(l)
	if e != api.OK {
		t.Fatalf("Build: error %d", e)
	}
	return x.Save()
}
