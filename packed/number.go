package packed

import (
	"math"

	"scansion/api"
)

const (
	bits      = 7    // of a number, in a byte
	goesOn    = 0x80 // is added to each byte but the last one
	mostBytes = 5    // of 2^31 - 1
)

// Number is a number in as few bytes as it needs, seven bits a byte, the lowest first; what is below 0 is taken for 0.
func Number(n int) []byte { return appended(nil, max(n, 0)) }

// Told is the number with which b begins, and how many bytes it has. ErrForm: it begins with none, or with one above 2^31 - 1.
func Told(b []byte) (int, int, api.Errno) {
	n := uint64(0)
	for at, c := range b[:min(len(b), mostBytes)] {
		n |= uint64(c%goesOn) << (bits * at)
		if c >= goesOn {
			continue
		}
		// A last byte of 0 behind others adds nothing: the number has fewer bytes.
		if n > math.MaxInt32 || c == 0 && at > 0 {
			break
		}
		return int(n), at + 1, api.OK
	}
	return 0, 0, api.ErrForm
}

// appended is b with a number, from 0 on, behind it.
func appended(b []byte, n int) []byte {
	for ; n >= goesOn; n >>= bits {
		b = append(b, byte(n%goesOn+goesOn))
	}
	return append(b, byte(n))
}

// reader takes numbers off bytes; when it met one that may not be, it is bad.
type reader struct {
	rest []byte
	bad  bool
}

// number is the next number: 0 and bad, if there is none from 0 to the most that may be.
func (r *reader) number(most int) int {
	n, size, e := Told(r.rest)
	if e != api.OK || n > most {
		r.bad = true
		return 0
	}
	r.rest = r.rest[size:]
	return n
}
