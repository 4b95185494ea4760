package ucd

import (
	"scansion/api"
	"scansion/trie"
)

// countSize is how many bytes tell, ahead of a trie's bytes, how many these are.
const countSize = 4

// Save is the data as bytes: those of the four tries, each with its count ahead.
func (d *Data) Save() []byte {
	var b []byte
	for i := range tableCount {
		part := d.tries[i].Save()
		b = appendCount(b, len(part))
		b = append(b, part...)
	}
	return b
}

// Load is the data whose Save is b: ErrForm, if there is none. Values are not looked at: those that no table names are data, too.
func Load(b []byte) (*Data, api.Errno) {
	d := &Data{}
	for i := range tableCount {
		part, rest, whole := cut(b)
		if !whole {
			return nil, api.ErrForm
		}
		t, e := trie.Load(part)
		if e != api.OK {
			return nil, api.ErrForm
		}
		d.tries[i] = t
		b = rest
	}
	if len(b) > 0 {
		return nil, api.ErrForm
	}
	return d, api.OK
}

// appendCount tells a count of bytes, the lowest byte first.
func appendCount(b []byte, n int) []byte {
	for i := range countSize {
		b = append(b, byte(n>>(8*i)))
	}
	return b
}

// cut takes the part off b whose count stands ahead; whole: all of it is there.
func cut(b []byte) (part, rest []byte, whole bool) {
	if len(b) < countSize {
		return nil, nil, false
	}
	// Counts may be above all that an int holds where it has 32 bits.
	var n uint64
	for i := range countSize {
		n |= uint64(b[i]) << (8 * i)
	}
	b = b[countSize:]
	if n > uint64(len(b)) {
		return nil, nil, false
	}
	return b[:n], b[n:], true
}
