package trie

import "scansion/api"

// headSize is how many bytes stand ahead of the first blocks in what is saved.
const headSize = 1 + blockCount

// Save is the trie as bytes: how many first blocks there are, less 1; which one each block is like; and their values.
func (t *Trie) Save() []byte {
	b := make([]byte, 0, headSize+len(t.first)*blockSize)
	b = append(b, byte(len(t.first)-1))
	b = append(b, t.like[:]...)
	for _, f := range t.first {
		b = append(b, f[:]...)
	}
	return b
}

// Load is the trie whose Save is b: ErrForm, if there is none.
func Load(b []byte) (*Trie, api.Errno) {
	if len(b) == 0 {
		return nil, api.ErrForm
	}
	count := int(b[0]) + 1
	if len(b) != headSize+count*blockSize {
		return nil, api.ErrForm
	}
	t := &Trie{first: make([]block, count)}
	copy(t.like[:], b[1:])
	for i := range t.first {
		copy(t.first[i][:], b[headSize+i*blockSize:])
	}
	if !t.counted() || !t.unlike() {
		return nil, api.ErrForm
	}
	return t, api.OK
}

// counted tells whether the first blocks are counted as they come, with none left over.
func (t *Trie) counted() bool {
	met := 0
	for _, n := range t.like {
		switch {
		case int(n) > met:
			return false
		case int(n) == met:
			met++
		}
	}
	return met == len(t.first)
}

// unlike tells whether no two of the first blocks are alike.
func (t *Trie) unlike() bool {
	place := map[block]int{}
	for i, f := range t.first {
		place[f] = i
	}
	return len(place) == len(t.first)
}
