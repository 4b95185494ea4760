package trie

import "scansion/api"

// draft is values while entries are put in. Its blocks stay there when no place is like them any more: only at the end is it known which of them are first ones.
type draft struct {
	like   [blockCount]int // of each block: which one of blocks it is like
	blocks []block
	known  map[block]int // where a block stands in blocks
}

// newDraft has the value 0 at all numbers.
func newDraft() *draft {
	d := &draft{known: map[block]int{}}
	d.number(block{})
	return d
}

// number tells where a block stands in the draft's blocks; one that isn't there is put there.
func (d *draft) number(b block) int {
	n, there := d.known[b]
	if !there {
		n = len(d.blocks)
		d.known[b] = n
		d.blocks = append(d.blocks, b)
	}
	return n
}

// put gives the numbers of an entry its value. The blocks that the entry has whole become one and the same, which is looked up once: an entry costs no more than a step for each of them.
func (d *draft) put(p api.Prop) {
	whole := d.number(filled(block{}, 0, blockSize-1, p.Value))
	for i := p.Low / blockSize; i <= p.High/blockSize; i++ {
		low := max(p.Low-i*blockSize, 0)
		high := min(p.High-i*blockSize, blockSize-1)
		if low == 0 && high == blockSize-1 {
			d.like[i] = whole
			continue
		}
		d.like[i] = d.number(filled(d.blocks[d.like[i]], low, high, p.Value))
	}
}

// filled is a block with a value from the place low to the place high.
func filled(b block, low, high int, value byte) block {
	for j := low; j <= high; j++ {
		b[j] = value
	}
	return b
}

// finish is the trie of the draft's values: ErrFull, if a byte is too small for the number of first blocks.
func (d *draft) finish() (*Trie, api.Errno) {
	t := &Trie{}
	place := map[int]int{} // of the draft's blocks among the first ones
	for i, k := range d.like {
		n, there := place[k]
		if !there {
			n = len(t.first)
			if n == maxFirst {
				return nil, api.ErrFull
			}
			place[k] = n
			t.first = append(t.first, d.blocks[k])
		}
		t.like[i] = byte(n)
	}
	return t, api.OK
}
