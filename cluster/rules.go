package cluster

import "scansion/ucd"

// The kinds of ucd's Cluster, in its order. Values that data has beyond them are like Other.
const (
	_ = iota // Other, which no rule names
	carriageReturn
	lineFeed
	control
	extend
	joiner
	regional
	prepend
	spacingMark
	lead
	vowel
	tail
	leadVowel
	leadVowelTail
)

// ends tells whether a cluster ends at the place i, by the first rule that says something.
//
// A cluster ends at the place last, too, which is at most i. Regional indicators are counted from there on: those ahead of it, if they reach up to it, are an even number, so that none need be counted again and again for each place of a long run.
func ends(d *ucd.Data, l []int, last, i int) bool {
	if i == 0 || i == len(l) {
		return true
	}
	ahead, behind := d.Cluster(l[i-1]), d.Cluster(l[i])
	switch {
	case ahead == carriageReturn && behind == lineFeed:
		return false
	case standsAlone(ahead), standsAlone(behind):
		return true
	case isSyllable(ahead, behind), isMark(behind), ahead == prepend:
		return false
	case ahead == joiner && d.Picto(l[i]):
		return !joinsPicture(d, l[:i-1])
	case ahead == regional && behind == regional:
		return regionals(d, l[last:i])%2 == 0
	}
	return true
}

func standsAlone(kind int) bool {
	return kind == carriageReturn || kind == lineFeed || kind == control
}

func isMark(kind int) bool {
	return kind == extend || kind == joiner || kind == spacingMark
}

// isSyllable tells whether two parts of Hangul's syllables belong to one syllable.
func isSyllable(ahead, behind int) bool {
	switch ahead {
	case lead:
		return behind == lead || behind == vowel || behind == leadVowel || behind == leadVowelTail
	case vowel, leadVowel:
		return behind == vowel || behind == tail
	case tail, leadVowelTail:
		return behind == tail
	}
	return false
}

// joinsPicture tells whether what stands ahead of a joiner ends with a picture and any number of Extend behind it. The picture is asked for first, since data may have one that is an Extend as well.
func joinsPicture(d *ucd.Data, l []int) bool {
	found := false
signs:
	for i := len(l) - 1; i >= 0; i-- {
		switch {
		case d.Picto(l[i]):
			found = true
			break signs
		case d.Cluster(l[i]) != extend:
			break signs
		}
	}
	return found
}

// regionals is how many regional indicators l ends with.
func regionals(d *ucd.Data, l []int) int {
	count := 0
signs:
	for i := len(l) - 1; i >= 0; i-- {
		switch d.Cluster(l[i]) {
		case regional:
			count++
		default:
			break signs
		}
	}
	return count
}
