package regex

import "math/bits"

// place is where a pattern takes one byte. A pattern has at most MaxPattern (64) places, as each one stands on bytes of
// its own there: so the bits of one word are a choice among them.
type place struct {
	takes set
	next  uint64 // the places that may take the byte behind
}

// piece is some of a pattern: the places that may take the first byte and the last one of a text that is like it, and
// whether nothing is.
type piece struct {
	first, last uint64
	empty       bool
}

// place adds a place that takes one byte of a set.
func (r *Regex) place(takes set) piece {
	bit := uint64(1) << len(r.places)
	r.places = append(r.places, place{takes: takes})
	return piece{first: bit, last: bit}
}

// link lets some places follow on others.
func (r *Regex) link(from, to uint64) {
	for ; from != 0; from &= from - 1 {
		r.places[bits.TrailingZeros64(from)].next |= to
	}
}

// join tells one piece with another behind it.
func (r *Regex) join(a, b piece) piece {
	r.link(a.last, b.first)
	both := piece{first: a.first, last: b.last, empty: a.empty && b.empty}
	if a.empty {
		both.first |= b.first
	}
	if b.empty {
		both.last |= a.last
	}
	return both
}

// repeat tells a piece one or more times.
func (r *Regex) repeat(a piece) piece {
	r.link(a.last, a.first)
	return a
}

// either tells one piece or another.
func either(a, b piece) piece {
	return piece{first: a.first | b.first, last: a.last | b.last, empty: a.empty || b.empty}
}

// maybe tells a piece or nothing.
func maybe(a piece) piece {
	a.empty = true
	return a
}
