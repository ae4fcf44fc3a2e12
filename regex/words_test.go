package regex_test

// This file holds the chapter's words as they stand, without any thought of time: what is a pattern, and what is like it.

// span is some of a pattern, and some of a text.
type span struct{ from, to, begin, end int }

// words asks the chapter about one pattern and one text.
type words struct {
	pattern, text string
	known         map[span]uint8 // 1: is like the rows, 2: is not, 0: was not asked
}

// wantPattern tells whether a text is a pattern.
func wantPattern(pattern string) bool {
	w := words{pattern: pattern}
	return w.isRows(0, len(pattern))
}

// wantLike tells whether a text is like a pattern that is one.
func wantLike(pattern, text string) bool {
	w := words{pattern: pattern, text: text, known: map[span]uint8{}}
	return w.likeRows(span{0, len(pattern), 0, len(text)})
}

// bar tells where the first row of some of the pattern ends: at the first | that stands in no brackets, or at the end.
func (w *words) bar(from, to int) int {
	for at := from; at < to; {
		if w.pattern[at] == '|' {
			return at
		}
		end := w.atomEnd(at, to)
		if end < 0 {
			end = at + 1
		}
		at = end
	}
	return to
}

func (w *words) isRows(from, to int) bool {
	at := w.bar(from, to)
	return w.isRow(from, at) && (at == to || w.isRows(at+1, to))
}

func (w *words) isRow(from, to int) bool {
	if from == to {
		return true
	}
	end := w.atomEnd(from, to)
	return end >= 0 && w.isRow(w.partEnd(end, to), to)
}

// partEnd tells where a part ends whose atom ended.
func (w *words) partEnd(at, to int) int {
	for at < to && isSign(w.pattern[at]) {
		at++
	}
	return at
}

func isSign(b byte) bool { return b == '*' || b == '+' || b == '?' }

// atomEnd tells where the atom ends that stands at a place, or -1, if none does.
func (w *words) atomEnd(at, to int) int {
	switch w.pattern[at] {
	case '(':
		for end := at + 2; end <= to; end++ {
			if w.pattern[end-1] == ')' && w.isRows(at+1, end-1) {
				return end
			}
		}
		return -1
	case '[':
		for end := at + 2; end <= to; end++ {
			if _, ok := setItems(w.pattern[at:end]); ok {
				return end
			}
		}
		return -1
	case '\\':
		if at+2 > to {
			return -1
		}
		return at + 2
	case ')', ']', '|', '*', '+', '?':
		return -1
	}
	return at + 1
}

// setByte is a byte of a set, and whether a \ stood ahead of it.
type setByte struct {
	b      byte
	quoted bool
}

// setItems tells the items of a set, each as its first byte and its last one, and whether it is a set.
func setItems(s string) (items [][2]byte, ok bool) {
	if len(s) < 3 || s[0] != '[' || s[len(s)-1] != ']' {
		return nil, false
	}
	inner := s[1 : len(s)-1]
	if inner[0] == '^' {
		inner = inner[1:]
	}
	var l []setByte
	for len(inner) > 0 {
		b := setByte{b: inner[0]}
		if b.b == '\\' {
			if len(inner) == 1 {
				return nil, false
			}
			inner, b = inner[1:], setByte{inner[1], true}
		} else if b.b == ']' {
			return nil, false
		}
		inner, l = inner[1:], append(l, b)
	}
	for len(l) > 0 {
		if len(l) > 2 && l[1] == (setByte{b: '-'}) {
			items, l = append(items, [2]byte{l[0].b, l[2].b}), l[3:]
		} else {
			items, l = append(items, [2]byte{l[0].b, l[0].b}), l[1:]
		}
	}
	for _, item := range items {
		if item[0] > item[1] {
			return nil, false
		}
	}
	return items, len(items) > 0
}

func (w *words) likeRows(s span) bool {
	if w.known[s] == 0 {
		w.known[s] = 2
		at := w.bar(s.from, s.to)
		if w.likeRow(span{s.from, at, s.begin, s.end}) || at < s.to && w.likeRows(span{at + 1, s.to, s.begin, s.end}) {
			w.known[s] = 1
		}
	}
	return w.known[s] == 1
}

// likeRow: the text is cut behind what is like the first part, in each way.
func (w *words) likeRow(s span) bool {
	if s.from == s.to {
		return s.begin == s.end
	}
	atom := w.atomEnd(s.from, s.to)
	part := w.partEnd(atom, s.to)
	for cut := s.begin; cut <= s.end; cut++ {
		if w.likePart(span{s.from, part, s.begin, cut}, atom) && w.likeRow(span{part, s.to, cut, s.end}) {
			return true
		}
	}
	return false
}

// likePart: the last sign says.
func (w *words) likePart(s span, atom int) bool {
	if s.to == atom {
		return w.likeAtom(s)
	}
	inner := s
	inner.to--
	switch w.pattern[s.to-1] {
	case '?':
		return s.begin == s.end || w.likePart(inner, atom)
	case '*':
		return s.begin == s.end || w.likeSome(inner, atom)
	}
	return w.likeSome(inner, atom)
}

// likeSome: one text or more. Of several, those of no byte say nothing, but that the part is like nothing.
func (w *words) likeSome(s span, atom int) bool {
	if w.likePart(s, atom) {
		return true
	}
	for cut := s.begin + 1; cut < s.end; cut++ {
		if w.likePart(span{s.from, s.to, s.begin, cut}, atom) && w.likeSome(span{s.from, s.to, cut, s.end}, atom) {
			return true
		}
	}
	return false
}

func (w *words) likeAtom(s span) bool {
	if w.pattern[s.from] == '(' {
		return w.likeRows(span{s.from + 1, s.to - 1, s.begin, s.end})
	}
	if s.end != s.begin+1 {
		return false
	}
	b := w.text[s.begin]
	switch w.pattern[s.from] {
	case '.':
		return true
	case '\\':
		return b == w.pattern[s.from+1]
	case '[':
		return inSet(w.pattern[s.from:s.to], b)
	}
	return b == w.pattern[s.from]
}

func inSet(s string, b byte) bool {
	items, _ := setItems(s)
	not := s[1] == '^'
	for _, item := range items {
		if item[0] <= b && b <= item[1] {
			return !not
		}
	}
	return not
}
