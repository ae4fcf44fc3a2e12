package regex

import "watchfire/api"

// reader goes through a pattern, and lays its places as it goes.
type reader struct {
	regex   *Regex
	pattern string
	at      int
}

// read reads a whole pattern of at most MaxPattern bytes.
func read(pattern string) (r *Regex, err api.Errno) {
	defer func() {
		fault := recover()
		if e, ok := fault.(api.Errno); ok {
			r, err = nil, e
		} else if fault != nil {
			// No pattern was given up here: to answer one would hide a mistake of this package.
			panic(fault)
		}
	}()
	rd := reader{regex: &Regex{}, pattern: pattern}
	rd.regex.whole = rd.rows()
	if rd.at < len(pattern) {
		giveUp()
	}
	return rd.regex, api.OK
}

// giveUp leaves a pattern that is none, from however deep within it.
func giveUp() { panic(api.ErrPattern) }

// take tells the next byte, which must be there.
func (rd *reader) take() byte {
	if rd.at == len(rd.pattern) {
		giveUp()
	}
	rd.at++
	return rd.pattern[rd.at-1]
}

// sees tells whether a byte is the next one.
func (rd *reader) sees(b byte) bool { return rd.at < len(rd.pattern) && rd.pattern[rd.at] == b }

// skip goes beyond a byte, if it is the next one, and tells whether it was.
func (rd *reader) skip(b byte) bool {
	seen := rd.sees(b)
	if seen {
		rd.at++
	}
	return seen
}

// rows reads rows with | between, up to what can't be one of them.
func (rd *reader) rows() piece {
	all := rd.row()
	for rd.skip('|') {
		all = either(all, rd.row())
	}
	return all
}

// row reads parts, up to where a row may end.
func (rd *reader) row() piece {
	all := piece{empty: true}
	for rd.at < len(rd.pattern) && !rd.sees('|') && !rd.sees(')') {
		all = rd.regex.join(all, rd.part())
	}
	return all
}

// part reads an atom, and what stands behind it.
func (rd *reader) part() piece {
	p := rd.atom()
	for {
		switch {
		case rd.skip('*'):
			p = maybe(rd.regex.repeat(p))
		case rd.skip('+'):
			p = rd.regex.repeat(p)
		case rd.skip('?'):
			p = maybe(p)
		default:
			return p
		}
	}
}

func (rd *reader) atom() piece {
	b := rd.take()
	switch {
	case b == '(':
		return rd.inner()
	case b == '[':
		return rd.regex.place(rd.set())
	case b == '.':
		return rd.regex.place(set{}.others())
	case b == '\\':
		b = rd.take()
	case isSpecial(b):
		giveUp()
	}
	var one set
	one.add(b, b)
	return rd.regex.place(one)
}

// inner reads what is behind a (, and the ) behind that.
func (rd *reader) inner() piece {
	p := rd.rows()
	if !rd.skip(')') {
		giveUp()
	}
	return p
}

// set reads what is behind a [, and the ] behind that.
func (rd *reader) set() set {
	var s set
	not := rd.skip('^')
	rd.item(&s)
	for !rd.skip(']') {
		rd.item(&s)
	}
	if not {
		return s.others()
	}
	return s
}

// item reads an item into a set.
func (rd *reader) item(s *set) {
	from := rd.setByte()
	to := from
	if rd.seesRange() {
		rd.at++
		to = rd.setByte()
	}
	if from > to {
		giveUp()
	}
	s.add(from, to)
}

// seesRange tells whether, behind a byte of an item, a - comes that has the item's second byte behind it.
func (rd *reader) seesRange() bool {
	return rd.sees('-') && rd.at+1 < len(rd.pattern) && rd.pattern[rd.at+1] != ']'
}

// setByte reads a byte of an item.
func (rd *reader) setByte() byte {
	b := rd.take()
	if b == ']' {
		giveUp()
	}
	if b == '\\' {
		return rd.take()
	}
	return b
}
