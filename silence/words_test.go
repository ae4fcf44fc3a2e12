package silence_test

import (
	"fmt"
	"math/big"
	"regexp"
	"slices"
	"strconv"
	"strings"
	"testing"

	"watchfire/api"
	"watchfire/match"
	"watchfire/silence"
)

const most = 1 << 40

// is makes a matcher.
func is(name string, op api.Op, value string) api.Matcher {
	return api.Matcher{Name: name, Op: op, Value: value}
}

// right is a silence that may be, which the tests change.
func right() api.Silence {
	return api.Silence{ID: "x", Matchers: []api.Matcher{is("a", api.Is, "1")}, Start: 2, End: 9}
}

// named tells the right silence with another ID.
func named(id string) api.Silence {
	s := right()
	s.ID = id
	return s
}

// asks tells it with other matchers.
func asks(l ...api.Matcher) api.Silence {
	s := right()
	s.Matchers = l
	return s
}

// lasts tells it with other times.
func lasts(start, end int) api.Silence {
	s := right()
	s.Start, s.End = start, end
	return s
}

// short tells a text as it may stand in a test's message.
func short(s string) string {
	if len(s) > 100 {
		return fmt.Sprintf("%q..%q (%d bytes)", s[:40], s[len(s)-40:], len(s))
	}
	return strconv.Quote(s)
}

// show tells a silence, likewise.
func show(s api.Silence) string {
	var texts []string
	for _, m := range s.Matchers[:min(len(s.Matchers), 12)] {
		texts = append(texts, fmt.Sprintf("%s %d %s", short(m.Name), m.Op, short(m.Value)))
	}
	return fmt.Sprintf("{%s [%d: %s] %d %d}", short(s.ID), len(s.Matchers), strings.Join(texts, ", "), s.Start, s.End)
}

// showEntry tells an entry, likewise.
func showEntry(e api.Entry) string {
	return fmt.Sprintf("{%s %d %d %s %d}", short(e.Key), e.Time, e.Origin, short(e.Value), e.Until)
}

// isZero tells whether nothing is in a silence.
func isZero(s api.Silence) bool {
	return s.ID == "" && len(s.Matchers) == 0 && s.Start == 0 && s.End == 0
}

// equal tells whether two silences are the same in all fields, without asking the package.
func equal(a, b api.Silence) bool {
	if len(a.Matchers) != len(b.Matchers) {
		return false
	}
	for i, m := range a.Matchers {
		if m != b.Matchers[i] {
			return false
		}
	}
	return a.ID == b.ID && a.Start == b.Start && a.End == b.End
}

// tell makes a silence's entry, which must be told.
func tell(t testing.TB, s api.Silence, time int, origin uint16) api.Entry {
	t.Helper()
	e, err := silence.Entry(s, time, origin)
	if err != api.OK {
		t.Fatalf("Entry(%s, %d, %d): error %d", show(s), time, origin, int(err))
	}
	return e
}

var aName = regexp.MustCompile(`\A[a-z_][a-z_0-9]{0,15}\z`)

// wantCheck tells P11.1's words.
func wantCheck(s api.Silence) api.Errno {
	switch ofMatchers := match.CheckAll(s.Matchers); {
	case !aName.MatchString(s.ID):
		return api.ErrName
	case ofMatchers != api.OK:
		return ofMatchers
	case len(s.Matchers) == 0:
		return api.ErrArg
	case s.Start < 0, s.End < s.Start, s.End > 1099511627776:
		return api.ErrTime
	}
	return api.OK
}

// wantValue tells the bytes of a silence, by the words of P11.2 and of P1.1.
func wantValue(s api.Silence) string {
	b := "l"
	for _, m := range s.Matchers {
		b += fmt.Sprintf("%d:%si%de%d:%s", len(m.Name), m.Name, m.Op, len(m.Value), m.Value)
	}
	return b + fmt.Sprintf("i%dei%dee", s.Start, s.End)
}

// wantEntry tells P11.2's words.
func wantEntry(s api.Silence, time int, origin uint16) (api.Entry, api.Errno) {
	if err := wantCheck(s); err != api.OK {
		return api.Entry{}, err
	}
	if time < 0 || time > 1099511627776 {
		return api.Entry{}, api.ErrTime
	}
	until := s.End
	if time > until {
		until = time
	}
	return api.Entry{Key: "s" + s.ID, Time: time, Origin: origin, Value: wantValue(s), Until: until}, api.OK
}

var (
	aNumber = regexp.MustCompile(`\Ai(0|-?[1-9][0-9]*)e`)
	aLength = regexp.MustCompile(`\A(0|[1-9][0-9]*):`)
)

// cutNumber tells the number of 64 bits that s begins with, and what is behind it.
func cutNumber(s string) (n int, rest string, ok bool) {
	found := aNumber.FindStringSubmatch(s)
	if found == nil {
		return 0, "", false
	}
	great, _ := new(big.Int).SetString(found[1], 10)
	return int(great.Int64()), s[len(found[0]):], great.IsInt64()
}

// cutText tells the text that s begins with, and what is behind it.
func cutText(s string) (text, rest string, ok bool) {
	found := aLength.FindStringSubmatch(s)
	if found == nil {
		return "", "", false
	}
	rest = s[len(found[0]):]
	long, _ := new(big.Int).SetString(found[1], 10)
	if long.Cmp(big.NewInt(int64(len(rest)))) > 0 {
		return "", "", false
	}
	return rest[:long.Int64()], rest[long.Int64():], true
}

// cutMatcher tells the matcher that s begins with, and what is behind it.
func cutMatcher(s string) (m api.Matcher, rest string, ok bool) {
	name, rest, ok1 := cutText(s)
	op, rest, ok2 := cutNumber(rest)
	value, rest, ok3 := cutText(rest)
	return is(name, api.Op(op), value), rest, ok1 && ok2 && ok3 && op >= 0 && op <= 255
}

// wantOf tells P11.3's words: the silence that the entry's bytes tell, if it may be, and has this Until.
func wantOf(e api.Entry) (api.Silence, bool) {
	id, isSilence := strings.CutPrefix(e.Key, "s")
	rest, isList := strings.CutPrefix(e.Value, "l")
	if !isSilence || !isList {
		return api.Silence{}, false
	}
	s := api.Silence{ID: id}
	for {
		m, behind, ok := cutMatcher(rest)
		if !ok {
			break
		}
		s.Matchers, rest = append(s.Matchers, m), behind
	}
	var ok1, ok2 bool
	s.Start, rest, ok1 = cutNumber(rest)
	s.End, rest, ok2 = cutNumber(rest)
	if !ok1 || !ok2 || rest != "e" || wantCheck(s) != api.OK || e.Time < 0 || e.Time > 1099511627776 || e.Until != max(s.End, e.Time) {
		return api.Silence{}, false
	}
	return s, true
}

// holdOf holds what Of tells of an entry against the chapter's words, and tells whether there is a silence. There is one just if Entry tells the entry of it.
func holdOf(t *testing.T, e api.Entry) bool {
	t.Helper()
	want, wantOK := wantOf(e)
	got, ok := silence.Of(e)
	if ok != wantOK || !equal(got, want) {
		t.Fatalf("Of(%s) = %s, %v, not %s, %v", showEntry(e), show(got), ok, show(want), wantOK)
	}
	if !ok {
		return false
	}
	if again, err := silence.Entry(got, e.Time, e.Origin); err != api.OK || again != e {
		t.Fatalf("Entry(%s, %d, %d) = %s, %d, not %s", show(got), e.Time, e.Origin, showEntry(again), int(err), showEntry(e))
	}
	return true
}

// many tells so many right matchers.
func many(n int) []api.Matcher {
	return slices.Repeat([]api.Matcher{is("a", api.Like, "1|2")}, n)
}

// some tells silences that may be, at the edges that the chapters name.
func some() []api.Silence {
	l := []api.Silence{
		right(), named("_"), named("s"), named("sx"), named("i2e"), named("abcdefghijklmnop"), named("a234567890123456"),
		lasts(0, 0), lasts(0, 1), lasts(5, 5), lasts(0, most), lasts(most-1, most), lasts(most, most), lasts(1<<32+2, 1<<33+9),
		asks(many(8)...), asks(is("abcdefghijklmnop", api.NotLike, strings.Repeat("v", 64))),
		asks(is("a", api.Is, ""), is("a", api.IsNot, ""), is("a", api.Like, ""), is("a", api.NotLike, "")),
		asks(is("b", api.Is, "2"), is("a", api.Is, "1")), asks(is("a", api.Is, "1"), is("b", api.Is, "2")),
		asks(is("i", api.Is, "i2ei9ee"), is("e", api.IsNot, "1:ai0e1:1"), is("l", api.Is, "e")),
		asks(is("a", api.Is, "(")), asks(is("a", api.Like, `\(`)), asks(is("a", api.Is, strings.Repeat("\x00", 64))),
		{ID: strings.Repeat("_", 16), Matchers: slices.Repeat([]api.Matcher{is(strings.Repeat("z", 16), api.NotLike, strings.Repeat("\xff", 64))}, 8), Start: most, End: most},
	}
	for b := range 256 {
		l = append(l, asks(is("a", api.IsNot, string([]byte{byte(b)}))))
	}
	return l
}
