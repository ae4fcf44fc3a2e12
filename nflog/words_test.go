package nflog_test

import (
	"fmt"
	"math"
	"math/big"
	"regexp"
	"strconv"
	"strings"
	"testing"

	"watchfire/api"
	"watchfire/nflog"
)

const (
	most = 1 << 40

	fire  = "l1:ai1ee"          // one fires
	other = "l1:bi1ee"          // another one fires
	both  = "l1:ai1e1:bi0ee"    // one fires, and one does not
	calm  = "l1:ai0ee"          // none fires
	still = "l1:ai0e1:bi0ee"    // none of two fires
	wrong = "l1:ai1ee and more" // no revision
)

// right is a sending that may be, which the tests change.
func right() api.Send {
	return api.Send{Receiver: "r", Key: "g", Revision: fire, At: 5}
}

// to tells the right sending with another Receiver and Key.
func to(receiver, key string) api.Send {
	s := right()
	s.Receiver, s.Key = receiver, key
	return s
}

// says tells it with another Revision.
func says(revision string) api.Send {
	s := right()
	s.Revision = revision
	return s
}

// at tells it with another At.
func at(time int) api.Send {
	s := right()
	s.At = time
	return s
}

// xs tells a text of so many bytes.
func xs(n int) string { return strings.Repeat("x", n) }

// short tells a text as it may stand in a test's message.
func short(s string) string {
	if len(s) > 100 {
		return fmt.Sprintf("%q..%q (%d bytes)", s[:40], s[len(s)-40:], len(s))
	}
	return strconv.Quote(s)
}

// show tells a sending, likewise.
func show(s api.Send) string {
	return fmt.Sprintf("{%s %s %s %d}", short(s.Receiver), short(s.Key), short(s.Revision), s.At)
}

// showEntry tells an entry, likewise.
func showEntry(e api.Entry) string {
	return fmt.Sprintf("{%s %d %d %s %d}", short(e.Key), e.Time, e.Origin, short(e.Value), e.Until)
}

// tell makes a sending's entry, which must be told.
func tell(t testing.TB, s api.Send, origin uint16, keep int) api.Entry {
	t.Helper()
	e, err := nflog.Entry(s, origin, keep)
	if err != api.OK {
		t.Fatalf("Entry(%s, %d, %d): error %d", show(s), origin, keep, int(err))
	}
	return e
}

// wantKey tells P12.1's words.
func wantKey(receiver, group string) string {
	return fmt.Sprintf("nl%d:%s%d:%se", len(receiver), receiver, len(group), group)
}

// together tells two numbers' sum, which may be one of more than 64 bits.
func together(a, b int) *big.Int {
	return new(big.Int).Add(big.NewInt(int64(a)), big.NewInt(int64(b)))
}

// wantEntry tells P12.2's words.
func wantEntry(s api.Send, origin uint16, keep int) (api.Entry, api.Errno) {
	key := wantKey(s.Receiver, s.Key)
	until := together(s.At, keep)
	switch {
	case s.Receiver == "", s.Key == "":
		return api.Entry{}, api.ErrArg
	case len(key) > 1024, len(s.Revision) > 8192:
		return api.Entry{}, api.ErrLong
	case s.At < 0, keep < 0, until.Cmp(big.NewInt(1099511627776)) > 0:
		return api.Entry{}, api.ErrTime
	}
	return api.Entry{Key: key, Time: s.At, Origin: origin, Value: s.Revision, Until: int(until.Int64())}, api.OK
}

var aLength = regexp.MustCompile(`\A(0|[1-9][0-9]*):`)

// cutText tells the text that s begins with, and what is behind it.
func cutText(s string) (text, rest string, ok bool) {
	found := aLength.FindStringSubmatch(s)
	if found == nil {
		return "", "", false
	}
	rest = s[len(found[0]):]
	long, _ := new(big.Int).SetString(found[1], 10)
	if long.Cmp(big.NewInt(int64(len(rest)))) > 0 {
		return "", "", false
	}
	return rest[:long.Int64()], rest[long.Int64():], true
}

// wantOf tells P12.3's words: what the key tells, if there is a keep with which the sending may be told.
func wantOf(e api.Entry) (api.Send, bool) {
	rest, ok1 := strings.CutPrefix(e.Key, "nl")
	receiver, rest, ok2 := cutText(rest)
	key, rest, ok3 := cutText(rest)
	switch {
	case !ok1, !ok2, !ok3, rest != "e", receiver == "", key == "":
		return api.Send{}, false
	case len(e.Key) > 1024, len(e.Value) > 8192:
		return api.Send{}, false
	case e.Time < 0, e.Until < e.Time, e.Until > 1099511627776:
		return api.Send{}, false
	}
	return api.Send{Receiver: receiver, Key: key, Revision: e.Value, At: e.Time}, true
}

var aState = regexp.MustCompile(`\Ai([01])e`)

// wantFires tells whether something fires in a revision, by the words of P8.4: texts and numbers 0 and 1 by turns, and a one among these.
func wantFires(revision string) bool {
	rest, ok := strings.CutPrefix(revision, "l")
	if !ok {
		return false
	}
	fires := false
	for rest != "e" {
		_, behind, ok := cutText(rest)
		state := aState.FindStringSubmatch(behind)
		if !ok || state == nil {
			return false
		}
		fires = fires || state[1] == "1"
		rest = behind[len(state[0]):]
	}
	return fires
}

// wantNeed tells P12.4's words.
func wantNeed(last api.Entry, was bool, revision string, now, repeat int) bool {
	switch {
	case !was:
		return wantFires(revision)
	case last.Time > now:
		return false
	case last.Value != revision:
		return wantFires(last.Value) || wantFires(revision)
	}
	for _, n := range []int{last.Time, now, repeat} {
		if n < 0 || n > 1099511627776 {
			return false
		}
	}
	return wantFires(revision) && big.NewInt(int64(now)).Cmp(together(last.Time, repeat)) >= 0
}

// holdKey holds what Key tells against what is wanted, and against the chapter's words.
func holdKey(t *testing.T, receiver, group, want string) {
	t.Helper()
	if got := nflog.Key(receiver, group); got != want {
		t.Errorf("Key(%s, %s) = %s, not %s", short(receiver), short(group), short(got), short(want))
	}
	if words := wantKey(receiver, group); words != want {
		t.Errorf("Key(%s, %s), by words: %s, not %s", short(receiver), short(group), short(words), short(want))
	}
}

// holdEntry holds what Entry answers against what is wanted, and against the chapter's words.
func holdEntry(t *testing.T, s api.Send, origin uint16, keep int, want api.Entry, wantErr api.Errno) {
	t.Helper()
	if got, err := nflog.Entry(s, origin, keep); got != want || err != wantErr {
		t.Errorf("Entry(%s, %d, %d) = %s, %d, not %s, %d", show(s), origin, keep, showEntry(got), int(err), showEntry(want), int(wantErr))
	}
	if words, err := wantEntry(s, origin, keep); words != want || err != wantErr {
		t.Errorf("Entry(%s, %d, %d), by words: %s, %d, not %s, %d", show(s), origin, keep, showEntry(words), int(err), showEntry(want), int(wantErr))
	}
}

// holdOf holds what Of tells of an entry against the chapter's words, and tells whether there is a sending. There is one just if Entry tells the entry of it.
func holdOf(t *testing.T, e api.Entry) bool {
	t.Helper()
	want, wantOK := wantOf(e)
	got, ok := nflog.Of(e)
	if ok != wantOK || got != want {
		t.Fatalf("Of(%s) = %s, %v, not %s, %v", showEntry(e), show(got), ok, show(want), wantOK)
	}
	if !ok {
		return false
	}
	if again, err := nflog.Entry(got, e.Origin, e.Until-e.Time); err != api.OK || again != e {
		t.Fatalf("Entry(%s, %d, %d) = %s, %d, not %s", show(got), e.Origin, e.Until-e.Time, showEntry(again), int(err), showEntry(e))
	}
	return true
}

// holdNone holds that an entry has no sending.
func holdNone(t *testing.T, e api.Entry) {
	t.Helper()
	if s, ok := nflog.Of(e); ok || s != (api.Send{}) {
		t.Errorf("Of(%s) = %s, %v", showEntry(e), show(s), ok)
	}
	if s, ok := wantOf(e); ok {
		t.Errorf("Of(%s), by words: %s", showEntry(e), show(s))
	}
}

// holdNeed holds what Need answers against what is wanted, and against the chapter's words.
func holdNeed(t *testing.T, last api.Entry, was bool, revision string, now, repeat int, want bool) {
	t.Helper()
	if got := nflog.Need(last, was, revision, now, repeat); got != want {
		t.Errorf("Need(%s, %v, %s, %d, %d) = %v", showEntry(last), was, short(revision), now, repeat, got)
	}
	if words := wantNeed(last, was, revision, now, repeat); words != want {
		t.Errorf("Need(%s, %v, %s, %d, %d), by words: %v", showEntry(last), was, short(revision), now, repeat, words)
	}
}

// edges are numbers at which times end, and at which numbers do.
var edges = []int{
	math.MinInt, math.MinInt + 1, -most - 1, -most, -1 << 32, -11, -1, 0, 1, 4, 5, 6, 14, 15, 16,
	1 << 31, 1 << 32, 1<<32 + 5, most - 6, most - 5, most - 4, most - 1, most, most + 1, most + 5, 1 << 62, math.MaxInt - 5, math.MaxInt - 1, math.MaxInt,
}

// some tells sendings that may be, at the edges that the chapter names.
func some() []api.Send {
	l := []api.Send{
		right(), to("g", "r"), to("e", "e"), to("l", "1:"), to("1:r", "1:g"), to("r1:ge", "g"), to("n", "nl1:r1:ge"), to("page", "li0e3:job1:xe"),
		to(xs(9), xs(10)), to(xs(99), xs(100)), to(xs(10), xs(9)), to(xs(100), xs(99)), to("r", xs(1013)), to(xs(1013), "g"), to(xs(500), xs(513)), to(xs(999), xs(15)),
		says(""), says(calm), says(both), says(wrong), says("le"), says("\x00\xff"), says(xs(8191)), says(xs(8192)),
		at(0), at(1), at(1<<32 + 5), at(most - 1), at(most),
		{Receiver: "\x00", Key: "\xff", Revision: "\n", At: 0}, {Receiver: xs(500), Key: xs(513), Revision: xs(8192), At: most},
	}
	for b := range 256 {
		one := string([]byte{byte(b)})
		l = append(l, to(one, "g"), to("r", one), says(one))
	}
	return l
}
