package entry_test

import (
	"fmt"
	"math"
	"strconv"
	"strings"
	"testing"

	"watchfire/api"
	"watchfire/entry"
)

// right is an entry that stands, which the tests change.
func right() api.Entry { return api.Entry{Key: "k", Time: 5, Origin: 1, Value: "v", Until: 9} }

// changed tells the right entry with something changed.
func changed(change func(e *api.Entry)) api.Entry {
	e := right()
	change(&e)
	return e
}

// keyOf tells the right entry with a key of so many bytes.
func keyOf(n int) api.Entry {
	return changed(func(e *api.Entry) { e.Key = strings.Repeat("k", n) })
}

// valueOf tells the right entry with a value of so many bytes.
func valueOf(n int) api.Entry {
	return changed(func(e *api.Entry) { e.Value = strings.Repeat("v", n) })
}

// lasts tells the right entry with these times.
func lasts(time, until int) api.Entry {
	return changed(func(e *api.Entry) { e.Time, e.Until = time, until })
}

// short tells a text as it may stand in a test's message.
func short(s string) string {
	if len(s) > 60 {
		return fmt.Sprintf("%q..%q (%d bytes)", s[:20], s[len(s)-20:], len(s))
	}
	return strconv.Quote(s)
}

// show tells an entry, likewise.
func show(e api.Entry) string {
	return fmt.Sprintf("{%s %d %d %s %d}", short(e.Key), e.Time, e.Origin, short(e.Value), e.Until)
}

// holdCheck holds what Check answers against what is wanted, and against the chapter's words.
func holdCheck(t *testing.T, e api.Entry, want api.Errno) {
	t.Helper()
	if got := entry.Check(e); got != want {
		t.Errorf("Check(%s) = %d, not %d", show(e), int(got), int(want))
	}
	if words := wantCheck(e); words != want {
		t.Errorf("Check(%s), by words: %d, not %d", show(e), int(words), int(want))
	}
}

// P9.1: how long Key and Value may be, in bytes.
func TestCheckLengths(t *testing.T) {
	holdCheck(t, right(), api.OK)
	holdCheck(t, api.Entry{}, api.ErrLong)
	for n, want := range map[int]api.Errno{0: api.ErrLong, 1: api.OK, 2: api.OK, 1023: api.OK, 1024: api.OK, 1025: api.ErrLong, 8192: api.ErrLong, 70_000: api.ErrLong, 1 << 20: api.ErrLong} {
		holdCheck(t, keyOf(n), want)
	}
	for n, want := range map[int]api.Errno{0: api.OK, 1: api.OK, 1024: api.OK, 1025: api.OK, 8191: api.OK, 8192: api.OK, 8193: api.ErrLong, 65_536: api.ErrLong, 1 << 20: api.ErrLong} {
		holdCheck(t, valueOf(n), want)
	}
	// Two bytes a letter: it is bytes that are counted.
	for n, want := range map[int]api.Errno{512: api.OK, 513: api.ErrLong, 1024: api.ErrLong} {
		holdCheck(t, changed(func(e *api.Entry) { e.Key = strings.Repeat("\u00e4", n) }), want)
	}
	for n, want := range map[int]api.Errno{4096: api.OK, 4097: api.ErrLong, 8192: api.ErrLong} {
		holdCheck(t, changed(func(e *api.Entry) { e.Value = strings.Repeat("\u00e4", n) }), want)
	}
}

// P9.1: Key and Value may have any bytes.
func TestCheckBytes(t *testing.T) {
	for b := range 256 {
		s := string([]byte{byte(b)})
		holdCheck(t, changed(func(e *api.Entry) { e.Key = s }), api.OK)
		holdCheck(t, changed(func(e *api.Entry) { e.Value = s }), api.OK)
		holdCheck(t, changed(func(e *api.Entry) { e.Key, e.Value = strings.Repeat(s, 1024), strings.Repeat(s, 8192) }), api.OK)
	}
}

// P9.1: the edges of Time and Until, and which stand together.
func TestCheckTimes(t *testing.T) {
	const most = 1 << 40
	for _, try := range []struct {
		time, until int
		want        api.Errno
	}{
		{0, 0, api.OK},
		{0, 1, api.OK},
		{0, most, api.OK},
		{1, most, api.OK},
		{most, most, api.OK},
		{most - 1, most - 1, api.OK},
		{most - 1, most, api.OK},
		{5, 5, api.OK},
		{5, 6, api.OK},
		{1 << 31, 1 << 32, api.OK},
		{1<<32 + 5, 1<<32 + 5, api.OK},
		{-1, 9, api.ErrTime},
		{-1, -1, api.ErrTime},
		{-1, 0, api.ErrTime},
		{-5, -4, api.ErrTime},
		{most + 1, most + 1, api.ErrTime},
		{most + 1, most, api.ErrTime},
		{most + 1, most + 2, api.ErrTime},
		{5, 4, api.ErrTime},
		{5, 0, api.ErrTime},
		{5, -1, api.ErrTime},
		{1, 0, api.ErrTime},
		{0, -1, api.ErrTime},
		{most, most - 1, api.ErrTime},
		{1<<32 + 5, 6, api.ErrTime},
		{5, most + 1, api.ErrTime},
		{0, most + 1, api.ErrTime},
		{most, most + 1, api.ErrTime},
		{0, math.MaxInt, api.ErrTime},
		{math.MaxInt, math.MaxInt, api.ErrTime},
		{math.MinInt, 0, api.ErrTime},
		{math.MinInt, math.MaxInt, api.ErrTime},
		{math.MinInt, math.MinInt, api.ErrTime},
		{0, math.MinInt, api.ErrTime},
		{math.MaxInt, math.MinInt, api.ErrTime},
	} {
		holdCheck(t, lasts(try.time, try.until), try.want)
	}
}

// P9.1: each origin may be.
func TestCheckOrigins(t *testing.T) {
	for origin := range 1 << 16 {
		holdCheck(t, changed(func(e *api.Entry) { e.Origin = uint16(origin) }), api.OK)
	}
}

// P9.1, rule 2: of an entry that is wrong in more than one way ErrLong is told, as it is named first; and all edges at once.
func TestCheckWrongInSeveralWays(t *testing.T) {
	for _, key := range []int{0, 1025} {
		for _, times := range [][2]int{{-1, 9}, {5, 4}, {5, 1<<40 + 1}, {1<<40 + 1, 1<<40 + 1}} {
			holdCheck(t, changed(func(e *api.Entry) { e.Key, e.Time, e.Until = strings.Repeat("k", key), times[0], times[1] }), api.ErrLong)
			holdCheck(t, changed(func(e *api.Entry) { e.Value, e.Time, e.Until = strings.Repeat("v", 8193), times[0], times[1] }), api.ErrLong)
		}
		holdCheck(t, changed(func(e *api.Entry) { e.Key, e.Value = strings.Repeat("k", key), strings.Repeat("v", 8193) }), api.ErrLong)
	}
	times := []int{math.MinInt, -1, 0, 1, 1<<40 - 1, 1 << 40, 1<<40 + 1, math.MaxInt}
	for _, key := range []int{0, 1, 1024, 1025} {
		for _, value := range []int{0, 1, 8192, 8193} {
			for _, time := range times {
				for _, until := range times {
					e := api.Entry{Key: strings.Repeat("k", key), Time: time, Value: strings.Repeat("v", value), Until: until}
					holdCheck(t, e, wantCheck(e))
				}
			}
		}
	}
}

// P9.4: whether now is below Until, whatever else the entry has.
func TestCounts(t *testing.T) {
	for _, try := range []struct {
		until, now int
		want       bool
	}{
		{9, 8, true},
		{9, 9, false},
		{9, 10, false},
		{9, 5, true},
		{9, 4, true},
		{9, 0, true},
		{9, -1, true},
		{0, -1, true},
		{0, 0, false},
		{0, 1, false},
		{1 << 40, 1<<40 - 1, true},
		{1 << 40, 1 << 40, false},
		{1 << 40, 1<<40 + 1, false},
		{1<<32 + 9, 9, true},
		{1<<32 + 9, 1<<32 + 8, true},
		{9, 1<<32 + 8, false},
		{-5, -6, true},
		{-5, -5, false},
		{-5, 0, false},
		{math.MaxInt, math.MinInt, true},
		{math.MaxInt, math.MaxInt - 1, true},
		{math.MaxInt, math.MaxInt, false},
		{math.MinInt, math.MaxInt, false},
		{math.MinInt, math.MinInt, false},
		{math.MinInt + 1, math.MinInt, true},
	} {
		for _, e := range []api.Entry{{}, right(), keyOf(1025), lasts(-1, 0), lasts(1<<40, 0), {Key: "k", Time: math.MaxInt, Origin: 65535}} {
			e.Until = try.until
			if got := entry.Counts(e, try.now); got != try.want {
				t.Errorf("Counts(until %d, %d) = %v", try.until, try.now, got)
			}
		}
	}
}
