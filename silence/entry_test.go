package silence_test

import (
	"math"
	"slices"
	"strings"
	"testing"

	"watchfire/api"
	"watchfire/entry"
	"watchfire/silence"
)

// holdEntry holds what Entry answers against what is wanted, and against the chapter's words.
func holdEntry(t *testing.T, s api.Silence, time int, origin uint16, want api.Entry, wantErr api.Errno) {
	t.Helper()
	if got, err := silence.Entry(s, time, origin); got != want || err != wantErr {
		t.Errorf("Entry(%s, %d, %d) = %s, %d, not %s, %d", show(s), time, origin, showEntry(got), int(err), showEntry(want), int(wantErr))
	}
	if words, err := wantEntry(s, time, origin); words != want || err != wantErr {
		t.Errorf("Entry(%s, %d, %d), by words: %s, %d, not %s, %d", show(s), time, origin, showEntry(words), int(err), showEntry(want), int(wantErr))
	}
}

// P11.2: the chapter's example.
func TestEntryExample(t *testing.T) {
	holdEntry(t, right(), 3, 4, api.Entry{Key: "sx", Time: 3, Origin: 4, Value: "l1:ai0e1:1i2ei9ee", Until: 9}, api.OK)
}

// P11.2: keys and values, written out: one matcher and many, each Op, values with any bytes, times at their edges.
func TestEntryBytes(t *testing.T) {
	for _, try := range []struct {
		s          api.Silence
		key, value string
	}{
		{named("s"), "ss", "l1:ai0e1:1i2ei9ee"},
		{named("_"), "s_", "l1:ai0e1:1i2ei9ee"},
		{named("abcdefghijklmnop"), "sabcdefghijklmnop", "l1:ai0e1:1i2ei9ee"},
		{asks(is("a", api.IsNot, "1")), "sx", "l1:ai1e1:1i2ei9ee"},
		{asks(is("a", api.Like, "1|2")), "sx", "l1:ai2e3:1|2i2ei9ee"},
		{asks(is("a", api.NotLike, ".*")), "sx", "l1:ai3e2:.*i2ei9ee"},
		{asks(is("a", api.Is, "")), "sx", "l1:ai0e0:i2ei9ee"},
		{asks(is("job_1", api.Is, "\x00\xffe")), "sx", "l5:job_1i0e3:\x00\xffei2ei9ee"},
		{asks(is("b", api.Is, "2"), is("a", api.NotLike, "x"), is("b", api.Is, "2")), "sx", "l1:bi0e1:21:ai3e1:x1:bi0e1:2i2ei9ee"},
		{asks(many(8)...), "sx", "l" + strings.Repeat("1:ai2e3:1|2", 8) + "i2ei9ee"},
		{asks(is("abcdefghijklmnop", api.Is, strings.Repeat("v", 64))), "sx", "l16:abcdefghijklmnopi0e64:" + strings.Repeat("v", 64) + "i2ei9ee"},
	} {
		holdEntry(t, try.s, 3, 4, api.Entry{Key: try.key, Time: 3, Origin: 4, Value: try.value, Until: 9}, api.OK)
	}
	holdEntry(t, lasts(0, 0), 0, 0, api.Entry{Key: "sx", Value: "l1:ai0e1:1i0ei0ee"}, api.OK)
	holdEntry(t, lasts(0, most), 0, 0, api.Entry{Key: "sx", Value: "l1:ai0e1:1i0ei1099511627776ee", Until: most}, api.OK)
	holdEntry(t, lasts(most, most), 7, 65535, api.Entry{Key: "sx", Time: 7, Origin: 65535, Value: "l1:ai0e1:1i1099511627776ei1099511627776ee", Until: most}, api.OK)
}

// P11.2: times of the entry: below 0, at 0, at the highest and one above; and the greater one of End and Time, for one that ended ahead of it, at it, and behind it.
func TestEntryTimes(t *testing.T) {
	value := wantValue(right())
	for time, until := range map[int]int{0: 9, 1: 9, 2: 9, 8: 9, 9: 9, 10: 10, 11: 11, 1<<32 + 3: 1<<32 + 3, most - 1: most - 1, most: most} {
		holdEntry(t, right(), time, 4, api.Entry{Key: "sx", Time: time, Origin: 4, Value: value, Until: until}, api.OK)
	}
	for _, time := range []int{-1, -2, math.MinInt, most + 1, most + 2, math.MaxInt} {
		holdEntry(t, right(), time, 4, api.Entry{}, api.ErrTime)
		holdEntry(t, lasts(0, most), time, 4, api.Entry{}, api.ErrTime)
	}
	for time, until := range map[int]int{0: most, most - 1: most, most: most} {
		holdEntry(t, lasts(0, most), time, 4, api.Entry{Key: "sx", Time: time, Origin: 4, Value: wantValue(lasts(0, most)), Until: until}, api.OK)
	}
	holdEntry(t, lasts(0, 0), 5, 0, api.Entry{Key: "sx", Time: 5, Value: "l1:ai0e1:1i0ei0ee", Until: 5}, api.OK)
}

// P11.2: each origin is told.
func TestEntryOrigins(t *testing.T) {
	for origin := range 1 << 16 {
		if e := tell(t, right(), 3, uint16(origin)); e.Origin != uint16(origin) || e.Key != "sx" || e.Time != 3 || e.Until != 9 {
			t.Errorf("Entry with the origin %d: %s", origin, showEntry(e))
		}
	}
}

// P11.2: a silence that may not be: Check's error, ahead of a wrong time, and the zero entry.
func TestEntryRefuses(t *testing.T) {
	tries := map[api.Errno][]api.Silence{
		api.ErrName: {{}, named(""), named("X"), named("abcdefghijklmnopq")},
		api.ErrArg:  {asks(), {ID: "x"}},
		api.ErrLong: {asks(many(9)...)},
		api.ErrTime: {lasts(-1, 9), lasts(9, 2), lasts(2, most+1), lasts(math.MinInt, math.MaxInt)},
	}
	for _, wrong := range wrongs {
		tries[wrong.want] = append(tries[wrong.want], asks(wrong.m), asks(append(many(7), wrong.m)...))
	}
	for want, l := range tries {
		for _, s := range l {
			for _, time := range []int{math.MinInt, -1, 0, 3, most, most + 1, math.MaxInt} {
				holdEntry(t, s, time, 4, api.Entry{}, want)
			}
		}
	}
}

// P11.2: what is told stands as an entry (P9.1), the longest, too.
func TestEntryStands(t *testing.T) {
	for _, s := range some() {
		for _, time := range []int{0, 1, s.Start, s.End, most} {
			want, _ := wantEntry(s, time, 65535)
			holdEntry(t, s, time, 65535, want, api.OK)
			if err := entry.Check(want); err != api.OK {
				t.Errorf("entry.Check(%s) = %d", showEntry(want), int(err))
			}
		}
	}
}

// P11.2: silences that differ are told as entries that differ.
func TestEntryIsOneToOne(t *testing.T) {
	of := map[api.Entry]api.Silence{}
	for _, s := range some() {
		e := tell(t, s, 3, 4)
		if other, there := of[e]; there && !equal(other, s) {
			t.Errorf("%s and %s are told as %s", show(other), show(s), showEntry(e))
		}
		of[e] = s
	}
}

// P11.2, rule 3: Entry changes nothing of what it is given, and tells the same again.
func TestEntryChangesNothing(t *testing.T) {
	l := slices.Grow([]api.Matcher{is("b", api.Is, "2"), is("a", api.Like, "1")}, 9)
	own := slices.Clone(l)
	first := tell(t, asks(l...), 3, 4)
	if second := tell(t, asks(l...), 3, 4); first != second || !slices.Equal(l, own) {
		t.Errorf("%s, then %s; the matchers are %v", showEntry(first), showEntry(second), l)
	}
	for _, m := range l[:cap(l)][len(l):] {
		if m != (api.Matcher{}) {
			t.Errorf("%v stands in the spare room", m)
		}
	}
}
