package crdt_test

import (
	"math"
	"slices"
	"strings"
	"testing"

	"watchfire/api"
	"watchfire/crdt"
)

// P10.3: Get, of keys that are there, and of texts that are none of them.
func TestGet(t *testing.T) {
	m := filled(t, right(), at("kk", 1, 2, "", 3))
	for key, want := range map[string]api.Entry{"k": right(), "kk": at("kk", 1, 2, "", 3)} {
		if e, ok := m.Get(key); !ok || e != want {
			t.Errorf("Get(%q) = %s, %v", key, show(e), ok)
		}
	}
	for _, key := range []string{"", "a", "K", "kkk", "k\x00", " k", "k ", "v", "\xff", strings.Repeat("k", 1024), strings.Repeat("k", 100_000)} {
		if e, ok := m.Get(key); ok || e != (api.Entry{}) {
			t.Errorf("Get(%s) = %s, %v", short(key), show(e), ok)
		}
		if e, ok := crdt.New().Get(key); ok || e != (api.Entry{}) {
			t.Errorf("Get(%s) of none = %s, %v", short(key), show(e), ok)
		}
	}
	if e, ok := filled(t, at(strings.Repeat("k", 1024), 5, 1, "v", 9)).Get(strings.Repeat("k", 1024)); !ok || e.Value != "v" {
		t.Errorf("Get of the longest key = %s, %v", show(e), ok)
	}
}

// P10.3: Get tells the later one, and nothing of what was refused or forgotten.
func TestGetBehindChanges(t *testing.T) {
	m := filled(t, right(), at("o", 5, 1, "v", 8))
	m.Put(at("k", 6, 1, "w", 9))
	m.Put(at("k", 4, 1, "x", 9))
	m.Put(at("no", 5, 1, "v", 4))
	m.Forget(8)
	if e, ok := m.Get("k"); !ok || e != at("k", 6, 1, "w", 9) {
		t.Errorf("Get(k) = %s, %v", show(e), ok)
	}
	for _, key := range []string{"no", "o"} {
		if e, ok := m.Get(key); ok || e != (api.Entry{}) {
			t.Errorf("Get(%s) = %s, %v", key, show(e), ok)
		}
	}
}

// rising are entries by rising keys, byte by byte; nothing else of them rises.
func rising() []api.Entry {
	var l []api.Entry
	for i, key := range []string{
		"\x00", "\x00\xff", "\x01", "+", "0", "00", "1", "10", "2", "9", "A", "Z", "a", "a\x00", "a\xff", "aa", "ab", "b", "ba", "z", "\x7f", "\x80", "\xc3\xa4", "\xff", "\xff\x00", "\xff\xff",
	} {
		l = append(l, at(key, i*7%10, uint16(i*5%7), strings.Repeat("v", i*3%5), 10+i*11%13))
	}
	slices.SortFunc(l, func(a, b api.Entry) int { return strings.Compare(a.Key, b.Key) })
	return l
}

// orders calls do with some orders of a list: turned round, and each one begun elsewhere.
func orders(l []api.Entry, do func(l []api.Entry)) {
	turned := slices.Clone(l)
	slices.Reverse(turned)
	for i := range l {
		do(slices.Concat(l[i:], l[:i]))
		do(slices.Concat(turned[i:], turned[:i]))
	}
}

// P10.3: List, by rising keys, in whatever order they were told, and the same whenever it is asked.
func TestListRises(t *testing.T) {
	if l := rising(); l[0].Key != "\x00" || l[12].Key != "a" || l[13].Key != "a\x00" || l[25].Key != "\xff\xff" {
		t.Fatalf("the keys are others: %s", show(l...))
	}
	orders(rising(), func(l []api.Entry) {
		m := filled(t, l...)
		for range 3 {
			hold(t, m, rising()...)
		}
	})
	turned := numbered(256)
	slices.Reverse(turned)
	hold(t, filled(t, turned...), numbered(256)...)
	hold(t, filled(t, numbered(256)...), numbered(256)...)
}

// P10.3: View, by rising keys, those alone that count, and all others stay.
func TestViewRises(t *testing.T) {
	orders(rising(), func(l []api.Entry) {
		m := filled(t, l...)
		for now := 8; now <= 24; now++ {
			var want []api.Entry
			for _, e := range rising() {
				if e.Until > now {
					want = append(want, e)
				}
			}
			if got := m.View(now); !slices.Equal(got, want) {
				t.Errorf("View(%d) = %s, not %s", now, show(got...), show(want...))
			}
		}
		hold(t, m, rising()...)
	})
}

// P10.3: View, one below an Until, at it, and above; Time is not asked.
func TestView(t *testing.T) {
	m := filled(t, at("a", 5, 1, "", 9), at("b", 9, 1, "", 9), at("c", 5, 1, "", 10), at("d", 0, 1, "", 0), at("e", 0, 1, "", 1<<40))
	for _, try := range []struct {
		now  int
		want string
	}{
		{math.MinInt, "abcde"}, {-1, "abcde"}, {0, "abce"}, {1, "abce"}, {4, "abce"}, {5, "abce"}, {8, "abce"}, {9, "ce"}, {10, "e"}, {11, "e"}, {1<<40 - 1, "e"}, {1 << 40, ""}, {1<<40 + 1, ""}, {math.MaxInt, ""},
	} {
		got := ""
		for _, e := range m.View(try.now) {
			got += e.Key
		}
		if got != try.want {
			t.Errorf("View(%d): %q, not %q", try.now, got, try.want)
		}
	}
	if m.Len() != 5 {
		t.Errorf("behind View %d are there", m.Len())
	}
	if l := crdt.New().View(math.MinInt); len(l) != 0 {
		t.Errorf("View of none: %s", show(l...))
	}
}

// P10.3: Len, as keys come, come again, are refused, and go.
func TestLen(t *testing.T) {
	m := crdt.New()
	for i, e := range numbered(300) {
		if want := min(i, 256); m.Len() != want {
			t.Fatalf("Len() = %d, not %d", m.Len(), want)
		}
		m.Put(e)
		m.Put(e)
		e.Time++
		m.Put(e)
		m.Put(api.Entry{})
	}
	m.Forget(9)
	if m.Len() != 0 {
		t.Errorf("Len() = %d behind Forget of all", m.Len())
	}
}

// holdDelta holds what Delta answers, by the keys of the entries, and that neither the map nor the list is changed.
func holdDelta(t *testing.T, have, l []api.Entry, want string) {
	t.Helper()
	m, given := filled(t, have...), slices.Clone(l)
	var told []api.Entry
	for _, e := range have {
		if strings.Contains(want, e.Key) {
			told = append(told, e)
		}
	}
	for range 2 {
		if got := m.Delta(given); !slices.Equal(got, told) {
			t.Errorf("Delta of %s against %s = %s, not %s", show(have...), show(l...), show(got...), show(told...))
		}
	}
	hold(t, m, have...)
	if !slices.Equal(given, l) {
		t.Errorf("Delta changed its list: %s", show(given...))
	}
}

// P10.3: Delta against none, the same, older and later ones, in whatever order, and against keys that the map has not.
func TestDelta(t *testing.T) {
	a, b, c := at("a", 1, 1, "", 2), at("b", 5, 1, "v", 9), at("c", 7, 1, "w", 8)
	have := []api.Entry{a, b, c}
	older, later := at("b", 4, 1, "v", 9), at("b", 6, 1, "v", 9)
	for _, try := range []struct {
		l    []api.Entry
		want string
	}{
		{nil, "abc"},
		{[]api.Entry{}, "abc"},
		{[]api.Entry{a, b, c}, ""},
		{[]api.Entry{c, a, b}, ""},
		{[]api.Entry{b}, "ac"},
		{[]api.Entry{a, c}, "b"},
		{[]api.Entry{older}, "abc"},
		{[]api.Entry{later}, "ac"},
		{[]api.Entry{a, older, c}, "b"},
		{[]api.Entry{a, later, c}, ""},
		{[]api.Entry{older, older}, "abc"},
		{[]api.Entry{older, later}, "ac"},
		{[]api.Entry{later, older}, "ac"},
		{[]api.Entry{older, b}, "ac"},
		{[]api.Entry{b, older}, "ac"},
		{[]api.Entry{older, later, older}, "ac"},
		{[]api.Entry{older, a, later, c, older}, ""},
		{[]api.Entry{later, later}, "ac"},
		{[]api.Entry{at("d", 9, 9, "z", 99)}, "abc"},
		{[]api.Entry{at("bb", 9, 9, "z", 99), at("B", 9, 9, "z", 99), at("b\x00", 9, 9, "z", 99)}, "abc"},
		{[]api.Entry{at("d", 9, 9, "z", 99), b}, "ac"},
	} {
		holdDelta(t, have, try.l, try.want)
	}
	for _, l := range [][]api.Entry{nil, {b}, numbered(300)} {
		holdDelta(t, nil, l, "")
	}
}

// P10.3: Delta asks all fields by which one is above, and each entry of a key.
func TestDeltaByFields(t *testing.T) {
	for i, own := range steps() {
		for j, one := range steps() {
			want := ""
			if i > j {
				want = "k"
			}
			holdDelta(t, []api.Entry{own}, []api.Entry{one}, want)
			for k, other := range steps() {
				want := ""
				if i > j && i > k {
					want = "k"
				}
				holdDelta(t, []api.Entry{own}, []api.Entry{one, other}, want)
			}
		}
	}
}

// P10.3: Delta takes entries of the list that may not be as they stand.
func TestDeltaOfWrongOnes(t *testing.T) {
	have := []api.Entry{at("a", 1, 1, "", 2), right()}
	long := strings.Repeat("v", 8193)
	for _, try := range []struct {
		e    api.Entry
		want string
	}{
		{api.Entry{}, "ak"},
		{at("", 9, 9, "z", 99), "ak"},
		{at(strings.Repeat("k", 1025), 9, 9, "z", 99), "ak"},
		{at("k", -1, 1, "v", 9), "ak"},
		{at("k", math.MinInt, 9, "z", math.MaxInt), "ak"},
		{at("k", 1<<40+1, 0, "", 0), "a"},
		{at("k", math.MaxInt, 0, "", math.MinInt), "a"},
		{at("k", 5, 1, "v", 4), "ak"},
		{at("k", 5, 1, "v", math.MaxInt), "a"},
		{at("k", 5, 1, long, 9), "a"},
		{at("k", 4, 1, long, 9), "ak"},
		{at("k", 6, 1, "v", 5), "a"},
	} {
		holdDelta(t, have, []api.Entry{try.e}, try.want)
		holdDelta(t, have, []api.Entry{try.e, at("k", 4, 1, "v", 9)}, try.want)
		holdDelta(t, have, []api.Entry{at("k", 4, 1, "v", 9), try.e}, try.want)
	}
}

// P10.3: Delta, by rising keys, in whatever order the map's and the list's entries came.
func TestDeltaRises(t *testing.T) {
	var l, want []api.Entry
	for i, e := range rising() {
		switch i % 3 {
		case 0:
			l = append(l, e)
			continue
		case 1:
			older := e
			older.Time--
			l = append(l, older)
		}
		want = append(want, e)
	}
	orders(rising(), func(told []api.Entry) {
		m := filled(t, told...)
		if got := m.Delta(nil); !slices.Equal(got, rising()) {
			t.Errorf("Delta against none = %s", show(got...))
		}
		orders(l, func(l []api.Entry) {
			if got := m.Delta(l); !slices.Equal(got, want) {
				t.Errorf("Delta = %s, not %s", show(got...), show(want...))
			}
		})
	})
}

// P10.3: Delta tells what does not count any more, too.
func TestDeltaAsksNoNow(t *testing.T) {
	holdDelta(t, []api.Entry{at("a", 0, 0, "", 0), at("b", 5, 0, "", 5)}, []api.Entry{at("b", 4, 0, "", 1<<40)}, "ab")
}

// P10.3: Delta of all rows of up to three entries, against the chapter's words.
func TestDeltaWords(t *testing.T) {
	some := []api.Entry{at("a", 1, 1, "", 2), at("a", 1, 2, "", 2), at("a", 2, 1, "", 2), at("b", 1, 1, "", 2), at("b", 1, 1, "x", 2), at("c", 1, 1, "", 0)}
	rows(some, 3, func(have []api.Entry) {
		m, words := crdt.New(), model{}
		m.Merge(have)
		words.merge(have)
		rows(some, 3, func(l []api.Entry) {
			if got, want := m.Delta(l), words.delta(l); !slices.Equal(got, want) {
				t.Fatalf("Delta of %s against %s = %s", show(have...), show(l...), show(got...))
			}
		})
	})
}

// holdSame holds what Same answers of two lists, whichever of them is told first.
func holdSame(t *testing.T, a, b []api.Entry, want bool) {
	t.Helper()
	if one, other := crdt.Same(a, b), crdt.Same(b, a); one != want || other != want {
		t.Errorf("Same(%s, %s) = %v, and turned round %v", show(a...), show(b...), one, other)
	}
}

// P10.3: Same, of lists that differ in one field, in their order, in their length, or not at all.
func TestSame(t *testing.T) {
	a, b, c := at("a", 1, 1, "", 2), right(), at("z", 5, 1, "v", 9)
	l := []api.Entry{a, b, c}
	holdSame(t, nil, nil, true)
	holdSame(t, nil, []api.Entry{}, true)
	holdSame(t, []api.Entry{}, []api.Entry{}, true)
	holdSame(t, l, slices.Clone(l), true)
	holdSame(t, []api.Entry{{}}, []api.Entry{{}}, true)

	holdSame(t, l, nil, false)
	holdSame(t, []api.Entry{{}}, nil, false)
	holdSame(t, []api.Entry{{}}, []api.Entry{}, false)
	holdSame(t, []api.Entry{{}}, []api.Entry{{}, {}}, false)
	for i := range l {
		holdSame(t, l, l[:i], false)
		holdSame(t, l, l[i+1:], false)
		holdSame(t, l, slices.Concat(l[:i], l[i+1:]), false)
		holdSame(t, l, slices.Insert(slices.Clone(l), i, l[i]), false)
	}
	holdSame(t, l, []api.Entry{a, c, b}, false)
	holdSame(t, l, []api.Entry{b, a, c}, false)
	holdSame(t, l, []api.Entry{c, b, a}, false)
	holdSame(t, []api.Entry{a, a, b}, []api.Entry{a, b, b}, false)
}

// P10.3: Same, of entries that differ in just one field, wherever they stand in a list; of those that may not be, too.
func TestSameByFields(t *testing.T) {
	for _, change := range []func(e *api.Entry){
		func(e *api.Entry) { e.Key = "l" },
		func(e *api.Entry) { e.Key = "K" },
		func(e *api.Entry) { e.Key = "k\x00" },
		func(e *api.Entry) { e.Key = "" },
		func(e *api.Entry) { e.Time = 4 },
		func(e *api.Entry) { e.Time = -5 },
		func(e *api.Entry) { e.Time += 1 << 32 },
		func(e *api.Entry) { e.Origin = 0 },
		func(e *api.Entry) { e.Origin = 257 },
		func(e *api.Entry) { e.Value = "" },
		func(e *api.Entry) { e.Value = "w" },
		func(e *api.Entry) { e.Value = strings.Repeat("v", 8193) },
		func(e *api.Entry) { e.Until = 10 },
		func(e *api.Entry) { e.Until = math.MinInt },
		func(e *api.Entry) { e.Until += 1 << 32 },
	} {
		for place := range 3 {
			l := []api.Entry{right(), right(), right()}
			other := slices.Clone(l)
			change(&other[place])
			holdSame(t, l, other, false)
			holdSame(t, other, slices.Clone(other), true)
			holdSame(t, other[place:place+1], []api.Entry{right()}, false)
		}
	}
	again := right()
	again.Key, again.Value = strings.Clone(again.Key), strings.Clone(again.Value)
	holdSame(t, []api.Entry{right()}, []api.Entry{again}, true)
}
