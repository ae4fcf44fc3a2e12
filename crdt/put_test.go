package crdt_test

import (
	"fmt"
	"math"
	"slices"
	"strings"
	"testing"

	"watchfire/api"
	"watchfire/crdt"
)

// P10.1, P10.3: the chapter's example.
func TestExample(t *testing.T) {
	m := crdt.New()
	holdPut(t, m, at("k", 5, 0, "", 9), true, api.OK)
	holdPut(t, m, at("k", 4, 0, "", 9), false, api.OK)
	hold(t, m, at("k", 5, 0, "", 9))
	if l := m.Delta([]api.Entry{at("k", 4, 0, "", 9)}); !slices.Equal(l, []api.Entry{at("k", 5, 0, "", 9)}) {
		t.Errorf("Delta = %s", show(l...))
	}
}

// P10.1: what is taken, at the limits of keys, values and times.
func TestPutTakes(t *testing.T) {
	for _, e := range []api.Entry{
		right(),
		at("k", 0, 0, "", 0),
		at("\x00", 5, 1, "\x00", 9),
		at(strings.Repeat("k", 1024), 5, 1, strings.Repeat("v", 8192), 9),
		at("k", 5, 65535, "v", 5),
		at("k", 0, 1, "v", 1<<40),
		at("k", 1<<40, 1, "v", 1<<40),
	} {
		m := crdt.New()
		holdPut(t, m, e, true, api.OK)
		hold(t, m, e)
		holdPut(t, m, e, false, api.OK)
		hold(t, m, e)
	}
}

// refused are entries that may not be, with what entry.Check says of them.
var refused = []struct {
	e    api.Entry
	want api.Errno
}{
	{api.Entry{}, api.ErrLong},
	{at("", 5, 1, "v", 9), api.ErrLong},
	{at(strings.Repeat("k", 1025), 5, 1, "v", 9), api.ErrLong},
	{at(strings.Repeat("k", 100_000), 5, 1, "v", 9), api.ErrLong},
	{at("k", 6, 1, strings.Repeat("v", 8193), 9), api.ErrLong},
	{at("", -1, 1, "v", -2), api.ErrLong},
	{at("k", -1, 1, "v", 9), api.ErrTime},
	{at("k", math.MinInt, 1, "v", 9), api.ErrTime},
	{at("k", 1<<40+1, 1, "v", 1<<40+1), api.ErrTime},
	{at("k", math.MaxInt, 1, "v", math.MaxInt), api.ErrTime},
	{at("k", 6, 1, "v", 5), api.ErrTime},
	{at("k", 6, 1, "v", math.MinInt), api.ErrTime},
	{at("k", 6, 1, "v", 1<<40+1), api.ErrTime},
	{at("k", 6, 1, "v", math.MaxInt), api.ErrTime},
	{at("new", 6, 1, "v", 5), api.ErrTime},
}

// P10.1: an entry that may not be changes nothing, be the map empty, its key there, or the map full.
func TestPutRefuses(t *testing.T) {
	for _, l := range [][]api.Entry{nil, {right()}, {at("a", 1, 1, "", 2), right()}, numbered(256)} {
		for _, try := range refused {
			m := filled(t, l...)
			holdPut(t, m, try.e, false, try.want)
			hold(t, m, l...)
		}
	}
}

// P10.1: of nil ErrNil, ahead of all that is wrong with an entry.
func TestPutOfNil(t *testing.T) {
	var m *crdt.Map
	holdPut(t, m, right(), false, api.ErrNil)
	for _, try := range refused {
		holdPut(t, m, try.e, false, api.ErrNil)
	}
}

// steps are entries of one key, each one above the one ahead of it, by one field or by the first that differs.
func steps() []api.Entry {
	return []api.Entry{
		at("k", 4, 65535, "z", 1<<40),
		at("k", 5, 0, "", 5),
		at("k", 5, 0, "", 6),
		at("k", 5, 0, "\x00", 6),
		at("k", 5, 1, "", 9),
		at("k", 5, 1, "v", 8),
		right(),
		at("k", 5, 1, "v", 10),
		at("k", 5, 1, "v\x00", 5),
		at("k", 5, 1, "w", 5),
		at("k", 5, 1, "\xff", 5),
		at("k", 5, 2, "", 5),
		at("k", 5, 256, "", 5),
		at("k", 6, 0, "", 6),
		at("k", 1<<32, 0, "", 1<<32),
		at("k", 1<<40, 0, "", 1<<40),
	}
}

// P10.1: each two entries of one key: the later one is the key's, and a map that stays as it is is told by false.
func TestPutOfOneKey(t *testing.T) {
	beside := []api.Entry{at("a", 99, 9, "z", 99), at("kk", 0, 0, "", 0)}
	for i, first := range steps() {
		for j, second := range steps() {
			m := filled(t, beside[0], first, beside[1])
			holdPut(t, m, second, j > i, api.OK)
			hold(t, m, beside[0], steps()[max(i, j)], beside[1])
			holdPut(t, m, second, false, api.OK)
			holdPut(t, m, first, false, api.OK)
			hold(t, m, beside[0], steps()[max(i, j)], beside[1])
		}
	}
}

// P10.1: keys that are alike are none the less others, however old what is told of them is.
func TestPutOfUnlikeKeys(t *testing.T) {
	l := []api.Entry{
		at("\x00", 3, 0, "", 3), at("K", 9, 9, "z", 99), at("k", 5, 1, "v", 9), at("k\x00", 0, 0, "", 0), at("k ", 4, 1, "v", 9), at("kk", 5, 1, "v", 9), at("\xff", 1, 1, "", 1),
	}
	hold(t, filled(t, l...), l...)
}

// P10.1: an entry that does not count any more, or not yet, is taken as others are, and takes an older one's place.
func TestPutAsksNoNow(t *testing.T) {
	m := filled(t, at("k", 5, 1, "v", 1<<40))
	holdPut(t, m, at("k", 6, 1, "v", 6), true, api.OK)
	hold(t, m, at("k", 6, 1, "v", 6))
	holdPut(t, m, at("k", 5, 1, "v", 1<<40), false, api.OK)
	hold(t, m, at("k", 6, 1, "v", 6))
}

// P10.1: the 256th key is taken, the 257th is not; those that are there go on.
func TestPutWhileFull(t *testing.T) {
	l := numbered(256)
	m := filled(t, l[:255]...)
	holdPut(t, m, l[255], true, api.OK)
	hold(t, m, l...)

	for _, key := range []string{"a", "n", "n000\x00", "n0000", "n256", "z", strings.Repeat("n", 1024)} {
		holdPut(t, m, at(key, 9, 9, "w", 99), false, api.ErrFull)
		hold(t, m, l...)
	}
	for i := range l {
		holdPut(t, m, l[i], false, api.OK)
		holdPut(t, m, at(l[i].Key, 4, 9, "z", 99), false, api.OK)
		hold(t, m, l...)
		l[i].Time = 6
		holdPut(t, m, l[i], true, api.OK)
	}
	hold(t, m, l...)
}

// P10.1, P10.4: where some were forgotten there is room again, for just as many.
func TestPutBehindForget(t *testing.T) {
	l := numbered(256)
	l[0].Until, l[100].Until = 8, 8
	m := filled(t, l...)
	holdPut(t, m, at("new", 5, 1, "v", 9), false, api.ErrFull)
	if n := m.Forget(8); n != 2 {
		t.Fatalf("Forget(8) = %d", n)
	}
	holdPut(t, m, at("o1", 5, 1, "v", 9), true, api.OK)
	holdPut(t, m, at("o2", 5, 1, "v", 9), true, api.OK)
	holdPut(t, m, at("o3", 5, 1, "v", 9), false, api.ErrFull)
	holdPut(t, m, l[0], false, api.ErrFull)
	hold(t, m, slices.Concat(l[1:100], l[101:], []api.Entry{at("o1", 5, 1, "v", 9), at("o2", 5, 1, "v", 9)})...)
}

// P10.2: lists of few entries, and how many of them told true.
func TestMerge(t *testing.T) {
	old, middle, late := at("k", 4, 1, "v", 9), right(), at("k", 6, 1, "v", 9)
	other := at("a", 1, 1, "", 2)
	for i, try := range []struct {
		have, l []api.Entry
		want    int
		left    []api.Entry
	}{
		{nil, nil, 0, nil},
		{nil, []api.Entry{}, 0, nil},
		{[]api.Entry{middle}, nil, 0, []api.Entry{middle}},
		{nil, []api.Entry{middle}, 1, []api.Entry{middle}},
		{nil, []api.Entry{middle, other}, 2, []api.Entry{other, middle}},
		{nil, []api.Entry{middle, late}, 2, []api.Entry{late}},
		{nil, []api.Entry{late, middle}, 1, []api.Entry{late}},
		{nil, []api.Entry{middle, middle, middle}, 1, []api.Entry{middle}},
		{nil, []api.Entry{old, middle, late}, 3, []api.Entry{late}},
		{nil, []api.Entry{old, late, middle}, 2, []api.Entry{late}},
		{nil, []api.Entry{middle, other, late, old, other, late}, 3, []api.Entry{other, late}},
		{[]api.Entry{middle}, []api.Entry{old}, 0, []api.Entry{middle}},
		{[]api.Entry{middle}, []api.Entry{middle}, 0, []api.Entry{middle}},
		{[]api.Entry{middle}, []api.Entry{late}, 1, []api.Entry{late}},
		{[]api.Entry{middle}, []api.Entry{old, late}, 1, []api.Entry{late}},
		{[]api.Entry{middle}, []api.Entry{late, old}, 1, []api.Entry{late}},
		{[]api.Entry{late, other}, []api.Entry{old, middle, other}, 0, []api.Entry{other, late}},
	} {
		m, l := filled(t, try.have...), slices.Clone(try.l)
		if n := m.Merge(l); n != try.want {
			t.Errorf("%d: Merge(%s) = %d, not %d", i, show(try.l...), n, try.want)
		}
		hold(t, m, try.left...)
		if !slices.Equal(l, try.l) {
			t.Errorf("%d: Merge changed its list: %s", i, show(l...))
		}
	}
}

// P10.2: entries that may not be are passed over, wherever they stand.
func TestMergeRefuses(t *testing.T) {
	a, b := at("a", 1, 1, "", 2), at("z", 1, 1, "", 2)
	for _, try := range refused {
		for _, l := range [][]api.Entry{{try.e, a, b}, {a, try.e, b}, {a, b, try.e}, {try.e, a, try.e, try.e, b, try.e}} {
			m := crdt.New()
			if n := m.Merge(l); n != 2 {
				t.Errorf("Merge(%s) = %d", show(l...), n)
			}
			hold(t, m, a, b)
		}
		m := filled(t, a)
		if n := m.Merge([]api.Entry{try.e}); n != 0 {
			t.Errorf("Merge(%s) = %d", show(try.e), n)
		}
		hold(t, m, a)
	}
}

// P10.2: beyond 256 new keys are passed over, and those that are there go on, behind them, too.
func TestMergeBeyondFull(t *testing.T) {
	l := numbered(300)
	m := crdt.New()
	if n := m.Merge(l); n != 256 {
		t.Errorf("Merge of 300 = %d", n)
	}
	hold(t, m, l[:256]...)

	m = crdt.New()
	turned := slices.Clone(l)
	slices.Reverse(turned)
	if n := m.Merge(turned); n != 256 {
		t.Errorf("Merge of 300, turned round = %d", n)
	}
	hold(t, m, l[44:]...)

	later := slices.Clone(l)
	for i := range later {
		later[i].Time++
	}
	if n := m.Merge(later); n != 256 {
		t.Errorf("Merge of 300 into a full map = %d", n)
	}
	hold(t, m, later[44:]...)
	if n := m.Merge(slices.Concat(l, later)); n != 0 {
		t.Errorf("Merge of old ones = %d", n)
	}
	hold(t, m, later[44:]...)
}

// P10.2: Merge of nil tells 0.
func TestMergeOfNil(t *testing.T) {
	var m *crdt.Map
	for _, l := range [][]api.Entry{nil, {right()}, {{}}, numbered(300)} {
		if n := m.Merge(l); n != 0 {
			t.Errorf("Merge(%s) of nil = %d", show(l...), n)
		}
	}
}

// P10.2: Merge is Put of each, one behind the other, on all rows of up to four of some entries.
func TestMergeIsPut(t *testing.T) {
	some := []api.Entry{at("a", 1, 1, "", 2), at("a", 2, 1, "", 2), at("a", 2, 1, "", 3), at("b", 1, 1, "", 2), {}, at("b", 1, 1, "", 0)}
	rows(some, 4, func(row []api.Entry) {
		one, other, want := crdt.New(), crdt.New(), 0
		for _, e := range row {
			if changed, _ := other.Put(e); changed {
				want++
			}
		}
		if n := one.Merge(row); n != want {
			t.Errorf("Merge(%s) = %d, not %d", show(row...), n, want)
		}
		hold(t, one, other.List()...)
	})
}

// rows calls do with all rows of up to so many of a list's entries, each as often as it may be.
func rows(some []api.Entry, long int, do func(row []api.Entry)) {
	var grow func(row []api.Entry)
	grow = func(row []api.Entry) {
		do(slices.Clone(row))
		if len(row) == long {
			return
		}
		for _, e := range some {
			grow(append(slices.Clone(row), e))
		}
	}
	grow(nil)
}

// P10.1: true just where the map is another one then, on all rows of up to four of some entries.
func TestPutTellsChanges(t *testing.T) {
	some := []api.Entry{at("a", 1, 1, "", 2), at("a", 1, 2, "", 2), at("a", 1, 2, "x", 2), at("b", 1, 1, "", 2), {}, at("b", 3, 1, "", 2)}
	rows(some, 4, func(row []api.Entry) {
		m := crdt.New()
		for _, e := range row {
			was := fmt.Sprint(m.List())
			changed, _ := m.Put(e)
			if is := fmt.Sprint(m.List()); changed != (is != was) {
				t.Errorf("Put(%s) = %v, and %s is %s", show(e), changed, was, is)
			}
		}
	})
}
