package crdt_test

import (
	"math"
	"slices"
	"testing"

	"watchfire/api"
	"watchfire/crdt"
)

// spoil changes a list's entries, and what stands in the room behind them.
func spoil(l []api.Entry) {
	room := l[:cap(l)]
	for i := range room {
		room[i] = at("spoilt", 1<<40, 65535, "x", 1<<40)
	}
}

// Rule 3: what is told back is the caller's own.
func TestAnswersAreNew(t *testing.T) {
	want := []api.Entry{at("a", 1, 1, "", 10), right(), at("z", 0, 0, "v", 20)}
	for says, tell := range map[string]func(m *crdt.Map) []api.Entry{
		"List":             (*crdt.Map).List,
		"View":             func(m *crdt.Map) []api.Entry { return m.View(8) },
		"Delta":            func(m *crdt.Map) []api.Entry { return m.Delta(nil) },
		"Delta against it": func(m *crdt.Map) []api.Entry { return m.Delta([]api.Entry{at("k", 4, 9, "z", 99)}) },
	} {
		m := filled(t, want...)
		f := m.Fork()
		first, second := tell(m), tell(m)
		if !slices.Equal(first, want) {
			t.Errorf("%s = %s", says, show(first...))
		}
		spoil(first)
		if !slices.Equal(second, want) {
			t.Errorf("another answer of %s changed: %s", says, show(second...))
		}
		hold(t, m, want...)
		hold(t, f, want...)
	}
}

// Rule 3: lists that are told are not changed, nor what stands behind them, and not kept.
func TestArgumentsStay(t *testing.T) {
	room := []api.Entry{right(), at("a", 1, 1, "", 2), {}, at("k", 6, 1, "", 6), at("b", 1, 1, "", 2)}
	was := slices.Clone(room)
	for n := range room {
		m := filled(t, at("k", 4, 1, "", 9), at("c", 4, 1, "", 9))
		m.Delta(room[:n])
		crdt.Same(room[:n], m.List())
		m.Merge(room[:n])
		if !slices.Equal(room, was) {
			t.Fatalf("of %d entries: %s", n, show(room...))
		}
		have := m.List()
		l := slices.Clone(room[:n])
		m.Merge(l)
		m.Delta(l)
		spoil(l)
		hold(t, m, have...)
	}
}

// P10.4: New has no entries, and two of them have none in common.
func TestNew(t *testing.T) {
	one, two := crdt.New(), crdt.New()
	if one == nil || one == two {
		t.Fatal("no map of its own")
	}
	hold(t, one)
	if n, l, d := one.Forget(math.MaxInt), one.View(math.MinInt), one.Delta(nil); n != 0 || len(l) != 0 || len(d) != 0 {
		t.Errorf("of none: %d forgotten, %s, %s", n, show(l...), show(d...))
	}
	holdPut(t, one, right(), true, api.OK)
	hold(t, one, right())
	hold(t, two)
	hold(t, crdt.New())
}

// P10.4: of nil nothing, false and 0.
func TestNil(t *testing.T) {
	var m *crdt.Map
	for _, now := range []int{math.MinInt, -1, 0, 1, 1 << 40, math.MaxInt} {
		if l := m.View(now); len(l) != 0 {
			t.Errorf("View(%d) = %s", now, show(l...))
		}
		if n := m.Forget(now); n != 0 {
			t.Errorf("Forget(%d) = %d", now, n)
		}
	}
	for _, key := range []string{"", "k", "spoilt"} {
		if e, ok := m.Get(key); ok || e != (api.Entry{}) {
			t.Errorf("Get(%q) = %s, %v", key, show(e), ok)
		}
	}
	for _, l := range [][]api.Entry{nil, {}, {{}}, {right()}} {
		if n := m.Merge(l); n != 0 {
			t.Errorf("Merge(%s) = %d", show(l...), n)
		}
		if d := m.Delta(l); len(d) != 0 {
			t.Errorf("Delta(%s) = %s", show(l...), show(d...))
		}
	}
	if m.Len() != 0 || len(m.List()) != 0 {
		t.Errorf("%d: %s", m.Len(), show(m.List()...))
	}
	if f := m.Fork(); f != nil {
		t.Errorf("Fork() = %v", f)
	}
}

// P10.4: Forget, one below an Until, at it, and above, and what it tells; Time is not asked.
func TestForget(t *testing.T) {
	a, b, c, d := at("a", 5, 1, "", 10), at("b", 10, 1, "", 10), at("c", 0, 1, "", 20), at("d", 0, 1, "", 1<<40)
	for _, try := range []struct {
		now  int
		left []api.Entry
	}{
		{math.MinInt, []api.Entry{a, b, c, d}},
		{-1, []api.Entry{a, b, c, d}},
		{0, []api.Entry{a, b, c, d}},
		{9, []api.Entry{a, b, c, d}},
		{10, []api.Entry{c, d}},
		{11, []api.Entry{c, d}},
		{19, []api.Entry{c, d}},
		{20, []api.Entry{d}},
		{1<<40 - 1, []api.Entry{d}},
		{1 << 40, nil},
		{1<<40 + 1, nil},
		{math.MaxInt, nil},
	} {
		m := filled(t, a, b, c, d)
		if n := m.Forget(try.now); n != 4-len(try.left) {
			t.Errorf("Forget(%d) = %d", try.now, n)
		}
		hold(t, m, try.left...)
		if l := m.View(try.now); !slices.Equal(l, try.left) {
			t.Errorf("View(%d) behind Forget = %s", try.now, show(l...))
		}
		if n := m.Forget(try.now); n != 0 {
			t.Errorf("Forget(%d) for the second time = %d", try.now, n)
		}
		hold(t, m, try.left...)
	}
	m := filled(t, at("a", 0, 0, "", 0))
	if n := m.Forget(-1); n != 0 || m.Len() != 1 {
		t.Errorf("Forget(-1) = %d", n)
	}
	if n := m.Forget(0); n != 1 || m.Len() != 0 {
		t.Errorf("Forget(0) = %d", n)
	}
}

// P10.4: Forget, of a map that is full, one behind the other, and all at once.
func TestForgetOfMany(t *testing.T) {
	l := numbered(256)
	for i := range l {
		l[i].Until = 10 + i
	}
	m := filled(t, l...)
	for i := range l {
		if n := m.Forget(10 + i); n != 1 {
			t.Errorf("Forget(%d) = %d", 10+i, n)
		}
		hold(t, m, l[i+1:]...)
	}
	m = filled(t, l...)
	if n := m.Forget(1 << 40); n != 256 {
		t.Errorf("Forget of all = %d", n)
	}
	hold(t, m)
}

// P10.4: what was forgotten is taken again, an older one, too.
func TestPutOfForgotten(t *testing.T) {
	m := filled(t, right())
	m.Forget(9)
	holdPut(t, m, at("k", 4, 0, "", 99), true, api.OK)
	hold(t, m, at("k", 4, 0, "", 99))
}

// P10.4: a fork is as the map, and neither changes the other behind it.
func TestFork(t *testing.T) {
	l := []api.Entry{at("a", 5, 1, "v", 10), at("b", 5, 1, "v", 20), at("c", 5, 1, "v", 30)}
	for _, change := range []struct {
		says string
		do   func(m *crdt.Map)
		want []api.Entry
	}{
		{"a new one", func(m *crdt.Map) { m.Put(at("d", 1, 1, "", 2)) }, append(l[:3:3], at("d", 1, 1, "", 2))},
		{"a later one", func(m *crdt.Map) { m.Put(at("a", 6, 1, "w", 9)) }, []api.Entry{at("a", 6, 1, "w", 9), l[1], l[2]}},
		{"several", func(m *crdt.Map) { m.Merge([]api.Entry{at("b", 6, 1, "", 9), at("a0", 1, 1, "", 2)}) }, []api.Entry{l[0], at("a0", 1, 1, "", 2), at("b", 6, 1, "", 9), l[2]}},
		{"some forgotten", func(m *crdt.Map) { m.Forget(20) }, l[2:]},
		{"all forgotten", func(m *crdt.Map) { m.Forget(1 << 40) }, nil},
		{"what it told is changed", func(m *crdt.Map) { spoil(m.List()); spoil(m.View(0)); spoil(m.Delta(nil)) }, l},
		{"looks", func(m *crdt.Map) { m.Get("a"); m.View(25); m.Delta(l[:1]); m.Fork() }, l},
		{"nothing", func(*crdt.Map) {}, l},
	} {
		t.Run(change.says, func(t *testing.T) {
			m := filled(t, l...)
			f := m.Fork()
			if f == nil || f == m {
				t.Fatal("no map of its own")
			}
			hold(t, f, l...)
			change.do(m)
			hold(t, m, change.want...)
			hold(t, f, l...)

			m = filled(t, l...)
			f = m.Fork()
			change.do(f)
			hold(t, f, change.want...)
			hold(t, m, l...)
		})
	}
}

// P10.4: forks of an empty map, of a full one, and of a fork.
func TestForkOfForks(t *testing.T) {
	empty := crdt.New()
	f := empty.Fork()
	if f == nil || f == empty {
		t.Fatal("no map of its own")
	}
	hold(t, f)
	holdPut(t, f, right(), true, api.OK)
	hold(t, empty)
	hold(t, f, right())

	full := filled(t, numbered(256)...)
	f = full.Fork()
	hold(t, f, numbered(256)...)
	holdPut(t, f, right(), false, api.ErrFull)
	f.Forget(9)
	hold(t, f)
	hold(t, full, numbered(256)...)
	holdPut(t, full, right(), false, api.ErrFull)

	one := filled(t, right())
	two := one.Fork()
	three := two.Fork()
	two.Forget(9)
	three.Put(at("k", 6, 1, "", 9))
	hold(t, one, right())
	hold(t, two)
	hold(t, three, at("k", 6, 1, "", 9))
}
