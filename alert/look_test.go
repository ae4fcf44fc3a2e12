package alert_test

import (
	"math"
	"slices"
	"strings"
	"testing"

	"watchfire/alert"
	"watchfire/api"
	"watchfire/label"
)

// P7.2: Fires, at each edge, of wrong alerts, too.
func TestFires(t *testing.T) {
	for _, try := range []struct {
		start, end, now int
		want            bool
	}{
		{5, 10, 4, false},
		{5, 10, 5, true},
		{5, 10, 6, true},
		{5, 10, 9, true},
		{5, 10, 10, false},
		{5, 10, 11, false},
		{5, 6, 5, true},
		{5, 6, 6, false},
		{0, 1, 0, true},
		{0, 1, -1, false},
		{0, 1 << 40, 1<<40 - 1, true},
		{0, 1 << 40, 1 << 40, false},
		{5, 10, math.MinInt, false},
		{5, 10, math.MaxInt, false},
		{5, 5, 5, false},
		{10, 5, 4, false},
		{10, 5, 5, false},
		{10, 5, 7, false},
		{10, 5, 10, false},
		{0, 0, 0, false},
		{-5, 5, -5, true},
		{-5, 5, -6, false},
		{math.MinInt, math.MaxInt, math.MinInt, true},
		{math.MinInt, math.MaxInt, math.MaxInt - 1, true},
		{math.MinInt, math.MaxInt, math.MaxInt, false},
	} {
		for _, labels := range [][]api.Pair{nil, pairs("a=1"), pairs("b=", "A=1")} {
			if got := alert.Fires(api.Alert{Labels: labels, Start: try.start, End: try.end}, try.now); got != try.want {
				t.Errorf("Fires(%d to %d, %d) = %v", try.start, try.end, try.now, got)
			}
		}
	}
}

// P7.2: Get, of keys that are there, and of texts that are none of them.
func TestGet(t *testing.T) {
	s := filled(t, from(5, 10, "a=1"), from(6, 20, "a=1", "b=2"))
	for key, want := range map[string]api.Alert{
		"l1:a1:1e":       from(5, 10, "a=1"),
		"l1:a1:11:b1:2e": from(6, 20, "a=1", "b=2"),
	} {
		if a, ok := s.Get(key); !ok || !sameAlert(a, want) {
			t.Errorf("Get(%q) = %v, %v", key, a, ok)
		}
	}
	for _, key := range []string{
		"", "le", "l", "e", "a=1", "a", "l1:a1:2e", "l1:b1:2e", "l1:b1:21:a1:1e", "l1:a1:1", "l1:a1:1ee", " l1:a1:1e",
		"l1:a1:1e\x00", "L1:a1:1e", "l01:a1:1e", "\xff", strings.Repeat("l1:a1:1e", 100_000),
	} {
		if a, ok := s.Get(key); ok || !isZero(a) {
			t.Errorf("Get(%.20q) = %v, %v", key, a, ok)
		}
	}
	for _, key := range []string{"", "le", "l1:a1:1e"} {
		if a, ok := alert.New().Get(key); ok || !isZero(a) {
			t.Errorf("Get(%q) of none = %v, %v", key, a, ok)
		}
	}
}

// isZero tells whether an alert says nothing.
func isZero(a api.Alert) bool { return sameAlert(a, api.Alert{}) }

// P7.2: Get tells what was dropped no more.
func TestGetOfDropped(t *testing.T) {
	s := filled(t, from(5, 10, "a=1"), from(5, 20, "a=2"))
	s.Drop(11)
	if a, ok := s.Get("l1:a1:1e"); ok || !isZero(a) {
		t.Errorf("Get of what was dropped = %v, %v", a, ok)
	}
	if _, ok := s.Get("l1:a1:2e"); !ok {
		t.Error("Get of what was kept: false")
	}
}

// rising are alerts by rising keys, which is not the order of their labels' texts: shorter names and values come first.
func rising() []api.Alert {
	return []api.Alert{
		from(5, 10, "a=1"),
		from(0, 100, "a=1", "b=1"),
		from(5, 6, "a=1", "b=2"),
		from(9, 10, "a=1", "aa=1"),
		from(1, 2, "a=9"),
		from(5, 10, "a=\xff"),
		from(6, 10, "a=10"),
		from(0, 5, "b=1"),
		from(3, 8, "abcdefghij=1"),
		from(4, 6, "aa=1"),
	}
}

// keysOf tells the keys of some alerts.
func keysOf(l []api.Alert) []string {
	var keys []string
	for _, a := range l {
		keys = append(keys, label.Key(a.Labels))
	}
	return keys
}

// orders calls do with some orders of a list: turned round, and each one begun elsewhere.
func orders(l []api.Alert, do func(l []api.Alert)) {
	turned := slices.Clone(l)
	slices.Reverse(turned)
	for i := range l {
		do(slices.Concat(l[i:], l[:i]))
		do(slices.Concat(turned[i:], turned[:i]))
	}
}

// P7.2: All, by rising keys, in whatever order they were told.
func TestAllRises(t *testing.T) {
	want := rising()
	slices.SortFunc(want, func(a, b api.Alert) int { return strings.Compare(label.Key(a.Labels), label.Key(b.Labels)) })
	if keys := keysOf(want); keys[0] != "l10:abcdefghij1:1e" || keys[1] != "l1:a1:11:b1:1e" || keys[len(keys)-1] != "l2:aa1:1e" {
		t.Fatalf("the keys are others: %q", keys)
	}
	orders(rising(), func(l []api.Alert) {
		s := filled(t, l...)
		for range 3 {
			hold(t, s, want...)
		}
	})
	hold(t, filled(t, full64()...), full64()...)
	turned := full64()
	slices.Reverse(turned)
	hold(t, filled(t, turned...), full64()...)
}

// P7.2: Firing, by rising keys, those alone that fire.
func TestFiringRises(t *testing.T) {
	orders(rising(), func(l []api.Alert) {
		s := filled(t, l...)
		for now := -1; now <= 101; now++ {
			var want []api.Alert
			for _, a := range s.All() {
				if now >= a.Start && now < a.End {
					want = append(want, a)
				}
			}
			if got := s.Firing(now); !slices.EqualFunc(got, want, sameAlert) {
				t.Errorf("Firing(%d) = %v, not %v", now, got, want)
			}
		}
	})
}

// P7.2: Firing, at the edges of two alerts.
func TestFiring(t *testing.T) {
	s := filled(t, from(5, 10, "a=1"), from(9, 20, "a=2"))
	for _, try := range []struct {
		now  int
		want string
	}{
		{math.MinInt, ""}, {-1, ""}, {0, ""}, {4, ""}, {5, "1"}, {8, "1"}, {9, "12"}, {10, "2"}, {19, "2"}, {20, ""}, {1 << 40, ""}, {math.MaxInt, ""},
	} {
		got := ""
		for _, a := range s.Firing(try.now) {
			got += a.Labels[0].Value
		}
		if got != try.want {
			t.Errorf("Firing(%d): %q, not %q", try.now, got, try.want)
		}
	}
	hold(t, s, from(5, 10, "a=1"), from(9, 20, "a=2"))
}

// P7.3: New has no alerts, and two of them have none in common.
func TestNew(t *testing.T) {
	one, two := alert.New(), alert.New()
	if one == nil || one == two {
		t.Fatal("no store of its own")
	}
	hold(t, one)
	if n, firing := one.Drop(math.MaxInt), one.Firing(0); n != 0 || len(firing) != 0 {
		t.Errorf("of none: %d dropped, %v fire", n, firing)
	}
	if err := one.Put(from(5, 10, "a=1")); err != api.OK {
		t.Error(int(err))
	}
	hold(t, two)
}

// P7.3: of nil nothing, false and 0.
func TestNil(t *testing.T) {
	var s *alert.Store
	for _, n := range []int{math.MinInt, -1, 0, 1, 1 << 40, math.MaxInt} {
		if l := s.Firing(n); len(l) != 0 {
			t.Errorf("Firing(%d) = %v", n, l)
		}
		if dropped := s.Drop(n); dropped != 0 {
			t.Errorf("Drop(%d) = %d", n, dropped)
		}
	}
	for _, key := range []string{"", "le", "l1:a1:1e"} {
		if a, ok := s.Get(key); ok || !isZero(a) {
			t.Errorf("Get(%q) = %v, %v", key, a, ok)
		}
	}
	if s.Len() != 0 || len(s.All()) != 0 {
		t.Errorf("%d: %v", s.Len(), s.All())
	}
	if f := s.Fork(); f != nil {
		t.Errorf("Fork() = %v", f)
	}
}

// P7.3: Drop, below, at and above an End.
func TestDrop(t *testing.T) {
	a, b, c := from(0, 10, "a=1"), from(9, 10, "a=2"), from(5, 20, "a=3")
	for _, try := range []struct {
		before int
		left   []api.Alert
	}{
		{math.MinInt, []api.Alert{a, b, c}},
		{0, []api.Alert{a, b, c}},
		{9, []api.Alert{a, b, c}},
		{10, []api.Alert{a, b, c}},
		{11, []api.Alert{c}},
		{20, []api.Alert{c}},
		{21, nil},
		{1 << 40, nil},
		{math.MaxInt, nil},
	} {
		s := filled(t, a, b, c)
		if n := s.Drop(try.before); n != 3-len(try.left) {
			t.Errorf("Drop(%d) = %d", try.before, n)
		}
		hold(t, s, try.left...)
		if n := s.Drop(try.before); n != 0 {
			t.Errorf("Drop(%d) for the second time = %d", try.before, n)
		}
		hold(t, s, try.left...)
	}
}

// P7.3: Drop, of a store that is full, one behind the other, and all at once.
func TestDropOfMany(t *testing.T) {
	var l []api.Alert
	for i, a := range full64() {
		a.End = 10 + i
		l = append(l, a)
	}
	s := filled(t, l...)
	for i := range l {
		if n := s.Drop(11 + i); n != 1 {
			t.Errorf("Drop(%d) = %d", 11+i, n)
		}
		hold(t, s, l[i+1:]...)
	}
	s = filled(t, l...)
	if n := s.Drop(1 << 40); n != 64 {
		t.Errorf("Drop of all = %d", n)
	}
	hold(t, s)
}

// P7.3: an alert that was dropped is forgotten: told again, it has its new Start.
func TestPutBehindDrop(t *testing.T) {
	s := filled(t, from(5, 10, "a=1"))
	s.Drop(11)
	if err := s.Put(from(8, 20, "a=1")); err != api.OK {
		t.Error(int(err))
	}
	hold(t, s, from(8, 20, "a=1"))
}
