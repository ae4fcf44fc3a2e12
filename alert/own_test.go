package alert_test

import (
	"slices"
	"testing"

	"watchfire/alert"
	"watchfire/api"
	"watchfire/label"
)

// spoil changes an alert's labels, and what stands in the room behind them.
func spoil(a api.Alert) {
	room := a.Labels[:cap(a.Labels)]
	for i := range room {
		room[i] = api.Pair{Name: "spoilt", Value: "x"}
	}
}

// P7.2: labels that the caller changes behind Put are not the store's, of new labels and of those that were there.
func TestLabelsBehindPut(t *testing.T) {
	s := alert.New()
	for _, end := range []int{10, 20, 5} {
		a := from(0, end, "a=1", "b=2")
		if err := s.Put(a); err != api.OK {
			t.Fatal(int(err))
		}
		spoil(a)
		hold(t, s, from(0, end, "a=1", "b=2"))
	}
	apart := from(30, 40, "a=1", "b=2")
	if err := s.Put(apart); err != api.OK {
		t.Fatal(int(err))
	}
	spoil(apart)
	hold(t, s, from(30, 40, "a=1", "b=2"))
}

// P7.2: labels that the caller changes in what was told are the caller's own.
func TestLabelsOfAnswers(t *testing.T) {
	want := []api.Alert{from(0, 10, "a=1"), from(0, 10, "a=1", "b=2", "c=3"), from(0, 10, "a=2", "b=2")}
	slices.SortFunc(want, func(a, b api.Alert) int { return slices.Compare(keysOf([]api.Alert{a}), keysOf([]api.Alert{b})) })
	for _, tell := range []func(s *alert.Store) []api.Alert{
		(*alert.Store).All,
		func(s *alert.Store) []api.Alert { return s.Firing(5) },
		func(s *alert.Store) []api.Alert {
			var l []api.Alert
			for _, a := range want {
				got, _ := s.Get(label.Key(a.Labels))
				l = append(l, got)
			}
			return l
		},
	} {
		s := filled(t, want...)
		first, second := tell(s), tell(s)
		for i, a := range first {
			spoil(a)
			if rest := first[i+1:]; !slices.EqualFunc(rest, want[i+1:], sameAlert) {
				t.Errorf("two lists of one answer are one: %v", rest)
			}
		}
		clear(first[:cap(first)])
		if !slices.EqualFunc(second, want, sameAlert) {
			t.Errorf("another answer changed: %v", second)
		}
		hold(t, s, want...)
	}
}

// Rule 3: Put changes nothing of its argument, nor what stands behind it.
func TestArgumentStays(t *testing.T) {
	s := filled(t, from(0, 10, "a=1"))
	room := pairs("a=1", "b=2", "c=3")
	for _, a := range []api.Alert{
		{Labels: room[:1], Start: 5, End: 20},
		{Labels: room[:1], Start: 30, End: 40},
		{Labels: room[:2], Start: 5, End: 20},
		{Labels: room[:2], Start: 5, End: 5},
		{Labels: room[:0], Start: 5, End: 20},
	} {
		s.Put(a)
		alert.Fires(a, 5)
		if !slices.Equal(room, pairs("a=1", "b=2", "c=3")) {
			t.Fatalf("Put(%v) changed its labels: %v", a, room)
		}
	}
}

// P7.3: a fork is as the store, and neither changes the other behind it.
func TestFork(t *testing.T) {
	l := []api.Alert{from(5, 10, "a=1"), from(5, 20, "a=2"), from(5, 30, "a=3")}
	changes := []struct {
		says string
		do   func(s *alert.Store)
		want []api.Alert
	}{
		{"a new one", func(s *alert.Store) { s.Put(from(1, 2, "a=4")) }, append(l[:3:3], from(1, 2, "a=4"))},
		{"a later End", func(s *alert.Store) { s.Put(from(6, 11, "a=1")) }, []api.Alert{from(5, 11, "a=1"), l[1], l[2]}},
		{"one that lies apart", func(s *alert.Store) { s.Put(from(40, 41, "a=3")) }, []api.Alert{l[0], l[1], from(40, 41, "a=3")}},
		{"some dropped", func(s *alert.Store) { s.Drop(21) }, l[2:]},
		{"all dropped", func(s *alert.Store) { s.Drop(100) }, nil},
		{"what it told is changed", func(s *alert.Store) {
			for _, a := range s.All() {
				spoil(a)
			}
		}, l},
		{"nothing", func(*alert.Store) {}, l},
	}
	for _, change := range changes {
		t.Run(change.says, func(t *testing.T) {
			s := filled(t, l...)
			f := s.Fork()
			if f == nil || f == s {
				t.Fatal("no store of its own")
			}
			hold(t, f, l...)
			change.do(s)
			hold(t, s, change.want...)
			hold(t, f, l...)

			s = filled(t, l...)
			f = s.Fork()
			change.do(f)
			hold(t, f, change.want...)
			hold(t, s, l...)
		})
	}
}

// P7.3: forks of an empty store, of a full one, and of a fork.
func TestForkOfForks(t *testing.T) {
	empty := alert.New()
	f := empty.Fork()
	hold(t, f)
	if err := f.Put(from(5, 10, "a=1")); err != api.OK {
		t.Error(int(err))
	}
	hold(t, empty)
	hold(t, f, from(5, 10, "a=1"))

	full := filled(t, full64()...)
	f = full.Fork()
	if err := f.Put(from(5, 10, "a=1")); err != api.ErrFull {
		t.Errorf("Put into a full fork = %d", int(err))
	}
	f.Drop(11)
	hold(t, f)
	hold(t, full, full64()...)

	one := filled(t, from(5, 10, "a=1"))
	two := one.Fork()
	three := two.Fork()
	two.Drop(11)
	three.Put(from(7, 12, "a=1"))
	hold(t, one, from(5, 10, "a=1"))
	hold(t, two)
	hold(t, three, from(5, 12, "a=1"))
}
