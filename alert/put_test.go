package alert_test

import (
	"math"
	"slices"
	"strconv"
	"strings"
	"testing"

	"watchfire/alert"
	"watchfire/api"
	"watchfire/label"
)

// pairs makes labels, of texts such as a=1.
func pairs(texts ...string) []api.Pair {
	var l []api.Pair
	for _, text := range texts {
		name, value, _ := strings.Cut(text, "=")
		l = append(l, api.Pair{Name: name, Value: value})
	}
	return l
}

// from makes an alert, of labels such as a=1.
func from(start, end int, texts ...string) api.Alert {
	return api.Alert{Labels: pairs(texts...), Start: start, End: end}
}

// many makes so many labels, of rising names.
func many(n int) []string {
	var texts []string
	for i := range n {
		texts = append(texts, string(rune('a'+i))+"=1")
	}
	return texts
}

// filled makes a store with these alerts.
func filled(t *testing.T, l ...api.Alert) *alert.Store {
	t.Helper()
	s := alert.New()
	for _, a := range l {
		if err := s.Put(a); err != api.OK {
			t.Fatalf("Put(%v) = %d", a, int(err))
		}
	}
	return s
}

// sameAlert tells whether two alerts say the same.
func sameAlert(a, b api.Alert) bool {
	return slices.Equal(a.Labels, b.Labels) && a.Start == b.Start && a.End == b.End
}

// hold holds all that a store tells against the alerts that it must have, by rising keys.
func hold(t *testing.T, s *alert.Store, want ...api.Alert) {
	t.Helper()
	if got := s.All(); !slices.EqualFunc(got, want, sameAlert) {
		t.Errorf("All() = %v, not %v", got, want)
	}
	if got := s.Len(); got != len(want) {
		t.Errorf("Len() = %d, not %d", got, len(want))
	}
	for _, a := range want {
		if got, ok := s.Get(label.Key(a.Labels)); !ok || !sameAlert(got, a) {
			t.Errorf("Get(%q) = %v, %v, not %v", label.Key(a.Labels), got, ok, a)
		}
	}
}

// P7.1: the chapter's example.
func TestExample(t *testing.T) {
	s := alert.New()
	for _, step := range []struct{ start, end, wantStart, wantEnd int }{
		{5, 10, 5, 10},
		{8, 20, 5, 20},
		{30, 40, 30, 40},
		{35, 36, 30, 36},
	} {
		if err := s.Put(from(step.start, step.end, "a=1")); err != api.OK {
			t.Errorf("Put(%d to %d) = %d", step.start, step.end, int(err))
		}
		hold(t, s, from(step.wantStart, step.wantEnd, "a=1"))
	}
}

// P7.1: what is taken, at the limits of times and labels.
func TestPutTakes(t *testing.T) {
	for _, a := range []api.Alert{
		from(0, 1, "a=1"),
		from(5, 6, "a=1"),
		from(0, 1<<40, "a=1"),
		from(1<<40-1, 1<<40, "a=1"),
		from(5, 10, many(8)...),
		from(5, 10, "_=\x00\xff"),
		from(5, 10, "abcdefghijklmnop="+strings.Repeat("v", 64)),
	} {
		hold(t, filled(t, a), a)
	}
}

// refused are alerts that may not be, with the error that is named first of those that apply.
var refused = []struct {
	says string
	a    api.Alert
	want api.Errno
}{
	{"nine labels", from(5, 10, many(9)...), api.ErrLong},
	{"a value that is too long", from(5, 10, "a="+strings.Repeat("v", 65)), api.ErrLong},
	{"no name", from(5, 10, "=1"), api.ErrName},
	{"a wrong name", from(5, 10, "A=1"), api.ErrName},
	{"a name that is too long", from(5, 10, "abcdefghijklmnopq=1"), api.ErrName},
	{"no value", from(5, 10, "a="), api.ErrName},
	{"names that fall", from(5, 10, "b=1", "a=1"), api.ErrForm},
	{"a name twice", from(5, 10, "a=1", "a=1"), api.ErrForm},
	{"nil labels", api.Alert{Start: 5, End: 10}, api.ErrName},
	{"empty labels", api.Alert{Labels: []api.Pair{}, Start: 5, End: 10}, api.ErrName},
	{"Start below 0", from(-1, 10, "a=1"), api.ErrTime},
	{"the lowest Start", from(math.MinInt, 10, "a=1"), api.ErrTime},
	{"End at Start", from(5, 5, "a=1"), api.ErrTime},
	{"both 0", from(0, 0, "a=1"), api.ErrTime},
	{"both at the last time", from(1<<40, 1<<40, "a=1"), api.ErrTime},
	{"End below Start", from(5, 4, "a=1"), api.ErrTime},
	{"End below 0", from(5, -1, "a=1"), api.ErrTime},
	{"the lowest End", from(0, math.MinInt, "a=1"), api.ErrTime},
	{"both below 0", from(-2, -1, "a=1"), api.ErrTime},
	{"End above the last time", from(5, 1<<40+1, "a=1"), api.ErrTime},
	{"the highest End", from(0, math.MaxInt, "a=1"), api.ErrTime},
	{"both above the last time", from(1<<40+1, 1<<40+2, "a=1"), api.ErrTime},
	{"the lowest Start and the highest End", from(math.MinInt, math.MaxInt, "a=1"), api.ErrTime},
	{"the highest Start and the lowest End", from(math.MaxInt, math.MinInt, "a=1"), api.ErrTime},

	{"nine labels, one of them wrong", from(5, 10, append(many(8), "I=1")...), api.ErrLong},
	{"too long, and wrong times", from(5, 5, "a="+strings.Repeat("v", 65)), api.ErrLong},
	{"names that fall, one of them wrong", from(5, 10, "b=1", "A=1"), api.ErrName},
	{"no value, and wrong times", from(-1, 10, "a="), api.ErrName},
	{"names that fall, and wrong times", from(5, 1<<40+1, "b=1", "a=1"), api.ErrForm},
	{"nothing at all", api.Alert{}, api.ErrName},
	{"no labels, and wrong times", from(5, 5), api.ErrName},
	{"Start below 0, and End above the last time", from(-1, 1<<40+1, "a=1"), api.ErrTime},
}

// P7.1: what is refused changes nothing: in an empty store, in one with these labels, and in a full one.
func TestPutRefuses(t *testing.T) {
	full := full64()
	for _, try := range refused {
		for _, l := range [][]api.Alert{nil, {from(5, 10, "a=1")}, full} {
			s := filled(t, l...)
			if err := s.Put(try.a); err != try.want {
				t.Errorf("%s, of %d there: %d, not %d", try.says, len(l), int(err), int(try.want))
			}
			hold(t, s, l...)
		}
	}
}

// P7.1: a store that is nil takes nothing, and says so ahead of all else.
func TestPutOfNil(t *testing.T) {
	var s *alert.Store
	if err := s.Put(from(5, 10, "a=1")); err != api.ErrNil {
		t.Errorf("Put of nil = %d", int(err))
	}
	for _, try := range refused {
		if err := s.Put(try.a); err != api.ErrNil {
			t.Errorf("%s: Put of nil = %d", try.says, int(err))
		}
	}
}

// full64 makes as many alerts as a store takes, by rising keys.
func full64() []api.Alert {
	var l []api.Alert
	for i := range 64 {
		l = append(l, from(5, 10, "n="+strconv.Itoa(100+i)))
	}
	return l
}

// P7.1: 64 alerts are taken, one more only of labels that are there.
func TestPutFull(t *testing.T) {
	l := full64()
	s := filled(t, l...)
	hold(t, s, l...)
	for _, a := range []api.Alert{from(5, 10, "n=164"), from(0, 1, "a=1"), from(5, 10, "n=100", "o=1")} {
		if err := s.Put(a); err != api.ErrFull {
			t.Errorf("Put(%v) in a full store = %d", a, int(err))
		}
		hold(t, s, l...)
	}
	for i := range l {
		l[i].End = 11 + i
		if err := s.Put(from(6, 11+i, l[i].Labels[0].Name+"="+l[i].Labels[0].Value)); err != api.OK {
			t.Errorf("Put of the labels %d in a full store = %d", i, int(err))
		}
	}
	hold(t, s, l...)
}

// P7.1: the 64th alert is taken, though 63 are there, and a place that is free again is filled.
func TestPutIntoTheLastPlace(t *testing.T) {
	l := full64()
	s := filled(t, l[:63]...)
	if err := s.Put(from(1, 2, "n=163")); err != api.OK {
		t.Errorf("Put of the last one = %d", int(err))
	}
	if err := s.Put(from(1, 2, "n=164")); err != api.ErrFull {
		t.Errorf("Put of one too many = %d", int(err))
	}
	if n := s.Drop(3); n != 1 {
		t.Errorf("Drop(3) = %d", n)
	}
	if err := s.Put(from(1, 2, "n=164")); err != api.OK {
		t.Errorf("Put into a free place = %d", int(err))
	}
	hold(t, s, append(l[:63:63], from(1, 2, "n=164"))...)
}

// P7.1: two of the same labels, told in either order.
func TestPutTwice(t *testing.T) {
	type span struct{ start, end int }
	for _, try := range []struct {
		says                  string
		one, two, there, back span
	}{
		{"the same", span{5, 10}, span{5, 10}, span{5, 10}, span{5, 10}},
		{"they meet", span{5, 10}, span{8, 20}, span{5, 20}, span{5, 10}},
		{"they meet by one tick", span{5, 10}, span{9, 20}, span{5, 20}, span{5, 10}},
		{"they touch", span{5, 10}, span{10, 20}, span{5, 20}, span{5, 10}},
		{"one tick between them", span{5, 10}, span{11, 20}, span{11, 20}, span{5, 10}},
		{"far from one another", span{5, 10}, span{1000, 1 << 40}, span{1000, 1 << 40}, span{5, 10}},
		{"one within the other", span{5, 20}, span{8, 10}, span{5, 10}, span{5, 20}},
		{"one within, with the same Start", span{5, 20}, span{5, 10}, span{5, 10}, span{5, 20}},
		{"one within, with the same End", span{5, 20}, span{10, 20}, span{5, 20}, span{5, 20}},
		{"from the first time on", span{0, 1}, span{1, 2}, span{0, 2}, span{0, 1}},
		{"a gap behind the first time", span{0, 1}, span{2, 3}, span{2, 3}, span{0, 1}},
		{"up to the last time", span{0, 1<<40 - 1}, span{1<<40 - 1, 1 << 40}, span{0, 1 << 40}, span{0, 1<<40 - 1}},
		{"a gap ahead of the last time", span{0, 1<<40 - 2}, span{1<<40 - 1, 1 << 40}, span{1<<40 - 1, 1 << 40}, span{0, 1<<40 - 2}},
	} {
		t.Run(try.says, func(t *testing.T) {
			one, two := from(try.one.start, try.one.end, "a=1"), from(try.two.start, try.two.end, "a=1")
			hold(t, filled(t, one, two), from(try.there.start, try.there.end, "a=1"))
			hold(t, filled(t, two, one), from(try.back.start, try.back.end, "a=1"))
		})
	}
}

// P7.1: what lies apart forgets the beginning, what meets hands it on, however many there are.
func TestPutManyTimes(t *testing.T) {
	s := alert.New()
	for i := range 1000 {
		if err := s.Put(from(2*i, 2*i+2, "a=1")); err != api.OK {
			t.Fatal(int(err))
		}
	}
	hold(t, s, from(0, 2000, "a=1"))
	for i := range 1000 {
		if err := s.Put(from(3000+3*i, 3002+3*i, "a=1")); err != api.OK {
			t.Fatal(int(err))
		}
	}
	hold(t, s, from(5997, 5999, "a=1"))
}

// P7.4: a later End takes an earlier one's place, and the other way round, wherever the Start is.
func TestLastEndCounts(t *testing.T) {
	for first := 1; first < 12; first++ {
		for start := range 12 {
			for end := start + 1; end <= 12; end++ {
				s := filled(t, from(0, first, "a=1"), from(start, end, "a=1"))
				if a, _ := s.Get("l1:a1:1e"); a.End != end {
					t.Errorf("0 to %d, then %d to %d: the End is %d", first, start, end, a.End)
				}
			}
		}
	}
}

// P7.4: alerts of unlike labels do not touch one another, though they are nearly the same.
func TestUnlikeLabels(t *testing.T) {
	texts := [][]string{
		{"a=1"}, {"a=2"}, {"a=11"}, {"a=1e"}, {"a=e"}, {"aa=1"}, {"b=1"}, {"a=1", "b=1"}, {"a=1", "b=2"}, {"a=11:b1:1"}, {"a=A"}, {"a=a"},
	}
	for i, changed := range texts {
		s := alert.New()
		for k, other := range texts {
			if err := s.Put(from(10+k, 30, other...)); err != api.OK {
				t.Fatal(other, int(err))
			}
		}
		if s.Put(from(0, 25, changed...)) != api.OK || s.Len() != len(texts) {
			t.Errorf("%v: %d alerts", changed, s.Len())
		}
		for k, other := range texts {
			want := from(10+k, 30, other...)
			if k == i {
				want = from(0, 25, changed...)
			}
			if a, ok := s.Get(label.Key(pairs(other...))); !ok || !sameAlert(a, want) {
				t.Errorf("behind %v: %v, not %v", changed, a, want)
			}
		}
	}
}
