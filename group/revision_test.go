package group_test

import (
	"fmt"
	"math"
	"reflect"
	"slices"
	"strings"
	"testing"

	"watchfire/api"
	"watchfire/group"
)

// wantRevision tells P8.3's words: of the alerts that are left it takes the first one with the lowest key, again and again.
func wantRevision(alerts []api.Alert, now int) string {
	left, s := slices.Clone(alerts), ""
	for len(left) > 0 {
		lowest := 0
		for i := range left {
			if labelKey(left[i].Labels) < labelKey(left[lowest].Labels) {
				lowest = i
			}
		}
		key, fires := labelKey(left[lowest].Labels), 0
		if now >= left[lowest].Start && now < left[lowest].End {
			fires = 1
		}
		s += fmt.Sprintf("%d:%si%de", len(key), key, fires)
		left = slices.Delete(left, lowest, lowest+1)
	}
	if s == "" {
		return ""
	}
	return "l" + s + "e"
}

// P8.3: revisions, written out.
func TestRevision(t *testing.T) {
	one, two, ended := from(1, 5, "a=1"), from(2, 4, "b=2"), from(0, 1, "a=1")
	for _, try := range []struct {
		says   string
		alerts []api.Alert
		now    int
		want   string
	}{
		{"the example", []api.Alert{one}, 2, "l8:l1:a1:1ei1ee"},
		{"ended", []api.Alert{one}, 7, "l8:l1:a1:1ei0ee"},
		{"no alerts", nil, 2, ""},
		{"an empty list", []api.Alert{}, 2, ""},
		{"two", []api.Alert{one, two}, 3, "l8:l1:a1:1ei1e8:l1:b1:2ei1ee"},
		{"two in the other order", []api.Alert{two, one}, 3, "l8:l1:a1:1ei1e8:l1:b1:2ei1ee"},
		{"two of which one fires", []api.Alert{two, one}, 4, "l8:l1:a1:1ei1e8:l1:b1:2ei0ee"},
		{"two of which the other one fires", []api.Alert{from(0, 1, "a=1"), two}, 3, "l8:l1:a1:1ei0e8:l1:b1:2ei1ee"},
		{"two that do not", []api.Alert{one, two}, 5, "l8:l1:a1:1ei0e8:l1:b1:2ei0ee"},
		{"two with one key", []api.Alert{one, ended}, 2, "l8:l1:a1:1ei1e8:l1:a1:1ei0ee"},
		{"two with one key, the other one first", []api.Alert{ended, one}, 2, "l8:l1:a1:1ei0e8:l1:a1:1ei1ee"},
		{"two with one key, and one between", []api.Alert{ended, two, one}, 2, "l8:l1:a1:1ei0e8:l1:a1:1ei1e8:l1:b1:2ei1ee"},
		{"one twice", []api.Alert{one, one}, 2, "l8:l1:a1:1ei1e8:l1:a1:1ei1ee"},
		{"a longer key", []api.Alert{from(1, 5, "a=1", "b=2")}, 2, "l14:l1:a1:11:b1:2ei1ee"},
		{"no labels", []api.Alert{from(1, 5)}, 2, "l2:lei1ee"},
		{"labels in no order", []api.Alert{from(1, 5, "b=2", "a=1")}, 2, "l14:l1:b1:21:a1:1ei1ee"},
		{"wrong labels", []api.Alert{from(1, 5, "A=", "=\xff")}, 2, "l12:l1:A0:0:1:\xffei1ee"},
	} {
		if got := group.Revision(try.alerts, try.now); got != try.want {
			t.Errorf("%s: %q, not %q", try.says, got, try.want)
		}
		if got := wantRevision(try.alerts, try.now); got != try.want {
			t.Errorf("%s, by words: %q, not %q", try.says, got, try.want)
		}
	}
}

// P8.3: at each edge of an alert's times, and of times that may not be.
func TestRevisionTimes(t *testing.T) {
	for _, try := range []struct {
		start, end, now, want int
	}{
		{5, 10, 4, 0},
		{5, 10, 5, 1},
		{5, 10, 6, 1},
		{5, 10, 9, 1},
		{5, 10, 10, 0},
		{5, 10, 11, 0},
		{5, 6, 5, 1},
		{5, 6, 6, 0},
		{0, 1 << 40, 0, 1},
		{0, 1 << 40, 1<<40 - 1, 1},
		{0, 1 << 40, 1 << 40, 0},
		{0, 1, -1, 0},
		{5, 5, 5, 0},
		{10, 5, 7, 0},
		{-5, 5, -5, 1},
		{5, 10, math.MinInt, 0},
		{5, 10, math.MaxInt, 0},
		{math.MinInt, math.MaxInt, math.MinInt, 1},
		{math.MinInt, math.MaxInt, math.MaxInt - 1, 1},
		{math.MinInt, math.MaxInt, math.MaxInt, 0},
	} {
		want := fmt.Sprintf("l8:l1:a1:1ei%dee", try.want)
		if got := group.Revision([]api.Alert{from(try.start, try.end, "a=1")}, try.now); got != want {
			t.Errorf("%d to %d, at %d: %q", try.start, try.end, try.now, got)
		}
	}
}

// P8.3: keys rise byte by byte, in whatever order the alerts came; one key keeps their order, of many alerts, too.
func TestRevisionRises(t *testing.T) {
	alerts := []api.Alert{
		from(5, 6, "abcdefghij=1"), from(1, 9, "a=1", "b=1"), from(3, 4, "a=1", "b=2"), from(2, 3, "a=1", "aa=1"), from(1, 2, "a=1"),
		from(8, 9, "a=2"), from(0, 1, "a=\xff"), from(9, 10, "a=10"), from(1, 5, "b=1"), from(4, 5, "aa=1"), from(3, 8),
	}
	for i := range alerts {
		turned := slices.Concat(alerts[i:], alerts[:i])
		for range 2 {
			for now := range 11 {
				if got, want := group.Revision(turned, now), wantRevision(turned, now); got != want {
					t.Fatalf("Revision(%v, %d) = %q, not %q", turned, now, got, want)
				}
			}
			slices.Reverse(turned)
		}
	}
	var many []api.Alert
	for i := range 200 {
		many = append(many, from(i*7%5, i*7%5+2, fmt.Sprint("a=", i%3)))
	}
	for now := range 8 {
		if got, want := group.Revision(many, now), wantRevision(many, now); got != want {
			t.Fatalf("Revision of many at %d = %q, not %q", now, got, want)
		}
	}
}

// told are alerts of three labels of which each one is not there, fires, does not yet, or does no more; in each order.
func told(yield func(alerts []api.Alert, state [3]int)) {
	spans := [][2]int{{}, {3, 8}, {6, 9}, {1, 5}}
	for n := range 64 {
		kinds := [3]int{n % 4, n / 4 % 4, n / 16}
		// Not yet and no more are one: it does not fire.
		state := [3]int{min(kinds[0], 2), min(kinds[1], 2), min(kinds[2], 2)}
		for _, order := range [][]int{{0, 1, 2}, {0, 2, 1}, {1, 0, 2}, {1, 2, 0}, {2, 0, 1}, {2, 1, 0}} {
			var alerts []api.Alert
			for _, i := range order {
				if span := spans[kinds[i]]; kinds[i] > 0 {
					alerts = append(alerts, from(span[0], span[1], []string{"a=1", "a=2", "aa=1"}[i]))
				}
			}
			yield(alerts, state)
		}
	}
}

// P8.5: two lists of alerts have one revision just if the same ones fire, and the same ones do not.
func TestRevisionJustIf(t *testing.T) {
	of, states := map[string][3]int{}, map[[3]int]string{}
	told(func(alerts []api.Alert, state [3]int) {
		revision := group.Revision(alerts, 5)
		if other, there := of[revision]; there && other != state {
			t.Errorf("%q is said of %v and of %v", revision, other, state)
		}
		if other, there := states[state]; there && other != revision {
			t.Errorf("%v is said by %q and by %q", state, other, revision)
		}
		of[revision], states[state] = state, revision
	})
	if len(of) != 27 {
		t.Errorf("%d revisions", len(of))
	}
}

// P8.5: unlike labels have unlike revisions, whatever their bytes.
func TestRevisionOnce(t *testing.T) {
	texts := []string{"", "a", "1", "e", "i1e", "ei1e", "1:", "1:a", "0:", "le", "2:le"}
	of := map[string]string{}
	note := func(alerts ...api.Alert) {
		revision, says := group.Revision(alerts, 0), fmt.Sprint(alerts)
		if other, there := of[revision]; there {
			t.Fatalf("%s and %s have one revision: %q", says, other, revision)
		}
		of[revision] = says
	}
	note()
	for _, name := range texts {
		for _, value := range texts {
			one := api.Alert{Labels: []api.Pair{{Name: name, Value: value}}}
			note(one)
			note(api.Alert{}, one)
			note(one, one)
			note(one, one, one)
			for _, other := range texts {
				note(api.Alert{Labels: []api.Pair{{Name: name, Value: value}, {Name: other, Value: "x"}}})
			}
		}
	}
}

// P8.3: far more alerts than a store takes, and long labels.
func TestRevisionGreat(t *testing.T) {
	const n = 100_000
	var alerts []api.Alert
	for i := range n {
		alerts = append(alerts, from(0, i%2, fmt.Sprintf("a=%05d", n-1-i)))
	}
	revision := group.Revision(alerts, 0)
	if len(revision) != n*18+2 || !strings.HasPrefix(revision, "l12:l1:a5:00000ei1e12:l1:a5:00001ei0e") {
		t.Errorf("%d bytes, %.50q", len(revision), revision)
	}
	if firing, resolved := group.Counts(revision); firing != n/2 || resolved != n/2 {
		t.Errorf("Counts = %d, %d", firing, resolved)
	}
	long := api.Alert{Labels: append(slices.Repeat(pairs("a=1"), 100_000), api.Pair{Name: "b", Value: strings.Repeat("\xff", 1_000_000)}), End: 1}
	if got := group.Revision([]api.Alert{long}, 0); got != wantRevision([]api.Alert{long}, 0) {
		t.Errorf("%d bytes", len(got))
	} else if firing, resolved := group.Counts(got); firing != 1 || resolved != 0 {
		t.Errorf("Counts = %d, %d", firing, resolved)
	}
}

// Rule 3: Revision changes nothing of its arguments, nor what stands behind them.
func TestRevisionArgumentsStay(t *testing.T) {
	room := func() ([]api.Alert, []api.Pair) {
		labels := pairs("b=2", "a=1", "c=3", "d=4")
		return []api.Alert{{Labels: labels[:2], Start: 9}, {Labels: labels[2:3], Start: 8}, {Labels: labels[:1], Start: 7}, {Start: 6}}, labels
	}
	alerts, labels := room()
	group.Revision(alerts[:3], 5)
	wantAlerts, wantLabels := room()
	if !reflect.DeepEqual(alerts, wantAlerts) || !slices.Equal(labels, wantLabels) {
		t.Errorf("changed: %v, %v", alerts, labels)
	}
}
