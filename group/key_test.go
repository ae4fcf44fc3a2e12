package group_test

import (
	"fmt"
	"math"
	"slices"
	"strconv"
	"strings"
	"testing"

	"watchfire/api"
	"watchfire/group"
)

// pairs makes labels, of texts such as a=1.
func pairs(texts ...string) []api.Pair {
	var l []api.Pair
	for _, text := range texts {
		name, value, _ := strings.Cut(text, "=")
		l = append(l, api.Pair{Name: name, Value: value})
	}
	return l
}

// from makes an alert, of labels such as a=1.
func from(start, end int, texts ...string) api.Alert {
	return api.Alert{Labels: pairs(texts...), Start: start, End: end}
}

// laid lays texts one behind the other, by the words of P1.1.
func laid(l []api.Pair) string {
	var s strings.Builder
	for _, pair := range l {
		fmt.Fprintf(&s, "%d:%s%d:%s", len(pair.Name), pair.Name, len(pair.Value), pair.Value)
	}
	return s.String()
}

// wantKey tells P8.1's words.
func wantKey(route int, labels []api.Pair) string {
	return fmt.Sprintf("li%de%se", route, laid(labels))
}

// labelKey tells labels' own key, by the words of P2.4.
func labelKey(labels []api.Pair) string { return "l" + laid(labels) + "e" }

// P8.1: keys, written out.
func TestKey(t *testing.T) {
	for _, try := range []struct {
		route  int
		labels []api.Pair
		want   string
	}{
		{2, pairs("a=1"), "li2e1:a1:1e"},
		{0, pairs("a=1", "b=22"), "li0e1:a1:11:b2:22e"},
		{15, pairs("abcdefghijklmnop=1"), "li15e16:abcdefghijklmnop1:1e"},
		{0, nil, "li0ee"},
		{2, nil, "li2ee"},
		{2, []api.Pair{}, "li2ee"},
		{0, pairs("b=2", "a=1"), "li0e1:b1:21:a1:1e"},
		{0, pairs("a=2", "a=1"), "li0e1:a1:21:a1:1e"},
		{0, pairs("a=1", "a=1"), "li0e1:a1:11:a1:1e"},
		{-1, pairs("a=1"), "li-1e1:a1:1e"},
		{-1, nil, "li-1ee"},
		{-20, pairs("b=2", "a=1"), "li-20e1:b1:21:a1:1e"},
		{math.MinInt, nil, "li-9223372036854775808ee"},
		{math.MaxInt, nil, "li9223372036854775807ee"},
		{1, pairs("="), "li1e0:0:e"},
		{1, pairs("a="), "li1e1:a0:e"},
		{1, pairs("=1"), "li1e0:1:1e"},
		{1, pairs("A b=\x00\xffe"), "li1e3:A b3:\x00\xffee"},
		{1, pairs("a=1:b"), "li1e1:a3:1:be"},
	} {
		if got := group.Key(try.route, try.labels); got != try.want {
			t.Errorf("Key(%d, %q) = %q, not %q", try.route, try.labels, got, try.want)
		}
	}
}

// P8.1: each route about those that may be, with each number of labels, and long texts.
func TestKeyWords(t *testing.T) {
	var labels []api.Pair
	for n := range 30 {
		for route := -20; route <= 120; route++ {
			if got, want := group.Key(route, labels), wantKey(route, labels); got != want {
				t.Fatalf("Key(%d, %q) = %q, not %q", route, labels, got, want)
			}
		}
		labels = append(labels, api.Pair{Name: strings.Repeat("n", n), Value: strings.Repeat("v", 7*n)})
	}
	long := []api.Pair{{Name: strings.Repeat("n", 300_000), Value: strings.Repeat("\xff", 1_000_000)}}
	if got := group.Key(3, long); got != wantKey(3, long) {
		t.Errorf("Key of a long label has %d bytes", len(got))
	}
	many := slices.Repeat(pairs("a=1"), 100_000)
	if got := group.Key(3, many); got != "li3e"+strings.Repeat("1:a1:1", 100_000)+"e" {
		t.Errorf("Key of many labels has %d bytes", len(got))
	}
}

// P8.1, P8.5: unlike routes and unlike labels have unlike keys, whatever their bytes.
func TestKeyOnce(t *testing.T) {
	texts := []string{"", "a", "1", "e", "i1e", "1:", "1:a", "0:", "a1:1", "le"}
	var all []api.Pair
	for _, name := range texts {
		for _, value := range texts {
			all = append(all, api.Pair{Name: name, Value: value})
		}
	}
	lists := [][]api.Pair{nil}
	for _, a := range all {
		lists = append(lists, []api.Pair{a})
		for _, b := range all {
			lists = append(lists, []api.Pair{a, b})
		}
	}
	of := map[string]string{}
	for _, route := range []int{-11, -1, 0, 1, 11} {
		for _, labels := range lists {
			key, says := group.Key(route, labels), strconv.Itoa(route)+fmt.Sprintf("%q", labels)
			if other, there := of[key]; there {
				t.Fatalf("%s and %s have one key: %q", says, other, key)
			}
			of[key] = says
		}
	}
}

// Rule 3: Key changes nothing of its argument, nor what stands behind it.
func TestKeyArgumentStays(t *testing.T) {
	room := pairs("b=2", "a=1", "c=3")
	group.Key(1, room[:2])
	if !slices.Equal(room, pairs("b=2", "a=1", "c=3")) {
		t.Errorf("changed: %v", room)
	}
}
