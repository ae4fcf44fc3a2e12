package label_test

import (
	"regexp"
	"slices"
	"strings"
	"testing"

	"watchfire/api"
	"watchfire/label"
)

// pairs makes pairs of names and values that follow one another.
func pairs(texts ...string) []api.Pair {
	var l []api.Pair
	for i := 0; i+1 < len(texts); i += 2 {
		l = append(l, api.Pair{Name: texts[i], Value: texts[i+1]})
	}
	return l
}

// many makes so many pairs, of rising names.
func many(n int) []api.Pair {
	var l []api.Pair
	for i := range n {
		l = append(l, api.Pair{Name: string(rune('a' + i)), Value: "1"})
	}
	return l
}

// turned tells pairs from the last one to the first one.
func turned(l []api.Pair) []api.Pair {
	l = slices.Clone(l)
	slices.Reverse(l)
	return l
}

var (
	name16  = "abcdefghijklmnop"
	value64 = strings.Repeat("v", 64)
	value65 = strings.Repeat("v", 65)
)

// wantName is the document's words as a pattern.
var wantName = regexp.MustCompile(`\A[a-z_][a-z_0-9]{0,15}\z`)

// P2.1: Name, at each byte in each place.
func TestNameAtEachByte(t *testing.T) {
	for one := range 256 {
		b := string([]byte{byte(one)})
		for _, s := range []string{b, b + "a", "a" + b, "a" + b + "a", "_" + b, b + "0", name16[:15] + b, b + name16[:15], name16 + b} {
			if got, want := label.Name(s), wantName.MatchString(s); got != want {
				t.Errorf("Name(%q) = %v", s, got)
			}
		}
	}
}

// P2.1: Name, at its limits, and some wrong ones.
func TestName(t *testing.T) {
	for s, want := range map[string]bool{
		"":                             false,
		"a":                            true,
		"_":                            true,
		"z9":                           true,
		"_0":                           true,
		"0":                            false,
		"0a":                           false,
		"A":                            false,
		"aB":                           false,
		"a-b":                          false,
		"a b":                          false,
		"a\n":                          false,
		"a\x00":                        false,
		"\u00e4":                       false,
		"a\u00e4":                      false,
		"a\u0663":                      false,
		"\xff":                         false,
		name16:                         true,
		"________________":             true,
		"a123456789012345":             true,
		"1234567890123456":             false,
		name16 + "q":                   false,
		strings.Repeat("a", 1_000_000): false,
	} {
		if got := label.Name(s); got != want {
			t.Errorf("Name(%.20q) = %v", s, got)
		}
	}
}

// P2.1: Check: what it takes.
func TestCheckTakes(t *testing.T) {
	for _, l := range [][]api.Pair{
		nil,
		{},
		pairs("a", "1"),
		pairs("a", "1", "b", "2"),
		pairs("a", "1", "ab", "1", "b", "1"),
		pairs("a", "1", "a0", "1", "a_", "1", "aa", "1"),
		pairs("_", "1", "a", "1"),
		pairs("a1", "1", "a10", "1", "a2", "1"),
		pairs(name16[:15], "1", name16, "1"),
		pairs("a", "\x00", "b", "\xff", "c", " ", "d", "=\n\"{}"),
		pairs("a", value64, "b", value64),
		pairs(name16, value64),
		many(8),
	} {
		if err := label.Check(l); err != api.OK {
			t.Errorf("Check(%q) = %d", l, int(err))
		}
	}
}

// P2.1: Check: its errors, and which of them comes first, wherever it is.
func TestCheckRefuses(t *testing.T) {
	for _, c := range []struct {
		l    []api.Pair
		want api.Errno
	}{
		{many(9), api.ErrLong},
		{many(26), api.ErrLong},
		{make([]api.Pair, 9), api.ErrLong},
		{turned(many(9)), api.ErrLong},
		{pairs("a", value65), api.ErrLong},
		{pairs("a", "1", "b", value65), api.ErrLong},
		{pairs("a", value65, "b", "1"), api.ErrLong},
		{pairs("a", strings.Repeat("v", 1_000_000)), api.ErrLong},
		{pairs("", value65), api.ErrLong},
		{pairs("", "1", "b", value65), api.ErrLong},
		{pairs("b", "", "a", value65), api.ErrLong},
		{pairs("b", "1", "a", value65), api.ErrLong},
		{pairs("a", "1", "a", value65), api.ErrLong},

		{make([]api.Pair, 8), api.ErrName},
		{pairs("", ""), api.ErrName},
		{pairs("", "1"), api.ErrName},
		{pairs("a", ""), api.ErrName},
		{pairs("a", "", "b", "1"), api.ErrName},
		{pairs("a", "1", "b", ""), api.ErrName},
		{pairs("a", "1", "B", "1"), api.ErrName},
		{pairs("1", "1"), api.ErrName},
		{pairs(name16+"q", "1"), api.ErrName},
		{pairs("b", "1", "a", ""), api.ErrName},
		{pairs("b", "", "a", "1"), api.ErrName},
		{pairs("b", "1", "a", "1", "A", "1"), api.ErrName},
		{pairs("a", "1", "a", "1", "c", ""), api.ErrName},

		{pairs("b", "2", "a", "1"), api.ErrForm},
		{pairs("a", "1", "a", "1"), api.ErrForm},
		{pairs("a", "1", "a", "2"), api.ErrForm},
		{pairs("a", "1", "b", "1", "a", "1"), api.ErrForm},
		{pairs("a", "1", "c", "1", "b", "1"), api.ErrForm},
		{pairs("ab", "1", "a", "1"), api.ErrForm},
		{pairs("a2", "1", "a10", "1"), api.ErrForm},
		{pairs("a", "1", "_", "1"), api.ErrForm},
		{pairs("a_", "1", "a0", "1"), api.ErrForm},
		{pairs(name16, "1", name16[:15], "1"), api.ErrForm},
		{turned(many(8)), api.ErrForm},
	} {
		if got := label.Check(c.l); got != c.want {
			t.Errorf("Check(%.99q) = %d, want %d", c.l, int(got), int(c.want))
		}
	}
}

// P2.2: Sort: its errors, and which of them comes first; nothing beside them.
func TestSortRefuses(t *testing.T) {
	for _, c := range []struct {
		l    []api.Pair
		want api.Errno
	}{
		{many(9), api.ErrLong},
		{make([]api.Pair, 9), api.ErrLong},
		{pairs("a", value65), api.ErrLong},
		{pairs("", "1", "b", value65), api.ErrLong},
		{pairs("a", "1", "a", value65), api.ErrLong},
		{pairs("a", "1", "a", "1", "b", "", "c", value65), api.ErrLong},
		{pairs("", ""), api.ErrName},
		{pairs("a", ""), api.ErrName},
		{pairs("0", "1"), api.ErrName},
		{pairs("a", "1", "a", "1", "b", ""), api.ErrName},
		{pairs("a", "1", "a", ""), api.ErrName},
		{pairs("a", "1", "a", "1", name16+"q", "1"), api.ErrName},
		{pairs("a", "1", "a", "1"), api.ErrThere},
		{pairs("a", "1", "a", "2"), api.ErrThere},
		{pairs("a", "2", "b", "1", "a", "1"), api.ErrThere},
		{pairs("c", "1", "b", "1", "a", "1", "b", "2", "d", "1"), api.ErrThere},
		{append(many(7), many(1)...), api.ErrThere},
	} {
		l, err := label.Sort(c.l)
		if err != c.want || len(l) != 0 {
			t.Errorf("Sort(%.99q) = %q, %d, want %d", c.l, l, int(err), int(c.want))
		}
	}
}

// P2.2: Sort: the pairs by rising names.
func TestSort(t *testing.T) {
	for _, c := range []struct{ l, want []api.Pair }{
		{nil, nil},
		{[]api.Pair{}, nil},
		{pairs("a", "1"), pairs("a", "1")},
		{pairs("b", "2", "a", "1"), pairs("a", "1", "b", "2")},
		{pairs("a", "2", "b", "1"), pairs("a", "2", "b", "1")},
		{pairs("b", "1", "ab", "2", "a", "3"), pairs("a", "3", "ab", "2", "b", "1")},
		{pairs("a", "1", "_", "2"), pairs("_", "2", "a", "1")},
		{pairs("aa", "1", "a_", "2", "a0", "3", "a", "4"), pairs("a", "4", "a0", "3", "a_", "2", "aa", "1")},
		{pairs("a2", "1", "a10", "2", "a1", "3"), pairs("a1", "3", "a10", "2", "a2", "1")},
		{pairs(name16, value64, name16[:15], value64), pairs(name16[:15], value64, name16, value64)},
		{turned(many(8)), many(8)},
	} {
		got, err := label.Sort(c.l)
		if err != api.OK || !slices.Equal(got, c.want) {
			t.Errorf("Sort(%q) = %q, %d, want %q", c.l, got, int(err), c.want)
		}
	}
}

// P2.3: Get.
func TestGet(t *testing.T) {
	for _, c := range []struct {
		l          []api.Pair
		name, want string
	}{
		{nil, "", ""},
		{nil, "a", ""},
		{pairs("a", "1"), "x", ""},
		{pairs("a", "1"), "a", "1"},
		{pairs("a", "1"), "", ""},
		{pairs("a", "1"), "A", ""},
		{pairs("ab", "1"), "a", ""},
		{pairs("a", "1"), "ab", ""},
		{pairs("a", "1", "b", "2", "c", "3"), "b", "2"},
		{pairs("a", "1", "b", "2", "c", "3"), "c", "3"},
		{pairs("c", "3", "b", "2", "a", "1"), "a", "1"},
		{pairs("a", "1", "a", "2"), "a", "1"},
		{pairs("b", "0", "a", "2", "a", "1"), "a", "2"},
		{pairs("a", "", "a", "2"), "a", ""},
		{pairs("No name!", "\xff\x00"), "No name!", "\xff\x00"},
		{pairs("", value65), "", value65},
		{many(26), "z", "1"},
	} {
		if got := label.Get(c.l, c.name); got != c.want {
			t.Errorf("Get(%q, %q) = %q, want %q", c.l, c.name, got, c.want)
		}
	}
}

// P2.3: Pick.
func TestPick(t *testing.T) {
	l := pairs("a", "1", "b", "2", "c", "3")
	for _, c := range []struct {
		l     []api.Pair
		names []string
		want  []api.Pair
	}{
		{nil, nil, nil},
		{nil, []string{"a"}, nil},
		{l, nil, nil},
		{l, []string{}, nil},
		{l, []string{"z", "", "ab", "A"}, nil},
		{l, []string{"b"}, pairs("b", "2")},
		{l, []string{"b", "z"}, pairs("b", "2")},
		{l, []string{"z", "c"}, pairs("c", "3")},
		{l, []string{"c", "a"}, pairs("a", "1", "c", "3")},
		{l, []string{"c", "c", "c"}, pairs("c", "3")},
		{l, []string{"c", "b", "a"}, l},
		{turned(l), []string{"a", "b"}, pairs("b", "2", "a", "1")},
		{pairs("a", "1", "b", "0", "a", "2", "a", "1"), []string{"a"}, pairs("a", "1", "a", "2", "a", "1")},
		{pairs("", "", "No name!", value65), []string{"No name!", ""}, pairs("", "", "No name!", value65)},
		{many(26), []string{"z"}, pairs("z", "1")},
	} {
		if got := label.Pick(c.l, c.names); !slices.Equal(got, c.want) {
			t.Errorf("Pick(%q, %q) = %q, want %q", c.l, c.names, got, c.want)
		}
	}
}

// P2.3: Same, either way round.
func TestSame(t *testing.T) {
	for _, c := range []struct {
		a, b []api.Pair
		want bool
	}{
		{nil, nil, true},
		{nil, []api.Pair{}, true},
		{nil, pairs("", ""), false},
		{nil, pairs("a", "1"), false},
		{pairs("a", "1"), pairs("a", "1"), true},
		{pairs("a", "1"), pairs("a", "2"), false},
		{pairs("a", "1"), pairs("b", "1"), false},
		{pairs("a", "1"), pairs("1", "a"), false},
		{pairs("a", "1"), pairs("a", "1", "b", "2"), false},
		{pairs("a", "1"), pairs("a", "1", "a", "1"), false},
		{pairs("a", "1", "b", "2"), pairs("a", "1", "b", "2"), true},
		{pairs("a", "1", "b", "2"), pairs("b", "2", "a", "1"), false},
		{pairs("a", "1", "b", "2"), pairs("a", "2", "b", "1"), false},
		{pairs("a", "1", "b", "2"), pairs("a", "1", "b", "3"), false},
		{pairs("ab", "c"), pairs("a", "bc"), false},
		{pairs("", value65, "No name!", ""), pairs("", value65, "No name!", ""), true},
		{many(26), many(26), true},
		{many(26), many(25), false},
	} {
		if label.Same(c.a, c.b) != c.want || label.Same(c.b, c.a) != c.want {
			t.Errorf("Same(%q, %q) is not %v", c.a, c.b, c.want)
		}
	}
}

// Rule 3: what is handed in stays as it is, with its spare room; what is answered is new memory.
func TestNothingIsSharedOrChanged(t *testing.T) {
	l, names := pairs("c", "3", "b", "2", "a", "1", "spare", "room"), []string{"b", "a", "spare"}
	was, wasNames := slices.Clone(l), slices.Clone(names)
	list, few := l[:3], names[:2]
	sorted, _ := label.Sort(list)
	picked := label.Pick(list, few)
	again, _ := label.Sort(list)
	label.Check(list)
	label.Get(list, "a")
	label.Same(list, list)
	key := label.Key(list)
	for _, answer := range [][]api.Pair{sorted, picked} {
		clear(answer[:cap(answer)])
	}
	if !slices.Equal(l, was) || !slices.Equal(names, wasNames) {
		t.Errorf("arguments: %q, %q", l, names)
	}
	clear(l)
	if !slices.Equal(again, pairs("a", "1", "b", "2", "c", "3")) || key != "l1:c1:31:b1:21:a1:1e" {
		t.Errorf("an answer changed: %q, %q", again, key)
	}
}
