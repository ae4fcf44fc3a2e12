package match_test

import (
	"regexp"
	"slices"
	"strings"
	"testing"

	"watchfire/api"
	"watchfire/match"
)

var (
	name16  = "abcdefghijklmnop"
	value64 = strings.Repeat("v", 64)
	value65 = strings.Repeat("v", 65)
	broken  = []string{"(", ")", "a)", "(a", "[", "[]", "[^]", "]", "*", "+a", "?", "a|*", `\`, `a\`, "~(", strings.Repeat("(", 64)}
)

// is makes a matcher.
func is(name string, op api.Op, value string) api.Matcher {
	return api.Matcher{Name: name, Op: op, Value: value}
}

// ops are all comparisons.
var ops = []api.Op{api.Is, api.IsNot, api.Like, api.NotLike}

// P4.1: Check: what it takes, with each comparison.
func TestCheckTakes(t *testing.T) {
	for _, op := range ops {
		for _, name := range []string{"a", "_", "z9", "a_0", name16} {
			for _, value := range []string{"", "a", "1|2", "~", "=", "!", "\x00", "\xff", `\(`, ".*", value64, strings.Repeat("a|", 32)} {
				if err := match.Check(is(name, op, value)); err != api.OK {
					t.Errorf("Check(%q %d %q) = %d", name, op, value, int(err))
				}
			}
		}
	}
}

// P4.1: Check: names that are none.
func TestCheckName(t *testing.T) {
	for _, name := range []string{"", "0", "0a", "A", "aB", "a-b", "a b", "a=", "!a", "a~", "\xff", "\u00e4", name16 + "q", strings.Repeat("a", 1_000_000)} {
		for _, op := range []api.Op{api.Is, api.IsNot, api.Like, api.NotLike, 4, 255} {
			for _, value := range []string{"", "a", "(", value64, value65} {
				if err := match.Check(is(name, op, value)); err != api.ErrName {
					t.Errorf("Check(%.20q %d %q) = %d", name, op, value, int(err))
				}
			}
		}
	}
}

// P4.1: Check: each comparison that is none, whatever the value.
func TestCheckOp(t *testing.T) {
	for op := 4; op < 256; op++ {
		for _, value := range []string{"", "a", "(", value64, value65} {
			if err := match.Check(is("a", api.Op(op), value)); err != api.ErrArg {
				t.Errorf("Check(a %d %q) = %d", op, value, int(err))
			}
		}
	}
}

// P4.1: Check: values that are too long, which counts ahead of their being no patterns.
func TestCheckLong(t *testing.T) {
	for _, op := range ops {
		for _, value := range []string{value65, strings.Repeat("(", 65), strings.Repeat("v", 1_000_000)} {
			if err := match.Check(is("a", op, value)); err != api.ErrLong {
				t.Errorf("Check(a %d %.70q) = %d", op, value, int(err))
			}
		}
	}
}

// P4.1: Check: what is no pattern is wrong where a pattern is asked for, and nowhere else.
func TestCheckPattern(t *testing.T) {
	for _, value := range broken {
		for op, want := range map[api.Op]api.Errno{api.Is: api.OK, api.IsNot: api.OK, api.Like: api.ErrPattern, api.NotLike: api.ErrPattern} {
			if err := match.Check(is("a", op, value)); err != want {
				t.Errorf("Check(a %d %q) = %d", op, value, int(err))
			}
		}
	}
}

var (
	right     = is("a", api.Like, "1|2")
	wrongName = is("A", api.Is, "1")
	wrongOp   = is("a", 4, "1")
	wrongLong = is("a", api.IsNot, value65)
	wrongLike = is("a", api.NotLike, "(")
)

// P4.1: CheckAll: so many matchers, right ones and wrong ones.
func TestCheckAllCount(t *testing.T) {
	for n := range 20 {
		want := api.OK
		if n > 8 {
			want = api.ErrLong
		}
		if err := match.CheckAll(slices.Repeat([]api.Matcher{right}, n)); err != want {
			t.Errorf("CheckAll of %d = %d", n, int(err))
		}
		if n > 0 && n <= 8 {
			want = api.ErrPattern
		}
		if err := match.CheckAll(slices.Repeat([]api.Matcher{wrongLike}, n)); err != want {
			t.Errorf("CheckAll of %d wrong ones = %d", n, int(err))
		}
	}
	if err := match.CheckAll(nil); err != api.OK {
		t.Errorf("CheckAll(nil) = %d", int(err))
	}
}

// P4.1: CheckAll: of each row of three matchers, the first error.
func TestCheckAllFirst(t *testing.T) {
	all := []struct {
		m    api.Matcher
		want api.Errno
	}{{right, api.OK}, {wrongName, api.ErrName}, {wrongOp, api.ErrArg}, {wrongLong, api.ErrLong}, {wrongLike, api.ErrPattern}}
	for _, a := range all {
		for _, b := range all {
			for _, c := range all {
				want := a.want
				if want == api.OK {
					want = b.want
				}
				if want == api.OK {
					want = c.want
				}
				if err := match.CheckAll([]api.Matcher{a.m, b.m, c.m}); err != want {
					t.Errorf("CheckAll(%v, %v, %v) = %d, not %d", a.m, b.m, c.m, int(err), int(want))
				}
			}
		}
	}
}

// P4.1: CheckAll: a wrong one in each place of eight.
func TestCheckAllPlace(t *testing.T) {
	for at := range 8 {
		l := slices.Repeat([]api.Matcher{right}, 8)
		l[at] = wrongOp
		if err := match.CheckAll(l); err != api.ErrArg {
			t.Errorf("CheckAll with a wrong one at %d = %d", at, int(err))
		}
	}
}

var labels = []api.Pair{{Name: "a", Value: "1"}, {Name: "b", Value: "xyz"}, {Name: "c", Value: "("}}

// P4.2: One: ordinary matchers, names that are not there, and wrong matchers.
func TestOne(t *testing.T) {
	for _, c := range []struct {
		m    api.Matcher
		want bool
	}{
		{is("a", api.Is, "1"), true},
		{is("a", api.Is, "2"), false},
		{is("a", api.Is, ""), false},
		{is("a", api.Is, "11"), false},
		{is("b", api.Is, "x"), false},
		{is("b", api.Is, "..."), false},
		{is("b", api.Is, "XYZ"), false},
		{is("c", api.Is, "("), true},
		{is("a", api.IsNot, "1"), false},
		{is("a", api.IsNot, "2"), true},
		{is("a", api.IsNot, ""), true},
		{is("b", api.IsNot, "x.*"), true},
		{is("c", api.IsNot, "("), false},
		{is("a", api.Like, "1|2"), true},
		{is("a", api.Like, "2|3"), false},
		{is("a", api.Like, ""), false},
		{is("b", api.Like, "x"), false},
		{is("b", api.Like, "xy"), false},
		{is("b", api.Like, "yz"), false},
		{is("b", api.Like, "xyz."), false},
		{is("b", api.Like, "xyz"), true},
		{is("b", api.Like, ".*"), true},
		{is("b", api.Like, "x|xyz"), true},
		{is("c", api.Like, `\(`), true},
		{is("a", api.NotLike, "1|2"), false},
		{is("a", api.NotLike, ".+"), false},
		{is("a", api.NotLike, ""), true},
		{is("b", api.NotLike, "x"), true},
		{is("b", api.NotLike, "x.z"), false},

		{is("d", api.Is, ""), true},
		{is("d", api.Is, "1"), false},
		{is("d", api.IsNot, ""), false},
		{is("d", api.IsNot, "1"), true},
		{is("d", api.Like, ""), true},
		{is("d", api.Like, ".*"), true},
		{is("d", api.Like, ".+"), false},
		{is("d", api.NotLike, ""), false},
		{is("d", api.NotLike, "x?"), false},
		{is("d", api.NotLike, ".+"), true},

		{is("", api.Is, ""), false},
		{is("", api.IsNot, "1"), false},
		{is("A", api.IsNot, "1"), false},
		{is("A", api.NotLike, "1"), false},
		{is(name16+"q", api.IsNot, "1"), false},
		{is("a", 4, "1"), false},
		{is("a", 5, "2"), false},
		{is("a", 255, "2"), false},
		{is("a", api.IsNot, value65), false},
		{is("a", api.NotLike, value65), false},
		{is("a", api.IsNot, value64), true},
		{is("a", api.NotLike, value64), true},
		{is("c", api.Like, "("), false},
		{is("c", api.NotLike, "("), false},
		{is("d", api.NotLike, "["), false},
	} {
		if got := match.One(c.m, labels); got != c.want {
			t.Errorf("One(%q %d %q) = %v", c.m.Name, c.m.Op, c.m.Value, got)
		}
	}
}

// P4.2: One: labels that are wrong themselves are asked as they stand, a name that is there twice by its first value.
func TestOneOfAnyLabels(t *testing.T) {
	long := strings.Repeat("v", 1_000_000)
	for _, c := range []struct {
		m      api.Matcher
		labels []api.Pair
		want   bool
	}{
		{is("a", api.Is, ""), nil, true},
		{is("a", api.Is, "1"), nil, false},
		{is("a", api.NotLike, ".+"), []api.Pair{}, true},
		{is("a", api.Is, ""), []api.Pair{{Name: "a"}}, true},
		{is("a", api.Is, "1"), []api.Pair{{Name: "a", Value: "1"}, {Name: "a", Value: "2"}}, true},
		{is("a", api.IsNot, "2"), []api.Pair{{Name: "a", Value: "1"}, {Name: "a", Value: "2"}}, true},
		{is("a", api.Is, "1"), []api.Pair{{Name: "b", Value: "2"}, {Name: "a", Value: "1"}}, true},
		{is("A", api.Is, "1"), []api.Pair{{Name: "A", Value: "1"}}, false},
		{is("", api.Is, "1"), []api.Pair{{Name: "", Value: "1"}}, false},
		{is("a", api.Is, value65), []api.Pair{{Name: "a", Value: value65}}, false},
		{is("a", api.Like, "v+"), []api.Pair{{Name: "a", Value: long}}, true},
		{is("a", api.NotLike, "(v*)*w"), []api.Pair{{Name: "a", Value: long}}, true},
		{is("a", api.Is, value64), []api.Pair{{Name: "a", Value: value64}}, true},
	} {
		if got := match.One(c.m, c.labels); got != c.want {
			t.Errorf("One(%q %d %.70q, %.100q) = %v", c.m.Name, c.m.Op, c.m.Value, c.labels, got)
		}
	}
}

// rows tells all rows of so many bytes of an alphabet, or fewer.
func rows(alphabet string, most int) []string {
	all := []string{""}
	for from, n := 0, 0; n < most; n++ {
		to := len(all)
		for _, row := range all[from:to] {
			for i := range len(alphabet) {
				all = append(all, row+alphabet[i:i+1])
			}
		}
		from = to
	}
	return all
}

// P4.2, P4.4: One, of all short values against all short values, and that just one of two opposites is true.
func TestOneByWords(t *testing.T) {
	values := rows("ab", 4)
	for _, asked := range rows("ab.|*", 4) {
		pattern, wrong := regexp.Compile(`\A(?:` + asked + `)\z`)
		// Go's own patterns have no sign behind a sign, ours have.
		if wrong != nil || strings.Contains(asked, "**") {
			continue
		}
		for _, value := range values {
			l := []api.Pair{{Name: "a", Value: value}}
			got := [4]bool{}
			for i, op := range ops {
				got[i] = match.One(is("a", op, asked), l)
			}
			like := pattern.MatchString(value)
			if want := [4]bool{value == asked, value != asked, like, !like}; got != want {
				t.Fatalf("One(a .. %q, a=%q) = %v, not %v", asked, value, got, want)
			}
		}
	}
}

// P4.4: of two opposites just one is true, where Check takes them; where it refuses them, none is.
func TestJustOne(t *testing.T) {
	asked := append([]string{"", "1", "xyz", "x.z", ".*", ".+", "(", `\(`, "~", value64, value65}, broken...)
	for _, name := range []string{"a", "b", "c", "d", "A", "", name16 + "q"} {
		for _, value := range asked {
			for _, op := range []api.Op{api.Is, api.Like} {
				taken := match.Check(is(name, op, value)) == api.OK
				yes, no := match.One(is(name, op, value), labels), match.One(is(name, op+1, value), labels)
				if taken && yes == no || !taken && (yes || no) {
					t.Errorf("One(%q %d %q) = %v, and its opposite %v", name, op, value, yes, no)
				}
			}
		}
	}
}

// P4.2: All: of each row of up to three matchers, whether each one holds.
func TestAll(t *testing.T) {
	some := []api.Matcher{is("a", api.Is, "1"), is("b", api.Like, "x.*"), is("a", api.IsNot, "1"), is("d", api.NotLike, ".+"), wrongName, wrongLike}
	holds := []bool{true, true, false, true, false, false}
	for i, a := range some {
		if got := match.All([]api.Matcher{a}, labels); got != holds[i] {
			t.Errorf("All(%v) = %v", a, got)
		}
		for j, b := range some {
			if got := match.All([]api.Matcher{a, b}, labels); got != (holds[i] && holds[j]) {
				t.Errorf("All(%v, %v) = %v", a, b, got)
			}
			for k, c := range some {
				if got := match.All([]api.Matcher{a, b, c}, labels); got != (holds[i] && holds[j] && holds[k]) {
					t.Errorf("All(%v, %v, %v) = %v", a, b, c, got)
				}
			}
		}
	}
}

// P4.2: All: true of none; more matchers than CheckAll takes are asked, too.
func TestAllCount(t *testing.T) {
	for _, l := range [][]api.Pair{nil, {}, labels} {
		if !match.All(nil, l) || !match.All([]api.Matcher{}, l) {
			t.Errorf("All of none, of %v", l)
		}
	}
	for n := 1; n < 20; n++ {
		l := slices.Repeat([]api.Matcher{right}, n)
		if !match.All(l, labels) {
			t.Errorf("All of %d right ones", n)
		}
		l[n-1] = is("a", api.Is, "2")
		if match.All(l, labels) {
			t.Errorf("All of %d, of which the last one does not hold", n)
		}
	}
}

// Rule 3: lists that are handed in stay as they were.
func TestListsStay(t *testing.T) {
	l := []api.Matcher{right, wrongLike, is("b", api.Like, "x.*"), wrongName}
	asked := slices.Clone(labels)
	was := slices.Clone(l)
	match.CheckAll(l)
	match.All(l, asked)
	match.One(l[2], asked)
	if !slices.Equal(l, was) || !slices.Equal(asked, labels) {
		t.Error("changed", l, asked)
	}
}
