package inhibit_test

import (
	"slices"
	"strings"
	"testing"

	"watchfire/api"
	"watchfire/inhibit"
)

// is makes a matcher.
func is(name string, op api.Op, value string) api.Matcher {
	return api.Matcher{Name: name, Op: op, Value: value}
}

// ask makes matchers with Is, of texts such as a=1.
func ask(texts ...string) []api.Matcher {
	var l []api.Matcher
	for _, pair := range pairs(texts...) {
		l = append(l, is(pair.Name, api.Is, pair.Value))
	}
	return l
}

// pairs makes labels, of texts such as a=1.
func pairs(texts ...string) []api.Pair {
	var l []api.Pair
	for _, text := range texts {
		name, value, _ := strings.Cut(text, "=")
		l = append(l, api.Pair{Name: name, Value: value})
	}
	return l
}

// example is the rule of the chapter's example.
var example = api.Rule{Source: ask("a=1"), Target: ask("a=2"), Equal: []string{"job"}}

// P6.1: the chapter's example, and each of its parts broken.
func TestByExample(t *testing.T) {
	for _, try := range []struct {
		source, target []api.Pair
		want           bool
	}{
		{pairs("a=1", "job=x"), pairs("a=2", "job=x"), true},
		{pairs("a=1", "job=x"), pairs("a=2", "job=y"), false},
		{pairs("a=2", "job=x"), pairs("a=1", "job=x"), false},
		{pairs("a=2", "job=x"), pairs("a=2", "job=x"), false},
		{pairs("a=1", "job=x"), pairs("a=1", "job=x"), false},
		{pairs("a=3", "job=x"), pairs("a=2", "job=x"), false},
		{pairs("a=1", "job=x"), pairs("a=3", "job=x"), false},
		{pairs("job=x"), pairs("a=2", "job=x"), false},
		{pairs("a=1", "job=x"), pairs("job=x"), false},
		{nil, pairs("a=2"), false},
		{pairs("a=1"), nil, false},
		{nil, nil, false},
	} {
		if got := inhibit.By(example, try.source, try.target); got != try.want {
			t.Errorf("By(%v, %v) = %v", try.source, try.target, got)
		}
	}
}

// P6.1: names of Equal: each must have one value on both sides, where nothing is a value, too.
func TestByEqual(t *testing.T) {
	for _, try := range []struct {
		says           string
		equal          []string
		source, target []api.Pair
		want           bool
	}{
		{"no names", nil, pairs("a=1", "b=x"), pairs("a=2", "b=y"), true},
		{"an empty list of names", []string{}, pairs("a=1", "b=x"), pairs("a=2", "b=y"), true},
		{"the same value", []string{"b"}, pairs("a=1", "b=x"), pairs("a=2", "b=x"), true},
		{"two values", []string{"b"}, pairs("a=1", "b=x"), pairs("a=2", "b=y"), false},
		{"a value that begins with the other", []string{"b"}, pairs("a=1", "b=x"), pairs("a=2", "b=xx"), false},
		{"a small letter and a great one", []string{"b"}, pairs("a=1", "b=x"), pairs("a=2", "b=X"), false},
		{"only the source has it", []string{"b"}, pairs("a=1", "b=x"), pairs("a=2"), false},
		{"only the target has it", []string{"b"}, pairs("a=1"), pairs("a=2", "b=x"), false},
		{"neither has it", []string{"b"}, pairs("a=1"), pairs("a=2"), true},
		{"neither has it, and others differ", []string{"b"}, pairs("a=1", "c=x"), pairs("a=2", "c=y"), true},
		{"the name that the sides are told by", []string{"a"}, pairs("a=1"), pairs("a=2"), false},
		{"the same values of both names", []string{"b", "c"}, pairs("a=1", "b=x", "c=y"), pairs("a=2", "b=x", "c=y"), true},
		{"two values of the first", []string{"b", "c"}, pairs("a=1", "b=x", "c=y"), pairs("a=2", "b=z", "c=y"), false},
		{"two values of the last", []string{"b", "c"}, pairs("a=1", "b=x", "c=y"), pairs("a=2", "b=x", "c=z"), false},
		{"values that have changed places", []string{"b", "c"}, pairs("a=1", "b=x", "c=y"), pairs("a=2", "b=y", "c=x"), false},
		{"one that both have, one that neither has", []string{"b", "d"}, pairs("a=1", "b=x"), pairs("a=2", "b=x"), true},
		{"one that both have, one that the source has", []string{"b", "d"}, pairs("a=1", "b=x", "d=1"), pairs("a=2", "b=x"), false},
		{"one that both have, one that the target has", []string{"d", "b"}, pairs("a=1", "b=x"), pairs("a=2", "b=x", "d=1"), false},
		{"a name twice", []string{"b", "b"}, pairs("a=1", "b=x"), pairs("a=2", "b=x"), true},
		{"a name twice, two values", []string{"b", "b"}, pairs("a=1", "b=x"), pairs("a=2", "b=y"), false},
	} {
		r := api.Rule{Source: ask("a=1"), Target: ask("a=2"), Equal: try.equal}
		if got := inhibit.By(r, try.source, try.target); got != try.want {
			t.Errorf("%s: %v", try.says, got)
		}
	}
}

// P6.1: each of eight names counts.
func TestByEachName(t *testing.T) {
	names := strings.Split("b c d e f g h i", " ")
	r := api.Rule{Source: ask("a=1"), Target: ask("a=2"), Equal: names}
	source, target := pairs("a=1"), pairs("a=2")
	for _, name := range names {
		source, target = append(source, pairs(name+"=x")...), append(target, pairs(name+"=x")...)
	}
	if !inhibit.By(r, source, target) {
		t.Error("eight names with one value each")
	}
	for i, name := range names {
		other := slices.Clone(target)
		other[i+1].Value = "y"
		if inhibit.By(r, source, other) {
			t.Errorf("two values of %s", name)
		}
	}
}

// P6.1: what is like both sides: only where each of the two could be the other, nothing is muted.
func TestByBothSides(t *testing.T) {
	r := api.Rule{Source: ask("s=1"), Target: ask("t=1")}
	for _, try := range []struct {
		says           string
		source, target []api.Pair
		want           bool
	}{
		{"neither", pairs("s=1"), pairs("t=1"), true},
		{"the source takes Target alone", pairs("s=1", "t=1"), pairs("t=1"), true},
		{"the target takes Source alone", pairs("s=1"), pairs("s=1", "t=1"), true},
		{"both", pairs("s=1", "t=1"), pairs("s=1", "t=1"), false},
		{"both, by unlike labels", pairs("s=1", "t=1", "x=1"), pairs("s=1", "t=1", "x=2"), false},
		{"the source takes Target, but not Source", pairs("t=1"), pairs("t=1"), false},
		{"the target takes Source, but not Target", pairs("s=1"), pairs("s=1"), false},
		{"the sides changed", pairs("t=1"), pairs("s=1"), false},
	} {
		if got := inhibit.By(r, try.source, try.target); got != try.want {
			t.Errorf("%s: %v", try.says, got)
		}
	}
}

// P6.1: empty Source and Target, which all labels take.
func TestByEmptySides(t *testing.T) {
	some := [][]api.Pair{nil, {}, pairs("a=1"), pairs("a=2"), pairs("a=1", "b=x")}
	for _, source := range some {
		for _, target := range some {
			a := slices.Contains(source, api.Pair{Name: "a", Value: "1"})
			b := slices.Contains(target, api.Pair{Name: "a", Value: "1"})
			if inhibit.By(api.Rule{}, source, target) || inhibit.By(api.Rule{Source: []api.Matcher{}, Target: []api.Matcher{}, Equal: []string{}}, source, target) {
				t.Errorf("an empty rule: By(%v, %v)", source, target)
			}
			if got := inhibit.By(api.Rule{Source: ask("a=1")}, source, target); got != (a && !b) {
				t.Errorf("an empty Target: By(%v, %v) = %v", source, target, got)
			}
			if got := inhibit.By(api.Rule{Target: ask("a=1")}, source, target); got != (!a && b) {
				t.Errorf("an empty Source: By(%v, %v) = %v", source, target, got)
			}
		}
	}
}

// P6.1: all matchers of a side are asked, each as it compares.
func TestByMatchers(t *testing.T) {
	source, target := pairs("a=1", "b=xyz"), pairs("a=2", "b=xyz")
	for _, try := range []struct {
		says string
		r    api.Rule
		want bool
	}{
		{"each comparison", api.Rule{
			Source: []api.Matcher{is("a", api.Is, "1"), is("b", api.Like, "x.*"), is("a", api.IsNot, "2"), is("c", api.NotLike, ".+")},
			Target: []api.Matcher{is("a", api.NotLike, "1|3"), is("b", api.IsNot, "x"), is("c", api.Is, ""), is("a", api.Like, "[2-9]")}}, true},
		{"the last one of Source", api.Rule{Source: []api.Matcher{is("a", api.Is, "1"), is("b", api.Like, "x")}, Target: ask("a=2")}, false},
		{"the first one of Source", api.Rule{Source: []api.Matcher{is("b", api.NotLike, "xyz"), is("a", api.Is, "1")}, Target: ask("a=2")}, false},
		{"the last one of Target", api.Rule{Source: ask("a=1"), Target: []api.Matcher{is("a", api.Is, "2"), is("b", api.IsNot, "xyz")}}, false},
		{"the first one of Target", api.Rule{Source: ask("a=1"), Target: []api.Matcher{is("c", api.Like, ".+"), is("a", api.Is, "2")}}, false},
		{"more matchers than may be", api.Rule{Source: slices.Repeat(ask("a=1"), 9), Target: slices.Repeat(ask("a=2"), 20)}, true},
		{"more than may be, the last one of Source", api.Rule{Source: append(slices.Repeat(ask("a=1"), 9), ask("a=2")...), Target: ask("a=2")}, false},
		{"more than may be, the last one of Target", api.Rule{Source: ask("a=1"), Target: append(slices.Repeat(ask("a=2"), 9), ask("a=1")...)}, false},
	} {
		if got := inhibit.By(try.r, source, target); got != try.want {
			t.Errorf("%s: %v", try.says, got)
		}
	}
}

// P6.1: a matcher that may not be takes nothing, so its rule mutes nothing, whichever side it stands on.
func TestByWrongMatchers(t *testing.T) {
	source, target := pairs("a=1"), pairs("a=2")
	for _, wrong := range []api.Matcher{
		{},
		is("A", api.IsNot, "x"),
		is("0", api.IsNot, "x"),
		is(strings.Repeat("a", 17), api.Is, ""),
		is("a", 4, "1"),
		is("a", 255, "x"),
		is("a", api.IsNot, strings.Repeat("v", 65)),
		is("a", api.NotLike, "("),
		is("a", api.Like, "[]"),
	} {
		for _, l := range [][]api.Matcher{{wrong}, {wrong, is("a", api.Like, ".*")}, {is("a", api.Like, ".*"), wrong}} {
			for _, r := range []api.Rule{{Source: l}, {Target: l}, {Source: l, Target: ask("a=2")}, {Source: ask("a=1"), Target: l}, {Source: l, Target: l}} {
				if inhibit.By(r, source, target) || inhibit.By(r, target, source) || inhibit.By(r, nil, nil) {
					t.Errorf("By a rule with the matcher %v, as %v", wrong, r)
				}
			}
		}
	}
}

// P6.1: labels and names that may not be are held against each other as they stand, of a name that is there twice the first value.
func TestByWrongLabels(t *testing.T) {
	long := strings.Repeat("v", 1_000_000)
	for _, try := range []struct {
		says           string
		equal          []string
		source, target []api.Pair
		want           bool
	}{
		{"a name twice", []string{"b"}, pairs("a=1", "b=x", "b=y"), pairs("a=2", "b=x", "b=z"), true},
		{"a name twice, unlike first values", []string{"b"}, pairs("a=1", "b=x", "b=y"), pairs("a=2", "b=y", "b=x"), false},
		{"a side that is told by its first value", nil, pairs("a=1", "a=2"), pairs("a=2", "a=1"), true},
		{"a side that is not told by its second value", nil, pairs("a=3", "a=1"), pairs("a=2"), false},
		{"an empty value, and none", []string{"b"}, pairs("a=1", "b="), pairs("a=2"), true},
		{"an empty value, and another", []string{"b"}, pairs("a=1", "b="), pairs("a=2", "b=x"), false},
		{"labels in no order", []string{"b"}, pairs("b=x", "a=1"), pairs("c=y", "b=x", "a=2"), true},
		{"an empty name", []string{""}, pairs("a=1", "=x"), pairs("a=2", "=x"), true},
		{"an empty name, two values", []string{""}, pairs("a=1", "=x"), pairs("a=2", "=y"), false},
		{"an empty name, one without it", []string{""}, pairs("a=1", "=x"), pairs("a=2"), false},
		{"a great name", []string{"B"}, pairs("a=1", "B=x"), pairs("a=2", "B=y"), false},
		{"a great name that neither has", []string{"B"}, pairs("a=1", "b=x"), pairs("a=2", "b=y"), true},
		{"bytes that are no text", []string{"\xff\x00"}, pairs("a=1", "\xff\x00=\xfe"), pairs("a=2", "\xff\x00=\xfd"), false},
		{"a long value", []string{"b"}, pairs("a=1", "b="+long), pairs("a=2", "b="+long), true},
		{"two long values", []string{"b"}, pairs("a=1", "b="+long), pairs("a=2", "b="+long+"v"), false},
		{"a long name", []string{long}, pairs("a=1", long+"=x"), pairs("a=2", long+"=y"), false},
		{"more names than may be", slices.Repeat([]string{"b"}, 9), pairs("a=1", "b=x"), pairs("a=2", "b=x"), true},
		{"more names than may be, two values of the last", append(slices.Repeat([]string{"b"}, 9), "c"), pairs("a=1", "b=x", "c=x"), pairs("a=2", "b=x"), false},
		{"more labels than may be", []string{"b"}, append(slices.Repeat(pairs("x=y"), 1000), pairs("a=1", "b=x")...), append(slices.Repeat(pairs("z=y"), 1000), pairs("a=2", "b=x")...), true},
	} {
		r := api.Rule{Source: ask("a=1"), Target: ask("a=2"), Equal: try.equal}
		if got := inhibit.By(r, try.source, try.target); got != try.want {
			t.Errorf("%s: %v", try.says, got)
		}
	}
}

// universe is labels of a and b, each with 1, with 2, or not there.
func universe() [][]api.Pair {
	var all [][]api.Pair
	for _, a := range [][]api.Pair{nil, pairs("a=1"), pairs("a=2")} {
		for _, b := range [][]api.Pair{nil, pairs("b=1"), pairs("b=2")} {
			all = append(all, slices.Concat(a, b))
		}
	}
	return all
}

// ruleBook is rules that ask for a and b, each with each side and some names.
func ruleBook() []api.Rule {
	sides := [][]api.Matcher{
		nil,
		ask("a=1"),
		ask("a=2"),
		ask("b=1"),
		ask("a="),
		ask("a=1", "b=1"),
		{is("a", api.IsNot, "1")},
		{is("a", api.IsNot, "1"), is("b", api.IsNot, "2")},
		{is("A", api.IsNot, "1")},
	}
	var all []api.Rule
	for _, source := range sides {
		for _, target := range sides {
			for _, equal := range [][]string{nil, {"a"}, {"b"}, {"b", "a"}, {"c"}} {
				all = append(all, api.Rule{Source: source, Target: target, Equal: equal})
			}
		}
	}
	return all
}

// valueOf tells the value of the first label of a name, and nothing where there is none.
func valueOf(labels []api.Pair, name string) string {
	for i := len(labels) - 1; i >= 0; i-- {
		if labels[i].Name == name && !slices.ContainsFunc(labels[:i], func(p api.Pair) bool { return p.Name == name }) {
			return labels[i].Value
		}
	}
	return ""
}

// takes tells whether labels take matchers with Is and IsNot of one small letter.
func takes(l []api.Matcher, labels []api.Pair) bool {
	count := 0
	for _, m := range l {
		small := m.Name >= "a" && m.Name <= "z"
		if small && (valueOf(labels, m.Name) == m.Value) == (m.Op == api.Is) {
			count++
		}
	}
	return count == len(l)
}

// wantBy tells P6.1 in its four parts.
func wantBy(r api.Rule, source, target []api.Pair) bool {
	count := 0
	for _, name := range r.Equal {
		if valueOf(source, name) == valueOf(target, name) {
			count++
		}
	}
	each := count == len(r.Equal)
	return takes(r.Source, source) && takes(r.Target, target) && each && !(takes(r.Target, source) && takes(r.Source, target))
}

// P6.1: each rule of a book, with each two of the universe, against the chapter's words.
func TestByWords(t *testing.T) {
	muted := 0
	for _, r := range ruleBook() {
		for _, source := range universe() {
			for _, target := range universe() {
				got, want := inhibit.By(r, source, target), wantBy(r, source, target)
				if got != want {
					t.Fatalf("By(%v, %v, %v) = %v", r, source, target, got)
				}
				if got {
					muted++
				}
			}
		}
	}
	if muted < 1000 {
		t.Errorf("only %d are muted: the book says too little", muted)
	}
}

// P6.3: an alert, held against itself, is muted by no rule, the same memory or a copy.
func TestNotItself(t *testing.T) {
	book := append(ruleBook(), example, api.Rule{Source: []api.Matcher{is("a", api.Like, ".*")}, Target: []api.Matcher{is("b", api.NotLike, "x")}})
	for _, r := range book {
		for _, l := range append(universe(), pairs("b=2", "a=1"), pairs("a=1", "a=2"), pairs("job=x"), pairs("=", "A=1")) {
			if inhibit.By(r, l, l) || inhibit.By(r, l, slices.Clone(l)) {
				t.Errorf("By(%v) mutes %v by itself", r, l)
			}
			if inhibit.Muted([]api.Rule{r}, [][]api.Pair{l}, l) {
				t.Errorf("Muted(%v): %v by itself", r, l)
			}
		}
	}
}

// P6.3: of two alerts, one at the most mutes the other by one rule.
func TestNotOneAnother(t *testing.T) {
	for _, r := range ruleBook() {
		for _, a := range universe() {
			for _, b := range universe() {
				if inhibit.By(r, a, b) && inhibit.By(r, b, a) {
					t.Errorf("By(%v): %v and %v mute one another", r, a, b)
				}
			}
		}
	}
}

// P6.3: by two rules, two alerts may mute one another, as the promise is of one rule.
func TestOneAnotherByTwoRules(t *testing.T) {
	there := api.Rule{Source: ask("a=1"), Target: ask("a=2")}
	back := api.Rule{Source: ask("a=2"), Target: ask("a=1")}
	rules, firing := []api.Rule{there, back}, [][]api.Pair{pairs("a=1"), pairs("a=2")}
	if rule, source := inhibit.Muter(rules, firing, pairs("a=2")); rule != 0 || source != 0 {
		t.Errorf("a=2 is muted by %d, %d", rule, source)
	}
	if rule, source := inhibit.Muter(rules, firing, pairs("a=1")); rule != 1 || source != 1 {
		t.Errorf("a=1 is muted by %d, %d", rule, source)
	}
}
