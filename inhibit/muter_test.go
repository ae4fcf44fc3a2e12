package inhibit_test

import (
	"reflect"
	"slices"
	"testing"

	"watchfire/api"
	"watchfire/inhibit"
)

// holdMuter holds what Muter and Muted answer against what is wanted.
func holdMuter(t *testing.T, rules []api.Rule, firing [][]api.Pair, target []api.Pair, wantRule, wantSource int) {
	t.Helper()
	rule, source := inhibit.Muter(rules, firing, target)
	if rule != wantRule || source != wantSource {
		t.Errorf("Muter(%v, %v, %v) = %d, %d, not %d, %d", rules, firing, target, rule, source, wantRule, wantSource)
	}
	if muted := inhibit.Muted(rules, firing, target); muted != (wantRule >= 0) {
		t.Errorf("Muted(%v, %v, %v) = %v", rules, firing, target, muted)
	}
}

// P6.2: the lowest places, the rule's first.
func TestMuter(t *testing.T) {
	one := api.Rule{Source: ask("a=1"), Target: ask("t=1")}
	two := api.Rule{Source: ask("a=2"), Target: ask("t=1")}
	none := api.Rule{Source: ask("a=1"), Target: ask("t=2")}
	target := pairs("t=1")
	a1, a2, a3 := pairs("a=1"), pairs("a=2"), pairs("a=3")
	for _, try := range []struct {
		says         string
		rules        []api.Rule
		firing       [][]api.Pair
		rule, source int
	}{
		{"one and one", []api.Rule{one}, [][]api.Pair{a1}, 0, 0},
		{"one that does not", []api.Rule{one}, [][]api.Pair{a2}, -1, -1},
		{"a rule of another target", []api.Rule{none}, [][]api.Pair{a1}, -1, -1},
		{"the last of firing", []api.Rule{one}, [][]api.Pair{a3, a2, a1}, 0, 2},
		{"the last rule", []api.Rule{none, {}, one}, [][]api.Pair{a1}, 2, 0},
		{"the last of both", []api.Rule{none, one}, [][]api.Pair{a3, a1}, 1, 1},
		{"two of firing", []api.Rule{one}, [][]api.Pair{a2, a1, a1}, 0, 1},
		{"two rules", []api.Rule{none, one, one}, [][]api.Pair{a1}, 1, 0},
		{"two of both", []api.Rule{one, one}, [][]api.Pair{a1, a1}, 0, 0},
		{"the first rule by a later one of firing", []api.Rule{one, two}, [][]api.Pair{a2, a1}, 0, 1},
		{"the other order of rules", []api.Rule{two, one}, [][]api.Pair{a2, a1}, 0, 0},
		{"a later rule by an earlier one of firing", []api.Rule{none, two, one}, [][]api.Pair{a1, a3, a2}, 1, 2},
		{"no rules", nil, [][]api.Pair{a1}, -1, -1},
		{"an empty list of rules", []api.Rule{}, [][]api.Pair{a1}, -1, -1},
		{"nothing that fires", []api.Rule{one}, nil, -1, -1},
		{"an empty list of firing", []api.Rule{one}, [][]api.Pair{}, -1, -1},
		{"neither", nil, nil, -1, -1},
		{"an empty rule", []api.Rule{{}}, [][]api.Pair{a1, nil}, -1, -1},
		{"the target alone fires", []api.Rule{one, two, none}, [][]api.Pair{target}, -1, -1},
		{"the target fires, too", []api.Rule{one}, [][]api.Pair{target, a1}, 0, 1},
		{"more rules than may be", append(slices.Repeat([]api.Rule{none}, 20), one), [][]api.Pair{a1}, 20, 0},
		{"more of firing than may be", []api.Rule{one}, append(slices.Repeat([][]api.Pair{a2}, 100), a1), 0, 100},
	} {
		t.Run(try.says, func(t *testing.T) {
			holdMuter(t, try.rules, try.firing, target, try.rule, try.source)
		})
	}
}

// P6.2: labels that are none: as one that fires, and as the target.
func TestMuterOfNoLabels(t *testing.T) {
	without := api.Rule{Source: ask("a="), Target: ask("a=1")}
	holdMuter(t, []api.Rule{without}, [][]api.Pair{pairs("a=2"), nil}, pairs("a=1"), 0, 1)
	holdMuter(t, []api.Rule{without}, [][]api.Pair{{}, nil}, pairs("a=1"), 0, 0)
	holdMuter(t, []api.Rule{without}, [][]api.Pair{nil}, nil, -1, -1)
	with := api.Rule{Source: ask("a=1"), Target: ask("a=")}
	holdMuter(t, []api.Rule{with}, [][]api.Pair{pairs("b=1"), pairs("a=1")}, nil, 0, 1)
	holdMuter(t, []api.Rule{with}, [][]api.Pair{pairs("a=1")}, []api.Pair{}, 0, 0)
}

// P6.2: a rule that may not be mutes nothing, and those behind it are asked.
func TestMuterOfWrongRules(t *testing.T) {
	right := api.Rule{Source: ask("a=1"), Target: ask("a=2"), Equal: []string{"b"}}
	for _, wrong := range []api.Rule{
		{Source: ask("A=1"), Target: ask("a=2")},
		{Source: []api.Matcher{is("a", 4, "1")}, Target: ask("a=2")},
		{Source: ask("a=1"), Target: []api.Matcher{is("a", api.NotLike, "(")}},
		{Source: ask("a=1"), Target: ask("a=2", "=")},
	} {
		firing := [][]api.Pair{pairs("a=1", "b=1"), pairs("a=1")}
		holdMuter(t, []api.Rule{wrong}, firing, pairs("a=2"), -1, -1)
		holdMuter(t, []api.Rule{wrong, right}, firing, pairs("a=2"), 1, 1)
		holdMuter(t, []api.Rule{right, wrong}, firing, pairs("a=2", "b=1"), 0, 0)
		holdMuter(t, []api.Rule{wrong, right, wrong}, firing, pairs("a=2", "b=3"), -1, -1)
	}
}

// wantMuter tells P6.2 from the last place to the first, so that the lowest one is told last.
func wantMuter(rules []api.Rule, firing [][]api.Pair, target []api.Pair) (rule, source int) {
	rule, source = -1, -1
	for i := len(rules) - 1; i >= 0; i-- {
		for k := len(firing) - 1; k >= 0; k-- {
			if wantBy(rules[i], firing[k], target) {
				rule, source = i, k
			}
		}
	}
	return rule, source
}

// lists tells all lists of up to two of some.
func lists[T any](all []T) [][]T {
	some := [][]T{nil}
	for _, a := range all {
		some = append(some, []T{a})
		for _, b := range all {
			some = append(some, []T{a, b})
		}
	}
	return some
}

// P6.2: all lists of up to two rules and two that fire, against the chapter's words.
func TestMuterWords(t *testing.T) {
	book := []api.Rule{
		{},
		{Source: ask("a=1"), Target: ask("a=2")},
		{Source: ask("a=2"), Target: ask("a=1")},
		{Source: ask("a=1"), Target: ask("b=1"), Equal: []string{"b"}},
		{Source: ask("a=1")},
		{Target: ask("b=2"), Equal: []string{"a"}},
		{Source: []api.Matcher{is("a", api.IsNot, "1")}, Target: []api.Matcher{is("b", api.IsNot, "1")}, Equal: []string{"c"}},
		{Source: ask("A="), Target: ask("a=1")},
	}
	for _, rules := range lists(book) {
		for _, firing := range lists(universe()) {
			for _, target := range universe() {
				rule, source := wantMuter(rules, firing, target)
				holdMuter(t, rules, firing, target, rule, source)
			}
		}
		if t.Failed() {
			return
		}
	}
}

// P6.2: Muter tells what By tells, and nothing ahead of it that By does.
func TestMuterIsBy(t *testing.T) {
	book, firing := ruleBook(), universe()
	for at := range book {
		for _, target := range universe() {
			rules := book[at:min(at+8, len(book))]
			rule, source := inhibit.Muter(rules, firing, target)
			if rule >= 0 && !inhibit.By(rules[rule], firing[source], target) {
				t.Fatalf("Muter(%v, %v) = %d, %d, which By does not tell", rules, target, rule, source)
			}
			for i, r := range rules {
				for k, labels := range firing {
					ahead := rule < 0 || i < rule || i == rule && k < source
					if ahead && inhibit.By(r, labels, target) {
						t.Fatalf("Muter(%v, %v) = %d, %d, but By tells %d, %d", rules, target, rule, source, i, k)
					}
				}
			}
		}
	}
}

// P6.2: lists that are far greater than those that may be.
func TestMuterGreat(t *testing.T) {
	const n = 300_000
	rule := api.Rule{Source: ask("a=1"), Target: ask("a=2"), Equal: []string{"b"}}
	holdGreat := func(says string, rules []api.Rule, firing [][]api.Pair, wantRule, wantSource int) {
		if i, k := inhibit.Muter(rules, firing, pairs("a=2", "b=1")); i != wantRule || k != wantSource {
			t.Errorf("%s: %d, %d", says, i, k)
		}
	}
	rules, firing := make([]api.Rule, n), make([][]api.Pair, n)
	holdGreat("many rules, nothing that fires", rules, nil, -1, -1)
	holdGreat("many that fire, no rules", nil, firing, -1, -1)
	holdGreat("many empty rules", rules, firing[:1], -1, -1)
	holdGreat("many that do not mute", []api.Rule{rule}, firing, -1, -1)
	rules[n-1], firing[n-1] = rule, pairs("a=1", "b=1")
	holdGreat("the last of many rules", rules, firing[n-1:], n-1, 0)
	holdGreat("the last of many that fire", rules[n-1:], firing, 0, n-1)
}

// roomy makes a list with something in the room behind it, and all of that room.
func roomy[T any](l ...T) (list, all []T) {
	all = slices.Concat(l, l)
	return all[:len(l)], all
}

// Rule 3: no call changes what it is given, nor what stands behind it.
func TestArgumentsStay(t *testing.T) {
	arguments := func() (r api.Rule, firing [][]api.Pair, target []api.Pair, all []any) {
		source, allSource := roomy(is("b", api.Like, "x|y"), is("a", api.Is, "1"))
		aim, allAim := roomy(is("b", api.NotLike, "z"), is("a", api.Is, "2"))
		equal, allEqual := roomy("c", "b")
		labels, allLabels := roomy(pairs("b=x", "a=1")...)
		target, allTarget := roomy(pairs("b=x", "a=2")...)
		firing, allFiring := roomy(target, labels)
		return api.Rule{Source: source, Target: aim, Equal: equal}, firing, target, []any{allSource, allAim, allEqual, allLabels, allTarget, allFiring}
	}
	r, firing, target, all := arguments()
	rules, allRules := roomy(r, r)
	if !inhibit.By(r, firing[1], target) || !inhibit.Muted(rules, firing, target) {
		t.Error("not muted")
	}
	if rule, source := inhibit.Muter(rules, firing, target); rule != 0 || source != 1 {
		t.Errorf("muted by %d, %d", rule, source)
	}
	wantRule, _, _, want := arguments()
	if !reflect.DeepEqual(all, want) || !reflect.DeepEqual(allRules, []api.Rule{wantRule, wantRule, wantRule, wantRule}) {
		t.Errorf("changed: %v, %v", all, allRules)
	}
}

// FuzzMuter holds what Muter and Muted tell of any rules and labels against the chapter's words.
func FuzzMuter(f *testing.F) {
	f.Add([]byte{1, 2, 3}, []byte{4, 5, 6}, byte(7))
	f.Add([]byte{40, 80}, []byte{1, 2, 3, 4, 5, 6, 7, 8}, byte(3))
	f.Fuzz(func(t *testing.T, b, fires []byte, aim byte) {
		book, all := ruleBook(), universe()
		var rules []api.Rule
		for i := 0; i+1 < len(b) && len(rules) < 12; i += 2 {
			rules = append(rules, book[(int(b[i])<<8|int(b[i+1]))%len(book)])
		}
		var firing [][]api.Pair
		for _, one := range fires[:min(len(fires), 70)] {
			firing = append(firing, all[int(one)%len(all)])
		}
		target := all[int(aim)%len(all)]
		rule, source := wantMuter(rules, firing, target)
		holdMuter(t, rules, firing, target, rule, source)
	})
}
