package group_test

import (
	"math/rand"
	"slices"
	"testing"

	"watchfire/api"
	"watchfire/group"
	"watchfire/label"
	"watchfire/route"
)

// picked tells the pairs of some names, by the words of P2.3.
func picked(l []api.Pair, names []string) []api.Pair {
	var some []api.Pair
	for _, pair := range l {
		for _, name := range names {
			if pair.Name == name {
				some = append(some, pair)
				break
			}
		}
	}
	return some
}

// insert puts something ahead of the first that is above it, so behind all that are like it.
func insert[T any](l []T, one T, above func(a, b T) bool) []T {
	at := slices.IndexFunc(l, func(other T) bool { return above(other, one) })
	if at < 0 {
		at = len(l)
	}
	return slices.Insert(l, at, one)
}

// wantGroups tells P8.2's words route by route: each alert that goes there is put into the group with its labels, and each group into its place.
func wantGroups(c api.Config, alerts []api.Alert) []group.Group {
	var all []group.Group
	for i, r := range c.Routes {
		var here []group.Group
		for _, a := range alerts {
			if !slices.Contains(route.Walk(c.Routes, a.Labels), i) {
				continue
			}
			labels := picked(a.Labels, r.By)
			at := slices.IndexFunc(here, func(g group.Group) bool { return slices.Equal(g.Labels, labels) })
			if at < 0 {
				at = len(here)
				here = append(here, made(i, labels))
			}
			here[at].Alerts = insert(here[at].Alerts, a, func(a, b api.Alert) bool { return labelKey(a.Labels) > labelKey(b.Labels) })
		}
		var sorted []group.Group
		for _, g := range here {
			sorted = insert(sorted, g, func(a, b group.Group) bool { return a.Key > b.Key })
		}
		all = append(all, sorted...)
	}
	return all
}

// holdGroups holds what Of tells against the words of P8.2 and of P8.5.
func holdGroups(t *testing.T, c api.Config, alerts []api.Alert) []group.Group {
	t.Helper()
	if err := route.Check(c); err != api.OK {
		t.Fatalf("Check(%v) = %d", c, int(err))
	}
	groups := group.Of(c, alerts)
	if got, want := show(groups), show(wantGroups(c, alerts)); got != want {
		t.Fatalf("Of(%v, %v) tells\n%snot\n%s", c, alerts, got, want)
	}
	holdTogether(t, c, alerts, groups)
	return groups
}

// holdTogether holds P8.5: alerts of one group go to its route with its value of each of its labels; no group is there twice, and no alert is lost.
func holdTogether(t *testing.T, c api.Config, alerts []api.Alert, groups []group.Group) {
	t.Helper()
	count := 0
	for i, g := range groups {
		if g.Key != group.Key(g.Route, g.Labels) || len(g.Alerts) == 0 {
			t.Fatalf("no group: %v", g)
		}
		for _, a := range g.Alerts {
			if !slices.Contains(route.Walk(c.Routes, a.Labels), g.Route) {
				t.Fatalf("%v does not go to %d", a, g.Route)
			}
			for _, name := range c.Routes[g.Route].By {
				if label.Get(a.Labels, name) != label.Get(g.Labels, name) {
					t.Fatalf("%v has another %s than its group %v", a, name, g.Labels)
				}
			}
		}
		count += len(g.Alerts)
		if slices.ContainsFunc(groups[:i], func(other group.Group) bool { return other.Key == g.Key }) {
			t.Fatalf("two groups with the key %q", g.Key)
		}
	}
	for _, a := range alerts {
		count -= len(route.Walk(c.Routes, a.Labels))
	}
	if count != 0 {
		t.Fatalf("%d alerts too many, or too few", count)
	}
}

// someLabels tells labels by a number: some right ones, none, some in no order, some with a name twice.
func someLabels(n byte) []api.Pair {
	all := [][]api.Pair{
		nil, pairs("a=1"), pairs("a=2"), pairs("b=1"), pairs("b=10"), pairs("a=1", "b=1"), pairs("a=1", "b=2"), pairs("a=2", "b=1"),
		pairs("a=1", "b=1", "c=1"), pairs("a=1", "c=\xff"), pairs("b=1", "c=\xff"), pairs("c=1"), pairs("a=10", "b=10", "c=10"),
		pairs("b=1", "a=1"), pairs("a=1", "a=2"), pairs("a="), pairs("=1"), pairs("a=1", "b=1", "a=1"),
	}
	return all[int(n)%len(all)]
}

// someRoute tells a route by two numbers.
func someRoute(parent int, asks, by byte) api.Route {
	matchers := [][]api.Matcher{
		nil,
		{{Name: "a", Value: "1"}},
		{{Name: "b", Value: "1"}},
		{{Name: "a", Op: api.IsNot, Value: "1"}},
		{{Name: "c", Op: api.Like, Value: "1.*"}},
		{{Name: "b", Op: api.NotLike, Value: "1.*"}, {Name: "a", Op: api.IsNot}},
	}
	names := [][]string{nil, {"a"}, {"b"}, {"a", "b"}, {"b", "a"}, {"c", "a", "b"}, {"z"}, {"c", "z"}, {"b", "c", "a", "z", "d"}}
	return api.Route{Parent: parent, Continue: asks%3 > 0, Matchers: matchers[int(asks/3)%len(matchers)], By: names[int(by)%len(names)]}
}

// someConfig tells a configuration of up to 16 routes, three bytes a route.
func someConfig(b []byte) api.Config {
	routes := []api.Route{root()}
	if len(b) > 0 {
		routes[0] = someRoute(-1, 0, b[0])
	}
	for i := 1; i+2 < len(b) && len(routes) < 16; i += 3 {
		routes = append(routes, someRoute(int(b[i])%len(routes), b[i+1], b[i+2]))
	}
	return conf(routes...)
}

// someAlerts tells alerts, a byte each; their Starts tell which one is which.
func someAlerts(b []byte) []api.Alert {
	var alerts []api.Alert
	for i, n := range b {
		alerts = append(alerts, api.Alert{Labels: slices.Clone(someLabels(n)), Start: i, End: i + int(n)%4})
	}
	return alerts
}

// P8.2, P8.5: all lists of up to three alerts, with each By of one route and of two that both take them.
func TestOfWords(t *testing.T) {
	for by := range byte(9) {
		for _, c := range []api.Config{conf(someRoute(-1, 0, by)), conf(root("b"), someRoute(0, 1, by), someRoute(0, 1, by/2))} {
			for a := range byte(18) {
				holdGroups(t, c, someAlerts([]byte{a}))
				for b := range byte(18) {
					holdGroups(t, c, someAlerts([]byte{a, b}))
					holdGroups(t, c, someAlerts([]byte{a, b, a + b}))
				}
			}
		}
	}
}

// P8.2, P8.5: grown trees, and many alerts, against the chapter's words.
func TestOfGrown(t *testing.T) {
	source, several := rand.New(rand.NewSource(8)), 0
	for range 600 {
		routes, alerts := make([]byte, source.Intn(50)), make([]byte, source.Intn(90))
		source.Read(routes)
		source.Read(alerts)
		groups := holdGroups(t, someConfig(routes), someAlerts(alerts))
		if len(groups) > 5 && groups[0].Route < groups[len(groups)-1].Route {
			several++
		}
	}
	if several < 120 {
		t.Errorf("%d answers have groups of several routes: they say too little", several)
	}
}

// P8.3, P8.4: revisions of many alerts, and what is counted in them, against the chapter's words.
func TestRevisionWords(t *testing.T) {
	source := rand.New(rand.NewSource(9))
	for range 60 {
		b := make([]byte, source.Intn(90))
		source.Read(b)
		alerts := someAlerts(b)
		for now := -1; now < 20; now += 3 {
			revision := group.Revision(alerts, now)
			if want := wantRevision(alerts, now); revision != want {
				t.Fatalf("Revision(%v, %d) = %q, not %q", alerts, now, revision, want)
			}
			firing := 0
			for _, a := range alerts {
				if now >= a.Start && now < a.End {
					firing++
				}
			}
			holdCounts(t, revision, firing, len(alerts)-firing)
		}
	}
}

// FuzzOf holds what Of and Revision tell of any routes and alerts against the chapter's words.
func FuzzOf(f *testing.F) {
	f.Add([]byte{3, 0, 4, 1, 0, 2, 2}, []byte{1, 5, 6, 13, 1}, 2)
	f.Add([]byte{1}, []byte{0, 0, 17, 14, 9}, 0)
	f.Fuzz(func(t *testing.T, routes, alerts []byte, now int) {
		l := someAlerts(alerts[:min(len(alerts), 70)])
		holdGroups(t, someConfig(routes), l)
		if got, want := group.Revision(l, now), wantRevision(l, now); got != want {
			t.Fatalf("Revision(%v, %d) = %q, not %q", l, now, got, want)
		}
	})
}
