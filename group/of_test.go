package group_test

import (
	"fmt"
	"reflect"
	"slices"
	"strings"
	"testing"

	"watchfire/api"
	"watchfire/group"
	"watchfire/route"
)

// conf makes a configuration of these routes, with what else a right one needs.
func conf(routes ...api.Route) api.Config {
	c := api.Config{Routes: slices.Clone(routes), PeerTimeout: 1, Resolve: 1}
	for i := range c.Routes {
		c.Routes[i].Receiver, c.Routes[i].Interval, c.Routes[i].Repeat = "r", 1, 1
	}
	return c
}

// root makes a first route.
func root(by ...string) api.Route { return api.Route{Parent: -1, By: by} }

// child makes a route in the first one that asks for a text such as a=1, or for nothing.
func child(more bool, asks string, by ...string) api.Route {
	r := api.Route{Continue: more, By: by}
	if name, value, ok := strings.Cut(asks, "="); ok {
		r.Matchers = []api.Matcher{{Name: name, Value: value}}
	}
	return r
}

// show tells groups as a text, each with its alerts' times, so that an empty list and nil are the same.
func show(groups []group.Group) string {
	var s strings.Builder
	for _, g := range groups {
		fmt.Fprintf(&s, "%d %q %q:", g.Route, g.Labels, g.Key)
		for _, a := range g.Alerts {
			fmt.Fprintf(&s, " %q %d-%d", a.Labels, a.Start, a.End)
		}
		s.WriteString("\n")
	}
	return s.String()
}

// made makes a group, with its key by P8.1's words.
func made(route int, labels []api.Pair, alerts ...api.Alert) group.Group {
	return group.Group{Route: route, Labels: labels, Key: wantKey(route, labels), Alerts: alerts}
}

// holdOf holds what Of answers against the groups that are wanted.
func holdOf(t *testing.T, c api.Config, alerts []api.Alert, want ...group.Group) {
	t.Helper()
	if err := route.Check(c); err != api.OK {
		t.Fatalf("Check = %d", int(err))
	}
	if got := group.Of(c, alerts); show(got) != show(want) {
		t.Errorf("Of tells\n%snot\n%s", show(got), show(want))
	}
}

// P8.2: no alerts.
func TestOfNoAlerts(t *testing.T) {
	for _, c := range []api.Config{conf(root()), conf(root("a"), child(true, "a=1"), child(false, ""))} {
		holdOf(t, c, nil)
		holdOf(t, c, []api.Alert{})
	}
}

// P8.2: alerts by one label: those with one value of it are one group.
func TestOfByOne(t *testing.T) {
	ax, ay, bx := from(1, 5, "a=2", "job=x"), from(1, 5, "a=1", "job=y"), from(9, 12, "a=1", "job=x")
	holdOf(t, conf(root("job")), []api.Alert{ax, ay, bx},
		made(0, pairs("job=x"), bx, ax),
		made(0, pairs("job=y"), ay))
}

// P8.2: a route with no By, nil or empty: one group with no labels.
func TestOfNoBy(t *testing.T) {
	a, b, none := from(1, 5, "a=1"), from(2, 6, "b=2"), from(3, 7)
	for _, by := range [][]string{nil, {}} {
		holdOf(t, conf(root(by...)), []api.Alert{b, none, a}, made(0, nil, a, b, none))
	}
}

// P8.2: names that an alert has not are not in its group's labels: it is apart from those that have them.
func TestOfNamesNotThere(t *testing.T) {
	neither, a, b, both := from(1, 5, "c=1"), from(1, 5, "a=1"), from(1, 5, "b=1"), from(1, 5, "a=1", "b=1")
	also := from(2, 6, "a=1", "c=9")
	holdOf(t, conf(root("a", "b", "z")), []api.Alert{also, neither, both, b, a},
		made(0, pairs("a=1", "b=1"), both),
		made(0, pairs("a=1"), also, a),
		made(0, pairs("b=1"), b),
		made(0, nil, neither))
	holdOf(t, conf(root("z")), []api.Alert{b, a}, made(0, nil, a, b))
}

// P8.2: the order of By counts for nothing: labels stand as in the alert.
func TestOfOrderOfBy(t *testing.T) {
	a := from(1, 5, "a=1", "b=2", "c=3")
	for _, by := range [][]string{{"a", "b"}, {"b", "a"}, {"b", "z", "a"}} {
		holdOf(t, conf(root(by...)), []api.Alert{a}, made(0, pairs("a=1", "b=2"), a))
	}
}

// P8.2: an alert that goes to several routes is in a group of each, by that one's own names.
func TestOfSeveralRoutes(t *testing.T) {
	c := conf(root("c"), child(true, "a=1", "a"), child(false, "a=1", "b"), child(false, "b=2"))
	one, two, three, four := from(1, 5, "a=1", "b=2"), from(1, 5, "a=1", "b=3"), from(1, 5, "b=2"), from(1, 5, "c=3")
	holdOf(t, c, []api.Alert{four, three, two, one},
		made(0, pairs("c=3"), four),
		made(1, pairs("a=1"), one, two),
		made(2, pairs("b=2"), one),
		made(2, pairs("b=3"), two),
		made(3, nil, three))
}

// P8.2: one value of one label is another group on another route; a child's By is its own alone.
func TestOfRoutesApart(t *testing.T) {
	a := from(1, 5, "a=1", "b=2")
	holdOf(t, conf(root("b"), child(true, "", "a"), child(true, "", "a")), []api.Alert{a}, made(1, pairs("a=1"), a), made(2, pairs("a=1"), a))
	holdOf(t, conf(root("b"), child(true, "")), []api.Alert{a}, made(1, nil, a))
}

// P8.2: routes rise as numbers, to 15, though their keys do not, and though a walk may tell them in another order.
func TestOfRoutesRise(t *testing.T) {
	routes := []api.Route{root()}
	var want []group.Group
	a := from(1, 5, "a=1")
	for i := 1; i < 16; i++ {
		routes = append(routes, child(true, ""))
		want = append(want, made(i, nil, a))
	}
	holdOf(t, conf(routes...), []api.Alert{a}, want...)

	inner := conf(root(), child(true, ""), child(true, ""), child(true, ""), child(true, ""))
	inner.Routes[3].Parent, inner.Routes[4].Parent = 2, 1
	if told := route.Walk(inner.Routes, a.Labels); !slices.Equal(told, []int{4, 3}) {
		t.Fatalf("the walk tells %v", told)
	}
	holdOf(t, inner, []api.Alert{a}, made(3, nil, a), made(4, nil, a))
}

// P8.2: of one route by rising keys, byte by byte, which is not the order of the labels' texts.
func TestOfKeysRise(t *testing.T) {
	values := []string{"\x00", "1", "9", "a", "\x7f", "\x80", "\xff", "00", "10", "aa", "\xff\xff", "999", strings.Repeat("0", 9)}
	wide := strings.Repeat("0", 10)
	var alerts []api.Alert
	want := []group.Group{made(0, pairs("a="+wide), from(1, 5, "a="+wide))}
	for _, value := range values {
		alerts = append(alerts, from(1, 5, "a="+value))
		want = append(want, made(0, pairs("a="+value), from(1, 5, "a="+value)))
	}
	// Ten bytes come ahead of one: their lengths both begin with a 1, and a nought is below a colon.
	alerts = append(alerts, from(1, 5, "a="+wide))
	slices.SortFunc(want, func(a, b group.Group) int { return strings.Compare(a.Key, b.Key) })
	if want[0].Labels[0].Value != wide || want[1].Labels[0].Value != "\x00" || want[8].Labels[0].Value != "00" {
		t.Fatalf("the keys are others:\n%s", show(want))
	}
	holdOf(t, conf(root("a")), alerts, want...)
	slices.Reverse(alerts)
	holdOf(t, conf(root("a")), alerts, want...)
}

// P8.2: a group's alerts by rising label.Key, which is neither the order of alerts nor that of the labels' texts.
func TestOfAlertsRise(t *testing.T) {
	sorted := []api.Alert{
		from(5, 6, "abcdefghij=1"),
		from(1, 9, "a=1", "b=1"),
		from(3, 4, "a=1", "b=2"),
		from(2, 3, "a=1", "aa=1"),
		from(1, 2, "a=1"),
		from(8, 9, "a=2"),
		from(0, 1, "a=\xff"),
		from(9, 10, "a=10"),
		from(1, 5, "b=1"),
		from(4, 5, "aa=1"),
		from(7, 8),
	}
	if !slices.IsSortedFunc(sorted, func(a, b api.Alert) int { return strings.Compare(labelKey(a.Labels), labelKey(b.Labels)) }) {
		t.Fatal("not in order")
	}
	for i := range sorted {
		turned := slices.Concat(sorted[i:], sorted[:i])
		holdOf(t, conf(root()), turned, made(0, nil, sorted...))
		slices.Reverse(turned)
		holdOf(t, conf(root()), turned, made(0, nil, sorted...))
	}
}

// P8.2: those with one key in the order in which they came, be they two or many, and whatever their times.
func TestOfOneKey(t *testing.T) {
	one, two, other := from(9, 10, "a=1"), from(1, 2, "a=1"), from(5, 6, "a=2")
	holdOf(t, conf(root()), []api.Alert{one, other, two}, made(0, nil, one, two, other))
	holdOf(t, conf(root()), []api.Alert{other, two, one}, made(0, nil, two, one, other))
	holdOf(t, conf(root()), []api.Alert{one, one}, made(0, nil, one, one))

	var alerts, first, second []api.Alert
	for i := range 300 {
		a, b := from(i*7%300, 1000, "a=1"), from(i*11%300, 1000, "a=2")
		alerts, first, second = append(alerts, b, a), append(first, a), append(second, b)
	}
	holdOf(t, conf(root()), alerts, made(0, nil, slices.Concat(first, second)...))
	holdOf(t, conf(root("a")), alerts, made(0, pairs("a=1"), first...), made(0, pairs("a=2"), second...))
}

// P8.2: alerts that may not be are grouped as they stand.
func TestOfWrongAlerts(t *testing.T) {
	turned, right, twice := from(5, 1, "b=2", "a=1"), from(-1, -5, "a=1", "b=2"), from(0, 0, "a=1", "a=2")
	empty, wrong := from(0, 1<<50, "a="), from(3, 3, "A=1", "=")
	holdOf(t, conf(root("a", "b")), []api.Alert{wrong, empty, twice, right, turned},
		made(0, pairs("a="), empty),
		made(0, pairs("a=1", "a=2"), twice),
		made(0, pairs("a=1", "b=2"), right),
		made(0, pairs("b=2", "a=1"), turned),
		made(0, nil, wrong))
}

// P8.2: nothing of a configuration that route.Check refuses, whatever is wrong with it.
func TestOfWrongConfig(t *testing.T) {
	alerts := []api.Alert{from(1, 5, "a=1"), from(1, 5, "b=2")}
	right := func() api.Config {
		c := conf(root("a"), child(true, "a=1", "a"), child(false, ""))
		c.Rules = []api.Rule{{Source: []api.Matcher{{Name: "a", Value: "1"}}}}
		return c
	}
	if got := group.Of(right(), alerts); len(got) != 2 {
		t.Fatalf("of the right one:\n%s", show(got))
	}
	for says, do := range map[string]func(c *api.Config){
		"nothing":        func(c *api.Config) { *c = api.Config{} },
		"no routes":      func(c *api.Config) { c.Routes = nil },
		"17 routes":      func(c *api.Config) { c.Routes = append(c.Routes, slices.Repeat(c.Routes[2:], 14)...) },
		"9 rules":        func(c *api.Config) { c.Rules = make([]api.Rule, 9) },
		"a wrong rule":   func(c *api.Config) { c.Rules[0].Equal = []string{"A"} },
		"a first parent": func(c *api.Config) { c.Routes[0].Parent = 0 },
		"a round":        func(c *api.Config) { c.Routes[1].Parent, c.Routes[2].Parent = 2, 1 },
		"a far parent":   func(c *api.Config) { c.Routes[2].Parent = 1 << 40 },
		"first matchers": func(c *api.Config) { c.Routes[0].Matchers = c.Routes[1].Matchers },
		"a pattern": func(c *api.Config) {
			c.Routes[1].Matchers = []api.Matcher{{Name: "a", Op: api.Like, Value: "("}}
		},
		"By twice":        func(c *api.Config) { c.Routes[0].By = []string{"a", "a"} },
		"9 names":         func(c *api.Config) { c.Routes[0].By = strings.Split("a b c d e f g h i", " ") },
		"no receiver":     func(c *api.Config) { c.Routes[2].Receiver = "" },
		"no interval":     func(c *api.Config) { c.Routes[2].Interval = 0 },
		"a wait below 0":  func(c *api.Config) { c.Routes[0].Wait = -1 },
		"no repeat":       func(c *api.Config) { c.Routes[0].Repeat = 0 },
		"no peer timeout": func(c *api.Config) { c.PeerTimeout = 0 },
		"no resolve":      func(c *api.Config) { c.Resolve = 0 },
	} {
		c := right()
		do(&c)
		if route.Check(c) == api.OK {
			t.Errorf("%s: Check takes it", says)
		}
		if got := group.Of(c, alerts); len(got) != 0 {
			t.Errorf("%s: %s", says, show(got))
		}
	}
}

// P8.2: far more alerts than a store takes, and long labels.
func TestOfGreat(t *testing.T) {
	const n = 30_000
	var alerts []api.Alert
	for i := range n {
		alerts = append(alerts, from(i, i+1, fmt.Sprintf("a=%05d", n-1-i), fmt.Sprintf("b=%d", i%7)))
	}
	groups := group.Of(conf(root("a")), alerts)
	if len(groups) != n || groups[0].Labels[0].Value != "00000" || groups[n-1].Labels[0].Value != "29999" {
		t.Fatalf("%d groups", len(groups))
	}
	groups = group.Of(conf(root("b")), alerts)
	if len(groups) != 7 || groups[6].Key != "li0e1:b1:6e" || len(groups[6].Alerts) != n/7 {
		t.Errorf("%d groups", len(groups))
	}
	long := api.Alert{Labels: append(slices.Repeat(pairs("a=1"), 100_000), api.Pair{Name: "b", Value: strings.Repeat("\xff", 1_000_000)})}
	groups = group.Of(conf(root("a", "b")), []api.Alert{long, long})
	if len(groups) != 1 || len(groups[0].Alerts) != 2 || !slices.Equal(groups[0].Labels, long.Labels) || groups[0].Key != group.Key(0, long.Labels) {
		t.Errorf("%d groups of long labels", len(groups))
	}
}

// Rule 4: the same answer each time, though a map has no order.
func TestOfAgain(t *testing.T) {
	c := conf(root(), child(true, "", "a"), child(true, "", "b"), child(true, "", "a", "b"))
	var alerts []api.Alert
	for i := range 64 {
		alerts = append(alerts, from(i, i+1, fmt.Sprint("a=", i*5%8), fmt.Sprint("b=", i*3%7)))
	}
	want := show(group.Of(c, alerts))
	for range 50 {
		if got := show(group.Of(c, alerts)); got != want {
			t.Fatalf("another answer:\n%s", got)
		}
	}
}

// spoil changes labels, and what stands in the room behind them.
func spoil(l []api.Pair) {
	room := l[:cap(l)]
	for i := range room {
		room[i] = api.Pair{Name: "spoilt", Value: "x"}
	}
}

// shared makes a configuration by which the alerts go to three routes each, and these alerts.
func shared() (api.Config, []api.Alert) {
	c := conf(root("b"), child(true, "", "a"), child(true, "", "a", "b", "c"), child(true, ""))
	return c, []api.Alert{from(1, 5, "a=2", "b=1"), from(2, 6, "a=1", "b=1", "c=1"), from(3, 7, "a=1"), from(4, 8, "a=1")}
}

// Rule 3: an answer is new memory: what the caller does with the arguments behind the call does not change it.
func TestOfKeepsNothing(t *testing.T) {
	c, alerts := shared()
	groups := group.Of(c, alerts)
	want := show(groups)
	for i := range alerts {
		spoil(alerts[i].Labels)
		alerts[i] = api.Alert{}
	}
	for i := range c.Routes {
		clear(c.Routes[i].By)
		c.Routes[i] = api.Route{}
	}
	if got := show(groups); got != want {
		t.Errorf("changed:\n%snot\n%s", got, want)
	}
	c, alerts = shared()
	if got := show(group.Of(c, alerts)); got != want {
		t.Errorf("another answer:\n%s", got)
	}
}

// Rule 3: no two lists of one answer share memory, nor do their spare rooms; nor do two answers.
func TestOfListsApart(t *testing.T) {
	c, alerts := shared()
	groups, other := group.Of(c, alerts), group.Of(c, alerts)
	want := group.Of(c, alerts)
	for i := range groups {
		spoil(groups[i].Labels)
		want[i].Labels = groups[i].Labels
		if show(groups) != show(want) {
			t.Fatalf("labels of group %d are another list's, too:\n%s", i, show(groups))
		}
		for k := range groups[i].Alerts {
			spoil(groups[i].Alerts[k].Labels)
			want[i].Alerts[k].Labels = groups[i].Alerts[k].Labels
			if show(groups) != show(want) {
				t.Fatalf("labels of alert %d of group %d are another list's, too:\n%s", k, i, show(groups))
			}
		}
		clear(groups[i].Alerts[:cap(groups[i].Alerts)])
		want[i].Alerts = groups[i].Alerts
		if show(groups) != show(want) {
			t.Fatalf("alerts of group %d are another list's, too:\n%s", i, show(groups))
		}
	}
	clear(groups[:cap(groups)])
	if again := show(group.Of(c, alerts)); show(other) != again {
		t.Errorf("another answer changed:\n%s", show(other))
	}
	wantC, wantAlerts := shared()
	if !reflect.DeepEqual(c, wantC) || !reflect.DeepEqual(alerts, wantAlerts) {
		t.Errorf("the arguments changed: %v, %v", c, alerts)
	}
}

// Rule 3: Of changes nothing of its arguments, nor what stands behind them.
func TestOfArgumentsStay(t *testing.T) {
	room := func() ([]api.Alert, []api.Pair, []string) {
		labels := pairs("b=2", "a=1", "c=3", "d=4")
		return []api.Alert{{Labels: labels[:2], Start: 9}, {Labels: labels[2:3], Start: 8}, {Labels: labels[:1], Start: 7}, {Start: 6}}, labels, []string{"c", "b", "a"}
	}
	alerts, labels, by := room()
	group.Of(conf(root(by[:2]...)), alerts[:3])
	wantAlerts, wantLabels, wantBy := room()
	if !reflect.DeepEqual(alerts, wantAlerts) || !slices.Equal(labels, wantLabels) || !slices.Equal(by, wantBy) {
		t.Errorf("changed: %v, %v, %v", alerts, labels, by)
	}
}
