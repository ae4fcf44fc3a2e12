package route_test

import (
	"fmt"
	"math"
	"slices"
	"strings"
	"testing"

	"watchfire/api"
	"watchfire/route"
)

const top = 1 << 40

// is makes a list of one matcher.
func is(name, value string) []api.Matcher { return []api.Matcher{{Name: name, Value: value}} }

// right makes a configuration that may be: two routes, two rules, each list with something in it.
func right() api.Config {
	return api.Config{
		Routes: []api.Route{
			{Parent: -1, By: []string{"a", "b"}, Receiver: "first", Wait: 3, Interval: 4, Repeat: 5},
			{Parent: 0, Matchers: is("a", "1"), Continue: true, By: []string{"c", "d"}, Receiver: "second", Wait: 6, Interval: 7, Repeat: 8},
		},
		Rules: []api.Rule{
			{Source: is("s", "1"), Target: is("t", "2"), Equal: []string{"e", "f"}},
			{Source: is("u", "3"), Target: is("v", "4"), Equal: []string{"g", "h"}},
		},
		PeerTimeout: 9,
		Resolve:     10,
	}
}

// names tells so many names.
func names(n int) []string {
	var l []string
	for i := range n {
		l = append(l, fmt.Sprintf("n%d", i))
	}
	return l
}

// noNames are texts that are none.
var noNames = []string{"", "0", "9a", "A", "a-b", "a b", "a\x00", "\xff", "\u00e4", "abcdefghijklmnopq", strings.Repeat("a", 100_000)}

// wrong is a way to make a configuration wrong, and its error.
type wrong struct {
	says string
	do   func(c *api.Config)
	err  api.Errno
}

// wrongs are in the order in which P5.1 names their errors.
func wrongs() []wrong {
	l := []wrong{
		{"17 routes", func(c *api.Config) { c.Routes = append(c.Routes, make([]api.Route, 15)...) }, api.ErrLong},
		{"9 rules", func(c *api.Config) { c.Rules = append(c.Rules, make([]api.Rule, 7)...) }, api.ErrLong},
		{"first Parent", func(c *api.Config) { c.Routes[0].Parent = 0 }, api.ErrRoute},
		{"first Matchers", func(c *api.Config) { c.Routes[0].Matchers = is("a", "1") }, api.ErrRoute},
		{"Parent below 0", func(c *api.Config) { c.Routes[1].Parent = -1 }, api.ErrRoute},
		{"Parent at its place", func(c *api.Config) { c.Routes[1].Parent = 1 }, api.ErrRoute},
	}
	for i := range 2 {
		l = append(l, wrongRoute(i)...)
	}
	for i := range 2 {
		l = append(l, wrongRule(i)...)
	}
	return append(l,
		wrong{"PeerTimeout", func(c *api.Config) { c.PeerTimeout = 0 }, api.ErrTime},
		wrong{"Resolve", func(c *api.Config) { c.Resolve = 0 }, api.ErrTime},
	)
}

// wrongRoute is what can be wrong in the route i.
func wrongRoute(i int) []wrong {
	var l []wrong
	// Whatever the first route's Matchers are, their being there is ErrRoute.
	if i > 0 {
		l = append(l,
			wrong{"9 Matchers", func(c *api.Config) { c.Routes[i].Matchers = slices.Repeat(is("a", "1"), 9) }, api.ErrLong},
			wrong{"Matchers", func(c *api.Config) { c.Routes[i].Matchers = []api.Matcher{{Name: "a", Op: 4}} }, api.ErrArg},
		)
	}
	return append(l,
		wrong{"By long", func(c *api.Config) { c.Routes[i].By = names(9) }, api.ErrLong},
		wrong{"By name", func(c *api.Config) { c.Routes[i].By = []string{"A"} }, api.ErrName},
		wrong{"By twice", func(c *api.Config) { c.Routes[i].By = []string{"a", "a"} }, api.ErrName},
		wrong{"Receiver", func(c *api.Config) { c.Routes[i].Receiver = "" }, api.ErrName},
		wrong{"Wait", func(c *api.Config) { c.Routes[i].Wait = -1 }, api.ErrTime},
		wrong{"Interval", func(c *api.Config) { c.Routes[i].Interval = 0 }, api.ErrTime},
		wrong{"Repeat", func(c *api.Config) { c.Routes[i].Repeat = 0 }, api.ErrTime},
	)
}

// wrongRule is what can be wrong in the rule i.
func wrongRule(i int) []wrong {
	return []wrong{
		{"Source", func(c *api.Config) { c.Rules[i].Source = []api.Matcher{{Name: "a", Op: api.Like, Value: "("}} }, api.ErrPattern},
		{"Target", func(c *api.Config) { c.Rules[i].Target = []api.Matcher{{Name: "a", Op: 4}} }, api.ErrArg},
		{"Equal long", func(c *api.Config) { c.Rules[i].Equal = names(9) }, api.ErrLong},
		{"Equal name", func(c *api.Config) { c.Rules[i].Equal = []string{"A"} }, api.ErrName},
		{"Equal twice", func(c *api.Config) { c.Rules[i].Equal = []string{"a", "a"} }, api.ErrName},
	}
}

// expect holds what Check tells of the configuration that a change makes of a right one.
func expect(t *testing.T, says string, want api.Errno, do func(c *api.Config)) {
	t.Helper()
	c := right()
	do(&c)
	if err := route.Check(c); err != want {
		t.Errorf("Check with %s = %d, not %d", says, int(err), int(want))
	}
}

// P5.1: each error alone, and of two at once the first one.
func TestCheckFirstError(t *testing.T) {
	expect(t, "nothing wrong", api.OK, func(c *api.Config) {})
	all := wrongs()
	for i, a := range all {
		expect(t, a.says, a.err, a.do)
		for _, b := range all[i+1:] {
			expect(t, a.says+", "+b.says, a.err, func(c *api.Config) {
				b.do(c)
				a.do(c)
			})
		}
	}
}

// P5.1: 16 routes and 17, 8 rules and 9.
func TestCheckCounts(t *testing.T) {
	for n := 1; n <= 40; n++ {
		routes, rules := api.OK, api.OK
		if n > 16 {
			routes = api.ErrLong
		}
		if n > 8 {
			rules = api.ErrLong
		}
		expect(t, fmt.Sprint(n, " routes"), routes, func(c *api.Config) {
			c.Routes = append(c.Routes[:1], slices.Repeat(c.Routes[1:], n-1)...)
		})
		expect(t, fmt.Sprint(n, " rules"), rules, func(c *api.Config) { c.Rules = slices.Repeat(c.Rules[:1], n) })
	}
	expect(t, "one route and no rules", api.OK, func(c *api.Config) { c.Routes, c.Rules = c.Routes[:1], nil })
	expect(t, "empty rules", api.OK, func(c *api.Config) { c.Rules = make([]api.Rule, 8) })
}

// P5.1: no route at all, which is told ahead of what else is wrong, but not of too many rules.
func TestCheckNoRoute(t *testing.T) {
	for _, none := range [][]api.Route{nil, {}} {
		expect(t, "no route", api.ErrRoute, func(c *api.Config) { c.Routes = none })
		expect(t, "no route, wrong rule", api.ErrRoute, func(c *api.Config) {
			c.Routes = none
			c.Rules[0].Source = is("A", "")
		})
		expect(t, "no route, 9 rules", api.ErrLong, func(c *api.Config) { c.Routes, c.Rules = none, make([]api.Rule, 9) })
	}
	if err := route.Check(api.Config{}); err != api.ErrRoute {
		t.Errorf("Check of nothing = %d", int(err))
	}
}

// P5.1: each Parent at each place of five routes.
func TestCheckParents(t *testing.T) {
	for at := range 5 {
		for _, parent := range []int{math.MinInt, -top, -3, -2, -1, 0, 1, 2, 3, 4, 5, 6, 17, top, math.MaxInt} {
			want := api.ErrRoute
			if at == 0 && parent == -1 || parent >= 0 && parent < at {
				want = api.OK
			}
			expect(t, fmt.Sprintf("Parent %d at %d", parent, at), want, func(c *api.Config) {
				c.Routes = append(c.Routes[:1], slices.Repeat(c.Routes[1:], 4)...)
				c.Routes[at].Parent = parent
			})
		}
	}
}

// P5.1: the first route's Matchers, right ones and wrong ones, are one too many.
func TestCheckFirstMatchers(t *testing.T) {
	for _, l := range [][]api.Matcher{is("a", "1"), is("a", ""), is("A", "1"), slices.Repeat(is("a", "1"), 9), {{}}} {
		expect(t, fmt.Sprint("first Matchers ", l), api.ErrRoute, func(c *api.Config) { c.Routes[0].Matchers = l })
	}
	expect(t, "empty first Matchers", api.OK, func(c *api.Config) { c.Routes[0].Matchers = []api.Matcher{} })
}

// P5.1: Matchers of a route, of Source and of Target, with each error that they can have.
func TestCheckMatchers(t *testing.T) {
	one := func(name string, op api.Op, value string) []api.Matcher {
		return []api.Matcher{{Name: "z"}, {Name: name, Op: op, Value: value}}
	}
	for _, try := range []struct {
		l    []api.Matcher
		want api.Errno
	}{
		{nil, api.OK},
		{[]api.Matcher{}, api.OK},
		{slices.Repeat(is("a", "1"), 8), api.OK},
		{slices.Repeat(is("a", "1"), 9), api.ErrLong},
		{one("a", api.NotLike, "1|2"), api.OK},
		{one("A", api.Is, ""), api.ErrName},
		{one("a", 4, ""), api.ErrArg},
		{one("a", api.IsNot, strings.Repeat("v", 64)), api.OK},
		{one("a", api.IsNot, strings.Repeat("v", 65)), api.ErrLong},
		{one("a", api.Like, "("), api.ErrPattern},
		{one("a", api.Is, "("), api.OK},
	} {
		says := fmt.Sprint(try.l)
		expect(t, "Matchers "+says, try.want, func(c *api.Config) { c.Routes[1].Matchers = try.l })
		for i := range 2 {
			expect(t, "Source "+says, try.want, func(c *api.Config) { c.Rules[i].Source = try.l })
			expect(t, "Target "+says, try.want, func(c *api.Config) { c.Rules[i].Target = try.l })
		}
	}
}

// expectNames holds what Check tells where a list of names stands in each place that has one.
func expectNames(t *testing.T, l []string, want api.Errno) {
	t.Helper()
	for i := range 2 {
		expect(t, fmt.Sprintf("By %.80q", l), want, func(c *api.Config) { c.Routes[i].By = l })
		expect(t, fmt.Sprintf("Equal %.80q", l), want, func(c *api.Config) { c.Rules[i].Equal = l })
	}
}

// P5.1: so many names in By and in Equal.
func TestCheckNamesCount(t *testing.T) {
	for n := range 20 {
		want := api.OK
		if n > 8 {
			want = api.ErrLong
		}
		expectNames(t, names(n), want)
	}
	expectNames(t, []string{}, api.OK)
	expectNames(t, slices.Repeat([]string{"a"}, 9), api.ErrLong)
	expectNames(t, slices.Repeat([]string{"A"}, 9), api.ErrLong)
}

// P5.1: a text that is no name, at each place of eight.
func TestCheckNoName(t *testing.T) {
	for at := range 8 {
		for _, text := range noNames {
			l := names(8)
			l[at] = text
			expectNames(t, l, api.ErrName)
		}
	}
	expectNames(t, []string{"_", "a_0", "abcdefghijklmnop"}, api.OK)
}

// P5.1: a name that is there twice, at each two places of eight; names that are almost the same are not.
func TestCheckNameTwice(t *testing.T) {
	for a := range 8 {
		for b := range a {
			l := names(8)
			l[a] = l[b]
			expectNames(t, l, api.ErrName)
		}
	}
	expectNames(t, []string{"a", "aa", "aaa", "ab", "ba", "b"}, api.OK)
	// Two lists may have the same names.
	expect(t, "By as another By and as Equal", api.OK, func(c *api.Config) {
		c.Routes[0].By, c.Routes[1].By, c.Rules[0].Equal, c.Rules[1].Equal = names(8), names(8), names(8), names(8)
	})
}

// P5.1: Receivers.
func TestCheckReceiver(t *testing.T) {
	for i := range 2 {
		for _, text := range noNames {
			expect(t, fmt.Sprintf("Receiver %.80q", text), api.ErrName, func(c *api.Config) { c.Routes[i].Receiver = text })
		}
		for _, text := range []string{"a", "_", "z9", "abcdefghijklmnop"} {
			expect(t, fmt.Sprintf("Receiver %.80q", text), api.OK, func(c *api.Config) { c.Routes[i].Receiver = text })
		}
	}
	expect(t, "one Receiver twice", api.OK, func(c *api.Config) { c.Routes[1].Receiver = c.Routes[0].Receiver })
}

// P5.1: each time at its edges.
func TestCheckTimes(t *testing.T) {
	fields := []struct {
		says  string
		least int
		of    func(c *api.Config) *int
	}{
		{"first Wait", 0, func(c *api.Config) *int { return &c.Routes[0].Wait }},
		{"first Interval", 1, func(c *api.Config) *int { return &c.Routes[0].Interval }},
		{"first Repeat", 1, func(c *api.Config) *int { return &c.Routes[0].Repeat }},
		{"Wait", 0, func(c *api.Config) *int { return &c.Routes[1].Wait }},
		{"Interval", 1, func(c *api.Config) *int { return &c.Routes[1].Interval }},
		{"Repeat", 1, func(c *api.Config) *int { return &c.Routes[1].Repeat }},
		{"PeerTimeout", 1, func(c *api.Config) *int { return &c.PeerTimeout }},
		{"Resolve", 1, func(c *api.Config) *int { return &c.Resolve }},
	}
	for _, field := range fields {
		for _, ticks := range []int{math.MinInt, -top - 1, -top, -2, -1, 0, 1, 2, top - 1, top, top + 1, 2 * top, math.MaxInt} {
			want := api.ErrTime
			if ticks >= field.least && ticks <= top {
				want = api.OK
			}
			expect(t, fmt.Sprint(field.says, " ", ticks), want, func(c *api.Config) { *field.of(c) = ticks })
		}
	}
}

// P5.1: the greatest configuration that may be.
func TestCheckGreatest(t *testing.T) {
	expect(t, "all at their greatest", api.OK, func(c *api.Config) {
		long := slices.Repeat([]api.Matcher{{Name: "abcdefghijklmnop", Op: api.NotLike, Value: strings.Repeat("v", 64)}}, 8)
		r := api.Route{Matchers: long, Continue: true, By: names(8), Receiver: "abcdefghijklmnop", Wait: top, Interval: top, Repeat: top}
		c.Routes = slices.Repeat([]api.Route{r}, 16)
		for i := range c.Routes {
			c.Routes[i].Parent = i - 1
		}
		c.Routes[0].Matchers = nil
		c.Rules = slices.Repeat([]api.Rule{{Source: long, Target: long, Equal: names(8)}}, 8)
		c.PeerTimeout, c.Resolve = top, top
	})
}
