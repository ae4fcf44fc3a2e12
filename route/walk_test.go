package route_test

import (
	"math"
	"math/rand"
	"slices"
	"testing"

	"watchfire/api"
	"watchfire/route"
)

// labels are what the tests' routes are asked with: a route takes them, if it asks for nothing or for a=1.
var labels = []api.Pair{{Name: "a", Value: "1"}, {Name: "b", Value: "2"}}

// at makes a route that takes the labels.
func at(parent int) api.Route { return api.Route{Parent: parent, Matchers: is("a", "1")} }

// on makes one that takes them, too, with Continue.
func on(parent int) api.Route {
	return api.Route{Parent: parent, Matchers: is("b", "2"), Continue: true}
}

// no makes one that does not, with Continue or without.
func no(parent int, more bool) api.Route {
	return api.Route{Parent: parent, Matchers: []api.Matcher{{Name: "a", Value: "1"}, {Name: "b", Value: "1"}}, Continue: more}
}

// asks tells whether a route of these tests takes the labels.
func asks(r api.Route) bool {
	for _, m := range r.Matchers {
		if m != (api.Matcher{Name: "a", Value: "1"}) && m != (api.Matcher{Name: "b", Value: "2"}) {
			return false
		}
	}
	return true
}

// offspring tells the children of a route, as the chapter's words say.
func offspring(l []api.Route, i int) []int {
	var children []int
	for place := range l {
		if l[place].Parent == i {
			children = append(children, place)
		}
	}
	return children
}

// wayEnds tells whether a way from the first route down ends in one that tells itself, given that each route of it takes the labels.
func wayEnds(l []api.Route, way []int) bool {
	for i := 1; i < len(way); i++ {
		for _, sibling := range offspring(l, way[i-1]) {
			if sibling < way[i] && asks(l[sibling]) && !l[sibling].Continue {
				return false
			}
		}
	}
	// As many routes as there are lead to the last of this way: to its children more would.
	if len(way)-1 == len(l) {
		return true
	}
	return !slices.ContainsFunc(offspring(l, way[len(way)-1]), func(child int) bool { return asks(l[child]) })
}

// ways tells P5.2 otherwise than by a walk: of all ways down through routes that take the labels, those that end in one that tells itself, in the order of their places.
func ways(l []api.Route) []int {
	var all [][]int
	if len(l) > 0 && asks(l[0]) {
		all = append(all, []int{0})
	}
	var found [][]int
	for len(all) > 0 {
		way := all[0]
		all = all[1:]
		if wayEnds(l, way) {
			found = append(found, way)
		}
		for _, child := range offspring(l, way[len(way)-1]) {
			if asks(l[child]) && len(way) <= len(l) {
				all = append(all, append(slices.Clone(way), child))
			}
		}
	}
	slices.SortFunc(found, slices.Compare[[]int])
	var told []int
	for _, way := range found {
		told = append(told, way[len(way)-1])
	}
	return told
}

// P5.2: each rule of the walk by itself.
func TestWalk(t *testing.T) {
	for _, try := range []struct {
		says   string
		routes []api.Route
		want   []int
	}{
		{"one route", []api.Route{{Parent: -1}}, []int{0}},
		{"one route with Continue", []api.Route{{Parent: -1, Continue: true}}, []int{0}},
		{"one that takes them by its Matchers", []api.Route{at(-1)}, []int{0}},
		{"a first one that does not", []api.Route{no(-1, true), at(0), at(1)}, nil},
		{"no child that takes them", []api.Route{{Parent: -1}, no(0, false), no(0, true)}, []int{0}},
		{"a child that takes them", []api.Route{{Parent: -1}, at(0)}, []int{1}},
		{"no Continue", []api.Route{{Parent: -1}, at(0), at(0)}, []int{1}},
		{"Continue", []api.Route{{Parent: -1}, on(0), at(0), at(0)}, []int{1, 2}},
		{"Continue of the last", []api.Route{{Parent: -1}, on(0), on(0), on(0)}, []int{1, 2, 3}},
		{"Continue, and none behind", []api.Route{{Parent: -1}, on(0), no(0, false)}, []int{1}},
		{"no Continue of one that does not take them", []api.Route{{Parent: -1}, no(0, false), at(0)}, []int{2}},
		{"a child within a child", []api.Route{{Parent: -1}, at(0), at(1), at(2)}, []int{3}},
		{"a grandchild that does not take them", []api.Route{{Parent: -1}, at(0), no(1, true)}, []int{1}},
		{"a grandchild of one that does not", []api.Route{{Parent: -1}, no(0, true), at(1)}, []int{0}},
		{"a Continue within, none above", []api.Route{{Parent: -1}, at(0), at(0), on(1), on(1)}, []int{3, 4}},
		{"a Continue above, none within", []api.Route{{Parent: -1}, on(0), at(1), at(1), at(0)}, []int{2, 4}},
		{"a child that tells itself, and its sibling", []api.Route{{Parent: -1}, on(0), at(0), no(1, false)}, []int{1, 2}},
		{"later places within earlier ones", []api.Route{{Parent: -1}, on(0), on(0), on(2), on(1)}, []int{4, 3}},
		{"the first one's Continue", []api.Route{{Parent: -1, Continue: true}, at(0), at(0)}, []int{1}},
		{"other trees", []api.Route{{Parent: -1}, {Parent: -1}, at(1), at(0), at(7), at(-5)}, []int{3}},
		{"one ahead of its parent", []api.Route{{Parent: -1}, at(2), at(0)}, []int{1}},
	} {
		if told := route.Walk(try.routes, labels); !slices.Equal(told, try.want) {
			t.Errorf("%s: %v, not %v", try.says, told, try.want)
		}
		if told := ways(try.routes); !slices.Equal(told, try.want) {
			t.Errorf("%s, by ways: %v, not %v", try.says, told, try.want)
		}
	}
}

// P5.2: the chapter's example.
func TestWalkExample(t *testing.T) {
	l := []api.Route{{Parent: -1}, {Parent: 0, Matchers: is("a", "1"), Continue: true}, {Parent: 0, Matchers: is("a", "1")}, {Parent: 0, Matchers: is("b", "2")}}
	for _, try := range []struct {
		labels []api.Pair
		want   []int
	}{
		{[]api.Pair{{Name: "a", Value: "1"}}, []int{1, 2}},
		{[]api.Pair{{Name: "c", Value: "3"}}, []int{0}},
		{[]api.Pair{{Name: "b", Value: "2"}}, []int{3}},
		{labels, []int{1, 2}},
		{nil, []int{0}},
		{[]api.Pair{}, []int{0}},
	} {
		if told := route.Walk(l, try.labels); !slices.Equal(told, try.want) {
			t.Errorf("Walk with %v = %v, not %v", try.labels, told, try.want)
		}
	}
}

// P5.2: a route asks all its Matchers, each as it compares; a wrong one takes nothing.
func TestWalkMatchers(t *testing.T) {
	one := func(name string, op api.Op, value string) api.Matcher {
		return api.Matcher{Name: name, Op: op, Value: value}
	}
	for _, try := range []struct {
		l    []api.Matcher
		want int
	}{
		{nil, 1},
		{[]api.Matcher{}, 1},
		{[]api.Matcher{one("a", api.Is, "1"), one("b", api.IsNot, "1"), one("a", api.Like, "[0-9]"), one("c", api.NotLike, "x")}, 1},
		{[]api.Matcher{one("a", api.Is, "1"), one("b", api.IsNot, "2")}, 0},
		{[]api.Matcher{one("b", api.Like, "3|4"), one("a", api.Is, "1")}, 0},
		{[]api.Matcher{one("c", api.Is, "")}, 1},
		{[]api.Matcher{one("A", api.IsNot, "1")}, 0},
		{[]api.Matcher{one("a", 4, "1")}, 0},
		{[]api.Matcher{one("a", api.NotLike, "(")}, 0},
	} {
		l := []api.Route{{Parent: -1}, {Parent: 0, Matchers: try.l}}
		if told := route.Walk(l, labels); !slices.Equal(told, []int{try.want}) {
			t.Errorf("Walk with %v = %v, not %d", try.l, told, try.want)
		}
	}
}

// P5.2: no routes at all.
func TestWalkNothing(t *testing.T) {
	for _, l := range [][]api.Route{nil, {}} {
		if told := route.Walk(l, labels); len(told) > 0 {
			t.Errorf("Walk of no routes = %v", told)
		}
	}
}

// P5.2: routes whose Parents go round: the walk ends where more routes lead to one than there are.
func TestWalkRound(t *testing.T) {
	for _, try := range []struct {
		says   string
		routes []api.Route
		want   []int
	}{
		{"one that is its own parent", []api.Route{at(0)}, []int{0}},
		{"two", []api.Route{at(1), at(0)}, []int{0}},
		{"three", []api.Route{at(2), at(0), at(1)}, []int{0}},
		{"two of three", []api.Route{at(1), at(0), at(-1)}, []int{1}},
		{"two of three, and a child", []api.Route{at(1), on(0), at(0)}, []int{1, 2, 2}},
		{"its own parent, with a child behind", []api.Route{on(0), at(0)}, []int{0, 1, 1}},
		{"round, but not taken", []api.Route{at(1), no(0, false)}, []int{0}},
		{"round beside the first one", []api.Route{at(-1), at(2), at(1)}, []int{0}},
	} {
		if told := ways(try.routes); !slices.Equal(told, try.want) {
			t.Errorf("%s, by ways: %v, not %v", try.says, told, try.want)
		}
		if told := route.Walk(try.routes, labels); !slices.Equal(told, try.want) {
			t.Errorf("%s: %v, not %v", try.says, told, try.want)
		}
	}
}

// eachList goes through all lists of n routes, with each Parent that is a place or none.
func eachList(n int, yield func(l []api.Route)) {
	var kinds []api.Route
	for parent := -1; parent <= n; parent++ {
		kinds = append(kinds, at(parent), on(parent), no(parent, false), no(parent, true))
	}
	l := make([]api.Route, n)
	var fill func(i int)
	fill = func(i int) {
		if i == n {
			yield(l)
			return
		}
		for _, kind := range kinds {
			l[i] = kind
			fill(i + 1)
		}
	}
	fill(0)
}

// P5.2: all lists of up to four routes, trees and others, against the chapter's words.
func TestWalkAll(t *testing.T) {
	for n := range 5 {
		if n == 4 && testing.Short() {
			break
		}
		eachList(n, func(l []api.Route) {
			if told, want := route.Walk(l, labels), ways(l); !slices.Equal(told, want) {
				t.Fatalf("Walk(%v) = %v, not %v", l, told, want)
			}
		})
	}
}

// grown tells a tree of up to 16 routes.
func grown(r *rand.Rand) []api.Route {
	l := []api.Route{{Parent: -1, Continue: r.Intn(2) == 0}}
	for i := 1; i < 1+r.Intn(16); i++ {
		parent := r.Intn(i)
		l = append(l, []api.Route{{Parent: parent}, at(parent), on(parent), on(parent), no(parent, false), no(parent, true)}[r.Intn(6)])
	}
	return l
}

// P5.2: trees with more routes.
func TestWalkGrown(t *testing.T) {
	r := rand.New(rand.NewSource(5))
	for range 20_000 {
		l := grown(r)
		if told, want := route.Walk(l, labels), ways(l); !slices.Equal(told, want) {
			t.Fatalf("Walk(%v) = %v, not %v", l, told, want)
		}
	}
}

// P5.2: lists that are far greater than those that may be end, too.
func TestWalkGreat(t *testing.T) {
	const n = 100_000
	long, flat, round := make([]api.Route, n), make([]api.Route, n), make([]api.Route, n)
	for i := range n {
		long[i].Parent = i - 1
		flat[i].Continue = true
		round[i].Parent = i ^ 1
	}
	flat[0].Parent = -1
	if told := route.Walk(long, nil); !slices.Equal(told, []int{n - 1}) {
		t.Errorf("Walk of a long line = %v", told)
	}
	if told := route.Walk(flat, nil); len(told) != n-1 || told[0] != 1 || told[n-2] != n-1 {
		t.Errorf("Walk of many children tells %d", len(told))
	}
	if told := route.Walk(round, nil); !slices.Equal(told, []int{0}) {
		t.Errorf("Walk of a great round = %v", told)
	}
}

// P5.4: of a configuration that may be, labels always go somewhere, and nowhere twice.
func TestSomewhereOnce(t *testing.T) {
	r := rand.New(rand.NewSource(6))
	for range 20_000 {
		c := api.Config{Routes: grown(r), PeerTimeout: 1, Resolve: 1}
		for i := range c.Routes {
			c.Routes[i].Receiver, c.Routes[i].Interval, c.Routes[i].Repeat = "r", 1, 1
		}
		if err := route.Check(c); err != api.OK {
			t.Fatalf("Check(%v) = %d", c, int(err))
		}
		for _, with := range [][]api.Pair{nil, labels, labels[:1], labels[1:], {{}}, {{Name: "A", Value: "\xff"}}} {
			told := route.Walk(c.Routes, with)
			if len(told) == 0 {
				t.Fatalf("Walk(%v, %v) tells nothing", c.Routes, with)
			}
			slices.Sort(told)
			if told[0] < 0 || told[len(told)-1] >= len(c.Routes) || len(slices.Compact(told)) < len(told) {
				t.Fatalf("Walk(%v, %v) tells %v", c.Routes, with, told)
			}
		}
	}
}

// P5.4: each list of up to four routes that may be, too.
func TestSomewhereOnceAll(t *testing.T) {
	for n := 1; n < 5; n++ {
		if n == 4 && testing.Short() {
			break
		}
		eachList(n, func(l []api.Route) {
			c := api.Config{Routes: slices.Clone(l), PeerTimeout: 1, Resolve: 1}
			c.Routes[0].Matchers = nil
			for i := range c.Routes {
				c.Routes[i].Receiver, c.Routes[i].Interval, c.Routes[i].Repeat = "r", 1, 1
			}
			if route.Check(c) != api.OK {
				return
			}
			told := route.Walk(c.Routes, labels)
			if slices.Sort(told); len(told) == 0 || len(slices.Compact(slices.Clone(told))) < len(told) {
				t.Fatalf("Walk(%v) tells %v", c.Routes, told)
			}
		})
	}
}

// P5.3: Children: of each place of all lists of up to three routes, and of what is no place.
func TestChildren(t *testing.T) {
	for n := range 4 {
		eachList(n, func(l []api.Route) {
			for i := -2; i <= n+1; i++ {
				var want []int
				if i >= 0 && i < n {
					want = offspring(l, i)
				}
				if told := route.Children(l, i); !slices.Equal(told, want) {
					t.Fatalf("Children(%v, %d) = %v, not %v", l, i, told, want)
				}
			}
		})
	}
}

// P5.3: Children: places that are none, though Parents name them.
func TestChildrenOfNone(t *testing.T) {
	for _, i := range []int{math.MinInt, -1 << 40, -17, -1, 3, 4, 1 << 40, math.MaxInt} {
		l := []api.Route{{Parent: i}, {Parent: i}, {Parent: 0}}
		if told := route.Children(l, i); len(told) > 0 {
			t.Errorf("Children of %d = %v", i, told)
		}
		if told := route.Children(l, 0); !slices.Equal(told, []int{2}) {
			t.Errorf("Children beside Parents %d = %v", i, told)
		}
		if told := route.Children(nil, i); len(told) > 0 {
			t.Errorf("Children of %d in no routes = %v", i, told)
		}
	}
	if told := route.Children(nil, 0); len(told) > 0 {
		t.Errorf("Children of the first of no routes = %v", told)
	}
}

// P5.2, P5.3: what Walk and Children tell is memory of its own, with its spare room.
func TestAnswersOwn(t *testing.T) {
	l := []api.Route{{Parent: -1}, on(0), on(0), on(0), on(1), on(1)}
	for _, call := range []func() []int{
		func() []int { return route.Walk(l, labels) },
		func() []int { return route.Children(l, 0) },
		func() []int { return route.Children(l, 1) },
	} {
		one, other := call(), call()
		want := slices.Clone(other)
		for i := range one[:cap(one)] {
			one[:cap(one)][i] = -7
		}
		if again := call(); !slices.Equal(other, want) || !slices.Equal(again, want) {
			t.Errorf("behind a change: %v and %v, not %v", other, again, want)
		}
	}
}

// FuzzWalk holds what Walk tells of any routes against the chapter's words.
func FuzzWalk(f *testing.F) {
	f.Add([]byte{0, 1, 0, 5, 10, 3})
	f.Add([]byte{2, 0, 1, 4, 2, 8, 0, 15})
	f.Fuzz(func(t *testing.T, b []byte) {
		var l []api.Route
		for i := 0; i+1 < len(b) && len(l) < 10; i += 2 {
			parent := int(b[i]%12) - 1
			l = append(l, []api.Route{{Parent: parent}, at(parent), on(parent), no(parent, false), no(parent, true)}[b[i+1]%5])
		}
		if told, want := route.Walk(l, labels), ways(l); !slices.Equal(told, want) {
			t.Fatalf("Walk(%v) = %v, not %v", l, told, want)
		}
	})
}
