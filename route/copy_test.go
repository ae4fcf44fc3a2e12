package route_test

import (
	"fmt"
	"reflect"
	"slices"
	"testing"

	"watchfire/api"
	"watchfire/route"
)

// eachPart goes through all that a value is made of: numbers, texts, bools and lists, with those in lists.
func eachPart(v reflect.Value, says string, yield func(part reflect.Value, says string)) {
	switch v.Kind() {
	case reflect.Struct:
		for i := range v.NumField() {
			eachPart(v.Field(i), says+"."+v.Type().Field(i).Name, yield)
		}
	case reflect.Slice:
		for i := range v.Len() {
			eachPart(v.Index(i), fmt.Sprint(says, ".", i), yield)
		}
		yield(v, says)
	default:
		yield(v, says)
	}
}

// parts tells how many parts a right configuration has, and their names.
func parts() []string {
	c := right()
	var l []string
	eachPart(reflect.ValueOf(&c).Elem(), "", func(_ reflect.Value, says string) { l = append(l, says) })
	return l
}

// change makes one part of a configuration another one.
func change(c *api.Config, name string) {
	eachPart(reflect.ValueOf(c).Elem(), "", func(part reflect.Value, says string) {
		if says != name {
			return
		}
		switch part.Kind() {
		case reflect.String:
			part.SetString(part.String() + "x")
		case reflect.Bool:
			part.SetBool(!part.Bool())
		case reflect.Int:
			part.SetInt(part.Int() + 1)
		case reflect.Uint8:
			part.SetUint(part.Uint() + 1)
		case reflect.Slice:
			part.Set(reflect.Append(part, reflect.Zero(part.Type().Elem())))
		default:
			panic("a part of no known kind")
		}
	})
}

// P5.3: Same: each field counts, in each place, and its being there.
func TestSameFields(t *testing.T) {
	all := parts()
	if len(all) != 49 {
		t.Fatalf("%d parts: %v", len(all), all)
	}
	for _, name := range all {
		other := right()
		change(&other, name)
		if reflect.DeepEqual(other, right()) {
			t.Fatalf("%s is not changed", name)
		}
		if route.Same(right(), other) || route.Same(other, right()) {
			t.Errorf("Same with another %s", name)
		}
		again := right()
		change(&again, name)
		if !route.Same(other, again) {
			t.Errorf("not Same with one other %s", name)
		}
	}
}

// P5.3: Same: lists that are shorter, or in another order.
func TestSameLists(t *testing.T) {
	if !route.Same(right(), right()) {
		t.Fatal("not Same")
	}
	for says, do := range map[string]func(c *api.Config){
		"no routes":       func(c *api.Config) { c.Routes = nil },
		"one route":       func(c *api.Config) { c.Routes = c.Routes[:1] },
		"turned routes":   func(c *api.Config) { slices.Reverse(c.Routes) },
		"no rules":        func(c *api.Config) { c.Rules = nil },
		"one rule":        func(c *api.Config) { c.Rules = c.Rules[:1] },
		"turned rules":    func(c *api.Config) { slices.Reverse(c.Rules) },
		"no By":           func(c *api.Config) { c.Routes[0].By = nil },
		"one By":          func(c *api.Config) { c.Routes[0].By = c.Routes[0].By[:1] },
		"turned By":       func(c *api.Config) { slices.Reverse(c.Routes[1].By) },
		"no Matchers":     func(c *api.Config) { c.Routes[1].Matchers = nil },
		"no Source":       func(c *api.Config) { c.Rules[0].Source = nil },
		"no Target":       func(c *api.Config) { c.Rules[0].Target = nil },
		"turned rule":     func(c *api.Config) { c.Rules[0].Source, c.Rules[0].Target = c.Rules[0].Target, c.Rules[0].Source },
		"no Equal":        func(c *api.Config) { c.Rules[1].Equal = nil },
		"turned Equal":    func(c *api.Config) { slices.Reverse(c.Rules[1].Equal) },
		"turned times":    func(c *api.Config) { c.PeerTimeout, c.Resolve = c.Resolve, c.PeerTimeout },
		"nothing at all":  func(c *api.Config) { *c = api.Config{} },
		"Wait as Repeat":  func(c *api.Config) { c.Routes[0].Wait, c.Routes[0].Repeat = c.Routes[0].Repeat, c.Routes[0].Wait },
		"Wait, Interval":  func(c *api.Config) { c.Routes[1].Wait, c.Routes[1].Interval = 7, 6 },
		"one route twice": func(c *api.Config) { c.Routes = append(c.Routes, c.Routes[1]) },
	} {
		other := right()
		do(&other)
		if route.Same(right(), other) || route.Same(other, right()) {
			t.Errorf("Same with %s", says)
		}
	}
}

// empty makes a configuration whose lists have nothing in them, each nil or empty as a bit says.
func empty(bits int) api.Config {
	var r api.Route
	var rule api.Rule
	c := api.Config{Routes: []api.Route{r}, Rules: []api.Rule{rule}}
	if bits&1 > 0 {
		c.Routes[0].Matchers = []api.Matcher{}
	}
	if bits&2 > 0 {
		c.Routes[0].By = make([]string, 0, 3)
	}
	if bits&4 > 0 {
		c.Rules[0].Source = []api.Matcher{}
	}
	if bits&8 > 0 {
		c.Rules[0].Target = make([]api.Matcher, 0, 3)
	}
	if bits&16 > 0 {
		c.Rules[0].Equal = []string{}
	}
	return c
}

// P5.3: Same, Copy: an empty list and nil are the same, in each list.
func TestEmptyLists(t *testing.T) {
	for a := range 32 {
		for b := range 32 {
			if !route.Same(empty(a), empty(b)) {
				t.Errorf("not Same: %#v, %#v", empty(a), empty(b))
			}
		}
		if !route.Same(route.Copy(empty(a)), empty(0)) {
			t.Errorf("Copy(%#v) = %#v", empty(a), route.Copy(empty(a)))
		}
	}
	none, some := api.Config{}, api.Config{Routes: []api.Route{}, Rules: make([]api.Rule, 0, 4)}
	for _, a := range []api.Config{none, some} {
		for _, b := range []api.Config{none, some} {
			if !route.Same(a, b) || !route.Same(route.Copy(a), b) || !route.Same(a, route.Copy(b)) {
				t.Errorf("not Same: %#v, %#v", a, b)
			}
		}
	}
}

// P5.3: Copy: all fields are there; those that may not be, too.
func TestCopy(t *testing.T) {
	for _, c := range []api.Config{right(), {}, {Resolve: -1}, {PeerTimeout: 1 << 50}, {Routes: make([]api.Route, 40), Rules: make([]api.Rule, 20)}} {
		if x := route.Copy(c); !reflect.DeepEqual(x, c) || !route.Same(x, c) {
			t.Errorf("Copy(%v) = %v", c, x)
		}
	}
	for _, w := range wrongs() {
		c := right()
		w.do(&c)
		if x := route.Copy(c); !reflect.DeepEqual(x, c) || !route.Same(x, c) {
			t.Errorf("Copy of one with %s = %v", w.says, x)
		}
	}
}

// spoil changes each part of a configuration, in all its lists, and what room they have behind.
func spoil(c *api.Config) {
	eachPart(reflect.ValueOf(c).Elem(), "", func(part reflect.Value, _ string) {
		if part.Kind() != reflect.Slice {
			part.SetZero()
			return
		}
		room := part.Slice(0, part.Cap())
		for i := range room.Len() {
			room.Index(i).SetZero()
		}
	})
}

// P5.3: Copy: a copy whose lists are changed, one by one and all, leaves the first one as it was, and the other way round.
func TestCopyOwn(t *testing.T) {
	for _, name := range parts() {
		c := right()
		x := route.Copy(c)
		change(&x, name)
		if !reflect.DeepEqual(c, right()) {
			t.Errorf("behind a change of the copy's %s: %v", name, c)
		}
		x = route.Copy(c)
		change(&c, name)
		if !reflect.DeepEqual(x, right()) {
			t.Errorf("behind a change of %s the copy is %v", name, x)
		}
	}
	c := right()
	x, y := route.Copy(c), route.Copy(c)
	spoil(&x)
	if !reflect.DeepEqual(c, right()) || !reflect.DeepEqual(y, right()) {
		t.Errorf("behind a copy's change: %v, and another copy is %v", c, y)
	}
}

// P5.3: Copy: of one whose lists are all one list, each list of the copy is its own, with its spare room.
func TestCopyShared(t *testing.T) {
	matchers := append(make([]api.Matcher, 0, 8), is("a", "1")[0], is("b", "2")[0])
	texts := append(make([]string, 0, 8), "a", "b")
	shared := func() api.Config {
		r := api.Route{Matchers: matchers, By: texts}
		rule := api.Rule{Source: matchers, Target: matchers, Equal: texts}
		return api.Config{Routes: []api.Route{r, r, r}, Rules: []api.Rule{rule, rule, rule}}
	}
	x := route.Copy(shared())
	var lists []reflect.Value
	eachPart(reflect.ValueOf(&x).Elem(), "", func(part reflect.Value, _ string) {
		if part.Kind() == reflect.Slice {
			lists = append(lists, part)
		}
	})
	if len(lists) != 17 {
		t.Fatalf("%d lists", len(lists))
	}
	lists = append(lists, reflect.ValueOf(matchers), reflect.ValueOf(texts))
	for i, a := range lists {
		for _, b := range lists[:i] {
			if overlap(a, b) {
				t.Errorf("the lists %v and %v share memory", a, b)
			}
		}
	}
}

// overlap tells whether two lists share memory, with their spare room.
func overlap(a, b reflect.Value) bool {
	reach := func(v reflect.Value) (from, to uintptr) {
		return v.Pointer(), v.Pointer() + uintptr(v.Cap())*v.Type().Elem().Size()
	}
	from, to := reach(a)
	begin, end := reach(b)
	return from < end && begin < to
}

// roomy makes the right configuration with something in the room behind each list.
func roomy() api.Config {
	c := right()
	eachPart(reflect.ValueOf(&c).Elem(), "", func(part reflect.Value, _ string) {
		if part.Kind() != reflect.Slice {
			return
		}
		n := part.Len()
		longer := reflect.MakeSlice(part.Type(), 2*n, 2*n)
		reflect.Copy(longer, part)
		reflect.Copy(longer.Slice(n, 2*n), part)
		part.Set(longer.Slice(0, n))
	})
	return c
}

// stretch makes each list of a configuration as long as it has room.
func stretch(c *api.Config) {
	eachPart(reflect.ValueOf(c).Elem(), "", func(part reflect.Value, _ string) {
		if part.Kind() == reflect.Slice {
			part.Set(part.Slice(0, part.Cap()))
		}
	})
}

// Rule 3: no call changes what it is given, nor what stands behind it.
func TestArgumentsStay(t *testing.T) {
	for says, call := range map[string]func(c api.Config, l []api.Pair){
		"Check":    func(c api.Config, _ []api.Pair) { route.Check(c) },
		"Walk":     func(c api.Config, l []api.Pair) { route.Walk(c.Routes, l) },
		"Children": func(c api.Config, _ []api.Pair) { route.Children(c.Routes, 0) },
		"Copy":     func(c api.Config, _ []api.Pair) { route.Copy(c) },
		"Same":     func(c api.Config, _ []api.Pair) { route.Same(c, c) },
	} {
		c, want, l := roomy(), roomy(), slices.Clone(labels)
		call(c, l)
		stretch(&c)
		stretch(&want)
		if !reflect.DeepEqual(c, want) || !slices.Equal(l, labels) {
			t.Errorf("%s changed its arguments: %v, %v", says, c, l)
		}
	}
}
