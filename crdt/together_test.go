package crdt_test

import (
	"math/rand"
	"slices"
	"strconv"
	"testing"

	"watchfire/api"
	"watchfire/crdt"
)

// merged makes a map of entries, of which several may have one key.
func merged(lists ...[]api.Entry) *crdt.Map {
	m := crdt.New()
	for _, l := range lists {
		m.Merge(l)
	}
	return m
}

// permutations calls do with all orders of a list.
func permutations(l []api.Entry, do func(l []api.Entry)) {
	var grow func(order []int)
	grow = func(order []int) {
		if len(order) == len(l) {
			var row []api.Entry
			for _, place := range order {
				row = append(row, l[place])
			}
			do(row)
			return
		}
		for place := range l {
			if !slices.Contains(order, place) {
				grow(append(slices.Clone(order), place))
			}
		}
	}
	grow(nil)
}

// mixed are entries of few keys, which differ by each field.
func mixed() []api.Entry {
	return []api.Entry{
		at("a", 5, 1, "v", 9), at("a", 5, 1, "v", 10), at("a", 5, 1, "w", 6), at("a", 5, 2, "", 5),
		at("b", 0, 0, "", 0), at("b", 1, 0, "", 1), at("c", 1<<40, 0, "", 1<<40),
	}
}

// P10.5: all orders of some entries make the same map.
func TestOrderDoesNotMatter(t *testing.T) {
	permutations(mixed(), func(l []api.Entry) {
		m := merged(l)
		if got := m.List(); !slices.Equal(got, []api.Entry{at("a", 5, 2, "", 5), at("b", 1, 0, "", 1), at("c", 1<<40, 0, "", 1<<40)}) {
			t.Fatalf("of %s: %s", show(l...), show(got...))
		}
		// Nothing that came is news any more.
		if n := m.Merge(l); n != 0 {
			t.Fatalf("of %s, told again: %d", show(l...), n)
		}
	})
}

// P10.5: many entries, in many orders, each told once, twice, or more often, by Put, by Merge, and by way of other maps.
func TestTimesDoNotMatter(t *testing.T) {
	source := rand.New(rand.NewSource(5))
	for range 30 {
		var l []api.Entry
		for i := range 400 {
			time := source.Intn(6)
			l = append(l, at("k"+strconv.Itoa(i%(1+source.Intn(256))), time, uint16(source.Intn(3)), []string{"", "a", "b"}[source.Intn(3)], time+source.Intn(3)))
		}
		want := merged(l).List()
		for range 5 {
			row := slices.Concat(l, l[:source.Intn(len(l))], l[source.Intn(len(l)):])
			source.Shuffle(len(row), func(i, j int) { row[i], row[j] = row[j], row[i] })
			cut := source.Intn(len(row))
			one, other := merged(row[:cut]), merged(row[cut:])
			hold(t, merged(row), want...)
			hold(t, merged(row[:cut], other.List()), want...)
			one.Merge(other.List())
			other.Merge(one.List())
			hold(t, one, want...)
			hold(t, other, want...)
		}
	}
}

// holdTogether holds that two maps become the same, and one of all that both knew, by what each tells the other one by Delta.
func holdTogether(t *testing.T, a, b []api.Entry) {
	t.Helper()
	want := merged(a, b).List()

	// Both tell what they had ahead of being told.
	one, other := merged(a), merged(b)
	toOther, toOne := one.Delta(other.List()), other.Delta(one.List())
	// Each entry of a Delta is news, or it would not be enough to be told.
	if n := other.Merge(toOther); n != len(toOther) {
		t.Errorf("of %s only %d are news", show(toOther...), n)
	}
	if n := one.Merge(toOne); n != len(toOne) {
		t.Errorf("of %s only %d are news", show(toOne...), n)
	}
	hold(t, one, want...)
	hold(t, other, want...)
	if !crdt.Same(one.List(), other.List()) {
		t.Errorf("%s and %s are unlike", show(one.List()...), show(other.List()...))
	}
	if l, m := one.Delta(other.List()), other.Delta(one.List()); len(l) != 0 || len(m) != 0 {
		t.Errorf("the same maps tell one another %s and %s", show(l...), show(m...))
	}

	// One tells, and then the other one does.
	one, other = merged(a), merged(b)
	other.Merge(one.Delta(other.List()))
	hold(t, other, want...)
	one.Merge(other.Delta(one.List()))
	hold(t, one, want...)
}

// P10.5: what two maps tell one another by Delta is enough for both to be the same, of all rows of up to three entries each.
func TestTogether(t *testing.T) {
	some := []api.Entry{at("a", 1, 1, "", 2), at("a", 1, 2, "", 1), at("a", 2, 1, "", 2), at("b", 1, 1, "", 2), at("b", 1, 1, "x", 1), at("c", 1, 1, "", 2)}
	rows(some, 3, func(a []api.Entry) {
		rows(some, 2, func(b []api.Entry) { holdTogether(t, a, b) })
	})
}

// P10.5: maps of many entries, likewise, up to where there is no room.
func TestManyTogether(t *testing.T) {
	l := numbered(256)
	later := slices.Clone(l)
	for i := range later {
		later[i].Time += i % 2
	}
	holdTogether(t, l, nil)
	holdTogether(t, nil, l)
	holdTogether(t, l, l)
	holdTogether(t, l[:128], l[128:])
	holdTogether(t, l[:200], later[100:])
	holdTogether(t, later, l)
}

// P10.5: three maps, of which each tells just the next one, become the same behind two rounds.
func TestThreeTogether(t *testing.T) {
	permutations(mixed(), func(l []api.Entry) {
		maps := []*crdt.Map{merged(l[:2]), merged(l[2:5]), merged(l[5:])}
		for range 2 {
			for i, m := range maps {
				next := maps[(i+1)%3]
				next.Merge(m.Delta(next.List()))
			}
		}
		want := merged(mixed()).List()
		for _, m := range maps {
			if got := m.List(); !slices.Equal(got, want) {
				t.Fatalf("of %s: %s", show(l...), show(got...))
			}
		}
	})
}
