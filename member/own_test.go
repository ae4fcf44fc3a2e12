package member_test

import (
	"slices"
	"testing"

	"watchfire/api"
	"watchfire/member"
)

// spoil changes what a list has, and what stands in the room behind it.
func spoil[T any](l []T, spoilt T) {
	room := l[:cap(l)]
	for i := range room {
		room[i] = spoilt
	}
}

// spoilt is in no table.
var spoilt = api.Member{Node: 65535, State: 255, Incarnation: -1}

// P15.4, P15.5, Rule 3: what List, There and Merge tell is the asker's own.
func TestAnswersAreNew(t *testing.T) {
	for _, l := range [][]api.Member{nil, {dead(2, 3)}, {alive(63, 0), suspect(0, 1), dead(5, most)}} {
		x := table(t, 5, l...)
		f, want := x.Fork(), x.List()
		there := x.There()

		list, otherList := x.List(), x.List()
		spoil(list, spoilt)
		if !slices.Equal(otherList, want) {
			t.Errorf("another answer of List changed: %v", otherList)
		}
		hold(t, x, 5, want...)
		hold(t, f, 5, want...)

		nodes, otherNodes := x.There(), x.There()
		spoil(nodes, 65535)
		if !slices.Equal(otherNodes, there) {
			t.Errorf("another answer of There changed: %v", otherNodes)
		}
		hold(t, x, 5, want...)
		hold(t, f, 5, want...)

		merged := []api.Member{alive(9, 7), alive(8, 7)}
		told, otherTold := x.Merge(merged), f.Merge(merged)
		spoil(told, spoilt)
		if !slices.Equal(otherTold, merged) || !slices.Equal(merged, []api.Member{alive(9, 7), alive(8, 7)}) {
			t.Errorf("another answer of Merge changed, or its list: %v, %v", otherTold, merged)
		}
		spoil(merged, spoilt)
		if !slices.Equal(otherTold, []api.Member{alive(9, 7), alive(8, 7)}) {
			t.Errorf("Merge kept its list: %v", otherTold)
		}
		if !slices.Equal(x.List(), f.List()) || len(x.List()) != len(want)+2 {
			t.Errorf("%v, %v", x.List(), f.List())
		}
	}
}

// P15.5, Rule 3: what was told ahead stays as it was, whatever becomes of the table.
func TestAnswersStay(t *testing.T) {
	x := table(t, 5, alive(1, 0), dead(2, 0))
	list, there, told := x.List(), x.There(), x.Merge([]api.Member{alive(3, 0), suspect(5, 0)})
	x.Merge(x.List())
	for node := range uint16(64) {
		x.Hear(dead(node, 9))
	}
	if !slices.Equal(list, []api.Member{alive(1, 0), dead(2, 0), alive(5, 0)}) || !slices.Equal(there, []uint16{1, 5}) || !slices.Equal(told, []api.Member{alive(3, 0), alive(5, 1)}) {
		t.Errorf("%v, %v, %v", list, there, told)
	}
}

// P15.5: of nil nothing, zero and false.
func TestNil(t *testing.T) {
	var x *member.Table
	for range 2 {
		if m := x.Self(); m != (api.Member{}) {
			t.Errorf("Self() = %v", m)
		}
		if l, there, position, f := x.List(), x.There(), x.Position(), x.Fork(); len(l) != 0 || len(there) != 0 || position != 0 || f != nil {
			t.Errorf("%v, %v, %d, %v", l, there, position, f)
		}
		holdGets(t, x, nil)
		holdPassed(t, x, alive(0, 1))
		holdPassed(t, x, api.Member{})
		holdMerge(t, x, []api.Member{alive(0, 1), alive(2, 0)})
	}
}

// P15.2: two tables have nothing in common, be they of one node.
func TestTablesAreApart(t *testing.T) {
	one, two, three := member.New(5), member.New(5), member.New(69)
	if one == nil || one == two || one == three {
		t.Fatal("no table of its own")
	}
	holdMerge(t, one, []api.Member{suspect(5, 0), alive(2, 0)}, alive(5, 1), alive(2, 0))
	hold(t, one, 5, alive(2, 0), alive(5, 1))
	hold(t, two, 5, alive(5, 0))
	hold(t, three, 5, alive(5, 0))
	hold(t, member.New(5), 5, alive(5, 0))
}

// P15.5: looks change nothing.
func TestLooks(t *testing.T) {
	x := table(t, 5, dead(0, 3), suspect(2, 1), alive(63, most), dead(5, 8))
	for range 5 {
		hold(t, x, 5, dead(0, 3), suspect(2, 1), alive(5, 9), alive(63, most))
		x.Fork().Hear(alive(1, 1))
	}
}

// P15.5: a fork is as the table, and neither changes the other behind it.
func TestFork(t *testing.T) {
	was := []api.Member{dead(0, 3), suspect(2, 1), alive(5, 1), alive(9, 4)}
	start := func() *member.Table { return table(t, 5, alive(9, 4), dead(5, 0), suspect(2, 1), dead(0, 3)) }
	for _, change := range []struct {
		says string
		do   func(x *member.Table)
		want []api.Member
	}{
		{"a new one", func(x *member.Table) { x.Hear(alive(7, 0)) }, []api.Member{was[0], was[1], was[2], alive(7, 0), was[3]}},
		{"one above", func(x *member.Table) { x.Hear(alive(0, 4)) }, []api.Member{alive(0, 4), was[1], was[2], was[3]}},
		{"self", func(x *member.Table) { x.Hear(suspect(5, 1)) }, []api.Member{was[0], was[1], alive(5, 2), was[3]}},
		{"self, dead", func(x *member.Table) { x.Hear(dead(5, most)) }, []api.Member{was[0], was[1], dead(5, most), was[3]}},
		{"several", func(x *member.Table) { x.Merge([]api.Member{dead(2, 1), dead(9, 4), alive(9, 3)}) }, []api.Member{was[0], dead(2, 1), was[2], dead(9, 4)}},
		{"what it told is changed", func(x *member.Table) { spoil(x.List(), spoilt); spoil(x.There(), 8) }, was},
		{"what is below", func(x *member.Table) { x.Merge([]api.Member{alive(0, 3), suspect(5, 0), alive(64, 9)}) }, was},
		{"looks", func(x *member.Table) { x.Self(); x.Position(); x.Fork() }, was},
	} {
		t.Run(change.says, func(t *testing.T) {
			x := start()
			f := x.Fork()
			if f == nil || f == x {
				t.Fatal("no table of its own")
			}
			hold(t, f, 5, was...)
			change.do(x)
			hold(t, x, 5, change.want...)
			hold(t, f, 5, was...)

			x = start()
			f = x.Fork()
			change.do(f)
			hold(t, f, 5, change.want...)
			hold(t, x, 5, was...)

			// Both go the same way on, if they are told the same.
			change.do(x)
			hold(t, x, 5, change.want...)
			holdHear(t, x, alive(8, 1), alive(8, 1))
			holdHear(t, f, alive(8, 1), alive(8, 1))
			hold(t, f, 5, x.List()...)
		})
	}
}

// P15.5: forks of a new table, at both ends of nodes, and forks of forks.
func TestForkOfForks(t *testing.T) {
	for _, self := range []uint16{0, 63, 64, 127} {
		x := member.New(self)
		one := x.Fork()
		two := one.Fork()
		holdHear(t, two, dead(self%64, 4), alive(self%64, 5))
		three := two.Fork()
		holdHear(t, three, dead(self%64, most), dead(self%64, most))
		hold(t, x, self%64, alive(self%64, 0))
		hold(t, one, self%64, alive(self%64, 0))
		hold(t, two, self%64, alive(self%64, 5))
		hold(t, three, self%64, dead(self%64, most))
	}
}
