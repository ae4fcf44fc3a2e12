package member_test

import (
	"slices"
	"testing"

	"watchfire/api"
	"watchfire/member"
)

// P15.4: of nothing nothing, and nothing changes.
func TestMergeOfNothing(t *testing.T) {
	for _, l := range [][]api.Member{nil, {}} {
		x := member.New(5)
		holdMerge(t, x, l)
		hold(t, x, 5, alive(5, 0))
		x = table(t, 5, dead(2, 3))
		holdMerge(t, x, l)
		hold(t, x, 5, dead(2, 3), alive(5, 0))
	}
}

// P15.4: members are heard one behind the other; those that were told with true are told, in that order, as Hear tells them.
func TestMerge(t *testing.T) {
	for _, c := range []struct {
		says             string
		merged, told, is []api.Member
	}{
		{"one", []api.Member{alive(2, 0)}, []api.Member{alive(2, 0)}, []api.Member{alive(2, 0), alive(5, 0)}},
		{"not by rising nodes", []api.Member{dead(9, 1), alive(2, 0), alive(63, 4), suspect(4, 0)}, []api.Member{dead(9, 1), alive(2, 0), alive(63, 4), suspect(4, 0)}, []api.Member{alive(2, 0), suspect(4, 0), alive(5, 0), dead(9, 1), alive(63, 4)}},
		{"one twice", []api.Member{suspect(2, 3), suspect(2, 3)}, []api.Member{suspect(2, 3)}, []api.Member{suspect(2, 3), alive(5, 0)}},
		{"one twice, with another one between", []api.Member{suspect(2, 3), alive(3, 0), suspect(2, 3)}, []api.Member{suspect(2, 3), alive(3, 0)}, []api.Member{suspect(2, 3), alive(3, 0), alive(5, 0)}},
		{"above then", []api.Member{suspect(2, 3), dead(2, 3), alive(2, 4)}, []api.Member{suspect(2, 3), dead(2, 3), alive(2, 4)}, []api.Member{alive(2, 4), alive(5, 0)}},
		{"below then", []api.Member{alive(2, 4), dead(2, 3), suspect(2, 3)}, []api.Member{alive(2, 4)}, []api.Member{alive(2, 4), alive(5, 0)}},
		{"above, and below, and above", []api.Member{alive(2, 4), dead(2, 3), suspect(2, 4)}, []api.Member{alive(2, 4), suspect(2, 4)}, []api.Member{suspect(2, 4), alive(5, 0)}},
		{"self as it is", []api.Member{alive(2, 4), alive(5, 0), alive(6, 0)}, []api.Member{alive(2, 4), alive(6, 0)}, []api.Member{alive(2, 4), alive(5, 0), alive(6, 0)}},
		{"self suspected, among others", []api.Member{alive(2, 4), suspect(5, 6), alive(6, 0)}, []api.Member{alive(2, 4), alive(5, 7), alive(6, 0)}, []api.Member{alive(2, 4), alive(5, 7), alive(6, 0)}},
		{"self suspected, then dead, then what it said", []api.Member{suspect(5, 6), dead(5, 6), alive(5, 7), suspect(5, 7)}, []api.Member{alive(5, 7), alive(5, 8)}, []api.Member{alive(5, 8)}},
		{"self at the highest incarnation", []api.Member{dead(5, most-1), suspect(5, most), alive(5, most), dead(5, most)}, []api.Member{alive(5, most), suspect(5, most), dead(5, most)}, []api.Member{dead(5, most)}},
		{"wrong ones among others", []api.Member{alive(64, 0), alive(2, 0), alive(2, -1), alive(3, most+1), {Node: 4, State: 3}, dead(4, 0), suspect(5, most+1)}, []api.Member{alive(2, 0), dead(4, 0)}, []api.Member{alive(2, 0), dead(4, 0), alive(5, 0)}},
		{"wrong ones alone", refused, nil, []api.Member{alive(5, 0)}},
	} {
		t.Run(c.says, func(t *testing.T) {
			x := member.New(5)
			was := slices.Clone(c.merged)
			holdMerge(t, x, c.merged, c.told...)
			hold(t, x, 5, c.is...)
			if !slices.Equal(c.merged, was) {
				t.Errorf("the list changed: %v", c.merged)
			}
			// A second time nothing of it is news, as nothing was left that is above.
			holdMerge(t, x, c.merged)
			hold(t, x, 5, c.is...)
		})
	}
}

// P15.4: all nodes at once, each of which is news, and then none.
func TestMergeOfAll(t *testing.T) {
	var l []api.Member
	for node := range uint16(64) {
		l = append(l, api.Member{Node: node, State: api.State(node % 3), Incarnation: int(node) + 1})
	}
	l[5] = alive(5, 6)
	for range 2 {
		slices.Reverse(l)
		x := member.New(5)
		holdMerge(t, x, l, l...)
		holdMerge(t, x, l)
		want := slices.Clone(l)
		slices.SortFunc(want, func(a, b api.Member) int { return int(a.Node) - int(b.Node) })
		hold(t, x, 5, want...)
		holdMerge(t, x, x.List())
	}
}

// P15.4: long lists, each member of which is above the one ahead.
func TestMergeOfMany(t *testing.T) {
	var l []api.Member
	for incarnation := range 2000 {
		l = append(l, alive(2, incarnation), suspect(2, incarnation), dead(2, incarnation))
	}
	x := member.New(5)
	holdMerge(t, x, l, l...)
	hold(t, x, 5, dead(2, 1999), alive(5, 0))
	slices.Reverse(l)
	x = member.New(5)
	holdMerge(t, x, l, dead(2, 1999))
	hold(t, x, 5, dead(2, 1999), alive(5, 0))
}

// P15.4: nil is told nothing of any list.
func TestMergeOfNil(t *testing.T) {
	var x *member.Table
	for _, l := range [][]api.Member{nil, refused, rising(0), rising(5)} {
		holdMerge(t, x, l)
	}
}
