package member_test

import (
	"math"
	"slices"
	"testing"

	"watchfire/api"
	"watchfire/member"
)

// P15.3: the chapter's example.
func TestExample(t *testing.T) {
	x := member.New(1)
	holdHear(t, x, alive(2, 0), alive(2, 0))
	holdHear(t, x, suspect(2, 0), suspect(2, 0))
	holdPassed(t, x, alive(2, 0))
	holdHear(t, x, alive(2, 1), alive(2, 1))
	holdHear(t, x, suspect(1, 0), alive(1, 1))
	hold(t, x, 1, alive(1, 1), alive(2, 1))
}

// P15.3: what is first heard of a node is taken in each State, also where zero is not below it, and at each edge.
func TestHearFirst(t *testing.T) {
	for _, node := range []uint16{0, 1, 4, 6, 31, 32, 62, 63} {
		for _, state := range []api.State{api.Alive, api.Suspect, api.Dead} {
			for _, incarnation := range []int{0, 1, 2, 1 << 20, most - 1, most} {
				x := member.New(5)
				m := api.Member{Node: node, State: state, Incarnation: incarnation}
				holdHear(t, x, m, m)
				want := []api.Member{m, alive(5, 0)}
				if node > 5 {
					slices.Reverse(want)
				}
				hold(t, x, 5, want...)
				holdPassed(t, x, m)
				hold(t, x, 5, want...)
			}
		}
	}
}

// rising are members of one node, each one above those ahead of it.
func rising(node uint16) []api.Member {
	return []api.Member{
		alive(node, 0), suspect(node, 0), dead(node, 0),
		alive(node, 1), suspect(node, 1), dead(node, 1),
		alive(node, 2),
		alive(node, most-1), suspect(node, most-1), dead(node, most-1),
		alive(node, most), suspect(node, most), dead(node, most),
	}
}

// P15.3: each two members of another node: one that is above takes the other's place as it is; one that is below, or the same, changes nothing.
func TestHearOfAnother(t *testing.T) {
	for i, first := range rising(7) {
		for j, second := range rising(7) {
			x := table(t, 5, alive(6, 3), first, suspect(9, 1))
			if j > i {
				holdHear(t, x, second, second)
				hold(t, x, 5, alive(5, 0), alive(6, 3), second, suspect(9, 1))
				holdPassed(t, x, first)
				hold(t, x, 5, alive(5, 0), alive(6, 3), second, suspect(9, 1))
			} else {
				holdPassed(t, x, second)
				hold(t, x, 5, alive(5, 0), alive(6, 3), first, suspect(9, 1))
			}
		}
	}
}

// P15.3: what a node hears of itself, at an incarnation that it came to by hearing it, or by saying otherwise: below, equal and above, in each State.
func TestHearOfSelf(t *testing.T) {
	for _, self := range []uint16{0, 5, 63} {
		for _, way := range []api.Member{alive(self, 4), suspect(self, 3), dead(self, 3)} {
			for _, c := range []struct {
				hears api.Member
				now   int
			}{
				{alive(self, 0), 0}, {suspect(self, 0), 0}, {dead(self, 0), 0},
				{alive(self, 3), 0}, {suspect(self, 3), 0}, {dead(self, 3), 0},
				{alive(self, 4), 0}, {suspect(self, 4), 5}, {dead(self, 4), 5},
				{alive(self, 5), 5}, {suspect(self, 5), 6}, {dead(self, 5), 6},
				{alive(self, 99), 99}, {suspect(self, 99), 100}, {dead(self, 99), 100},
				{alive(self, most-1), most - 1}, {suspect(self, most-1), most}, {dead(self, most-1), most},
			} {
				x := member.New(self)
				holdHear(t, x, way, alive(self, 4))
				hold(t, x, self, alive(self, 4))
				if c.now == 0 {
					holdPassed(t, x, c.hears)
					hold(t, x, self, alive(self, 4))
				} else {
					holdHear(t, x, c.hears, alive(self, c.now))
					hold(t, x, self, alive(self, c.now))
				}
			}
		}
	}
}

// P15.3: of a new table, what self hears of itself.
func TestHearOfNewSelf(t *testing.T) {
	for _, c := range []struct{ hears, now api.Member }{
		{suspect(5, 0), alive(5, 1)},
		{dead(5, 0), alive(5, 1)},
		{alive(5, 1), alive(5, 1)},
		{suspect(5, 1), alive(5, 2)},
		{dead(5, 1), alive(5, 2)},
	} {
		x := member.New(5)
		holdPassed(t, x, alive(5, 0))
		holdHear(t, x, c.hears, c.now)
		hold(t, x, 5, c.now)
		holdPassed(t, x, c.hears)
		hold(t, x, 5, c.now)
	}
}

// P15.3: at MaxIncarnation a node has no next one, and is what others say of it.
func TestHearOfSelfAtMost(t *testing.T) {
	for i, first := range rising(5)[10:] {
		for j, second := range rising(5)[10:] {
			x := member.New(5)
			holdHear(t, x, first, first)
			hold(t, x, 5, first)
			if j > i {
				holdHear(t, x, second, second)
				hold(t, x, 5, second)
			} else {
				holdPassed(t, x, second)
				hold(t, x, 5, first)
			}
			for _, below := range rising(5)[:10] {
				holdPassed(t, x, below)
			}
			hold(t, x, 5, higher(first, second))
		}
	}
	// It comes there by saying otherwise, too.
	x := table(t, 5, dead(5, most-1))
	hold(t, x, 5, alive(5, most))
	holdPassed(t, x, alive(5, most))
	holdHear(t, x, suspect(5, most), suspect(5, most))
	holdHear(t, x, dead(5, most), dead(5, most))
	hold(t, x, 5, dead(5, most))
}

// higher tells the member that is above, of two that are at one incarnation.
func higher(a, b api.Member) api.Member {
	if a.State > b.State {
		return a
	}
	return b
}

// refused are members that may not be.
var refused = []api.Member{
	alive(64, 0), alive(64, 9), alive(65, 9), alive(128, 9), alive(65535, 9), dead(64, most), suspect(69, 9),
	{Node: 2, State: 3, Incarnation: 9}, {Node: 2, State: 4, Incarnation: 9}, {Node: 2, State: 255, Incarnation: 9},
	{Node: 5, State: 3, Incarnation: 9}, {Node: 5, State: 255, Incarnation: 9}, {Node: 9, State: 3},
	alive(2, -1), dead(2, -1), alive(2, math.MinInt), alive(9, -1), dead(5, -1), dead(9, math.MinInt),
	alive(2, most+1), dead(2, most+1), alive(5, most+1), suspect(5, most+1), alive(9, most+1), alive(2, 1<<32), alive(5, math.MaxInt), dead(9, math.MaxInt),
	{Node: 65535, State: 255, Incarnation: math.MinInt},
}

// P15.3: one that may not be is not heard, be its node there, or self, or not there, and changes nothing.
func TestHearRefuses(t *testing.T) {
	for _, m := range refused {
		for _, x := range []*member.Table{member.New(5), member.New(69), member.New(65535)} {
			was := x.Self()
			holdPassed(t, x, m)
			hold(t, x, was.Node, was)
		}
		x := table(t, 5, dead(0, 3), alive(2, 3), suspect(5, 3), alive(63, 0))
		holdPassed(t, x, m)
		hold(t, x, 5, dead(0, 3), alive(2, 3), alive(5, 4), alive(63, 0))
	}
}

// P15.3: a member of the last node, of the last State and of both ends of incarnations may be; one more may not.
func TestHearAtEdges(t *testing.T) {
	x := member.New(5)
	holdPassed(t, x, alive(64, 0))
	holdHear(t, x, alive(63, 0), alive(63, 0))
	holdPassed(t, x, api.Member{Node: 8, State: api.Dead + 1})
	holdHear(t, x, api.Member{Node: 8, State: api.Dead}, dead(8, 0))
	holdPassed(t, x, alive(9, -1))
	holdHear(t, x, alive(9, 0), alive(9, 0))
	holdPassed(t, x, alive(10, 1<<30+1))
	holdHear(t, x, alive(10, 1<<30), alive(10, 1<<30))
	hold(t, x, 5, alive(5, 0), dead(8, 0), alive(9, 0), alive(10, 1<<30), alive(63, 0))
}

// P15.3: nil hears nothing, be it right or wrong.
func TestHearOfNil(t *testing.T) {
	var x *member.Table
	for _, m := range slices.Concat(refused, rising(0), rising(63)) {
		holdPassed(t, x, m)
	}
}

// P15.3: where self is 0, and zero is a member, what is not heard is told as zero all the same.
func TestHearOfNodeZero(t *testing.T) {
	x := table(t, 0, alive(0, 7), dead(3, 1))
	holdPassed(t, x, alive(0, 7))
	holdPassed(t, x, alive(3, 1))
	hold(t, x, 0, alive(0, 7), dead(3, 1))
}
