package member_test

import (
	"math"
	"testing"

	"watchfire/api"
	"watchfire/member"
)

// P15.1: members from the lowest one to the highest one, of which each is above all those ahead of it, and above no other; their Nodes do not count.
func TestAbove(t *testing.T) {
	rising := []api.Member{
		dead(1, math.MinInt),
		{Node: 9, State: 255, Incarnation: -1},
		alive(5, 0),
		suspect(4, 0),
		dead(3, 0),
		alive(4, 1),
		suspect(4, 1),
		dead(4, 1),
		{Node: 4, State: 3, Incarnation: 1},
		{Node: 4, State: 255, Incarnation: 1},
		alive(2, 2),
		suspect(64, most-1),
		alive(1, most),
		suspect(1, most),
		dead(1, most),
		alive(0, most+1),
		alive(65535, math.MaxInt),
		{State: 255, Incarnation: math.MaxInt},
	}
	for i, a := range rising {
		for j, b := range rising {
			if got := member.Above(a, b); got != (i > j) {
				t.Errorf("Above(%v, %v) = %v", a, b, got)
			}
			if words := wantAbove(a, b); words != (i > j) {
				t.Errorf("Above(%v, %v), by words: %v", a, b, words)
			}
		}
	}
}

// P15.1: the Incarnation counts first, whatever the States; of one Incarnation the State does, whatever the Nodes.
func TestAboveByEachField(t *testing.T) {
	states := []api.State{api.Alive, api.Suspect, api.Dead}
	for _, one := range states {
		for _, two := range states {
			for _, nodes := range [][2]uint16{{0, 0}, {0, 63}, {63, 0}, {7, 8}} {
				a := api.Member{Node: nodes[0], State: one, Incarnation: 6}
				b := api.Member{Node: nodes[1], State: two, Incarnation: 5}
				if !member.Above(a, b) || member.Above(b, a) {
					t.Errorf("%v is not above %v alone", a, b)
				}
				b.Incarnation = 6
				if member.Above(a, b) != (one > two) {
					t.Errorf("Above(%v, %v) = %v", a, b, one <= two)
				}
			}
		}
	}
}
