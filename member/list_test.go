package member_test

import (
	"slices"
	"testing"

	"watchfire/api"
	"watchfire/member"
)

// P15.2: a new table has self alone, modulo 64.
func TestNew(t *testing.T) {
	for node := range uint16(64) {
		hold(t, member.New(node), node, alive(node, 0))
	}
	for self, node := range map[uint16]uint16{64: 0, 65: 1, 127: 63, 128: 0, 191: 63, 256: 0, 1000: 40, 32767: 63, 32768: 0, 65472: 0, 65473: 1, 65535: 63} {
		x := member.New(self)
		hold(t, x, node, alive(node, 0))
		// It hears of itself by that Node, and says otherwise.
		holdHear(t, x, suspect(node, 0), alive(node, 1))
		holdPassed(t, x, suspect(self, 1))
		hold(t, x, node, alive(node, 1))
	}
}

// P15.2: Self is that of the table's own node, whatever is heard of others; Get tells each node, and no other.
func TestSelfAndGet(t *testing.T) {
	x := table(t, 5, dead(0, 0), alive(4, 9), suspect(6, 8), alive(63, most))
	for _, c := range []struct {
		node uint16
		is   api.Member
		ok   bool
	}{
		{0, dead(0, 0), true}, {1, api.Member{}, false}, {4, alive(4, 9), true}, {5, alive(5, 0), true},
		{6, suspect(6, 8), true}, {7, api.Member{}, false}, {62, api.Member{}, false}, {63, alive(63, most), true},
		{64, api.Member{}, false}, {68, api.Member{}, false}, {69, api.Member{}, false}, {127, api.Member{}, false}, {128, api.Member{}, false},
		{32768, api.Member{}, false}, {65535, api.Member{}, false},
	} {
		if m, ok := x.Get(c.node); m != c.is || ok != c.ok {
			t.Errorf("Get(%d) = %v, %v", c.node, m, ok)
		}
	}
	if m := x.Self(); m != alive(5, 0) {
		t.Errorf("Self() = %v", m)
	}
	x.Hear(dead(5, 7))
	if m := x.Self(); m != alive(5, 8) {
		t.Errorf("Self() = %v", m)
	}
}

// P15.2: no node but self is there in a new table, at all the numbers that there are.
func TestGetOfAllNumbers(t *testing.T) {
	for _, self := range []uint16{0, 5, 63, 64} {
		x := member.New(self)
		for node := 0; node < 1<<16; node++ {
			if m, ok := x.Get(uint16(node)); ok != (node == int(self%64)) || m != (api.Member{Node: m.Node}) || !ok && m.Node != 0 {
				t.Errorf("New(%d): Get(%d) = %v, %v", self, node, m, ok)
			}
		}
	}
}

// P15.5: where self is the first, in the midst, or the last, and some are dead.
func TestPlaces(t *testing.T) {
	others := []api.Member{alive(1, 0), dead(2, 3), suspect(7, 1), dead(20, 0), alive(21, 2), dead(40, most), suspect(62, 0)}
	for _, c := range []struct {
		self     uint16
		position int
		there    []uint16
	}{
		{0, 0, []uint16{0, 1, 7, 21, 62}},
		{3, 1, []uint16{1, 3, 7, 21, 62}},
		{6, 1, []uint16{1, 6, 7, 21, 62}},
		{8, 2, []uint16{1, 7, 8, 21, 62}},
		{22, 3, []uint16{1, 7, 21, 22, 62}},
		{41, 3, []uint16{1, 7, 21, 41, 62}},
		{61, 3, []uint16{1, 7, 21, 61, 62}},
		{63, 4, []uint16{1, 7, 21, 62, 63}},
	} {
		for _, reversed := range []bool{false, true} {
			l := slices.Clone(others)
			if reversed {
				slices.Reverse(l)
			}
			x := table(t, c.self, l...)
			if there := x.There(); !slices.Equal(there, c.there) {
				t.Errorf("There() = %v, not %v", there, c.there)
			}
			if position := x.Position(); position != c.position {
				t.Errorf("Position() of %d = %d, not %d", c.self, position, c.position)
			}
			hold(t, x, c.self, slices.SortedFunc(slices.Values(append(l, alive(c.self, 0))), func(a, b api.Member) int { return int(a.Node) - int(b.Node) })...)
		}
	}
}

// P15.5: a node comes, is suspected, is dead, and is there again; so Position goes by those that are there now.
func TestPlacesChange(t *testing.T) {
	x := table(t, 5, alive(9, 0))
	for _, c := range []struct {
		heard    api.Member
		position int
	}{
		{alive(3, 0), 1}, {suspect(3, 0), 1}, {alive(4, 0), 2}, {dead(3, 0), 1}, {dead(4, 0), 0},
		{alive(3, 1), 1}, {dead(9, 0), 1}, {alive(4, 1), 2}, {suspect(9, 1), 2}, {dead(4, 7), 1}, {suspect(4, 8), 2}, {dead(3, most), 1}, {dead(0, 0), 1}, {suspect(0, 1), 2},
	} {
		holdHear(t, x, c.heard, c.heard)
		if position := x.Position(); position != c.position {
			t.Errorf("behind %v: Position() = %d, not %d", c.heard, position, c.position)
		}
	}
	hold(t, x, 5, suspect(0, 1), dead(3, most), suspect(4, 8), alive(5, 0), suspect(9, 1))
}

// P15.5: where self is not there itself, There has it not, and Position counts those below it all the same.
func TestPlacesOfDeadSelf(t *testing.T) {
	for _, c := range []struct {
		self     uint16
		position int
	}{{0, 0}, {3, 1}, {8, 2}, {63, 3}} {
		x := table(t, c.self, alive(1, 0), dead(2, 0), suspect(7, 0), alive(62, 0), dead(c.self, most))
		if there := x.There(); !slices.Equal(there, []uint16{1, 7, 62}) {
			t.Errorf("There() = %v", there)
		}
		if position := x.Position(); position != c.position {
			t.Errorf("Position() of %d = %d, not %d", c.self, position, c.position)
		}
		if l := x.List(); len(l) != 5 || !slices.Contains(l, dead(c.self, most)) {
			t.Errorf("List() = %v", l)
		}
	}
	// One that is suspected is there.
	x := table(t, 3, suspect(3, most), alive(1, 0))
	hold(t, x, 3, alive(1, 0), suspect(3, most))
	// One that is alone and dead leaves nobody there.
	x = table(t, 3, dead(3, most))
	if len(x.There()) != 0 || x.Position() != 0 || !slices.Equal(x.List(), []api.Member{dead(3, most)}) {
		t.Errorf("%v, %d, %v", x.There(), x.Position(), x.List())
	}
}

// P15.5: all nodes at once, for each node as self: all there, and just the even ones.
func TestPlacesOfAll(t *testing.T) {
	for self := range uint16(64) {
		x := member.New(self)
		for node := range uint16(64) {
			x.Hear(alive(node, 1))
		}
		if there := x.There(); len(there) != 64 || !slices.IsSorted(there) || x.Position() != int(self) {
			t.Errorf("%v, %d of %d", there, x.Position(), self)
		}
		for node := uint16(1); node < 64; node += 2 {
			x.Hear(dead(node, most))
		}
		if there := x.There(); len(there) != 32 || there[31] != 62 || x.Position() != int(self+1)/2 || len(x.List()) != 64 {
			t.Errorf("%v, %d of %d", there, x.Position(), self)
		}
	}
}
