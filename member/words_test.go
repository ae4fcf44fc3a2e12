package member_test

import (
	"cmp"
	"maps"
	"math"
	"math/rand"
	"slices"
	"testing"

	"watchfire/api"
	"watchfire/member"
)

// most is the highest incarnation.
const most = 1 << 30

// alive makes a member that is there.
func alive(node uint16, incarnation int) api.Member {
	return api.Member{Node: node, State: api.Alive, Incarnation: incarnation}
}

// suspect makes a member that may be gone.
func suspect(node uint16, incarnation int) api.Member {
	return api.Member{Node: node, State: api.Suspect, Incarnation: incarnation}
}

// dead makes a member that is gone.
func dead(node uint16, incarnation int) api.Member {
	return api.Member{Node: node, State: api.Dead, Incarnation: incarnation}
}

// table makes a table with these heard, one behind the other.
func table(t testing.TB, self uint16, l ...api.Member) *member.Table {
	t.Helper()
	x := member.New(self)
	for _, m := range l {
		if _, ok := x.Hear(m); !ok {
			t.Fatalf("Hear(%v) = false", m)
		}
	}
	return x
}

// hold holds what a table tells of itself against the members that it must have, by rising Nodes.
func hold(t *testing.T, x *member.Table, self uint16, want ...api.Member) {
	t.Helper()
	if got := x.List(); !slices.Equal(got, want) {
		t.Errorf("List() = %v, not %v", got, want)
	}
	var there []uint16
	position := 0
	for _, m := range want {
		if m.Node == self {
			if got := x.Self(); got != m {
				t.Errorf("Self() = %v, not %v", got, m)
			}
		}
		if m.State == api.Dead {
			continue
		}
		there = append(there, m.Node)
		if m.Node < self {
			position++
		}
	}
	if got := x.There(); !slices.Equal(got, there) {
		t.Errorf("There() = %v, not %v", got, there)
	}
	if got := x.Position(); got != position {
		t.Errorf("Position() = %d, not %d", got, position)
	}
	holdGets(t, x, want)
}

// holdGets holds what Get answers of all nodes that may be, and of some that may not.
func holdGets(t *testing.T, x *member.Table, want []api.Member) {
	t.Helper()
	for node := range uint16(200) {
		var m api.Member
		place := slices.IndexFunc(want, func(m api.Member) bool { return m.Node == node })
		if place >= 0 {
			m = want[place]
		}
		if got, ok := x.Get(node); got != m || ok != (place >= 0) {
			t.Errorf("Get(%d) = %v, %v", node, got, ok)
		}
	}
}

// holdHear holds what Hear answers: this member and true.
func holdHear(t *testing.T, x *member.Table, m, want api.Member) {
	t.Helper()
	if got, ok := x.Hear(m); got != want || !ok {
		t.Errorf("Hear(%v) = %v, %v, not %v, true", m, got, ok, want)
	}
}

// holdPassed holds that Hear answers zero and false.
func holdPassed(t *testing.T, x *member.Table, m api.Member) {
	t.Helper()
	if got, ok := x.Hear(m); got != (api.Member{}) || ok {
		t.Errorf("Hear(%v) = %v, %v", m, got, ok)
	}
}

// holdMerge holds what Merge answers.
func holdMerge(t *testing.T, x *member.Table, l []api.Member, want ...api.Member) {
	t.Helper()
	if got := x.Merge(l); !slices.Equal(got, want) {
		t.Errorf("Merge(%v) = %v, not %v", l, got, want)
	}
}

// wantAbove tells P15.1's words.
func wantAbove(a, b api.Member) bool {
	if a.Incarnation != b.Incarnation {
		return a.Incarnation > b.Incarnation
	}
	return a.State > b.State
}

// wantMayBe tells the chapter's words of which members may be.
func wantMayBe(m api.Member) bool {
	return m.Node <= 63 && m.State <= 2 && 0 <= m.Incarnation && m.Incarnation <= most
}

// model is a table as the chapter's words tell it.
type model struct {
	self    uint16
	members map[uint16]api.Member
}

// newModel tells P15.2's words of New.
func newModel(self uint16) model {
	self %= 64
	return model{self: self, members: map[uint16]api.Member{self: alive(self, 0)}}
}

// fork tells a model of its own.
func (w model) fork() model {
	w.members = maps.Clone(w.members)
	return w
}

// list tells P15.5's words of List.
func (w model) list() []api.Member {
	return slices.SortedFunc(maps.Values(w.members), func(a, b api.Member) int { return cmp.Compare(a.Node, b.Node) })
}

// hear tells P15.3's words.
func (w model) hear(m api.Member) (api.Member, bool) {
	if !wantMayBe(m) {
		return api.Member{}, false
	}
	if was, there := w.members[m.Node]; there && !wantAbove(m, was) {
		return api.Member{}, false
	}
	now := m
	if m.Node == w.self && m.State != api.Alive {
		if m.Incarnation < most {
			now.State = api.Alive
			now.Incarnation++
		}
	}
	w.members[m.Node] = now
	return now, true
}

// merge tells P15.4's words.
func (w model) merge(l []api.Member) []api.Member {
	var told []api.Member
	for _, m := range l {
		if now, ok := w.hear(m); ok {
			told = append(told, now)
		}
	}
	return told
}

// someMember tells a member by two numbers: of a few nodes, each State, and incarnations at all edges; some may not be.
func someMember(x, y byte) api.Member {
	node := []uint16{0, 1, 2, 3, 31, 32, 62, 63}[x%8]
	if x >= 250 {
		node = []uint16{64, 65, 66, 127, 128, 65535}[x-250]
	}
	state := []api.State{api.Alive, api.Suspect, api.Dead}[x/8%3]
	if x/8 == 30 {
		state = api.State(y)
	}
	incarnation := int(y) % 8
	if y >= 220 {
		incarnation = []int{most - 2, most - 1, most, most + 1, -1, math.MinInt, math.MaxInt}[y%7]
	}
	return api.Member{Node: node, State: state, Incarnation: incarnation}
}

// play does what bytes say with two tables and with the chapter's words of them, and holds the ones against the others.
func play(t *testing.T, steps []byte) {
	selves := []uint16{0, 1, 3, 32, 63, 64, 66, 127, 65535}
	if len(steps) == 0 {
		return
	}
	self := selves[int(steps[0])%len(selves)]
	x, other := member.New(self), member.New(self+1)
	words, otherWords := newModel(self), newModel(self+1)
	for steps = steps[1:]; len(steps) >= 3; steps = steps[3:] {
		switch kind := steps[0] % 16; kind {
		case 0:
			other, otherWords = x.Fork(), words.fork()
		case 1:
			x, other, words, otherWords = other, x, otherWords, words
		case 2:
			l := other.List()
			holdMerge(t, x, l, words.merge(l)...)
		case 3:
			x, words = member.New(self), newModel(self)
		case 4, 5, 6, 7:
			l := []api.Member{someMember(steps[1], steps[2]), someMember(steps[2], steps[1]), someMember(steps[1], steps[2]+1)}
			holdMerge(t, x, l, words.merge(l)...)
		default:
			m := someMember(steps[1], steps[2])
			if now, ok := words.hear(m); ok {
				holdHear(t, x, m, now)
			} else {
				holdPassed(t, x, m)
			}
		}
		hold(t, x, words.self, words.list()...)
		hold(t, other, otherWords.self, otherWords.list()...)
		if t.Failed() {
			t.FailNow()
		}
	}
}

// P15.2 to P15.6: long rows of steps, against the chapter's words.
func TestPlay(t *testing.T) {
	source := rand.New(rand.NewSource(15))
	for row := range 60 {
		steps := make([]byte, 1+3*400)
		source.Read(steps)
		steps[0] = byte(row)
		play(t, steps)
	}
}

// FuzzTable holds any row of steps against the chapter's words.
func FuzzTable(f *testing.F) {
	f.Add([]byte{1, 8, 2, 0, 8, 10, 0, 8, 2, 0, 8, 2, 1, 8, 9, 0})
	f.Add([]byte{5, 8, 0, 224, 8, 8, 225, 0, 0, 0, 8, 16, 225, 1, 0, 0, 2, 0, 0, 4, 250, 8})
	f.Fuzz(func(t *testing.T, steps []byte) { play(t, steps[:min(len(steps), 1000)]) })
}
