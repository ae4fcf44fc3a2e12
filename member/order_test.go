package member_test

import (
	"math/rand"
	"slices"
	"testing"

	"watchfire/api"
	"watchfire/member"
)

// others tells the members of a table but its own.
func others(x *member.Table) []api.Member {
	return slices.DeleteFunc(x.List(), func(m api.Member) bool { return m.Node == x.Self().Node })
}

// orders calls with each order of a list.
func orders(l []api.Member, do func(l []api.Member)) {
	var from func(place int)
	from = func(place int) {
		if place == len(l) {
			do(slices.Clone(l))
			return
		}
		for i := place; i < len(l); i++ {
			l[place], l[i] = l[i], l[place]
			from(place + 1)
			l[place], l[i] = l[i], l[place]
		}
	}
	from(0)
}

// P15.6: whatever is heard, no member goes away, or is below what it was; and what was heard is below none that is there then.
func TestNeverBelow(t *testing.T) {
	source := rand.New(rand.NewSource(156))
	for row := range 200 {
		x := member.New(uint16(row))
		for range 300 {
			m := someMember(byte(source.Intn(256)), byte(source.Intn(256)))
			before := x.List()
			now, news := x.Hear(m)
			for _, was := range before {
				is, ok := x.Get(was.Node)
				if !ok || member.Above(was, is) || is != was && !member.Above(is, was) {
					t.Fatalf("behind %v: %v was %v", m, is, was)
				}
				if news != (is != was) && was.Node == m.Node {
					t.Fatalf("Hear(%v) = %v, %v, but %v was %v", m, now, news, is, was)
				}
			}
			if is, ok := x.Get(m.Node); wantMayBe(m) && (!ok || member.Above(m, is)) {
				t.Fatalf("%v is below %v, which was heard", is, m)
			}
		}
	}
}

// P15.6: in each order, and however often they are told, others are the same in the end; each is the one that is above all that were told of it.
func TestOrderOfOthers(t *testing.T) {
	for _, l := range [][]api.Member{
		{alive(2, 0), suspect(2, 0), dead(2, 0), alive(2, 1), suspect(2, 1), dead(2, 1)},
		{dead(2, 4), alive(2, 5), suspect(9, 1), alive(9, 1), dead(0, 0), alive(0, 0)},
		{suspect(5, 0), alive(2, 5), dead(5, 3), dead(2, 5), alive(5, 9), suspect(63, 1)},
		{dead(2, most), alive(2, most), suspect(2, most), dead(2, most-1), alive(2, most+1), alive(64, 0)},
	} {
		want := newModel(5)
		want.merge(l)
		delete(want.members, 5)
		orders(l, func(l []api.Member) {
			x, twice, apart := member.New(5), member.New(5), member.New(5)
			x.Merge(l)
			twice.Merge(l)
			twice.Merge(l)
			for _, m := range l {
				apart.Hear(m)
			}
			for _, x := range []*member.Table{x, twice, apart} {
				if got := others(x); !slices.Equal(got, want.list()) {
					t.Errorf("behind %v: %v, not %v", l, got, want.list())
				}
			}
		})
	}
}

// P15.6: two tables that tell each other all they know see the others alike then, and nothing that one has told is news again.
func TestExchange(t *testing.T) {
	source := rand.New(rand.NewSource(157))
	for range 300 {
		x, y := member.New(61), member.New(60)
		for range source.Intn(60) {
			x.Hear(someMember(byte(source.Intn(256)), byte(source.Intn(256))))
			y.Hear(someMember(byte(source.Intn(256)), byte(source.Intn(256))))
		}
		x.Merge(y.List())
		y.Merge(x.List())
		if !slices.Equal(x.List(), y.List()) {
			t.Fatalf("%v, %v", x.List(), y.List())
		}
		holdMerge(t, x, y.List())
		holdMerge(t, y, x.List())
	}
}

// P15.6: who is suspected says that it is alive, and those that suspect it hear it.
func TestSuspectSaysItIsAlive(t *testing.T) {
	for _, heard := range []api.Member{suspect(2, 0), dead(2, 0), suspect(2, 7), dead(2, 7), suspect(2, most-1), dead(2, most-1)} {
		one, two := table(t, 1, heard), member.New(2)
		said := two.Merge(one.List())
		if want := []api.Member{alive(1, 0), alive(2, heard.Incarnation+1)}; !slices.Equal(said, want) {
			t.Errorf("behind %v: %v, not %v", heard, said, want)
		}
		holdMerge(t, one, said, alive(2, heard.Incarnation+1))
		hold(t, one, 1, alive(1, 0), alive(2, heard.Incarnation+1))
		hold(t, two, 2, alive(1, 0), alive(2, heard.Incarnation+1))
		// An older suspicion, told again, is not heard any more.
		holdPassed(t, one, heard)
		holdPassed(t, two, heard)
	}
}

// P15.6: a node says so again and again, each time that it is suspected anew; a suspicion of another one it says nothing against.
func TestSuspectSaysSoAgain(t *testing.T) {
	x := member.New(2)
	for incarnation := range 1000 {
		doubt := suspect(2, incarnation)
		if incarnation%2 == 1 {
			doubt = dead(2, incarnation)
		}
		holdHear(t, x, doubt, alive(2, incarnation+1))
		holdHear(t, x, suspect(3, incarnation), suspect(3, incarnation))
	}
	hold(t, x, 2, alive(2, 1000), suspect(3, 999))
}
