package silence_test

import (
	"math"
	"math/rand"
	"slices"
	"strings"
	"testing"

	"watchfire/api"
	"watchfire/crdt"
	"watchfire/match"
	"watchfire/silence"
)

// ids tells the IDs of silences.
func ids(l []api.Silence) string {
	var texts []string
	for _, s := range l {
		texts = append(texts, s.ID)
	}
	return strings.Join(texts, " ")
}

// from tells the entry of a silence with this ID and these times, told at 0.
func from(t testing.TB, id string, start, end int) api.Entry {
	s := lasts(start, end)
	s.ID = id
	return tell(t, s, 0, 0)
}

// P11.4: one silence, one below Start, at it, one below End and at it, and far from both.
func TestActiveEdges(t *testing.T) {
	for _, try := range []struct {
		start, end, now int
		want            bool
	}{
		{2, 9, 1, false},
		{2, 9, 2, true},
		{2, 9, 3, true},
		{2, 9, 8, true},
		{2, 9, 9, false},
		{2, 9, 10, false},
		{2, 9, 0, false},
		{2, 9, -1, false},
		{2, 9, -5, false},
		{2, 9, 1<<32 + 5, false},
		{2, 9, math.MinInt, false},
		{2, 9, math.MaxInt, false},
		{5, 5, 4, false},
		{5, 5, 5, false},
		{5, 5, 6, false},
		{5, 6, 5, true},
		{5, 6, 6, false},
		{0, 0, -1, false},
		{0, 0, 0, false},
		{0, 1, -1, false},
		{0, 1, 0, true},
		{0, 1, 1, false},
		{0, most, 0, true},
		{0, most, most - 1, true},
		{0, most, most, false},
		{0, most, most + 1, false},
		{most, most, most, false},
		{most - 1, most, most - 1, true},
		{1<<32 + 2, 1<<32 + 9, 5, false},
		{1<<32 + 2, 1<<32 + 9, 1<<32 + 5, true},
	} {
		l := silence.Active([]api.Entry{from(t, "x", try.start, try.end)}, try.now)
		if (len(l) == 1) != try.want || len(l) == 1 && !equal(l[0], lasts(try.start, try.end)) {
			t.Errorf("Active(%d to %d, at %d) = %q", try.start, try.end, try.now, ids(l))
		}
	}
}

// P11.4: when, and by whom, a silence was told is not asked, nor when its entry ends.
func TestActiveAsksNoEntryTimes(t *testing.T) {
	for _, time := range []int{0, 1, 2, 8, 9, 10, 20, most} {
		for _, origin := range []uint16{0, 65535} {
			e := tell(t, right(), time, origin)
			for now := range 25 {
				l := silence.Active([]api.Entry{e}, now)
				if (len(l) == 1) != (now >= 2 && now < 9) {
					t.Errorf("Active(%s, %d) = %q", showEntry(e), now, ids(l))
				}
			}
		}
	}
}

// P11.4: the order stays, and so does what is there twice; entries that are no silences are passed over, wherever they stand.
func TestActiveOrder(t *testing.T) {
	a, b, c, d := from(t, "a", 0, 9), from(t, "b", 5, 20), from(t, "c", 3, 8), from(t, "d", 0, 3)
	other := tell(t, asks(is("z", api.Is, "9")), 3, 4)
	none, log, cut, late, unnamed := api.Entry{}, api.Entry{Key: "nl1:r1:ge", Time: 3, Value: "l8:l1:a1:1ei1ee", Until: 9}, a, b, c
	cut.Value, late.Until, unnamed.Key = cut.Value[1:], late.Until+1, "k"
	for _, try := range []struct {
		l    []api.Entry
		now  int
		want string
	}{
		{nil, 5, ""},
		{[]api.Entry{}, 5, ""},
		{[]api.Entry{a, b, c, d}, 5, "a b c"},
		{[]api.Entry{d, c, b, a}, 5, "c b a"},
		{[]api.Entry{b, d, a, c}, 5, "b a c"},
		{[]api.Entry{c, a, b, d}, 2, "a d"},
		{[]api.Entry{c, d, a, b}, 2, "d a"},
		{[]api.Entry{a, b, c, d}, 8, "a b"},
		{[]api.Entry{a, b, c, d}, 9, "b"},
		{[]api.Entry{a, b, c, d}, 20, ""},
		{[]api.Entry{a, b, c, d}, -1, ""},
		{[]api.Entry{a, a, b, a}, 5, "a a b a"},
		{[]api.Entry{none, a, log, c, cut, b, late, d, unnamed}, 5, "a c b"},
		{[]api.Entry{cut, late, unnamed, none, log, b}, 5, "b"},
		{[]api.Entry{b, cut, late, unnamed, none, log}, 5, "b"},
		{[]api.Entry{none, log, cut, late, unnamed}, 5, ""},
		{[]api.Entry{other, a, other}, 5, "x a x"},
	} {
		own := slices.Clone(try.l)
		if got := ids(silence.Active(try.l, try.now)); got != try.want {
			t.Errorf("Active(.., %d) = %q, not %q", try.now, got, try.want)
		}
		if !slices.Equal(try.l, own) {
			t.Errorf("Active changed its list: %v", try.l)
		}
	}
}

// P11.4: long lists with right entries and wrong ones, at each time, against the chapter's words.
func TestActiveWords(t *testing.T) {
	source := rand.New(rand.NewSource(11))
	active := 0
	for range 200 {
		var l []api.Entry
		for range source.Intn(40) {
			start := source.Intn(20)
			e := from(t, string(rune('a'+source.Intn(26))), start, start+source.Intn(10))
			switch source.Intn(6) {
			case 0:
				e.Until++
			case 1:
				e.Key = e.Key[1:]
			}
			l = append(l, e)
		}
		for now := -1; now <= 30; now++ {
			var want []api.Silence
			for _, e := range l {
				if s, ok := wantOf(e); ok && now >= s.Start && now < s.End {
					want = append(want, s)
				}
			}
			if got := silence.Active(l, now); !slices.EqualFunc(got, want, equal) {
				t.Fatalf("Active(.., %d) = %q, not %q", now, ids(got), ids(want))
			}
			active += len(want)
		}
	}
	if active < 5000 {
		t.Errorf("%d were active: the lists say too little", active)
	}
}

// P11.4, rule 3: no two silences of an answer, and no two answers, share memory.
func TestActiveIsNew(t *testing.T) {
	e := tell(t, asks(is("a", api.Is, "1"), is("b", api.Is, "2"), is("c", api.Is, "3")), 3, 4)
	l := []api.Entry{e, e, e}
	first, second := silence.Active(l, 5), silence.Active(l, 5)
	spoil(first[1])
	first = append(first, api.Silence{ID: "y"})
	first[0].ID = "z"
	want, _ := wantOf(e)
	if !equal(first[2], want) || len(second) != 3 {
		t.Errorf("the third one is %s", show(first[2]))
	}
	for _, s := range second {
		if !equal(s, want) {
			t.Errorf("one of the second answer is %s", show(s))
		}
	}
}

// labels makes pairs of names and values.
func labels(texts ...string) []api.Pair {
	var l []api.Pair
	for i := 0; i < len(texts); i += 2 {
		l = append(l, api.Pair{Name: texts[i], Value: texts[i+1]})
	}
	return l
}

// P11.4: silences and labels, and whether these are muted.
func TestMutes(t *testing.T) {
	a1, a2, b2 := asks(is("a", api.Is, "1")), asks(is("a", api.Is, "2")), asks(is("b", api.Is, "2"))
	both := asks(is("a", api.Is, "1"), is("b", api.Is, "2"))
	not, like, unlike := asks(is("a", api.IsNot, "1")), asks(is("a", api.Like, "1|2")), asks(is("a", api.NotLike, "1|2"))
	missing := asks(is("c", api.Is, ""))
	broken, noOp, noName := asks(is("a", api.NotLike, "(")), asks(is("a", 4, "1")), asks(is("A", api.IsNot, "1"))
	for i, try := range []struct {
		l      []api.Silence
		labels []api.Pair
		want   bool
	}{
		{nil, nil, false},
		{nil, labels("a", "1"), false},
		{[]api.Silence{}, labels("a", "1"), false},
		{[]api.Silence{a1}, labels("a", "1"), true},
		{[]api.Silence{a1}, labels("a", "2"), false},
		{[]api.Silence{a1}, labels("b", "1"), false},
		{[]api.Silence{a1}, nil, false},
		{[]api.Silence{a1}, labels("a", "1", "b", "2"), true},
		{[]api.Silence{a1, a2}, labels("a", "1"), true},
		{[]api.Silence{a2, a1}, labels("a", "1"), true},
		{[]api.Silence{a2, b2, a1}, labels("a", "1"), true},
		{[]api.Silence{a2, a1, b2}, labels("a", "1"), true},
		{[]api.Silence{a2, b2}, labels("a", "1"), false},
		{[]api.Silence{a2, b2}, labels("a", "1", "b", "2"), true},
		{[]api.Silence{both}, labels("a", "1"), false},
		{[]api.Silence{both}, labels("b", "2"), false},
		{[]api.Silence{both}, labels("a", "1", "b", "2"), true},
		{[]api.Silence{both, both}, labels("a", "1", "b", "3"), false},
		// Of two silences each of which asks one half, the one that holds is enough; of one that asks both halves, it is not.
		{[]api.Silence{a1, b2}, labels("a", "1", "b", "3"), true},
		{[]api.Silence{not}, labels("a", "1"), false},
		{[]api.Silence{not}, labels("a", "2"), true},
		{[]api.Silence{not}, labels("b", "1"), true},
		{[]api.Silence{not}, nil, true},
		{[]api.Silence{like}, labels("a", "2"), true},
		{[]api.Silence{like}, labels("a", "12"), false},
		{[]api.Silence{unlike}, labels("a", "2"), false},
		{[]api.Silence{unlike}, labels("a", "12"), true},
		{[]api.Silence{missing}, labels("a", "1"), true},
		{[]api.Silence{missing}, labels("c", "1"), false},
		{[]api.Silence{broken}, labels("a", "1"), false},
		{[]api.Silence{noOp}, labels("a", "1"), false},
		{[]api.Silence{noName}, labels("a", "2"), false},
		{[]api.Silence{broken, noOp, noName, a1}, labels("a", "1"), true},
	} {
		if got := silence.Mutes(try.l, try.labels); got != try.want {
			t.Errorf("%d: Mutes(%v, %v) = %v", i, try.l, try.labels, got)
		}
	}
}

// P11.4: Mutes asks Matchers alone: not the ID, nor the times, nor whether there are any (match.All is true of none), nor how many.
func TestMutesAsksMatchersAlone(t *testing.T) {
	for _, s := range []api.Silence{{}, asks(), named(""), named("X"), lasts(-1, -5), lasts(9, 2), lasts(0, 0), lasts(most+1, math.MinInt), asks(many(9)...), asks(many(300)...)} {
		if !silence.Mutes([]api.Silence{s}, labels("a", "1")) {
			t.Errorf("%s does not mute a=1", show(s))
		}
		want := len(s.Matchers) == 0
		if got := silence.Mutes([]api.Silence{s}, labels("a", "9")); got != want {
			t.Errorf("%s mutes a=9: %v", show(s), got)
		}
	}
}

// P11.4: all lists of up to three of some silences, with all of some labels, against the chapter's words; and nothing is changed.
func TestMutesWords(t *testing.T) {
	all := []api.Silence{asks(), asks(is("a", api.Is, "1")), asks(is("a", api.IsNot, "1")), asks(is("a", api.Like, "."), is("b", api.NotLike, "2")), asks(is("b", api.Is, "")), asks(is("a", api.Like, "("))}
	var lists [][]api.Silence
	for _, a := range all {
		lists = append(lists, []api.Silence{a})
		for _, b := range all {
			lists = append(lists, []api.Silence{a, b})
			for _, c := range all {
				lists = append(lists, []api.Silence{a, b, c})
			}
		}
	}
	muted, open := 0, 0
	for _, l := range lists {
		for _, asked := range [][]api.Pair{nil, labels("a", "1"), labels("a", "2"), labels("b", "2"), labels("a", "1", "b", "2"), labels("a", "2", "b", "1"), labels("b", "2", "a", "1", "a", "2")} {
			want := false
			for _, s := range l {
				want = want || match.All(s.Matchers, asked)
			}
			own := slices.Clone(asked)
			if got := silence.Mutes(l, asked); got != want || !slices.Equal(own, asked) {
				t.Errorf("Mutes(%v, %v) = %v", l, own, got)
			}
			if want {
				muted++
			} else {
				open++
			}
		}
	}
	if muted < 200 || open < 200 {
		t.Errorf("%d are muted, %d are not: the lists say too little", muted, open)
	}
}

// P11.4: silences that differ in one field, in the order of their matchers, or in their number.
func TestSame(t *testing.T) {
	a, b := is("a", api.Is, "1"), is("b", api.Is, "2")
	unlike := []api.Silence{
		{}, right(), named("y"), named(""), named("X"), named("xx"),
		lasts(3, 9), lasts(2, 10), lasts(9, 2), lasts(2, 1<<32+9), lasts(1<<32+2, 9), lasts(-2, 9), lasts(0, 0),
		asks(), asks(b), asks(a, b), asks(b, a), asks(a, a), asks(a, a, b), asks(a, b, a), asks(a, b, b),
		asks(is("a", api.IsNot, "1")), asks(is("a", api.Like, "1")), asks(is("a", api.NotLike, "1")), asks(is("a", 4, "1")), asks(is("a", 255, "1")),
		asks(is("a", api.Is, "")), asks(is("a", api.Is, "11")), asks(is("a", api.Is, "2")), asks(is("", api.Is, "1")), asks(is("A", api.Is, "1")), asks(is("aa", api.Is, "1")),
		asks(is("a", api.Like, "a|b")), asks(is("a", api.Like, "b|a")), asks(many(9)...), asks(many(10)...),
	}
	for i, a := range unlike {
		for j, b := range unlike {
			b.Matchers = slices.Clone(b.Matchers)
			if got := silence.Same(a, b); got != (i == j) {
				t.Errorf("Same(%s, %s) = %v", show(a), show(b), got)
			}
		}
	}
}

// P11.4, rule 3: an empty list of matchers and nil are the same; spare room is not asked.
func TestSameOfEmpty(t *testing.T) {
	none, empty, roomy := asks(), asks(), asks()
	none.Matchers, empty.Matchers, roomy.Matchers = nil, []api.Matcher{}, many(3)[:0]
	for _, a := range []api.Silence{none, empty, roomy} {
		for _, b := range []api.Silence{none, empty, roomy} {
			if !silence.Same(a, b) {
				t.Errorf("Same(%#v, %#v) = false", a, b)
			}
		}
	}
	if l := many(5); !silence.Same(asks(l[:2]...), asks(many(2)...)) {
		t.Error("spare room is asked")
	}
}

// P11.5: a silence that is told mutes what it asks from its Start on, until its End, and nothing behind it, whoever told it, and when.
func TestToldAndMuted(t *testing.T) {
	for _, s := range []api.Silence{right(), lasts(0, 1), lasts(5, 5), lasts(0, 0), asks(is("a", api.Like, "1|2"), is("b", api.NotLike, "x"))} {
		for _, time := range []int{0, 5, 9, 30} {
			l := []api.Entry{{Key: "k"}, tell(t, s, time, 7), {Key: "nl1:r1:ge", Until: 99}}
			for now := -1; now <= 40; now++ {
				for _, asked := range [][]api.Pair{nil, labels("a", "1"), labels("a", "2"), labels("a", "1", "b", "x")} {
					want := now >= s.Start && now < s.End && match.All(s.Matchers, asked)
					if got := silence.Mutes(silence.Active(l, now), asked); got != want {
						t.Errorf("%s, told at %d, mutes %v at %d: %v", show(s), time, asked, now, got)
					}
				}
			}
		}
	}
}

// P11.5: a silence that is ended by hand, which is told later with an earlier End, mutes nothing from then on, in whatever order both come; a silence that ended is there no longer than its entry counts.
func TestEndedByHand(t *testing.T) {
	first, end := tell(t, lasts(2, 100), 3, 4), tell(t, lasts(2, 20), 20, 1)
	other := tell(t, lasts(2, 30), 4, 4)
	other.Key = "sy"
	asked := labels("a", "1")
	for _, l := range [][]api.Entry{{first, end}, {end, first}, {first, end, first, end}} {
		m := crdt.New()
		m.Merge(l)
		for now := range 120 {
			if got := silence.Mutes(silence.Active(m.View(now), now), asked); got != (now >= 2 && now < 20) {
				t.Errorf("at %d: muted is %v", now, got)
			}
		}
		m.Put(other)
		if got := ids(silence.Active(m.List(), 25)); got != "y" {
			t.Errorf("active at 25: %q", got)
		}
	}
}

// P11.5: what is active is told again as it was, by way of its entry, as often as it is told.
func TestToldAgain(t *testing.T) {
	for _, s := range some() {
		was, e := s, tell(t, s, 3, 4)
		for i := range 3 {
			got, ok := silence.Of(e)
			if !ok || !silence.Same(got, was) || !equal(got, was) {
				t.Errorf("%d: Of(%s) = %s, %v, not %s", i, showEntry(e), show(got), ok, show(was))
			}
			again := tell(t, got, 3, 4)
			if again != e {
				t.Errorf("%d: %s is told as %s", i, showEntry(e), showEntry(again))
			}
			s, e = got, again
		}
		l := silence.Active([]api.Entry{e}, s.Start)
		if s.Start < s.End && (len(l) != 1 || !equal(l[0], was)) || s.Start == s.End && len(l) > 0 {
			t.Errorf("active at the Start of %s: %q", show(was), ids(l))
		}
	}
}
