package silence_test

import (
	"fmt"
	"math"
	"slices"
	"strings"
	"testing"

	"watchfire/api"
	"watchfire/match"
	"watchfire/silence"
)

// holdCheck holds what Check answers against what is wanted, and against the chapter's words.
func holdCheck(t *testing.T, s api.Silence, want api.Errno) {
	t.Helper()
	if got := silence.Check(s); got != want {
		t.Errorf("Check(%s) = %d, not %d", show(s), int(got), int(want))
	}
	if words := wantCheck(s); words != want {
		t.Errorf("Check(%s), by words: %d, not %d", show(s), int(words), int(want))
	}
}

// P11.1: silences that may be.
func TestCheckTakes(t *testing.T) {
	for _, s := range some() {
		holdCheck(t, s, api.OK)
	}
}

// P11.1: IDs that are names, and those that are none.
func TestCheckIDs(t *testing.T) {
	for _, id := range []string{"x", "_", "a1", "s", "z_9", "sx", "abcdefghijklmnop"} {
		holdCheck(t, named(id), api.OK)
	}
	for _, id := range []string{"", "1", "1x", "X", "xY", "x-y", "x y", " x", "x ", "x\n", "s:x", "\u00e4", "abcdefghijklmnopq", strings.Repeat("x", 1_000_000)} {
		holdCheck(t, named(id), api.ErrName)
	}
	for b := range 256 {
		letter := b == '_' || b >= 'a' && b <= 'z'
		digit := b >= '0' && b <= '9'
		for id, ok := range map[string]bool{string([]byte{byte(b)}): letter, string([]byte{'x', byte(b)}): letter || digit} {
			want := api.ErrName
			if ok {
				want = api.OK
			}
			holdCheck(t, named(id), want)
		}
	}
}

// wrongs are matchers that may not be, with what match.Check says of them.
var wrongs = []struct {
	m    api.Matcher
	want api.Errno
}{
	{is("A", api.Is, "1"), api.ErrName},
	{is("", api.IsNot, "1"), api.ErrName},
	{is("abcdefghijklmnopq", api.Is, "1"), api.ErrName},
	{is("a", 4, "1"), api.ErrArg},
	{is("a", 255, ""), api.ErrArg},
	{is("a", api.Is, strings.Repeat("v", 65)), api.ErrLong},
	{is("a", api.NotLike, strings.Repeat("v", 65)), api.ErrLong},
	{is("a", api.Like, "("), api.ErrPattern},
	{is("a", api.NotLike, "*"), api.ErrPattern},
}

// P11.1: of none ErrArg, from one to 8 OK, of more ErrLong.
func TestCheckHowManyMatchers(t *testing.T) {
	holdCheck(t, asks(), api.ErrArg)
	holdCheck(t, asks([]api.Matcher{}...), api.ErrArg)
	for n := 1; n <= 8; n++ {
		holdCheck(t, asks(many(n)...), api.OK)
	}
	for _, n := range []int{9, 10, 256, 257, 65_537} {
		holdCheck(t, asks(many(n)...), api.ErrLong)
	}
}

// P11.1: one that may not be, at each place; of two the first one's error; of more than 8 ErrLong, whatever they are.
func TestCheckWrongMatchers(t *testing.T) {
	for _, wrong := range wrongs {
		for n := 1; n <= 8; n++ {
			for place := range n {
				l := many(n)
				l[place] = wrong.m
				holdCheck(t, asks(l...), wrong.want)
			}
		}
		holdCheck(t, asks(slices.Repeat([]api.Matcher{wrong.m}, 9)...), api.ErrLong)
		for _, other := range wrongs {
			holdCheck(t, asks(is("a", api.Is, "1"), wrong.m, other.m), wrong.want)
		}
	}
}

// P11.1: the edges of Start and End, and which stand together.
func TestCheckTimes(t *testing.T) {
	for _, try := range []struct {
		start, end int
		want       api.Errno
	}{
		{0, 0, api.OK},
		{0, 1, api.OK},
		{2, 9, api.OK},
		{9, 9, api.OK},
		{8, 9, api.OK},
		{10, 9, api.ErrTime},
		{1, 0, api.ErrTime},
		{-1, 9, api.ErrTime},
		{-1, -1, api.ErrTime},
		{-1, 0, api.ErrTime},
		{-2, -1, api.ErrTime},
		{0, -1, api.ErrTime},
		{0, most - 1, api.OK},
		{0, most, api.OK},
		{0, most + 1, api.ErrTime},
		{most, most, api.OK},
		{most - 1, most, api.OK},
		{most, most - 1, api.ErrTime},
		{most, most + 1, api.ErrTime},
		{most + 1, most + 1, api.ErrTime},
		{most + 1, most, api.ErrTime},
		{most + 1, most + 2, api.ErrTime},
		{1 << 31, 1 << 32, api.OK},
		{1<<32 + 2, 9, api.ErrTime},
		{math.MinInt, 9, api.ErrTime},
		{math.MinInt, math.MaxInt, api.ErrTime},
		{2, math.MaxInt, api.ErrTime},
		{2, math.MinInt, api.ErrTime},
		{math.MaxInt, math.MaxInt, api.ErrTime},
		{math.MaxInt, math.MinInt, api.ErrTime},
		{math.MinInt, math.MinInt, api.ErrTime},
	} {
		holdCheck(t, lasts(try.start, try.end), try.want)
	}
}

// P11.1, rule 2: of a silence that is wrong in more than one way the error that is named first.
func TestCheckWrongInSeveralWays(t *testing.T) {
	badTimes := [][2]int{{-1, 9}, {9, 2}, {2, most + 1}}
	for _, times := range badTimes {
		for _, wrong := range wrongs {
			s := asks(wrong.m)
			s.Start, s.End = times[0], times[1]
			holdCheck(t, s, wrong.want)
			s.ID = "X"
			holdCheck(t, s, api.ErrName)
		}
		for l, want := range map[int]api.Errno{0: api.ErrArg, 9: api.ErrLong} {
			s := asks(many(l)...)
			s.Start, s.End = times[0], times[1]
			holdCheck(t, s, want)
			s.ID = ""
			holdCheck(t, s, api.ErrName)
		}
		s := named("1")
		s.Start, s.End = times[0], times[1]
		holdCheck(t, s, api.ErrName)
	}
	holdCheck(t, api.Silence{}, api.ErrName)
	holdCheck(t, api.Silence{ID: "x"}, api.ErrArg)
	holdCheck(t, api.Silence{ID: "x", Start: -1}, api.ErrArg)
	holdCheck(t, api.Silence{Matchers: many(9), Start: -1}, api.ErrName)
}

// P11.1: all edges at once, against the chapter's words.
func TestCheckWords(t *testing.T) {
	lists := [][]api.Matcher{nil, many(1), many(8), many(9)}
	for _, wrong := range wrongs {
		lists = append(lists, []api.Matcher{wrong.m}, append(many(7), wrong.m), append(many(8), wrong.m))
	}
	times := []int{math.MinInt, -1, 0, 1, most - 1, most, most + 1, math.MaxInt}
	told := map[api.Errno]int{}
	for _, id := range []string{"x", "", "X", strings.Repeat("x", 16), strings.Repeat("x", 17)} {
		for _, l := range lists {
			for _, start := range times {
				for _, end := range times {
					s := api.Silence{ID: id, Matchers: l, Start: start, End: end}
					holdCheck(t, s, wantCheck(s))
					told[wantCheck(s)]++
				}
			}
		}
	}
	if len(told) != 6 {
		t.Errorf("errors that were told: %s", fmt.Sprint(told))
	}
}

// P11.1, rule 3: Check changes nothing of what it is given.
func TestCheckChangesNothing(t *testing.T) {
	l := []api.Matcher{is("b", api.Like, "("), is("a", api.Is, "1"), is("A", 9, "")}
	own := slices.Clone(l)
	silence.Check(asks(l[:2]...))
	silence.Check(asks(l...))
	if !slices.Equal(l, own) || match.Check(l[1]) != api.OK {
		t.Errorf("the matchers are %v", l)
	}
}
