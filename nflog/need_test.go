package nflog_test

import (
	"math"
	"math/rand"
	"strings"
	"testing"

	"watchfire/api"
	"watchfire/group"
	"watchfire/nflog"
)

// firing are revisions in which something fires; calmed are such in which nothing does; none are none.
var (
	firing = []string{fire, other, both, "l8:l1:a1:1ei1ee", "l0:i1ee", "l1:ai0e1:bi1ee", "l2:eei1ee", "l1:ai1e1:ai1ee", "l1:a" + strings.Repeat("i0e1:b", 99) + "i1ee"}
	calmed = []string{calm, still, "l8:l1:a1:1ei0ee", "l0:i0ee", "l3:i1ei0ee", "l7:i1e0:i1i0ee"}
	none   = []string{"", "le", "l", "e", "x", "revision", wrong, " " + fire, fire + "e", fire + fire, fire[:len(fire)-1], "l1:ai2ee", "l1:ai-1ee", "l1:ai01ee", "l01:ai1ee", "l1:ai1ei1ee", "li1ee", "i1e", "1", "l1:ai1e1:bi2ee", "l1:ai1e1:be", "\x00", "nl1:r1:ge"}
)

// sent tells the entry of a sending of this revision, at this time.
func sent(revision string, time int) api.Entry {
	return api.Entry{Key: "nl1:r1:ge", Time: time, Origin: 1, Value: revision, Until: time + 100}
}

// P12.4: the chapter's example.
func TestNeedExample(t *testing.T) {
	holdNeed(t, api.Entry{}, false, fire, 5, 10, true)
	last := sent(fire, 5)
	holdNeed(t, last, true, fire, 14, 10, false)
	holdNeed(t, last, true, fire, 15, 10, true)
	holdNeed(t, last, true, calm, 15, 10, true)
	holdNeed(t, sent(calm, 15), true, calm, 16, 10, false)
	holdNeed(t, sent(calm, 15), true, calm, 99, 10, false)
}

// P12.4: without an earlier entry it hangs on the revision alone, whatever stands in the entry, and whichever the times are.
func TestNeedWithout(t *testing.T) {
	for _, last := range []api.Entry{{}, sent(fire, 5), sent(calm, 5), sent(fire, most), {Time: math.MaxInt}, {Time: math.MinInt, Value: fire}} {
		for _, now := range edges {
			for _, repeat := range []int{math.MinInt, -1, 0, 10, most, math.MaxInt} {
				for _, revision := range firing {
					holdNeed(t, last, false, revision, now, repeat, true)
				}
				for _, revision := range calmed {
					holdNeed(t, last, false, revision, now, repeat, false)
				}
				for _, revision := range none {
					holdNeed(t, last, false, revision, now, repeat, false)
				}
			}
		}
	}
}

// P12.4: at a time below that of what was sent nothing is, whatever fires; at it another revision is.
func TestNeedAhead(t *testing.T) {
	for _, time := range []int{0, 1, 5, 1 << 32, most, most + 1, -5, 1 << 62, math.MaxInt, math.MinInt + 1} {
		for _, was := range []string{fire, calm, "", wrong} {
			for _, revision := range []string{fire, other, both, calm, "", wrong} {
				for _, repeat := range []int{math.MinInt, -10, 0, 10, math.MaxInt} {
					holdNeed(t, sent(was, time), true, revision, time-1, repeat, false)
					holdNeed(t, sent(was, time), true, revision, math.MinInt, repeat, false)
				}
			}
		}
		holdNeed(t, sent(fire, time), true, other, time, 10, true)
		holdNeed(t, sent(fire, time), true, calm, time, 10, true)
		holdNeed(t, sent(calm, time), true, fire, time, 10, true)
		holdNeed(t, sent(calm, time), true, still, time, 10, false)
		holdNeed(t, sent(fire, time), true, fire, time, 10, false)
	}
}

// P12.4: the same revision, in which something fires: one below its repeat time, at it, and behind it.
func TestNeedAgain(t *testing.T) {
	for _, revision := range firing {
		for _, time := range []int{0, 1, 5, 1 << 32, most - 100} {
			for _, repeat := range []int{1, 2, 10, 99} {
				last := sent(revision, time)
				holdNeed(t, last, true, revision, time, repeat, false)
				holdNeed(t, last, true, revision, time+repeat-1, repeat, false)
				holdNeed(t, last, true, revision, time+repeat, repeat, true)
				holdNeed(t, last, true, revision, time+repeat+1, repeat, true)
				holdNeed(t, last, true, revision, most, repeat, true)
			}
			holdNeed(t, sent(revision, time), true, revision, time, 0, true)
			holdNeed(t, sent(revision, time), true, revision, time+1, 0, true)
		}
	}
	holdNeed(t, sent(fire, 0), true, fire, most, most, true)
	holdNeed(t, sent(fire, 0), true, fire, most-1, most, false)
	holdNeed(t, sent(fire, 1), true, fire, most, most, false)
	holdNeed(t, sent(fire, 1), true, fire, most, most-1, true)
	holdNeed(t, sent(fire, most), true, fire, most, 0, true)
	holdNeed(t, sent(fire, most), true, fire, most, 1, false)
	holdNeed(t, sent(fire, 0), true, fire, 0, 0, true)
	holdNeed(t, sent(fire, 5), true, fire, 1<<32+14, 1<<32+10, false)
	holdNeed(t, sent(fire, 5), true, fire, 1<<32+15, 1<<32+10, true)
}

// P12.4: the same revision, in which nothing fires: never.
func TestNeedAgainOfCalm(t *testing.T) {
	for _, l := range [][]string{calmed, none} {
		for _, revision := range l {
			for _, now := range []int{5, 14, 15, 16, most, most + 1, math.MaxInt} {
				for _, repeat := range []int{math.MinInt, -1, 0, 1, 10, most, math.MaxInt} {
					holdNeed(t, sent(revision, 5), true, revision, now, repeat, false)
				}
			}
		}
	}
}

// P12.4: another revision: where something fires in one of both, in both, and in none; the repeat time is not asked.
func TestNeedOfAnother(t *testing.T) {
	tries := []struct {
		l     []string
		fires bool
	}{{firing, true}, {calmed, false}, {none, false}}
	for _, was := range tries {
		for _, is := range tries {
			for _, first := range was.l {
				for _, second := range is.l {
					if first == second {
						continue
					}
					for _, now := range []int{5, 6, 14, 15, 99, most} {
						holdNeed(t, sent(first, 5), true, second, now, 10, was.fires || is.fires)
					}
				}
			}
		}
	}
}

// P12.4: times and a repeat time that may not be: the same revision is not sent again; where another question answers, they do not count.
func TestNeedOfNoTimes(t *testing.T) {
	for _, try := range []struct{ time, now, repeat int }{
		{-1, 5, 0}, {-1, 99, 10}, {-100, 99, 10}, {-1, -1, 0}, {-100, -5, 10}, {math.MinInt, 5, 0}, {math.MinInt, 5, 10}, {math.MinInt, math.MinInt, 0}, {math.MinInt, math.MaxInt, 0}, {math.MinInt, math.MaxInt, 10}, {math.MinInt, most, most}, {math.MinInt, 0, most},
		{5, most + 1, 0}, {5, most + 1, 10}, {5, most + 5, most}, {most, most + 1, 1}, {most + 1, most + 1, 0}, {most + 1, most + 2, 1}, {most + 1, math.MaxInt, 1}, {0, math.MaxInt, 10}, {5, math.MaxInt, 0}, {math.MaxInt, math.MaxInt, 0},
		{5, 99, -1}, {5, 5, -1}, {5, 99, -most}, {5, 99, math.MinInt}, {0, 0, math.MinInt}, {0, most, math.MinInt}, {5, most, most + 1}, {0, most, most + 1}, {0, most, math.MaxInt}, {5, 99, math.MaxInt}, {-1, most, most + 1}, {-5, 5, math.MaxInt}, {math.MinInt, math.MaxInt, math.MaxInt}, {math.MinInt, math.MaxInt, math.MinInt},
	} {
		holdNeed(t, sent(fire, try.time), true, fire, try.now, try.repeat, false)
		holdNeed(t, sent(calm, try.time), true, calm, try.now, try.repeat, false)
		holdNeed(t, sent(fire, try.time), true, calm, try.now, try.repeat, true)
		holdNeed(t, sent(calm, try.time), true, fire, try.now, try.repeat, true)
		holdNeed(t, sent(calm, try.time), true, still, try.now, try.repeat, false)
		holdNeed(t, sent(fire, try.time), false, fire, try.now, try.repeat, true)
	}
}

// P12.4: of the earlier entry its Time and its Value count alone.
func TestNeedAsksTimeAndValue(t *testing.T) {
	for _, last := range []api.Entry{{}, {Key: "nl1:r1:ge"}, {Key: "sx", Origin: 65535, Until: 1}, {Key: xs(2000), Until: -1}, {Origin: 3, Until: math.MaxInt}, {Until: math.MinInt}} {
		last.Time = 5
		last.Value = fire
		holdNeed(t, last, true, fire, 4, 10, false)
		holdNeed(t, last, true, fire, 14, 10, false)
		holdNeed(t, last, true, fire, 15, 10, true)
		holdNeed(t, last, true, calm, 5, 10, true)
		last.Value = calm
		holdNeed(t, last, true, calm, 99, 10, false)
		holdNeed(t, last, true, fire, 5, 10, true)
	}
}

// P12.4: revisions of alerts, as they are told: fires, is told, goes on, resolves.
func TestNeedOfAlerts(t *testing.T) {
	alerts := []api.Alert{
		{Labels: []api.Pair{{Name: "a", Value: "1"}}, Start: 0, End: 20},
		{Labels: []api.Pair{{Name: "b", Value: "2"}}, Start: 0, End: 30},
	}
	var last api.Entry
	was := false
	var times []int
	for now := range 60 {
		revision := group.Revision(alerts, now)
		if !nflog.Need(last, was, revision, now, 15) {
			continue
		}
		times = append(times, now)
		last, was = tell(t, api.Send{Receiver: "r", Key: "g", Revision: revision, At: now}, 1, 100), true
	}
	// At 20 and at 30 one ends each; the second one's repeat time would be over at 35, but nothing fires any more.
	want := []int{0, 15, 20, 30}
	if len(times) != len(want) {
		t.Fatalf("sent at %v, not at %v", times, want)
	}
	for i, time := range want {
		if times[i] != time {
			t.Errorf("sent at %v, not at %v", times, want)
		}
	}
}

// P12.4: all of several at each place, against the chapter's words.
func TestNeedWords(t *testing.T) {
	revisions := []string{fire, other, calm, still, "", wrong}
	needed, all := 0, 0
	for _, time := range edges {
		for _, now := range edges {
			for _, repeat := range edges {
				for _, first := range revisions {
					for _, second := range revisions {
						want := wantNeed(sent(first, time), true, second, now, repeat)
						if got := nflog.Need(sent(first, time), true, second, now, repeat); got != want {
							t.Fatalf("Need(%q at %d, %q, %d, %d) = %v", first, time, second, now, repeat, got)
						}
						all++
						if want && first == second {
							needed++
						}
					}
				}
			}
		}
	}
	if needed < 500 || all < 500_000 {
		t.Errorf("%d of %d: they say too little", needed, all)
	}
}

// P12.5: rows of steps: nothing is sent again within its repeat time, unless it says something else, nor anything of a time ahead of what was sent; where nothing fires, and nothing fired, nothing is sent.
func TestNeedOverSteps(t *testing.T) {
	revisions := []string{fire, fire, fire, other, both, calm, calm, still, "", wrong}
	random := rand.New(rand.NewSource(1))
	var again, changed, ended, held int
	for range 3000 {
		repeat := random.Intn(30)
		now := random.Intn(20)
		var last api.Send
		was := false
		for range 60 {
			now = max(now+random.Intn(9)-2, 0)
			revision := revisions[random.Intn(len(revisions))]
			before := tellIf(t, last, was)
			if !nflog.Need(before, was, revision, now, repeat) {
				held++
				continue
			}
			switch {
			case !wantFires(revision) && !(was && wantFires(last.Revision)):
				t.Fatalf("%q is sent, where nothing fires, and nothing fired: %s", revision, show(last))
			case !was:
			case now < last.At:
				t.Fatalf("sent at %d, ahead of %s", now, show(last))
			case revision == last.Revision && now-last.At < repeat:
				t.Fatalf("sent again at %d, within %d: %s", now, repeat, show(last))
			case revision == last.Revision:
				again++
			case !wantFires(revision):
				ended++
			default:
				changed++
			}
			last, was = api.Send{Receiver: "r", Key: "g", Revision: revision, At: now}, true
		}
	}
	if again < 500 || changed < 500 || ended < 500 || held < 500 {
		t.Errorf("%d again, %d changed, %d ended, %d held: the steps say too little", again, changed, ended, held)
	}
}

// tellIf makes the entry of what was sent, if something was.
func tellIf(t *testing.T, last api.Send, was bool) api.Entry {
	if !was {
		return api.Entry{}
	}
	return tell(t, last, 1, 1000)
}

// P12.5: a group in which something fires is sent at once, then each time that its repeat time is over, and not between.
func TestNeedRepeats(t *testing.T) {
	for _, repeat := range []int{0, 1, 2, 7, 10} {
		var last api.Entry
		was := false
		times := 0
		for now := 3; now < 103; now++ {
			if nflog.Need(last, was, fire, now, repeat) {
				if was && now != last.Time+max(repeat, 1) {
					t.Errorf("sent at %d, then at %d, with the repeat time %d", last.Time, now, repeat)
				}
				last, was = sent(fire, now), true
				times++
			}
		}
		step := max(repeat, 1)
		if want := (100 + step - 1) / step; times != want {
			t.Errorf("sent %d times, not %d, with the repeat time %d", times, want, repeat)
		}
	}
}

// FuzzNeed holds what Need answers against the chapter's words.
func FuzzNeed(f *testing.F) {
	f.Add(5, fire, true, fire, 15, 10)
	f.Add(5, calm, true, both, 15, 10)
	f.Add(-1, "", false, wrong, math.MaxInt, math.MinInt)
	f.Fuzz(func(t *testing.T, time int, value string, was bool, revision string, now, repeat int) {
		holdNeed(t, sent(value, time), was, revision, now, repeat, wantNeed(sent(value, time), was, revision, now, repeat))
		holdNeed(t, sent(revision, time), true, revision, now, repeat, wantNeed(sent(revision, time), true, revision, now, repeat))
	})
}
