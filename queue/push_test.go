package queue_test

import (
	"math"
	"slices"
	"strings"
	"testing"

	"watchfire/api"
	"watchfire/queue"
)

// P14.1 to P14.3: the chapter's example.
func TestExample(t *testing.T) {
	if n := queue.Limit(5); n != 9 {
		t.Errorf("Limit(5) = %d", n)
	}
	k, l, m := named("k"), named("l"), named("m")
	q := filled(t, k, l)
	holdTake(t, q, 1000, 9, l, k)
	holdPush(t, q, m, true)
	holdTake(t, q, 1000, 9, m, l, k)
	hold(t, q, 0, queue.Item{Entry: m, Sent: 1, Seq: 2}, queue.Item{Entry: l, Sent: 2, Seq: 1}, queue.Item{Entry: k, Sent: 2, Seq: 0})
}

// P14.2: what is taken, at the limits of keys, values and times.
func TestPushTakes(t *testing.T) {
	for _, e := range []api.Entry{
		named("k"),
		at("k", 0, 0, "", 0),
		at("\x00", 5, 1, "\x00", 9),
		at("\xff", 5, 1, "\xff", 9),
		at(strings.Repeat("k", 1024), 5, 1, xs(8192), 9),
		at("k", 5, 65535, "v", 5),
		at("k", 0, 1, "v", most),
		at("k", most, 1, "v", most),
	} {
		q := queue.New()
		holdPush(t, q, e, true)
		hold(t, q, 0, queue.Item{Entry: e})
		holdPush(t, q, e, false)
		hold(t, q, 0, queue.Item{Entry: e})
	}
}

// refused are entries that may not be, of which some would be above what is there.
var refused = []api.Entry{
	{},
	at("", 5, 1, "v", 9),
	at(strings.Repeat("k", 1025), 5, 1, "v", 9),
	at(strings.Repeat("k", 100_000), 5, 1, "v", 9),
	at("k", 6, 1, xs(8193), 9),
	at("", -1, 1, "v", -2),
	at("k", -1, 1, "v", 9),
	at("k", math.MinInt, 1, "v", 9),
	at("k", most+1, 1, "v", most+1),
	at("k", math.MaxInt, 1, "v", math.MaxInt),
	at("k", 6, 1, "v", 5),
	at("k", 6, 1, "v", math.MinInt),
	at("k", 6, 1, "v", most+1),
	at("k", 6, 1, "v", math.MaxInt),
	at("new", 6, 1, "v", 5),
}

// P14.2: an entry that may not be is none of the pushes, and changes nothing, be the queue empty, its key there, or the queue full.
func TestPushRefuses(t *testing.T) {
	for _, l := range [][]api.Entry{nil, {named("k")}, {named("a"), named("k")}, slices.Concat(numbered(31), []api.Entry{named("k")})} {
		for _, e := range refused {
			q := filled(t, l...)
			q.Take(20, 9)
			was := q.List()
			holdPush(t, q, e, false)
			hold(t, q, 0, was...)
			q.Take(0, 0)
			holdPush(t, q, named("behind"), true)
			hold(t, q, 0, queue.Item{Entry: named("behind"), Seq: len(l)})
		}
	}
}

// P14.2: nil takes nothing, be it right or wrong.
func TestPushOfNil(t *testing.T) {
	var q *queue.Queue
	for _, e := range append(refused, named("k")) {
		holdPush(t, q, e, false)
	}
}

// steps are entries of one key, each one above the one ahead of it, by one field or by the first that differs.
func steps() []api.Entry {
	return []api.Entry{
		at("k", 4, 65535, "z", most),
		at("k", 5, 0, "", 5),
		at("k", 5, 0, "", 6),
		at("k", 5, 0, "\x00", 6),
		at("k", 5, 1, "", 9),
		at("k", 5, 1, "v", 8),
		at("k", 5, 1, "v", 9),
		at("k", 5, 1, "v\x00", 5),
		at("k", 5, 1, "\xff", 5),
		at("k", 5, 256, "", 5),
		at("k", 6, 0, "", 6),
		at("k", most, 0, "", most),
	}
}

// P14.2: each two entries of one key: one that is above takes the other's place, with Sent 0 and a Seq of its own; another one changes nothing.
func TestPushOfOneKey(t *testing.T) {
	a, z := named("a"), named("kk")
	for i, first := range steps() {
		for j, second := range steps() {
			q := filled(t, a, first, z)
			q.Take(1<<20, 9)
			holdPush(t, q, second, j > i)
			sentZ, sentA := queue.Item{Entry: z, Sent: 1, Seq: 2}, queue.Item{Entry: a, Sent: 1}
			if j > i {
				hold(t, q, 0, queue.Item{Entry: second, Seq: 3}, sentZ, sentA)
				holdPush(t, q, first, false)
				holdPush(t, q, second, false)
				hold(t, q, 0, queue.Item{Entry: second, Seq: 3}, sentZ, sentA)
			} else {
				hold(t, q, 0, sentZ, queue.Item{Entry: first, Sent: 1, Seq: 1}, sentA)
			}
		}
	}
}

// P14.2: the Seq is how many pushes were taken ahead: those whose items are gone count, those that were refused do not.
func TestSeq(t *testing.T) {
	q := queue.New()
	holdPush(t, q, api.Entry{}, false)
	holdPush(t, q, named("k"), true)
	holdPush(t, q, named("k"), false)
	holdPush(t, q, again("k"), true)
	holdPush(t, q, named("k"), false)
	holdPush(t, q, named("l"), true)
	hold(t, q, 0, queue.Item{Entry: named("l"), Seq: 2}, queue.Item{Entry: again("k"), Seq: 1})
	holdTake(t, q, 100, 1, named("l"), again("k"))
	hold(t, q, 0)
	// What is gone by its limit is not there any more: so it is taken again, an older one, too.
	holdPush(t, q, named("k"), true)
	holdPush(t, q, named("l"), true)
	hold(t, q, 0, queue.Item{Entry: named("l"), Seq: 4}, queue.Item{Entry: named("k"), Seq: 3})
	for range 1000 {
		holdPush(t, q, named("m"), true)
		holdTake(t, q, 17, 1, named("m"))
	}
	holdPush(t, q, named("n"), true)
	hold(t, q, 0, queue.Item{Entry: named("n"), Seq: 1005}, queue.Item{Entry: named("l"), Seq: 4}, queue.Item{Entry: named("k"), Seq: 3})
}

// newest tells the items of entries that were pushed one behind the other from the Seq on, and never sent.
func newest(seq int, l ...api.Entry) []queue.Item {
	var items []queue.Item
	for i, e := range l {
		items = append(items, queue.Item{Entry: e, Seq: seq + i})
	}
	slices.Reverse(items)
	return items
}

// P14.2: there are up to 32; of more, none of which was sent, the oldest are lost.
func TestPushOfMany(t *testing.T) {
	q, l := queue.New(), numbered(300)
	for i, e := range l {
		holdPush(t, q, e, true)
		oldest := max(0, i-31)
		hold(t, q, oldest, newest(oldest, l[oldest:i+1]...)...)
	}
}

// P14.2: in a full queue a refused push loses nothing, nor does one that takes another's place.
func TestPushIntoFull(t *testing.T) {
	l := numbered(32)
	q := filled(t, l...)
	for _, e := range l {
		holdPush(t, q, e, false)
		holdPush(t, q, at(e.Key, 4, 1, "v", 9), false)
	}
	hold(t, q, 0, newest(0, l...)...)
	var later []api.Entry
	for i, e := range l {
		later = append(later, again(e.Key))
		holdPush(t, q, later[i], true)
		hold(t, q, 0, slices.Concat(newest(32, later...), newest(i+1, l[i+1:]...))...)
	}
}

// P14.2: an item that was lost is not there any more: its entry is taken again.
func TestPushOfLost(t *testing.T) {
	l := numbered(33)
	q := filled(t, l...)
	hold(t, q, 1, newest(1, l[1:]...)...)
	holdPush(t, q, l[0], true)
	hold(t, q, 2, newest(2, slices.Concat(l[2:], l[:1])...)...)
}

// try is a push into a queue of 32 in which some were sent, by their keys; the others are too large for the rooms.
type try struct {
	says  string
	small string
	rooms []int
	lost  []string
}

// tries have the small items from the Seq 10 on.
var tries = []try{
	{"none was sent", "ab", nil, []string{"n000", "n001", "n002"}},
	{"one was sent", "a", []int{17}, []string{"a", "n000", "n001"}},
	{"the newer one was sent", "ab", []int{17}, []string{"b", "n000", "n001"}},
	{"both were sent", "ab", []int{34}, []string{"a", "b", "n000", "n001"}},
	{"both were sent, the newer one ahead", "ab", []int{17, 17}, []string{"a", "b", "n000"}},
	{"the newer one was sent more often", "ab", []int{17, 17, 17}, []string{"b", "a", "n000"}},
	{"both were sent twice", "ab", []int{17, 17, 17, 17}, []string{"a", "b", "n000"}},
	{"three of four", "abcd", []int{51}, []string{"b", "c", "d", "n000", "n001"}},
	{"some once, some twice", "abcd", []int{68, 34}, []string{"c", "d", "a", "b", "n000"}},
	{"some once, some twice, one thrice", "abcd", []int{68, 68, 17}, []string{"d", "a", "b", "c", "n000"}},
}

// P14.2: of more than 32 the one that was sent most often is lost, of these the one with the lowest Seq.
func TestLost(t *testing.T) {
	for _, try := range tries {
		t.Run(try.says, func(t *testing.T) {
			var l []api.Entry
			for _, e := range numbered(32 - len(try.small)) {
				l = append(l, sized(t, e.Key, 200))
			}
			for _, c := range try.small {
				l = slices.Insert(l, 10+strings.IndexRune(try.small, c), named(string(c)))
			}
			q := filled(t, l...)
			for _, room := range try.rooms {
				q.Take(room, 99)
			}
			for i, key := range try.lost {
				e := named("new" + string(rune('a'+i)))
				want := q.List()
				want = slices.DeleteFunc(want, func(item queue.Item) bool { return item.Entry.Key == key })
				if len(want) != 31 {
					t.Fatalf("%s is not there", key)
				}
				holdPush(t, q, e, true)
				hold(t, q, i+1, slices.Insert(want, 0, queue.Item{Entry: e, Seq: 32 + i})...)
			}
		})
	}
}

// P14.2: the one that was pushed as the last one ahead is lost, if it alone was sent.
func TestLostWasPushedLast(t *testing.T) {
	l := numbered(31)
	q := filled(t, l...)
	for i := range 5 {
		e := named(string(rune('a' + i)))
		holdPush(t, q, e, true)
		hold(t, q, i, slices.Insert(newest(0, l...), 0, queue.Item{Entry: e, Seq: 31 + i})...)
		holdTake(t, q, 17, 9, e)
	}
	// The last one of them was sent, and stays till one more comes.
	last := named("e")
	hold(t, q, 4, append(newest(0, l...), queue.Item{Entry: last, Sent: 1, Seq: 35})...)
	holdPush(t, q, again("e"), true)
	hold(t, q, 4, slices.Insert(newest(0, l...), 0, queue.Item{Entry: again("e"), Seq: 36})...)
}

// P14.2: the one that is just pushed is never lost: the others were sent as often, and are older, or more often.
func TestJustPushedStays(t *testing.T) {
	for takes := range 4 {
		l := numbered(32)
		q := filled(t, l...)
		for range takes {
			q.Take(1<<20, 99)
		}
		for i := range 100 {
			e := named(string(rune('a' + i)))
			holdPush(t, q, e, true)
			if got := q.List()[0]; got != (queue.Item{Entry: e, Seq: 32 + i}) || q.Len() != 32 || q.Lost() != i+1 {
				t.Fatalf("behind %d pushes: %s, of %d, %d lost", i+1, showItems(q.List()[:1]), q.Len(), q.Lost())
			}
		}
	}
}
