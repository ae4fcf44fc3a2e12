package queue_test

import (
	"fmt"
	"math"
	"math/rand"
	"slices"
	"testing"

	"watchfire/api"
	"watchfire/queue"
)

// P14.3: the least sent ones ahead, of these the newest; and so stand the items in List, whatever their sizes, keys and times.
func TestTakeOrder(t *testing.T) {
	a, b, c, d := at("z", 9, 1, "", 9), at("m", 1, 9, xs(50), 9), at("a", 5, 3, "v", 5), at("q", 3, 1, xs(20), 9)
	q := filled(t, a, b)
	hold(t, q, 0, queue.Item{Entry: b, Seq: 1}, queue.Item{Entry: a, Seq: 0})
	holdTake(t, q, 1000, 9, b, a)
	holdPush(t, q, c, true)
	hold(t, q, 0, queue.Item{Entry: c, Seq: 2}, queue.Item{Entry: b, Sent: 1, Seq: 1}, queue.Item{Entry: a, Sent: 1, Seq: 0})
	holdTake(t, q, 1000, 9, c, b, a)
	holdPush(t, q, d, true)
	holdTake(t, q, wantSize(d), 9, d)
	// Both c and d were sent once: d is the newer one.
	hold(t, q, 0, queue.Item{Entry: d, Sent: 1, Seq: 3}, queue.Item{Entry: c, Sent: 1, Seq: 2}, queue.Item{Entry: b, Sent: 2, Seq: 1}, queue.Item{Entry: a, Sent: 2, Seq: 0})
	holdTake(t, q, 1000, 9, d, c, b, a)
	hold(t, q, 0, queue.Item{Entry: d, Sent: 2, Seq: 3}, queue.Item{Entry: c, Sent: 2, Seq: 2}, queue.Item{Entry: b, Sent: 3, Seq: 1}, queue.Item{Entry: a, Sent: 3, Seq: 0})
}

// P14.3: what room is left for stays as it was; so by and by all are taken, and then again.
func TestTakeGoesRound(t *testing.T) {
	a, b, c := named("a"), named("b"), named("c")
	q := filled(t, a, b, c)
	holdTake(t, q, 34, 9, c, b)
	hold(t, q, 0, queue.Item{Entry: a, Seq: 0}, queue.Item{Entry: c, Sent: 1, Seq: 2}, queue.Item{Entry: b, Sent: 1, Seq: 1})
	holdTake(t, q, 34, 9, a, c)
	hold(t, q, 0, queue.Item{Entry: b, Sent: 1, Seq: 1}, queue.Item{Entry: a, Sent: 1, Seq: 0}, queue.Item{Entry: c, Sent: 2, Seq: 2})
	holdTake(t, q, 34, 9, b, a)
	hold(t, q, 0, queue.Item{Entry: c, Sent: 2, Seq: 2}, queue.Item{Entry: b, Sent: 2, Seq: 1}, queue.Item{Entry: a, Sent: 2, Seq: 0})
}

// P14.3: an entry is taken into just as much room as it has bytes, and into more, but into no less.
func TestTakeRoom(t *testing.T) {
	for _, e := range []api.Entry{
		at("k", 0, 0, "", 0), named("k"), sized(t, "k", 99), sized(t, "k", 1024), at("k", 1000, 65535, xs(10), most),
		at(xs(1024), most, 65535, xs(8192), most), at("\x00", 5, 1, "\xff\xff", 9),
	} {
		size := wantSize(e)
		for _, room := range []int{math.MinInt, math.MinInt + 1, -1 << 32, -size, -1, 0, 1, size / 2, size - 1} {
			q := filled(t, e)
			holdTake(t, q, room, 9)
			hold(t, q, 0, queue.Item{Entry: e})
		}
		for _, room := range []int{size, size + 1, 2*size - 1, 2 * size, 1 << 20, 1 << 32, math.MaxInt - 1, math.MaxInt} {
			q := filled(t, e)
			holdTake(t, q, room, 9, e)
			hold(t, q, 0, queue.Item{Entry: e, Sent: 1})
		}
	}
}

// P14.3: a smaller one is taken behind one that does not fit, into what those ahead of it left.
func TestTakeGoesOn(t *testing.T) {
	small, middle, large := sized(t, "s", 20), sized(t, "m", 100), sized(t, "l", 500)
	for _, try := range []struct {
		pushed []api.Entry
		room   int
		want   []api.Entry
	}{
		{[]api.Entry{small, middle, large}, 499, []api.Entry{middle, small}},
		{[]api.Entry{small, middle, large}, 500, []api.Entry{large}},
		{[]api.Entry{small, middle, large}, 519, []api.Entry{large}},
		{[]api.Entry{small, middle, large}, 520, []api.Entry{large, small}},
		{[]api.Entry{small, middle, large}, 599, []api.Entry{large, small}},
		{[]api.Entry{small, middle, large}, 600, []api.Entry{large, middle}},
		{[]api.Entry{small, middle, large}, 619, []api.Entry{large, middle}},
		{[]api.Entry{small, middle, large}, 620, []api.Entry{large, middle, small}},
		{[]api.Entry{small, middle, large}, 119, []api.Entry{middle}},
		{[]api.Entry{small, middle, large}, 99, []api.Entry{small}},
		{[]api.Entry{small, middle, large}, 19, nil},
		{[]api.Entry{large, small, middle}, 599, []api.Entry{middle, small}},
		{[]api.Entry{large, middle, small}, 119, []api.Entry{small}},
		{[]api.Entry{large, middle, small}, 120, []api.Entry{small, middle}},
		{[]api.Entry{middle, large, small}, 520, []api.Entry{small, large}},
		{[]api.Entry{middle, large, small}, 519, []api.Entry{small, middle}},
		{[]api.Entry{middle, large, small}, 500, []api.Entry{small, middle}},
	} {
		q := filled(t, try.pushed...)
		holdTake(t, q, try.room, 9, try.want...)
		for _, item := range q.List() {
			if sent := item.Sent == 1; sent != slices.Contains(try.want, item.Entry) {
				t.Errorf("behind Take(%d, 9): %s", try.room, showItems(q.List()))
			}
		}
	}
}

// P14.3: those that were sent limit times are gone, and not lost; the others stay.
func TestTakeLimit(t *testing.T) {
	k := named("k")
	for _, limit := range []int{math.MinInt, -1 << 32, -2, -1, 0, 1} {
		q := filled(t, k)
		holdTake(t, q, 17, limit, k)
		hold(t, q, 0)
		holdTake(t, q, 17, limit)
		holdPush(t, q, k, true)
		hold(t, q, 0, queue.Item{Entry: k, Seq: 1})
	}
	for limit := 2; limit < 30; limit++ {
		q := filled(t, k)
		for sent := 1; sent < limit; sent++ {
			holdTake(t, q, 17, limit, k)
			hold(t, q, 0, queue.Item{Entry: k, Sent: sent})
		}
		holdTake(t, q, 17, limit, k)
		hold(t, q, 0)
	}
	for _, limit := range []int{1 << 20, 1 << 40, math.MaxInt} {
		q := filled(t, k)
		holdTake(t, q, 17, limit, k)
		hold(t, q, 0, queue.Item{Entry: k, Sent: 1})
	}
}

// P14.3: limits of one more than Sent, of two more, of Sent itself, and of less.
func TestTakeLimitBySent(t *testing.T) {
	k := named("k")
	for sent := range 8 {
		for limit := -1; limit < 11; limit++ {
			q := filled(t, k)
			for range sent {
				holdTake(t, q, 17, 99, k)
			}
			hold(t, q, 0, queue.Item{Entry: k, Sent: sent})
			holdTake(t, q, 17, limit, k)
			if limit > sent+1 {
				hold(t, q, 0, queue.Item{Entry: k, Sent: sent + 1})
			} else {
				hold(t, q, 0)
			}
		}
	}
}

// P14.3: some are gone by their limit, some not, and what stays keeps its order.
func TestTakeLimitOfSome(t *testing.T) {
	a, b, c, d := named("a"), named("b"), named("c"), named("d")
	start := func() *queue.Queue {
		q := filled(t, a, b)
		q.Take(34, 9)
		q.Push(c)
		q.Take(51, 9)
		q.Push(d)
		return q
	}
	hold(t, start(), 0, queue.Item{Entry: d, Seq: 3}, queue.Item{Entry: c, Sent: 1, Seq: 2}, queue.Item{Entry: b, Sent: 2, Seq: 1}, queue.Item{Entry: a, Sent: 2, Seq: 0})
	for _, try := range []struct {
		room, limit int
		want        []api.Entry
		left        []queue.Item
	}{
		{100, 4, []api.Entry{d, c, b, a}, []queue.Item{{Entry: d, Sent: 1, Seq: 3}, {Entry: c, Sent: 2, Seq: 2}, {Entry: b, Sent: 3, Seq: 1}, {Entry: a, Sent: 3, Seq: 0}}},
		{100, 3, []api.Entry{d, c, b, a}, []queue.Item{{Entry: d, Sent: 1, Seq: 3}, {Entry: c, Sent: 2, Seq: 2}}},
		{51, 3, []api.Entry{d, c, b}, []queue.Item{{Entry: d, Sent: 1, Seq: 3}, {Entry: c, Sent: 2, Seq: 2}, {Entry: a, Sent: 2, Seq: 0}}},
		{34, 3, []api.Entry{d, c}, []queue.Item{{Entry: d, Sent: 1, Seq: 3}, {Entry: c, Sent: 2, Seq: 2}, {Entry: b, Sent: 2, Seq: 1}, {Entry: a, Sent: 2, Seq: 0}}},
		{100, 2, []api.Entry{d, c, b, a}, []queue.Item{{Entry: d, Sent: 1, Seq: 3}}},
		{100, 1, []api.Entry{d, c, b, a}, nil},
		{100, 0, []api.Entry{d, c, b, a}, nil},
	} {
		q := start()
		holdTake(t, q, try.room, try.limit, try.want...)
		hold(t, q, 0, try.left...)
	}
}

// P14.3: one that was sent at least limit times is gone, too, if it is not taken this time; and not lost.
func TestTakeLimitOfThoseNotTaken(t *testing.T) {
	a, b, c := sized(t, "a", 100), sized(t, "b", 100), named("c")
	for limit := -1; limit < 5; limit++ {
		for _, room := range []int{-1, 0, 16, 17} {
			q := filled(t, a)
			q.Take(100, 9)
			q.Push(b)
			q.Take(200, 9)
			q.Push(c)
			want := []queue.Item{{Entry: c, Seq: 2}, {Entry: b, Sent: 1, Seq: 1}, {Entry: a, Sent: 2, Seq: 0}}
			hold(t, q, 0, want...)
			if room == 17 {
				holdTake(t, q, room, limit, c)
				want = []queue.Item{{Entry: c, Sent: 1, Seq: 2}, {Entry: b, Sent: 1, Seq: 1}, {Entry: a, Sent: 2, Seq: 0}}
			} else {
				holdTake(t, q, room, limit)
			}
			hold(t, q, 0, slices.DeleteFunc(want, func(item queue.Item) bool { return item.Sent >= limit })...)
		}
	}
}

// P14.3: of none, and of nil, nothing is taken, into whatever room.
func TestTakeOfNone(t *testing.T) {
	var none *queue.Queue
	for _, room := range []int{math.MinInt, -1, 0, 1, 17, 1000, math.MaxInt} {
		for _, limit := range []int{math.MinInt, -1, 0, 1, 9, math.MaxInt} {
			holdTake(t, none, room, limit)
			q := queue.New()
			holdTake(t, q, room, limit)
			hold(t, q, 0)
		}
	}
}

// P14.3: as many as may be, of the greatest size.
func TestTakeOfMany(t *testing.T) {
	var l []api.Entry
	for i := range 32 {
		l = append(l, at(fmt.Sprintf("%02d", i)+xs(1022), most, 65535, xs(8192), most))
	}
	q, size := filled(t, l...), wantSize(l[0])
	slices.Reverse(l)
	holdTake(t, q, 32*size-1, 9, l[:31]...)
	holdTake(t, q, size, 9, l[31])
	holdTake(t, q, 32*size, 2, l...)
	hold(t, q, 0)
}

// P14.5: each of some entries, of 20 bytes each, is taken just limit times, be there room for one of them or for all.
func TestTakenLimitTimes(t *testing.T) {
	for _, limit := range []int{1, 2, 3, 6, 9, 21} {
		for _, n := range []int{1, 2, 3, 31, 32} {
			for _, room := range []int{20, 39, 40, 100, max(20, 20*n-1), 20 * n, math.MaxInt} {
				q, times := filled(t, numbered(n)...), map[api.Entry]int{}
				for range n*limit + 5 {
					for _, e := range q.Take(room, limit) {
						times[e]++
					}
				}
				for _, e := range numbered(n) {
					if times[e] != limit {
						t.Errorf("of %d, Take(%d, %d): %s was taken %d times", n, room, limit, e.Key, times[e])
					}
				}
				if q.Len() != 0 || q.Lost() != 0 {
					t.Errorf("of %d, Take(%d, %d): %d are left, %d lost", n, room, limit, q.Len(), q.Lost())
				}
			}
		}
	}
}

// P14.5: an entry that never fits is never taken, and stays; it is no hindrance for the others.
func TestTakenWhereThereIsRoom(t *testing.T) {
	large, times := sized(t, "large", 1025), 0
	q := filled(t, named("a"), large, named("b"))
	for range 20 {
		times += len(q.Take(1024, 9))
	}
	if times != 18 {
		t.Errorf("%d times", times)
	}
	hold(t, q, 0, queue.Item{Entry: large, Seq: 1})
}

// P14.5: while others come, take places, and are lost, each entry that is neither lost nor replaced is taken just limit times, and none more often.
func TestTakenWhileOthersCome(t *testing.T) {
	source, lostInAll, replacedInAll := rand.New(rand.NewSource(5)), 0, 0
	for row := range 60 {
		q, limit, keys := queue.New(), 1+source.Intn(9), 10+row*2
		var pushed []api.Entry
		times, gone := map[api.Entry]int{}, map[api.Entry]bool{}
		take := func(room int) {
			for _, e := range q.Take(room, limit) {
				if times[e]++; gone[e] || times[e] > limit {
					t.Fatalf("limit %d: %s was taken %d times, gone: %v", limit, show(e), times[e], gone[e])
				}
			}
		}
		for i := range 300 {
			// Each one is above all of its key ahead of it.
			e := at(fmt.Sprint(source.Intn(keys)), i, 1, xs(source.Intn(60)), i)
			was, lost := q.List(), q.Lost()
			holdPush(t, q, e, true)
			pushed = append(pushed, e)
			now := q.List()
			for _, item := range was {
				if !slices.Contains(now, item) {
					gone[item.Entry] = true
					if item.Entry.Key == e.Key {
						replacedInAll++
					}
				}
			}
			lostInAll += q.Lost() - lost
			for range source.Intn(3) {
				take(source.Intn(1000))
			}
		}
		for q.Len() > 0 {
			take(1000)
		}
		for _, e := range pushed {
			if !gone[e] && times[e] != limit {
				t.Errorf("limit %d: %s was taken %d times", limit, show(e), times[e])
			}
		}
	}
	if lostInAll < 100 || replacedInAll < 100 {
		t.Errorf("%d were lost, %d replaced: the rows say too little", lostInAll, replacedInAll)
	}
}
