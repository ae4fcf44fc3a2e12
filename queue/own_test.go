package queue_test

import (
	"math"
	"slices"
	"testing"

	"watchfire/api"
	"watchfire/queue"
)

// spoil changes what a list has, and what stands in the room behind it.
func spoil[T any](l []T, spoilt T) {
	room := l[:cap(l)]
	for i := range room {
		room[i] = spoilt
	}
}

// spoiltItem and spoiltEntry are in no queue.
var (
	spoiltEntry = at("spoilt", most, 65535, "x", most)
	spoiltItem  = queue.Item{Entry: spoiltEntry, Sent: -1, Seq: -1}
)

// P14.3, P14.4, Rule 3: what List and Take tell is the asker's own.
func TestAnswersAreNew(t *testing.T) {
	for _, n := range []int{1, 2, 5, 31, 32, 33, 40} {
		q := filled(t, numbered(n)...)
		f := q.Fork()
		lost, want := q.Lost(), q.List()
		first, second := q.List(), q.List()
		spoil(first, spoiltItem)
		if !slices.Equal(second, want) {
			t.Errorf("another answer of List changed: %s", showItems(second))
		}
		hold(t, q, lost, want...)
		hold(t, f, lost, want...)

		taken, takenByFork := q.Take(math.MaxInt, 9), f.Take(math.MaxInt, 9)
		want = q.List()
		spoil(taken, spoiltEntry)
		for i, item := range want {
			if item.Sent != 1 || takenByFork[i] != item.Entry {
				t.Errorf("another answer of Take changed: %s", show(takenByFork...))
			}
		}
		hold(t, q, lost, want...)
		hold(t, f, lost, want...)
	}
}

// P14.4, Rule 3: what was told ahead stays as it was, whatever becomes of the queue.
func TestAnswersStay(t *testing.T) {
	q := filled(t, numbered(20)...)
	list, taken := q.List(), q.Take(100, 9)
	wasList, wasTaken := slices.Clone(list), slices.Clone(taken)
	for i := range 40 {
		q.Push(again(numbered(40)[i].Key))
		q.Take(50*i, i%7)
		q.Push(named(string(rune('a' + i))))
		if !slices.Equal(list, wasList) || !slices.Equal(taken, wasTaken) {
			t.Fatalf("behind %d steps: %s, %s", i+1, showItems(list), show(taken...))
		}
	}
}

// P14.4: New has no items, and two of them have none in common.
func TestNew(t *testing.T) {
	one, two := queue.New(), queue.New()
	if one == nil || one == two {
		t.Fatal("no queue of its own")
	}
	hold(t, one, 0)
	holdPush(t, one, named("k"), true)
	hold(t, one, 0, queue.Item{Entry: named("k")})
	hold(t, two, 0)
	// How many pushes one of them took is nothing to the other one.
	holdPush(t, two, named("l"), true)
	hold(t, two, 0, queue.Item{Entry: named("l")})
	hold(t, queue.New(), 0)
}

// P14.4: of nil nothing and 0.
func TestNil(t *testing.T) {
	var q *queue.Queue
	for range 2 {
		if l, n, lost, f := q.List(), q.Len(), q.Lost(), q.Fork(); len(l) != 0 || n != 0 || lost != 0 || f != nil {
			t.Errorf("%s, %d, %d, %v", showItems(l), n, lost, f)
		}
		holdPush(t, q, named("k"), false)
		holdTake(t, q, 1000, 9)
	}
}

// P14.4: Len and Lost, as items come, take places, are lost, and go by their limit.
func TestLenAndLost(t *testing.T) {
	q := queue.New()
	holdCounts := func(length, lost int) {
		t.Helper()
		if q.Len() != length || q.Lost() != lost || len(q.List()) != length {
			t.Errorf("%d, %d lost, not %d, %d", q.Len(), q.Lost(), length, lost)
		}
	}
	holdCounts(0, 0)
	for i, e := range numbered(50) {
		q.Push(e)
		holdCounts(min(i+1, 32), max(0, i-31))
	}
	q.Push(numbered(50)[49])
	holdCounts(32, 18)
	q.Push(again("n049"))
	holdCounts(32, 18)
	q.Push(api.Entry{})
	holdCounts(32, 18)
	q.Take(0, 1)
	holdCounts(32, 18)
	q.Take(60, 1)
	holdCounts(29, 18)
	q.Take(1<<20, 2)
	holdCounts(29, 18)
	q.Take(1<<20, 2)
	holdCounts(0, 18)
	q.Push(named("k"))
	holdCounts(1, 18)
}

// P14.4: looks change nothing.
func TestLooks(t *testing.T) {
	q := filled(t, numbered(40)...)
	q.Take(300, 9)
	want := q.List()
	for range 5 {
		hold(t, q, 8, want...)
		q.Fork()
	}
}

// P14.4: a fork is as the queue, and neither changes the other behind it.
func TestFork(t *testing.T) {
	a, b, c, d := named("a"), named("b"), named("c"), named("d")
	start := func() *queue.Queue {
		q := filled(t, a, b)
		q.Take(17, 9)
		q.Push(c)
		return q
	}
	was := []queue.Item{{Entry: c, Seq: 2}, {Entry: a, Seq: 0}, {Entry: b, Sent: 1, Seq: 1}}
	for _, change := range []struct {
		says string
		do   func(q *queue.Queue)
		want []queue.Item
	}{
		{"a new one", func(q *queue.Queue) { q.Push(d) }, slices.Insert(slices.Clone(was), 0, queue.Item{Entry: d, Seq: 3})},
		{"one in another's place", func(q *queue.Queue) { q.Push(again("b")) }, []queue.Item{{Entry: again("b"), Seq: 3}, was[0], was[1]}},
		{"one taken", func(q *queue.Queue) { q.Take(17, 9) }, []queue.Item{was[1], {Entry: c, Sent: 1, Seq: 2}, was[2]}},
		{"all taken", func(q *queue.Queue) { q.Take(100, 9) }, []queue.Item{{Entry: c, Sent: 1, Seq: 2}, {Entry: a, Sent: 1, Seq: 0}, {Entry: b, Sent: 2, Seq: 1}}},
		{"one gone", func(q *queue.Queue) { q.Take(100, 2) }, []queue.Item{{Entry: c, Sent: 1, Seq: 2}, {Entry: a, Sent: 1, Seq: 0}}},
		{"all gone", func(q *queue.Queue) { q.Take(100, 1) }, nil},
		{"what it told is changed", func(q *queue.Queue) { spoil(q.List(), spoiltItem) }, was},
		{"looks", func(q *queue.Queue) { q.Len(); q.Lost(); q.Fork() }, was},
		{"a refused push", func(q *queue.Queue) { q.Push(a); q.Push(api.Entry{}) }, was},
	} {
		t.Run(change.says, func(t *testing.T) {
			q := start()
			f := q.Fork()
			if f == nil || f == q {
				t.Fatal("no queue of its own")
			}
			hold(t, f, 0, was...)
			change.do(q)
			hold(t, q, 0, change.want...)
			hold(t, f, 0, was...)

			q = start()
			f = q.Fork()
			change.do(f)
			hold(t, f, 0, change.want...)
			hold(t, q, 0, was...)

			// Both go the same way on, if they are told the same.
			change.do(q)
			hold(t, q, 0, change.want...)
			holdPush(t, q, named("on"), true)
			holdPush(t, f, named("on"), true)
			hold(t, f, 0, q.List()...)
		})
	}
}

// P14.4: forks of an empty queue, of a full one, and of a fork; what is lost is counted in each for itself.
func TestForkOfForks(t *testing.T) {
	empty := queue.New()
	f := empty.Fork()
	if f == nil || f == empty {
		t.Fatal("no queue of its own")
	}
	hold(t, f, 0)
	holdPush(t, f, named("k"), true)
	hold(t, empty, 0)
	hold(t, f, 0, queue.Item{Entry: named("k")})

	l := numbered(40)
	full := filled(t, l[:33]...)
	f = full.Fork()
	hold(t, f, 1, newest(1, l[1:33]...)...)
	for _, e := range l[33:] {
		holdPush(t, f, e, true)
	}
	hold(t, f, 8, newest(8, l[8:]...)...)
	hold(t, full, 1, newest(1, l[1:33]...)...)
	holdPush(t, full, l[39], true)
	hold(t, full, 2, newest(2, slices.Concat(l[2:33], l[39:])...)...)
	hold(t, f, 8, newest(8, l[8:]...)...)

	one := filled(t, named("a"), named("b"))
	two := one.Fork()
	three := two.Fork()
	two.Take(17, 9)
	three.Take(100, 1)
	hold(t, one, 0, newest(0, named("a"), named("b"))...)
	hold(t, two, 0, queue.Item{Entry: named("a")}, queue.Item{Entry: named("b"), Sent: 1, Seq: 1})
	hold(t, three, 0)
	holdPush(t, three, named("c"), true)
	hold(t, three, 0, queue.Item{Entry: named("c"), Seq: 2})
}
